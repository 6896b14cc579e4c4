/- A body: the writing of runs. A body: the walk. -/
import Derived.Test.YtfbeipfpkikakaaDoorCd
namespace Go.Proofs.YtfbeipfpkikakaaDoor
section
open Go.RowKit

set_option maxRecDepth 100000
def putP (st : Nat × Nat) (x n : Nat) : Nat × Nat := (st.1 * 2 ^ n + x, st.2 + n)
def runPut (st : Nat × Nat) (r : Nat × Nat) : Nat × Nat := putP (putP st r.1 4) (r.2 - 1) 4
def symPut (C F : Nat → Nat) (st : Nat × Nat) (s : Suf) : Nat × Nat := putP (putP st (C s.1) (F s.1)) s.2.2 s.2.1
def fillP (st : Nat × Nat) : Nat × Nat := (st.1 * 2 ^ ((8 - st.2 % 8) % 8), st.2 + (8 - st.2 % 8) % 8)
def headP (F : Nat → Nat) : Nat × Nat := (runsK F 302).foldl runPut (0, 0)
def bodyP (F : Nat → Nat) (S : List Suf) : Nat × Nat := fillP (S.foldl (symPut (allC F) F) (headP F))
def bodyB (F : Nat → Nat) (S : List Suf) : List UInt8 := outB (bodyP F S).1 (bodyP F S).2 ((bodyP F S).2 / 8)
theorem runPut_len (rs : List (Nat × Nat)) : ∀ st, (rs.foldl runPut st).2 = st.2 + 8 * rs.length := by
  induction rs with
  | nil => intro st; rfl
  | cons r rs ih => intro st; rw [List.foldl_cons, ih, List.length_cons]; show st.2 + 4 + 4 + _ = _; omega
theorem symPut_len (C F : Nat → Nat) (hF : ∀ j, F j < 16) (S : List Suf) (hS : ∀ s ∈ S, SufOk s) : ∀ st, (S.foldl (symPut C F) st).2 ≤ st.2 + 30 * S.length := by
  induction S with
  | nil => intro st; exact Nat.le_refl _
  | cons s S ih =>
    intro st
    rw [List.foldl_cons]
    have h := ih (fun x hx => hS x (List.mem_cons_of_mem _ hx)) (symPut C F st s)
    have e : (symPut C F st s).2 = st.2 + F s.1 + s.2.1 := rfl
    have h1 := hF s.1
    have h2 := (hS s List.mem_cons_self).2.2
    rw [List.length_cons]
    omega
theorem runStep_ok (rs : List (Nat × Nat)) (l : Nat) (hl : l < 16) (h2 : ∀ r ∈ rs, r.1 < 16 ∧ 1 ≤ r.2) : ∀ r ∈ runStep rs l, r.1 < 16 ∧ 1 ≤ r.2 := by
  unfold runStep
  split
  · intro r h; simp at h; subst h; exact ⟨hl, Nat.le_refl _⟩
  · rename_i r hr
    have hm := h2 r (List.mem_of_getLast? hr)
    split
    · intro x h
      rcases List.mem_append.1 h with h | h
      · exact h2 x h
      · simp at h; subst h; exact ⟨hl, Nat.le_refl _⟩
    · intro x h
      rcases List.mem_append.1 h with h | h
      · exact h2 x (List.dropLast_subset _ h)
      · simp at h; subst h; exact ⟨hm.1, by show 1 ≤ r.2 + 1; omega⟩
theorem runsK_ok (F : Nat → Nat) (hF : ∀ j, F j < 16) : ∀ k, ∀ r ∈ runsK F k, r.1 < 16 ∧ 1 ≤ r.2
  | 0 => fun r h => by cases h
  | k + 1 => runStep_ok _ _ (hF k) (runsK_ok F hF k)
theorem OwnN.mono {w : World} {B C : Nat} {v : Value} {l : List (Nat × Nat)} (h : OwnN w C v l) (hB : B ≤ C) : OwnN w B v l := by
  refine ⟨⟨h.1.1, ?_⟩, Nat.le_trans hB h.2⟩
  rcases h.1.2 with a | ⟨g, cap, cur, hv, hb, rest⟩
  · exact Or.inl a
  · exact Or.inr ⟨g, cap, cur, hv, Nat.le_trans hB hb, rest⟩
theorem OwnN.wkeep {w w' : World} {p B B' : Nat} {v : Value} {l : List (Nat × Nat)} (h : OwnN w B v l) (k : WKeep p B' w w') (hp : ∃ vs, BlkAt w p 100 vs) : OwnN w' B v l := by
  refine ⟨⟨h.1.1, ?_⟩, Nat.le_trans h.2 k.below.size⟩
  rcases h.1.2 with hn | ⟨g, cap, cur, hv, hb, hgg, rest⟩
  · exact .inl hn
  · refine .inr ⟨g, cap, cur, hv, hb, k.keep g 102 cur (by decide) ?_ hgg, rest⟩
    intro e
    subst e
    obtain ⟨vs, hb⟩ := hp
    unfold BlkAt at hb
    rw [hb] at hgg
    injection hgg with hgg
    injection hgg with _ y
    exact absurd y (by decide)
theorem runV_get {rs : List (Nat × Nat)} {k : Nat} (h : k < rs.length) : (runV rs)[k * 2]? = some (.int .i64 (rs[k].1 : Int)) ∧ (runV rs)[k * 2 + 1]? = some (.int .i64 (rs[k].2 : Int)) := by
  induction rs generalizing k with
  | nil => exact absurd h (Nat.not_lt_zero _)
  | cons r rs ih =>
    cases k with
    | zero => exact ⟨rfl, rfl⟩
    | succ k =>
      have := ih (show k < rs.length by simpa using h)
      rw [show (k + 1) * 2 = k * 2 + 1 + 1 by omega]
      exact this
theorem OwnN.run {w : World} {B g n c k : Nat} {rs : List (Nat × Nat)} (h : OwnN w B (.slice (some ⟨g, 0, none⟩) n c) rs) (hk : k < rs.length) : w.rangeAt g (k * 2) [.int .i64 (rs[k].1 : Int), .int .i64 (rs[k].2 : Int)] := by
  obtain ⟨g0, g1⟩ := runV_get hk
  intro i v hv
  have hc := h.1.cells (g := g) rfl
  match i, hv with
  | 0, hv =>
    cases hv
    have := hc (k * 2) _ g0
    rw [add_plain, Nat.zero_add] at this
    exact this
  | 1, hv =>
    cases hv
    have := hc (k * 2 + 1) _ g1
    rw [add_plain, Nat.zero_add] at this
    exact this
theorem zero102 : (Tryd.prog.info? 102).bind (·.zero) = some (.agg [.int .i64 0, .int .i64 0].toArray) := by kernel_rfl
theorem size102 : (Tryd.prog.info? 102).map (·.size) = some 2 := by kernel_rfl
set_option maxHeartbeats 400000 in
theorem bytesOf_ok (n : Nat) (hn : n ≤ 1000000000) (w : World) : Calls Tryd.prog 41 #[.int .i64 (n : Int)] w (Same w (.int .i64 (((n + 7) / 8 : Nat) : Int))) := by
  obtain ⟨q, hq⟩ : ∃ q, q = (n + 7) / 8 := ⟨_, rfl⟩
  have e1 : ((n : Int) + 7) / 8 = (q : Int) := by omega
  rw [← hq]
  have E1 := Lib.hid e1
  clear hq e1
  go_enter Tryd.func41, Tryd.ntmps41
  go_wp2_with fail
  go_ret
  exact ⟨by rw [← E1.out]; rfl, rfl⟩
/-- While the runs are written. -/
structure ByAt (w : World) (B p wc lc lp : Nat) (st : Nat × Nat) (v : Value) (rs : List (Nat × Nat)) (wr : World) : Prop where
  hwr : WrAt wr p B st.1 st.2
  hwc : BlkAt wr wc 98 [.pointer (some ⟨p, 0, none⟩)]
  hlc : BlkAt wr lc 97 [.pointer (some ⟨lp, 0, none⟩)]
  row : OwnN wr B v rs
  below : Below B w wr
  bp : B ≤ p
  nw : wc ≠ p
  nl : lc ≠ p
theorem ByAt.put {w wr w' : World} {B p wc lc lp : Nat} {st st' : Nat × Nat} {v : Value} {rs : List (Nat × Nat)} (h : ByAt w B p wc lc lp st v rs wr) (hw : WrAt w' p B st'.1 st'.2) (k : WKeep p B wr w') : ByAt w B p wc lc lp st' v rs w' := by
  obtain ⟨v0, held, hb, _⟩ := h.hwr
  exact ⟨hw, h.hwc.wkeep k (by decide) h.nw, h.hlc.wkeep k (by decide) h.nl, h.row.wkeep k ⟨_, hb⟩, h.below.trans k.below, h.bp, h.nw, h.nl⟩
theorem ByAt.step {w wr w' : World} {B p wc lc lp : Nat} {st : Nat × Nat} {v : Value} {rs : List (Nat × Nat)} (h : ByAt w B p wc lc lp st v rs wr) (k : Below wr.heap.size wr w') (hB : B ≤ wr.heap.size) : ByAt w B p wc lc lp st v rs w' :=
  ⟨h.hwr.keep k, h.hwc.below k, h.hlc.below k, h.row.below k, h.below.trans (k.mono hB), h.bp, h.nw, h.nl⟩
def ByRel (w : World) (B p wc lc lp : Nat) (rs : List (Nat × Nat)) (v : Value) (i : Value) (wr : World) : Prop := ∃ k : Nat, k ≤ rs.length ∧ i = .int .i64 (k : Int) ∧ ByAt w B p wc lc lp ((rs.take k).foldl runPut (0, 0)) v rs wr
theorem runPut_snoc {rs : List (Nat × Nat)} {k : Nat} (hk : k < rs.length) (st : Nat × Nat) : (rs.take (k + 1)).foldl runPut st = runPut ((rs.take k).foldl runPut st) rs[k] := by
  rw [List.take_succ_eq_append_getElem hk, List.foldl_append]; rfl
end

section
open Go.RowKit

set_option maxRecDepth 100000
/-- What a layout is, for the writing of a body. -/
structure LyAt (w : World) (lp : Nat) (F : Nat → Nat) (n : Nat) (rv : Value) : Prop where
  lt : lp < w.heap.size
  reps : w.cell? ⟨lp, 0, none⟩ = some rv
  len : ∀ j, j < 302 → w.cell? ⟨lp, 1 + j, none⟩ = some (.int .i64 (F j : Int))
  bits : w.cell? ⟨lp, 303, none⟩ = some (.int .i64 (n : Int))
theorem LyAt.below {w w' : World} {lp n : Nat} {F : Nat → Nat} {rv : Value} (h : LyAt w lp F n rv) (k : Below w.heap.size w w') : LyAt w' lp F n rv :=
  ⟨Nat.lt_of_lt_of_le h.lt k.size, ((bcell k).1 lp 0 h.lt).trans h.reps, fun j hj => ((bcell k).1 lp (1 + j) h.lt).trans (h.len j hj), ((bcell k).1 lp 303 h.lt).trans h.bits⟩
theorem SlR.below {w w' : World} {v : Value} {reps : List Rep} (h : SlR w v reps) (k : Below w.heap.size w w') : SlR w' v reps := by
  obtain ⟨a, c, hv, hh⟩ := h
  refine ⟨a, c, hv, ?_⟩
  rcases hh with h | ⟨b, off, ha, hb, hc⟩
  · exact .inl h
  · exact .inr ⟨b, off, ha, Nat.lt_of_lt_of_le hb k.size, fun j r hr => by
      obtain ⟨c0, c1, c2⟩ := hc j r hr
      exact ⟨((bcell k).1 b _ hb).trans c0, ((bcell k).1 b _ hb).trans c1, ((bcell k).1 b _ hb).trans c2⟩⟩
/-- Between two symbols of a body. -/
structure BdI (w : World) (p B kc lp : Nat) (F : Nat → Nat) (L : List Suf) (W : World) : Prop where
  bd : BdAt W p B (p + 1) kc B lp (allC F) F
  wr : WrAt W p B (L.foldl (symPut (allC F) F) (headP F)).1 (L.foldl (symPut (allC F) F) (headP F)).2
  below : Below w.heap.size w W
  ok : ∀ s ∈ L, SufOk s
theorem WrAt.sets {w : World} {p B val N c : Nat} {t : TypeId} {vs : List Value} (h : WrAt w p B val N) (hc : BlkAt w c t vs) (ht : t ≠ 5) (hp : c ≠ p) (j : Nat) (x : Value) : WrAt (w.setCell ⟨c, j, none⟩ x) p B val N := by
  obtain ⟨v, held, hb, ho, hh, h64⟩ := h
  exact ⟨v, held, hb.other hp _ _, ho.sets hc ht _ _, hh, h64⟩
theorem BdAt.other {w : World} {p B wc kc lc lp c : Nat} {C F : Nat → Nat} (h : BdAt w p B wc kc lc lp C F) (h1 : c ≠ wc) (h2 : c ≠ lc) (h3 : c ≠ kc) (h4 : lp < c) (j : Nat) (x : Value) : BdAt (w.setCell ⟨c, j, none⟩ x) p B wc kc lc lp C F :=
  ⟨h.hwc.other h1 _ _, h.hlc.other h2 _ _, h.hkc.other h3 _ _, h.hlp, fun i hi => by rw [World.cell?_setCell_other _ _ _ _ (fun e => by have := congrArg Addr.block e; simp at this; omega)]; exact h.len i hi, h.bp, h.nw, h.nl, h.nk⟩
theorem bdI_each {w : World} {p B kc lp X : Nat} {F : Nat → Nat} {bv : Value} {l : List UInt8} (hB : B = w.heap.size) (hb : SlB w bv l) (hl : l.length ≤ 16777215) (x1 : p + 1 < X) (x2 : kc < X) (x3 : B < X) (x4 : lp < X) : EachI X bv l (BdI w p B kc lp F) :=
  ⟨fun L W W' h k => ⟨h.bd.keep (WKeep.of k (by have := h.bd.hwc.cells.lt; have := h.bd.bp; omega)), h.wr.keep k, h.below.trans (k.mono h.below.size), h.ok⟩,
   fun L W c j v t vs h hX hc ht => ⟨h.bd.other (by omega) (by omega) (by omega) (by omega) _ _, h.wr.sets hc ht (by omega) _ _, h.below.setCell (p := ⟨c, j, none⟩) (by show w.heap.size ≤ c; omega) _, h.ok⟩,
   fun L W h => hb.below h.below, hl⟩
theorem bdI_reps {w : World} {p B kc lp n : Nat} {F : Nat → Nat} {rv : Value} {reps : List Rep} (H : LyAt w lp F n rv) (hr : SlR w rv reps) (T : Tabs w) : EachR lp rv reps (BdI w p B kc lp F) :=
  ⟨fun L W h => (H.below h.below).reps, fun L W h => (H.below h.below).lt, fun L W h => hr.below h.below, fun L W h => T.below h.below⟩
theorem bdI_do {w : World} {p B kc lp X : Nat} {F : Nat → Nat} (hB : B = w.heap.size) (hF : ∀ j, F j < 16) (g1 : isCode (cnt (partL F 0 272)) = true) (x1 : p < X) (hh : (headP F).2 ≤ 2416) :
    DoOk59 X 25000000 (BdI w p B kc lp F) (.pointer (some ⟨p + 1, 0, none⟩)) (.pointer (some ⟨kc, 0, none⟩)) (.pointer (some ⟨B, 0, none⟩)) := by
  intro L W s hL h hs
  have nl := symPut_len (allC F) F hF L h.ok (headP F)
  have e : (L ++ [s]).foldl (symPut (allC F) F) (headP F) = symPut (allC F) F (L.foldl (symPut (allC F) F) (headP F)) s := by rw [List.foldl_append]; rfl
  refine (write59_ok s hs h.bd h.wr (by have := hF s.1; omega) (allC_lt F hF g1 s.1 hs.1) (by omega)).mono ?_
  rintro e' W' ⟨rfl, hw, hk⟩
  refine ⟨rfl, ⟨h.bd.keep hk, by rw [e]; exact hw, h.below.trans (by rw [← hB]; exact hk.below), fun x hx => ?_⟩, ⟨hk.below.size, fun g t cs ht hg hx => hk.keep g t cs ht (by omega) hx⟩⟩
  rcases List.mem_append.1 hx with hx | hx
  · exact h.ok x hx
  · rw [List.mem_singleton.1 hx]; exact hs
theorem zero98 : (Tryd.prog.info? 98).bind (·.zero) = some (.pointer none) := by kernel_rfl
set_option maxHeartbeats 1600000 in
theorem body_ok {w : World} {lp n : Nat} {F : Nat → Nat} {bv rv : Value} {l : List UInt8} {reps : List Rep} (H : LyAt w lp F n rv) (hn : n ≤ 1000000000) (hF : ∀ j, F j < 16) (g1 : isCode (cnt (partL F 0 272)) = true) (hb : SlB w bv l) (hl : l.length ≤ 16777215) (hr : SlR w rv reps) (T : Tabs w)
    (ho : RepsOk l 0 reps) (hrl : reps.length ≤ 16777215) (hcap : (symsR l 0 reps ++ lits l (posR 0 reps) (l.length - posR 0 reps)).length ≤ 25000000) :
    Calls Tryd.prog 42 #[.pointer (some ⟨lp, 0, none⟩), bv] w (RetOwn w.heap.size w (bodyB F (symsR l 0 reps ++ lits l (posR 0 reps) (l.length - posR 0 reps)))) := by
  have HH := Lib.hid H
  have HFh := Lib.hid hF
  have G1 := Lib.hid g1
  have HB := Lib.hid hb
  have HRR := Lib.hid hr
  have HT := Lib.hid T
  have HO := Lib.hid ho
  have HCP := Lib.hid hcap
  obtain ⟨bva, bvc, rfl, _, _⟩ := hb
  obtain ⟨bv, hbv⟩ : ∃ bv, bv = Value.slice bva l.length bvc := ⟨_, rfl⟩
  rw [← hbv] at HB ⊢
  have llt := H.lt
  clear H hF g1 hr T ho hcap hbv
  have RC := Lib.hid (fun (W : World) (k : Below w.heap.size w W) => runs_ok (w := W) (lp := lp) (o := 1) (HH.out.below k).lt (fun j _ => by have := HFh.out j; omega) (HH.out.below k).len)
  have CC := Lib.hid (fun (W : World) (k : Below w.heap.size w W) => codes58_ok (w := W) (lp := lp) (o := 1) (HH.out.below k).lt HFh.out (HH.out.below k).len G1.out)
  have hmf : ∀ (fn : Fn) (first cap : Array Value) (w : World), (Instr.makeFunc fn first cap).run Tryd.prog w = .ok (.func fn first cap) w := fun _ _ _ _ => rfl
  go_enter Tryd.func42, Tryd.ntmps42
  go_upto_region 1 with fail
  have b0 := BlkAt.new w [.pointer (some ⟨lp, 0, none⟩)] 97
  have B1 := Lib.hid (below_alloc w (.cells #[.pointer (some ⟨lp, 0, none⟩)] 97))
  have L1 := Lib.hid (HH.out.below B1.out)
  obtain ⟨B, hB⟩ : ∃ B, B = w.heap.size := ⟨_, rfl⟩
  have s1 : (w.alloc (.cells #[.pointer (some ⟨lp, 0, none⟩)] 97)).heap.size = B + 1 := by rw [hB]; simp
  have BL := Lib.hid (show BlkAt (w.alloc (.cells #[.pointer (some ⟨lp, 0, none⟩)] 97)) B 97 [.pointer (some ⟨lp, 0, none⟩)] from by rw [hB]; exact b0)
  clear b0
  generalize w.alloc (.cells #[.pointer (some ⟨lp, 0, none⟩)] 97) = x1 at *
  rw [← hB] at llt ⊢
  have QB := Lib.hid hB
  clear hB
  have c0 := BL.out.cells.cell 0 _ rfl
  have n0 := L1.out.bits
  have n1 := L1.out.lt
  have BO := Lib.hid (bytesOf_ok n hn x1)
  obtain ⟨q, hq⟩ : ∃ q, q = (n + 7) / 8 := ⟨_, rfl⟩
  rw [← hq] at BO
  have q9 : q ≤ 1000000000 := by omega
  clear hq
  go_wp2_with fail
  refine BO.out.mono ?_
  rintro e x2 ⟨rfl, rfl⟩
  clear BO
  go_wp2_with (refine wp_make rfl _ _ rfl B (by omega) .i64 .i64 _ q rfl rfl rfl (by omega) ?_)
  intro v3 x3 o3 b3 k3
  have O3 := Lib.hid o3
  have B3 := Lib.hid b3
  have BL3 := Lib.hid (BL.out.keepB k3 (by decide))
  have S3 := b3.size
  obtain ⟨va, vc, rfl, _⟩ := o3.sl
  clear o3 b3 k3 c0 n0 n1 BL
  go_upto_region 2 with fail
  have s3 : (x3.alloc (.cells #[.slice va 0 vc, .int .u64 0, .int .i64 0] 100)).heap.size = x3.heap.size + 1 := by simp
  have p0 := BlkAt.new x3 [.slice va 0 vc, .int .u64 0, .int .i64 0] 100
  have w0 := BlkAt.new (x3.alloc (.cells #[.slice va 0 vc, .int .u64 0, .int .i64 0] 100)) [.pointer (some ⟨x3.heap.size, 0, none⟩)] 98
  rw [s3] at w0
  have PB := Lib.hid (p0.alloc (.cells #[.pointer (some ⟨x3.heap.size, 0, none⟩)] 98))
  have WB := Lib.hid w0
  have LB := Lib.hid ((BL3.out.alloc (.cells #[.slice va 0 vc, .int .u64 0, .int .i64 0] 100)).alloc (.cells #[.pointer (some ⟨x3.heap.size, 0, none⟩)] 98))
  have OB := Lib.hid ((O3.out.alloc (.cells #[.slice va 0 vc, .int .u64 0, .int .i64 0] 100)).alloc (.cells #[.pointer (some ⟨x3.heap.size, 0, none⟩)] 98))
  have B5 := Lib.hid ((((B1.out.mono (by rw [QB.out]; exact Nat.le_refl _)).trans B3.out).alloc (show B ≤ x3.heap.size by omega) (.cells #[.slice va 0 vc, .int .u64 0, .int .i64 0] 100)).alloc (by rw [s3]; omega) (.cells #[.pointer (some ⟨x3.heap.size, 0, none⟩)] 98))
  clear p0 w0 s3 O3 B3 BL3
  generalize (x3.alloc (.cells #[.slice va 0 vc, .int .u64 0, .int .i64 0] 100)).alloc (.cells #[.pointer (some ⟨x3.heap.size, 0, none⟩)] 98) = x5 at *
  obtain ⟨p, hp⟩ : ∃ p, p = x3.heap.size := ⟨_, rfl⟩
  rw [← hp] at PB WB ⊢
  have bp : B + 1 ≤ p := by omega
  clear hp S3
  have c0 := LB.out.cells.cell 0 _ rfl
  have s5 := WB.out.cells.lt
  have RC5 := Lib.hid (RC.out x5 (by rw [← QB.out]; exact B5.out))
  clear RC
  go_wp2_with fail
  refine RC5.out.mono ?_
  rintro e x6 ⟨v6, rfl, o6, b6⟩
  obtain ⟨ra, rc, hv6⟩ := o6.form
  subst hv6
  have BY := Lib.hid (show ByRel w B p (p + 1) B lp (runsK F 302) (.slice ra (runsK F 302).length rc) (.int .i64 (0 : Nat)) x6 from
    ⟨0, Nat.zero_le _, rfl, ⟨⟨.slice va 0 vc, 0, PB.out.below b6, by
      have h : OwnB x6 B (.slice va 0 vc) [] := OB.out.below b6
      have e0 : outB 0 0 (0 / 8) = [] := rfl
      rw [← e0] at h
      exact h, rfl, by omega⟩, WB.out.below b6, LB.out.below b6, o6.mono (by omega), B5.out.trans (b6.mono (by omega)), by omega, by omega, by omega⟩⟩)
  have RL := Lib.hid (runsK_le F 302)
  have RO := Lib.hid (runsK_ok F HFh.out 302)
  have EH := Lib.hid (show headP F = (runsK F 302).foldl runPut (0, 0) from rfl)
  clear c0 s5 RC5 PB WB LB OB B5 o6 b6
  generalize runsK F 302 = rs at *
  have rl := RL.out.1
  have Z102 := Lib.hid zero102
  go_wp2_with fail
  go_loopw [7, 22] (fun _ i wr => ByRel w B p (p + 1) B lp rs (.slice ra rs.length rc) i wr) (fun _ i _ => (rs.length - (intOf i).toNat))
  case atStart => exact BY.out
  case round =>
    clear BY
    obtain ⟨k, hk, rfl, hA⟩ := hrel
    have A0 := Lib.hid hA
    have bs := hA.below.size
    have wl := hA.hwc.cells.lt
    clear hA
    by_cases hlt : k < rs.length
    · have hg : ∃ g, ra = some ⟨g, 0, none⟩ := by
        rcases A0.out.row.1.2 with ⟨hv, hn⟩ | ⟨g, cap, cur, hv, _⟩
        · omega
        · injection hv with h1 _ _; exact ⟨g, h1⟩
      obtain ⟨g, rfl⟩ := hg
      have RG := Lib.hid (A0.out.row.run hlt)
      obtain ⟨a16, b1⟩ := RO.out rs[k] (List.getElem_mem hlt)
      have b16 := RL.out.2 rs[k] (List.getElem_mem hlt)
      have SN := Lib.hid (runPut_snoc hlt (0, 0))
      have NL := Lib.hid (runPut_len (rs.take k) (0, 0))
      generalize hst : (rs.take k).foldl runPut (0, 0) = st at *
      have n8 : st.2 = 8 * k := by have := NL.out; rw [List.length_take, Nat.min_eq_left (by omega)] at this; omega
      clear hst NL
      obtain ⟨⟨a, b⟩, hr⟩ : ∃ r, r = rs[k] := ⟨_, rfl⟩
      rw [← hr] at RG a16 b1 b16 SN
      have a16' : a < 16 := a16
      have b1' : 1 ≤ b := b1
      have b16' : b ≤ 16 := b16
      have RG' := Lib.hid (show wr.rangeAt g (k * 2) [.int .i64 (a : Int), .int .i64 (b : Int)] from RG.out)
      clear hr a16 b1 b16 RG
      have A1 := Lib.hid (A0.out.step (newB_below wr 102 [.int .i64 0, .int .i64 0] [.int .i64 (a : Int), .int .i64 (b : Int)]) (by omega))
      have N1 := Lib.hid (newB_blk wr 102 [.int .i64 0, .int .i64 0] [.int .i64 (a : Int), .int .i64 (b : Int)] rfl)
      have TH := Lib.hid (newB_there wr 102 [.int .i64 0, .int .i64 0])
      clear A0
      go_upto_region 5 with (first
        | (guard_target =~ wpList _ _ _ (⟨some _, Op.load 102 _, _, _, _, _⟩ :: _) _ _; go_must (refine wpList_load_mid rfl 102 _ rfl g (k * 2) (by simp [Act.eval]) [.int .i64 (a : Int), .int .i64 (b : Int)] _ RG'.out Tryd.underlying102 rfl size102 ?_))
        | (guard_target =~ wpList _ _ _ (⟨some _, Op.alloc 102, _, _, _, _⟩ :: _) _ _; go_must (refine wp_alloc0 rfl 102 rfl _ Z102.out ?_; simp only [Value.cells]))
        | (guard_target =~ wpList _ _ _ (⟨none, Op.store 102 _ _, _, _, _, _⟩ :: _) _ _; go_must (refine wpList_store_mid rfl 102 _ _ rfl wr.heap.size 0 [.int .i64 (a : Int), .int .i64 (b : Int)].toArray rfl rfl TH.out size102 (by simp [Value.oneCell']) ?_)))
      generalize (wr.alloc (.cells #[.int .i64 0, .int .i64 0] 102)).setCells wr.heap.size 0 [.int .i64 (a : Int), .int .i64 (b : Int)] = x7 at *
      obtain ⟨R7, hR7⟩ : ∃ R7, R7 = wr.heap.size := ⟨_, rfl⟩
      rw [← hR7] at N1 ⊢
      have n7 : R7 ≠ p := by omega
      clear hR7 TH RG'
      have PA := Lib.hid (put_ok (x := a) (n := 4) A1.out.hwr A1.out.bp (show a < 2 ^ 4 by omega) (by omega) (by omega))
      have c0 := A1.out.hwc.cells.cell 0 _ rfl
      have l0 := A1.out.hwc.cells.lt
      have q0 := N1.out.cells.cell 0 _ rfl
      have lN := N1.out.cells.lt
      have i1 : IntKind.u32.wrap (a : Int) = (a : Int) := by rw [IntKind.wrap_u32]; omega
      have ME := Lib.hid (show rs.length - ((k : Int) + 1).toNat < rs.length - (k : Int).toNat by omega)
      go_wp2_with fail
      refine PA.out.mono ?_
      rintro e x8 ⟨rfl, w8, k8⟩
      have A2 := Lib.hid (show ByAt w B p (p + 1) B lp (putP st a 4) _ rs x8 from A1.out.put w8 k8)
      have N2 := Lib.hid (N1.out.wkeep k8 (by decide) n7)
      clear c0 l0 q0 lN i1 PA A1 N1 w8 k8
      obtain ⟨b', hb'⟩ : ∃ b', b' = b - 1 := ⟨_, rfl⟩
      have PB := Lib.hid (put_ok (x := b') (n := 4) A2.out.hwr A2.out.bp (show b' < 2 ^ 4 by omega) (by omega) (by show st.2 + 4 ≤ _; omega))
      have c0 := A2.out.hwc.cells.cell 0 _ rfl
      have l0 := A2.out.hwc.cells.lt
      have q1 := N2.out.cells.cell 1 _ rfl
      have lN := N2.out.cells.lt
      have e1 : (b : Int) - 1 = (b' : Int) := by omega
      have i1 : IntKind.u32.wrap (b' : Int) = (b' : Int) := by rw [IntKind.wrap_u32]; omega
      have QB' := Lib.hid hb'
      clear hb'
      go_wp2_with fail
      refine PB.out.mono ?_
      rintro e x9 ⟨rfl, w9, k9⟩
      have FIN := Lib.hid (show ByRel w B p (p + 1) B lp rs (.slice (some ⟨g, 0, none⟩) rs.length rc) (.int .i64 ((k : Int) + 1)) x9 from
        ⟨k + 1, by omega, by go_num, by
          rw [SN.out]
          show ByAt w B p (p + 1) B lp (putP (putP st a 4) (b - 1) 4) _ rs x9
          rw [← QB'.out]
          exact A2.out.put w9 k9⟩)
      clear c0 l0 q1 lN i1 e1 PB A2 N2 w9 k9
      go_wp2_with fail
      exact ⟨FIN.out, ME.out⟩
    · obtain rfl : k = rs.length := by omega
      have EQ := Lib.hid (show (rs.take rs.length).foldl runPut (0, 0) = headP F by rw [List.take_length, EH.out])
      rw [EQ.out] at A0
      have AH := Lib.hid A0.out
      clear A0
      have c0 := AH.out.hlc.cells.cell 0 _ rfl
      have l0 := AH.out.hlc.cells.lt
      have CW := Lib.hid (CC.out wr (by rw [← QB.out]; exact AH.out.below))
      have hh := Lib.hid (show (headP F).2 ≤ 2416 from by rw [EH.out, runPut_len]; show 0 + 8 * rs.length ≤ _; omega)
      have Z104 := Lib.hid zero104
      go_wp2_with fail
      refine CW.out.mono ?_
      rintro e x7 ⟨rfl, hb7⟩
      have A7 := Lib.hid (AH.out.step hb7 (by rw [QB.out]; exact bs))
      have s7 := hb7.size
      have A8 := Lib.hid (A7.out.step (newB_below x7 104 (natU 302 fun _ => 0) (natU 302 (allC F))) (by omega))
      have K8 := Lib.hid (newB_blk x7 104 (natU 302 fun _ => 0) (natU 302 (allC F)) (by simp [natU_len]))
      have TH := Lib.hid (show (x7.alloc (.cells (natU 302 fun _ => 0).toArray 104)).there x7.heap.size 0 (natU 302 (allC F)).toArray.size by have := newB_there x7 104 (natU 302 fun _ => 0); simpa [natU_len] using this)
      have S8 := newB_lt x7 104 (natU 302 fun _ => 0) (natU 302 (allC F))
      clear hb7 AH c0 l0 CW CC
      go_upto_region 9 with (first
        | (guard_target =~ wpList _ _ _ (⟨some _, Op.alloc 104, _, _, _, _⟩ :: _) _ _; go_must (refine wp_alloc0 rfl 104 rfl _ Z104.out ?_; simp only [Value.cells]))
        | (guard_target =~ wpList _ _ _ (⟨none, Op.store 104 _ _, _, _, _, _⟩ :: _) _ _; go_must (refine wpList_store_mid rfl 104 _ _ rfl x7.heap.size 0 (natU 302 (allC F)).toArray rfl rfl TH.out (info104a _) (natU_one _ _) ?_)))
      generalize (x7.alloc (.cells (natU 302 fun _ => 0).toArray 104)).setCells x7.heap.size 0 (natU 302 (allC F)) = x8 at *
      obtain ⟨kc, hkc⟩ : ∃ kc, kc = x7.heap.size := ⟨_, rfl⟩
      rw [← hkc] at K8 S8 s7 ⊢
      clear hkc TH A7
      have c0 := A8.out.hlc.cells.cell 0 _ rfl
      have l0 := A8.out.hlc.cells.lt
      have w0 := A8.out.hwc.cells.lt
      have I0 := Lib.hid (show BdI w p B kc lp F [] x8 from ⟨⟨A8.out.hwc, A8.out.hlc, K8.out, by rw [QB.out]; exact HH.out.lt, fun j hj => by rw [(bcell A8.out.below).1 lp (1 + j) (by rw [QB.out]; exact HH.out.lt)]; exact HH.out.len j hj, A8.out.bp, A8.out.nw, A8.out.nl, by omega⟩, A8.out.hwr, by rw [← QB.out]; exact A8.out.below, fun s hs => by cases hs⟩)
      have EC := Lib.hid (each_59 (cap := 25000000) (bdI_each (X := x8.heap.size) QB.out HB.out hl (by omega) (by omega) (by omega) (by omega)) (bdI_reps HH.out HRR.out HT.out) (bdI_do QB.out HFh.out G1.out (by omega) hh.out) I0.out HO.out hrl HCP.out)
      clear A8 K8 I0
      go_wp2_with fail
      refine EC.out.mono ?_
      rintro e x9 ⟨rfl, i9⟩
      have I9 := Lib.hid i9
      have ES := Lib.hid (show bodyP F (symsR l 0 reps ++ lits l (posR 0 reps) (l.length - posR 0 reps)) = fillP ((symsR l 0 reps ++ lits l (posR 0 reps) (l.length - posR 0 reps)).foldl (symPut (allC F) F) (headP F)) from rfl)
      have NL := Lib.hid (symPut_len (allC F) F HFh.out _ i9.ok (headP F))
      have hcp := HCP.out
      clear i9 EC c0 l0 w0
      generalize symsR l 0 reps ++ lits l (posR 0 reps) (l.length - posR 0 reps) = S at *
      have WR := Lib.hid I9.out.wr
      have HW9 := Lib.hid I9.out.bd.hwc
      have BW9 := Lib.hid I9.out.below
      clear I9
      generalize S.foldl (symPut (allC F) F) (headP F) = st at *
      have FC := Lib.hid (fill_ok WR.out (show B ≤ p by omega) (by have := NL.out; have := hh.out; omega))
      have c0 := HW9.out.cells.cell 0 _ rfl
      have l0 := HW9.out.cells.lt
      go_wp2_with fail
      refine FC.out.mono ?_
      rintro e x10 ⟨rfl, w10, k10⟩
      have W10 := Lib.hid (show WrAt x10 p B (bodyP F S).1 (bodyP F S).2 from by rw [ES.out]; exact w10)
      have H10 := Lib.hid (HW9.out.wkeep k10 (by decide) (by omega))
      have B10 := Lib.hid (show Below w.heap.size w x10 from BW9.out.trans (by rw [← QB.out]; exact k10.below))
      clear w10 k10 FC c0 l0 HW9 BW9 WR
      obtain ⟨v10, held, hb10, ho10, _, _⟩ := W10.out
      have FIN := Lib.hid (show RetOwn w.heap.size w (bodyB F S) (.returned v10) x10 from ⟨v10, rfl, by rw [← QB.out]; exact ho10, B10.out, KeepB.below B10.out⟩)
      have c0 := H10.out.cells.cell 0 _ rfl
      have l0 := H10.out.cells.lt
      have p0 := hb10.cells.cell 0 _ rfl
      have lp0 := hb10.cells.lt
      obtain ⟨ya, yc, rfl, _⟩ := ho10.sl
      clear ho10 hb10 W10 H10 B10
      go_wp2_with fail
      go_ret
      exact FIN.out
end
end Go.Proofs.YtfbeipfpkikakaaDoor
