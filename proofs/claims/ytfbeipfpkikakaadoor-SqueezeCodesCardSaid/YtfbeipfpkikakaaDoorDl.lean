/- What is done with each symbol: counted; written. Each symbol is written. The runs of lengths. -/
import Derived.Test.YtfbeipfpkikakaaDoorEc
namespace Go.Proofs.YtfbeipfpkikakaaDoor
section
open Go.RowKit

set_option maxRecDepth 100000
def cntS (L : List Suf) : Nat → Nat := fun j => (L.map (fun s => s.1)).count j
def bitsS (L : List Suf) : Nat := (L.map (fun s => s.2.1)).foldl (· + ·) 0
theorem bitsS_snoc (L : List Suf) (s : Suf) : bitsS (L ++ [s]) = bitsS L + s.2.1 := by unfold bitsS; simp [List.foldl_append]
theorem cntS_snoc (L : List Suf) (s : Suf) : cntS (L ++ [s]) = upd (cntS L) s.1 (cntS L s.1 + 1) := by
  funext j
  unfold cntS upd
  rw [List.map_append, List.count_append]
  by_cases e : j = s.1
  · rw [if_pos e, e]; simp
  · rw [if_neg e]; simp [List.count_cons, Ne.symm e]
set_option maxHeartbeats 800000 in
theorem count51_ok {w : World} {cp lp : Nat} {f : Nat → Nat} {n : Nat} (s : Suf) (hs : SufOk s) (hc : CellsAt w cp (natL 302 f)) (hb : w.cell? ⟨lp, 303, none⟩ = some (.int .i64 (n : Int))) (hfz : w.frozen? ⟨lp, 303, none⟩ = false) (hne : cp ≠ lp) (hl : lp < w.heap.size) (hf : f s.1 ≤ 1000000000) (hn : n ≤ 1000000000) :
    Calls Tryd.prog 51 #[sufO s, .pointer (some ⟨cp, 0, none⟩), .pointer (some ⟨lp, 0, none⟩)] w (fun e w' => e = .returned (.tuple #[]) ∧ ∃ x, Below w.heap.size w x ∧ w' = (x.setCell ⟨cp, s.1, none⟩ (.int .i64 ((f s.1 + 1 : Nat) : Int))).setCell ⟨lp, 303, none⟩ (.int .i64 ((n + s.2.1 : Nat) : Int))) := by
  obtain ⟨a, b, c⟩ := s
  obtain ⟨h1, h2, h3⟩ := hs
  have HC := Lib.hid hc
  show Calls Tryd.prog 51 #[.agg #[.int .i64 (a : Int), .int .i64 (b : Int), .int .i64 (c : Int)], _, _] w _
  have a302 : a < 302 := h1
  have b15 : b ≤ 15 := h3
  have fa : f a ≤ 1000000000 := hf
  show Calls _ _ _ _ (fun e w' => e = .returned (.tuple #[]) ∧ ∃ x, Below w.heap.size w x ∧ w' = (x.setCell ⟨cp, a, none⟩ (.int .i64 ((f a + 1 : Nat) : Int))).setCell ⟨lp, 303, none⟩ (.int .i64 ((n + b : Nat) : Int)))
  have HB := Lib.hid (below_alloc w (.cells #[.int .i64 (a : Int), .int .i64 (b : Int), .int .i64 (c : Int)] 84))
  have HN := Lib.hid (BlkAt.new w [.int .i64 (a : Int), .int .i64 (b : Int), .int .i64 (c : Int)] 84)
  have e1 : ((f a : Int) + 1) = ((f a + 1 : Nat) : Int) := by omega
  have e2 : ((n : Int) + (b : Int)) = ((n + b : Nat) : Int) := by omega
  have p1 : (w.alloc (.cells #[.int .i64 (a : Int), .int .i64 (b : Int), .int .i64 (c : Int)] 84)).cell? ⟨cp, a, none⟩ = some (.int .i64 (f a : Int)) := (hc.alloc _).cell a _ (natL_get a302)
  have p2 : (w.alloc (.cells #[.int .i64 (a : Int), .int .i64 (b : Int), .int .i64 (c : Int)] 84)).frozen? ⟨cp, a, none⟩ = false := (hc.alloc _).free a
  have p3 : (w.alloc (.cells #[.int .i64 (a : Int), .int .i64 (b : Int), .int .i64 (c : Int)] 84)).cell? ⟨lp, 303, none⟩ = some (.int .i64 (n : Int)) := ((bcell HB.out).1 lp 303 hl).trans hb
  have p4 : (w.alloc (.cells #[.int .i64 (a : Int), .int .i64 (b : Int), .int .i64 (c : Int)] 84)).frozen? ⟨lp, 303, none⟩ = false := ((bcell HB.out).2 lp 303 hl).trans hfz
  have hcl := hc.lt
  have q0 := HN.out.cells.cell 0 _ rfl
  have q1 := HN.out.cells.cell 1 _ rfl
  have hs : w.heap.size < (w.alloc (.cells #[.int .i64 (a : Int), .int .i64 (b : Int), .int .i64 (c : Int)] 84)).heap.size := by simp
  clear hb hfz h1 h2 h3 hf hc
  have E1 := Lib.hid e1
  have E2 := Lib.hid e2
  obtain ⟨F, hF⟩ : ∃ F, F = f a := ⟨_, rfl⟩
  rw [← hF] at p1 fa E1 e1 ⊢
  clear hF e1 e2
  go_enter Tryd.func51, Tryd.ntmps51
  go_upto_region 1 with fail
  have HS : (w.alloc (.cells #[.int .i64 (a : Int), .int .i64 (b : Int), .int .i64 (c : Int)] 84)).heap.size = w.heap.size + 1 := by simp
  change Hid (BlkAt (w.alloc (.cells #[.int .i64 (a : Int), .int .i64 (b : Int), .int .i64 (c : Int)] 84)) _ _ _) at HN
  change (w.alloc (.cells #[.int .i64 (a : Int), .int .i64 (b : Int), .int .i64 (c : Int)] 84)).cell? _ = _ at q0
  change (w.alloc (.cells #[.int .i64 (a : Int), .int .i64 (b : Int), .int .i64 (c : Int)] 84)).cell? _ = _ at q1
  generalize w.alloc (.cells #[.int .i64 (a : Int), .int .i64 (b : Int), .int .i64 (c : Int)] 84) = x1 at *
  obtain ⟨R, hR⟩ : ∃ R, R = w.heap.size := ⟨_, rfl⟩
  rw [← hR] at q0 q1 HN hs hcl hl ⊢
  have QR := Lib.hid hR
  clear hR HS
  go_wp2_with fail
  go_end0
  exact ⟨rfl, x1, HB.out, by rw [← E1.out, ← E2.out]⟩
end

section
open Go.RowKit

set_option maxRecDepth 100000
def natU (n : Nat) (f : Nat → Nat) : List Value := (List.range n).map fun j => .int .u32 (f j : Int)
theorem natU_get {n : Nat} {f : Nat → Nat} {j : Nat} (h : j < n) : (natU n f)[j]? = some (.int .u32 (f j : Int)) := by
  unfold natU; rw [List.getElem?_map, List.getElem?_range h]; rfl
/-- What a body's writing reads. -/
structure BdAt (w : World) (p B wc kc lc lp : Nat) (C F : Nat → Nat) : Prop where
  hwc : BlkAt w wc 98 [.pointer (some ⟨p, 0, none⟩)]
  hlc : BlkAt w lc 97 [.pointer (some ⟨lp, 0, none⟩)]
  hkc : BlkAt w kc 104 (natU 302 C)
  hlp : lp < B
  len : ∀ j, j < 302 → w.cell? ⟨lp, 1 + j, none⟩ = some (.int .i64 (F j : Int))
  bp : B ≤ p
  nw : wc ≠ p
  nl : lc ≠ p
  nk : kc ≠ p
theorem BdAt.keep {w w' : World} {p B wc kc lc lp : Nat} {C F : Nat → Nat} (h : BdAt w p B wc kc lc lp C F) (k : WKeep p B w w') : BdAt w' p B wc kc lc lp C F :=
  ⟨h.hwc.wkeep k (by decide) h.nw, h.hlc.wkeep k (by decide) h.nl, h.hkc.wkeep k (by decide) h.nk, h.hlp, fun j hj => ((bcell k.below).1 lp (1 + j) h.hlp).trans (h.len j hj), h.bp, h.nw, h.nl, h.nk⟩
theorem WrAt.keep {w w' : World} {p B val N : Nat} (h : WrAt w p B val N) (k : Below w.heap.size w w') : WrAt w' p B val N := by
  obtain ⟨v, held, hb, ho, hh, h64⟩ := h
  exact ⟨v, held, hb.below k, ho.below k, hh, h64⟩
theorem WKeep.of {p B : Nat} {w w' : World} (h : Below w.heap.size w w') (hB : B ≤ w.heap.size) : WKeep p B w w' := WKeep.app (h.mono hB) (KeepB.below h)
set_option maxHeartbeats 1600000 in
theorem write59_ok {w : World} {p B wc kc lc lp val N : Nat} {C F : Nat → Nat} (s : Suf) (hs : SufOk s) (D : BdAt w p B wc kc lc lp C F) (h : WrAt w p B val N) (hF : F s.1 ≤ 15) (hC : C s.1 < 2 ^ F s.1) (hN : N ≤ 900000000) :
    Calls Tryd.prog 59 #[sufO s, .pointer (some ⟨wc, 0, none⟩), .pointer (some ⟨kc, 0, none⟩), .pointer (some ⟨lc, 0, none⟩)] w (RetPut w p B ((val * 2 ^ F s.1 + C s.1) * 2 ^ s.2.1 + s.2.2) (N + F s.1 + s.2.1)) := by
  obtain ⟨a, b, c⟩ := s
  obtain ⟨a302, c2, b15⟩ : a < 302 ∧ c < 2 ^ b ∧ b ≤ 15 := hs
  have F15 : F a ≤ 15 := hF
  have CF : C a < 2 ^ F a := hC
  show Calls Tryd.prog 59 #[.agg #[.int .i64 (a : Int), .int .i64 (b : Int), .int .i64 (c : Int)], _, _, _] w (RetPut w p B ((val * 2 ^ F a + C a) * 2 ^ b + c) (N + F a + b))
  have c15 : c < 32768 := Nat.lt_of_lt_of_le c2 (Nat.pow_le_pow_right (by omega) b15)
  have hbp := D.bp
  have hpl : p < w.heap.size := by obtain ⟨v, held, hb, _⟩ := h; exact lt_of_heap hb
  have K1 := Lib.hid (WKeep.of (p := p) (B := B) (below_alloc w (.cells #[.int .i64 (a : Int), .int .i64 (b : Int), .int .i64 (c : Int)] 84)) (by omega))
  have HN := Lib.hid (BlkAt.new w [.int .i64 (a : Int), .int .i64 (b : Int), .int .i64 (c : Int)] 84)
  have D1 := Lib.hid (D.keep K1.out)
  have W1 := Lib.hid (h.keep (below_alloc w (.cells #[.int .i64 (a : Int), .int .i64 (b : Int), .int .i64 (c : Int)] 84)))
  have C2 := Lib.hid c2
  have CFh := Lib.hid CF
  clear hF hC D h c2 CF
  go_enter Tryd.func59, Tryd.ntmps59
  go_upto_region 1 with fail
  change Hid (BlkAt (w.alloc (.cells #[.int .i64 (a : Int), .int .i64 (b : Int), .int .i64 (c : Int)] 84)) _ _ _) at HN
  generalize w.alloc (.cells #[.int .i64 (a : Int), .int .i64 (b : Int), .int .i64 (c : Int)] 84) = x1 at *
  obtain ⟨R, hR⟩ : ∃ R, R = w.heap.size := ⟨_, rfl⟩
  rw [← hR] at HN hpl ⊢
  have nR : R ≠ p := by omega
  clear hR
  have PC := Lib.hid (put_ok (w := x1.drew) (W1.out.keep (below_drewN x1 1)) hbp CFh.out F15 (by omega))
  obtain ⟨FA, hFA⟩ : ∃ FA, FA = F a := ⟨_, rfl⟩
  obtain ⟨CA, hCA⟩ : ∃ CA, CA = C a := ⟨_, rfl⟩
  have l0 := D1.out.len a a302
  have k0 := D1.out.hkc.cells.cell a _ (natU_get a302)
  rw [← hFA] at l0 PC F15 ⊢
  rw [← hCA] at k0 PC ⊢
  have w0 := D1.out.hwc.cells.cell 0 _ rfl
  have y0 := D1.out.hlc.cells.cell 0 _ rfl
  have q0 := HN.out.cells.cell 0 _ rfl
  have lw := D1.out.hwc.cells.lt
  have ll := D1.out.hlc.cells.lt
  have lk := D1.out.hkc.cells.lt
  have lR := HN.out.cells.lt
  have a1 : (a : Int) < 302 := by omega
  have a2 : (0 : Int) ≤ (a : Int) := by omega
  have QF := Lib.hid hFA
  have QC := Lib.hid hCA
  clear hFA hCA
  go_region_held3 (fun w' => w'.cell? ⟨wc, 0, none⟩ = some (.pointer (some ⟨p, 0, none⟩)) ∧ w'.cell? ⟨lc, 0, none⟩ = some (.pointer (some ⟨lp, 0, none⟩)) ∧ w'.cell? ⟨R, 0, none⟩ = some (.int .i64 (a : Int)) ∧ w'.cell? ⟨kc, a, none⟩ = some (.int .u32 (CA : Int)) ∧ w'.cell? ⟨lp, 1 + a, none⟩ = some (.int .i64 (FA : Int)))
    (first | go_keep)
    ((first | (go_at_call 57; refine PC.out.mono ?_; rintro e w3 ⟨rfl, hw3, hk3⟩; have W3 := Lib.hid hw3; have K3 := Lib.hid ((WKeep.of (p := p) (B := B) (below_drewN x1 1) (by omega)).trans hk3); clear hw3 hk3; have D3 := Lib.hid (D1.out.keep K3.out); have s1 := D3.out.hwc.cells.cell 0 _ rfl; have s2 := D3.out.hlc.cells.cell 0 _ rfl; have N3 := Lib.hid (HN.out.wkeep K3.out (by decide) nR); have s3 := N3.out.cells.cell 0 _ rfl; have s4 := D3.out.hkc.cells.cell a _ (natU_get a302); rw [← QC.out] at s4; have s5 := D3.out.len a a302; rw [← QF.out] at s5)))
  have n1 := N3.out.cells.cell 1 _ rfl
  have n2 := N3.out.cells.cell 2 _ rfl
  have lR3 := N3.out.cells.lt
  have lw3 := D3.out.hwc.cells.lt
  have P2 := Lib.hid (put_ok W3.out hbp C2.out b15 (by omega))
  have i1 : IntKind.u32.wrap (c : Int) = (c : Int) := by rw [IntKind.wrap_u32]; omega
  have K1' := Lib.hid (K1.out.trans K3.out)
  clear s2 s3 s4 s5 l0 k0 w0 y0 q0 lw ll lk lR W3 K3 D3 N3 D1 W1 PC K1 HN C2 CFh
  go_wp2_with fail
  refine P2.out.mono ?_
  rintro e w4 ⟨rfl, hw4, hk4⟩
  have FIN := Lib.hid (show RetPut w p B ((val * 2 ^ FA + CA) * 2 ^ b + c) (N + FA + b) (.returned (.tuple #[])) w4 from ⟨rfl, hw4, K1'.out.trans hk4⟩)
  clear hw4 hk4 P2 K1'
  go_wp2_with fail
  go_end0
  have F2 := FIN.out
  rw [QF.out, QC.out] at F2
  exact F2
end

section
open Go.RowKit

set_option maxRecDepth 100000
theorem info102 : (Tryd.prog.info? 102).map (fun i => (i.zero, i.size, i.bytes)) = some (some (.agg #[.int .i64 0, .int .i64 0]), 2, 16) := by kernel_rfl
def runV (rs : List (Nat × Nat)) : List Value := rs.flatMap fun r => [.int .i64 (r.1 : Int), .int .i64 (r.2 : Int)]
theorem runV_len (rs : List (Nat × Nat)) : (runV rs).length = rs.length * 2 := by
  induction rs with
  | nil => rfl
  | cons r rs ih => show (_ :: _ :: runV rs).length = _; simp only [List.length_cons, ih]; omega
theorem runV_app (a b : List (Nat × Nat)) : runV (a ++ b) = runV a ++ runV b := by simp [runV]
/-- A row of runs of the call's own. -/
def OwnN (w : World) (B : Nat) (v : Value) (rs : List (Nat × Nat)) : Prop := w.ownsRow B 102 2 v rs.length (runV rs) ∧ B ≤ w.heap.size
theorem OwnN.below {w w' : World} {B : Nat} {v : Value} {l : List (Nat × Nat)} (h : OwnN w B v l) (k : Below w.heap.size w w') : OwnN w' B v l := by
  refine ⟨⟨h.1.1, ?_⟩, Nat.le_trans h.2 k.size⟩
  rcases h.1.2 with hn | ⟨g, cap, cur, hv, hb, hgg, rest⟩
  · exact .inl hn
  · exact .inr ⟨g, cap, cur, hv, hb, (k.block g (lt_of_heap hgg)).trans hgg, rest⟩
theorem OwnN.nil (w : World) : OwnN w w.heap.size (.slice none 0 0) [] := ⟨World.ownsRow_nil _ _ _ _, Nat.le_refl _⟩
/-- The last run. -/
theorem OwnN.last {w : World} {B : Nat} {v : Value} {rs : List (Nat × Nat)} {r : Nat × Nat} (h : OwnN w B v (rs ++ [r])) : ∃ g cap, v = .slice (some ⟨g, 0, none⟩) (rs.length + 1) cap ∧ B ≤ g ∧ g < w.heap.size ∧
    w.cell? ⟨g, rs.length * 2, none⟩ = some (.int .i64 (r.1 : Int)) ∧ w.cell? ⟨g, rs.length * 2 + 1, none⟩ = some (.int .i64 (r.2 : Int)) ∧ w.frozen? ⟨g, rs.length * 2 + 1, none⟩ = false ∧
    ∀ m : Nat, OwnN (w.setCell ⟨g, rs.length * 2 + 1, none⟩ (.int .i64 (m : Int))) B v (rs ++ [(r.1, m)]) := by
  have hl : (rs ++ [r]).length = rs.length + 1 := by simp
  rcases h.1.2 with ⟨_, hn⟩ | ⟨g, cap, cur, hv, hb, hg, h1, h2, h3, h4⟩
  · rw [hl] at hn; omega
  · rw [hl] at hv h1 h4
    have hsz : rs.length * 2 + 2 ≤ cur.toList.length := by simp only [Array.length_toList]; omega
    have e : cur.toList.take (rs.length * 2 + 2) = runV rs ++ [.int .i64 (r.1 : Int), .int .i64 (r.2 : Int)] := by
      have := h4
      rw [show (rs.length + 1) * 2 = rs.length * 2 + 2 by omega, runV_app] at this
      exact this
    have hc := (BlkAt.cells (w := w) (p := g) (t := 102) (vs := cur.toList) (by unfold BlkAt; rw [hg]))
    have c0 : cur.toList[rs.length * 2]? = some (.int .i64 (r.1 : Int)) := by
      have : (cur.toList.take (rs.length * 2 + 2))[rs.length * 2]? = some (.int .i64 (r.1 : Int)) := by rw [e, List.getElem?_append_right (by rw [runV_len]; omega), runV_len, Nat.sub_self]; rfl
      rw [List.getElem?_take, if_pos (by omega)] at this
      exact this
    have c1 : cur.toList[rs.length * 2 + 1]? = some (.int .i64 (r.2 : Int)) := by
      have : (cur.toList.take (rs.length * 2 + 2))[rs.length * 2 + 1]? = some (.int .i64 (r.2 : Int)) := by rw [e, List.getElem?_append_right (by rw [runV_len]; omega), runV_len, show rs.length * 2 + 1 - rs.length * 2 = 1 by omega]; rfl
      rw [List.getElem?_take, if_pos (by omega)] at this
      exact this
    refine ⟨g, cap, hv, hb, lt_of_heap hg, hc.cell _ _ c0, hc.cell _ _ c1, hc.free _, fun m => ⟨⟨by rw [runV_len], .inr ⟨g, cap, cur.setIfInBounds (rs.length * 2 + 1) (.int .i64 (m : Int)), by rw [hv]; simp, hb, ?_, by simpa using h1, h2, by simpa using h3, ?_⟩⟩, by simpa using h.2⟩⟩
    · show (w.heap.modify g _)[g]? = _
      rw [Array.getElem?_modify, if_pos rfl, hg]
      simp
    · rw [show (rs ++ [(r.1, m)]).length = rs.length + 1 by simp, show (rs.length + 1) * 2 = rs.length * 2 + 2 by omega, runV_app]
      rw [Array.toList_setIfInBounds, List.take_set, e, List.set_append, if_neg (by rw [runV_len]; omega), runV_len, show rs.length * 2 + 1 - rs.length * 2 = 1 by omega]
      rfl
theorem OwnN.form {w : World} {B : Nat} {v : Value} {l : List (Nat × Nat)} (h : OwnN w B v l) : ∃ a c, v = .slice a l.length c := by
  rcases h.1.2 with ⟨hv, hn⟩ | ⟨g, cap, cur, hv, _⟩
  · exact ⟨none, 0, by rw [hv, hn]⟩
  · exact ⟨_, _, hv⟩
theorem OwnN.grown {w w' : World} {B : Nat} {v : Value} {l : List (Nat × Nat)} (h : OwnN w B v l) (g : w.grownBy w' v.ownBlock) : Below B w w' :=
  (Below.refl B w).grown g h.2 (fun k hk => (h.1.lt k hk).1)
/-- A run is appended. -/
theorem wp_appn {w : World} {ops : Array Oper} {rest : List Oper} {o : Oper} {a : Act} {Q : Exit → Act → World → Prop} (hgd : o.guard = none) (s x : Operand)
    (ho : o.op = .call { callee := .builtin .append, args := #[s, x], argTypes := #[87, 87] })
    (B : Nat) (v : Value) (l : List (Nat × Nat)) (hs : a.eval s = v) (hown : OwnN w B v l) (p q : Nat)
    (hx : a.eval x = .slice (some ⟨w.heap.size, 0, none⟩) 1 1) (hlen : l.length + 1 ≤ 1000000)
    (h : ∀ v' w', OwnN w' B v' (l ++ [(p, q)]) → Below B w w' → wpList Tryd.prog ops Q rest (a.put o.dst v') w') :
    wpList Tryd.prog ops Q (o :: rest) a (w.alloc (.cells #[.int .i64 (p : Int), .int .i64 (q : Int)] 102)) := by
  obtain ⟨i0, hi, hz0, hz1, hz2⟩ := info_parts info102
  have hB := hown.2
  have hown2 := hown.below (below_alloc w (.cells #[.int .i64 (p : Int), .int .i64 (q : Int)] 102))
  refine wpList_append_own _ hgd s x 87 ho B 102 i0 (.agg #[.int .i64 0, .int .i64 0]) 2 16 Tryd.underlying87 hi hz0 hz1 hz2 rfl (by decide) v l.length (runV l) hs hown2.1 ⟨w.heap.size, 0, none⟩ 1 1 [.int .i64 (p : Int), .int .i64 (q : Int)] hx rfl ?_ ?_ ?_ ?_ ?_ ?_
  · intro j u hj
    rw [add_plain, Nat.zero_add]
    exact (BlkAt.new w [.int .i64 (p : Int), .int .i64 (q : Int)] 102).cells.cell j u hj
  · intro u hu
    simp only [List.mem_cons, List.not_mem_nil, or_false] at hu
    rcases hu with rfl | rfl <;> rfl
  · unfold maxLen; omega
  · omega
  · simp; omega
  · intro v' w' h1 h2 _
    have hsz := h2.size
    refine h v' w' ⟨?_, ?_⟩ ?_
    · rw [List.length_append, runV_app]; exact h1
    · simp at hsz; omega
    · exact ((Below.refl B w).alloc hB _).grown h2 (by simp; omega) (fun k hk => (hown.1.lt k hk).1)
def runStep (rs : List (Nat × Nat)) (l : Nat) : List (Nat × Nat) := match rs.getLast? with
  | none => [(l, 1)]
  | some r => if r.1 ≠ l ∨ r.2 = 16 then rs ++ [(l, 1)] else rs.dropLast ++ [(r.1, r.2 + 1)]
def runsK (F : Nat → Nat) : Nat → List (Nat × Nat)
  | 0 => []
  | k + 1 => runStep (runsK F k) (F k)
theorem runStep_ne (rs : List (Nat × Nat)) (l : Nat) : runStep rs l ≠ [] := by
  unfold runStep
  split
  · simp
  · split <;> simp
theorem runStep_le (rs : List (Nat × Nat)) (l : Nat) (h2 : ∀ r ∈ rs, r.2 ≤ 16) : (runStep rs l).length ≤ rs.length + 1 ∧ ∀ r ∈ runStep rs l, r.2 ≤ 16 := by
  unfold runStep
  split
  · exact ⟨by simp, fun r h => by simp at h; subst h; show 1 ≤ 16; omega⟩
  · rename_i r hr
    have hm := h2 r (List.mem_of_getLast? hr)
    split
    · exact ⟨by simp, fun x h => by
        rcases List.mem_append.1 h with h | h
        · exact h2 x h
        · simp at h; subst h; show 1 ≤ 16; omega⟩
    · rename_i hc
      exact ⟨by simp, fun x h => by
        rcases List.mem_append.1 h with h | h
        · exact h2 x (List.dropLast_subset _ h)
        · simp at h; subst h; show r.2 + 1 ≤ 16; omega⟩
theorem runsK_le (F : Nat → Nat) : ∀ k, (runsK F k).length ≤ k ∧ ∀ r ∈ runsK F k, r.2 ≤ 16
  | 0 => ⟨Nat.le_refl _, fun r h => by cases h⟩
  | k + 1 => by
    obtain ⟨h1, h2⟩ := runsK_le F k
    obtain ⟨h3, h4⟩ := runStep_le (runsK F k) (F k) h2
    exact ⟨Nat.le_trans h3 (by omega), h4⟩
theorem runStep_snoc (i : List (Nat × Nat)) (r : Nat × Nat) (l : Nat) : runStep (i ++ [r]) l = if r.1 ≠ l ∨ r.2 = 16 then (i ++ [r]) ++ [(l, 1)] else i ++ [(r.1, r.2 + 1)] := by
  unfold runStep
  rw [List.getLast?_concat]
  simp
/-- Between two lengths. -/
def RnRel (w : World) (lp : Nat) (F : Nat → Nat) (v i : Value) (wr : World) : Prop := ∃ k : Nat, k ≤ 302 ∧ i = .int .i64 (k : Int) ∧ OwnN wr w.heap.size v (runsK F k) ∧ Below w.heap.size w wr
def RetRuns (w : World) (F : Nat → Nat) (e : Ending) (w' : World) : Prop := ∃ v, e = .returned v ∧ OwnN w' w.heap.size v (runsK F 302) ∧ Below w.heap.size w w'
set_option maxHeartbeats 1600000 in
theorem runs_ok {w : World} {lp o : Nat} {F : Nat → Nat} (hl : lp < w.heap.size) (hF : ∀ j, j < 302 → F j ≤ 1000) (hc : ∀ j, j < 302 → w.cell? ⟨lp, o + j, none⟩ = some (.int .i64 (F j : Int))) :
    Calls Tryd.prog 53 #[.pointer (some ⟨lp, o, none⟩)] w (RetRuns w F) := by
  have HC := Lib.hid hc
  have HF := Lib.hid hF
  clear hc hF
  go_enter Tryd.func53, Tryd.ntmps53
  go_wp2_with fail
  have ST := Lib.hid (show RnRel w lp F (.slice none 0 0) (.int .i64 (0 : Nat)) w from ⟨0, by omega, rfl, OwnN.nil w, Below.refl _ _⟩)
  go_loopw [3, 4, 5, 6, 8] (fun v _ _ _ i wr => RnRel w lp F v i wr) (fun _ _ _ _ i _ => (303 - intOf i).toNat)
  case atStart => exact ST.out
  case round =>
    clear ST
    obtain ⟨k, hk, rfl, hO, hB⟩ := hrel
    by_cases hlt : k < 302
    · have cx := ((bcell hB).1 lp (o + k) hl).trans (HC.out k hlt)
      have fx := HF.out k hlt
      have HO := Lib.hid hO
      have HB := Lib.hid hB
      have hl2 : lp < wr.heap.size := Nat.lt_of_lt_of_le hl hB.size
      have ME := Lib.hid (show (303 - ((k : Int) + 1)).toNat < (303 - (k : Int)).toNat by omega)
      have RK := Lib.hid (show runsK F (k + 1) = runStep (runsK F k) (F k) from rfl)
      have RL := Lib.hid (runsK_le F k)
      clear hO hB
      generalize F k = x at *
      have k1 : (k : Int) < 302 := by omega
      have k2 : (0 : Int) ≤ (k : Int) := by omega
      have t0 : decide ((k : Int) < 302) = true := decide_eq_true k1
      obtain ⟨va, vc, hv⟩ := HO.out.form
      subst hv
      obtain ⟨rs, hrs⟩ : ∃ rs, rs = runsK F k := ⟨_, rfl⟩
      rw [← hrs] at HO RK RL ⊢
      have QRS := Lib.hid hrs
      have nl : rs.length ≤ 302 := by have := RL.out.1; omega
      clear hrs
      go_upto_region 4 with fail
      go_quiet (fail)
      have O1 := Lib.hid (HO.out.below (below_drewN wr nq))
      have B1 := Lib.hid (HB.out.trans ((below_drewN wr nq).mono HB.out.size))
      clear cx HO HB hl2
      generalize wr.drewN nq = x1 at *
      by_cases hk0 : k = 0
      · subst hk0
        obtain rfl : rs = [] := QRS.out
        have RK0 := Lib.hid (show runsK F (0 + 1) = [] ++ [(x, 1)] from RK.out)
        clear RK RL QRS
        go_wp2_with (at_builtin; refine wp_appn rfl _ _ rfl w.heap.size _ [] rfl O1.out x 1 (by rfl) (by simp) ?_)
        intro v2 w2 o2 b2
        have FIN := Lib.hid (show RnRel w lp F v2 (.int .i64 ((0 : Nat) + 1 : Int)) w2 from ⟨1, by omega, rfl, by rw [RK0.out]; exact o2, B1.out.trans b2⟩)
        clear o2 b2 O1 B1
        go_wp2_with fail
        exact ⟨FIN.out, ME.out⟩
      · have hne : rs ≠ [] := by
          rw [QRS.out]
          obtain ⟨j, rfl⟩ : ∃ j, k = j + 1 := ⟨k - 1, by omega⟩
          exact runStep_ne _ _
        have tk : ((k : Int) == 0) = false := by simp; omega
        obtain ⟨i, r, hir⟩ : ∃ i r, rs = i ++ [r] := ⟨rs.dropLast, rs.getLast hne, (List.dropLast_concat_getLast hne).symm⟩
        have hm16 := RL.out.2 r (by rw [hir]; simp)
        subst hir
        obtain ⟨g, cap, hv, hgB, hgl, c0, c1, f1, hset⟩ := O1.out.last
        have hlen : (i ++ [r]).length = i.length + 1 := by simp
        rw [hlen] at hv nl ⊢
        injection hv with hv1 _ hv3
        subst hv1 hv3
        have R2 := RK.out
        rw [runStep_snoc] at R2
        obtain ⟨r1, r2⟩ := r
        have c0' : x1.cell? ⟨g, i.length * 2, none⟩ = some (.int .i64 (r1 : Int)) := c0
        have c1' : x1.cell? ⟨g, i.length * 2 + 1, none⟩ = some (.int .i64 (r2 : Int)) := c1
        have R2' : runsK F (k + 1) = if r1 ≠ x ∨ r2 = 16 then (i ++ [(r1, r2)]) ++ [(x, 1)] else i ++ [(r1, r2 + 1)] := R2
        have m16 : r2 ≤ 16 := hm16
        have HSET := Lib.hid hset
        have QRK := Lib.hid R2'
        clear RK RL QRS hne c0 c1 R2 R2' hm16 hset
        obtain ⟨M, hM⟩ : ∃ M, M = i.length := ⟨_, rfl⟩
        rw [hlen, ← hM] at O1
        rw [← hM] at c0' c1' f1 HSET nl ⊢
        have QM := Lib.hid hM
        clear hM hlen
        have e1 : ((M + 1 : Nat) : Int) - 1 = (M : Int) := by omega
        obtain ⟨L, hL⟩ : ∃ L, L = M + 1 := ⟨_, rfl⟩
        rw [← hL] at e1 O1 nl ⊢
        have m1 : (M : Int) < (L : Int) := by omega
        have m2 : M < L := by omega
        have m3 : (0 : Int) ≤ (M : Int) := by omega
        have QL := Lib.hid hL
        clear hL
        by_cases ha : r1 = x
        · by_cases hb : r2 = 16
          · have RK := Lib.hid (show runsK F (k + 1) = (i ++ [(r1, r2)]) ++ [(x, 1)] by rw [QRK.out, if_pos (Or.inr hb)])
            subst ha hb
            go_wp2_with (at_builtin; refine wp_appn rfl _ _ rfl w.heap.size _ _ rfl O1.out r1 1 (by rfl) (by rw [List.length_append, ← QM.out]; simp; omega) ?_)
            intro v2 w2 o2 b2
            have FIN := Lib.hid (show RnRel w lp F v2 (.int .i64 ((k : Int) + 1)) w2 from ⟨k + 1, by omega, by go_num, by rw [RK.out]; simpa using o2, B1.out.trans b2⟩)
            clear o2 b2 O1 B1 QRK HSET RK
            go_wp2_with fail
            exact ⟨FIN.out, ME.out⟩
          · have RK := Lib.hid (show runsK F (k + 1) = i ++ [(r1, r2 + 1)] by rw [QRK.out, if_neg (by omega)])
            have tb : ((r2 : Int) == 16) = false := by simp; omega
            subst ha
            have FIN := Lib.hid (show RnRel w lp F (.slice (some ⟨g, 0, none⟩) L vc) (.int .i64 ((k : Int) + 1)) (x1.setCell ⟨g, M * 2 + 1, none⟩ (.int .i64 ((r2 : Int) + 1))) from
              ⟨k + 1, by omega, by go_num, by
                rw [RK.out]
                have h := HSET.out (r2 + 1)
                rw [show (i ++ [(r1, r2)]).length = L by rw [List.length_append, ← QM.out, QL.out]; rfl] at h
                exact h, B1.out.setCell (p := ⟨g, M * 2 + 1, none⟩) hgB _⟩)
            clear O1 B1 QRK HSET RK
            go_wp2_with fail
            exact ⟨FIN.out, ME.out⟩
        · have RK := Lib.hid (show runsK F (k + 1) = (i ++ [(r1, r2)]) ++ [(x, 1)] by rw [QRK.out, if_pos (Or.inl ha)])
          have ta : ((r1 : Int) == (x : Int)) = false := by simp; omega
          have tan : (r1 == x) = false := by simpa using ha
          go_wp2_with (at_builtin; refine wp_appn rfl _ _ rfl w.heap.size _ _ rfl O1.out x 1 (by rfl) (by rw [List.length_append, ← QM.out]; simp; omega) ?_)
          intro v2 w2 o2 b2
          have FIN := Lib.hid (show RnRel w lp F v2 (.int .i64 ((k : Int) + 1)) w2 from ⟨k + 1, by omega, by go_num, by rw [RK.out]; simpa using o2, B1.out.trans b2⟩)
          clear o2 b2 O1 B1 QRK HSET RK
          go_wp2_with fail
          exact ⟨FIN.out, ME.out⟩
    · obtain rfl : k = 302 := by omega
      go_wp2_with fail
      go_ret
      exact ⟨_, rfl, hO, hB⟩
end
end Go.Proofs.YtfbeipfpkikakaaDoor
