/- A layout: counts, lengths, bits. -/
import Derived.Test.YtfbeipfpkikakaaDoorSs
namespace Go.Proofs.YtfbeipfpkikakaaDoor
open Go.RowKit

set_option maxRecDepth 100000
/-- A layout's cells. -/
def layL (rv : Value) (F : Nat → Nat) (n : Nat) : List Value := rv :: (natL 302 F ++ [.int .i64 (n : Int)])
theorem layL_len (rv : Value) (F : Nat → Nat) (n : Nat) : (layL rv F n).length = 304 := by simp [layL, natL]
theorem layL_0 (rv : Value) (F : Nat → Nat) (n : Nat) : (layL rv F n)[0]? = some rv := rfl
theorem layL_len' {rv : Value} {F : Nat → Nat} {n j : Nat} (h : j < 302) : (layL rv F n)[1 + j]? = some (.int .i64 (F j : Int)) := by
  unfold layL
  rw [Nat.add_comm, List.getElem?_cons_succ, List.getElem?_append_left (by rw [natL_len]; exact h)]
  exact natL_get h
theorem layL_bits (rv : Value) (F : Nat → Nat) (n : Nat) : (layL rv F n)[303]? = some (.int .i64 (n : Int)) := by
  unfold layL
  rw [List.getElem?_cons_succ, List.getElem?_append_right (by rw [natL_len]; omega), natL_len]
  rfl
theorem layL_set (rv : Value) (F : Nat → Nat) (n m : Nat) : (layL rv F n).set 303 (.int .i64 (m : Int)) = layL rv F m := by
  unfold layL
  rw [List.set_cons_succ, List.set_append, if_neg (by rw [natL_len]; omega), natL_len]
  rfl
theorem built71 (a : Option Addr) (n c : Nat) : Tryd.prog.built 71 [(0, .slice a n c)] = some (layL (.slice a n c) (fun _ => 0) 0).toArray := by kernel_rfl
theorem zero71 : (Tryd.prog.info? 71).bind (·.zero) = some (.agg (layL (.slice none 0 0) (fun _ => 0) 0).toArray) := by kernel_rfl
theorem zero68 : (Tryd.prog.info? 68).bind (·.zero) = some (.agg (natL 302 fun _ => 0).toArray) := by kernel_rfl
theorem info71 : (Tryd.prog.info? 71).map (·.size) = some 304 := by kernel_rfl
theorem info68 : (Tryd.prog.info? 68).map (·.size) = some 302 := by kernel_rfl
theorem info71a (rv : Value) (F : Nat → Nat) (n : Nat) : (Tryd.prog.info? 71).map (·.size) = some (layL rv F n).toArray.size := by simp only [List.size_toArray, layL_len]; exact info71
theorem info71n (rv : Value) (F : Nat → Nat) (n : Nat) : (Tryd.prog.info? 71).map (·.size) = some (layL rv F n).length := by rw [layL_len]; exact info71
theorem info68n (f : Nat → Nat) : (Tryd.prog.info? 68).map (·.size) = some (natL 302 f).length := by rw [natL_len]; exact info68
theorem layL_one {rv : Value} (h : rv.oneCell' = true) (F : Nat → Nat) (n : Nat) : (layL rv F n).toArray.all (·.oneCell') = true := by
  apply all_oneCell_toArray
  intro v hv
  unfold layL at hv
  rcases List.mem_cons.1 hv with rfl | hv
  · exact h
  · rcases List.mem_append.1 hv with hv | hv
    · obtain ⟨j, _, rfl⟩ := List.mem_map.1 hv; rfl
    · rw [List.mem_singleton.1 hv]; rfl
/-- While symbols are counted. -/
structure LyI (w : World) (cp lp rp : Nat) (rv : Value) (L : List Suf) (W : World) : Prop where
  cells : BlkAt W cp 68 (natL 302 (cntS L))
  lay : BlkAt W lp 71 (layL rv (fun _ => 0) (bitsS L))
  res : BlkAt W rp 71 (layL (.slice none 0 0) (fun _ => 0) 0)
  below : Below w.heap.size w W
  ok : ∀ s ∈ L, SufOk s
theorem foldl_le15 : ∀ (l : List Nat) (a : Nat), (∀ x ∈ l, x ≤ 15) → l.foldl (· + ·) a ≤ a + 15 * l.length
  | [], a, _ => Nat.le_refl _
  | x :: l, a, h => by
    have h1 := foldl_le15 l (a + x) fun y hy => h y (List.mem_cons_of_mem _ hy)
    have h2 := h x List.mem_cons_self
    rw [List.foldl_cons, List.length_cons]
    omega
theorem bitsS_le (L : List Suf) (h : ∀ s ∈ L, SufOk s) : bitsS L ≤ 15 * L.length := by
  have := foldl_le15 (L.map (fun s => s.2.1)) 0 fun x hx => by obtain ⟨s, hs, rfl⟩ := List.mem_map.1 hx; exact (h s hs).2.2
  rw [List.length_map, Nat.zero_add] at this
  exact this
theorem cntS_le (L : List Suf) (j : Nat) : cntS L j ≤ L.length := by
  unfold cntS
  exact Nat.le_trans List.count_le_length (by simp)
theorem lyI_each {w : World} {cp lp rp X : Nat} {rv bv : Value} {l : List UInt8} (hb : SlB w bv l) (hl : l.length ≤ 16777215) (x1 : cp < X) (x2 : lp < X) (x3 : rp < X) (hX : w.heap.size ≤ X) : EachI X bv l (LyI w cp lp rp rv) :=
  ⟨fun L W W' h k => ⟨h.cells.below k, h.lay.below k, h.res.below k, h.below.trans (k.mono h.below.size), h.ok⟩,
   fun L W c j v t vs h hXc hc ht => ⟨h.cells.other (by omega) _ _, h.lay.other (by omega) _ _, h.res.other (by omega) _ _, h.below.setCell (p := ⟨c, j, none⟩) (by show w.heap.size ≤ c; omega) _, h.ok⟩,
   fun L W h => hb.below h.below, hl⟩
theorem lyI_reps {w : World} {cp lp rp : Nat} {rv : Value} {reps : List Rep} (hr : SlR w rv reps) (T : Tabs w) : EachR lp rv reps (LyI w cp lp rp rv) :=
  ⟨fun L W h => h.lay.cells.cell 0 _ rfl, fun L W h => h.lay.cells.lt, fun L W h => hr.below h.below, fun L W h => T.below h.below⟩
theorem lyI_do {w : World} {cp lp rp X : Nat} {rv : Value} (hne : cp ≠ lp) (hn1 : cp ≠ rp) (hn2 : lp ≠ rp) (x1 : cp < X) (x2 : lp < X) (h1 : w.heap.size ≤ cp) (h2 : w.heap.size ≤ lp) :
    DoOk51 X 25000000 (LyI w cp lp rp rv) (.pointer (some ⟨cp, 0, none⟩)) (.pointer (some ⟨lp, 0, none⟩)) := by
  intro L W s hL h hs
  have b1 := bitsS_le L h.ok
  have b2 := cntS_le L s.1
  refine (count51_ok s hs h.cells.cells (h.lay.cells.cell 303 _ (layL_bits _ _ _)) (h.lay.cells.free 303) hne h.lay.cells.lt (by omega) (by omega)).mono ?_
  rintro e W' ⟨rfl, x, hx, rfl⟩
  have c1 := (h.cells.below hx).set s.1 (.int .i64 ((cntS L s.1 + 1 : Nat) : Int))
  rw [natL_set, ← cntS_snoc] at c1
  have l1 := ((h.lay.below hx).other hne s.1 (.int .i64 ((cntS L s.1 + 1 : Nat) : Int))).set 303 (.int .i64 ((bitsS L + s.2.1 : Nat) : Int))
  rw [layL_set] at l1
  refine ⟨rfl, ⟨c1.other (Ne.symm hne) _ _, by rw [bitsS_snoc]; exact l1, ((h.res.below hx).other hn1 _ _).other hn2 _ _, ?_, fun y hy => ?_⟩, ⟨by have := hx.size; simpa using this, fun g t cs ht hg hgg => ?_⟩⟩
  · exact ((h.below.trans (hx.mono h.below.size)).setCell (p := ⟨cp, s.1, none⟩) h1 _).setCell (p := ⟨lp, 303, none⟩) h2 _
  · rcases List.mem_append.1 hy with hy | hy
    · exact h.ok y hy
    · rw [List.mem_singleton.1 hy]; exact hs
  · rw [Below.heap_setCell _ ⟨lp, 303, none⟩ _ g (by show g ≠ lp; omega), Below.heap_setCell _ ⟨cp, s.1, none⟩ _ g (by show g ≠ cp; omega)]
    exact (hx.block g (lt_of_heap hgg)).trans hgg
/-- All bits of a layout. -/
def sumK (C F : Nat → Nat) (n : Nat) : Nat → Nat
  | 0 => n
  | k + 1 => sumK C F n k + C k * F k
def bitsN (S : List Suf) (F : Nat → Nat) : Nat := sumK (cntS S) F (bitsS S) 302 + (runsK F 302).length * 2 * 4
theorem BlkAt.setsMid {p : Nat} {t : TypeId} : ∀ (us pre mid post : List Value) {w : World}, BlkAt w p t (pre ++ mid ++ post) → us.length = mid.length → BlkAt (w.setCells p pre.length us) p t (pre ++ us ++ post)
  | [], pre, mid, post, w, h, hl => by
    obtain rfl : mid = [] := List.eq_nil_of_length_eq_zero hl.symm
    exact h
  | u :: us, pre, [], post, w, h, hl => by simp at hl
  | u :: us, pre, m :: mid, post, w, h, hl => by
    rw [World.setCells]
    have h1 := h.set pre.length u
    have e : (pre ++ m :: mid ++ post).set pre.length u = (pre ++ [u]) ++ mid ++ post := by simp [List.set_append]
    rw [e] at h1
    have h2 := BlkAt.setsMid us (pre ++ [u]) mid post h1 (by simpa using hl)
    simpa using h2
theorem BlkAt.layF {w : World} {p : Nat} {rv : Value} {F G : Nat → Nat} {n : Nat} (h : BlkAt w p 71 (layL rv F n)) : BlkAt (w.setCells p 1 (natL 302 G)) p 71 (layL rv G n) :=
  BlkAt.setsMid (natL 302 G) [rv] (natL 302 F) [.int .i64 (n : Int)] h (by rw [natL_len, natL_len])
def LsRel (w : World) (lp : Nat) (rv : Value) (C F : Nat → Nat) (n : Nat) (i : Value) (wr : World) : Prop := ∃ k : Nat, k ≤ 302 ∧ i = .int .i64 (k : Int) ∧ BlkAt wr lp 71 (layL rv F (sumK C F n k)) ∧ Below w.heap.size w wr ∧ BlkAt wr w.heap.size 71 (layL (.slice none 0 0) (fun _ => 0) 0)
theorem sumK_le (C F : Nat → Nat) (n : Nat) (hC : ∀ j, C j ≤ 25000000) (hF : ∀ j, F j < 16) : ∀ k, sumK C F n k ≤ n + 375000000 * k
  | 0 => Nat.le_refl _
  | k + 1 => by
    have := sumK_le C F n hC hF k
    have h : C k * F k ≤ 25000000 * 15 := Nat.mul_le_mul (hC k) (by have := hF k; omega)
    show sumK C F n k + C k * F k ≤ _
    omega
theorem index68 (f : Nat → Nat) (k : Nat) (hk : k < 302) (w : World) : (Instr.index 68 (.agg (natL 302 f).toArray) (.int .i64 (k : Int))).run Tryd.prog w = .ok (.int .i64 (f k : Int)) w := by
  have hn : 0 ≤ (k : Int) ∧ (k : Int) < ((302 : Nat) : Int) := by omega
  obtain ⟨i, hi, hs⟩ := Option.map_eq_some_iff.1 size3
  have hc : (natL 302 f).toArray[k]? = some (.int .i64 (f k : Int)) := by rw [List.getElem?_toArray]; exact natL_get hk
  have hs' : (Go.sizeOf 3).run Tryd.prog w = .ok 1 w := by
    simp [Go.sizeOf, typeInfo, Sem.run_bind, hi, hs]
  have hp : (part 3 (natL 302 f).toArray k).run Tryd.prog w = .ok (.int .i64 (f k : Int)) w := by
    simp [part, isAgg, run_underlying Tryd.underlying3, Sem.run_bind, hc, go_sem]
  simp [Instr.index, run_underlying Tryd.underlying68, asIntOf, hn, Sem.run_bind, hs', hp, go_sem]
  rw [if_pos hk, natL_get hk]
  rfl
theorem wp_build1 {P : Program} {ops : Array Oper} {rest : List Oper} {o : Oper} {a : Act} {w : World} {Q : Exit → Act → World → Prop} (hg : o.guard = none) (t : TypeId) (k : Nat) (x : Operand) (ho : o.op = .build t #[(k, x)]) (v : Value) (hx : a.eval x = v) (cs : Array Value)
    (hb : P.built t [(k, v)] = some cs) (h : wpList P ops Q rest (a.put o.dst (.agg cs)) w) : wpList P ops Q (o :: rest) a w := by
  refine wpList_build hg t #[(k, x)] ho ?_ ?_
  · rw [show (Array.map (fun (x : Nat × Operand) => (x.1, a.eval x.2)) #[(k, x)]).toList = [(k, v)] by simp [hx], hb]; rfl
  · rw [show (Array.map (fun (x : Nat × Operand) => (x.1, a.eval x.2)) #[(k, x)]).toList = [(k, v)] by simp [hx], hb]; exact h
def RetLy (w : World) (rv : Value) (F : Nat → Nat) (n : Nat) (e : Ending) (w' : World) : Prop := e = .returned (.agg (layL rv F n).toArray) ∧ Below w.heap.size w w'
set_option maxHeartbeats 3200000 in
theorem layout39_ok {w : World} {bv rv : Value} {l : List UInt8} {reps : List Rep} (hb : SlB w bv l) (hl : l.length ≤ 16777215) (hr : SlR w rv reps) (T : Tabs w) (ho : RepsOk l 0 reps) (hrl : reps.length ≤ 16777215)
    (hcap : (symsR l 0 reps ++ lits l (posR 0 reps) (l.length - posR 0 reps)).length ≤ 25000000)
    (h1 : LenOk (partL (cntS (symsR l 0 reps ++ lits l (posR 0 reps) (l.length - posR 0 reps))) 0 272)) (h2 : LenOk (partL (cntS (symsR l 0 reps ++ lits l (posR 0 reps) (l.length - posR 0 reps))) 272 30))
    (hF : ∀ j, bestN (cntS (symsR l 0 reps ++ lits l (posR 0 reps) (l.length - posR 0 reps))) j < 16) :
    Calls Tryd.prog 39 #[bv, rv] w (RetLy w rv (bestN (cntS (symsR l 0 reps ++ lits l (posR 0 reps) (l.length - posR 0 reps)))) (bitsN (symsR l 0 reps ++ lits l (posR 0 reps) (l.length - posR 0 reps)) (bestN (cntS (symsR l 0 reps ++ lits l (posR 0 reps) (l.length - posR 0 reps)))))) := by
  have HB := Lib.hid hb
  have HR := Lib.hid hr
  have HT := Lib.hid T
  have HO := Lib.hid ho
  have HCP := Lib.hid hcap
  have BE := Lib.hid (fun (W : World) => best52_ok (w := W) h1 h2)
  have EA := Lib.hid (fun (W : World) I (X : I [] W) (ga gb : Value) (lp : Nat) (E : EachI W.heap.size bv l I) (R : EachR lp rv reps I) (D : DoOk51 W.heap.size 25000000 I ga gb) => each_51 E R D X ho hrl hcap)
  have HF := Lib.hid hF
  obtain ⟨S, hS⟩ : ∃ S, S = symsR l 0 reps ++ lits l (posR 0 reps) (l.length - posR 0 reps) := ⟨_, rfl⟩
  rw [← hS] at BE EA HF HCP ⊢
  clear hS h1 h2 hF hr T ho hcap hb
  obtain ⟨ba, bc, rfl, _, _⟩ := id HB.out
  obtain ⟨bv, hbv⟩ : ∃ bv, bv = Value.slice ba l.length bc := ⟨_, rfl⟩
  rw [← hbv] at HB EA ⊢
  obtain ⟨ra, rc, rfl, _⟩ := id HR.out
  have B71 := Lib.hid (built71 ra reps.length rc)
  have Z71 := Lib.hid zero71
  have Z68 := Lib.hid zero68
  clear hbv
  have hmf : ∀ (fn : Fn) (first cap : Array Value) (w : World), (Instr.makeFunc fn first cap).run Tryd.prog w = .ok (.func fn first cap) w := fun _ _ _ _ => rfl
  go_enter Tryd.func39, Tryd.ntmps39
  go_upto_region 1 with (guard_target =~ wpList _ _ _ (⟨some _, Op.alloc 71, _, _, _, _⟩ :: _) _ _; go_must (refine wp_alloc0 rfl 71 rfl _ Z71.out ?_; simp only [Value.cells]))
  have K0 := BlkAt.new w (layL (.slice none 0 0) (fun _ => 0) 0) 71
  have B0 := below_alloc w (.cells (layL (.slice none 0 0) (fun _ => 0) 0).toArray 71)
  have S0 : (w.alloc (.cells (layL (.slice none 0 0) (fun _ => 0) 0).toArray 71)).heap.size = w.heap.size + 1 := by simp
  have HK0 := Lib.hid K0
  have HB0 := Lib.hid B0
  clear K0 B0
  generalize w.alloc (.cells (layL (.slice none 0 0) (fun _ => 0) 0).toArray 71) = w1 at *
  obtain ⟨R, hR⟩ : ∃ R, R = w.heap.size := ⟨_, rfl⟩
  rw [← hR] at HK0 S0 ⊢
  have QR := Lib.hid hR
  clear hR
  have TH := Lib.hid (show (w1.alloc (.cells (layL (.slice none 0 0) (fun _ => 0) 0).toArray 71)).there (R + 1) 0 (layL (.slice ra reps.length rc) (fun _ => 0) 0).toArray.size by
    have := newB_there w1 71 (layL (.slice none 0 0) (fun _ => 0) 0)
    rw [S0] at this
    simpa [layL_len] using this)
  have KL := newB_blk w1 71 (layL (.slice none 0 0) (fun _ => 0) 0) (layL (.slice ra reps.length rc) (fun _ => 0) 0) (by rw [layL_len, layL_len])
  have BL := newB_below w1 71 (layL (.slice none 0 0) (fun _ => 0) 0) (layL (.slice ra reps.length rc) (fun _ => 0) 0)
  have SL := newB_lt w1 71 (layL (.slice none 0 0) (fun _ => 0) 0) (layL (.slice ra reps.length rc) (fun _ => 0) 0)
  rw [S0] at KL SL
  have SL2 : ((w1.alloc (.cells (layL (.slice none 0 0) (fun _ => 0) 0).toArray 71)).setCells (R + 1) 0 (layL (.slice ra reps.length rc) (fun _ => 0) 0)).heap.size = R + 2 := by rw [size_setCells]; simp [S0]
  have HKL := Lib.hid KL
  have HBL := Lib.hid BL
  rw [S0] at HBL
  clear KL BL SL
  go_upto_region 2 with (first
    | (guard_target =~ wpList _ _ _ (⟨some _, Op.build 71 _, _, _, _, _⟩ :: _) _ _; go_must (refine wp_build1 rfl 71 0 (.tmp 9) rfl _ rfl _ B71.out ?_))
    | (guard_target =~ wpList _ _ _ (⟨some _, Op.alloc 71, _, _, _, _⟩ :: _) _ _; go_must (refine wp_alloc0 rfl 71 rfl _ Z71.out ?_; simp only [Value.cells, S0]))
    | (guard_target =~ wpList _ _ _ (⟨none, Op.store 71 _ _, _, _, _, _⟩ :: _) _ _; go_must (refine wpList_store_mid rfl 71 _ _ rfl (R + 1) 0 (layL (.slice ra reps.length rc) (fun _ => 0) 0).toArray rfl rfl TH.out (info71a _ _ _) (layL_one rfl _ _) ?_; simp only [List.toList_toArray])))
  have B12 := Lib.hid (show Below w.heap.size w ((w1.alloc (.cells (layL (.slice none 0 0) (fun _ => 0) 0).toArray 71)).setCells (R + 1) 0 (layL (.slice ra reps.length rc) (fun _ => 0) 0)) from HB0.out.trans (HBL.out.mono (by rw [← QR.out]; omega)))
  generalize (w1.alloc (.cells (layL (.slice none 0 0) (fun _ => 0) 0).toArray 71)).setCells (R + 1) 0 (layL (.slice ra reps.length rc) (fun _ => 0) 0) = w2 at *
  have RB2 := Lib.hid (HK0.out.below (show Below w1.heap.size w1 w2 by rw [S0]; exact HBL.out))
  clear HB0 HK0 HBL TH
  go_upto_region 3 with (guard_target =~ wpList _ _ _ (⟨some _, Op.alloc 68, _, _, _, _⟩ :: _) _ _; go_must (refine wp_alloc0 rfl 68 rfl _ Z68.out ?_; simp only [Value.cells, SL2]))
  have CB := Lib.hid (show BlkAt (w2.alloc (.cells (natL 302 fun _ => 0).toArray 68)) (R + 2) 68 (natL 302 fun _ => 0) by have := BlkAt.new w2 (natL 302 fun _ => 0) 68; rw [SL2] at this; exact this)
  have LB := Lib.hid (HKL.out.alloc (.cells (natL 302 fun _ => 0).toArray 68))
  have RB := Lib.hid (RB2.out.alloc (.cells (natL 302 fun _ => 0).toArray 68))
  have BW := Lib.hid (B12.out.trans ((below_alloc w2 (.cells (natL 302 fun _ => 0).toArray 68)).mono B12.out.size))
  have S3 : (w2.alloc (.cells (natL 302 fun _ => 0).toArray 68)).heap.size = R + 3 := by simp [SL2]
  generalize w2.alloc (.cells (natL 302 fun _ => 0).toArray 68) = w3 at *
  clear RB2 B12 HKL SL2 S0
  have I0 := Lib.hid (show LyI w (R + 2) (R + 1) R (.slice ra reps.length rc) [] w3 from ⟨CB.out, LB.out, RB.out, BW.out, fun s h => by cases h⟩)
  have EC := Lib.hid (EA.out w3 (LyI w (R + 2) (R + 1) R (.slice ra reps.length rc)) I0.out (.pointer (some ⟨R + 2, 0, none⟩)) (.pointer (some ⟨R + 1, 0, none⟩)) (R + 1)
    (lyI_each HB.out hl (by omega) (by omega) (by omega) (by rw [← QR.out]; omega)) (lyI_reps HR.out HT.out) (lyI_do (by omega) (by omega) (by omega) (by omega) (by omega) (by rw [← QR.out]; omega) (by rw [← QR.out]; omega)))
  clear EA I0 CB LB RB BW
  go_wp2_with fail
  refine EC.out.mono ?_
  rintro e w4 ⟨rfl, hI⟩
  have CC := Lib.hid hI.cells
  have LA := Lib.hid hI.lay
  have RA := Lib.hid hI.res
  have BA := Lib.hid hI.below
  have OA := Lib.hid hI.ok
  clear hI EC
  obtain ⟨C, hC⟩ : ∃ C, C = cntS S := ⟨_, rfl⟩
  rw [← hC] at CC BE HF ⊢
  have QC := Lib.hid hC
  clear hC
  obtain ⟨F, hF⟩ : ∃ F, F = bestN C := ⟨_, rfl⟩
  rw [← hF] at BE HF ⊢
  have QF := Lib.hid hF
  clear hF
  have RG := Lib.hid CC.out.cells.range
  have BB := Lib.hid (BE.out w4)
  go_wp2_with (guard_target =~ wpList _ _ _ (⟨some _, Op.load 68 _, _, _, _, _⟩ :: _) _ _; go_must (refine wpList_load_mid rfl 68 _ rfl (R + 2) 0 rfl (natL 302 C) _ RG.out Tryd.underlying68 rfl (info68n _) ?_))
  refine BB.out.mono ?_
  rintro e w5 ⟨rfl, hb5⟩
  have CC5 := Lib.hid (CC.out.below hb5)
  have LA5 := Lib.hid (LA.out.below hb5)
  have RA5 := Lib.hid (RA.out.below hb5)
  have BA5 := Lib.hid (BA.out.trans (hb5.mono BA.out.size))
  have TH := Lib.hid (show w5.there (R + 1) 1 (natL 302 F).toArray.size from fun j hj => by
    have h := LA5.out.cells
    have hj' : j < 302 := by simpa [natL_len] using hj
    exact ⟨by rw [h.cell (1 + j) _ (layL_len' hj')]; rfl, h.free _⟩)
  clear CC LA RA BA RG BB BE hb5
  go_upto_region 5 with (guard_target =~ wpList _ _ _ (⟨none, Op.store 69 _ _, _, _, _, _⟩ :: _) _ _; go_must (refine wpList_store_mid rfl 69 _ _ rfl (R + 1) 1 (natL 302 F).toArray rfl rfl TH.out (info69a _) (natL_one _ _) ?_; simp only [List.toList_toArray]))
  have CC6 := Lib.hid (CC5.out.osets (c := R + 1) (natL 302 F) 1 (by omega))
  have LA6 := Lib.hid (LA5.out.layF (G := F))
  have RA6 := Lib.hid (RA5.out.osets (c := R + 1) (natL 302 F) 1 (by omega))
  have BA6 := Lib.hid (below_sets (R + 1) (show w.heap.size ≤ R + 1 by rw [← QR.out]; omega) (natL 302 F) 1 BA5.out)
  clear CC5 LA5 RA5 BA5 TH
  generalize w5.setCells (R + 1) 1 (natL 302 F) = w6 at *
  have RG := Lib.hid CC6.out.cells.range
  go_upto_region 6 with (guard_target =~ wpList _ _ _ (⟨some _, Op.load 68 _, _, _, _, _⟩ :: _) _ _; go_must (refine wpList_load_mid rfl 68 _ rfl (R + 2) 0 rfl (natL 302 C) _ RG.out Tryd.underlying68 rfl (info68n _) ?_))
  have HC := Lib.hid (show ∀ j, C j ≤ 25000000 from fun j => by rw [QC.out]; exact Nat.le_trans (cntS_le S j) HCP.out)
  have NB := Lib.hid (show bitsS S ≤ 375000000 from by have := bitsS_le S OA.out; have := HCP.out; omega)
  have NBits := Lib.hid (show bitsN S F = sumK C F (bitsS S) 302 + (runsK F 302).length * 2 * 4 from by rw [QC.out]; rfl)
  have SK := Lib.hid (sumK_le C F (bitsS S) HC.out HF.out)
  obtain ⟨N, hN⟩ : ∃ N, N = bitsN S F := ⟨_, rfl⟩
  rw [← hN] at NBits
  have QN := Lib.hid hN
  clear hN
  generalize bitsS S = n at *
  generalize hrv : Value.slice ra reps.length rc = rv at *
  have RV := Lib.hid hrv
  clear hrv
  have ST := Lib.hid (show LsRel w (R + 1) rv C F n (.int .i64 0) w6 from ⟨0, by omega, rfl, LA6.out, BA6.out, by rw [← QR.out]; exact RA6.out⟩)
  have RR := Lib.hid RA6.out
  clear LA6 BA6 CC6 RA6 RG
  go_loopw [7, 8, 18] (fun _ _ i wr => LsRel w (R + 1) rv C F n i wr) (fun _ _ i _ => (302 - intOf i).toNat)
  case atStart => exact ST.out
  case round =>
    clear ST
    obtain ⟨k, hk, rfl, hl, hb, hr⟩ := hrel
    by_cases hlt : k < 302
    · have cx := natL_get (f := C) hlt
      have k1 : (k : Int) < 302 := by omega
      have k2 : (0 : Int) ≤ (k : Int) := by omega
      have t1 : decide ((k : Int) < 302) = true := decide_eq_true k1
      have ix := index68 C k hlt wr
      go_upto_region 8 with fail
      clear ix
      have c303 := hl.cells.cell 303 _ (layL_bits _ _ _)
      have cF := hl.cells.cell (1 + k) _ (layL_len' hlt)
      have fr : wr.drew.frozen? ⟨R + 1, 303, none⟩ = false := hl.cells.free 303
      have lt : R + 1 < wr.drew.heap.size := hl.cells.lt
      have hsk := SK.out k
      have hx := HC.out k
      have hy := HF.out k
      have SE : sumK C F n (k + 1) = sumK C F n k + C k * F k := rfl
      have HLk := Lib.hid (hl.set 303 (.int .i64 ((sumK C F n (k + 1) : Nat) : Int)))
      rw [layL_set, SE] at HLk
      have HBk := Lib.hid hb
      have HRk := Lib.hid hr
      have QSE := Lib.hid SE
      clear SE hl hb hr cx
      generalize sumK C F n k = s at *
      generalize C k = x at *
      generalize F k = y at *
      have hz : x * y ≤ 25000000 * 15 := Nat.mul_le_mul hx (by omega)
      have e1 : (x : Int) * (y : Int) = ((x * y : Nat) : Int) := (Int.natCast_mul x y).symm
      obtain ⟨z, hzz⟩ : ∃ z, z = x * y := ⟨_, rfl⟩
      rw [← hzz] at hz HLk e1 QSE
      have QZ := Lib.hid hzz
      clear hzz
      have w1' : IntKind.i64.wrap ((x : Int) * (y : Int)) = (z : Int) := by rw [e1]; exact IntWalk.i64_in _ (by omega)
      clear e1
      have nb := NB.out
      have w2' : IntKind.i64.wrap ((s : Int) + (z : Int)) = (s : Int) + (z : Int) := IntWalk.i64_in _ (by omega)
      have e303 : wr.drew.cell? ⟨R + 1, 303, none⟩ = some (.int .i64 (s : Int)) := c303
      have eF : wr.drew.cell? ⟨R + 1, 1 + k, none⟩ = some (.int .i64 (y : Int)) := cF
      go_still_tail 10, (by kernel_rfl)
      change wpList _ _ _ _ _ wr.drew
      have FIN := Lib.hid (show LsRel w (R + 1) rv C F n (.int .i64 ((k : Int) + 1)) (wr.drew.setCell ⟨R + 1, 303, none⟩ (.int .i64 ((s : Int) + (z : Int)))) from
        ⟨k + 1, by omega, by congr 1, by rw [QSE.out]; exact HLk.out.drew, (HBk.out.drew).setCell (p := ⟨R + 1, 303, none⟩) (show w.heap.size ≤ R + 1 by rw [← QR.out]; omega) _, (HRk.out.drew).other (by rw [← QR.out]; omega) _ _⟩)
      have ME := Lib.hid (show (302 - ((k : Int) + 1)).toNat < (302 - (k : Int)).toNat by omega)
      clear HLk HBk HRk
      generalize wr.drew = w7 at *
      go_wp2_with fail
      exact ⟨FIN.out, ME.out⟩
    · obtain rfl : k = 302 := by omega
      have t1 : decide ((302 : Int) < 302) = false := by decide
      have RC := Lib.hid (runs_ok (w := wr.drew) (lp := R + 1) (o := 1) hl.cells.lt (fun j _ => by have := HF.out j; omega) (fun j hj => hl.cells.cell (1 + j) _ (layL_len' hj)))
      have hsk := SK.out 302
      have nb := NB.out
      have rl := (runsK_le F 302).1
      have HL := Lib.hid (show BlkAt wr.drew (R + 1) 71 (layL rv F (sumK C F n 302)) from hl)
      have HBl := Lib.hid (show Below w.heap.size w wr.drew from hb.drew)
      have c303 : wr.drew.cell? ⟨R + 1, 303, none⟩ = some (.int .i64 ((sumK C F n 302 : Nat) : Int)) := hl.cells.cell 303 _ (layL_bits _ _ _)
      have lt : R + 1 < wr.drew.heap.size := hl.cells.lt
      have RR' := Lib.hid (show BlkAt wr.drew R 71 (layL (.slice none 0 0) (fun _ => 0) 0) by rw [QR.out]; exact hr)
      clear hl hb hr
      obtain ⟨s, hs⟩ : ∃ s, s = sumK C F n 302 := ⟨_, rfl⟩
      rw [← hs] at hsk HL c303 NBits
      clear hs SK
      obtain ⟨m, hm⟩ : ∃ m, m = (runsK F 302).length := ⟨_, rfl⟩
      rw [← hm] at rl NBits
      have QM := Lib.hid hm
      clear hm
      go_upto_region 10 with fail
      have w1' : IntKind.i64.wrap ((m : Int) * 2) = (m : Int) * 2 := IntWalk.i64_in _ (by omega)
      have w2' : IntKind.i64.wrap ((m : Int) * 2 * 4) = (m : Int) * 2 * 4 := IntWalk.i64_in _ (by omega)
      have w3' : IntKind.i64.wrap ((s : Int) + (m : Int) * 2 * 4) = (s : Int) + (m : Int) * 2 * 4 := IntWalk.i64_in _ (by omega)
      have c00 : wr.drew.cell? ⟨R + 1, 0, none⟩ = some rv := HL.out.cells.cell 0 _ rfl
      go_region_law (go_simp; go_at_call 53; refine RC.out.mono ?_; rintro e w7 ⟨v, rfl, ho, hb7⟩; have L7 := Lib.hid (HL.out.below hb7); have B7 := Lib.hid (HBl.out.trans (hb7.mono HBl.out.size)); have R7 := Lib.hid ((show BlkAt wr.drew R 71 _ from RR'.out).below hb7); obtain ⟨va, vc, rfl⟩ := ho.form; rw [← QM.out]; have q303 : w7.cell? ⟨R + 1, 303, none⟩ = some (.int .i64 (s : Int)) := L7.out.cells.cell 303 _ (layL_bits _ _ _); have qf := L7.out.cells.free 303; have ql := L7.out.cells.lt; have q00 : w7.cell? ⟨R + 1, 0, none⟩ = some rv := L7.out.cells.cell 0 _ rfl; have s00 : (w7.setCell ⟨R + 1, 303, none⟩ (.int .i64 ((s : Int) + (m : Int) * 2 * 4))).cell? ⟨R + 1, 0, none⟩ = some rv := (World.cell?_setCell_other _ _ _ _ (by simp)).trans q00; clear ho hb7)
      all_goals
        have L8 := Lib.hid (show BlkAt (w7.setCell ⟨R + 1, 303, none⟩ (.int .i64 ((s : Int) + (m : Int) * 2 * 4))) (R + 1) 71 (layL rv F N) from by
          have h := L7.out.set 303 (.int .i64 ((s + m * 2 * 4 : Nat) : Int))
          rw [layL_set] at h
          rw [NBits.out]
          exact h)
        have R8 := Lib.hid (R7.out.other (c := R + 1) (by omega) 303 (.int .i64 ((s : Int) + (m : Int) * 2 * 4)))
        have B8 := Lib.hid (B7.out.setCell (p := ⟨R + 1, 303, none⟩) (show w.heap.size ≤ R + 1 by rw [← QR.out]; omega) (.int .i64 ((s : Int) + (m : Int) * 2 * 4)))
        clear L7 R7 B7 q303 qf ql q00 s00 c303 c00 HL HBl RC lt RR'
        generalize w7.setCell ⟨R + 1, 303, none⟩ (.int .i64 ((s : Int) + (m : Int) * 2 * 4)) = w8 at *
        have rv1 : rv.oneCell' = true := by rw [← RV.out]; rfl
        have RG := Lib.hid L8.out.cells.range
        have TH := Lib.hid (show w8.there R 0 (layL rv F N).toArray.size by have := R8.out.cells.there; simpa [layL_len] using this)
        have H1 := Lib.hid (R8.out.cells.sets (us := layL rv F N) (by rw [layL_len, layL_len]))
        have HB := Lib.hid (below_sets R (show w.heap.size ≤ R by rw [← QR.out]; omega) (layL rv F N) 0 B8.out)
        clear L8 R8 B8
        go_wp2_with (first
          | (guard_target =~ wpList _ _ _ (⟨some _, Op.load 71 _, _, _, _, _⟩ :: _) _ _; go_must (refine wpList_load_mid rfl 71 _ rfl (R + 1) 0 rfl (layL rv F N) _ RG.out Tryd.underlying71 rfl (info71n _ _ _) ?_))
          | (guard_target =~ wpList _ _ _ (⟨none, Op.store 71 _ _, _, _, _, _⟩ :: _) _ _; go_must (refine wpList_store_mid rfl 71 _ _ rfl R 0 (layL rv F N).toArray rfl rfl TH.out (info71a _ _ _) (layL_one rv1 _ _) ?_)))
        exact bodyPost_ret (results_range rfl _ _ R _ _ rfl H1.out.range Tryd.underlying71 rfl (info71n _ _ _)) rfl ⟨by rw [← QC.out, ← QF.out, QN.out], HB.out⟩
end Go.Proofs.YtfbeipfpkikakaaDoor
