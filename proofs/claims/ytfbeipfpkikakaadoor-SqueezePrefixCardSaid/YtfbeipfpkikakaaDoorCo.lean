/- Both codes of a body, read. -/
import Derived.Test.YtfbeipfpkikakaaDoorLn
import Derived.Deep.RegionHeld3
namespace Go.Proofs.YtfbeipfpkikakaaDoor
open Go.RowKit

set_option maxRecDepth 100000
theorem cntL_nat (ls : List Nat) : cntL ls = natL 16 (cnt ls) := rfl
theorem countLengths_n (b off cp n : Nat) (ls : List Nat) (hn : ls.length = n) (hls : ∀ x ∈ ls, x < 16) (hlen : ls.length ≤ 100000) (w : World) (hb : b < w.heap.size) (hc : ∀ (j x : Nat), ls[j]? = some x → w.cell? ⟨b, off + j, none⟩ = some (.int .i64 (x : Int))) :
    Calls Tryd.prog 30 #[.slice (some ⟨b, off, none⟩) n cp] w (RetBelow w (.agg (natL 16 (cnt ls)).toArray)) := by
  subst hn
  exact countLengths_ok b off cp ls hls hlen w hb hc
theorem newDecoder_n (b off cp n : Nat) (ls : List Nat) (hn : ls.length = n) (hls : ∀ x ∈ ls, x < 16) (hlen : ls.length ≤ 272) (w : World) (hb : b < w.heap.size) (hc : ∀ (j x : Nat), ls[j]? = some x → w.cell? ⟨b, off + j, none⟩ = some (.int .i64 (x : Int))) :
    Calls Tryd.prog 76 #[.slice (some ⟨b, off, none⟩) n cp, .agg (natL 16 (cnt ls)).toArray] w (RetDec w ls) := by
  subst hn
  exact newDecoder_ok b off cp ls hls hlen w hb hc
/-- A part of a row of numbers. -/
def partL (f : Nat → Nat) (off n : Nat) : List Nat := (List.range n).map fun j => f (off + j)
theorem partL_len (f : Nat → Nat) (off n : Nat) : (partL f off n).length = n := by simp [partL]
theorem partL_get {f : Nat → Nat} {off n j x : Nat} (h : (partL f off n)[j]? = some x) : j < n ∧ x = f (off + j) := by
  unfold partL at h
  rw [List.getElem?_map] at h
  rcases Nat.lt_or_ge j n with hj | hj
  · rw [List.getElem?_range hj] at h
    exact ⟨hj, by simpa using h.symm⟩
  · rw [List.getElem?_eq_none (by simpa using hj)] at h; cases h
theorem partL_lt {f : Nat → Nat} {off n : Nat} (hf : ∀ j, f j < 16) : ∀ x ∈ partL f off n, x < 16 := by
  intro x hx
  obtain ⟨j, _, rfl⟩ := List.mem_map.1 hx
  exact hf _
theorem CellsAt.part {w : World} {b n off m : Nat} {f : Nat → Nat} (h : CellsAt w b (natL n f)) (hm : off + m ≤ n) : ∀ (j x : Nat), (partL f off m)[j]? = some x → w.cell? ⟨b, off + j, none⟩ = some (.int .i64 (x : Int)) := by
  intro j x hx
  obtain ⟨hj, rfl⟩ := partL_get hx
  exact h.cell (off + j) _ (natL_get (by omega))
theorem valsK_lt (l : List UInt8) (a : Nat) : ∀ k j, valsK l a k j < 16
  | 0, _ => by show 0 < 16; omega
  | k + 1, j => by
    show (if doneK l a k ≤ j ∧ j < doneK l a (k + 1) then lenK l a k else valsK l a k j) < 16
    by_cases h : doneK l a k ≤ j ∧ j < doneK l a (k + 1)
    · rw [if_pos h]; exact lenK_lt l a k
    · rw [if_neg h]; exact valsK_lt l a k j
def firstL (l : List UInt8) (a q : Nat) : List Nat := partL (valsK l a q) 0 272
def secondL (l : List UInt8) (a q : Nat) : List Nat := partL (valsK l a q) 272 30
def RetCodes (w : World) (r b off cp a q : Nat) (l : List UInt8) (e : Ending) (w' : World) : Prop := ∃ d1 d2, e = .returned (.tuple #[.pointer (some ⟨d1, 0, none⟩), .pointer (some ⟨d2, 0, none⟩)]) ∧
  DecAt w' d1 (symF (firstL l a q) 272) (endsUp (cnt (firstL l a q)) 15) (shUp (cnt (firstL l a q)) 15) ∧ DecAt w' d2 (symF (secondL l a q) 30) (endsUp (cnt (secondL l a q)) 15) (shUp (cnt (secondL l a q)) 15) ∧
  w.heap.size ≤ d1 ∧ w.heap.size ≤ d2 ∧ (∃ f, Rdr w' r b off cp l (a + 8 * q) f) ∧ KeepX r w w'
theorem laid_there (w : World) (n t : Nat) (f : Nat → Nat) : (w.alloc (.cells (natL n fun _ => 0).toArray t)).there w.heap.size 0 (natL n f).toArray.size := by
  have := (CellsAt.newA w n (fun _ => 0) t).there
  simpa [natL_len] using this
theorem laid_at (w : World) (n t : Nat) (f : Nat → Nat) : CellsAt ((w.alloc (.cells (natL n fun _ => 0).toArray t)).setCells w.heap.size 0 (natL n f)) w.heap.size (natL n f) :=
  (CellsAt.newA w n (fun _ => 0) t).sets (by simp [natL_len])
theorem laid_below (w : World) (n t : Nat) (f : Nat → Nat) : Below w.heap.size w ((w.alloc (.cells (natL n fun _ => 0).toArray t)).setCells w.heap.size 0 (natL n f)) :=
  below_sets w.heap.size (Nat.le_refl _) (natL n f) 0 (below_alloc w _)
/-- Between the calls of codes. -/
structure CoIn (w : World) (r b off cp A : Nat) (l : List UInt8) (N : Nat) (V : Nat → Nat) (wr : World) : Prop where
  rdr : ∃ f, Rdr wr r b off cp l A f
  kx : KeepX r w wr
  arr : CellsAt wr N (natL 302 V)
  lo : w.heap.size ≤ N
theorem CoIn.step {w wr w' : World} {r b off cp A : Nat} {l : List UInt8} {N : Nat} {V : Nat → Nat} (h : CoIn w r b off cp A l N V wr) (k : Below wr.heap.size wr w') : CoIn w r b off cp A l N V w' :=
  ⟨h.rdr.elim fun f hf => ⟨f, hf.step k⟩, h.kx.up k h.kx.size, h.arr.step k, h.lo⟩
theorem DecAt.step {w w' : World} {d : Nat} {sy : Nat → Nat} {en sh : Nat → Int} (h : DecAt w d sy en sh) (k : Below w.heap.size w w') : DecAt w' d sy en sh := h.keepX (r := w.heap.size) (KeepX.below k) (Nat.ne_of_lt h.lt)
set_option maxHeartbeats 1600000 in
theorem codes_ok {w : World} {r b off cp a f q : Nat} {l : List UInt8} (h : Rdr w r b off cp l a f) (hq : doneK l a q = 302) (hl : a + 8 * q ≤ 8 * l.length)
    (g1 : isCode (cnt (firstL l a q)) = true) (g2 : isCode (cnt (secondL l a q)) = true ∨ symsN (cnt (secondL l a q)) 15 = 0) :
    Calls Tryd.prog 61 #[.pointer (some ⟨r, 0, none⟩)] w (RetCodes w r b off cp a q l) := by
  have LC := Lib.hid (lengths_ok h hq hl)
  have Z := Lib.hid zero69
  have hr := h.cells.lt
  have hbl := h.held.lt
  have VL := Lib.hid (valsK_lt l a q)
  have G1 := Lib.hid g1
  have G2 := Lib.hid g2
  have F1 := Lib.hid (show firstL l a q = partL (valsK l a q) 0 272 from rfl)
  have F2 := Lib.hid (show secondL l a q = partL (valsK l a q) 272 30 from rfl)
  clear h hq g1 g2
  obtain ⟨l1, hl1⟩ : ∃ l1, l1 = firstL l a q := ⟨_, rfl⟩
  obtain ⟨l2, hl2⟩ : ∃ l2, l2 = secondL l a q := ⟨_, rfl⟩
  rw [← hl1] at G1 F1
  rw [← hl2] at G2 F2
  have Q1 := Lib.hid hl1
  have Q2 := Lib.hid hl2
  clear hl1 hl2
  go_enter Tryd.func61, Tryd.ntmps61
  go_wp2_with fail
  refine LC.out.mono ?_
  rintro e w1 ⟨rfl, ⟨f1, h1⟩, k1⟩
  obtain ⟨V, hV⟩ : ∃ V, V = valsK l a q := ⟨_, rfl⟩
  rw [← hV] at VL F1 F2 ⊢
  have R1 := Lib.hid h1
  have K1 := Lib.hid k1
  clear hV h1 k1 LC
  have T1 := Lib.hid (laid_there w1 302 69 V)
  have I1 := Lib.hid (show CoIn w r b off cp (a + 8 * q) l w1.heap.size V ((w1.alloc (.cells (natL 302 fun _ => 0).toArray 69)).setCells w1.heap.size 0 (natL 302 V)) from
    ⟨⟨f1, R1.out.step (laid_below w1 302 69 V)⟩, K1.out.up (laid_below w1 302 69 V) K1.out.size, laid_at w1 302 69 V, K1.out.size⟩)
  clear R1 K1
  go_upto_region 2 with (first
    | (guard_target =~ wpList _ _ _ (⟨some _, Op.alloc 69, _, _, _, _⟩ :: _) _ _; go_must (refine wp_alloc0 rfl 69 rfl _ Z.out ?_; simp only [Value.cells]))
    | (guard_target =~ wpList _ _ _ (⟨none, Op.store 69 _ _, _, _, _, _⟩ :: _) _ _; go_must (refine wpList_store_mid rfl 69 _ _ rfl w1.heap.size 0 (natL 302 V).toArray rfl rfl T1.out (info69a _) (natL_one _ _) ?_)))
  generalize (w1.alloc (.cells (natL 302 fun _ => 0).toArray 69)).setCells w1.heap.size 0 (natL 302 V) = x1 at *
  generalize w1.heap.size = N at *
  clear T1 Z
  have hN := I1.out.arr.lt
  have CL1 := Lib.hid (countLengths_n N 0 302 272 l1 (by rw [F1.out, partL_len]) (by rw [F1.out]; exact partL_lt VL.out) (by rw [F1.out, partL_len]; omega) x1 hN (by rw [F1.out]; exact I1.out.arr.part (by omega)))
  go_wp2_with fail
  refine CL1.out.mono ?_
  rintro e x2 ⟨rfl, hb2⟩
  have I2 := Lib.hid (I1.out.step hb2)
  clear hb2 CL1 I1 hN
  have T2 := Lib.hid (laid_there x2 16 60 (cnt l1))
  have C2 := Lib.hid (laid_at x2 16 60 (cnt l1))
  have I3 := Lib.hid (I2.out.step (laid_below x2 16 60 (cnt l1)))
  have Z := Lib.hid zero60
  clear I2
  go_upto_region 3 with (first
    | (guard_target =~ wpList _ _ _ (⟨some _, Op.alloc 60, _, _, _, _⟩ :: _) _ _; go_must (refine wp_alloc0 rfl 60 rfl _ Z.out ?_; simp only [Value.cells]))
    | (guard_target =~ wpList _ _ _ (⟨none, Op.store 60 _ _, _, _, _, _⟩ :: _) _ _; go_must (refine wpList_store_mid rfl 60 _ _ rfl x2.heap.size 0 (natL 16 (cnt l1)).toArray rfl rfl T2.out (info60a _) (natL_one _ _) ?_)))
  generalize (x2.alloc (.cells (natL 16 fun _ => 0).toArray 60)).setCells x2.heap.size 0 (natL 16 (cnt l1)) = x3 at *
  generalize x2.heap.size = M1 at *
  clear T2
  have hN := I3.out.arr.lt
  have CL2 := Lib.hid (countLengths_n N 272 30 30 l2 (by rw [F2.out, partL_len]) (by rw [F2.out]; exact partL_lt VL.out) (by rw [F2.out, partL_len]; omega) x3 hN (by rw [F2.out]; exact I3.out.arr.part (by omega)))
  go_wp2_with fail
  refine CL2.out.mono ?_
  rintro e x4 ⟨rfl, hb4⟩
  have I4 := Lib.hid (I3.out.step hb4)
  have C4 := Lib.hid (C2.out.step hb4)
  clear hb4 CL2 I3 hN C2
  have T4 := Lib.hid (laid_there x4 16 60 (cnt l2))
  have D4 := Lib.hid (laid_at x4 16 60 (cnt l2))
  have C5 := Lib.hid (C4.out.step (laid_below x4 16 60 (cnt l2)))
  have I5 := Lib.hid (I4.out.step (laid_below x4 16 60 (cnt l2)))
  clear I4 C4
  go_upto_region 4 with (first
    | (guard_target =~ wpList _ _ _ (⟨some _, Op.alloc 60, _, _, _, _⟩ :: _) _ _; go_must (refine wp_alloc0 rfl 60 rfl _ Z.out ?_; simp only [Value.cells]))
    | (guard_target =~ wpList _ _ _ (⟨none, Op.store 60 _ _, _, _, _, _⟩ :: _) _ _; go_must (refine wpList_store_mid rfl 60 _ _ rfl x4.heap.size 0 (natL 16 (cnt l2)).toArray rfl rfl T4.out (info60a _) (natL_one _ _) ?_)))
  generalize (x4.alloc (.cells (natL 16 fun _ => 0).toArray 60)).setCells x4.heap.size 0 (natL 16 (cnt l2)) = x5 at *
  generalize x4.heap.size = M2 at *
  clear T4
  have RG1 := Lib.hid C5.out.range
  have RG2 := Lib.hid D4.out.range
  go_wp2_with (first
    | (guard_target =~ wpList _ _ _ (⟨some _, Op.load 60 _, _, _, _, _⟩ :: _) _ _; go_must (refine wpList_load_mid_g (by rfl) 60 _ rfl M1 0 rfl (natL 16 (cnt l1)) _ RG1.out Tryd.underlying60 rfl (info60n _) ?_)))
  refine (code_ok _ (cnt_le l1 (by rw [F1.out, partL_len]; omega)) _).mono ?_
  rintro e x6 ⟨rfl, hb6⟩
  have I6 := Lib.hid (I5.out.step hb6)
  have C6 := Lib.hid (C5.out.step hb6)
  have D6 := Lib.hid (D4.out.step hb6)
  clear hb6 I5 C5 D4 RG1 RG2
  have RG2 := Lib.hid D6.out.range
  rw [G1.out]
  have CE := Lib.hid (code_ok _ (cnt_le l2 (by rw [F2.out, partL_len]; omega)))
  have SE := Lib.hid (symbols_ok _ (cnt_le l2 (by rw [F2.out, partL_len]; omega)))
  go_wp2_with (first
    | (guard_target =~ wpList _ _ _ (⟨some _, Op.load 60 _, _, _, _, _⟩ :: _) _ _; go_must (refine wpList_load_mid_g (by rfl) 60 _ rfl M2 0 rfl (natL 16 (cnt l2)) _ RG2.out Tryd.underlying60 rfl (info60n _) ?_)))
  refine (CE.out _).mono ?_
  rintro e x7 ⟨rfl, hb7⟩
  have I7 := Lib.hid (I6.out.step hb7)
  have C7 := Lib.hid (C6.out.step hb7)
  have D7 := Lib.hid (D6.out.step hb7)
  clear hb7 I6 C6 D6 RG2 CE
  have RG2 := Lib.hid D7.out.range
  have u60 := Tryd.underlying60
  have i61 := info60n (cnt l1)
  have i62 := info60n (cnt l2)
  by_cases hc2 : isCode (cnt l2) = true
  · rw [hc2]
    go_wp2_with fail
    have N9 := Lib.hid (newDecoder_n N 0 302 272 l1 (by rw [F1.out, partL_len]) (by rw [F1.out]; exact partL_lt VL.out) (by rw [F1.out, partL_len]; omega) x7.drew I7.out.arr.lt (by rw [F1.out]; exact I7.out.arr.drew.part (by omega)))
    have rg1 := C7.out.range
    have rg2 := D7.out.range
    have rd1 : x7.drew.rangeAt M1 0 (natL 16 (cnt l1)) := rg1
    have rd2 : x7.drew.rangeAt M2 0 (natL 16 (cnt l2)) := rg2
    have ID := Lib.hid (I7.out.step (below_drewN x7 1))
    have CD := Lib.hid C7.out.drew
    have DD := Lib.hid D7.out.drew
    clear RG2 SE Z G1 G2 hr hbl
    refine wp_region_held_drew (S := fun w' => w'.rangeAt M1 0 (natL 16 (cnt l1)) ∧ w'.rangeAt M2 0 (natL 16 (cnt l2))) (by kernel_rfl) ⟨rd1, rd2⟩ (fun hHeld => ?_)
    refine wpAnyH_take (i := 4) (v := .agg (natL 16 (cnt l2)).toArray) rfl (by kernel_rfl) (by kernel_rfl) (by kernel_rfl) (fun _ _ _ h => h) (yieldsIf_load_mid (by rfl) _ _ rfl M2 0 rfl (natL 16 (cnt l2)) _ (fun _ h => h.2) u60 rfl i62) hHeld ?_
    refine wpAnyH_take (i := 1) (v := .agg (natL 16 (cnt l1)).toArray) rfl (by kernel_rfl) (by kernel_rfl) (by kernel_rfl) (fun _ _ _ h => h) (yieldsIf_load_mid (by rfl) _ _ rfl M1 0 rfl (natL 16 (cnt l1)) _ (fun _ h => h.1) u60 rfl i61) hHeld ?_
    refine wpAnyH_take (i := 0) (v := .slice (some ⟨N, 0, none⟩) 272 302) rfl (by kernel_rfl) (by kernel_rfl) (by kernel_rfl) (fun _ _ _ h => h) (Or.inl ⟨by rfl, fun w hS => by go_simp⟩) hHeld ?_
    refine wpAnyH_take (i := 3) (v := .slice (some ⟨N, 272, none⟩) 30 30) rfl (by kernel_rfl) (by kernel_rfl) (by kernel_rfl) (fun _ _ _ h => h) (Or.inl ⟨by rfl, fun w hS => by go_simp⟩) hHeld ?_
    (try simp only [Act.put, List.setIfInBounds_toArray, List.set_cons_zero, List.set_cons_succ])
    refine wpAnyH_ready (rs := [2]) (by kernel_rfl) (by simp) ?_
    refine AllReadyH.cons rfl (fun K hK => ?_) AllReadyH.nil
    go_simp
    refine N9.out.mono ?_
    rintro e y1 ⟨d1, rfl, hd1, hD1, hb1⟩
    have I10 := Lib.hid (ID.out.step hb1)
    have C10 := Lib.hid (CD.out.step hb1)
    have D10 := Lib.hid (DD.out.step hb1)
    have E1 := Lib.hid hD1
    have L1 := Lib.hid (show x7.heap.size ≤ d1 from hd1)
    clear hb1 hD1 hd1 N9 ID CD DD
    refine hK.out _ _ ⟨C10.out.range, D10.out.range⟩ (fun hHeld2 => ?_)
    clear hK K
    (try simp only [Act.put, List.setIfInBounds_toArray, List.set_cons_zero, List.set_cons_succ])
    refine wpAnyH_ready (rs := [5]) (by kernel_rfl) (by simp) ?_
    refine AllReadyH.cons rfl (fun K hK => ?_) AllReadyH.nil
    go_simp
    refine (newDecoder_n N 272 30 30 l2 (by rw [F2.out, partL_len]) (by rw [F2.out]; exact partL_lt VL.out) (by rw [F2.out, partL_len]; omega) y1 I10.out.arr.lt (by rw [F2.out]; exact I10.out.arr.part (by omega))).mono ?_
    rintro e y2 ⟨d2, rfl, hd2, hD2, hb2⟩
    have I11 := Lib.hid (I10.out.step hb2)
    have E3 := Lib.hid (E1.out.step hb2)
    have E2 := Lib.hid hD2
    have L2 := Lib.hid (show x7.heap.size ≤ d2 from Nat.le_trans (Nat.le_of_lt (Nat.lt_of_le_of_lt L1.out E1.out.lt)) hd2)
    have LX := Lib.hid (show w.heap.size ≤ x7.heap.size from I7.out.kx.size)
    have rg5 := (C10.out.step hb2).range
    have rg6 := (D10.out.step hb2).range
    clear hb2 hD2 hd2 E1 I10 C10 D10
    refine hK.out _ _ ⟨rg5, rg6⟩ (fun hHeld3 => ?_)
    clear hK K
    (try simp only [Act.put, List.setIfInBounds_toArray, List.set_cons_zero, List.set_cons_succ])
    refine wpAnyH_take (i := 6) (oi := ⟨some 2, Op.assign (Operand.tmp 34), _, _, _, _⟩) (v := .pointer (some ⟨d1, 0, none⟩)) rfl (by kernel_rfl) (by kernel_rfl) (by kernel_rfl) (fun _ _ _ h => h) (Or.inl ⟨by rfl, fun w hS => by go_simp⟩) hHeld3 ?_
    refine wpAnyH_take (i := 7) (oi := ⟨some 3, Op.assign (Operand.tmp 37), _, _, _, _⟩) (v := .pointer (some ⟨d2, 0, none⟩)) rfl (by kernel_rfl) (by kernel_rfl) (by kernel_rfl) (fun _ _ _ h => h) (Or.inl ⟨by rfl, fun w hS => by go_simp⟩) hHeld3 ?_
    simp only [Act.put, List.setIfInBounds_toArray, List.set_cons_zero, List.set_cons_succ]
    refine wpAnyH_done (by kernel_rfl) ?_ _
    clear hHeld hHeld2 hHeld3 rg1 rg2 rd1 rd2 rg5 rg6
    have e1 : l1.length = 272 := by rw [F1.out, partL_len]
    have e2 : l2.length = 30 := by rw [F2.out, partL_len]
    have FIN := Lib.hid (show RetCodes w r b off cp a q l (.returned (.tuple #[.pointer (some ⟨d1, 0, none⟩), .pointer (some ⟨d2, 0, none⟩)])) y2 from by
      have E3' := E3.out
      have E2' := E2.out
      rw [e1] at E3'
      rw [e2] at E2'
      rw [Q1.out] at E3'
      rw [Q2.out] at E2'
      exact ⟨d1, d2, rfl, E3', E2', Nat.le_trans LX.out L1.out, Nat.le_trans LX.out L2.out, I11.out.rdr, I11.out.kx⟩)
    clear e1 e2 u60 i61 i62
    go_wp2_with fail
    go_ret2
    exact FIN.out
  · rw [Bool.eq_false_iff.2 hc2]
    have S0 := Lib.hid (G2.out.resolve_left hc2)
    go_wp2_with (first
      | (guard_target =~ wpList _ _ _ (⟨some _, Op.load 60 _, _, _, _, _⟩ :: _) _ _; go_must (refine wpList_load_mid_g (by rfl) 60 _ rfl M2 0 rfl (natL 16 (cnt l2)) _ RG2.out Tryd.underlying60 rfl (info60n _) ?_)))
    refine (SE.out _).mono ?_
    rintro e x8 ⟨rfl, hb8⟩
    have I8 := Lib.hid (I7.out.step hb8)
    have C8 := Lib.hid (C7.out.step hb8)
    have D8 := Lib.hid (D7.out.step hb8)
    clear hb8
    rw [S0.out]
    go_wp2_with fail
    have N9 := Lib.hid (newDecoder_n N 0 302 272 l1 (by rw [F1.out, partL_len]) (by rw [F1.out]; exact partL_lt VL.out) (by rw [F1.out, partL_len]; omega) x8.drew I8.out.arr.lt (by rw [F1.out]; exact I8.out.arr.drew.part (by omega)))
    have rg1 := C8.out.range
    have rg2 := D8.out.range
    have rd1 : x8.drew.rangeAt M1 0 (natL 16 (cnt l1)) := rg1
    have rd2 : x8.drew.rangeAt M2 0 (natL 16 (cnt l2)) := rg2
    have ID := Lib.hid (I8.out.step (below_drewN x8 1))
    have CD := Lib.hid C8.out.drew
    have DD := Lib.hid D8.out.drew
    clear RG2 SE Z G1 G2 hr hbl
    refine wp_region_held_drew (S := fun w' => w'.rangeAt M1 0 (natL 16 (cnt l1)) ∧ w'.rangeAt M2 0 (natL 16 (cnt l2))) (by kernel_rfl) ⟨rd1, rd2⟩ (fun hHeld => ?_)
    refine wpAnyH_take (i := 4) (v := .agg (natL 16 (cnt l2)).toArray) rfl (by kernel_rfl) (by kernel_rfl) (by kernel_rfl) (fun _ _ _ h => h) (yieldsIf_load_mid (by rfl) _ _ rfl M2 0 rfl (natL 16 (cnt l2)) _ (fun _ h => h.2) u60 rfl i62) hHeld ?_
    refine wpAnyH_take (i := 1) (v := .agg (natL 16 (cnt l1)).toArray) rfl (by kernel_rfl) (by kernel_rfl) (by kernel_rfl) (fun _ _ _ h => h) (yieldsIf_load_mid (by rfl) _ _ rfl M1 0 rfl (natL 16 (cnt l1)) _ (fun _ h => h.1) u60 rfl i61) hHeld ?_
    refine wpAnyH_take (i := 0) (v := .slice (some ⟨N, 0, none⟩) 272 302) rfl (by kernel_rfl) (by kernel_rfl) (by kernel_rfl) (fun _ _ _ h => h) (Or.inl ⟨by rfl, fun w hS => by go_simp⟩) hHeld ?_
    refine wpAnyH_take (i := 3) (v := .slice (some ⟨N, 272, none⟩) 30 30) rfl (by kernel_rfl) (by kernel_rfl) (by kernel_rfl) (fun _ _ _ h => h) (Or.inl ⟨by rfl, fun w hS => by go_simp⟩) hHeld ?_
    (try simp only [Act.put, List.setIfInBounds_toArray, List.set_cons_zero, List.set_cons_succ])
    refine wpAnyH_ready (rs := [2]) (by kernel_rfl) (by simp) ?_
    refine AllReadyH.cons rfl (fun K hK => ?_) AllReadyH.nil
    go_simp
    refine N9.out.mono ?_
    rintro e y1 ⟨d1, rfl, hd1, hD1, hb1⟩
    have I10 := Lib.hid (ID.out.step hb1)
    have C10 := Lib.hid (CD.out.step hb1)
    have D10 := Lib.hid (DD.out.step hb1)
    have E1 := Lib.hid hD1
    have L1 := Lib.hid (show x8.heap.size ≤ d1 from hd1)
    clear hb1 hD1 hd1 N9 ID CD DD
    refine hK.out _ _ ⟨C10.out.range, D10.out.range⟩ (fun hHeld2 => ?_)
    clear hK K
    (try simp only [Act.put, List.setIfInBounds_toArray, List.set_cons_zero, List.set_cons_succ])
    refine wpAnyH_ready (rs := [5]) (by kernel_rfl) (by simp) ?_
    refine AllReadyH.cons rfl (fun K hK => ?_) AllReadyH.nil
    go_simp
    refine (newDecoder_n N 272 30 30 l2 (by rw [F2.out, partL_len]) (by rw [F2.out]; exact partL_lt VL.out) (by rw [F2.out, partL_len]; omega) y1 I10.out.arr.lt (by rw [F2.out]; exact I10.out.arr.part (by omega))).mono ?_
    rintro e y2 ⟨d2, rfl, hd2, hD2, hb2⟩
    have I11 := Lib.hid (I10.out.step hb2)
    have E3 := Lib.hid (E1.out.step hb2)
    have E2 := Lib.hid hD2
    have L2 := Lib.hid (show x8.heap.size ≤ d2 from Nat.le_trans (Nat.le_of_lt (Nat.lt_of_le_of_lt L1.out E1.out.lt)) hd2)
    have LX := Lib.hid (show w.heap.size ≤ x8.heap.size from I8.out.kx.size)
    have rg5 := (C10.out.step hb2).range
    have rg6 := (D10.out.step hb2).range
    clear hb2 hD2 hd2 E1 I10 C10 D10
    refine hK.out _ _ ⟨rg5, rg6⟩ (fun hHeld3 => ?_)
    clear hK K
    (try simp only [Act.put, List.setIfInBounds_toArray, List.set_cons_zero, List.set_cons_succ])
    refine wpAnyH_take (i := 6) (oi := ⟨some 2, Op.assign (Operand.tmp 34), _, _, _, _⟩) (v := .pointer (some ⟨d1, 0, none⟩)) rfl (by kernel_rfl) (by kernel_rfl) (by kernel_rfl) (fun _ _ _ h => h) (Or.inl ⟨by rfl, fun w hS => by go_simp⟩) hHeld3 ?_
    refine wpAnyH_take (i := 7) (oi := ⟨some 3, Op.assign (Operand.tmp 37), _, _, _, _⟩) (v := .pointer (some ⟨d2, 0, none⟩)) rfl (by kernel_rfl) (by kernel_rfl) (by kernel_rfl) (fun _ _ _ h => h) (Or.inl ⟨by rfl, fun w hS => by go_simp⟩) hHeld3 ?_
    simp only [Act.put, List.setIfInBounds_toArray, List.set_cons_zero, List.set_cons_succ]
    refine wpAnyH_done (by kernel_rfl) ?_ _
    clear hHeld hHeld2 hHeld3 rg1 rg2 rd1 rd2 rg5 rg6
    have e1 : l1.length = 272 := by rw [F1.out, partL_len]
    have e2 : l2.length = 30 := by rw [F2.out, partL_len]
    have FIN := Lib.hid (show RetCodes w r b off cp a q l (.returned (.tuple #[.pointer (some ⟨d1, 0, none⟩), .pointer (some ⟨d2, 0, none⟩)])) y2 from by
      have E3' := E3.out
      have E2' := E2.out
      rw [e1] at E3'
      rw [e2] at E2'
      rw [Q1.out] at E3'
      rw [Q2.out] at E2'
      exact ⟨d1, d2, rfl, E3', E2', Nat.le_trans LX.out L1.out, Nat.le_trans LX.out L2.out, I11.out.rdr, I11.out.kx⟩)
    clear e1 e2 u60 i61 i62
    go_wp2_with fail
    go_ret2
    exact FIN.out
end Go.Proofs.YtfbeipfpkikakaaDoor
