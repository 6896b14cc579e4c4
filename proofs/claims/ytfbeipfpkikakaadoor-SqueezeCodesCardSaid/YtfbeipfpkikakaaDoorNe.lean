/- A decoder of lengths: the walk. -/
import Derived.Test.YtfbeipfpkikakaaDoorAr
namespace Go.Proofs.YtfbeipfpkikakaaDoor
open Go.RowKit

set_option maxRecDepth 100000
/-- While the ends and the shifts are laid: B, the box of how many; B + 1, the decoder; N, the next codes. -/
def NdRel (w : World) (B N : Nat) (m : Nat → Nat) (d i : Value) (wr : World) : Prop := ∃ L : Nat, 1 ≤ L ∧ L ≤ 16 ∧ i = .int .i64 (L : Int) ∧ d = .int .i64 (symsN m (L - 1) : Int) ∧
  CellsAt wr N (natL 16 (firstN m)) ∧ CellsAt wr B (natL 16 m) ∧ FnAt wr (B + 1) 304 (decF (fun _ => 0) (endsUp m (L - 1)) (shUp m (L - 1))) ∧ Below B w wr
/-- While the symbols are laid. -/
def NsRel (w : World) (B N : Nat) (ls : List Nat) (i : Value) (wr : World) : Prop := ∃ k : Nat, k ≤ ls.length ∧ i = .int .i64 (k : Int) ∧
  CellsAt wr N (natL 16 fun j => if j = 0 then 0 else firstN (cnt ls) j + (ls.take k).count j) ∧ FnAt wr (B + 1) 304 (decF (symF ls k) (endsUp (cnt ls) 15) (shUp (cnt ls) 15)) ∧ Below B w wr
def RetDec (w : World) (ls : List Nat) (e : Ending) (w' : World) : Prop := ∃ d, e = .returned (.pointer (some ⟨d, 0, none⟩)) ∧ w.heap.size ≤ d ∧ DecAt w' d (symF ls ls.length) (endsUp (cnt ls) 15) (shUp (cnt ls) 15) ∧ Below w.heap.size w w'
theorem endsUp_zero (m : Nat → Nat) : endsUp m 0 = fun _ => 0 := by funext j; unfold endsUp; rw [if_neg (by omega)]
theorem shUp_zero (m : Nat → Nat) : shUp m 0 = fun _ => 0 := by funext j; unfold shUp; rw [if_neg (by omega)]
def dec0 : Array Value := ((List.range 304).map (decF (fun _ => 0) (fun _ => 0) (fun _ => 0))).toArray
theorem dec0_at (w : World) : FnAt (w.alloc (.cells dec0 130)) w.heap.size 304 (decF (fun _ => 0) (fun _ => 0) (fun _ => 0)) :=
  FnAt.new w 304 _ _ 130 fun j hj => by rw [List.getElem?_map, List.getElem?_range hj]; rfl
theorem NdRel.next {w wr : World} {B N L : Nat} {m : Nat → Nat} (h1 : 1 ≤ L) (h2 : L < 16) (hn : CellsAt wr N (natL 16 (firstN m))) (hm : CellsAt wr B (natL 16 m))
    (hd : FnAt wr (B + 1) 304 (updV (updV (decF (fun _ => 0) (endsUp m (L - 1)) (shUp m (L - 1))) (272 + L) (.int .i64 (endN m L : Int))) (288 + L) (.int .i64 ((symsN m (L - 1) : Int) - (firstN m L : Int))))) (hb : Below B w wr) :
    NdRel w B N m (.int .i64 ((symsN m (L - 1) : Int) + (m L : Int))) (.int .i64 ((L : Int) + 1)) wr := by
  obtain ⟨k, rfl⟩ : ∃ k, L = k + 1 := ⟨L - 1, by omega⟩
  rw [Nat.add_sub_cancel] at hd ⊢
  rw [decF_end (by omega), endsUp_step] at hd
  have hd2 := hd.congr (decF_shift (by omega))
  rw [show ((symsN m k : Int) - (firstN m (k + 1) : Int)) = shN m (k + 1) from rfl, shUp_step] at hd2
  exact ⟨k + 1 + 1, by omega, by omega, by go_num, by rw [Nat.add_sub_cancel, show symsN m (k + 1) = symsN m k + m (k + 1) from rfl]; go_num, hn, hm, hd2, hb⟩
theorem nextC_zero (ls : List Nat) : (natL 16 fun j => if j = 0 then 0 else firstN (cnt ls) j + (ls.take 0).count j) = natL 16 (firstN (cnt ls)) := natL_congr fun j _ => by
  by_cases e : j = 0
  · subst e; rfl
  · rw [if_neg e]; rfl
theorem nextC_skip {ls : List Nat} {k : Nat} (hk : k < ls.length) (h0 : ls[k] = 0) : (natL 16 fun j => if j = 0 then 0 else firstN (cnt ls) j + (ls.take (k + 1)).count j) = (natL 16 fun j => if j = 0 then 0 else firstN (cnt ls) j + (ls.take k).count j) := natL_congr fun j _ => by
  by_cases e : j = 0
  · rw [if_pos e, if_pos e]
  · rw [if_neg e, if_neg e, cnt_take_snoc hk, if_neg (by rw [h0]; exact e), Nat.add_zero]
theorem nextC_step {ls : List Nat} {k : Nat} (hk : k < ls.length) (h0 : 0 < ls[k]) : natL 16 (upd (fun j => if j = 0 then 0 else firstN (cnt ls) j + (ls.take k).count j) ls[k] (firstN (cnt ls) ls[k] + (ls.take k).count ls[k] + 1)) = (natL 16 fun j => if j = 0 then 0 else firstN (cnt ls) j + (ls.take (k + 1)).count j) := natL_congr fun j _ => by
  unfold upd
  by_cases e : j = ls[k]
  · rw [if_pos e, if_neg (by omega), cnt_take_snoc hk, if_pos e, e]; rfl
  · rw [if_neg e]
    show (if j = 0 then 0 else firstN (cnt ls) j + (ls.take k).count j) = _
    rw [cnt_take_snoc hk, if_neg e, Nat.add_zero]
theorem symF_skip {ls : List Nat} {k : Nat} (hk : k < ls.length) (h0 : ls[k] = 0) : symF ls (k + 1) = symF ls k := by
  have : ls.getD k 0 = 0 := by rw [List.getD_eq_getElem?_getD, List.getElem?_eq_getElem hk]; exact h0
  show (if 0 < ls.getD k 0 then _ else _) = _
  rw [this]; rfl
theorem symF_step {ls : List Nat} {k : Nat} (hk : k < ls.length) (h0 : 0 < ls[k]) : symF ls (k + 1) = upd (symF ls k) (symsN (cnt ls) (ls[k] - 1) + (ls.take k).count ls[k]) k := by
  have : ls.getD k 0 = ls[k] := by rw [List.getD_eq_getElem?_getD, List.getElem?_eq_getElem hk]; rfl
  show (if 0 < ls.getD k 0 then _ else _) = _
  rw [this, if_pos h0]
theorem firstN_lt (m : Nat → Nat) (hm : ∀ j, m j ≤ 100000) (l : Nat) (h : l ≤ 16) : firstN m l ≤ 6553600000 := by
  cases l with
  | zero => exact Nat.zero_le _
  | succ k => have := codeN_lt m hm k (by omega); show 2 * codeN m k ≤ _; omega
theorem wp_build0 {P : Program} {ops : Array Oper} {rest : List Oper} {o : Oper} {a : Act} {w : World} {Q : Exit → Act → World → Prop} (hg : o.guard = none) (t : TypeId) (ho : o.op = .build t #[]) (cs : Array Value)
    (hb : P.built t [] = some cs) (h : wpList P ops Q rest (a.put o.dst (.agg cs)) w) : wpList P ops Q (o :: rest) a w := by
  refine wpList_build hg t #[] ho ?_ ?_
  · rw [show (Array.map (fun (x : Nat × Operand) => (x.1, a.eval x.2)) #[]).toList = [] by simp, hb]; rfl
  · rw [show (Array.map (fun (x : Nat × Operand) => (x.1, a.eval x.2)) #[]).toList = [] by simp, hb]; exact h
theorem built130' : Tryd.prog.built 130 [] = some dec0 := by kernel_rfl
set_option maxHeartbeats 1600000 in
theorem newDecoder_ok (b off cp : Nat) (ls : List Nat) (hls : ∀ x ∈ ls, x < 16) (hlen : ls.length ≤ 272) (w : World) (hb : b < w.heap.size) (hc : ∀ (j x : Nat), ls[j]? = some x → w.cell? ⟨b, off + j, none⟩ = some (.int .i64 (x : Int))) :
    Calls Tryd.prog 76 #[.slice (some ⟨b, off, none⟩) ls.length cp, .agg (natL 16 (cnt ls)).toArray] w (RetDec w ls) := by
  have HC := Lib.hid hc
  have HX := Lib.hid hls
  have HM := Lib.hid (cnt_le ls (by omega))
  clear hc hls
  obtain ⟨m, hm⟩ : ∃ m, m = cnt ls := ⟨_, rfl⟩
  rw [← hm] at HM ⊢
  have EM := Lib.hid hm
  clear hm
  have HF := Lib.hid (first_ok m HM.out)
  have BT := Lib.hid built130'
  go_enter Tryd.func76, Tryd.ntmps76
  go_upto_region 1 with fail
  have A0 := Lib.hid (CellsAt.newA w 16 m 60)
  have B0 := Lib.hid (below_alloc w (.cells (natL 16 m).toArray 60))
  have S0 : (w.alloc (.cells (natL 16 m).toArray 60)).heap.size = w.heap.size + 1 := by simp
  obtain ⟨B, hB⟩ : ∃ B, B = w.heap.size := ⟨_, rfl⟩
  generalize w.alloc (.cells (natL 16 m).toArray 60) = x2 at *
  rw [← hB] at A0 B0 S0 hb ⊢
  have EB := Lib.hid hB
  clear hB
  go_upto_region 2 with (guard_target =~ wpList _ _ _ (⟨some _, Op.build 130 _, _, _, _, _⟩ :: _) _ _; go_must (refine wp_build0 rfl 130 rfl dec0 BT.out ?_))
  have D1 := dec0_at x2
  rw [S0] at D1
  have B1 := Lib.hid (B0.out.alloc (show B ≤ x2.heap.size by omega) (.cells dec0 130))
  have A1 := Lib.hid (A0.out.alloc (.cells dec0 130))
  have S1 : (x2.alloc (.cells dec0 130)).heap.size = B + 2 := by simp; omega
  have HD1 := Lib.hid D1
  clear A0 B0 D1
  generalize x2.alloc (.cells dec0 130) = x3 at *
  have R0 := Lib.hid A1.out.range
  go_wp2_with (guard_target =~ wpList _ _ _ (⟨some _, Op.load 60 _, _, _, _, _⟩ :: _) _ _; go_must (refine wpList_load_mid rfl 60 _ rfl B 0 rfl (natL 16 m) _ R0.out Tryd.underlying60 rfl (info60n _) ?_))
  refine (HF.out _).mono ?_
  rintro e x4 ⟨rfl, hb4⟩
  have B4 := Lib.hid (B1.out.trans (hb4.mono (show B ≤ x3.heap.size by omega)))
  have A4 := Lib.hid (A1.out.step hb4)
  have D4 := Lib.hid (HD1.out.step hb4)
  have S4 : B + 2 ≤ x4.heap.size := by have := hb4.size; omega
  clear hb4 B1 A1 HD1 R0 S1 HF
  obtain ⟨N, hN⟩ : ∃ N, N = x4.heap.size := ⟨_, rfl⟩
  have Z5 := Lib.hid (show CellsAt (x4.alloc (.cells #[.int .i64 0, .int .i64 0, .int .i64 0, .int .i64 0, .int .i64 0, .int .i64 0, .int .i64 0, .int .i64 0, .int .i64 0, .int .i64 0, .int .i64 0, .int .i64 0, .int .i64 0, .int .i64 0, .int .i64 0, .int .i64 0] 60)) N (natL 16 fun _ => 0) from by rw [hN]; exact CellsAt.newA x4 16 (fun _ => 0) 60)
  have B5 := Lib.hid (B4.out.alloc (show B ≤ x4.heap.size by omega) (.cells #[.int .i64 0, .int .i64 0, .int .i64 0, .int .i64 0, .int .i64 0, .int .i64 0, .int .i64 0, .int .i64 0, .int .i64 0, .int .i64 0, .int .i64 0, .int .i64 0, .int .i64 0, .int .i64 0, .int .i64 0, .int .i64 0] 60))
  have A5 := Lib.hid (A4.out.alloc (.cells #[.int .i64 0, .int .i64 0, .int .i64 0, .int .i64 0, .int .i64 0, .int .i64 0, .int .i64 0, .int .i64 0, .int .i64 0, .int .i64 0, .int .i64 0, .int .i64 0, .int .i64 0, .int .i64 0, .int .i64 0, .int .i64 0] 60))
  have D5 := Lib.hid (D4.out.alloc (.cells #[.int .i64 0, .int .i64 0, .int .i64 0, .int .i64 0, .int .i64 0, .int .i64 0, .int .i64 0, .int .i64 0, .int .i64 0, .int .i64 0, .int .i64 0, .int .i64 0, .int .i64 0, .int .i64 0, .int .i64 0, .int .i64 0] 60))
  have T5 := Lib.hid (show (x4.alloc (.cells #[.int .i64 0, .int .i64 0, .int .i64 0, .int .i64 0, .int .i64 0, .int .i64 0, .int .i64 0, .int .i64 0, .int .i64 0, .int .i64 0, .int .i64 0, .int .i64 0, .int .i64 0, .int .i64 0, .int .i64 0, .int .i64 0] 60)).there N 0 (natL 16 (firstN m)).toArray.size by have := Z5.out.there; simpa [natL_len] using this)
  have N5 := Lib.hid (Z5.out.sets (us := natL 16 (firstN m)) (by simp [natL_len]))
  have A6 := Lib.hid (A5.out.osets (show N ≠ B by omega) 0 (natL 16 (firstN m)))
  have D6 := Lib.hid (D5.out.osets (show N ≠ B + 1 by omega) 0 (natL 16 (firstN m)))
  have B6 := Lib.hid (below_sets N (show B ≤ N by omega) (natL 16 (firstN m)) 0 B5.out)
  clear B4 A4 D4 Z5 B5 A5 D5
  go_upto_region 3 with (guard_target =~ wpList _ _ _ (⟨none, Op.store 60 _ _, _, _, _, _⟩ :: _) _ _; go_must (refine wpList_store_mid rfl 60 _ _ rfl N 0 (natL 16 (firstN m)).toArray (by rw [hN]; rfl) rfl T5.out (info60a _) (natL_one _ _) ?_))
  have nb : N ≠ B + 1 := by omega
  have nb2 : N ≠ B := by omega
  have NB := Lib.hid (show B ≤ N by omega)
  rw [← hN]
  clear hN T5
  have ST := Lib.hid (show NdRel w B N m (.int .i64 0) (.int .i64 1) ((x4.alloc (.cells #[.int .i64 0, .int .i64 0, .int .i64 0, .int .i64 0, .int .i64 0, .int .i64 0, .int .i64 0, .int .i64 0, .int .i64 0, .int .i64 0, .int .i64 0, .int .i64 0, .int .i64 0, .int .i64 0, .int .i64 0, .int .i64 0] 60)).setCells N 0 (natL 16 (firstN m))) from ⟨1, by omega, by omega, rfl, rfl, N5.out, A6.out, by rw [show 1 - 1 = 0 from rfl, endsUp_zero, shUp_zero]; exact D6.out, B6.out⟩)
  clear N5 A6 D6 B6
  generalize (x4.alloc (.cells #[.int .i64 0, .int .i64 0, .int .i64 0, .int .i64 0, .int .i64 0, .int .i64 0, .int .i64 0, .int .i64 0, .int .i64 0, .int .i64 0, .int .i64 0, .int .i64 0, .int .i64 0, .int .i64 0, .int .i64 0, .int .i64 0] 60)).setCells N 0 (natL 16 (firstN m)) = x5 at *
  go_wp2_with fail
  go_loopw [7, 8] (fun d i wr => NdRel w B N m d i wr) (fun _ i _ => (16 - intOf i).toNat)
  case atStart => exact ST.out
  case round =>
    obtain ⟨L, hL1, hL, rfl, rfl, hn, hm, hd, hbl⟩ := hrel
    by_cases hlt : L < 16
    · have fl : firstN m L ≤ 6553600000 := by
        obtain ⟨k, rfl⟩ : ∃ k, L = k + 1 := ⟨L - 1, by omega⟩
        have := codeN_lt m HM.out k (by omega)
        show 2 * codeN m k ≤ _
        omega
      have sl := symsN_lt m HM.out (L - 1) (by omega)
      have ml := HM.out L
      have cn := hn.cell L _ (natL_get (by omega))
      have cm := hm.cell L _ (natL_get (by omega))
      have hdl := hd.lt
      have pw : (2 : Nat) ^ (15 - L) ≤ 2 ^ 14 := Nat.pow_le_pow_right (by omega) (by omega)
      have pl : endN m L ≤ 6553700000 * 2 ^ 14 := Nat.mul_le_mul (by omega) pw
      have EP : ((firstN m L : Int) + (m L : Int)) * 2 ^ (15 - L) = (endN m L : Int) := by unfold endN; rw [Int.natCast_mul, Int.natCast_pow]; rfl
      have g1 := hd.cell (272 + L) (by omega)
      have g2 := hd.free (272 + L)
      have HN1 := Lib.hid hn
      have HM1 := Lib.hid hm
      have HD1 := Lib.hid hd
      have HB1 := Lib.hid hbl
      clear hn hm hd hbl pw
      obtain ⟨F, hF⟩ : ∃ F, F = firstN m L := ⟨_, rfl⟩
      obtain ⟨M, hM⟩ : ∃ M, M = m L := ⟨_, rfl⟩
      obtain ⟨E, hE⟩ : ∃ E, E = endN m L := ⟨_, rfl⟩
      obtain ⟨A, hA⟩ : ∃ A, A = symsN m (L - 1) := ⟨_, rfl⟩
      rw [← hF] at fl cn EP
      rw [← hM] at ml cm EP
      rw [← hE] at pl EP
      rw [← hA] at sl ⊢
      have QF := Lib.hid hF
      have QM := Lib.hid hM
      have QE := Lib.hid hE
      have QA := Lib.hid hA
      clear hF hM hE hA
      have t1 : decide ((L : Int) < 16) = true := decide_eq_true (by omega)
      go_wp2_with fail
      have i2 : (15 - (L : Int)).toNat = 15 - L := by omega
      have i3 : 0 ≤ 15 - (L : Int) := by omega
      have i4 : IntKind.i64.wrap (15 - (L : Int)) = 15 - (L : Int) := IntWalk.i64_in _ (by omega)
      have i5 : IntKind.i64.wrap ((F : Int) + (M : Int)) = (F : Int) + (M : Int) := IntWalk.i64_in _ (by omega)
      have i6 : IntKind.i64.wrap (E : Int) = (E : Int) := IntWalk.i64_in _ (by omega)
      have x1 : (L : Int) < 16 := by omega
      have x2 : (0 : Int) ≤ (L : Int) := by omega
      go_still_tail 15, (by kernel_rfl)
      change wpList _ _ _ _ _ wr.drew
      have HN2 := Lib.hid (HN1.out.drew.other (c := B + 1) (Ne.symm nb) (272 + L) (.int .i64 (E : Int)))
      have HM2 := Lib.hid (HM1.out.drew.other (c := B + 1) (by omega) (272 + L) (.int .i64 (E : Int)))
      have HD2 := Lib.hid (HD1.out.drew.set (272 + L) (.int .i64 (E : Int)) (by omega))
      have HB2 := Lib.hid (((bdrewB HB1.out 1)).setCell (p := ⟨B + 1, 272 + L, none⟩) (by show B ≤ B + 1; omega) (.int .i64 (E : Int)))
      have g1' : wr.drew.cell? ⟨B + 1, 272 + L, none⟩ = _ := g1
      have g2' : wr.drew.frozen? ⟨B + 1, 272 + L, none⟩ = _ := g2
      change Hid (Below B w (wr.drew.setCell _ _)) at HB2
      clear g1 g2 HN1 HM1 HD1 HB1 cn cm hdl
      generalize wr.drew = w1 at *
      go_upto_region 8 with fail
      generalize w1.setCell ⟨B + 1, 272 + L, none⟩ (.int .i64 (E : Int)) = w2 at *
      clear g1' g2' i2 i3 i4 i5 i6
      have cn := HN2.out.cell L _ (natL_get (by omega))
      have cm := HM2.out.cell L _ (natL_get (by omega))
      have g1 := HD2.out.cell (288 + L) (by omega)
      have g2 := HD2.out.free (288 + L)
      have hdl := HD2.out.lt
      rw [← QF.out] at cn
      rw [← QM.out] at cm
      have i7 : IntKind.i64.wrap ((A : Int) - (F : Int)) = (A : Int) - (F : Int) := IntWalk.i64_in _ (by omega)
      go_still_tail 10, (by kernel_rfl)
      change wpList _ _ _ _ _ w2.drew
      have HN3 := Lib.hid (HN2.out.drew.other (c := B + 1) (Ne.symm nb) (288 + L) (.int .i64 ((A : Int) - (F : Int))))
      have HM3 := Lib.hid (HM2.out.drew.other (c := B + 1) (by omega) (288 + L) (.int .i64 ((A : Int) - (F : Int))))
      have HD3 := Lib.hid (HD2.out.drew.set (288 + L) (.int .i64 ((A : Int) - (F : Int))) (by omega))
      have HB3 := Lib.hid (((bdrewB HB2.out 1)).setCell (p := ⟨B + 1, 288 + L, none⟩) (by show B ≤ B + 1; omega) (.int .i64 ((A : Int) - (F : Int))))
      have g1' : w2.drew.cell? ⟨B + 1, 288 + L, none⟩ = _ := g1
      have g2' : w2.drew.frozen? ⟨B + 1, 288 + L, none⟩ = _ := g2
      change Hid (Below B w (w2.drew.setCell _ _)) at HB3
      clear g1 g2 HN2 HM2 HD2 HB2 cn cm hdl
      generalize w2.drew = w3 at *
      go_upto_region 9 with fail
      generalize w3.setCell ⟨B + 1, 288 + L, none⟩ (.int .i64 ((A : Int) - (F : Int))) = w4 at *
      clear g1' g2' i7
      have cm := HM3.out.cell L _ (natL_get (by omega))
      rw [← QM.out] at cm
      have FIN := Lib.hid (show NdRel w B N m (.int .i64 ((A : Int) + (M : Int))) (.int .i64 ((L : Int) + 1)) w4 from by
        have := NdRel.next (w := w) (by omega) hlt HN3.out HM3.out (by rw [← QE.out, ← QA.out, ← QF.out]; exact HD3.out) HB3.out
        rw [← QA.out, ← QM.out] at this
        exact this)
      have ME := Lib.hid (show (16 - ((L : Int) + 1)).toNat < (16 - (L : Int)).toNat by omega)
      clear HN3 HM3 HD3 HB3
      have hdl := (show B < w4.heap.size from by obtain ⟨_, _, _, _, _, _, h, _⟩ := FIN.out; exact h.lt)
      go_wp2_with fail
      exact ⟨FIN.out, ME.out⟩
    · obtain rfl : L = 16 := by omega
      have HN1 := Lib.hid hn
      have HD1 := Lib.hid hd
      have HB1 := Lib.hid hbl
      clear hn hm hd hbl ST
      have em := EM.out
      subst em
      have SS := Lib.hid (show NsRel w B N ls (.int .i64 (0 : Nat)) wr from ⟨0, Nat.zero_le _, rfl, by rw [nextC_zero]; exact HN1.out, HD1.out, HB1.out⟩)
      clear HN1 HD1 HB1
      go_wp2_with fail
      go_loopw [9, 10, 51] (fun _ _ i wr => NsRel w B N ls i wr) (fun _ _ i _ => (ls.length - (intOf i).toNat))
      case atStart => exact SS.out
      case round =>
        clear SS
        obtain ⟨k, hk, rfl, hn, hd, hbl⟩ := hrel
        have hdl := hd.lt
        by_cases hlt : k < ls.length
        · have cx := ((bcell hbl).1 b (off + k) hb).trans (HC.out k ls[k] (List.getElem?_eq_getElem hlt))
          have hx := HX.out ls[k] (List.getElem_mem hlt)
          have ME := Lib.hid (show ls.length - ((k : Int) + 1).toNat < ls.length - (k : Int).toNat by omega)
          have hnl := hn.lt
          by_cases h0 : ls[k] = 0
          · have FIN := Lib.hid (show NsRel w B N ls (.int .i64 ((k : Int) + 1)) wr from ⟨k + 1, by omega, by go_num, by rw [nextC_skip hlt h0]; exact hn, by rw [symF_skip hlt h0]; exact hd, hbl⟩)
            rw [h0] at cx
            clear hn hd hbl
            go_wp2_with fail
            exact ⟨FIN.out, ME.out⟩
          · have hp : 0 < ls[k] := by omega
            have pl := place_lt hlt hp
            have fl := firstN_lt (cnt ls) HM.out ls[k] (by omega)
            have sl := symsN_lt (cnt ls) HM.out (ls[k] - 1) (by omega)
            have cl : (ls.take k).count ls[k] ≤ 100000 := Nat.le_trans List.count_le_length (by rw [List.length_take]; omega)
            have cn := hn.cell ls[k] _ (natL_get (by omega))
            rw [if_neg h0] at cn
            have fn := hn.free ls[k]
            have cs : wr.cell? ⟨B + 1, 288 + ls[k], none⟩ = some (.int .i64 (shN (cnt ls) ls[k])) := by
              rw [hd.cell (288 + ls[k]) (by omega)]
              unfold decF
              rw [if_neg (by omega), if_neg (by omega), show 288 + ls[k] - 288 = ls[k] by omega]
              unfold shUp
              rw [if_pos ⟨hp, by omega⟩]
            have HN1 := Lib.hid hn
            have HD1 := Lib.hid hd
            have HB1 := Lib.hid hbl
            have SE := Lib.hid (symF_step hlt hp)
            have NE := Lib.hid (nextC_step hlt hp)
            clear hn hd hbl
            obtain ⟨P, hP⟩ : ∃ P, P = symsN (cnt ls) (ls[k] - 1) + (ls.take k).count ls[k] := ⟨_, rfl⟩
            obtain ⟨S, hS⟩ : ∃ S, S = shN (cnt ls) ls[k] := ⟨_, rfl⟩
            obtain ⟨X, hX⟩ : ∃ X, X = firstN (cnt ls) ls[k] + (ls.take k).count ls[k] := ⟨_, rfl⟩
            have sum : S + (X : Int) = (P : Int) := by rw [hP, hS, hX]; unfold shN; omega
            have xl : X ≤ 6553700000 := by omega
            rw [← hP] at pl SE
            rw [← hS] at cs
            rw [← hX] at cn NE
            have sb : -6553600000 ≤ S ∧ S ≤ 1500000 := by rw [hS]; unfold shN; omega
            have QX := Lib.hid hX
            clear hP hS hX fl sl cl
            generalize ls[k] = l at *
            have g1 := HD1.out.cell P (by omega)
            have g2 := HD1.out.free P
            have l1 : (0 : Int) < (l : Int) := by omega
            go_upto_region 14 with fail
            have x1 : (l : Int) < 16 := by omega
            have x2 : (0 : Int) ≤ (l : Int) := by omega
            have y1 : (P : Int) < 272 := by omega
            have y2 : (0 : Int) ≤ (P : Int) := by omega
            have i1 : IntKind.i64.wrap (S + (X : Int)) = (P : Int) := by rw [sum]; exact IntWalk.i64_in _ (by omega)
            have i2 : IntKind.u16.wrap (k : Int) = (k : Int) := by rw [IntKind.wrap_u16]; omega
            clear sum
            go_still_tail 16, (by kernel_rfl)
            change wpList _ _ _ _ _ wr.drew
            have HN2 := Lib.hid (HN1.out.drew.other (c := B + 1) (Ne.symm nb) P (.int .u16 (k : Int)))
            have HD2 := Lib.hid (HD1.out.drew.set P (.int .u16 (k : Int)) (by omega))
            have HB2 := Lib.hid (((bdrewB HB1.out 1)).setCell (p := ⟨B + 1, P, none⟩) (by show B ≤ B + 1; omega) (.int .u16 (k : Int)))
            have g1' : wr.drew.cell? ⟨B + 1, P, none⟩ = _ := g1
            have g2' : wr.drew.frozen? ⟨B + 1, P, none⟩ = _ := g2
            change Hid (Below B w (wr.drew.setCell _ _)) at HB2
            clear g1 g2 HN1 HD1 HB1 cn fn cs
            generalize wr.drew = w1 at *
            go_upto_region 15 with fail
            generalize w1.setCell ⟨B + 1, P, none⟩ (.int .u16 (k : Int)) = w2 at *
            clear g1' g2' i1 i2
            have cn : w2.cell? ⟨N, l, none⟩ = some (.int .i64 (X : Int)) := by
              rw [HN2.out.cell l _ (natL_get (by omega)), QX.out, if_neg h0]
            have fn := HN2.out.free l
            have hnl2 := HN2.out.lt
            have FIN := Lib.hid (show NsRel w B N ls (.int .i64 ((k : Int) + 1)) (w2.setCell ⟨N, l, none⟩ (.int .i64 ((X : Int) + 1))) from by
              have n3 := HN2.out.set l (.int .i64 ((X + 1 : Nat) : Int)) (by rw [natL_len]; omega)
              rw [natL_set, NE.out] at n3
              have d3 := HD2.out
              rw [decF_sym (by omega), ← SE.out] at d3
              exact ⟨k + 1, by omega, by go_num, n3, d3.other nb _ _, HB2.out.setCell (p := ⟨N, l, none⟩) NB.out _⟩)
            clear HN2 HD2 HB2 SE NE QX
            go_wp2_with fail
            exact ⟨FIN.out, ME.out⟩
        · obtain rfl : k = ls.length := by omega
          have FIN := Lib.hid (show RetDec w ls (.returned (.pointer (some ⟨B + 1, 0, none⟩))) wr from ⟨B + 1, rfl, by rw [← EB.out]; omega, hd.dec, by rw [← EB.out]; exact hbl⟩)
          clear hn hd hbl
          go_wp2_with fail
          go_ret
          exact FIN.out
end Go.Proofs.YtfbeipfpkikakaaDoor
