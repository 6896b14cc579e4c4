/- takeHalf: the walk. -/
import Derived.Test.YtbgbmojoldkcfaaDoorTh
namespace Go.Proofs.YtbgbmojoldkcfaaDoor
open Go.RowKit

def atW (S : Nat) (w : World) : Nat := match w.cell? ⟨S, 1, none⟩ with | some (.int _ z) => z.toNat | _ => 0
theorem atW_is {S : Nat} {w : World} {t : ByteArray} {k : Nat} (h : CellsAt w S (scV t k)) : atW S w = k := by
  have := h.cell 1 _ rfl
  unfold atW
  rw [this]
  simp
theorem mod_heap (c : UInt8) {w : World} (T : BitsT w) (W : World) (h : W.heap = w.heap) : Calls Tryd.prog 39 #[.int .u8 c.toNat] W (fun e w' => e = .returned (.int .u16 (bitS c)) ∧ w' = W) :=
  (mod_ok c W (by obtain ⟨t, fr, hb⟩ := T; exact ⟨t, fr, by rw [h]; exact hb⟩)).mono fun _ _ x => ⟨x.1, x.2.symm⟩
theorem mod_drew (c : UInt8) {w : World} (T : BitsT w) (n : Nat) : Calls Tryd.prog 39 #[.int .u8 c.toNat] (w.drewN n) (fun e w' => e = .returned (.int .u16 (bitS c)) ∧ w' = w.drewN n) := mod_heap c T _ rfl
theorem BitsT.keepX {S : Nat} {w w' : World} (T : BitsT w) (k : KeepX S w w') (hS : S ≠ 2) : BitsT w' := by
  obtain ⟨t, fr, hb⟩ := T
  exact ⟨t, fr, (k.block 2 (lt_of_block hb) (Ne.symm hS)).trans hb⟩

theorem half_end {w : World} {S : Nat} {t : ByteArray} {f c m k : Nat} {wr : World} (h : ThIn w S t f c m k wr) (hS : S < w.heap.size) (x0 x1 x2 : Value) :
    CellsAt (((wr.setCell ⟨w.heap.size, 0, none⟩ x0).setCell ⟨w.heap.size, 1, none⟩ x1).setCell ⟨w.heap.size, 2, none⟩ x2) S (scV t k) ∧ KeepX S w (((wr.setCell ⟨w.heap.size, 0, none⟩ x0).setCell ⟨w.heap.size, 1, none⟩ x1).setCell ⟨w.heap.size, 2, none⟩ x2) :=
  ⟨((h.sc.oneOther (by omega) 0 x0).oneOther (by omega) 1 x1).oneOther (by omega) 2 x2, ((h.keep.setFar (Nat.le_refl _) 0 x0).setFar (Nat.le_refl _) 1 x1).setFar (Nat.le_refl _) 2 x2⟩
def ThRel (w : World) (S : Nat) (t : ByteArray) (f c k0 : Nat) (wr : World) : Prop :=
  ∃ p mm : Nat, p ≤ t.size ∧ mm < 1024 ∧ orS mm (ltS (t.data.toList.drop p)) = orS 0 (ltS (t.data.toList.drop k0)) ∧ p + (ltS (t.data.toList.drop p)).length = k0 + (ltS (t.data.toList.drop k0)).length ∧ ThIn w S t f c mm p wr
theorem half_done {w : World} {S : Nat} {t : ByteArray} {f c k0 p mm : Nat} {wr : World} {P : PlaceR} {x0 x1 x2 : Value} (hP : P = placeEnd t.data.toList f c k0)
    (hr : orS mm (ltS (t.data.toList.drop p)) = orS 0 (ltS (t.data.toList.drop k0)) ∧ p + (ltS (t.data.toList.drop p)).length = k0 + (ltS (t.data.toList.drop k0)).length)
    (he : ltS (t.data.toList.drop p) = []) (h : ThIn w S t f c mm p wr) (hS : S < w.heap.size) :
    HalfPost w S t P (.returned (.tuple #[.agg #[.int .i64 (f : Int), .int .i64 (c : Int), .int .u16 (mm : Int)], .bool true])) (((wr.setCell ⟨w.heap.size, 0, none⟩ x0).setCell ⟨w.heap.size, 1, none⟩ x1).setCell ⟨w.heap.size, 2, none⟩ x2) := by
  obtain ⟨h1, h2⟩ := hr
  rw [he] at h1 h2
  simp only [orS, List.length_nil, Nat.add_zero] at h1 h2
  subst h1
  have E := half_end h hS x0 x1 x2
  rw [hP]
  unfold placeEnd HalfPost
  rw [← h2]
  exact ⟨rfl, E.1, E.2⟩

set_option maxRecDepth 100000
set_option maxHeartbeats 6400000 in
theorem half_ok (t : ByteArray) (k S least : Nat) (w : World) (hk : k ≤ t.size) (ht : t.size ≤ 140737488351232) (hl : least ≤ 1) (hS : CellsAt w S (scV t k)) (hS2 : S ≠ 2) (T : BitsT w) :
    Calls Tryd.prog 20 #[.pointer (some ⟨S, 0, none⟩), .int .i64 least] w (HalfPost w S t (placeS t.data.toList k least)) := by
  have IN := Lib.hid (ThIn.start w S t k least hS)
  have hSl := hS.lt
  have HT := Lib.hid T
  clear hS T
  have N1 := Lib.hid (number_m t k S (w.heap.size + 1) 0 (.int .i64 0) 1 _ hk ht (by omega) IN.out.sc (IN.out.half.cell 0 _ rfl) (IN.out.half.free 0) (by omega))
  have b2 := valS_len maxF (t.data.toList.drop k) 0
  rw [List.length_drop, ← Lib.size_eq] at b2
  generalize hP : placeS t.data.toList k least = P
  unfold placeS at hP
  generalize (valS maxF 0 (t.data.toList.drop k)).1 = v at *
  generalize (valS maxF 0 (t.data.toList.drop k)).2 = z at *
  have HP := Lib.hid hP
  clear hP
  go_enter Tryd.func20, Tryd.ntmps20
  go_wp2_with fail
  refine N1.out.mono ?_
  rintro e w1 (⟨hbad, rfl, q, rfl⟩ | ⟨hgood, rfl, q, rfl⟩)
  · have I1 := Lib.hid (IN.out.drewN q)
    have HPP := Lib.hid (show P = .bad k from by rw [← HP.out, if_pos (by omega)])
    generalize hw : ((w.alloc (.cells (hfV 0 0 0).toArray 57)).alloc (.cells (hfV 0 least 0).toArray 57)).drewN q = w1 at *
    clear hw
    go_wp2_with fail
    refine wp_loop_rounds 1 ?_
    rw [rounds_succ]
    go_wp2_with fail
    go_quiet (fail)
    generalize hwd : World.drewN _ _ = wd
    have J := Lib.hid (show ThIn w S t 0 least 0 k wd from by rw [← hwd]; exact I1.out.drewN _)
    clear hwd
    have h0 := J.out.half.cell 0 _ rfl
    have h1 := J.out.half.cell 1 _ rfl
    have h2 := J.out.half.cell 2 _ rfl
    have r0 := J.out.res.cell 0 _ rfl
    have r1 := J.out.res.cell 1 _ rfl
    have r2 := J.out.res.cell 2 _ rfl
    have p0 := J.out.res.free 0
    have p1 := J.out.res.free 1
    have p2 := J.out.res.free 2
    have hlr := J.out.res.lt
    have R := J.out.res.three rfl (.int .i64 0) (.int .i64 ((least : Nat) : Int)) (.int .u16 0)
    have e0 := R.cell 0 _ rfl
    have e1 := R.cell 1 _ rfl
    have e2 := R.cell 2 _ rfl
    have HR := Lib.hid R
    clear R
    go_wp2_with fail
    refine bodyPost_ret (v := .tuple #[.agg #[.int .i64 0, .int .i64 ((least : Nat) : Int), .int .u16 0], .bool false]) (by simp [results, Tryd.results20, go_sem, e0, e1, e2]) rfl ?_
    rw [HPP.out]
    exact ⟨⟨_, _, _, rfl⟩, (half_end J.out hSl _ _ _).1, (half_end J.out hSl _ _ _).2⟩
  · have I1 := Lib.hid (((IN.out.setH (f' := v) (c' := least) (m' := 0) hSl 0 (.int .i64 (v : Int)) (by omega) rfl).setS (k' := k + z) hSl (.int .i64 ((k : Int) + (z : Int))) (by simp)).drewN q)
    generalize hw : (((((w.alloc (.cells (hfV 0 0 0).toArray 57)).alloc (.cells (hfV 0 least 0).toArray 57)).setCell ⟨w.heap.size + 1, 0, none⟩ (.int .i64 (v : Int))).setCell ⟨S, 1, none⟩ (.int .i64 ((k : Int) + (z : Int)))).drewN q) = w1 at *
    clear hw
    have SK := Lib.hid (show Calls Tryd.prog 21 #[.pointer (some ⟨S, 0, none⟩), .int .u8 46] w1 (SkipPost w1 S t (k + z) 46) from skip_m t (k + z) S 46 w1 (by omega) ht I1.out.sc)
    have HP1 := Lib.hid (show _ from (if_neg (show ¬ (z = 0 ∨ v = 0) from fun h => hgood (by omega))).symm.trans HP.out)
    clear hgood HP
    go_wp2_with fail
    refine SK.out.mono ?_
    rintro e w2 (⟨hd, rfl, q2, rfl⟩ | ⟨hd, rfl, q2, rfl⟩)
    · have I2 := Lib.hid ((I1.out.setS (k' := k + z + 1) hSl (.int .i64 (((k + z : Nat) : Int) + 1)) (by simp)).drewN q2)
      generalize hw : ((w1.setCell ⟨S, 1, none⟩ (.int .i64 (((k + z : Nat) : Int) + 1))).drewN q2) = w2 at *
      obtain ⟨hdl, _⟩ := dot_yes hd
      have N2 := Lib.hid (number_m t (k + z + 1) S (w.heap.size + 1) 1 (.int .i64 (least : Int)) least w2 (by omega) ht hl I2.out.sc (I2.out.half.cell 1 _ rfl) (I2.out.half.free 1) (by omega))
      have b3 := valS_len maxF (t.data.toList.drop (k + z + 1)) 0
      rw [List.length_drop, ← Lib.size_eq] at b3
      have hq := HP1.out
      rw [if_pos hd] at hq
      generalize (valS maxF 0 (t.data.toList.drop (k + z + 1))).1 = v2 at *
      generalize (valS maxF 0 (t.data.toList.drop (k + z + 1))).2 = z2 at *
      have HP2 := Lib.hid hq
      clear hq hw HP1 hd
      go_wp2_with fail
      refine N2.out.mono ?_
      rintro e w3 (⟨hbad, rfl, q3, rfl⟩ | ⟨hgood, rfl, q3, rfl⟩)
      · have I3 := Lib.hid (I2.out.drewN q3)
        have HPP := Lib.hid (show P = .bad (k + z + 1) from by rw [← HP2.out, if_pos hbad])
        generalize hw : w2.drewN q3 = w3 at *
        clear hw hbad
        go_wp2_with fail
        refine wp_loop_rounds 1 ?_
        rw [rounds_succ]
        go_wp2_with fail
        go_quiet (fail)
        generalize hwd : World.drewN _ _ = wd
        have J := Lib.hid (show ThIn w S t v least 0 (k + z + 1) wd from by rw [← hwd]; exact I3.out.drewN _)
        clear hwd
        have h0 := J.out.half.cell 0 _ rfl
        have h1 := J.out.half.cell 1 _ rfl
        have h2 := J.out.half.cell 2 _ rfl
        have r0 := J.out.res.cell 0 _ rfl
        have r1 := J.out.res.cell 1 _ rfl
        have r2 := J.out.res.cell 2 _ rfl
        have p0 := J.out.res.free 0
        have p1 := J.out.res.free 1
        have p2 := J.out.res.free 2
        have hlr := J.out.res.lt
        have R := J.out.res.three rfl (.int .i64 ((v : Nat) : Int)) (.int .i64 ((least : Nat) : Int)) (.int .u16 0)
        have e0 := R.cell 0 _ rfl
        have e1 := R.cell 1 _ rfl
        have e2 := R.cell 2 _ rfl
        have HR := Lib.hid R
        clear R
        go_wp2_with fail
        refine bodyPost_ret (v := .tuple #[.agg #[.int .i64 ((v : Nat) : Int), .int .i64 ((least : Nat) : Int), .int .u16 0], .bool false]) (by simp [results, Tryd.results20, go_sem, e0, e1, e2]) rfl ?_
        rw [HPP.out]
        exact ⟨⟨_, _, _, rfl⟩, (half_end J.out hSl _ _ _).1, (half_end J.out hSl _ _ _).2⟩
      · have I3 := Lib.hid (((I2.out.setH (f' := v) (c' := v2) (m' := 0) hSl 1 (.int .i64 (v2 : Int)) (by omega) rfl).setS (k' := k + z + 1 + z2) hSl (.int .i64 (((k + z + 1 : Nat) : Int) + (z2 : Int))) (by simp)).drewN q3)
        generalize hw : (((w2.setCell ⟨w.heap.size + 1, 1, none⟩ (.int .i64 (v2 : Int))).setCell ⟨S, 1, none⟩ (.int .i64 (((k + z + 1 : Nat) : Int) + (z2 : Int)))).drewN q3) = w3 at *
        have HPP := Lib.hid (show P = placeEnd t.data.toList v v2 (k + z + 1 + z2) from by rw [← HP2.out, if_neg hgood])
        clear hw hgood
        have hne : w.heap.size + 1 ≠ S := by omega
        go_wp2_with fail
        go_loopw [8] (fun _ wr => ThRel w S t v v2 (k + z + 1 + z2) wr) (fun _ wr => t.size - atW S wr)
        case atStart => exact ⟨(k + z + 1 + z2), 0, by omega, by omega, rfl, rfl, I3.out⟩
        case round =>
          obtain ⟨p, mm, hp, hm, ho, hl2, hI⟩ := hrel
          have HI := Lib.hid hI
          have HREL := Lib.hid (And.intro ho hl2)
          clear hI ho hl2
          have s0 := HI.out.sc.cell 0 _ rfl
          have s1 := HI.out.sc.cell 1 _ rfl
          by_cases hlt : p < t.size
          · have t1 : decide ((p : Int) < (t.size : Int)) = true := by simp only [decide_eq_true_eq]; omega
            by_cases hb : bitS t[p] = 0
            · have t2 : ((bitS t[p] : Int) == 0) = true := by rw [hb]; rfl
              have HE := Lib.hid (show ltS (t.data.toList.drop p) = [] from by rw [Lib.size_eq] at hlt; exact ltS_stop hlt (by unfold isLt; have : t.data.toList[p] = t[p] := rfl; rw [this, hb]; rfl))
              clear hb
              go_wp2_with fail
              go_quiet (fail)
              generalize hwdA : World.drewN _ _ = wa
              have JA := Lib.hid (show ThIn w S t v v2 mm p wa from by rw [← hwdA]; exact HI.out.drewN _)
              clear hwdA
              have a0 := JA.out.sc.cell 0 _ rfl
              have a1 := JA.out.sc.cell 1 _ rfl
              have TA := Lib.hid (HT.out.keepX JA.out.keep hS2)
              go_wp2_with fail
              go_quiet ((go_at_call 39; exact Calls.quiet_of_same (mod_drew t[p] TA.out _)))
              generalize hwdB : World.drewN _ _ = wb
              have JB := Lib.hid (show ThIn w S t v v2 mm p wb from by rw [← hwdB]; exact JA.out.drewN _)
              clear hwdB
              have h0 := JB.out.half.cell 0 _ rfl
              have h1 := JB.out.half.cell 1 _ rfl
              have h2 := JB.out.half.cell 2 _ rfl
              have r0 := JB.out.res.cell 0 _ rfl
              have r1 := JB.out.res.cell 1 _ rfl
              have r2 := JB.out.res.cell 2 _ rfl
              have p0 := JB.out.res.free 0
              have p1 := JB.out.res.free 1
              have p2 := JB.out.res.free 2
              have hlr := JB.out.res.lt
              have R := JB.out.res.three rfl (.int .i64 ((v : Nat) : Int)) (.int .i64 ((v2 : Nat) : Int)) (.int .u16 ((mm : Nat) : Int))
              have e0 := R.cell 0 _ rfl
              have e1 := R.cell 1 _ rfl
              have e2 := R.cell 2 _ rfl
              have HR := Lib.hid R
              clear R
              go_wp2_with fail
              refine bodyPost_ret (v := .tuple #[.agg #[.int .i64 ((v : Nat) : Int), .int .i64 ((v2 : Nat) : Int), .int .u16 ((mm : Nat) : Int)], .bool true]) (by simp [results, Tryd.results20, go_sem, e0, e1, e2]) rfl ?_
              exact half_done HPP.out HREL.out HE.out JB.out hSl
            · have t2 : ((bitS t[p] : Int) == 0) = false := by rw [beq_eq_false_iff_ne]; omega
              have HE := Lib.hid (show ltS (t.data.toList.drop p) = t[p] :: ltS (t.data.toList.drop (p + 1)) from by rw [Lib.size_eq] at hlt; exact ltS_on hlt (by unfold isLt; have : t.data.toList[p] = t[p] := rfl; rw [this]; simpa using hb))
              clear hb
              go_wp2_with fail
              go_quiet (fail)
              generalize hwdA : World.drewN _ _ = wa
              have JA := Lib.hid (show ThIn w S t v v2 mm p wa from by rw [← hwdA]; exact HI.out.drewN _)
              clear hwdA
              have a0 := JA.out.sc.cell 0 _ rfl
              have a1 := JA.out.sc.cell 1 _ rfl
              have TA := Lib.hid (HT.out.keepX JA.out.keep hS2)
              go_wp2_with fail
              go_quiet ((go_at_call 39; exact Calls.quiet_of_same (mod_drew t[p] TA.out _)))
              generalize hwdB : World.drewN _ _ = wb
              have JB := Lib.hid (show ThIn w S t v v2 mm p wb from by rw [← hwdB]; exact JA.out.drewN _)
              clear hwdB
              have hor := or_nat _ _ hm (bitS_lt t[p])
              have g0 := JB.out.half.cell 2 _ rfl
              have g1 := JB.out.half.free 2
              have g2 := JB.out.sc.cell 1 _ rfl
              have g3 := JB.out.sc.free 1
              go_wp2_with fail
              have N := (JB.out.setH (f' := v) (c' := v2) (m' := mm ||| bitS t[p]) hSl 2 (.int .u16 ((mm ||| bitS t[p] : Nat) : Int)) (by omega) rfl).setS (k' := p + 1) hSl (.int .i64 ((p : Int) + 1)) (by simp)
              refine ⟨⟨p + 1, mm ||| bitS t[p], by omega, Nat.or_lt_two_pow (n := 10) hm (bitS_lt t[p]), ?_, ?_, N⟩, ?_⟩
              · rw [← HREL.out.1, HE.out, orS]
              · rw [← HREL.out.2, HE.out, List.length_cons]; omega
              · have a1 := atW_is HI.out.sc
                have a2 := atW_is N.sc
                show t.size - _ < t.size - _
                rw [a1, a2]; omega
          · have t1 : decide ((p : Int) < (t.size : Int)) = false := by simp only [decide_eq_false_iff_not]; omega
            have HE := Lib.hid (show ltS (t.data.toList.drop p) = [] from ltS_end (by rw [← Lib.size_eq]; omega))
            go_wp2_with fail
            go_quiet (fail)
            generalize hwd : World.drewN _ _ = wd
            have J := Lib.hid (show ThIn w S t v v2 mm p wd from by rw [← hwd]; exact HI.out.drewN _)
            clear hwd
            have h0 := J.out.half.cell 0 _ rfl
            have h1 := J.out.half.cell 1 _ rfl
            have h2 := J.out.half.cell 2 _ rfl
            have r0 := J.out.res.cell 0 _ rfl
            have r1 := J.out.res.cell 1 _ rfl
            have r2 := J.out.res.cell 2 _ rfl
            have p0 := J.out.res.free 0
            have p1 := J.out.res.free 1
            have p2 := J.out.res.free 2
            have hlr := J.out.res.lt
            have R := J.out.res.three rfl (.int .i64 ((v : Nat) : Int)) (.int .i64 ((v2 : Nat) : Int)) (.int .u16 ((mm : Nat) : Int))
            have e0 := R.cell 0 _ rfl
            have e1 := R.cell 1 _ rfl
            have e2 := R.cell 2 _ rfl
            have HR := Lib.hid R
            clear R
            go_wp2_with fail
            refine bodyPost_ret (v := .tuple #[.agg #[.int .i64 ((v : Nat) : Int), .int .i64 ((v2 : Nat) : Int), .int .u16 ((mm : Nat) : Int)], .bool true]) (by simp [results, Tryd.results20, go_sem, e0, e1, e2]) rfl ?_
            exact half_done HPP.out HREL.out HE.out J.out hSl
    · have I2 := Lib.hid (I1.out.drewN q2)
      generalize hw : w1.drewN q2 = w2 at *
      have HPP := Lib.hid (show P = placeEnd t.data.toList v least (k + z) from by have hq := HP1.out; rw [hd] at hq; exact hq.symm)
      clear hw hd
      have hne : w.heap.size + 1 ≠ S := by omega
      go_wp2_with fail
      go_loopw [8] (fun _ wr => ThRel w S t v least (k + z) wr) (fun _ wr => t.size - atW S wr)
      case atStart => exact ⟨(k + z), 0, by omega, by omega, rfl, rfl, I2.out⟩
      case round =>
        obtain ⟨p, mm, hp, hm, ho, hl2, hI⟩ := hrel
        have HI := Lib.hid hI
        have HREL := Lib.hid (And.intro ho hl2)
        clear hI ho hl2
        have s0 := HI.out.sc.cell 0 _ rfl
        have s1 := HI.out.sc.cell 1 _ rfl
        by_cases hlt : p < t.size
        · have t1 : decide ((p : Int) < (t.size : Int)) = true := by simp only [decide_eq_true_eq]; omega
          by_cases hb : bitS t[p] = 0
          · have t2 : ((bitS t[p] : Int) == 0) = true := by rw [hb]; rfl
            have HE := Lib.hid (show ltS (t.data.toList.drop p) = [] from by rw [Lib.size_eq] at hlt; exact ltS_stop hlt (by unfold isLt; have : t.data.toList[p] = t[p] := rfl; rw [this, hb]; rfl))
            clear hb
            go_wp2_with fail
            go_quiet (fail)
            generalize hwdA : World.drewN _ _ = wa
            have JA := Lib.hid (show ThIn w S t v least mm p wa from by rw [← hwdA]; exact HI.out.drewN _)
            clear hwdA
            have a0 := JA.out.sc.cell 0 _ rfl
            have a1 := JA.out.sc.cell 1 _ rfl
            have TA := Lib.hid (HT.out.keepX JA.out.keep hS2)
            go_wp2_with fail
            go_quiet ((go_at_call 39; exact Calls.quiet_of_same (mod_drew t[p] TA.out _)))
            generalize hwdB : World.drewN _ _ = wb
            have JB := Lib.hid (show ThIn w S t v least mm p wb from by rw [← hwdB]; exact JA.out.drewN _)
            clear hwdB
            have h0 := JB.out.half.cell 0 _ rfl
            have h1 := JB.out.half.cell 1 _ rfl
            have h2 := JB.out.half.cell 2 _ rfl
            have r0 := JB.out.res.cell 0 _ rfl
            have r1 := JB.out.res.cell 1 _ rfl
            have r2 := JB.out.res.cell 2 _ rfl
            have p0 := JB.out.res.free 0
            have p1 := JB.out.res.free 1
            have p2 := JB.out.res.free 2
            have hlr := JB.out.res.lt
            have R := JB.out.res.three rfl (.int .i64 ((v : Nat) : Int)) (.int .i64 ((least : Nat) : Int)) (.int .u16 ((mm : Nat) : Int))
            have e0 := R.cell 0 _ rfl
            have e1 := R.cell 1 _ rfl
            have e2 := R.cell 2 _ rfl
            have HR := Lib.hid R
            clear R
            go_wp2_with fail
            refine bodyPost_ret (v := .tuple #[.agg #[.int .i64 ((v : Nat) : Int), .int .i64 ((least : Nat) : Int), .int .u16 ((mm : Nat) : Int)], .bool true]) (by simp [results, Tryd.results20, go_sem, e0, e1, e2]) rfl ?_
            exact half_done HPP.out HREL.out HE.out JB.out hSl
          · have t2 : ((bitS t[p] : Int) == 0) = false := by rw [beq_eq_false_iff_ne]; omega
            have HE := Lib.hid (show ltS (t.data.toList.drop p) = t[p] :: ltS (t.data.toList.drop (p + 1)) from by rw [Lib.size_eq] at hlt; exact ltS_on hlt (by unfold isLt; have : t.data.toList[p] = t[p] := rfl; rw [this]; simpa using hb))
            clear hb
            go_wp2_with fail
            go_quiet (fail)
            generalize hwdA : World.drewN _ _ = wa
            have JA := Lib.hid (show ThIn w S t v least mm p wa from by rw [← hwdA]; exact HI.out.drewN _)
            clear hwdA
            have a0 := JA.out.sc.cell 0 _ rfl
            have a1 := JA.out.sc.cell 1 _ rfl
            have TA := Lib.hid (HT.out.keepX JA.out.keep hS2)
            go_wp2_with fail
            go_quiet ((go_at_call 39; exact Calls.quiet_of_same (mod_drew t[p] TA.out _)))
            generalize hwdB : World.drewN _ _ = wb
            have JB := Lib.hid (show ThIn w S t v least mm p wb from by rw [← hwdB]; exact JA.out.drewN _)
            clear hwdB
            have hor := or_nat _ _ hm (bitS_lt t[p])
            have g0 := JB.out.half.cell 2 _ rfl
            have g1 := JB.out.half.free 2
            have g2 := JB.out.sc.cell 1 _ rfl
            have g3 := JB.out.sc.free 1
            go_wp2_with fail
            have N := (JB.out.setH (f' := v) (c' := least) (m' := mm ||| bitS t[p]) hSl 2 (.int .u16 ((mm ||| bitS t[p] : Nat) : Int)) (by omega) rfl).setS (k' := p + 1) hSl (.int .i64 ((p : Int) + 1)) (by simp)
            refine ⟨⟨p + 1, mm ||| bitS t[p], by omega, Nat.or_lt_two_pow (n := 10) hm (bitS_lt t[p]), ?_, ?_, N⟩, ?_⟩
            · rw [← HREL.out.1, HE.out, orS]
            · rw [← HREL.out.2, HE.out, List.length_cons]; omega
            · have a1 := atW_is HI.out.sc
              have a2 := atW_is N.sc
              show t.size - _ < t.size - _
              rw [a1, a2]; omega
        · have t1 : decide ((p : Int) < (t.size : Int)) = false := by simp only [decide_eq_false_iff_not]; omega
          have HE := Lib.hid (show ltS (t.data.toList.drop p) = [] from ltS_end (by rw [← Lib.size_eq]; omega))
          go_wp2_with fail
          go_quiet (fail)
          generalize hwd : World.drewN _ _ = wd
          have J := Lib.hid (show ThIn w S t v least mm p wd from by rw [← hwd]; exact HI.out.drewN _)
          clear hwd
          have h0 := J.out.half.cell 0 _ rfl
          have h1 := J.out.half.cell 1 _ rfl
          have h2 := J.out.half.cell 2 _ rfl
          have r0 := J.out.res.cell 0 _ rfl
          have r1 := J.out.res.cell 1 _ rfl
          have r2 := J.out.res.cell 2 _ rfl
          have p0 := J.out.res.free 0
          have p1 := J.out.res.free 1
          have p2 := J.out.res.free 2
          have hlr := J.out.res.lt
          have R := J.out.res.three rfl (.int .i64 ((v : Nat) : Int)) (.int .i64 ((least : Nat) : Int)) (.int .u16 ((mm : Nat) : Int))
          have e0 := R.cell 0 _ rfl
          have e1 := R.cell 1 _ rfl
          have e2 := R.cell 2 _ rfl
          have HR := Lib.hid R
          clear R
          go_wp2_with fail
          refine bodyPost_ret (v := .tuple #[.agg #[.int .i64 ((v : Nat) : Int), .int .i64 ((least : Nat) : Int), .int .u16 ((mm : Nat) : Int)], .bool true]) (by simp [results, Tryd.results20, go_sem, e0, e1, e2]) rfl ?_
          exact half_done HPP.out HREL.out HE.out J.out hSl
end Go.Proofs.YtbgbmojoldkcfaaDoor
