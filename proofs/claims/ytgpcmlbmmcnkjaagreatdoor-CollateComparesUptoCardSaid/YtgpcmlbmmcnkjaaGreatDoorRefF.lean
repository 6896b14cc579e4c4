/- Fields, the program's. -/
import Derived.Test.YtgpcmlbmmcnkjaaGreatDoorFld
import Derived.OwnWalk
import Derived.Laws.OwnMore

namespace Go.Proofs.YtgpcmlbmmcnkjaaGreatDoor
open Go.RowKit

theorem infoP : (Tryz.prog.info? 41).map (fun i => (i.zero, i.size, i.bytes)) = some (some (.agg #[.int .i64 0, .int .i64 0]), 2, 16) := by kernel_rfl
/-- Spans, as cells. -/
def spV (L : List (Nat × Nat)) : List Value := L.flatMap fun p => [.int .i64 p.1, .int .i64 p.2]
theorem spV_snoc (L : List (Nat × Nat)) (a b : Nat) : spV (L ++ [(a, b)]) = spV L ++ [.int .i64 a, .int .i64 b] := by simp [spV]
theorem cell_two (w : World) (u v : Value) (t : TypeId) : ∀ j x, [u, v][j]? = some x → (w.alloc (.cells #[u, v] t)).cell? ((⟨w.heap.size, 0, none⟩ : Addr).add j) = some x := by
  intro j x hj
  match j, hj with
  | 0, hj => simp at hj; subst hj; simp [Addr.add, World.cell?_alloc_new]
  | 1, hj => simp at hj; subst hj; simp [Addr.add, World.cell?_alloc_new]
def RetSpans (w : World) (L : List (Nat × Nat)) (e : Ending) (w' : World) : Prop :=
  ∃ v, e = .returned v ∧ w'.ownsRow w.heap.size 41 2 v L.length (spV L) ∧ Below w.heap.size w w'
theorem grown_below {B : Nat} {w wr w1 : World} {o : Obj} {v : Value} {size n : Nat} {e : TypeId} {xs : List Value} (hk : Below B w wr) (hr : wr.ownsRow B e size v n xs) (hB : B ≤ wr.heap.size) (hg : (wr.alloc o).grownBy w1 v.ownBlock) : Below B w w1 :=
  have h1 : Below B w (wr.alloc o) := hk.alloc hB o
  ⟨hg.os.trans h1.os, hg.tape.trans h1.tape, hg.output.trans h1.output, Nat.le_trans h1.size hg.size, fun k hk2 => (hg.block k (by simp; omega) (fun hv => by have := (hr.lt k hv.symm).1; omega)).trans (h1.block k hk2)⟩

/-- Under way, at byte k, the field that is open having begun at p. -/
structure RefRel (w : World) (B : Nat) (s : ByteArray) (o : Option UInt8) (l fr i : Value) (wr : World) : Prop where
  ex : ∃ (k p f : Nat) (D : List (Nat × Nat)), k ≤ s.size ∧ p ≤ k ∧ (o = none → p < k ∨ (p = 0 ∧ k = 0)) ∧ i = .int .i64 k ∧ fr = .int .i64 p ∧ k ≤ fend s.data.toList o p ∧ 0 < f ∧ s.size + 1 ≤ f + p ∧ D.length ≤ k ∧ D ++ spans s.data.toList o f p = spans s.data.toList o (s.size + 1) 0 ∧ wr.ownsRow B 41 2 l D.length (spV D)
  heap : B ≤ wr.heap.size
  below : Below B w wr

theorem wrap_byte (c : UInt8) : IntKind.i64.wrap (c.toNat : Int) = c.toNat := by have := c.toNat_lt; rw [IntKind.wrap_i64]; omega
theorem list_at (s : ByteArray) (k : Nat) (h : k < s.size) : s.data.toList[k]'(by rw [← Lib.size_eq]; exact h) = s[k] := rfl
set_option maxRecDepth 100000
set_option maxHeartbeats 800000 in
theorem ref_tab (t : UInt8) (s : ByteArray) (w : World) (hs : s.size ≤ 1048576) :
    Calls Tryz.prog 31 #[.string s, .int .i64 t.toNat] w (RetSpans w (spans s.data.toList (some t) (s.size + 1) 0)) := by
  have ht := t.toNat_lt
  obtain ⟨B, hB⟩ : ∃ B, B = w.heap.size := ⟨_, rfl⟩
  have HB := Lib.hid hB
  clear hB
  have t1 : decide ((t.toNat : Int) < -1) = false := by simp only [decide_eq_false_iff_not]; omega
  have t2 : decide (255 < (t.toNat : Int)) = false := by simp only [decide_eq_false_iff_not]; omega
  have t3 : decide ((0 : Int) ≤ (t.toNat : Int)) = true := by simp only [decide_eq_true_eq]; omega
  have t4 : decide ((t.toNat : Int) < 0) = false := by simp only [decide_eq_false_iff_not]; omega
  go_enter Tryz.func31, Tryz.ntmps31
  go_wp2_with fail
  go_loopw [5, 6, 7] (fun l fr i wr => RefRel w B s (some t) l fr i wr) (fun _ _ i _ => s.size - (intOf i).toNat)
  case atStart => exact ⟨⟨0, 0, s.size + 1, [], by omega, by omega, (fun h => by cases h), rfl, rfl, by omega, by omega, by omega, by simp, by simp, World.ownsRow_nil _ _ _ _⟩, by rw [HB.out]; exact Nat.le_refl _, by rw [HB.out]; exact Below.refl _ _⟩
  case round =>
    obtain ⟨⟨k, p, f, D, hk, hp, _, rfl, rfl, hE, hf, hfk, hDk, hD, hrow⟩, hBs, hbl⟩ := hrel
    have HE := Lib.hid hE
    have HD := Lib.hid hD
    have Hrow := Lib.hid hrow
    have Hbl := Lib.hid hbl
    clear hE hD hrow hbl
    obtain ⟨i0, hi, hz0, hz1, hz2⟩ := info_parts infoP
    have Hi := Lib.hid hi
    have Hz0 := Lib.hid hz0
    have Hz1 := Lib.hid hz1
    have Hz2 := Lib.hid hz2
    clear hi hz0 hz1 hz2
    by_cases hlt : k < s.size
    · have hkl : k < s.data.toList.length := by rw [← Lib.size_eq]; exact hlt
      have Hc := s[k].toNat_lt
      have hw := wrap_byte s[k]
      by_cases hx : s[k] = t
      · have e1 : ((s[k].toNat : Int) == (t.toNat : Int)) = true := by rw [hx, beq_iff_eq]
        have E := fend_hit s.data.toList t p k hp HE.out hkl hx
        have E4 := spans_more s.data.toList (some t) f p hf (by rw [E]; omega)
        rw [E] at E4
        have E4' := Lib.hid E4
        clear E E4 hx
        go_wp2_with (at_builtin; refine wpList_append_own _ rfl _ _ 68 rfl B 41 i0 (.agg #[.int .i64 0, .int .i64 0]) 2 16 Tryz.underlying68 Hi.out Hz0.out Hz1.out Hz2.out rfl (by decide) _ _ _ rfl (Hrow.out.alloc _) ⟨wr.heap.size, 0, none⟩ 1 1 [.int .i64 p, .int .i64 k] rfl rfl (cell_two _ _ _ _) (fun u hu => by simp at hu; rcases hu with rfl | rfl <;> rfl) (by unfold maxLen; omega) (by omega) (by simp; omega) ?_)
        intro v' w1 hown' hgrow _
        have hn : w1.ownsRow B 41 2 v' (D ++ [(p, k)]).length (spV (D ++ [(p, k)])) := by
          rw [spV_snoc]; simpa using hown'
        have hk1 : Below B w w1 := grown_below Hbl.out Hrow.out hBs hgrow
        have hB1 : B ≤ w1.heap.size := by have := hgrow.size; simp at this; omega
        have Hn := Lib.hid hn
        have Hk1 := Lib.hid hk1
        clear hn hk1 hown' hgrow
        go_wp2_with fail
        go_roundw
        case rel => exact ⟨⟨k + 1, k + 1, f - 1, D ++ [(p, k)], by omega, by omega, (fun h => by cases h), by go_num, by go_num, fend_ge _ _ _, by omega, by omega, by simp; omega, by rw [← HD.out, E4'.out]; simp [gapN], Hn.out⟩, hB1, Hk1.out⟩
        case measure => simp [intOf]; omega
      · have e1 : ((s[k].toNat : Int) == (t.toNat : Int)) = false := by
          rw [beq_eq_false_iff_ne]
          intro h
          exact hx (UInt8.toNat_inj.1 (by omega))
        have HE2 := Lib.hid (fend_miss s.data.toList t p k HE.out hkl hx)
        clear hx
        go_wp2_with fail
        go_roundw
        case rel => exact ⟨⟨k + 1, p, f, D, by omega, by omega, (fun h => by cases h), by go_num, rfl, HE2.out, hf, hfk, by omega, HD.out, Hrow.out⟩, hBs, Hbl.out⟩
        case measure => simp [intOf]; omega
    · have hks : k = s.size := by omega
      subst hks
      have E := fend_over s.data.toList (some t) p (by rw [← Lib.size_eq]; exact hp) (by rw [← Lib.size_eq]; exact HE.out)
      have E4 := Lib.hid (spans_last s.data.toList (some t) f p hf E)
      clear E
      go_wp2_with (at_builtin; refine wpList_append_own _ rfl _ _ 68 rfl B 41 i0 (.agg #[.int .i64 0, .int .i64 0]) 2 16 Tryz.underlying68 Hi.out Hz0.out Hz1.out Hz2.out rfl (by decide) _ _ _ rfl (Hrow.out.alloc _) ⟨wr.heap.size, 0, none⟩ 1 1 [.int .i64 p, .int .i64 s.size] rfl rfl (cell_two _ _ _ _) (fun u hu => by simp at hu; rcases hu with rfl | rfl <;> rfl) (by unfold maxLen; omega) (by omega) (by simp; omega) ?_)
      intro v' w1 hown' hgrow _
      have hn : w1.ownsRow B 41 2 v' (D ++ [(p, s.size)]).length (spV (D ++ [(p, s.size)])) := by
        rw [spV_snoc]; simpa using hown'
      have hk1 : Below B w w1 := grown_below Hbl.out Hrow.out hBs hgrow
      have hB1 : B ≤ w1.heap.size := by have := hgrow.size; simp at this; omega
      have Hn := Lib.hid hn
      have Hk1 := Lib.hid hk1
      clear hn hk1 hown' hgrow
      go_wp2_with fail
      go_ret
      refine ⟨v', rfl, ?_, by rw [← HB.out]; exact Hk1.out⟩
      rw [← HB.out, ← HD.out, E4.out, ← Lib.size_eq]
      exact Hn.out

theorem starts_eq (s : ByteArray) (k : Nat) (h : k + 1 < s.size) : starts s.data.toList (k + 1) = (isBl s[k + 1] && !isBl s[k]) := by
  unfold starts
  rw [getD_at _ _ (by rw [← Lib.size_eq]; exact h), Nat.add_sub_cancel, getD_at _ _ (by rw [← Lib.size_eq]; omega), list_at s (k + 1) h, list_at s k (by omega)]
  simp
theorem fend_pos (s : ByteArray) (k : Nat) (h : k < s.size) : k + 1 ≤ fend s.data.toList none k := by
  rcases Nat.lt_or_ge (fend s.data.toList none k) s.data.toList.length with h1 | h1
  · exact (fend_starts s.data.toList k (by rw [← Lib.size_eq]; exact h) h1).1
  · rw [← Lib.size_eq] at h1; omega
set_option maxHeartbeats 800000 in
theorem ref_none (s : ByteArray) (w : World) (hs : s.size ≤ 1048576) (hne : s.size ≠ 0) :
    Calls Tryz.prog 31 #[.string s, .int .i64 (-1)] w (RetSpans w (spans s.data.toList none (s.size + 1) 0)) := by
  obtain ⟨B, hB⟩ : ∃ B, B = w.heap.size := ⟨_, rfl⟩
  have HB := Lib.hid hB
  clear hB
  go_enter Tryz.func31, Tryz.ntmps31
  go_wp2_with fail
  go_loopw [5, 6, 7] (fun l fr i wr => RefRel w B s none l fr i wr) (fun _ _ i _ => s.size - (intOf i).toNat)
  case atStart => exact ⟨⟨0, 0, s.size + 1, [], by omega, by omega, (fun h => Or.inr ⟨rfl, rfl⟩), rfl, rfl, by omega, by omega, by omega, by simp, by simp, World.ownsRow_nil _ _ _ _⟩, by rw [HB.out]; exact Nat.le_refl _, by rw [HB.out]; exact Below.refl _ _⟩
  case round =>
    obtain ⟨⟨k, p, f, D, hk, hp, hpk, rfl, rfl, hE, hf, hfk, hDk, hD, hrow⟩, hBs, hbl⟩ := hrel
    have HP := Lib.hid (hpk rfl)
    have HE := Lib.hid hE
    have HD := Lib.hid hD
    have Hrow := Lib.hid hrow
    have Hbl := Lib.hid hbl
    clear hE hD hrow hbl hpk
    obtain ⟨i0, hi, hz0, hz1, hz2⟩ := info_parts infoP
    have Hi := Lib.hid hi
    have Hz0 := Lib.hid hz0
    have Hz1 := Lib.hid hz1
    have Hz2 := Lib.hid hz2
    clear hi hz0 hz1 hz2
    by_cases hlt : k < s.size
    · have hkl : k < s.data.toList.length := by rw [← Lib.size_eq]; exact hlt
      rcases Nat.eq_zero_or_pos k with h0 | h0
      · subst h0
        have HE2 := Lib.hid (fend_on s.data.toList p 0 HP.out HE.out hkl (by simp [starts]))
        go_wp2_with fail
        go_roundw
        case rel => exact ⟨⟨1, p, f, D, by omega, by omega, (fun _ => Or.inl (by omega)), by go_num, rfl, HE2.out, hf, hfk, by omega, HD.out, Hrow.out⟩, hBs, Hbl.out⟩
        case measure => simp [intOf]; omega
      · obtain ⟨j, rfl⟩ : ∃ j, k = j + 1 := ⟨k - 1, by omega⟩
        have hj : j < s.size := by omega
        have HS := Lib.hid (starts_eq s j hlt)
        have c1 := Lib.hid (fun w => blank_ok s[j + 1] w)
        have c2 := Lib.hid (fun w => blank_ok s[j] w)
        have t1 : decide ((0 : Int) < ((j + 1 : Nat) : Int)) = true := by simp only [decide_eq_true_eq]; omega
        have hpj : p < j + 1 := by have := HP.out; omega
        by_cases hst : starts s.data.toList (j + 1) = true
        · have E := fend_begin s.data.toList p (j + 1) hpj HE.out hkl hst
          rw [HS.out, Bool.and_eq_true] at hst
          obtain ⟨q1, q2⟩ := hst
          have Q1 := Lib.hid q1
          have Q2 := Lib.hid (show isBl s[j] = false by simpa using q2)
          have E4 := spans_more s.data.toList none f p hf (by rw [E]; omega)
          rw [E] at E4
          have E4' := Lib.hid E4
          clear E E4 q1 q2
          go_wp2_with fail
          refine (c1.out _).mono ?_
          rintro e w' ⟨rfl, rfl⟩
          rw [Q1.out]
          go_wp2_with fail
          refine (c2.out _).mono ?_
          rintro e w' ⟨rfl, rfl⟩
          rw [Q2.out]
          go_wp2_with (at_builtin; refine wpList_append_own _ rfl _ _ 68 rfl B 41 i0 (.agg #[.int .i64 0, .int .i64 0]) 2 16 Tryz.underlying68 Hi.out Hz0.out Hz1.out Hz2.out rfl (by decide) _ _ _ rfl (Hrow.out.alloc _) ⟨wr.heap.size, 0, none⟩ 1 1 [.int .i64 p, .int .i64 (j + 1)] rfl rfl (cell_two _ _ _ _) (fun u hu => by simp at hu; rcases hu with rfl | rfl <;> rfl) (by unfold maxLen; omega) (by omega) (by simp; omega) ?_)
          intro v' w1 hown' hgrow _
          have hn : w1.ownsRow B 41 2 v' (D ++ [(p, j + 1)]).length (spV (D ++ [(p, j + 1)])) := by
            rw [spV_snoc]; simpa using hown'
          have hk1 : Below B w w1 := grown_below Hbl.out Hrow.out hBs hgrow
          have hB1 : B ≤ w1.heap.size := by have := hgrow.size; simp at this; omega
          have Hn := Lib.hid hn
          have Hk1 := Lib.hid hk1
          clear hn hk1 hown' hgrow
          go_wp2_with fail
          go_roundw
          case rel => exact ⟨⟨j + 1 + 1, j + 1, f - 1, D ++ [(p, j + 1)], by omega, by omega, (fun _ => Or.inl (by omega)), by go_num, by go_num, fend_pos s (j + 1) hlt, by omega, by omega, by simp; omega, by rw [← HD.out, E4'.out]; simp [gapN], Hn.out⟩, hB1, Hk1.out⟩
          case measure => simp [intOf]; omega
        · have hst' : starts s.data.toList (j + 1) = false := by simpa using hst
          have HE2 := Lib.hid (fend_on s.data.toList p (j + 1) HP.out HE.out hkl hst')
          rw [HS.out] at hst'
          have Hst := Lib.hid hst'
          clear hst hst'
          cases hb1 : isBl s[j + 1] with
          | false =>
            have Q1 := Lib.hid hb1
            clear hb1
            go_wp2_with fail
            refine (c1.out _).mono ?_
            rintro e w' ⟨rfl, rfl⟩
            rw [Q1.out]
            go_wp2_with fail
            refine (c2.out _).mono ?_
            rintro e w' ⟨rfl, rfl⟩
            go_wp2_with fail
            go_roundw
            case rel => exact ⟨⟨j + 1 + 1, p, f, D, by omega, by omega, (fun _ => Or.inl (by omega)), by go_num, rfl, HE2.out, hf, hfk, by omega, HD.out, Hrow.out⟩, hBs, Hbl.out⟩
            case measure => simp [intOf]; omega
          | true =>
            have Q1 := Lib.hid hb1
            have Q2 := Lib.hid (show isBl s[j] = true by have := Hst.out; rw [hb1] at this; simpa using this)
            clear hb1
            go_wp2_with fail
            refine (c1.out _).mono ?_
            rintro e w' ⟨rfl, rfl⟩
            rw [Q1.out]
            go_wp2_with fail
            refine (c2.out _).mono ?_
            rintro e w' ⟨rfl, rfl⟩
            rw [Q2.out]
            go_wp2_with fail
            go_roundw
            case rel => exact ⟨⟨j + 1 + 1, p, f, D, by omega, by omega, (fun _ => Or.inl (by omega)), by go_num, rfl, HE2.out, hf, hfk, by omega, HD.out, Hrow.out⟩, hBs, Hbl.out⟩
            case measure => simp [intOf]; omega
    · have hks : k = s.size := by omega
      subst hks
      have E := fend_over s.data.toList none p (by rw [← Lib.size_eq]; exact hp) (by rw [← Lib.size_eq]; exact HE.out)
      have E4 := Lib.hid (spans_last s.data.toList none f p hf E)
      have t1 : decide ((0 : Int) < (s.size : Int)) = true := by simp only [decide_eq_true_eq]; omega
      clear E
      go_wp2_with (at_builtin; refine wpList_append_own _ rfl _ _ 68 rfl B 41 i0 (.agg #[.int .i64 0, .int .i64 0]) 2 16 Tryz.underlying68 Hi.out Hz0.out Hz1.out Hz2.out rfl (by decide) _ _ _ rfl (Hrow.out.alloc _) ⟨wr.heap.size, 0, none⟩ 1 1 [.int .i64 p, .int .i64 s.size] rfl rfl (cell_two _ _ _ _) (fun u hu => by simp at hu; rcases hu with rfl | rfl <;> rfl) (by unfold maxLen; omega) (by omega) (by simp; omega) ?_)
      intro v' w1 hown' hgrow _
      have hn : w1.ownsRow B 41 2 v' (D ++ [(p, s.size)]).length (spV (D ++ [(p, s.size)])) := by
        rw [spV_snoc]; simpa using hown'
      have hk1 : Below B w w1 := grown_below Hbl.out Hrow.out hBs hgrow
      have hB1 : B ≤ w1.heap.size := by have := hgrow.size; simp at this; omega
      have Hn := Lib.hid hn
      have Hk1 := Lib.hid hk1
      clear hn hk1 hown' hgrow
      go_wp2_with fail
      go_ret
      refine ⟨v', rfl, ?_, by rw [← HB.out]; exact Hk1.out⟩
      rw [← HB.out, ← HD.out, E4.out, ← Lib.size_eq]
      exact Hn.out
end Go.Proofs.YtgpcmlbmmcnkjaaGreatDoor
