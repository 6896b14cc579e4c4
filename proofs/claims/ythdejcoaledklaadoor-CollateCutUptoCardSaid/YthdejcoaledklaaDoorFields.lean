/- Fields, the program's. -/
import Derived.Test.YthdejcoaledklaaDoorFld
import Derived.OwnWalk
import Derived.Laws.OwnMore
namespace Go.Proofs.YthdejcoaledklaaDoor
open Go.RowKit

theorem infoP : (Tryd.prog.info? 25).map (fun i => (i.zero, i.size, i.bytes)) = some (some (.agg #[.int .i64 0, .int .i64 0]), 2, 16) := by kernel_rfl
/-- Spans, as cells. -/
def spV (L : List (Nat × Nat)) : List Value := L.flatMap fun p => [.int .i64 p.1, .int .i64 p.2]
theorem spV_snoc (L : List (Nat × Nat)) (a b : Nat) : spV (L ++ [(a, b)]) = spV L ++ [.int .i64 a, .int .i64 b] := by simp [spV]
theorem cell_two (w : World) (u v : Value) (t : TypeId) : ∀ j x, [u, v][j]? = some x → (w.alloc (.cells #[u, v] t)).cell? ((⟨w.heap.size, 0, none⟩ : Addr).add j) = some x := by
  intro j x hj
  match j, hj with
  | 0, hj => simp at hj; subst hj; simp [Addr.add, World.cell?_alloc_new]
  | 1, hj => simp at hj; subst hj; simp [Addr.add, World.cell?_alloc_new]
def RetSpans (w : World) (L : List (Nat × Nat)) (e : Ending) (w' : World) : Prop :=
  ∃ v, e = .returned v ∧ w'.ownsRow w.heap.size 25 2 v L.length (spV L) ∧ Below w.heap.size w w'
theorem grown_below {B : Nat} {w wr w1 : World} {o : Obj} {v : Value} {size n : Nat} {e : TypeId} {xs : List Value} (hk : Below B w wr) (hr : wr.ownsRow B e size v n xs) (hB : B ≤ wr.heap.size) (hg : (wr.alloc o).grownBy w1 v.ownBlock) : Below B w w1 :=
  have h1 : Below B w (wr.alloc o) := hk.alloc hB o
  ⟨hg.os.trans h1.os, hg.tape.trans h1.tape, hg.output.trans h1.output, Nat.le_trans h1.size hg.size, fun k hk2 => (hg.block k (by simp; omega) (fun hv => by have := (hr.lt k hv.symm).1; omega)).trans (h1.block k hk2)⟩

structure FieldsRel (w : World) (B : Nat) (s : ByteArray) (o : Option UInt8) (l fr : Value) (wr : World) : Prop where
  ex : ∃ (k f : Nat) (D : List (Nat × Nat)), k ≤ s.size ∧ fr = .int .i64 k ∧ 0 < f ∧ s.size + 1 ≤ f + k ∧ (o = none → k < s.size) ∧ D.length ≤ k ∧ D ++ spans s.data.toList o f k = spans s.data.toList o (s.size + 1) 0 ∧ wr.ownsRow B 25 2 l D.length (spV D)
  heap : B ≤ wr.heap.size
  below : Below B w wr

set_option maxRecDepth 100000
set_option maxHeartbeats 800000 in
theorem fields_some (o : Option UInt8) (s : ByteArray) (w : World) (hs : s.size ≤ 1048576) (hne : o = none → s.size ≠ 0) (T : Tabs w) :
    Calls Tryd.prog 5 #[.string s, .int .i64 (tabI o)] w (RetSpans w (spans s.data.toList o (s.size + 1) 0)) := by
  have HFE := Lib.hid (fun (k : Nat) (wr : World) (hk : k ≤ s.size) (hb : Below w.heap.size w wr) => fieldEnd_ok o s k wr hk (by omega) (T.below hb))
  have HGP := Lib.hid (fun (wr : World) => show Calls Tryd.prog 9 #[.int .i64 (tabI o)] wr (fun e w' => e = .returned (.int .i64 (gapN o)) ∧ wr = w') from gap_ok o wr)
  have hI : -1 ≤ tabI o ∧ tabI o ≤ 255 := by
    cases o with
    | none => exact ⟨by decide, by decide⟩
    | some t => have := t.toNat_lt; exact ⟨by show (-1 : Int) ≤ t.toNat; omega, by show (t.toNat : Int) ≤ 255; omega⟩
  have hem : (tabI o == -1) = true → s.toList.isEmpty = false := fun h => by
    cases o with
    | none =>
      have := hne rfl
      rw [Lib.toList_data, List.isEmpty_eq_false_iff]
      intro e
      exact this (by rw [Lib.size_eq, e]; rfl)
    | some t => exact absurd (beq_iff_eq.1 h) (show ¬ (t.toNat : Int) = -1 by omega)
  have hN := Lib.hid hne
  have hge := Lib.hid (fun k => fend_ge s.data.toList o k)
  have hle := Lib.hid (fun k (hk : k ≤ s.size) => show fend s.data.toList o k ≤ s.size by rw [Lib.size_eq]; exact fend_le _ _ _ (by rw [← Lib.size_eq]; exact hk))
  have hpos := Lib.hid (fun k (hk : o = none → k < s.size) (h : fend s.data.toList o k ≠ s.size) => show k < fend s.data.toList o k + gapN o by
    cases o with
    | none =>
      have h1 := hk rfl
      have h2 := fend_le s.data.toList none k (by rw [← Lib.size_eq]; omega)
      rw [← Lib.size_eq] at h2
      have := (fend_starts s.data.toList k (by rw [← Lib.size_eq]; exact h1) (by rw [← Lib.size_eq]; omega)).1
      show k < _ + 0
      exact this
    | some t => have := fend_ge s.data.toList (some t) k; show k < _ + 1; omega)
  have hgap : gapN o ≤ 1 := by cases o <;> simp [gapN]
  have hgn := Lib.hid (show o = none → gapN o = 0 from fun h => by rw [h]; rfl)
  have HM := Lib.hid (fun f k (hf : 0 < f) (h : fend s.data.toList o k ≠ s.size) => spans_more s.data.toList o f k hf (by rw [← Lib.size_eq]; exact h))
  have HL := Lib.hid (fun f k (hf : 0 < f) (h : fend s.data.toList o k = s.size) => spans_last s.data.toList o f k hf (by rw [← Lib.size_eq]; exact h))
  clear hne T
  generalize tabI o = I at *
  obtain ⟨B, hB⟩ : ∃ B, B = w.heap.size := ⟨_, rfl⟩
  have HB := Lib.hid hB
  rw [← hB] at HFE
  clear hB
  have t1 : decide (I < -1) = false := by simp only [decide_eq_false_iff_not]; omega
  have t2 : decide (255 < I) = false := by simp only [decide_eq_false_iff_not]; omega
  have HEM := Lib.hid hem
  clear hem
  cases h3 : (I == -1)
  all_goals
    have t3 := HEM.out
    try rw [h3] at t3
    first
      | (have t4 := t3 rfl; clear t3)
      | clear t3
    clear HEM
    go_enter Tryd.func5, Tryd.ntmps5
    go_wp2_with fail
    go_loopw [5, 6] (fun l fr wr => FieldsRel w B s o l fr wr) (fun _ fr _ => s.size + 1 - (intOf fr).toNat)
    case atStart => exact ⟨⟨0, s.size + 1, [], by omega, rfl, by omega, by omega, fun h => by have := hN.out h; omega, by simp, by simp, World.ownsRow_nil _ _ _ _⟩, by rw [HB.out]; exact Nat.le_refl _, by rw [HB.out]; exact Below.refl _ _⟩
    case round =>
      obtain ⟨⟨k, f, D, hk, rfl, hf, hfk, hko, hDk, hD, hrow⟩, hBs, hbl⟩ := hrel
      have HFE2 := HFE.out k wr hk (hbl)
      have HFE3 := Lib.hid HFE2
      have E1 := hge.out k
      have E2 := hle.out k hk
      have E3 := Lib.hid (hpos.out k hko)
      have E4 := Lib.hid (HM.out f k hf)
      have E5 := Lib.hid (HL.out f k hf)
      have Hko := Lib.hid hko
      have HD := Lib.hid hD
      have Hrow := Lib.hid hrow
      have Hbl := Lib.hid hbl
      clear HFE2 hko hD hrow hbl
      generalize fend s.data.toList o k = e at *
      obtain ⟨i0, hi, hz0, hz1, hz2⟩ := info_parts infoP
      have Hi := Lib.hid hi
      have Hz0 := Lib.hid hz0
      have Hz1 := Lib.hid hz1
      have Hz2 := Lib.hid hz2
      clear hi hz0 hz1 hz2
      go_wp2_with fail
      refine HFE3.out.mono ?_
      rintro e1 w' ⟨rfl, rfl⟩
      go_wp2_with (at_builtin; refine wpList_append_own _ rfl _ _ 22 rfl B 25 i0 (.agg #[.int .i64 0, .int .i64 0]) 2 16 Tryd.underlying22 Hi.out Hz0.out Hz1.out Hz2.out rfl (by decide) _ _ _ rfl (Hrow.out.alloc _) ⟨wr.heap.size, 0, none⟩ 1 1 [.int .i64 k, .int .i64 e] rfl rfl (cell_two _ _ _ _) (fun u hu => by simp at hu; rcases hu with rfl | rfl <;> rfl) (by unfold maxLen; omega) (by omega) (by simp; omega) ?_)
      intro v' w1 hown' hgrow _
      have hn : w1.ownsRow B 25 2 v' (D ++ [(k, e)]).length (spV (D ++ [(k, e)])) := by
        rw [spV_snoc]; simpa using hown'
      have hk1 : Below B w w1 := grown_below Hbl.out Hrow.out hBs hgrow
      have hB1 : B ≤ w1.heap.size := by have := hgrow.size; simp at this; omega
      have Hn := Lib.hid hn
      have Hk1 := Lib.hid hk1
      clear hn hk1 hown' hgrow
      by_cases hend : e = s.size
      · have E6 := Lib.hid (E5.out hend)
        subst hend
        go_wp2_with fail
        go_ret
        refine ⟨v', rfl, ?_, by rw [← HB.out]; exact Hk1.out⟩
        rw [← HB.out, ← HD.out, E6.out, ← Lib.size_eq]
        exact Hn.out
      · have E6 := Lib.hid (E4.out hend)
        have E7 := E3.out hend
        have e1 : ((e : Int) == (s.size : Int)) = false := by rw [beq_eq_false_iff_ne]; omega
        have hlt : e < s.size := by omega
        clear hend
        go_wp2_with fail
        refine (HGP.out _).mono ?_
        rintro e2 w' ⟨rfl, rfl⟩
        go_wp2_with fail
        go_roundw
        case rel => exact ⟨⟨e + gapN o, f - 1, D ++ [(k, e)], by omega, by go_num, by omega, by omega, fun h => by have := hgn.out h; omega, by simp; omega, by rw [← HD.out, E6.out]; simp, Hn.out⟩, hB1, Hk1.out⟩
        case measure => simp [intOf]; omega
end Go.Proofs.YthdejcoaledklaaDoor
