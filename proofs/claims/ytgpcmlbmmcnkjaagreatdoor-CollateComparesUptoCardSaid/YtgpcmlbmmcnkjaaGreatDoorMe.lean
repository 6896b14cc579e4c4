/- Where a field begins, the answer's way: out of the list of fields. -/
import Derived.Test.YtgpcmlbmmcnkjaaGreatDoorKd
import Derived.Test.YtgpcmlbmmcnkjaaGreatDoorRefF
import Derived.Test.YtgpcmlbmmcnkjaaGreatDoorNil
import Derived.Test.YtgpcmlbmmcnkjaaGreatDoorSq
namespace Go.Proofs.YtgpcmlbmmcnkjaaGreatDoor
open Go.RowKit
set_option maxRecDepth 100000

/-- A list of spans, as a slice. -/
structure SpAt (w : World) (ao : Option Addr) (L : List (Nat × Nat)) : Prop where
  at_ : ∀ (i a e : Nat), L[i]? = some (a, e) → ∃ b, ao = some ⟨b, 0, none⟩ ∧ b < w.heap.size ∧ w.cell? ⟨b, i * 2, none⟩ = some (.int .i64 (a : Int)) ∧ w.cell? ⟨b, i * 2 + 1, none⟩ = some (.int .i64 (e : Int))
theorem SpAt.below {w w' : World} {ao : Option Addr} {L : List (Nat × Nat)} (h : SpAt w ao L) (k : Below w.heap.size w w') : SpAt w' ao L := ⟨fun i a e hi => by
  obtain ⟨b, h1, h2, h3, h4⟩ := h.at_ i a e hi
  exact ⟨b, h1, Nat.lt_of_lt_of_le h2 k.size, (k.cell (p := ⟨b, i * 2, none⟩) h2).trans h3, (k.cell (p := ⟨b, i * 2 + 1, none⟩) h2).trans h4⟩⟩
theorem spV_get : ∀ (L : List (Nat × Nat)) (i a e : Nat), L[i]? = some (a, e) → (spV L)[2 * i]? = some (.int .i64 (a : Int)) ∧ (spV L)[2 * i + 1]? = some (.int .i64 (e : Int))
  | [], i, a, e, h => by simp at h
  | (x, y) :: L, 0, a, e, h => by
    simp at h
    obtain ⟨rfl, rfl⟩ := h
    simp [spV]
  | (x, y) :: L, i + 1, a, e, h => by
    have ih := spV_get L i a e (by simpa using h)
    have e1 : spV ((x, y) :: L) = [.int .i64 x, .int .i64 y] ++ spV L := by simp [spV]
    rw [e1]
    refine ⟨?_, ?_⟩
    · rw [List.getElem?_append_right (by simp; omega), show 2 * (i + 1) - [Value.int IntKind.i64 (x : Int), .int .i64 y].length = 2 * i by simp; omega]; exact ih.1
    · rw [List.getElem?_append_right (by simp; omega), show 2 * (i + 1) + 1 - [Value.int IntKind.i64 (x : Int), .int .i64 y].length = 2 * i + 1 by simp; omega]; exact ih.2
theorem sp_own {w : World} {B : Nat} {t : TypeId} {v : Value} {L : List (Nat × Nat)} (h : w.ownsRow B t 2 v L.length (spV L)) : ∃ ao c, v = .slice ao L.length c ∧ SpAt w ao L := by
  by_cases h0 : L.length = 0
  · rcases h.2 with ⟨rfl, h1⟩ | ⟨g, cap, cur, rfl, _⟩
    · exact ⟨none, 0, by rw [h1], ⟨fun i a e hi => by rw [List.eq_nil_of_length_eq_zero h0] at hi; simp at hi⟩⟩
    · exact ⟨_, _, rfl, ⟨fun i a e hi => by rw [List.eq_nil_of_length_eq_zero h0] at hi; simp at hi⟩⟩
  · obtain ⟨g, c, rfl, _, hl, hr, _⟩ := own_row h h0
    refine ⟨_, c, rfl, ⟨fun i a e hi => ⟨g, rfl, hl, ?_, ?_⟩⟩⟩
    · simpa [Nat.mul_comm] using hr (2 * i) _ (spV_get L i a e hi).1
    · simpa [Nat.mul_comm] using hr (2 * i + 1) _ (spV_get L i a e hi).2
set_option maxHeartbeats 3200000 in
theorem mbegin_g (s : ByteArray) (ao : Option Addr) (L : List (Nat × Nat)) (cc n k : Nat) (bl : Bool) (w : World) (hn : 1 ≤ n ∧ n ≤ 2147483647) (hs : s.size ≤ 140737488351232) (hk : k ≤ s.size)
    (H : SpAt w ao L) (h1 : n ≤ L.length → ∃ e, L[n - 1]? = some (k, e)) (h2 : ¬ n ≤ L.length → k = s.size) :
    Calls Tryz.prog 32 #[.string s, .slice ao L.length cc, .int .i64 (n : Int), .bool bl] w (RetS w (.int .i64 (((if bl then behB s.data.toList k else k) : Nat) : Int))) := by
  have BL := Lib.hid (fun (c : UInt8) => blank_ok c w)
  have hsz := Lib.hid (Lib.size_eq s)
  generalize L.length = len at *
  by_cases hl : n ≤ len
  · obtain ⟨e, he⟩ := h1 hl
    obtain ⟨b, rfl, hb, c0, _⟩ := H.at_ _ _ _ he
    have i1 : (n : Int) - 1 = ((n - 1 : Nat) : Int) := by omega
    have t1 : decide ((n : Int) ≤ (len : Int)) = true := by rw [decide_eq_true_eq]; omega
    have hlt : n - 1 < len := by omega
    generalize n - 1 = q at *
    clear he h1 h2 H
    · go_enter Tryz.func32, Tryz.ntmps32
      cases bl with
      | false =>
        go_wp2_with fail
        go_loop [9] (fun i => i = .int .i64 (k : Int)) (fun i => 0)
        case atStart => rfl
        case round =>
          subst hrel
          go_wp2_with fail
          go_ret
          exact ⟨rfl, rfl⟩
      | true =>
        go_wp2_with fail
        go_loop [9] (fun i => ∃ j : Nat, j ≤ s.size ∧ i = .int .i64 j ∧ nxt (fun c => !isBl c) s.data.toList k = nxt (fun c => !isBl c) s.data.toList j) (fun i => s.size - (intOf i).toNat)
        case atStart => exact ⟨k, hk, rfl, rfl⟩
        case round =>
          obtain ⟨j, hj, rfl, he⟩ := hrel
          have HE := Lib.hid he
          clear he
          by_cases hlt : j < s.size
          · have HN := Lib.hid (nxt_at_bytes (fun c => !isBl c) s j hlt)
            cases hb : isBl s[j] with
            | true =>
              have HB := Lib.hid hb
              clear hb
              go_wp2_with fail
              refine (BL.out s[j]).mono ?_
              rintro e w' ⟨rfl, rfl⟩
              rw [HB.out]
              go_wp2_with fail
              go_round
              case rel => exact ⟨j + 1, by omega, by go_num, by rw [HE.out, HN.out, HB.out]; rfl⟩
              case measure => simp [intOf]; omega
            | false =>
              have HB := Lib.hid hb
              clear hb
              go_wp2_with fail
              refine (BL.out s[j]).mono ?_
              rintro e w' ⟨rfl, rfl⟩
              rw [HB.out]
              go_wp2_with fail
              go_ret
              exact ⟨by simp only; unfold behB; rw [HE.out, HN.out, HB.out]; rfl, rfl⟩
          · have hjs : j = s.size := by omega
            subst hjs
            go_wp2_with fail
            go_ret
            exact ⟨by simp only; unfold behB; rw [HE.out, nxt_end _ _ _ (by rw [← Lib.size_eq]; exact Nat.le_refl _)]; rfl, rfl⟩
  · obtain rfl := h2 hl
    have t1 : decide ((n : Int) ≤ (len : Int)) = false := by rw [decide_eq_false_iff_not]; omega
    clear h1 h2 H
    · go_enter Tryz.func32, Tryz.ntmps32
      cases bl with
      | false =>
        go_wp2_with fail
        go_loop [9] (fun i => i = .int .i64 (s.size : Int)) (fun i => 0)
        case atStart => rfl
        case round =>
          subst hrel
          go_wp2_with fail
          go_ret
          exact ⟨rfl, rfl⟩
      | true =>
        go_wp2_with fail
        go_loop [9] (fun i => ∃ j : Nat, j ≤ s.size ∧ i = .int .i64 j ∧ nxt (fun c => !isBl c) s.data.toList s.size = nxt (fun c => !isBl c) s.data.toList j) (fun i => s.size - (intOf i).toNat)
        case atStart => exact ⟨s.size, hk, rfl, rfl⟩
        case round =>
          obtain ⟨j, hj, rfl, he⟩ := hrel
          have HE := Lib.hid he
          clear he
          by_cases hlt : j < s.size
          · have HN := Lib.hid (nxt_at_bytes (fun c => !isBl c) s j hlt)
            cases hb : isBl s[j] with
            | true =>
              have HB := Lib.hid hb
              clear hb
              go_wp2_with fail
              refine (BL.out s[j]).mono ?_
              rintro e w' ⟨rfl, rfl⟩
              rw [HB.out]
              go_wp2_with fail
              go_round
              case rel => exact ⟨j + 1, by omega, by go_num, by rw [HE.out, HN.out, HB.out]; rfl⟩
              case measure => simp [intOf]; omega
            | false =>
              have HB := Lib.hid hb
              clear hb
              go_wp2_with fail
              refine (BL.out s[j]).mono ?_
              rintro e w' ⟨rfl, rfl⟩
              rw [HB.out]
              go_wp2_with fail
              go_ret
              exact ⟨by simp only; unfold behB; rw [HE.out, HN.out, HB.out]; rfl, rfl⟩
          · have hjs : j = s.size := by omega
            subst hjs
            go_wp2_with fail
            go_ret
            exact ⟨by simp only; unfold behB; rw [nxt_end _ _ _ (by rw [← Lib.size_eq]; exact Nat.le_refl _)]; rfl, rfl⟩
end Go.Proofs.YtgpcmlbmmcnkjaaGreatDoor
