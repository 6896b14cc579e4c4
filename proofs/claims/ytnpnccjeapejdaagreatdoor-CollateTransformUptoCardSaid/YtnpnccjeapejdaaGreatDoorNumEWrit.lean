/- written of the statements: a number as text, with zeros ahead. -/
import Derived.Test.YtnpnccjeapejdaaGreatDoorNumWord
import Derived.Lib.SmallJoins
namespace Go.Proofs.YtnpnccjeapejdaaGreatDoor.Num
open Go.RowKit

/-- The digits of a number above 0; of 0 none. -/
def dgs (m : Nat) : List UInt8 := if _h : m = 0 then [] else dgs (m / 10) ++ [48 + UInt8.ofNat (m % 10)]
termination_by m
decreasing_by omega
theorem dgs_zero : dgs 0 = [] := by rw [dgs]; simp
theorem dgs_pos {m : Nat} (h : m ≠ 0) : dgs m = dgs (m / 10) ++ [48 + UInt8.ofNat (m % 10)] := by
  conv => lhs; rw [dgs]
  simp [h]
/-- A whole number's digits; of 0 one. -/
def dg (m : Nat) : List UInt8 := if m = 0 then [48] else dgs m
theorem dgs_len : ∀ (c m : Nat), m < 10 ^ c → (dgs m).length ≤ c
  | 0, m, h => by have : m = 0 := by simp at h; exact h
                  subst this; rw [dgs_zero]; simp
  | c + 1, m, h => by
    by_cases e : m = 0
    · subst e; rw [dgs_zero]; simp
    · rw [dgs_pos e, List.length_append]
      have : m / 10 < 10 ^ c := by rw [Nat.div_lt_iff_lt_mul (by omega)]; rw [Nat.pow_succ] at h; exact h
      have := dgs_len c _ this
      simp; omega
theorem dg_len (m : Nat) (h : m < 2 ^ 62) : (dg m).length ≤ 19 := by
  unfold dg
  split
  · simp
  · exact dgs_len 19 m (by omega)
/-- Between two rounds: the digits that are there, and the number that is left. -/
def WrD (M k : Nat) (l : List UInt8) : Prop := k < 2 ^ 62 ∧ ((l = [] ∧ k = M) ∨ (l ≠ [] ∧ dgs k ++ l = dg M))
theorem WrD.step {M k : Nat} {l : List UInt8} (h : WrD M k l) (c : 0 < k ∨ l = []) : WrD M (k / 10) ((48 + UInt8.ofNat (k % 10)) :: l) := by
  refine ⟨by have := h.1; omega, Or.inr ⟨by simp, ?_⟩⟩
  by_cases e : k = 0
  · subst e
    rcases h.2 with ⟨rfl, rfl⟩ | ⟨h1, h2⟩
    · simp [dgs_zero, dg]
    · rcases c with c | c
      · omega
      · exact absurd c h1
  · have e1 : dgs (k / 10) ++ (48 + UInt8.ofNat (k % 10)) :: l = dgs k ++ l := by rw [dgs_pos e]; simp
    rw [e1]
    rcases h.2 with ⟨rfl, rfl⟩ | ⟨h1, h2⟩
    · simp [dg, e]
    · exact h2
theorem WrD.nil {M : Nat} (h : WrD M 0 []) : WrD M 0 ([48] ++ []) := by
  have := h.step (Or.inr rfl)
  simpa using this
theorem WrD.done {M : Nat} {l : List UInt8} (h : WrD M 0 l) (c : l ≠ []) : l = dg M := by
  rcases h.2 with ⟨rfl, rfl⟩ | ⟨h1, h2⟩
  · exact absurd rfl c
  · rw [dgs_zero] at h2; simpa using h2
theorem WrD.len {M k : Nat} {l : List UInt8} (h : WrD M k l) (hM : M < 2 ^ 62) : l.length ≤ 19 := by
  rcases h.2 with ⟨rfl, rfl⟩ | ⟨h1, h2⟩
  · simp
  · have := congrArg List.length h2
    rw [List.length_append] at this
    have := dg_len M hM
    omega
set_option maxRecDepth 100000
theorem dig_back (wr : World) (x : Int) (hx : 0 ≤ x ∧ x < 256) :
    (convert 52 9 (.slice (some ⟨wr.heap.size, 0, none⟩) 1 1)).run Tryz.prog (wr.alloc (.cells #[.int .u8 x] 5)) = .ok (.string (bs [UInt8.ofNat x.toNat])) (wr.alloc (.cells #[.int .u8 x] 5)) :=
  run_convert_bytes_back (l := [UInt8.ofNat x.toNat]) _ 52 9 5 ⟨wr.heap.size, 0, none⟩ 1 Tryz.underlying52 Tryz.underlying5 Tryz.underlying9 (fun j hj => by
    have h0 : j = 0 := by simp at hj; exact hj
    subst h0
    have e : (⟨wr.heap.size, 0, none⟩ : Addr).add 0 = ⟨wr.heap.size, 0, none⟩ := by unfold Addr.add; split <;> simp_all
    rw [e, World.cell?_alloc_mark]
    have : x.toNat % 256 = x.toNat := by omega
    simp [this]; omega)
theorem below_alloc (w : World) (o : Obj) : Below w.heap.size w (w.alloc o) :=
  ⟨rfl, rfl, rfl, by show w.heap.size ≤ (w.heap.push o).size; simp, fun k hk => by show (w.heap.push o)[k]? = _; rw [Array.getElem?_push]; split <;> first | rfl | omega⟩
theorem e48 : (⟨#[48]⟩ : ByteArray) = bs [48] := rfl
set_option maxRecDepth 100000
end Go.Proofs.YtnpnccjeapejdaaGreatDoor.Num
