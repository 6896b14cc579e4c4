/- The buffer behind what was read. -/
import Derived.Test.YtolnojhepakaoaaRoomN
namespace Go.Proofs.Ytolnojhepakaoaa
open Go.RowKit

theorem take_two {α : Type} {X M : List α} (Y : List α) (a k : Nat) (hX : X.length = a) (hM : M.length = k) : (X ++ (M ++ Y)).take (a + k) = X ++ M := by
  subst hX hM
  rw [← List.append_assoc, List.take_append_of_le_length (by simp), List.take_of_length_le (by simp)]

/-- The buffer behind what was read. -/
theorem buf_more {w : World} {B : Nat} {d : Rd} {bs more : List Int} (hown : w.ownsRow B 5 1 d.buf bs.length (splice (bs.map (Value.int .u8)) d.up (more.map (Value.int .u8)))) (hb : ∀ z ∈ bs, InByte z) (hm : ∀ z ∈ more, InByte z) (h1 : d.fr ≤ d.up) (h2 : d.up + more.length ≤ bs.length) (h4 : d.cl ≤ d.up - d.fr)
    (hc : ∀ j, j < d.cl → (d.rest bs).getD j 0 ≠ d.sep) (hs : InByte d.sep) (k : Nat) (hk : more.length = k) :
    ∃ bs' : List Int, BufAt w B { d with up := d.up + k } bs' ∧ Rd.rest { d with up := d.up + k } bs' = d.rest bs ++ more ∧ bs'.length = bs.length := by
  have e : splice (bs.map (Value.int .u8)) d.up (more.map (Value.int .u8)) = (splice bs d.up more).map (Value.int .u8) := by
    simp [splice, List.map_take, List.map_drop]
  have hl : (splice bs d.up more).length = bs.length := length_splice _ _ _ h2
  have hrest : Rd.rest { d with up := d.up + k } (splice bs d.up more) = d.rest bs ++ more := by
    show ((splice bs d.up more).drop d.fr).take (d.up + k - d.fr) = (bs.drop d.fr).take (d.up - d.fr) ++ more
    unfold splice
    have e1 : (bs.take d.up).length = d.up := by rw [List.length_take]; omega
    have e2 : ((bs.take d.up).drop d.fr).length = d.up - d.fr := by rw [List.length_drop, e1]
    rw [List.drop_append_of_le_length (by omega), show d.up + k - d.fr = (d.up - d.fr) + k by omega, take_two _ _ _ e2 hk, List.drop_take]
  rw [e] at hown
  refine ⟨splice bs d.up more, ⟨by rw [hl]; exact hown, fun z hz => ?_, Nat.le_trans h1 (Nat.le_add_right _ _), by rw [hl]; exact hk ▸ h2, Nat.le_trans h4 (Nat.sub_le_sub_right (Nat.le_add_right _ _) _), fun j hj => ?_, hs⟩, hrest, hl⟩
  · unfold splice at hz
    rcases List.mem_append.1 hz with h | h
    · exact hb z (List.mem_of_mem_take h)
    · rcases List.mem_append.1 h with h | h
      · exact hm z h
      · exact hb z (List.mem_of_mem_drop h)
  · rw [hrest]
    have hrl : (d.rest bs).length = d.up - d.fr := rest_len h1 (by omega)
    have hj' : j < (d.rest bs).length := by rw [hrl]; exact Nat.lt_of_lt_of_le hj h4
    have := hc j hj
    simpa [List.getD, List.getElem?_append_left hj'] using this

end Go.Proofs.Ytolnojhepakaoaa
