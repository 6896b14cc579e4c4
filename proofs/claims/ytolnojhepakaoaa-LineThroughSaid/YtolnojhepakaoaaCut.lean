/- Lines out of bytes: what Split must give, as plain lists; and where the first separator stands. No program is named. -/
import Derived.Lib.Bytealg
import Derived.Lib.Bytes
import Derived.WalkKit
namespace Go.Proofs.Ytolnojhepakaoaa

/-- The lines of what is still to come, cur being the beginning of the first; and whether the last one had its separator. -/
def cutL (sep : Int) : List Int → List Int → List (List Int) × Bool
  | cur, [] => if cur.isEmpty then ([], true) else ([cur], false)
  | cur, x :: r => if x = sep then (cur :: (cutL sep [] r).1, (cutL sep [] r).2) else cutL sep (cur ++ [x]) r

/-- The first place of a byte; the length, if it isn't there. -/
def idx (sep : Int) : List Int → Nat
  | [] => 0
  | x :: r => if x = sep then 0 else idx sep r + 1

theorem idx_le (sep : Int) : ∀ zs : List Int, idx sep zs ≤ zs.length
  | [] => Nat.le_refl _
  | x :: r => by
    have := idx_le sep r
    unfold idx
    split
    · omega
    · simp only [List.length_cons]; omega

theorem cut_found (sep : Int) : ∀ (zs cur : List Int), idx sep zs < zs.length →
    cutL sep cur zs = ((cur ++ zs.take (idx sep zs)) :: (cutL sep [] (zs.drop (idx sep zs + 1))).1, (cutL sep [] (zs.drop (idx sep zs + 1))).2)
  | [], cur, h => by simp [idx] at h
  | x :: r, cur, h => by
    by_cases e : x = sep
    · simp [cutL, idx, e]
    · have h' : idx sep r < r.length := by
        unfold idx at h
        rw [if_neg e] at h
        simp only [List.length_cons] at h
        omega
      have ih := cut_found sep r (cur ++ [x]) h'
      simp only [cutL, idx, if_neg e, ih]
      simp

theorem cut_none (sep : Int) : ∀ (zs cur : List Int), ¬ idx sep zs < zs.length → cutL sep cur zs = if (cur ++ zs).isEmpty then ([], true) else ([cur ++ zs], false)
  | [], cur, h => by simp [cutL]
  | x :: r, cur, h => by
    by_cases e : x = sep
    · simp [idx, e] at h
    · have h' : ¬ idx sep r < r.length := by
        unfold idx at h
        rw [if_neg e] at h
        simp only [List.length_cons] at h
        omega
      have ih := cut_none sep r (cur ++ [x]) h'
      simp only [cutL, if_neg e, ih]
      simp

def InByte (z : Int) : Prop := 0 ≤ z ∧ z ≤ 255

theorem byte_eq {x y : Int} (hx : InByte x) (hy : InByte y) : (x.toNat.toUInt8 == y.toNat.toUInt8) = decide (x = y) := by
  obtain ⟨h1, h2⟩ := hx
  obtain ⟨h3, h4⟩ := hy
  rw [Bool.eq_iff_iff, beq_iff_eq, decide_eq_true_iff]
  constructor
  · intro h
    have h5 := congrArg UInt8.toNat h
    simp at h5
    omega
  · rintro rfl; rfl

theorem indexByte_idx (sep : Int) (hs : InByte sep) : ∀ zs : List Int, (∀ z ∈ zs, InByte z) → Lib.indexByte (Lib.bytesOf zs) sep.toNat.toUInt8 = if idx sep zs < zs.length then (idx sep zs : Int) else -1
  | [], _ => rfl
  | x :: r, h => by
    have ih := indexByte_idx sep hs r (fun z hz => h z (List.mem_cons_of_mem _ hz))
    have hb := byte_eq (h x (List.mem_cons_self ..)) hs
    have e : Lib.bytesOf (x :: r) = x.toNat.toUInt8 :: Lib.bytesOf r := rfl
    rw [e]
    unfold Lib.indexByte
    rw [hb, ih]
    by_cases hx : x = sep
    · simp [idx, hx]
    · have h1 : idx sep (x :: r) = idx sep r + 1 := by simp [idx, hx]
      rw [h1]
      simp only [hx, decide_false, Bool.false_eq_true, if_false, List.length_cons]
      by_cases hl : idx sep r < r.length
      · have h2 : ((idx sep r : Int) == -1) = false := by rw [beq_eq_false_iff_ne]; omega
        simp [hl, h2]
      · simp [hl]

theorem drop_at (zs : List Int) (k : Nat) (h : k < zs.length) : zs.drop k = zs.getD k 0 :: zs.drop (k + 1) := by
  rw [List.drop_eq_getElem_cons h]
  simp [List.getD, h]
theorem cut_hit {zs : List Int} {sep : Int} {k : Nat} (cur : List Int) (h : k < zs.length) (hx : zs.getD k 0 = sep) : cutL sep cur (zs.drop k) = (cur :: (cutL sep [] (zs.drop (k + 1))).1, (cutL sep [] (zs.drop (k + 1))).2) := by
  rw [drop_at zs k h, hx]
  simp [cutL]
theorem cut_miss {zs : List Int} {sep : Int} {k p : Nat} (h : k < zs.length) (hp : p ≤ k) (hx : zs.getD k 0 ≠ sep) : cutL sep ((zs.drop p).take (k - p)) (zs.drop k) = cutL sep ((zs.drop p).take (k + 1 - p)) (zs.drop (k + 1)) := by
  have e : (zs.drop p).take (k + 1 - p) = (zs.drop p).take (k - p) ++ [zs.getD k 0] := by
    rw [show k + 1 - p = k - p + 1 by omega, List.take_succ_eq_append_getElem (by simp; omega)]
    congr 2
    have h2 : p + (k - p) = k := by omega
    simp [List.getD, h, h2]
  rw [e, drop_at zs k h]
  simp only [cutL, if_neg hx]
theorem cut_end {zs : List Int} {sep : Int} {p : Nat} (hp : p < zs.length) : cutL sep ((zs.drop p).take (zs.length - p)) (zs.drop zs.length) = ([zs.drop p], false) := by
  have e : (zs.drop p).take (zs.length - p) = zs.drop p := List.take_of_length_le (by simp)
  have h2 : (zs.drop p).isEmpty = false := by
    rw [drop_at zs p hp]; rfl
  rw [e, List.drop_length]
  simp only [cutL]
  rw [h2]
  rfl
theorem cut_over {zs : List Int} {sep : Int} : cutL sep ((zs.drop zs.length).take (zs.length - zs.length)) (zs.drop zs.length) = ([], true) := by
  simp [cutL]

/-- No more lines than bytes. -/
theorem cut_length (sep : Int) : ∀ (zs cur : List Int), (cutL sep cur zs).1.length ≤ zs.length + 1
  | [], cur => by
    unfold cutL
    split <;> simp
  | x :: r, cur => by
    have h1 := cut_length sep r []
    have h2 := cut_length sep r (cur ++ [x])
    unfold cutL
    split
    · simp; omega
    · simp only [List.length_cons]; omega
end Go.Proofs.Ytolnojhepakaoaa
