/- Keys out of their texts: the letters, the places, what stands in them. No walk here. -/
import Derived.Test.YtbgbmojoldkcfaaDoorNum
namespace Go.Proofs.YtbgbmojoldkcfaaDoor

/-- The modifier of a letter; 0: none has it. -/
def bitS (c : UInt8) : Nat :=
  if c = 98 then 1 else if c = 100 then 2 else if c = 102 then 4 else if c = 103 then 32 else if c = 104 then 64 else if c = 105 then 8 else if c = 77 then 128 else if c = 110 then 16 else if c = 114 then 512 else if c = 86 then 256 else 0
def isLt (c : UInt8) : Bool := bitS c != 0
/-- The letters at a text's head. -/
def ltS : List UInt8 → List UInt8
  | [] => []
  | c :: r => if isLt c then c :: ltS r else []
/-- Modifiers with the letters of a text laid on. -/
def orS : Nat → List UInt8 → Nat
  | m, [] => m
  | m, c :: r => orS (m ||| bitS c) r
theorem bitS_lt (c : UInt8) : bitS c < 1024 := by
  unfold bitS
  repeat' split
  all_goals omega
theorem orS_lt : ∀ (l : List UInt8) (m : Nat), m < 1024 → orS m l < 1024
  | [], m, h => h
  | c :: r, m, h => orS_lt r _ (Nat.or_lt_two_pow (n := 10) h (bitS_lt c))
theorem orS_or : ∀ (l : List UInt8) (m : Nat), orS m l = m ||| orS 0 l
  | [], m => by simp [orS]
  | c :: r, m => by
    rw [orS, orS, orS_or r (m ||| bitS c), orS_or r (0 ||| bitS c), Nat.zero_or, Nat.or_assoc]
theorem orS_snoc (l : List UInt8) (c : UInt8) : ∀ m, orS m (l ++ [c]) = orS m l ||| bitS c := by
  induction l with
  | nil => intro m; rfl
  | cons x r ih => intro m; exact ih _
theorem ltS_len : ∀ l : List UInt8, (ltS l).length ≤ l.length
  | [] => Nat.le_refl _
  | c :: r => by
    have := ltS_len r
    unfold ltS
    split
    · simp only [List.length_cons]; omega
    · simp
theorem ltS_all : ∀ (l : List UInt8), ∀ c ∈ ltS l, isLt c = true
  | [], c, h => by cases h
  | x :: r, c, h => by
    unfold ltS at h
    split at h
    · rename_i hx
      rcases List.mem_cons.1 h with rfl | h'
      · exact hx
      · exact ltS_all r c h'
    · cases h
theorem ltS_on {l : List UInt8} {k : Nat} (h : k < l.length) (hc : isLt l[k] = true) : ltS (l.drop k) = l[k] :: ltS (l.drop (k + 1)) := by
  rw [List.drop_eq_getElem_cons h, ltS, if_pos hc]
theorem ltS_stop {l : List UInt8} {k : Nat} (h : k < l.length) (hc : isLt l[k] = false) : ltS (l.drop k) = [] := by
  rw [List.drop_eq_getElem_cons h, ltS, hc]; rfl
theorem ltS_end {l : List UInt8} {k : Nat} (h : l.length ≤ k) : ltS (l.drop k) = [] := by
  rw [List.drop_eq_nil_of_le h]; rfl

abbrev maxF : Nat := 2147483647
/-- A place: field, byte, letters, where it ends; or where it is at fault. -/
inductive PlaceR
  | bad (at_ : Nat)
  | good (field char : Nat) (mods : List UInt8) (at_ : Nat)
def dotAt (l : List UInt8) (k : Nat) (c : UInt8) : Bool := decide (k < l.length) && (l.getD k 0 == c)
/-- Behind the field and the byte: the letters. -/
def placeEnd (l : List UInt8) (field char k : Nat) : PlaceR := .good field char (ltS (l.drop k)) (k + (ltS (l.drop k)).length)
def placeS (l : List UInt8) (a none : Nat) : PlaceR :=
  if (valS maxF 0 (l.drop a)).2 = 0 ∨ (valS maxF 0 (l.drop a)).1 = 0 then .bad a
  else if dotAt l (a + (valS maxF 0 (l.drop a)).2) 46 then
    (if (valS maxF 0 (l.drop (a + (valS maxF 0 (l.drop a)).2 + 1))).2 = 0 ∨ (valS maxF 0 (l.drop (a + (valS maxF 0 (l.drop a)).2 + 1))).1 < none then .bad (a + (valS maxF 0 (l.drop a)).2 + 1)
     else placeEnd l (valS maxF 0 (l.drop a)).1 (valS maxF 0 (l.drop (a + (valS maxF 0 (l.drop a)).2 + 1))).1 (a + (valS maxF 0 (l.drop a)).2 + 1 + (valS maxF 0 (l.drop (a + (valS maxF 0 (l.drop a)).2 + 1))).2))
  else placeEnd l (valS maxF 0 (l.drop a)).1 none (a + (valS maxF 0 (l.drop a)).2)

/-- Which modifiers go together. -/
def kindN (m : Nat) : Nat := (if m &&& 16 = 0 then 0 else 1) + (if m &&& 32 = 0 then 0 else 1) + (if m &&& 64 = 0 then 0 else 1) + (if m &&& 128 = 0 then 0 else 1) + (if m &&& 256 = 0 then 0 else 1)
def togS (m : Nat) : Bool := kindN m == 0 || (kindN m == 1 && (m &&& 2 == 0 && m &&& 8 == 0))
structure KeyR where
  f : Nat
  c : Nat
  ef : Nat
  ec : Nat
  m : Nat
  b : Bool
def zeroK : KeyR := ⟨0, 0, 0, 0, 0, false⟩
/-- What the letters of the second place say: without b, and whether b stands there. -/
def orB : Nat → List UInt8 → Nat
  | m, [] => m
  | m, c :: r => if c = 98 then orB m r else orB (m ||| bitS c) r
def hasB (l : List UInt8) : Bool := l.any (· == 98)
/-- The end: nothing may stand behind, and the modifiers go together. -/
def keyEnd (l : List UInt8) (k : KeyR) (at_ : Nat) : KeyR × Nat × Nat :=
  if at_ < l.length then (zeroK, at_, 43) else if togS k.m then (k, 0, 0) else (zeroK, 0, 48)
/-- Behind the first place. -/
def keyTwo (l : List UInt8) (f c : Nat) (ms : List UInt8) : PlaceR → KeyR × Nat × Nat
  | .bad a' => (zeroK, a', 43)
  | .good ef ec ms' a' => keyEnd l ⟨f, c, ef, ec, orB (orS 0 ms) ms', hasB ms'⟩ a'
def keyRest (l : List UInt8) (f c : Nat) (ms : List UInt8) (a : Nat) : KeyR × Nat × Nat :=
  if dotAt l a 44 then keyTwo l f c ms (placeS l (a + 1) 0) else keyEnd l ⟨f, c, 0, 0, orS 0 ms, false⟩ a
def keyOne (l : List UInt8) : PlaceR → KeyR × Nat × Nat
  | .bad a => (zeroK, a, 43)
  | .good f c ms a => keyRest l f c ms a
def keyS (l : List UInt8) : KeyR × Nat × Nat := keyOne l (placeS l 0 1)
end Go.Proofs.YtbgbmojoldkcfaaDoor
