/- What an order tells of two lines, as a function of them; that it is a total preorder. No walk. -/
import Derived.Test.YtgpcmlbmmcnkjaaGreatDoorNumCompare
import Derived.Test.YtgpcmlbmmcnkjaaGreatDoorGm
import Derived.Test.YtgpcmlbmmcnkjaaGreatDoorFxC
namespace Go.Proofs.YtgpcmlbmmcnkjaaGreatDoor
open Num (IsCmp thenC)

theorem cb_is : IsCmp Lib.compareBytes := by
  have e : Lib.compareBytes = Num.cmpL := by funext a b; exact Num.compareBytes_cmpL a b
  rw [e]
  exact Num.cmpL_is
/-- What a key that is not turned tells of two texts in its place. -/
def zB (m : Nat) (x y : List UInt8) : Int :=
  if m &&& 496 = 0 then Lib.compareBytes (filtS (letsS m) (foldS m) x) (filtS (letsS m) (foldS m) y)
  else if m &&& 496 = 256 then Num.cmpS 256 (filtS (letsS m) (foldS m) x) (filtS (letsS m) (foldS m) y)
  else Num.cmpS (m &&& 496) x y
theorem zB_is (m : Nat) : IsCmp (zB m) := by
  unfold zB
  by_cases h0 : m &&& 496 = 0
  · simp only [if_pos h0]
    exact cb_is.pull (filtS (letsS m) (foldS m))
  · by_cases h1 : m &&& 496 = 256
    · simp only [if_neg h0, if_pos h1]
      exact (Num.cmpS_is 256).pull (filtS (letsS m) (foldS m))
    · simp only [if_neg h0, if_neg h1]
      exact Num.cmpS_is _
/-- A key, turned or not. -/
def zK (m : Nat) (x y : List UInt8) : Int := if m &&& 512 = 0 then zB m x y else zB m y x
theorem zK_is (m : Nat) : IsCmp (zK m) := by
  unfold zK
  by_cases h : m &&& 512 = 0
  · simp only [if_pos h]
    exact zB_is m
  · simp only [if_neg h]
    exact (zB_is m).flip
theorem firstN_is {α : Type} (c : Nat → α → α → Int) (h : ∀ i, IsCmp (c i)) : ∀ n i, IsCmp (fun a b => firstN (fun j => c j a b) n i)
  | 0, _ => ⟨fun _ _ => by simp [firstN], fun _ _ => by simp [firstN], fun _ _ => by simp [firstN], fun _ _ _ _ _ => by simp [firstN]⟩
  | n + 1, i => by
    have e : (fun a b => firstN (fun j => c j a b) (n + 1) i) = fun a b => thenC (c i a b) (firstN (fun j => c j a b) n (i + 1)) := by
      funext a b
      unfold thenC
      rw [firstN]
      by_cases z : c i a b = 0
      · rw [if_pos z, if_neg (by simpa using z)]
      · rw [if_neg z, if_pos z]
    rw [e]
    exact IsCmp.lex (h i) (firstN_is c h n (i + 1))
/-- What of a line stands in the place of key number i. -/
def cutL (s : ByteArray) (oo : Option UInt8) (L : List KeyL) (i : Nat) : ByteArray := s.extract (spL s oo L i).1 (spL s oo L i).2
def mL (L : List KeyL) (i : Nat) : Nat := match L[i]? with | some K => K.m | none => 0
theorem mL_at {L : List KeyL} {i : Nat} (h : i < L.length) : mL L i = L[i].m := by unfold mL; rw [List.getElem?_eq_getElem h]
/-- What the keys tell of two lines. -/
def kyS (oo : Option UInt8) (L : List KeyL) (a b : ByteArray) : Int :=
  firstN (fun i => zK (mL L i) (cutL a oo L i).data.toList (cutL b oo L i).data.toList) L.length 0
theorem kyS_is (oo : Option UInt8) (L : List KeyL) : IsCmp (kyS oo L) :=
  firstN_is (fun i (a b : ByteArray) => zK (mL L i) (cutL a oo L i).data.toList (cutL b oo L i).data.toList) (fun i => (zK_is (mL L i)).pull (fun s : ByteArray => (cutL s oo L i).data.toList)) L.length 0
/-- What the order tells of two lines. -/
def cpS (b1 b2 : Bool) (oo : Option UInt8) (L : List KeyL) (a b : ByteArray) : Int := cmpV (kyS oo L a b) b1 b2 a.data.toList b.data.toList
theorem cpS_is (b1 b2 : Bool) (oo : Option UInt8) (L : List KeyL) : IsCmp (cpS b1 b2 oo L) := by
  have K := kyS_is oo L
  have C : IsCmp (fun a b : ByteArray => Lib.compareBytes a.data.toList b.data.toList) := cb_is.pull (fun s : ByteArray => s.data.toList)
  have e : ∀ c : ByteArray → ByteArray → Int, (fun a b => if kyS oo L a b = 0 then c a b else kyS oo L a b) = fun a b => thenC (kyS oo L a b) (c a b) := fun c => by
    funext a b
    unfold thenC
    by_cases z : kyS oo L a b = 0
    · rw [if_pos z, if_neg (by simpa using z)]
    · rw [if_neg z, if_pos z]
  unfold cpS cmpV
  cases b1 with
  | false =>
    simp only [Bool.false_eq_true, if_false]
    have e2 : (fun a b => if kyS oo L a b = 0 then (0 : Int) else kyS oo L a b) = kyS oo L := by
      funext a b
      by_cases z : kyS oo L a b = 0
      · rw [if_pos z, z]
      · rw [if_neg z]
    show IsCmp (fun a b => if kyS oo L a b = 0 then (0 : Int) else kyS oo L a b)
    rw [e2]
    exact K
  | true =>
    cases b2 with
    | false =>
      simp only [Bool.false_eq_true, if_false, if_true]
      show IsCmp (fun a b => if kyS oo L a b = 0 then Lib.compareBytes a.data.toList b.data.toList else kyS oo L a b)
      rw [e]
      exact K.lex C
    | true =>
      simp only [if_true]
      show IsCmp (fun a b => if kyS oo L a b = 0 then Lib.compareBytes b.data.toList a.data.toList else kyS oo L a b)
      rw [e]
      exact K.lex C.flip
theorem cb_zero : ∀ (p q : List UInt8), Lib.compareBytes p q = 0 → p = q
  | [], [], _ => rfl
  | [], _ :: _, h => by simp [Lib.compareBytes] at h
  | _ :: _, [], h => by simp [Lib.compareBytes] at h
  | x :: p, y :: q, h => by
    rw [cb_cons] at h
    by_cases e : cmI x.toNat y.toNat = 0
    · rw [if_pos e] at h
      have e1 := cmI_ne.1 e
      have e2 : x = y := UInt8.toNat_inj.1 (by omega)
      rw [e2, cb_zero p q h]
    · rw [if_neg e] at h
      exact absurd h e
theorem cb_self (p : List UInt8) : Lib.compareBytes p p = 0 := cb_is.refl p
theorem ba_ext {a b : ByteArray} (h : a.data.toList = b.data.toList) : a = b := by
  cases a; cases b
  simp at h
  rw [h]
/-- Where the keys say nothing and the last resort is asked, only a line is equal to itself. -/
theorem cpS_last {b2 : Bool} {oo : Option UInt8} {L : List KeyL} {a b : ByteArray} (h : kyS oo L a b = 0) : cpS true b2 oo L a b = 0 ↔ a = b := by
  unfold cpS cmpV
  rw [if_pos h, if_pos rfl]
  constructor
  · intro e
    split at e
    · exact (ba_ext (cb_zero _ _ e)).symm
    · exact ba_ext (cb_zero _ _ e)
  · intro e
    rw [e]
    split <;> exact cb_self _
theorem cpS_keys {b1 b2 : Bool} {oo : Option UInt8} {L : List KeyL} {a b : ByteArray} (h : kyS oo L a b ≠ 0) : cpS b1 b2 oo L a b = kyS oo L a b := by
  unfold cpS cmpV
  rw [if_neg h]
end Go.Proofs.YtgpcmlbmmcnkjaaGreatDoor
