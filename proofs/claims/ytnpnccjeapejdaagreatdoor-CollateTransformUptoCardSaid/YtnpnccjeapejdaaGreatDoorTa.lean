/- What an order tells of two lines, as a function of them; that it is a total preorder. No walk. -/
import Derived.Test.YtnpnccjeapejdaaGreatDoorNumCompare
import Derived.Test.YtnpnccjeapejdaaGreatDoorGm
import Derived.Test.YtnpnccjeapejdaaGreatDoorFxC
namespace Go.Proofs.YtnpnccjeapejdaaGreatDoor
open Num (IsCmp thenC)

theorem cb_is : IsCmp Lib.compareBytes := by
  have e : Lib.compareBytes = Num.cmpL := by funext a b; exact Num.compareBytes_cmpL a b
  rw [e]
  exact Num.cmpL_is
/-- What a key that is not turned tells of two texts in its place. -/
def zB (m : Nat) (x y : List UInt8) : Int :=
  if m &&& 496 = 0 then Lib.compareBytes (filtS (letsS m) (foldS m) x) (filtS (letsS m) (foldS m) y)
  else if m &&& 496 = 256 then Num.cmpS 256 (filtS (letsS m) (foldS m) x) (filtS (letsS m) (foldS m) y)
  else Num.cmpS (m &&& 496) x y
theorem zB_is (m : Nat) : IsCmp (zB m) := by
  unfold zB
  by_cases h0 : m &&& 496 = 0
  · simp only [if_pos h0]
    exact cb_is.pull (filtS (letsS m) (foldS m))
  · by_cases h1 : m &&& 496 = 256
    · simp only [if_neg h0, if_pos h1]
      exact (Num.cmpS_is 256).pull (filtS (letsS m) (foldS m))
    · simp only [if_neg h0, if_neg h1]
      exact Num.cmpS_is _
/-- A key, turned or not. -/
def zK (m : Nat) (x y : List UInt8) : Int := if m &&& 512 = 0 then zB m x y else zB m y x
/-- What of a line stands in the place of key number i. -/
def cutL (s : ByteArray) (oo : Option UInt8) (L : List KeyL) (i : Nat) : ByteArray := s.extract (spL s oo L i).1 (spL s oo L i).2
def mL (L : List KeyL) (i : Nat) : Nat := match L[i]? with | some K => K.m | none => 0
theorem mL_at {L : List KeyL} {i : Nat} (h : i < L.length) : mL L i = L[i].m := by unfold mL; rw [List.getElem?_eq_getElem h]
/-- What the keys tell of two lines. -/
def kyS (oo : Option UInt8) (L : List KeyL) (a b : ByteArray) : Int :=
  firstN (fun i => zK (mL L i) (cutL a oo L i).data.toList (cutL b oo L i).data.toList) L.length 0
/-- What the order tells of two lines. -/
def cpS (b1 b2 : Bool) (oo : Option UInt8) (L : List KeyL) (a b : ByteArray) : Int := cmpV (kyS oo L a b) b1 b2 a.data.toList b.data.toList
end Go.Proofs.YtnpnccjeapejdaaGreatDoor
