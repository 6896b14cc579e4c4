/- Which fields of an entry are not empty. -/
import Derived.Test.YtlbekgcfafofdaaDoorPr
namespace Go.Proofs.YtlbekgcfafofdaaDoor
open Go.RowKit
set_option maxRecDepth 100000

def orN (b : Bool) (v m : Nat) : Nat := if b then v ||| m else v
def FilPost (w : World) (p : Nat) (v : Nat) (e : Ending) (w' : World) : Prop := e = .returned (.tuple #[]) ∧ BlkAt w' p 63 [.int .u8 v] ∧ Kp w w' (fun k => k = p)
theorem fill_ok (p m v : Nat) (b : Bool) (w : World) (hm : m < 256) (hv : v < 256) (h : BlkAt w p 63 [.int .u8 v]) : Calls Tryd.prog 46 #[.int .u8 m, .bool b, .pointer (some ⟨p, 0, none⟩)] w (FilPost w p (orN b v m)) := by
  have c1 := h.cell 0 _ rfl
  have f1 := h.free 0
  have H := Lib.hid h
  have O := Lib.hid (u8_or_nat v m hv hm)
  clear h
  cases b with
  | false =>
    go_enter Tryd.func46, Tryd.ntmps46
    go_wp2_with fail
    go_end0
    exact ⟨rfl, H.out, Kp.refl _ _⟩
  | true =>
    go_enter Tryd.func46, Tryd.ntmps46
    go_wp2_with fail
    go_end0
    refine ⟨rfl, ?_, Kp.set w p 0 _⟩
    have := H.out.set 0 (.int .u8 ((v ||| m : Nat) : Int))
    simp only [List.set_cons_zero] at this
    rw [O.out]
    exact this
end Go.Proofs.YtlbekgcfafofdaaDoor
