/- Check. -/
import Derived.Test.YthajgfldjjgkiaaIp
namespace Go.Proofs.Ythajgfldjjgkiaa
open Go.RowKit
set_option maxRecDepth 100000

def ChkR (w : World) (W : List Int) (fan : Int) (ss : List Stp) (e : Ending) (w' : World) : Prop := ∃ E : Int, e = .returned (.int .i64 E) ∧ ChkIs W fan ss E ∧ Below w.heap.size w w'
set_option maxHeartbeats 1600000 in
theorem check_ok {w : World} {v vs : Value} {W : List Int} {fan : Int} {ss : List Stp} (hv : SlI w v W) (hs : StAt w vs ss) :
    Calls Try.prog 13 #[v, .int .i64 fan, vs] w (ChkR w W fan ss) := by
  have GE := Lib.hid (may_ok (fan := fan) hv)
  obtain ⟨a, c, rfl, hc, hc2⟩ := hv.form
  by_cases hE : givE W fan = 0
  · obtain ⟨e1, e2, e3, e4, _⟩ := givE_ok hE
    obtain ⟨f, rfl⟩ : ∃ f : Nat, fan = (f : Int) := ⟨fan.toNat, by omega⟩
    have IS := Lib.hid (isPlan_ok (n := W.length) (fan := f) hs e3 e4 (by omega) (by omega))
    have Y := Lib.hid (fun (p : PlanOk W.length f ss) => show ChkIs W (f : Int) ss 0 from Or.inr (Or.inl ⟨hE, p, rfl⟩))
    have N := Lib.hid (fun (p : ¬ PlanOk W.length f ss) => show ChkIs W (f : Int) ss 101 from Or.inr (Or.inr ⟨hE, p, rfl⟩))
    rw [hE] at GE
    clear hv hs hE
    go_enter Try.func13, Try.ntmps13
    go_wp2_with fail
    refine GE.out.mono ?_
    rintro e w' ⟨rfl, rfl⟩
    go_wp2_with fail
    refine IS.out.mono ?_
    rintro e w1 ⟨b, rfl, h1, h2⟩
    have H1 := Lib.hid h1
    have H2 := Lib.hid h2
    clear h1 h2
    cases b with
    | true =>
      have F := Lib.hid (Y.out (H1.out.1 rfl))
      go_wp2_with fail
      go_ret
      exact ⟨0, rfl, F.out, H2.out⟩
    | false =>
      have F := Lib.hid (N.out (fun p => by have := H1.out.2 p; cases this))
      go_wp2_with fail
      go_ret
      exact ⟨101, rfl, F.out, H2.out⟩
  · have F := Lib.hid (show ChkIs W fan ss (givE W fan) from Or.inl ⟨hE, rfl⟩)
    clear hv hs
    generalize givE W fan = E at *
    have t1 : decide (E = 0) = false := decide_eq_false hE
    have t2 : (E == 0) = false := by simpa using hE
    have t3 : (E != 0) = true := by simpa using hE
    clear hE
    go_enter Try.func13, Try.ntmps13
    go_wp2_with fail
    refine GE.out.mono ?_
    rintro e w' ⟨rfl, rfl⟩
    go_wp2_with fail
    go_ret
    exact ⟨E, rfl, F.out, Below.refl _ _⟩
end Go.Proofs.Ythajgfldjjgkiaa
