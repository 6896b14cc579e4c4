/- Load. -/
import Derived.Test.YthajgfldjjgkiaaCw
import Derived.Test.YthajgfldjjgkiaaFl
namespace Go.Proofs.Ythajgfldjjgkiaa
open Go.RowKit
set_option maxRecDepth 100000

theorem flat_le {n fan : Nat} {ss : List Stp} (p : PlanOk n fan ss) (k : Nat) (hk : k ≤ ss.length) : (flat (ss.take k)).length ≤ fan * k := by
  induction k with
  | zero => simp [flat]
  | succ k ih =>
    have := ih (by omega)
    have hh := (p.each k (by omega)).hi
    rw [flat_take (by omega), List.length_append, Nat.mul_succ]
    omega
def LoR (w : World) (ss : List Stp) (v9 v21 : Value) (wr : World) : Prop := ∃ k : Nat, v21 = .int .i64 (k : Int) ∧ v9 = .int .i64 ((flat (ss.take k)).length : Int) ∧ k ≤ ss.length ∧ Below w.heap.size w wr
theorem run_quo {p q : Nat} (hp : p < 9007199254740992) (hq0 : 0 < q) (hq : q < 9007199254740992) (t : TypeId) (w : World) :
    (binOp BinOp.quo t (.float .f64 (floatOfInt .f64 (p : Int))) (.float .f64 (floatOfInt .f64 (q : Int)))).run Try.prog w = .ok (.float .f64 (quoB p q)) w :=
  run_float_arith (P := Try.prog) (w := w) .quo t .f64 _ _ _ (by
    rw [floatOf_nat, floatOf_nat]
    exact (quo_some hp hq0 hq).1)
def LoadR (w : World) (W : List Int) (fan : Int) (ss : List Stp) (e : Ending) (w' : World) : Prop := ∃ (x : Nat) (E : Int), e = .returned (.tuple #[.float .f64 x, .int .i64 E]) ∧ ChkIs W fan ss E ∧ x = (if E = 0 then quoB (flat ss).length (fan.toNat * ss.length) else 0) ∧ Below w.heap.size w w'
set_option maxHeartbeats 8000000 in
theorem load_ok {w : World} {v vs : Value} {W : List Int} {fan : Int} {ss : List Stp} (hv : SlI w v W) (hs : StAt w vs ss) :
    Calls Try.prog 16 #[v, .int .i64 fan, vs] w (LoadR w W fan ss) := by
  have CK := Lib.hid (check_ok (fan := fan) hv hs)
  have HS := Lib.hid hs
  obtain ⟨a, c, rfl, hc, hc2⟩ := hv.form
  obtain ⟨sa, sc, rfl, hsc, hsc2⟩ := hs.form
  clear hv hs
  go_enter Try.func16, Try.ntmps16
  go_wp2_with fail
  refine CK.out.mono ?_
  rintro e w1 ⟨E, rfl, hE, k1⟩
  have K1 := Lib.hid k1
  have CI := Lib.hid hE
  rcases hE.cases0 with ⟨rfl, f, hf, hg, hp⟩ | hne
  · have P := Lib.hid hp
    obtain ⟨e1, e2, e3, e4, e5⟩ := givE_ok hg
    have hl1 := hp.some
    have hl2 := hp.few
    have hl3 : ss.length ≤ 65536 := by omega
    have HF := Lib.hid hf
    clear hE hp hg e5 k1 hf
    have ST := Lib.hid (show LoR w ss (.int .i64 0) (.int .i64 0) w1 from ⟨0, rfl, rfl, Nat.zero_le _, K1.out⟩)
    go_wp2_with fail
    go_loopw [9, 21] (fun v9 v21 wr => LoR w ss v9 v21 wr) (fun _ v21 _ => ss.length - (intOf v21).toNat)
    case atStart => exact ST.out
    case round =>
      clear ST
      obtain ⟨k, rfl, rfl, hk, hbel⟩ := hrel
      have B := Lib.hid hbel
      clear hbel
      have hfl := flat_le P.out k hk
      have hfb : (flat (ss.take k)).length ≤ 4194304 := by
        have : f * k ≤ 64 * 65536 := Nat.mul_le_mul (by have := HF.out; omega) (by omega)
        omega
      by_cases hlt : k < ss.length
      · have t1 : decide ((k : Int) < (ss.length : Int)) = true := decide_eq_true (by omega)
        have t1n : decide (k < ss.length) = true := decide_eq_true hlt
        have ik : (k : Int) < (ss.length : Int) := by omega
        have ik0 : (0 : Int) ≤ (k : Int) := by omega
        obtain ⟨b1, o1, c1, f1, e1', _, l1, g1⟩ := HS.out.get (by rintro rfl; exact absurd hlt (Nat.not_lt_zero _))
        injection e1' with e1' _ e3'
        subst e1' e3'
        obtain ⟨q1, q2, q3⟩ := g1 k hlt
        rw [← Nat.add_assoc] at q2
        obtain ⟨xa, xc, hx, xc1, xc2⟩ := q3.form
        rw [hx] at q1
        have PE := Lib.hid (P.out.each k hlt).hi
        replace q1 := ((bcell B.out).1 b1 _ l1).trans q1
        replace q2 := ((bcell B.out).1 b1 _ l1).trans q2
        replace l1 := Nat.lt_of_lt_of_le l1 B.out.size
        have LEN := Lib.hid (show (flat (ss.take (k + 1))).length = (flat (ss.take k)).length + ss[k].inn.length by rw [flat_take hlt, List.length_append])
        have x64 : (ss[k].inn.length : Int) ≤ 64 := by have := PE.out; have := HF.out; omega
        clear g1 hx q3 PE hfl
        generalize ss[k].out = xo at *
        generalize ss[k].inn.length = xl at *
        generalize (flat (ss.take k)).length = tk at *
        have NX := Lib.hid (fun wr' (h : Below wr.heap.size wr wr') => show LoR w ss (.int .i64 ((tk : Int) + (xl : Int))) (.int .i64 ((k : Int) + 1)) wr' from ⟨k + 1, by congr 1, by rw [LEN.out]; congr 1, hlt, B.out.trans (h.mono B.out.size)⟩)
        go_wp2_with fail
        go_roundw
        case rel => exact NX.out _ (below_alloc _ _)
        case measure => simp [intOf]; omega
      · have t1 : decide ((k : Int) < (ss.length : Int)) = false := decide_eq_false (by omega)
        have t1n : decide (k < ss.length) = false := decide_eq_false hlt
        have hke : k = ss.length := by omega
        have hfl2 : f * ss.length ≤ 64 * 65536 := Nat.mul_le_mul (by have := HF.out; omega) (by omega)
        have hf1 : 0 < f := by have := HF.out; omega
        have hpos : 0 < f * ss.length := Nat.mul_pos hf1 hl1
        have F := Lib.hid (show LoadR w W fan ss (.returned (.tuple #[.float .f64 (quoB (flat (ss.take k)).length (f * ss.length)), .int .i64 0])) wr from ⟨_, 0, rfl, CI.out, by
          rw [if_pos rfl, hke, List.take_length]
          congr 2
          have := HF.out; omega, B.out⟩)
        have RQ := Lib.hid (fun w : World => run_quo (p := (flat (ss.take k)).length) (q := f * ss.length) (by omega) hpos (by omega) 30 w)
        have hm : wrap64 (fan * (ss.length : Int)) = ((f * ss.length : Nat) : Int) := by
          rw [HF.out, ← Int.natCast_mul]
          unfold wrap64; omega
        have HMM := Lib.hid hm
        generalize (flat (ss.take k)).length = tk at *
        generalize f * ss.length = M at *
        have rq := RQ.out
        clear hke hfl hfb hfl2 hpos
        go_wp2_with fail
        go_ret2
        exact F.out
  · have F := Lib.hid (show LoadR w W fan ss (.returned (.tuple #[.float .f64 0, .int .i64 E])) w1 from ⟨0, E, rfl, CI.out, by rw [if_neg hne], K1.out⟩)
    have t1 : decide (E = 0) = false := decide_eq_false hne
    have t2 : (E == 0) = false := by simpa using hne
    have t3 : (E != 0) = true := by simpa using hne
    clear hne hE k1
    go_wp2_with fail
    go_ret2
    exact F.out
end Go.Proofs.Ythajgfldjjgkiaa
