/- Lists held against each other. -/
import Derived.Test.YthajgfldjjgkiaaMe
namespace Go.Proofs.Ythajgfldjjgkiaa
open Go.RowKit
set_option maxRecDepth 100000

/-- It only looks. -/
def Qt (w : World) (v : Value) (e : Ending) (w' : World) : Prop := e = .returned v ∧ ∃ m, w' = w.drewN m
theorem Qt.quiet {P : Program} {f : FuncId} {args : Array Value} {w : World} {n : Nat} {v : Value} (h : Calls P f args (w.drewN n) (Qt (w.drewN n) v)) : Calls P f args (w.drewN n) fun e w'' => e = .returned v ∧ ∃ m, w'' = w.drewN m := Calls.quiet_of h
theorem take_eq_step {α : Type} {a b : List α} {k : Nat} (ha : k < a.length) (hb : k < b.length) (h : a.take k = b.take k) (e : a[k] = b[k]) : a.take (k + 1) = b.take (k + 1) := by
  rw [List.take_succ_eq_append_getElem ha, List.take_succ_eq_append_getElem hb, h, e]
theorem take_ne {α : Type} {a b : List α} {k : Nat} (ha : k < a.length) (hb : k < b.length) (e : a[k] ≠ b[k]) : a ≠ b := by
  rintro rfl; exact e rfl
def EqR {α : Type} (w : World) (a b : List α) (v : Value) (wr : World) : Prop := ∃ k : Nat, v = .int .i64 (k : Int) ∧ k ≤ a.length ∧ a.take k = b.take k ∧ ∃ m, wr = w.drewN m
set_option maxHeartbeats 1600000 in
theorem same_ok {w : World} {va vb : Value} {a b : List Int} (ha : SlI w va a) (hb : SlI w vb b) :
    Calls Try.prog 33 #[va, vb] w (Qt w (.bool (decide (a = b)))) := by
  have HA := Lib.hid ha
  have HB := Lib.hid hb
  obtain ⟨aa, ac, rfl, h1, h2⟩ := ha.form
  obtain ⟨ba, bc, rfl, h3, h4⟩ := hb.form
  clear ha hb
  by_cases hl : a.length = b.length
  · have t0 : decide ((a.length : Int) = (b.length : Int)) = true := decide_eq_true (by omega)
    have t0b : ((a.length : Int) == (b.length : Int)) = true := by simp [hl]
    have t0c : ((a.length : Int) != (b.length : Int)) = false := by simp [hl]
    have ST := Lib.hid (show EqR w a b (.int .i64 0) w from ⟨0, rfl, Nat.zero_le _, rfl, 0, rfl⟩)
    have HL := Lib.hid hl
    have la : a.length ≤ 9223372036854775807 := by omega
    rw [← hl] at h3 t0 t0b t0c ⊢
    clear hl
    go_enter Try.func33, Try.ntmps33
    go_wp2_with fail
    go_loopw [5] (fun i wr => EqR w a b i wr) (fun i _ => a.length - (intOf i).toNat)
    case atStart => exact ST.out
    case round =>
      clear ST
      obtain ⟨k, rfl, hk, ht, m, hm⟩ := hrel
      have HT := Lib.hid ht
      have HM := Lib.hid hm
      have A2 := Lib.hid (show SlI wr _ a from by rw [hm]; exact HA.out.below (below_drewN w m))
      have B2 := Lib.hid (show SlI wr _ b from by rw [hm]; exact HB.out.below (below_drewN w m))
      clear ht hm
      by_cases hlt : k < a.length
      · have t1 : decide ((k : Int) < (a.length : Int)) = true := decide_eq_true (by omega)
        have t1n : decide (k < a.length) = true := decide_eq_true hlt
        have hltb : k < b.length := by rw [← HL.out]; exact hlt
        have ik : (k : Int) < (a.length : Int) := by omega
        have ik0 : (0 : Int) ≤ (k : Int) := by omega
        obtain ⟨b1, o1, c1, e1, _, l1, g1⟩ := A2.out.get (by rintro rfl; exact absurd hlt (Nat.not_lt_zero _))
        obtain ⟨b2, o2, c2, e2, _, l2, g2⟩ := B2.out.get (by rintro rfl; exact absurd hltb (Nat.not_lt_zero _))
        injection e1 with e1 _ e3
        injection e2 with e2 _ e4
        subst e1 e2 e3 e4
        have q1 := g1 k hlt
        have q2 := g2 k hltb
        have TS := Lib.hid (take_eq_step hlt hltb HT.out)
        have TN := Lib.hid (take_ne hlt hltb)
        clear g1 g2
        generalize a[k] = x at *
        generalize b[k] = y at *
        by_cases hxy : x = y
        · subst hxy
          have t2 : decide (x = x) = true := decide_eq_true rfl
          have t2b : (x == x) = true := beq_self_eq_true x
          have t2c : (x != x) = false := by simp
          have TS2 := Lib.hid (TS.out rfl)
          clear TS TN
          go_wp2_with fail
          go_quiet (fail)
          go_wp2_with fail
          go_roundw
          case rel => exact ⟨k + 1, by congr 1, hlt, TS2.out, _, by rw [HM.out, World.drewN_drewN]⟩
          case measure => simp [intOf]; omega
        · have t2 : decide (x = y) = false := decide_eq_false hxy
          have t2b : (x == y) = false := by simp [hxy]
          have t2c : (x != y) = true := by simp [hxy]
          have TN2 := Lib.hid (decide_eq_false (TN.out hxy))
          clear TS TN hxy
          go_wp2_with fail
          go_quiet (fail)
          go_wp2_with fail
          go_ret
          exact ⟨by rw [TN2.out]; rfl, _, by rw [HM.out, World.drewN_drewN]⟩
      · have t1 : decide ((k : Int) < (a.length : Int)) = false := decide_eq_false (by omega)
        have t1n : decide (k < a.length) = false := decide_eq_false hlt
        have TE := Lib.hid (decide_eq_true (show a = b from by
          have := HT.out
          rw [List.take_of_length_le (by omega), List.take_of_length_le (by have := HL.out; omega)] at this
          exact this))
        go_wp2_with fail
        go_ret
        exact ⟨by rw [TE.out]; rfl, _, HM.out⟩
  · have t0 : decide ((a.length : Int) = (b.length : Int)) = false := decide_eq_false (by omega)
    have t0b : ((a.length : Int) == (b.length : Int)) = false := by simp; omega
    have t0c : ((a.length : Int) != (b.length : Int)) = true := by simp; omega
    have t0n : decide (a.length = b.length) = false := decide_eq_false hl
    have t0d : (a.length == b.length) = false := by simp [hl]
    have t0e : (a.length != b.length) = true := by simp [hl]
    have TN := Lib.hid (decide_eq_false (show ¬ a = b by rintro rfl; exact hl rfl))
    clear hl
    go_enter Try.func33, Try.ntmps33
    go_wp2_with fail
    go_ret
    exact ⟨by rw [TN.out]; rfl, 0, rfl⟩
def pS (x : Stp) : List Int × Int := (x.inn, x.out)
theorem pS_inj {x y : Stp} (h : pS x = pS y) : x = y := by
  obtain ⟨a, b⟩ := x
  obtain ⟨c, d⟩ := y
  injection h with h1 h2
  simp only at h1 h2
  rw [h1, h2]
def eqS (a b : List Stp) : Bool := decide (a.map pS = b.map pS)
theorem eqS_true {a b : List Stp} (h : a = b) : eqS a b = true := decide_eq_true (by rw [h])
theorem eqS_iff {a b : List Stp} : eqS a b = true ↔ a = b := by
  refine ⟨fun h => ?_, eqS_true⟩
  have := of_decide_eq_true h
  exact List.map_inj_right (fun x y e => pS_inj e) |>.1 this
theorem eqS_false {a b : List Stp} (h : a ≠ b) : eqS a b = false := by
  cases e : eqS a b with
  | true => exact absurd (eqS_iff.1 e) h
  | false => rfl
set_option maxHeartbeats 3200000 in
theorem sameS_ok {w : World} {va vb : Value} {a b : List Stp} (ha : StAt w va a) (hb : StAt w vb b) :
    Calls Try.prog 17 #[va, vb] w (Qt w (.bool (eqS a b))) := by
  have HA := Lib.hid ha
  have HB := Lib.hid hb
  obtain ⟨aa, ac, rfl, h1, h2⟩ := ha.form
  obtain ⟨ba, bc, rfl, h3, h4⟩ := hb.form
  clear ha hb
  by_cases hl : a.length = b.length
  · have t0 : decide ((a.length : Int) = (b.length : Int)) = true := decide_eq_true (by omega)
    have t0b : ((a.length : Int) == (b.length : Int)) = true := by simp [hl]
    have t0c : ((a.length : Int) != (b.length : Int)) = false := by simp [hl]
    have ST := Lib.hid (show EqR w a b (.int .i64 0) w from ⟨0, rfl, Nat.zero_le _, rfl, 0, rfl⟩)
    have HL := Lib.hid hl
    have la : a.length ≤ 9223372036854775807 := by omega
    rw [← hl] at h3 t0 t0b t0c ⊢
    clear hl
    go_enter Try.func17, Try.ntmps17
    go_wp2_with fail
    go_loopw [5] (fun i wr => EqR w a b i wr) (fun i _ => a.length - (intOf i).toNat)
    case atStart => exact ST.out
    case round =>
      clear ST
      obtain ⟨k, rfl, hk, ht, m, hm⟩ := hrel
      have HT := Lib.hid ht
      have HM := Lib.hid hm
      have A2 := Lib.hid (show StAt wr _ a from by rw [hm]; exact HA.out.below (below_drewN w m))
      have B2 := Lib.hid (show StAt wr _ b from by rw [hm]; exact HB.out.below (below_drewN w m))
      clear ht hm
      by_cases hlt : k < a.length
      · have t1 : decide ((k : Int) < (a.length : Int)) = true := decide_eq_true (by omega)
        have t1n : decide (k < a.length) = true := decide_eq_true hlt
        have hltb : k < b.length := by rw [← HL.out]; exact hlt
        have ik : (k : Int) < (a.length : Int) := by omega
        have ik0 : (0 : Int) ≤ (k : Int) := by omega
        obtain ⟨b1, o1, c1, f1, e1, _, l1, g1⟩ := A2.out.get (by rintro rfl; exact absurd hlt (Nat.not_lt_zero _))
        obtain ⟨b2, o2, c2, f2, e2, _, l2, g2⟩ := B2.out.get (by rintro rfl; exact absurd hltb (Nat.not_lt_zero _))
        injection e1 with e1 _ e3
        injection e2 with e2 _ e4
        subst e1 e2 e3 e4
        obtain ⟨q1, q2, q3⟩ := g1 k hlt
        obtain ⟨r1, r2, r3⟩ := g2 k hltb
        rw [← Nat.add_assoc] at q2 r2
        have SM := Lib.hid (fun n => same_ok (q3.below (below_drewN wr n)) (r3.below (below_drewN wr n)))
        have TS := Lib.hid (fun (e1 : a[k].inn = b[k].inn) (e2 : a[k].out = b[k].out) => take_eq_step hlt hltb HT.out (pS_inj (show pS a[k] = pS b[k] by unfold pS; rw [e1, e2])))
        have TN1 := Lib.hid (fun (e1 : a[k].inn ≠ b[k].inn) => eqS_false (take_ne hlt hltb (fun e => e1 (by rw [e]))))
        have TN2 := Lib.hid (fun (e1 : a[k].out ≠ b[k].out) => eqS_false (take_ne hlt hltb (fun e => e1 (by rw [e]))))
        clear g1 g2 q3 r3
        generalize a[k].inn = xi at *
        generalize b[k].inn = yi at *
        generalize a[k].out = x at *
        generalize b[k].out = y at *
        generalize f1 k = v1 at *
        generalize f2 k = v2 at *
        by_cases hi : xi = yi
        · have td : decide (xi = yi) = true := decide_eq_true hi
          have HI := Lib.hid hi
          rw [td] at SM
          clear td hi
          by_cases hxy : x = y
          · subst hxy
            have t2 : decide (x = x) = true := decide_eq_true rfl
            have t2b : (x == x) = true := beq_self_eq_true x
            have t2c : (x != x) = false := by simp
            have TS2 := Lib.hid (TS.out HI.out rfl)
            clear TS TN1 TN2
            go_wp2_with fail
            go_quiet ((go_at_call 33; exact Qt.quiet (SM.out _)))
            have q4 : (wr.drewN nq).cell? ⟨b1, o1 + k * 2 + 1, none⟩ = some (.int .i64 x) := q2
            have r4 : (wr.drewN nq).cell? ⟨b2, o2 + k * 2 + 1, none⟩ = some (.int .i64 x) := r2
            have HM2 := Lib.hid (show wr.drewN nq = w.drewN (m + nq) by rw [HM.out, World.drewN_drewN])
            clear q1 q2 r1 r2 SM HM A2 B2
            generalize wr.drewN nq = wq at *
            go_wp2_with fail
            go_quiet (fail)
            go_wp2_with fail
            go_roundw
            case rel => exact ⟨k + 1, by congr 1, hlt, TS2.out, _, by rw [HM2.out, World.drewN_drewN]⟩
            case measure => simp [intOf]; omega
          · have t2 : decide (x = y) = false := decide_eq_false hxy
            have t2b : (x == y) = false := by simp [hxy]
            have t2c : (x != y) = true := by simp [hxy]
            have TN := Lib.hid (TN2.out hxy)
            clear TS TN1 TN2 hxy
            go_wp2_with fail
            go_quiet ((go_at_call 33; exact Qt.quiet (SM.out _)))
            have q4 : (wr.drewN nq).cell? ⟨b1, o1 + k * 2 + 1, none⟩ = some (.int .i64 x) := q2
            have r4 : (wr.drewN nq).cell? ⟨b2, o2 + k * 2 + 1, none⟩ = some (.int .i64 y) := r2
            have HM2 := Lib.hid (show wr.drewN nq = w.drewN (m + nq) by rw [HM.out, World.drewN_drewN])
            clear q1 q2 r1 r2 SM HM A2 B2
            generalize wr.drewN nq = wq at *
            go_wp2_with fail
            go_quiet (fail)
            go_wp2_with fail
            go_ret
            exact ⟨by rw [TN.out]; rfl, _, by rw [HM2.out, World.drewN_drewN]⟩
        · have td : decide (xi = yi) = false := decide_eq_false hi
          rw [td] at SM
          have TN := Lib.hid (TN1.out hi)
          clear td hi TS TN1 TN2
          go_wp2_with fail
          go_quiet ((go_at_call 33; exact Qt.quiet (SM.out _)))
          have HM2 := Lib.hid (show wr.drewN nq = w.drewN (m + nq) by rw [HM.out, World.drewN_drewN])
          clear q1 q2 r1 r2 SM HM A2 B2
          generalize wr.drewN nq = wq at *
          go_wp2_with fail
          go_quiet (fail)
          go_wp2_with fail
          go_ret
          exact ⟨by rw [TN.out]; rfl, _, by rw [HM2.out, World.drewN_drewN]⟩
      · have t1 : decide ((k : Int) < (a.length : Int)) = false := decide_eq_false (by omega)
        have t1n : decide (k < a.length) = false := decide_eq_false hlt
        have TE := Lib.hid (eqS_true (show a = b from by
          have := HT.out
          rw [List.take_of_length_le (by omega), List.take_of_length_le (by have := HL.out; omega)] at this
          exact this))
        go_wp2_with fail
        go_ret
        exact ⟨by rw [TE.out]; rfl, _, HM.out⟩
  · have t0 : decide ((a.length : Int) = (b.length : Int)) = false := decide_eq_false (by omega)
    have t0b : ((a.length : Int) == (b.length : Int)) = false := by simp; omega
    have t0c : ((a.length : Int) != (b.length : Int)) = true := by simp; omega
    have t0n : decide (a.length = b.length) = false := decide_eq_false hl
    have t0d : (a.length == b.length) = false := by simp [hl]
    have t0e : (a.length != b.length) = true := by simp [hl]
    have TN := Lib.hid (eqS_false (show ¬ a = b by rintro rfl; exact hl rfl))
    clear hl
    go_enter Try.func17, Try.ntmps17
    go_wp2_with fail
    go_ret
    exact ⟨by rw [TN.out]; rfl, 0, rfl⟩
end Go.Proofs.Ythajgfldjjgkiaa
