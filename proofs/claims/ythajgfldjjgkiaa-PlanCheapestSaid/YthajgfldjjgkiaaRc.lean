/- The document's Check. -/
import Derived.Test.YthajgfldjjgkiaaDw
import Derived.Test.YthajgfldjjgkiaaGn
namespace Go.Proofs.Ythajgfldjjgkiaa
open Go.RowKit
set_option maxRecDepth 100000

def cntL (l : List Int) : Nat → Int := fun i => (l.count (i : Int) : Int)
theorem cntL_snoc (l : List Int) (x : Nat) : updF (cntL l) x (cntL l x + 1) = cntL (l ++ [(x : Int)]) := by
  funext i
  unfold updF cntL
  by_cases e : i = x
  · subst e; simp
  · have : ¬ (x : Int) = (i : Int) := by omega
    simp [e, this]
theorem cntL_le (l : List Int) (i : Nat) : 0 ≤ cntL l i ∧ cntL l i ≤ l.length := by
  unfold cntL
  have := List.count_le_length (a := (i : Int)) (l := l)
  omega
theorem up_snoc {l : List Int} {i : Nat} (hi : i < l.length) (h : (l.take i).Pairwise (· < ·)) (k : i = 0 ∨ ∃ h1 : i - 1 < l.length, l[i - 1] < l[i]) : (l.take (i + 1)).Pairwise (· < ·) := by
  rw [List.take_succ_eq_append_getElem hi]
  refine List.pairwise_append.2 ⟨h, by simp, fun a ha b hb => ?_⟩
  simp at hb
  subst hb
  obtain ⟨j, hj, rfl⟩ := List.mem_iff_getElem.1 ha
  have hj2 : j < i := by rw [List.length_take] at hj; omega
  rw [List.getElem_take]
  rcases k with k | ⟨h1, k⟩
  · omega
  · by_cases e : j = i - 1
    · subst e; exact k
    · have := List.pairwise_iff_getElem.1 h j (i - 1) hj (by rw [List.length_take]; omega) (by omega)
      rw [List.getElem_take, List.getElem_take] at this
      exact Int.lt_trans this k
def RcR (w : World) (g cap T n fan : Nat) (ss : List Stp) (v10 : Value) (wr : World) : Prop := ∃ k : Nat, v10 = .int .i64 (k : Int) ∧ k ≤ ss.length ∧ (∀ s (h : s < ss.length), s < k → StepOk n fan s ss[s]) ∧ (flat (ss.take k)).length ≤ fan * k ∧ CoAt w wr g cap T (cntL (flat (ss.take k)))
def RiC (w : World) (g cap T : Nat) (base : List Int) (o : Nat) (l : List Int) (v12 : Value) (wr : World) : Prop := ∃ i : Nat, v12 = .int .i64 (i : Int) ∧ i ≤ l.length ∧ (l.take i).Pairwise (· < ·) ∧ (∀ y ∈ l.take i, 0 ≤ y ∧ y < (o : Int)) ∧ CoAt w wr g cap T (cntL (base ++ l.take i))
def R3R (w : World) (g cap T M : Nat) (fl : List Int) (v13 : Value) (wr : World) : Prop := ∃ i : Nat, v13 = .int .i64 (i : Int) ∧ i ≤ M ∧ (∀ j, j < i → fl.count (j : Int) = 1) ∧ CoAt w wr g cap T (cntL fl)
theorem flat_le2 {n fan : Nat} {ss : List Stp} (k : Nat) (h : ∀ s (h : s < ss.length), s < k → StepOk n fan s ss[s]) (hk : k ≤ ss.length) : (flat (ss.take k)).length ≤ fan * k := by
  induction k with
  | zero => simp [flat]
  | succ k ih =>
    have := ih (fun s hs hlt => h s hs (by omega)) (by omega)
    have hh := (h k (by omega) (by omega)).hi
    rw [flat_take (by omega), List.length_append, Nat.mul_succ]
    omega
set_option maxHeartbeats 16000000 in
theorem rcheck_ok {w : World} {v vs : Value} {W : List Int} {fan : Int} {ss : List Stp} (hv : SlI w v W) (hs : StAt w vs ss) :
    Calls Try.prog 19 #[v, .int .i64 fan, vs] w (ChkR w W fan ss) := by
  have GE := Lib.hid (given_ok (fan := fan) hv)
  have HS := Lib.hid hs
  obtain ⟨a, c, rfl, hc, hc2⟩ := hv.form
  obtain ⟨sa, sc, rfl, hsc, hsc2⟩ := hs.form
  by_cases hE : givE W fan = 0
  · obtain ⟨e1, e2, e3, e4, _⟩ := givE_ok hE
    obtain ⟨f, rfl⟩ : ∃ f : Nat, fan = (f : Int) := ⟨fan.toNat, by omega⟩
    have Y := Lib.hid (fun (p : PlanOk W.length f ss) w' (k : Below w.heap.size w w') => show ChkR w W (f : Int) ss (.returned (.int .i64 0)) w' from ⟨0, rfl, Or.inr (Or.inl ⟨hE, p, rfl⟩), k⟩)
    have N := Lib.hid (fun (p : ¬ PlanOk W.length f ss) w' (k : Below w.heap.size w w') => show ChkR w W (f : Int) ss (.returned (.int .i64 101)) w' from ⟨101, rfl, Or.inr (Or.inr ⟨hE, p, rfl⟩), k⟩)
    rw [hE] at GE
    clear hv hs hE
    by_cases h0 : ss.length = 0
    · have F := Lib.hid (N.out (fun p => by have := p.some; omega) w (Below.refl _ _))
      have t0 : decide ((ss.length : Int) = 0) = true := decide_eq_true (by omega)
      have t0n : decide (ss.length = 0) = true := decide_eq_true h0
      have t0b : ((ss.length : Int) == 0) = true := by simp [h0]
      clear h0
      go_enter Try.func19, Try.ntmps19
      go_wp2_with fail
      refine GE.out.mono ?_
      rintro e w' ⟨rfl, rfl⟩
      go_wp2_with fail
      go_ret
      exact F.out
    · have t0 : decide ((ss.length : Int) = 0) = false := decide_eq_false (by omega)
      have t0n : decide (ss.length = 0) = false := decide_eq_false h0
      have t0b : ((ss.length : Int) == 0) = false := by simp; intro e; rw [e] at h0; exact h0 rfl
      by_cases hm : W.length < ss.length
      · have F := Lib.hid (N.out (fun p => by have := p.few; omega) w (Below.refl _ _))
        have tm : decide ((W.length : Int) < (ss.length : Int)) = true := decide_eq_true (by omega)
        have tmn : decide (W.length < ss.length) = true := decide_eq_true hm
        clear h0 hm
        go_enter Try.func19, Try.ntmps19
        go_wp2_with fail
        refine GE.out.mono ?_
        rintro e w' ⟨rfl, rfl⟩
        go_wp2_with fail
        go_ret
        exact F.out
      · have tm : decide ((W.length : Int) < (ss.length : Int)) = false := decide_eq_false (by omega)
        have tmn : decide (W.length < ss.length) = false := decide_eq_false hm
        have hl3 : ss.length ≤ 65536 := by omega
        have H0 := Lib.hid h0
        have HM := Lib.hid hm
        obtain ⟨T, hT⟩ : ∃ T, T = W.length + ss.length := ⟨_, rfl⟩
        have HT := Lib.hid hT
        have HT2 := Lib.hid (show (W.length : Int) + (ss.length : Int) = (T : Int) by omega)
        have T1 : T ≤ 131072 := by omega
        clear hT h0 hm
        go_enter Try.func19, Try.ntmps19
        go_wp2_with fail
        refine GE.out.mono ?_
        rintro e w' ⟨rfl, rfl⟩
        go_wp2_with (at_make; refine wp_mkL rfl _ _ 22 3 rfl (.int .i64 0) 1 8 Try.underlying22 info3 .i64 .i64 _ T HT2.out rfl rfl (by omega) (by omega) _ (iV_zero T) ?_; intro w2 hb2 hbel2)
        have ST := Lib.hid (show RcR w w.heap.size T T W.length f ss (.int .i64 0) w2 from by
          refine ⟨0, rfl, Nat.zero_le _, fun s _ h => absurd h (by omega), by simp [flat], ?_, hbel2, Nat.le_refl _⟩
          have : nL (cntL (flat (ss.take 0))) T = List.replicate T 0 := by
            rw [← nL_zero]
            exact nL_congr fun i _ => by simp [cntL, flat]
          rw [this]
          exact hb2.ownI (by simp) (by omega))
        clear hb2 hbel2
        generalize hgz : w.heap.size = g at ST ⊢
        have HGZ := Lib.hid hgz
        clear hgz
        go_loopw [10] (fun v10 wr => RcR w g T T W.length f ss v10 wr) (fun v10 _ => ss.length - (intOf v10).toNat)
        case atStart => exact ST.out
        case round =>
          clear ST
          obtain ⟨k, rfl, hk, hst, hfl, hco⟩ := hrel
          have C := Lib.hid hco
          have STP := Lib.hid hst
          have hfb : (flat (ss.take k)).length ≤ 4194304 := by
            have : f * k ≤ 64 * 65536 := Nat.mul_le_mul (by omega) (by omega)
            omega
          clear hco hst hfl
          by_cases hlt : k < ss.length
          · have t1 : decide ((k : Int) < (ss.length : Int)) = true := decide_eq_true (by omega)
            have t1n : decide (k < ss.length) = true := decide_eq_true hlt
            have ik : (k : Int) < (ss.length : Int) := by omega
            have ik0 : (0 : Int) ≤ (k : Int) := by omega
            obtain ⟨b1, o1, c1, f1, e1', _, l1, g1⟩ := HS.out.get (by rintro rfl; exact absurd hlt (Nat.not_lt_zero _))
            injection e1' with e1' _ e3'
            subst e1' e3'
            obtain ⟨q1, q2, q3⟩ := g1 k hlt
            rw [← Nat.add_assoc] at q2
            obtain ⟨xa, xc, hx, xc1, xc2⟩ := q3.form
            rw [hx] at q1 q3
            have XW := Lib.hid (show SlI w (.slice xa ss[k].inn.length xc) ss[k].inn from q3)
            replace q1 := ((bcell C.out.bel).1 b1 _ l1).trans q1
            replace q2 := ((bcell C.out.bel).1 b1 _ l1).trans q2
            replace l1 := Nat.lt_of_lt_of_le l1 C.out.bel.size
            have BOT := Lib.hid (fun (p : PlanOk W.length f ss) => p.each k hlt)
            have FT := Lib.hid (flat_take hlt)
            have STPN := Lib.hid (fun (h : StepOk W.length f k ss[k]) => show ∀ s (h : s < ss.length), s < k + 1 → StepOk W.length f s ss[s] from fun s hs hlt2 => by
              by_cases e : s = k
              · subst e; exact h
              · exact STP.out s hs (by omega))
            have NO := Lib.hid (fun (h : ¬ PlanOk W.length f ss) => N.out h wr C.out.bel)
            clear g1 hx q3
            generalize hSX : ss[k] = x at *
            clear hSX
            obtain ⟨xi, xo⟩ := x
            simp only at q1 q2 XW FT xc1
            obtain ⟨o, ho⟩ : ∃ o, o = W.length + k := ⟨_, rfl⟩
            have HO := Lib.hid ho
            have eo : (W.length : Int) + (k : Int) = (o : Int) := by omega
            have oT : o < T := by have := HT.out; omega
            clear ho
            by_cases hxo : xo = (o : Int)
            · subst hxo
              have u1 : decide ((o : Int) = (o : Int)) = true := decide_eq_true rfl
              have u1b : ((o : Int) == (o : Int)) = true := beq_self_eq_true _
              have u1c : ((o : Int) != (o : Int)) = false := by simp
              by_cases hz : xi.length = 0
              · have u2 : decide ((xi.length : Int) = 0) = true := decide_eq_true (by omega)
                have u2n : decide (xi.length = 0) = true := decide_eq_true hz
                have u2b : ((xi.length : Int) == 0) = true := by simp [hz]
                have F := Lib.hid (NO.out (fun p => by have h1 := (BOT.out p).lo; simp only at h1; omega))
                clear hz NO BOT STPN
                go_wp2_with fail
                go_ret
                exact F.out
              · have u2 : decide ((xi.length : Int) = 0) = false := decide_eq_false (by omega)
                have u2n : decide (xi.length = 0) = false := decide_eq_false hz
                have u2b : ((xi.length : Int) == 0) = false := by simp; intro e; rw [e] at hz; exact hz rfl
                by_cases hhi : f < xi.length
                · have u3 : decide ((f : Int) < (xi.length : Int)) = true := decide_eq_true (by omega)
                  have u3n : decide (f < xi.length) = true := decide_eq_true hhi
                  have F := Lib.hid (NO.out (fun p => by have h1 := (BOT.out p).hi; simp only at h1; omega))
                  clear hz hhi NO BOT STPN
                  go_wp2_with fail
                  go_ret
                  exact F.out
                · have u3 : decide ((f : Int) < (xi.length : Int)) = false := decide_eq_false (by omega)
                  have u3n : decide (f < xi.length) = false := decide_eq_false hhi
                  by_cases h1 : xi.length = 1
                  · have u4 : decide ((xi.length : Int) = 1) = true := decide_eq_true (by omega)
                    have u4n : decide (xi.length = 1) = true := decide_eq_true h1
                    have u4b : ((xi.length : Int) == 1) = true := by simp [h1]
                    by_cases hn1 : 1 < W.length
                    · have u5 : decide (1 < (W.length : Int)) = true := decide_eq_true (by omega)
                      have u5n : decide (1 < W.length) = true := decide_eq_true hn1
                      have F := Lib.hid (NO.out (fun p => by have h1 := (BOT.out p).lo; simp only at h1; omega))
                      clear hz hhi h1 hn1 NO BOT STPN
                      go_wp2_with fail
                      go_ret
                      exact F.out
                    · have u5 : decide (1 < (W.length : Int)) = false := decide_eq_false (by omega)
                      have u5n : decide (1 < W.length) = false := decide_eq_false hn1
                      have LO := Lib.hid (show min W.length 2 ≤ xi.length by omega)
                      have HI := Lib.hid (show xi.length ≤ f by omega)
                      have SI := Lib.hid (show RiC w g T T (flat (ss.take k)) o xi (.int .i64 0) wr from ⟨0, rfl, Nat.zero_le _, List.Pairwise.nil, (fun y hy => by cases hy), by rw [List.take_zero, List.append_nil]; exact C.out⟩)
                      have STN := Lib.hid (fun (h1 : xi.Pairwise (· < ·)) (h2 : ∀ y ∈ xi, 0 ≤ y ∧ y < (o : Int)) => STPN.out ⟨by rw [HO.out], LO.out, HI.out, h1, by have e := HO.out; rw [← e]; exact h2⟩)
                      have BUP := Lib.hid (fun (p : PlanOk W.length f ss) => (BOT.out p).up)
                      have BLT := Lib.hid (fun (p : PlanOk W.length f ss) => (BOT.out p).lt)
                      simp only at BUP BLT
                      rw [← HO.out] at BLT
                      have FB := Lib.hid (show (flat (ss.take k)).length + xi.length ≤ 4194304 + 64 by omega)
                      have q1' := q1
                      clear hz hhi h1 hn1 NO BOT STPN C
                      go_wp2_with fail
                      clear q1 q2 l1
                      go_loopw [12] (fun v12 wr => RiC w g T T (flat (ss.take k)) o xi v12 wr) (fun v12 _ => xi.length - (intOf v12).toNat)
                      case atStart => exact SI.out
                      case round =>
                        clear SI
                        obtain ⟨i, rfl, hi, hup, hlt2, hco⟩ := hrel
                        have C2 := Lib.hid hco
                        have UP := Lib.hid hup
                        have LT := Lib.hid hlt2
                        clear hco hup hlt2
                        by_cases hit : i < xi.length
                        · have w1t : decide ((i : Int) < (xi.length : Int)) = true := decide_eq_true (by omega)
                          have w1n : decide (i < xi.length) = true := decide_eq_true hit
                          have ii : (i : Int) < (xi.length : Int) := by omega
                          have ii0 : (0 : Int) ≤ (i : Int) := by omega
                          obtain ⟨xb, xo, xc', e5, _, l5, g5⟩ := SlI.ne (XW.out.below C2.out.bel) (by rintro rfl; exact absurd hit (Nat.not_lt_zero _))
                          injection e5 with e5 _ e6
                          subst e5 e6
                          have p1 := g5 i hit
                          have NOW := Lib.hid (fun (h : ¬ PlanOk W.length f ss) (n : Nat) => N.out h (wr.drewN n) (bdrewB C2.out.bel n))
                          have TKS := Lib.hid (show xi.take (i + 1) = xi.take i ++ [xi[i]] from List.take_succ_eq_append_getElem hit)
                          have BL2 := Lib.hid (fun (p : PlanOk W.length f ss) => BLT.out p xi[i] (List.getElem_mem hit))
                          have BU2 := Lib.hid (fun (p : PlanOk W.length f ss) (j : Nat) (hj : j < xi.length) (hji : j < i) => List.pairwise_iff_getElem.1 (BUP.out p) j i hj hit hji)
                          have US := Lib.hid (up_snoc hit UP.out)
                          have PJ := Lib.hid (fun (j : Nat) (hj : j < xi.length) => g5 j hj)
                          clear g5
                          by_cases hr0 : xi[i] < 0
                          · have F := Lib.hid (NOW.out (fun p => by have := (BL2.out p).1; omega) 0)
                            have v1 : decide (xi[i] < 0) = true := decide_eq_true hr0
                            clear NOW TKS BL2 BU2 US PJ hr0
                            generalize xi[i] = r at *
                            go_wp2_with fail
                            go_ret
                            exact F.out
                          · have v1 : decide (xi[i] < 0) = false := decide_eq_false hr0
                            by_cases hro : (o : Int) ≤ xi[i]
                            · have F := Lib.hid (NOW.out (fun p => by have := (BL2.out p).2; omega) 0)
                              have v2 : decide ((o : Int) ≤ xi[i]) = true := decide_eq_true hro
                              clear NOW TKS BL2 BU2 US PJ hr0 hro
                              generalize xi[i] = r at *
                              go_wp2_with fail
                              go_ret
                              exact F.out
                            · have v2 : decide ((o : Int) ≤ xi[i]) = false := decide_eq_false hro
                              obtain ⟨rn, hrn⟩ : ∃ rn : Nat, xi[i] = (rn : Int) := ⟨xi[i].toNat, by omega⟩
                              have rlt : rn < T := by omega
                              have v2n : decide (o ≤ rn) = false := decide_eq_false (by omega)
                              have GOOD := Lib.hid (fun (h : i = 0 ∨ ∃ h1 : i - 1 < xi.length, xi[i - 1] < xi[i]) (wr' : World) (hc : CoAt w wr' g T T (updF (cntL (flat (ss.take k) ++ xi.take i)) rn (cntL (flat (ss.take k) ++ xi.take i) rn + 1))) => show RiC w g T T (flat (ss.take k)) o xi (.int .i64 ((i : Int) + 1)) wr' from
                                ⟨i + 1, by congr 1, hit, US.out h, fun y hy => by
                                  rw [TKS.out] at hy
                                  rcases List.mem_append.1 hy with hy | hy
                                  · exact LT.out y hy
                                  · simp at hy; omega, by
                                  rw [cntL_snoc, List.append_assoc, ← hrn, ← TKS.out] at hc
                                  exact hc⟩)
                              have cb := cntL_le (flat (ss.take k) ++ xi.take i) rn
                              rw [List.length_append, List.length_take] at cb
                              have cr := C2.out.cell rn rlt
                              have fz := C2.out.own.free rn
                              have lg := C2.out.own.lt'
                              have CS := Lib.hid (fun n => (C2.out.below (below_drewN wr n)).set rn (cntL (flat (ss.take k) ++ xi.take i) rn + 1))
                              have cr2 : ∀ n, (wr.drewN n).cell? ⟨g, rn, none⟩ = some (.int .i64 (cntL (flat (ss.take k) ++ xi.take i) rn)) := fun n => cr
                              have CR2 := Lib.hid cr2
                              have fz2 : ∀ n, (wr.drewN n).frozen? ⟨g, rn, none⟩ = false := fun n => fz
                              have FZ2 := Lib.hid fz2
                              have ir : (rn : Int) < (T : Int) := by omega
                              have ir0 : (0 : Int) ≤ (rn : Int) := by omega
                              have ME := Lib.hid (show xi.length - ((i : Int) + 1).toNat < xi.length - (i : Int).toNat by omega)
                              have cb1 := cb.1
                              have cb2 : cntL (flat (ss.take k) ++ xi.take i) rn ≤ 4194368 := by have := FB.out; omega
                              clear TKS US hr0 hro cr2 fz2 cr fz cb
                              by_cases hi0 : i = 0
                              · have v3 : decide ((0 : Int) < (i : Int)) = false := decide_eq_false (by omega)
                                have v3n : decide (0 < i) = false := decide_eq_false (by omega)
                                have GD := Lib.hid (GOOD.out (Or.inl hi0))
                                rw [hrn] at p1 v1 v2
                                clear NOW BL2 BU2 PJ GOOD hrn hi0
                                generalize cntL (flat (ss.take k) ++ xi.take i) rn = cc at *
                                go_wp2_with fail
                                go_quiet (fail)
                                have cq := CR2.out nq
                                have fq := FZ2.out nq
                                have p2 : (wr.drewN nq).cell? ⟨xb, xo + i, none⟩ = some (.int .i64 (rn : Int)) := p1
                                have CSn := Lib.hid (CS.out nq)
                                have lg2 : g < (wr.drewN nq).heap.size := lg
                                clear p1 CR2 FZ2 CS lg
                                generalize wr.drewN nq = wq at *
                                go_wp2_with fail
                                go_roundw
                                case rel => exact GD.out _ CSn.out
                                case measure => exact ME.out
                              · have v3 : decide ((0 : Int) < (i : Int)) = true := decide_eq_true (by omega)
                                have v3n : decide (0 < i) = true := decide_eq_true (by omega)
                                obtain ⟨j, hj⟩ : ∃ j, i = j + 1 := ⟨i - 1, by omega⟩
                                have hjl : j < xi.length := by omega
                                have pj := PJ.out j hjl
                                have e3 : IntKind.i64.wrap ((i : Int) - 1) = (j : Int) := by rw [show (i : Int) - 1 = (j : Int) by omega]; exact IntWalk.i64_in _ (by omega)
                                have e4 : (i : Int) - 1 = (j : Int) := by omega
                                have jj : (j : Int) < (xi.length : Int) := by omega
                                have jj0 : (0 : Int) ≤ (j : Int) := by omega
                                by_cases hrr : xi[i] ≤ xi[j]
                                · have F := Lib.hid (NOW.out (fun p => by have := BU2.out p j hjl (by omega); omega))
                                  have v4 : decide (xi[i] ≤ xi[j]) = true := decide_eq_true hrr
                                  rw [hrn] at p1 v1 v2 v4
                                  clear NOW BL2 BU2 PJ GOOD hrn hi0 hj CS CR2 FZ2 hrr
                                  generalize xi[j] = rj at *
                                  go_wp2_with fail
                                  go_quiet (fail)
                                  go_wp2_with fail
                                  go_ret
                                  exact F.out _
                                · have v4 : decide (xi[i] ≤ xi[j]) = false := decide_eq_false hrr
                                  have GD := Lib.hid (GOOD.out (Or.inr ⟨by omega, by
                                    have : i - 1 = j := by omega
                                    simp only [this]; omega⟩))
                                  rw [hrn] at p1 v1 v2 v4
                                  clear NOW BL2 BU2 PJ GOOD hrn hi0 hj hrr
                                  generalize xi[j] = rj at *
                                  generalize cntL (flat (ss.take k) ++ xi.take i) rn = cc at *
                                  go_wp2_with fail
                                  go_quiet (fail)
                                  have cq := CR2.out nq
                                  have fq := FZ2.out nq
                                  have p2 : (wr.drewN nq).cell? ⟨xb, xo + i, none⟩ = some (.int .i64 (rn : Int)) := p1
                                  have CSn := Lib.hid (CS.out nq)
                                  have lg2 : g < (wr.drewN nq).heap.size := lg
                                  clear p1 pj CR2 FZ2 CS lg e3 e4
                                  generalize wr.drewN nq = wq at *
                                  go_wp2_with fail
                                  go_roundw
                                  case rel => exact GD.out _ CSn.out
                                  case measure => exact ME.out
                        · have w1t : decide ((i : Int) < (xi.length : Int)) = false := decide_eq_false (by omega)
                          have w1n : decide (i < xi.length) = false := decide_eq_false hit
                          have TK : xi.take i = xi := List.take_of_length_le (by omega)
                          rw [TK] at UP LT C2
                          have FL3 := flat_le2 (n := W.length) (fan := f) (ss := ss) (k + 1) (STN.out UP.out LT.out) hlt
                          have NX := Lib.hid (show RcR w g T T W.length f ss (.int .i64 ((k : Int) + 1)) wr from ⟨k + 1, by congr 1, hlt, STN.out UP.out LT.out, FL3, by rw [FT.out]; exact C2.out⟩)
                          clear TK FL3
                          go_wp2_with fail
                          go_roundw
                          case rel => exact NX.out
                          case measure => simp [intOf]; omega
                  · have u4 : decide ((xi.length : Int) = 1) = false := decide_eq_false (by omega)
                    have u4n : decide (xi.length = 1) = false := decide_eq_false h1
                    have u4b : ((xi.length : Int) == 1) = false := by simp; omega
                    have LO := Lib.hid (show min W.length 2 ≤ xi.length by omega)
                    have HI := Lib.hid (show xi.length ≤ f by omega)
                    have SI := Lib.hid (show RiC w g T T (flat (ss.take k)) o xi (.int .i64 0) wr from ⟨0, rfl, Nat.zero_le _, List.Pairwise.nil, (fun y hy => by cases hy), by rw [List.take_zero, List.append_nil]; exact C.out⟩)
                    have STN := Lib.hid (fun (h1 : xi.Pairwise (· < ·)) (h2 : ∀ y ∈ xi, 0 ≤ y ∧ y < (o : Int)) => STPN.out ⟨by rw [HO.out], LO.out, HI.out, h1, by have e := HO.out; rw [← e]; exact h2⟩)
                    have BUP := Lib.hid (fun (p : PlanOk W.length f ss) => (BOT.out p).up)
                    have BLT := Lib.hid (fun (p : PlanOk W.length f ss) => (BOT.out p).lt)
                    simp only at BUP BLT
                    rw [← HO.out] at BLT
                    have FB := Lib.hid (show (flat (ss.take k)).length + xi.length ≤ 4194304 + 64 by omega)
                    have q1' := q1
                    clear hz hhi h1 NO BOT STPN C
                    go_wp2_with fail
                    clear q1 q2 l1
                    go_loopw [12] (fun v12 wr => RiC w g T T (flat (ss.take k)) o xi v12 wr) (fun v12 _ => xi.length - (intOf v12).toNat)
                    case atStart => exact SI.out
                    case round =>
                      clear SI
                      obtain ⟨i, rfl, hi, hup, hlt2, hco⟩ := hrel
                      have C2 := Lib.hid hco
                      have UP := Lib.hid hup
                      have LT := Lib.hid hlt2
                      clear hco hup hlt2
                      by_cases hit : i < xi.length
                      · have w1t : decide ((i : Int) < (xi.length : Int)) = true := decide_eq_true (by omega)
                        have w1n : decide (i < xi.length) = true := decide_eq_true hit
                        have ii : (i : Int) < (xi.length : Int) := by omega
                        have ii0 : (0 : Int) ≤ (i : Int) := by omega
                        obtain ⟨xb, xo, xc', e5, _, l5, g5⟩ := SlI.ne (XW.out.below C2.out.bel) (by rintro rfl; exact absurd hit (Nat.not_lt_zero _))
                        injection e5 with e5 _ e6
                        subst e5 e6
                        have p1 := g5 i hit
                        have NOW := Lib.hid (fun (h : ¬ PlanOk W.length f ss) (n : Nat) => N.out h (wr.drewN n) (bdrewB C2.out.bel n))
                        have TKS := Lib.hid (show xi.take (i + 1) = xi.take i ++ [xi[i]] from List.take_succ_eq_append_getElem hit)
                        have BL2 := Lib.hid (fun (p : PlanOk W.length f ss) => BLT.out p xi[i] (List.getElem_mem hit))
                        have BU2 := Lib.hid (fun (p : PlanOk W.length f ss) (j : Nat) (hj : j < xi.length) (hji : j < i) => List.pairwise_iff_getElem.1 (BUP.out p) j i hj hit hji)
                        have US := Lib.hid (up_snoc hit UP.out)
                        have PJ := Lib.hid (fun (j : Nat) (hj : j < xi.length) => g5 j hj)
                        clear g5
                        by_cases hr0 : xi[i] < 0
                        · have F := Lib.hid (NOW.out (fun p => by have := (BL2.out p).1; omega) 0)
                          have v1 : decide (xi[i] < 0) = true := decide_eq_true hr0
                          clear NOW TKS BL2 BU2 US PJ hr0
                          generalize xi[i] = r at *
                          go_wp2_with fail
                          go_ret
                          exact F.out
                        · have v1 : decide (xi[i] < 0) = false := decide_eq_false hr0
                          by_cases hro : (o : Int) ≤ xi[i]
                          · have F := Lib.hid (NOW.out (fun p => by have := (BL2.out p).2; omega) 0)
                            have v2 : decide ((o : Int) ≤ xi[i]) = true := decide_eq_true hro
                            clear NOW TKS BL2 BU2 US PJ hr0 hro
                            generalize xi[i] = r at *
                            go_wp2_with fail
                            go_ret
                            exact F.out
                          · have v2 : decide ((o : Int) ≤ xi[i]) = false := decide_eq_false hro
                            obtain ⟨rn, hrn⟩ : ∃ rn : Nat, xi[i] = (rn : Int) := ⟨xi[i].toNat, by omega⟩
                            have rlt : rn < T := by omega
                            have v2n : decide (o ≤ rn) = false := decide_eq_false (by omega)
                            have GOOD := Lib.hid (fun (h : i = 0 ∨ ∃ h1 : i - 1 < xi.length, xi[i - 1] < xi[i]) (wr' : World) (hc : CoAt w wr' g T T (updF (cntL (flat (ss.take k) ++ xi.take i)) rn (cntL (flat (ss.take k) ++ xi.take i) rn + 1))) => show RiC w g T T (flat (ss.take k)) o xi (.int .i64 ((i : Int) + 1)) wr' from
                              ⟨i + 1, by congr 1, hit, US.out h, fun y hy => by
                                rw [TKS.out] at hy
                                rcases List.mem_append.1 hy with hy | hy
                                · exact LT.out y hy
                                · simp at hy; omega, by
                                rw [cntL_snoc, List.append_assoc, ← hrn, ← TKS.out] at hc
                                exact hc⟩)
                            have cb := cntL_le (flat (ss.take k) ++ xi.take i) rn
                            rw [List.length_append, List.length_take] at cb
                            have cr := C2.out.cell rn rlt
                            have fz := C2.out.own.free rn
                            have lg := C2.out.own.lt'
                            have CS := Lib.hid (fun n => (C2.out.below (below_drewN wr n)).set rn (cntL (flat (ss.take k) ++ xi.take i) rn + 1))
                            have cr2 : ∀ n, (wr.drewN n).cell? ⟨g, rn, none⟩ = some (.int .i64 (cntL (flat (ss.take k) ++ xi.take i) rn)) := fun n => cr
                            have CR2 := Lib.hid cr2
                            have fz2 : ∀ n, (wr.drewN n).frozen? ⟨g, rn, none⟩ = false := fun n => fz
                            have FZ2 := Lib.hid fz2
                            have ir : (rn : Int) < (T : Int) := by omega
                            have ir0 : (0 : Int) ≤ (rn : Int) := by omega
                            have ME := Lib.hid (show xi.length - ((i : Int) + 1).toNat < xi.length - (i : Int).toNat by omega)
                            have cb1 := cb.1
                            have cb2 : cntL (flat (ss.take k) ++ xi.take i) rn ≤ 4194368 := by have := FB.out; omega
                            clear TKS US hr0 hro cr2 fz2 cr fz cb
                            by_cases hi0 : i = 0
                            · have v3 : decide ((0 : Int) < (i : Int)) = false := decide_eq_false (by omega)
                              have v3n : decide (0 < i) = false := decide_eq_false (by omega)
                              have GD := Lib.hid (GOOD.out (Or.inl hi0))
                              rw [hrn] at p1 v1 v2
                              clear NOW BL2 BU2 PJ GOOD hrn hi0
                              generalize cntL (flat (ss.take k) ++ xi.take i) rn = cc at *
                              go_wp2_with fail
                              go_quiet (fail)
                              have cq := CR2.out nq
                              have fq := FZ2.out nq
                              have p2 : (wr.drewN nq).cell? ⟨xb, xo + i, none⟩ = some (.int .i64 (rn : Int)) := p1
                              have CSn := Lib.hid (CS.out nq)
                              have lg2 : g < (wr.drewN nq).heap.size := lg
                              clear p1 CR2 FZ2 CS lg
                              generalize wr.drewN nq = wq at *
                              go_wp2_with fail
                              go_roundw
                              case rel => exact GD.out _ CSn.out
                              case measure => exact ME.out
                            · have v3 : decide ((0 : Int) < (i : Int)) = true := decide_eq_true (by omega)
                              have v3n : decide (0 < i) = true := decide_eq_true (by omega)
                              obtain ⟨j, hj⟩ : ∃ j, i = j + 1 := ⟨i - 1, by omega⟩
                              have hjl : j < xi.length := by omega
                              have pj := PJ.out j hjl
                              have e3 : IntKind.i64.wrap ((i : Int) - 1) = (j : Int) := by rw [show (i : Int) - 1 = (j : Int) by omega]; exact IntWalk.i64_in _ (by omega)
                              have e4 : (i : Int) - 1 = (j : Int) := by omega
                              have jj : (j : Int) < (xi.length : Int) := by omega
                              have jj0 : (0 : Int) ≤ (j : Int) := by omega
                              by_cases hrr : xi[i] ≤ xi[j]
                              · have F := Lib.hid (NOW.out (fun p => by have := BU2.out p j hjl (by omega); omega))
                                have v4 : decide (xi[i] ≤ xi[j]) = true := decide_eq_true hrr
                                rw [hrn] at p1 v1 v2 v4
                                clear NOW BL2 BU2 PJ GOOD hrn hi0 hj CS CR2 FZ2 hrr
                                generalize xi[j] = rj at *
                                go_wp2_with fail
                                go_quiet (fail)
                                go_wp2_with fail
                                go_ret
                                exact F.out _
                              · have v4 : decide (xi[i] ≤ xi[j]) = false := decide_eq_false hrr
                                have GD := Lib.hid (GOOD.out (Or.inr ⟨by omega, by
                                  have : i - 1 = j := by omega
                                  simp only [this]; omega⟩))
                                rw [hrn] at p1 v1 v2 v4
                                clear NOW BL2 BU2 PJ GOOD hrn hi0 hj hrr
                                generalize xi[j] = rj at *
                                generalize cntL (flat (ss.take k) ++ xi.take i) rn = cc at *
                                go_wp2_with fail
                                go_quiet (fail)
                                have cq := CR2.out nq
                                have fq := FZ2.out nq
                                have p2 : (wr.drewN nq).cell? ⟨xb, xo + i, none⟩ = some (.int .i64 (rn : Int)) := p1
                                have CSn := Lib.hid (CS.out nq)
                                have lg2 : g < (wr.drewN nq).heap.size := lg
                                clear p1 pj CR2 FZ2 CS lg e3 e4
                                generalize wr.drewN nq = wq at *
                                go_wp2_with fail
                                go_roundw
                                case rel => exact GD.out _ CSn.out
                                case measure => exact ME.out
                      · have w1t : decide ((i : Int) < (xi.length : Int)) = false := decide_eq_false (by omega)
                        have w1n : decide (i < xi.length) = false := decide_eq_false hit
                        have TK : xi.take i = xi := List.take_of_length_le (by omega)
                        rw [TK] at UP LT C2
                        have FL3 := flat_le2 (n := W.length) (fan := f) (ss := ss) (k + 1) (STN.out UP.out LT.out) hlt
                        have NX := Lib.hid (show RcR w g T T W.length f ss (.int .i64 ((k : Int) + 1)) wr from ⟨k + 1, by congr 1, hlt, STN.out UP.out LT.out, FL3, by rw [FT.out]; exact C2.out⟩)
                        clear TK FL3
                        go_wp2_with fail
                        go_roundw
                        case rel => exact NX.out
                        case measure => simp [intOf]; omega
            · have u1 : decide (xo = (o : Int)) = false := decide_eq_false hxo
              have u1b : (xo == (o : Int)) = false := by simp [hxo]
              have u1c : (xo != (o : Int)) = true := by simp [hxo]
              have F := Lib.hid (NO.out (fun p => by have h1 := (BOT.out p).out; have h2 := HO.out; rw [← h2] at h1; exact hxo h1))
              clear hxo NO BOT STPN
              go_wp2_with fail
              go_ret
              exact F.out
          · have t1 : decide ((k : Int) < (ss.length : Int)) = false := decide_eq_false (by omega)
            have t1n : decide (k < ss.length) = false := decide_eq_false hlt
            have hke : k = ss.length := by omega
            subst hke
            rw [List.take_length] at C hfb
            obtain ⟨M, hM⟩ : ∃ M, T = M + 1 := ⟨T - 1, by have := H0.out; have := HT.out; omega⟩
            have HMM := Lib.hid (show M = W.length + ss.length - 1 by have := HT.out; omega)
            have S3 := Lib.hid (show R3R w g T T M (flat ss) (.int .i64 0) wr from ⟨0, rfl, Nat.zero_le _, fun j hj => absurd hj (by omega), C.out⟩)
            have STE := Lib.hid (show ∀ s (h : s < ss.length), StepOk W.length f s ss[s] from fun s hs => STP.out s hs hs)
            have eM : (T : Int) - 1 = (M : Int) := by omega
            have HTI := HT2.out
            have MT : M < T := by omega
            clear C STP hM
            go_wp2_with fail
            go_loopw [13] (fun v13 wr => R3R w g T T M (flat ss) v13 wr) (fun v13 _ => M - (intOf v13).toNat)
            case atStart => exact S3.out
            case round =>
              clear S3
              obtain ⟨i, rfl, hi, hone, hco⟩ := hrel
              have C3 := Lib.hid hco
              have ONE := Lib.hid hone
              clear hco hone
              by_cases him : i < M
              · have w1t : decide ((i : Int) < (M : Int)) = true := decide_eq_true (by omega)
                have w1n : decide (i < M) = true := decide_eq_true him
                have cc := C3.out.cell i (by omega)
                have lg := C3.out.own.lt'
                have ii : (i : Int) < (T : Int) := by omega
                have ii0 : (0 : Int) ≤ (i : Int) := by omega
                by_cases h1 : (flat ss).count (i : Int) = 1
                · have e1 : cntL (flat ss) i = 1 := by unfold cntL; rw [h1]; rfl
                  rw [e1] at cc
                  have NX := Lib.hid (show R3R w g T T M (flat ss) (.int .i64 ((i : Int) + 1)) wr from ⟨i + 1, by congr 1, him, fun j hj => by
                    by_cases e : j = i
                    · subst e; exact h1
                    · exact ONE.out j (by omega), C3.out⟩)
                  clear h1 e1
                  go_wp2_with fail
                  go_roundw
                  case rel => exact NX.out
                  case measure => simp [intOf]; omega
                · have ne : cntL (flat ss) i ≠ 1 := by unfold cntL; omega
                  have F := Lib.hid (N.out (fun p => h1 (p.once i (by have := HMM.out; omega))) wr C3.out.bel)
                  clear h1
                  generalize cntL (flat ss) i = x at *
                  have v1 : decide (x = 1) = false := decide_eq_false ne
                  have v1b : (x == 1) = false := by simpa using ne
                  have v1c : (x != 1) = true := by simpa using ne
                  clear ne
                  go_wp2_with fail
                  go_ret
                  exact F.out
              · have w1t : decide ((i : Int) < (M : Int)) = false := decide_eq_false (by omega)
                have w1n : decide (i < M) = false := decide_eq_false him
                have F := Lib.hid (Y.out (PlanOk.of_counts e3 (by have := H0.out; omega) (by have := HM.out; omega) STE.out (fun j hj => ONE.out j (by have := HMM.out; omega))) wr C3.out.bel)
                go_wp2_with fail
                go_ret
                exact F.out
  · have F := Lib.hid (show ChkIs W fan ss (givE W fan) from Or.inl ⟨hE, rfl⟩)
    clear hv hs
    generalize givE W fan = E at *
    have t1 : decide (E = 0) = false := decide_eq_false hE
    have t2 : (E == 0) = false := by simpa using hE
    have t3 : (E != 0) = true := by simpa using hE
    clear hE
    go_enter Try.func19, Try.ntmps19
    go_wp2_with fail
    refine GE.out.mono ?_
    rintro e w' ⟨rfl, rfl⟩
    go_wp2_with fail
    go_ret
    exact ⟨E, rfl, F.out, Below.refl _ _⟩
end Go.Proofs.Ythajgfldjjgkiaa
