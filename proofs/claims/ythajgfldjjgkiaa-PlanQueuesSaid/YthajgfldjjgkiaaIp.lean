/- Are steps a plan? -/
import Derived.Test.YthajgfldjjgkiaaNa
import Derived.Test.YthajgfldjjgkiaaMe
namespace Go.Proofs.Ythajgfldjjgkiaa
open Go.RowKit
set_option maxRecDepth 100000

def mf (ss : List Stp) (k : Nat) : Nat → Bool := fun i => decide ((i : Int) ∈ flat (ss.take k))
theorem mf_zero (ss : List Stp) : mf ss 0 = fun _ => false := by funext i; simp [mf, flat]
theorem mf_next {ss : List Stp} {k : Nat} (h : k < ss.length) : noF (mf ss k) ss[k].inn = mf ss (k + 1) := by
  funext i
  unfold noF mf
  rw [flat_take h]
  simp
structure IpAt (w wr : World) (gm M n fan : Nat) (ss : List Stp) (k : Nat) : Prop where
  pre : PreOk n fan ss k
  row : BlkAt wr gm 4 (bV (mf ss k) M)
  bel : Below w.heap.size w wr
  ge : w.heap.size ≤ gm
def IpR (w : World) (gm M n fan : Nat) (ss : List Stp) (v8 v34 : Value) (wr : World) : Prop := ∃ k : Nat, v34 = .int .i64 (k : Int) ∧ v8 = .int .i64 ((flat (ss.take k)).length : Int) ∧ k ≤ ss.length ∧ (flat (ss.take k)).length ≤ fan * k ∧ IpAt w wr gm M n fan ss k
def IsR (w : World) (n fan : Nat) (ss : List Stp) (e : Ending) (w' : World) : Prop := ∃ b : Bool, e = .returned (.bool b) ∧ (b = true ↔ PlanOk n fan ss) ∧ Below w.heap.size w w'
theorem IsR.no {w w' : World} {n fan : Nat} {ss : List Stp} (h : ¬ PlanOk n fan ss) (k : Below w.heap.size w w') : IsR w n fan ss (.returned (.bool false)) w' := ⟨false, rfl, ⟨(fun e => by cases e), fun p => absurd p h⟩, k⟩
set_option maxHeartbeats 4000000 in
theorem isPlan_ok {w : World} {vs : Value} {ss : List Stp} {n fan : Nat} (hv : StAt w vs ss) (hn : 1 ≤ n) (hn2 : n ≤ 65536) (hf : 2 ≤ fan) (hf2 : fan ≤ 64) :
    Calls Try.prog 31 #[.int .i64 (n : Int), .int .i64 (fan : Int), vs] w (IsR w n fan ss) := by
  have HV := Lib.hid hv
  obtain ⟨a, c, rfl, h1, h2⟩ := hv.form
  clear hv
  by_cases h0 : ss.length = 0
  · have F := Lib.hid (IsR.no (w := w) (w' := w) (n := n) (fan := fan) (ss := ss) (fun p => by have := p.some; omega) (Below.refl _ _))
    have t0 : decide ((ss.length : Int) = 0) = true := decide_eq_true (by omega)
    have t0n : decide (ss.length = 0) = true := decide_eq_true h0
    have t0b : ((ss.length : Int) == 0) = true := by simp [h0]
    clear h0
    go_enter Try.func31, Try.ntmps31
    go_wp2_with fail
    go_ret
    exact F.out
  · have t0 : decide ((ss.length : Int) = 0) = false := decide_eq_false (by omega)
    have t0n : decide (ss.length = 0) = false := decide_eq_false h0
    have t0b : ((ss.length : Int) == 0) = false := by simp; intro e; rw [e] at h0; exact h0 rfl
    by_cases hm : max 1 (n - 1) < ss.length
    · have F := Lib.hid (IsR.no (w := w) (w' := w) (n := n) (fan := fan) (ss := ss) (fun p => by have := p.few; omega) (Below.refl _ _))
      have tm : decide (max 1 ((n : Int) - 1) < (ss.length : Int)) = true := decide_eq_true (by omega)
      clear h0 hm
      go_enter Try.func31, Try.ntmps31
      go_wp2_with fail
      go_ret
      exact F.out
    · have tm : decide (max 1 ((n : Int) - 1) < (ss.length : Int)) = false := decide_eq_false (by omega)
      have hl : ss.length ≤ 65536 := by omega
      have HM := Lib.hid (show ss.length ≤ max 1 (n - 1) by omega)
      have H0 := Lib.hid (show 0 < ss.length by omega)
      obtain ⟨M, hM⟩ : ∃ M, M = n + ss.length - 1 := ⟨_, rfl⟩
      have HMM := Lib.hid hM
      have hM2 : (n : Int) + (ss.length : Int) - 1 = (M : Int) := by omega
      have HM2 := Lib.hid hM2
      have mb : M ≤ 131072 := by omega
      obtain ⟨q, hq⟩ : ∃ q, q = min n 2 := ⟨_, rfl⟩
      have HQ := Lib.hid hq
      have hq2 : min (n : Int) 2 = (q : Int) := by omega
      have HQ2 := Lib.hid hq2
      have qb : q ≤ 2 := by omega
      clear hM hM2 hq hm h0 hq2
      go_enter Try.func31, Try.ntmps31
      go_wp2_with (at_make; refine wp_mkL rfl _ _ 67 4 rfl (.bool false) 1 1 Try.underlying67 info4 .i64 .i64 _ M HM2.out rfl rfl (by omega) (by omega) _ (bV_zero M) ?_; intro w1 hb1 hbel1)
      have ST := Lib.hid (show IpR w w.heap.size M n fan ss (.int .i64 0) (.int .i64 0) w1 from ⟨0, rfl, rfl, Nat.zero_le _, Nat.zero_le _, PreOk.zero _ _ _, by rw [mf_zero]; exact hb1, hbel1, Nat.le_refl _⟩)
      clear hb1 hbel1
      generalize hgm : w.heap.size = gm at ST ⊢
      clear hgm
      go_loopw [8, 34] (fun v8 v34 wr => IpR w gm M n fan ss v8 v34 wr) (fun _ v34 _ => ss.length - (intOf v34).toNat)
      case atStart => exact ST.out
      case round =>
        clear ST
        obtain ⟨k, rfl, rfl, hk, hfl, hip⟩ := hrel
        have I := Lib.hid hip
        clear hip
        have hfb : (flat (ss.take k)).length ≤ 4194304 := by
          have : fan * k ≤ 64 * 65536 := Nat.mul_le_mul hf2 (by omega)
          omega
        by_cases hlt : k < ss.length
        · have t1 : decide ((k : Int) < (ss.length : Int)) = true := decide_eq_true (by omega)
          have t1n : decide (k < ss.length) = true := decide_eq_true hlt
          have ik : (k : Int) < (ss.length : Int) := by omega
          have ik0 : (0 : Int) ≤ (k : Int) := by omega
          obtain ⟨b1, o1, c1, f1, e1, _, l1, g1⟩ := HV.out.get (by rintro rfl; exact absurd hlt (Nat.not_lt_zero _))
          injection e1 with e1 _ e3
          subst e1 e3
          obtain ⟨q1, q2, q3⟩ := g1 k hlt
          rw [← Nat.add_assoc] at q2
          obtain ⟨xa, xc, hx, xc1, xc2⟩ := q3.form
          rw [hx] at q1 q3
          have NB := Lib.hid (fun (hne : ss[k].inn ≠ []) b (hb : (Value.slice xa ss[k].inn.length xc).ownBlock = some b) => show b ≠ gm from fun e => by
            have h1 := SlI.blk q3 hne hb
            have h2 := I.out.ge
            omega)
          replace q1 := ((bcell I.out.bel).1 b1 _ l1).trans q1
          replace q2 := ((bcell I.out.bel).1 b1 _ l1).trans q2
          replace l1 := Nat.lt_of_lt_of_le l1 I.out.bel.size
          have XI := Lib.hid (SlI.below q3 I.out.bel)
          have FT := Lib.hid (flat_take hlt)
          have BOT := Lib.hid (fun (p : PlanOk n fan ss) => p.each k hlt)
          have FR := Lib.hid (fun (p : PlanOk n fan ss) => p.fresh hlt)
          have NXT := Lib.hid (I.out.pre.next hlt)
          have MFN := Lib.hid (mf_next hlt)
          clear g1 hx q3
          have FALSE := Lib.hid (fun (h : ¬ PlanOk n fan ss) w2 (h2 : Below wr.heap.size wr w2) => IsR.no h (I.out.bel.trans (h2.mono I.out.bel.size)))
          generalize ss[k] = x at *
          obtain ⟨xi, xo⟩ := x
          simp only at q1 q2 XI FT NXT MFN xc1 FR NB
          obtain ⟨nk, hnk⟩ : ∃ nk, nk = n + k := ⟨_, rfl⟩
          have HNK := Lib.hid hnk
          have enk : (n : Int) + (k : Int) = (nk : Int) := by omega
          have nkM : nk ≤ M := by have := HMM.out; omega
          clear hnk
          go_upto_region 9 with fail
          have BX := Lib.hid (BlkAt.new wr [.slice xa xi.length xc, .int .i64 xo] 46)
          have BA := Lib.hid (below_alloc wr (.cells #[.slice xa xi.length xc, .int .i64 xo] 46))
          have RW := Lib.hid (show BlkAt (wr.alloc (.cells #[.slice xa xi.length xc, .int .i64 xo] 46)) gm 4 (bV (mf ss k) M) from I.out.row.below BA.out)
          have SX := Lib.hid (show SlI (wr.alloc (.cells #[.slice xa xi.length xc, .int .i64 xo] 46)) (.slice xa xi.length xc) xi from XI.out.below BA.out)
          have BE := Lib.hid (I.out.bel.trans (BA.out.mono I.out.bel.size))
          have FALSE2 := Lib.hid (fun h => FALSE.out h _ BA.out)
          change Hid (BlkAt (wr.alloc (.cells #[.slice xa xi.length xc, .int .i64 xo] 46)) _ _ _) at BX
          clear FALSE q1 q2 l1
          generalize wr.alloc (.cells #[.slice xa xi.length xc, .int .i64 xo] 46) = x1 at *
          have c0 := BX.out.cell 0 _ rfl
          have c1 := BX.out.cell 1 _ rfl
          have lx := BX.out.lt
          by_cases ho : xo = (nk : Int)
          · subst ho
            have u1 : decide ((nk : Int) = (nk : Int)) = true := decide_eq_true rfl
            have u1b : ((nk : Int) == (nk : Int)) = true := beq_self_eq_true _
            have u1c : ((nk : Int) != (nk : Int)) = false := by simp
            by_cases hlo : xi.length < q
            · have u2 : decide ((xi.length : Int) < min (n : Int) 2) = true := decide_eq_true (by have := HQ2.out; omega)
              have F := Lib.hid (FALSE2.out (fun p => by have := (BOT.out p).lo; have := HQ.out; simp only at *; omega))
              clear hlo
              clear FALSE2 BOT FR NXT
              go_wp2_with fail
              go_ret
              exact F.out
            · have u2 : decide ((xi.length : Int) < min (n : Int) 2) = false := decide_eq_false (by have := HQ2.out; omega)
              by_cases hhi : fan < xi.length
              · have u3 : decide ((fan : Int) < (xi.length : Int)) = true := decide_eq_true (by omega)
                have u3n : decide (fan < xi.length) = true := decide_eq_true hhi
                have F := Lib.hid (FALSE2.out (fun p => by have := (BOT.out p).hi; simp only at *; omega))
                clear hlo hhi
                clear FALSE2 BOT FR NXT
                go_wp2_with fail
                go_ret
                exact F.out
              · have u3 : decide ((fan : Int) < (xi.length : Int)) = false := decide_eq_false (by omega)
                have u3n : decide (fan < xi.length) = false := decide_eq_false hhi
                have NO := Lib.hid (note_ok (w := x1) (nk : Int) RW.out SX.out (by omega) (by omega) (by omega) NB.out)
                have GOOD := Lib.hid (show NoOk (mf ss k) (nk : Int) xi → PreOk n fan ss (k + 1) from fun p => NXT.out ⟨by rw [HNK.out], by have := HQ.out; show min n 2 ≤ xi.length; omega, by show xi.length ≤ fan; omega, p.up, by have := p.lt; rw [HNK.out] at this; exact this⟩ (fun y hy => by
                  have h1 := p.fresh y hy
                  have h2 := (p.lt y hy).1
                  unfold mf at h1
                  rw [Int.toNat_of_nonneg h2] at h1
                  exact List.count_eq_zero.2 (of_decide_eq_false h1)))
                have BADN := Lib.hid (show PlanOk n fan ss → NoOk (mf ss k) (nk : Int) xi from fun p => by
                  have b := BOT.out p
                  refine ⟨b.up, by have := b.lt; rw [HNK.out]; exact this, fun y hy => ?_⟩
                  have h2 := (b.lt y hy).1
                  unfold mf
                  rw [Int.toNat_of_nonneg h2]
                  exact decide_eq_false (List.count_eq_zero.1 (FR.out p y hy)))
                have LEN := Lib.hid (show ((flat (ss.take (k + 1))).length = (flat (ss.take k)).length + xi.length) by rw [FT.out, List.length_append])
                have FL2 := Lib.hid (show (flat (ss.take k)).length + xi.length ≤ fan * (k + 1) by rw [Nat.mul_succ]; omega)
                have x64 : (xi.length : Int) ≤ 64 := by omega
                clear hlo hhi NXT BOT FR hfl
                generalize (flat (ss.take k)).length = T at *
                have hT : (T : Int) ≤ 4194304 := by omega
                go_wp2_with fail
                refine NO.out.mono ?_
                rintro e w3 ⟨bb, rfl, n1, n2, n3⟩
                have K3 := Lib.hid (BE.out.trans (n3.below (Nat.le_trans I.out.bel.size BA.out.size) (fun x e => by rw [e]; exact I.out.ge)))
                have N1 := Lib.hid n1
                have N2 := Lib.hid n2
                clear n1 n2 n3 NO
                cases bb with
                | true =>
                  have FIN := Lib.hid (show IpAt w w3 gm M n fan ss (k + 1) from ⟨GOOD.out (N1.out.1 rfl), by rw [← MFN.out]; exact N2.out rfl, K3.out, I.out.ge⟩)
                  clear N1 N2 GOOD BADN FALSE2
                  go_wp2_with fail
                  go_roundw
                  case rel => exact ⟨k + 1, by congr 1, by rw [LEN.out]; congr 1, hlt, by rw [LEN.out]; exact FL2.out, FIN.out⟩
                  case measure => simp [intOf]; omega
                | false =>
                  have F := Lib.hid (IsR.no (w := w) (w' := w3) (fun p => by have := N1.out.2 (BADN.out p); cases this) K3.out)
                  clear N1 N2 GOOD BADN FALSE2
                  go_wp2_with fail
                  go_ret
                  exact F.out
          · have u1 : decide (xo = (nk : Int)) = false := decide_eq_false ho
            have u1b : (xo == (nk : Int)) = false := by simp [ho]
            have u1c : (xo != (nk : Int)) = true := by simp [ho]
            have F := Lib.hid (FALSE2.out (fun p => by have h1 := (BOT.out p).out; have h2 := HNK.out; rw [← h2] at h1; exact ho h1))
            clear ho
            clear FALSE2 BOT FR NXT
            go_wp2_with fail
            go_ret
            exact F.out
        · have t1 : decide ((k : Int) < (ss.length : Int)) = false := decide_eq_false (by omega)
          have t1n : decide (k < ss.length) = false := decide_eq_false hlt
          have hke : k = ss.length := by omega
          subst hke
          have D := Lib.hid (show PlanOk n fan ss ↔ (flat (ss.take ss.length)).length = M by
            rw [List.take_length, HMM.out]
            exact I.out.pre.done H0.out HM.out)
          have FIN := Lib.hid (fun (b : Bool) (h : b = true ↔ (flat (ss.take ss.length)).length = M) => show IsR w n fan ss (.returned (.bool b)) wr from ⟨b, rfl, h.trans D.out.symm, I.out.bel⟩)
          clear D
          generalize (flat (ss.take ss.length)).length = T at *
          go_wp2_with fail
          go_ret
          refine FIN.out _ ?_
          rw [beq_iff_eq]
          omega
end Go.Proofs.Ythajgfldjjgkiaa
