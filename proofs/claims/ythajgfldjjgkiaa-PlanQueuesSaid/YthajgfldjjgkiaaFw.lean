/- PlanFull: every Make's Load. -/
import Derived.Test.YthajgfldjjgkiaaMp
import Derived.Test.YthajgfldjjgkiaaLd
import Derived.Test.YthajgfldjjgkiaaFo
import Derived.Test.YthajgfldjjgkiaaGn
namespace Go.Proofs.Ythajgfldjjgkiaa
open Go.RowKit
set_option maxRecDepth 100000

/-- Make's plan, in numbers. -/
theorem mk_nums {W : List Int} {fan : Int} (hE : givE W fan = 0) (h2 : 2 ≤ W.length) : ∃ (f r q : Nat), fan = (f : Int) ∧ 2 ≤ f ∧ f ≤ 64 ∧ W.length - 2 = (f - 1) * q + r ∧ r < f - 1 ∧ (mkAll W f).length = q + 1 ∧ (mkAll W f).length = need W.length f ∧ PlanOk W.length f (mkAll W f) ∧ ∀ (i : Nat) (h : i < (mkAll W f).length), (mkAll W f)[i].inn.length = if i = 0 then 2 + r else f := by
  obtain ⟨e1, e2, e3, e4, hW⟩ := givE_ok hE
  have hf : fan = (fan.toNat : Int) := by omega
  have P := mk_plan hE
  have hf2 : 2 ≤ fan.toNat := by omega
  obtain ⟨q, q1, q2⟩ := need_spec hf2 h2
  have hA : mkAll W fan.toNat = mkS W fan.toNat (need W.length fan.toNat) := if_neg (by omega)
  refine ⟨fan.toNat, (W.length - 2) % (fan.toNat - 1), q, hf, hf2, by omega, q1, Nat.mod_lt _ (by omega), by rw [hA, mkS_len, q2], by rw [hA, mkS_len], P, fun i h => ?_⟩
  have h' := h
  rw [hA] at h'
  have e : (mkAll W fan.toNat)[i] = (mkS W fan.toNat (need W.length fan.toNat))[i] := by simp only [hA]
  rw [e, mkS_inn]
  rfl
/-- The same, for a fan-in's share. -/
structure FullN (W : List Int) (fan : Int) (ss : List Stp) (p qq q2 tk : Nat) : Prop where
  plan : PlanOk W.length fan.toNat ss
  len : (flat ss).length = p
  all : fan.toNat * ss.length = qq
  pos : 0 < ss.length
  few : ss.length ≤ 2048
  p1 : 1 ≤ p
  pq : p ≤ qq
  q1 : qq ≤ 4194304
  q3 : q2 ≤ 4194304
  fst : ∀ h : 0 < ss.length, ss[0].inn.length = tk
  want : (W.length : Int) + (ss.length : Int) - 1 = (p : Int)
  mul : wrap64 (fan * (ss.length : Int)) = (qq : Int)
  mul2 : wrap64 (fan * ((ss.length : Int) - 1)) = (q2 : Int)
  rest : (p : Int) - (q2 : Int) = (tk : Int)
  tk2 : tk ≤ 64
theorem full_nums {W : List Int} {fan : Int} {ss : List Stp} (hE : givE W fan = 0) (h2 : 2 ≤ W.length) (hl : W.length ≤ 2048) (hs : ss = mkAll W fan.toNat) : ∃ p qq q2 tk : Nat, FullN W fan ss p qq q2 tk := by
  obtain ⟨f, r, q, hf, f2, f64, n1, r1, l1, l2, P, each⟩ := mk_nums hE h2
  have efn : fan.toNat = f := by omega
  rw [efn] at hs
  subst hs
  have PL := P.len
  have FL := flat_le P (mkAll W f).length (Nat.le_refl _)
  rw [List.take_length] at FL
  have hq : f * (mkAll W f).length ≤ 64 * 65536 := Nat.mul_le_mul f64 (by have := P.few; omega)
  have hmul : f * (mkAll W f).length = (f - 1) * q + q + f := by
    rw [l1, Nat.mul_succ]
    obtain ⟨f', rfl⟩ : ∃ f', f = f' + 1 := ⟨f - 1, by omega⟩
    rw [Nat.add_sub_cancel, Nat.succ_mul]
  have hmul2 : f * ((mkAll W f).length - 1) = (f - 1) * q + q := by
    rw [l1, Nat.add_sub_cancel]
    obtain ⟨f', rfl⟩ : ∃ f', f = f' + 1 := ⟨f - 1, by omega⟩
    rw [Nat.add_sub_cancel, Nat.succ_mul]
  have hfew := P.few
  have hsome := P.some
  refine ⟨_, _, f * ((mkAll W f).length - 1), 2 + r, by rw [efn]; exact P, rfl, rfl, P.some, by omega, by omega, by rw [efn]; exact FL, by rw [efn]; omega, by omega, fun h => by have := each 0 h; rw [if_pos rfl] at this; exact this, by omega, ?_, ?_, by omega, by omega⟩
  · rw [efn, hf, ← Int.natCast_mul]
    unfold wrap64; omega
  · have : ((mkAll W f).length : Int) - 1 = (((mkAll W f).length - 1 : Nat) : Int) := by omega
    rw [hf, this, ← Int.natCast_mul]
    unfold wrap64; omega
theorem StAt.first {w : World} {v : Value} {ss : List Stp} {tk : Nat} (h : StAt w v ss) (h0 : 0 < ss.length) (ht : ss[0].inn.length = tk) : ∃ (b off c : Nat) (xa : Option Addr) (xc : Nat), v = .slice (some ⟨b, off, none⟩) ss.length c ∧ b < w.heap.size ∧ w.cell? ⟨b, off, none⟩ = some (.slice xa tk xc) := by
  obtain ⟨b, off, c, fv, ev, _, hb, hg⟩ := h.get (by rintro rfl; simp at h0)
  obtain ⟨g1, _, g3⟩ := hg 0 h0
  obtain ⟨xa, xc, hx, _, _⟩ := g3.form
  rw [hx, ht, Nat.zero_mul, Nat.add_zero] at g1
  exact ⟨b, off, c, xa, xc, ev, hb, g1⟩
set_option maxHeartbeats 8000000 in
theorem full_law {w : World} {v : Value} {W : List Int} {fan : Int} (hv : SlI w v W) : Calls Try.prog 6 #[v, .int .i64 fan] w (RetTrue w) := by
  have HV := Lib.hid hv
  have GV := Lib.hid (given_ok (fan := fan) hv)
  have MK := Lib.hid (make_any (fan := fan) hv)
  obtain ⟨a, c, rfl, hc, hc2⟩ := hv.form
  clear hv
  by_cases hE : givE W fan = 0
  · by_cases hl : 2048 < W.length
    · have t1 : decide (2048 < (W.length : Int)) = true := decide_eq_true (by omega)
      rw [hE] at GV
      go_enter Try.func6, Try.ntmps6
      go_wp2_with (go_at_call 24; refine GV.out.mono ?_; rintro e w' ⟨rfl, rfl⟩)
      go_ret
      exact ⟨rfl, Below.refl _ _⟩
    · have t1 : decide (2048 < (W.length : Int)) = false := decide_eq_false (by omega)
      by_cases h2 : W.length < 2
      · have t2 : decide ((W.length : Int) < 2) = true := decide_eq_true (by omega)
        rw [hE] at GV
        go_enter Try.func6, Try.ntmps6
        go_wp2_with (go_at_call 24; refine GV.out.mono ?_; rintro e w' ⟨rfl, rfl⟩)
        go_ret
        exact ⟨rfl, Below.refl _ _⟩
      · have t2 : decide ((W.length : Int) < 2) = false := decide_eq_false (by omega)
        have HL := Lib.hid (show W.length ≤ 2048 by omega)
        have HL2 := Lib.hid (show 2 ≤ W.length by omega)
        have HE := Lib.hid hE
        rw [hE] at GV
        clear hl h2 hE
        go_enter Try.func6, Try.ntmps6
        go_upto_region 4 with (go_at_call 24; refine GV.out.mono ?_; rintro e w' ⟨rfl, rfl⟩)
        go_wp2_with fail
        refine MK.out.mono ?_
        rintro e w1 ⟨l, ss, rfl, st1, hs1, k1⟩
        rw [if_pos HE.out] at hs1
        have ST1 := Lib.hid st1
        have HS1 := Lib.hid hs1
        have K1 := Lib.hid k1
        have LO := Lib.hid (load_ok (fan := fan) (HV.out.below k1) st1)
        rw [HE.out]
        clear st1 hs1 k1
        go_wp2_with fail
        refine LO.out.mono ?_
        rintro e w2 ⟨x, E, rfl, hE, hx, k2⟩
        obtain ⟨p, qq, q2, tk, N⟩ := full_nums HE.out HL2.out HL.out HS1.out
        have hE0 : E = 0 := by
          rcases hE with ⟨z, _⟩ | ⟨_, _, z⟩ | ⟨_, z, _⟩
          · exact absurd HE.out z
          · exact z
          · exact absurd N.plan z
        subst hE0
        rw [if_pos rfl, N.len, N.all] at hx
        have NN := Lib.hid N
        obtain ⟨b, off, c', xa, xc, ev, hb, g1⟩ := (ST1.out.below k2).first N.pos (N.fst N.pos)
        have o1 := Lib.hid (order_one (quo_le_one N.p1 N.pq (by have := N.q1; omega)))
        have os := Lib.hid (quo_self (p := p) (q := qq) (by have := N.q1; have := N.pq; omega) (by have := N.p1; have := N.pq; omega) (by have := N.q1; omega))
        have rq := Lib.hid (fun w : World => run_quo (p := p) (q := qq) (by have := N.q1; have := N.pq; omega) (by have := N.p1; have := N.pq; omega) (by have := N.q1; omega) 30 w)
        have hw1 := N.want
        have hm := N.mul
        have hm2 := N.mul2
        have hz := N.rest
        have z1 := N.tk2
        have z2 := N.few
        have z3 := N.q3
        have z4 : p ≤ 4194304 := Nat.le_trans N.pq N.q1
        have s0 : (0 : Int) < (ss.length : Int) := by have := N.pos; omega
        have K2 := Lib.hid (K1.out.trans (k2.mono K1.out.size))
        have NU := Lib.hid (fun W : World => num_ok 0 (by omega) (by omega) W)
        subst hx ev
        clear hE N LO MK k2 ST1 HS1
        have rq := rq.out
        go_upto_region 8 with (go_at_call 23; refine (NU.out _).mono ?_; rintro e w' ⟨rfl, rfl⟩)
        have of1 : FloatKind.f64.format.order (quoB p qq) (quoB p qq) = some .eq := os.out
        have ee : decide ((tk : Int) = (tk : Int)) = true := decide_eq_true rfl
        have ef : ((tk : Int) == (tk : Int)) = true := beq_self_eq_true _
        rcases o1.out with ol | ol
        · have ol : FloatKind.f64.format.order (quoB p qq) 4607182418800017408 = some .lt := ol
          clear o1 os
          go_wp2_with fail
          go_ret
          exact ⟨rfl, K2.out⟩
        · have ol : FloatKind.f64.format.order (quoB p qq) 4607182418800017408 = some .eq := ol
          clear o1 os
          go_wp2_with fail
          go_ret
          exact ⟨rfl, K2.out⟩
  · generalize givE W fan = E at *
    have t1 : decide (E = 0) = false := decide_eq_false hE
    have t2 : (E == 0) = false := by simpa using hE
    have t3 : (E != 0) = true := by simpa using hE
    clear hE
    go_enter Try.func6, Try.ntmps6
    go_wp2_with (go_at_call 24; refine GV.out.mono ?_; rintro e w' ⟨rfl, rfl⟩)
    go_ret
    exact ⟨rfl, Below.refl _ _⟩
end Go.Proofs.Ythajgfldjjgkiaa
