/- The document's Cost, Depth, Load. -/
import Derived.Test.YthajgfldjjgkiaaRu
import Derived.Test.YthajgfldjjgkiaaLd
namespace Go.Proofs.Ythajgfldjjgkiaa
open Go.RowKit
set_option maxRecDepth 100000

def kw (W : List Int) (ss : List Stp) : Nat → Int := fun i => (cntF W.length ss i ss.length : Int) * W.getD i 0
def RkR (w : World) (W : List Int) (ss : List Stp) (v9 v10 : Value) (wr : World) : Prop := ∃ i : Nat, v10 = .int .i64 (i : Int) ∧ v9 = .int .i64 (sumZ (kw W ss) i) ∧ i ≤ W.length ∧ wr = w
def RefX (w : World) (W : List Int) (fan : Int) (ss : List Stp) (z : Int) (e : Ending) (w' : World) : Prop := ∃ x E : Int, e = .returned (.tuple #[.int .i64 x, .int .i64 E]) ∧ ChkIs W fan ss E ∧ x = (if E = 0 then z else 0) ∧ Below w.heap.size w w'
theorem kw_le {W : List Int} {ss : List Stp} (hW : Wts W) (hl : ss.length ≤ 65536) {i : Nat} (hi : i < W.length) : 0 ≤ kw W ss i ∧ kw W ss i ≤ 70368744177664 := by
  have hw := hW _ (List.getElem_mem hi)
  have e : W.getD i 0 = W[i] := by simp [hi]
  unfold kw
  rw [e]
  have c := cntF_le W.length ss i ss.length
  refine ⟨Int.mul_nonneg (by omega) hw.1, ?_⟩
  have h1 : (cntF W.length ss i ss.length : Int) * W[i] ≤ 65536 * W[i] := Int.mul_le_mul_of_nonneg_right (by omega) hw.1
  omega
theorem skw_le {W : List Int} {ss : List Stp} (hW : Wts W) (hl : ss.length ≤ 65536) : ∀ i, i ≤ W.length → 0 ≤ sumZ (kw W ss) i ∧ sumZ (kw W ss) i ≤ 70368744177664 * (i : Int)
  | 0, _ => by simp [sumZ]
  | i + 1, h => by
    have := skw_le hW hl i (by omega)
    have := kw_le (ss := ss) hW hl (show i < W.length by omega)
    rw [sumZ]
    omega
set_option maxHeartbeats 4000000 in
theorem rcost_ok {w : World} {v vs : Value} {W : List Int} {fan : Int} {ss : List Stp} (hv : SlI w v W) (hs : StAt w vs ss) :
    Calls Try.prog 20 #[v, .int .i64 fan, vs] w (RefX w W fan ss (sumZ (kw W ss) W.length)) := by
  have CK := Lib.hid (rcheck_ok (fan := fan) hv hs)
  have HV := Lib.hid hv
  have HS := Lib.hid hs
  obtain ⟨a, c, rfl, hc, hc2⟩ := hv.form
  obtain ⟨sa, sc, rfl, hsc, hsc2⟩ := hs.form
  clear hv hs
  go_enter Try.func20, Try.ntmps20
  go_wp2_with fail
  refine CK.out.mono ?_
  rintro e w1 ⟨E, rfl, hE, k1⟩
  have K1 := Lib.hid k1
  have CI := Lib.hid hE
  rcases hE.cases0 with ⟨rfl, f, hf, hg, hp⟩ | hne
  · obtain ⟨e1, e2, e3, e4, e5⟩ := givE_ok hg
    have HW := Lib.hid e5
    have hl2 := hp.few
    have hl3 : ss.length ≤ 65536 := by omega
    clear hE hp hg e5 hf
    have S1 := Lib.hid (HS.out.below K1.out)
    have V1 := Lib.hid (HV.out.below K1.out)
    obtain ⟨b, off, c', e6, _, hb, hcell⟩ := V1.out.get (by rintro rfl; simp at e3)
    injection e6 with e6 _ e7
    subst e6 e7
    have HC := Lib.hid hcell
    have ST := Lib.hid (show RkR w1 W ss (.int .i64 0) (.int .i64 0) w1 from ⟨0, rfl, rfl, Nat.zero_le _, rfl⟩)
    clear hcell k1
    go_wp2_with fail
    go_loopw [9, 10] (fun v9 v10 wr => RkR w1 W ss v9 v10 wr) (fun _ v10 _ => W.length - (intOf v10).toNat)
    case atStart => exact ST.out
    case round =>
      clear ST
      obtain ⟨i, rfl, rfl, hi, rfl⟩ := hrel
      have SB := skw_le (ss := ss) HW.out hl3 i hi
      by_cases hlt : i < W.length
      · have t1 : decide ((i : Int) < (W.length : Int)) = true := decide_eq_true (by omega)
        have t1n : decide (i < W.length) = true := decide_eq_true hlt
        have ik : (i : Int) < (W.length : Int) := by omega
        have ik0 : (0 : Int) ≤ (i : Int) := by omega
        have ck := HC.out i hlt
        have KB := kw_le (ss := ss) HW.out hl3 hlt
        have UPK := Lib.hid (up_ok (n := W.length) i S1.out e4 hl3)
        have EK := Lib.hid (show kw W ss i = (cntF W.length ss i ss.length : Int) * W[i] by unfold kw; simp [hlt])
        have NX := Lib.hid (show RkR wr W ss (.int .i64 (sumZ (kw W ss) i + kw W ss i)) (.int .i64 ((i : Int) + 1)) wr from ⟨i + 1, by congr 1, rfl, hlt, rfl⟩)
        generalize hck : cntF W.length ss i ss.length = kc at *
        clear hck
        generalize W[i] = x at *
        have hm : wrap64 ((kc : Int) * x) = kw W ss i := by
          rw [← EK.out]; unfold wrap64; omega
        have HMM := Lib.hid hm
        clear hm
        generalize sumZ (kw W ss) i = s at *
        generalize kw W ss i = z at *
        have b0 := SB.1
        have b1 : s ≤ 4611686018427387904 := by omega
        have b2 := KB.1
        have b3 := KB.2
        have ME := Lib.hid (show W.length - ((i : Int) + 1).toNat < W.length - (i : Int).toNat by omega)
        clear SB KB
        go_wp2_with fail
        refine UPK.out.mono ?_
        rintro e w2 ⟨rfl, rfl⟩
        have hm := HMM.out
        go_wp2_with fail
        go_roundw
        case rel => exact NX.out
        case measure => exact ME.out
      · have t1 : decide ((i : Int) < (W.length : Int)) = false := decide_eq_false (by omega)
        have t1n : decide (i < W.length) = false := decide_eq_false hlt
        have hie : i = W.length := by omega
        have F := Lib.hid (show RefX w W fan ss (sumZ (kw W ss) W.length) (.returned (.tuple #[.int .i64 (sumZ (kw W ss) i), .int .i64 0])) wr from ⟨_, 0, rfl, CI.out, by rw [if_pos rfl, hie], K1.out⟩)
        clear hie
        go_wp2_with fail
        go_ret2
        exact F.out
  · have F := Lib.hid (show RefX w W fan ss (sumZ (kw W ss) W.length) (.returned (.tuple #[.int .i64 0, .int .i64 E])) w1 from ⟨0, E, rfl, CI.out, by rw [if_neg hne], K1.out⟩)
    have t1 : decide (E = 0) = false := decide_eq_false hne
    have t2 : (E == 0) = false := by simpa using hne
    have t3 : (E != 0) = true := by simpa using hne
    clear hne hE k1
    go_wp2_with fail
    go_ret2
    exact F.out
def RdR (w : World) (W : List Int) (ss : List Stp) (v9 v10 : Value) (wr : World) : Prop := ∃ i : Nat, v10 = .int .i64 (i : Int) ∧ v9 = .int .i64 (mxN (fun j => cntF W.length ss j ss.length) i : Int) ∧ i ≤ W.length ∧ wr = w
set_option maxHeartbeats 4000000 in
theorem rdepth_ok {w : World} {v vs : Value} {W : List Int} {fan : Int} {ss : List Stp} (hv : SlI w v W) (hs : StAt w vs ss) :
    Calls Try.prog 21 #[v, .int .i64 fan, vs] w (RefX w W fan ss (mxN (fun i => cntF W.length ss i ss.length) W.length : Int)) := by
  have CK := Lib.hid (rcheck_ok (fan := fan) hv hs)
  have HS := Lib.hid hs
  obtain ⟨a, c, rfl, hc, hc2⟩ := hv.form
  obtain ⟨sa, sc, rfl, hsc, hsc2⟩ := hs.form
  clear hv hs
  go_enter Try.func21, Try.ntmps21
  go_wp2_with fail
  refine CK.out.mono ?_
  rintro e w1 ⟨E, rfl, hE, k1⟩
  have K1 := Lib.hid k1
  have CI := Lib.hid hE
  rcases hE.cases0 with ⟨rfl, f, hf, hg, hp⟩ | hne
  · obtain ⟨e1, e2, e3, e4, e5⟩ := givE_ok hg
    have hl2 := hp.few
    have hl3 : ss.length ≤ 65536 := by omega
    clear hE hp hg e5 hf
    have S1 := Lib.hid (HS.out.below K1.out)
    have ST := Lib.hid (show RdR w1 W ss (.int .i64 0) (.int .i64 0) w1 from ⟨0, rfl, rfl, Nat.zero_le _, rfl⟩)
    clear k1
    go_wp2_with fail
    go_loopw [9, 10] (fun v9 v10 wr => RdR w1 W ss v9 v10 wr) (fun _ v10 _ => W.length - (intOf v10).toNat)
    case atStart => exact ST.out
    case round =>
      clear ST
      obtain ⟨i, rfl, rfl, hi, rfl⟩ := hrel
      by_cases hlt : i < W.length
      · have t1 : decide ((i : Int) < (W.length : Int)) = true := decide_eq_true (by omega)
        have t1n : decide (i < W.length) = true := decide_eq_true hlt
        have ik : (i : Int) < (W.length : Int) := by omega
        have ik0 : (0 : Int) ≤ (i : Int) := by omega
        have UPK := Lib.hid (up_ok (n := W.length) i S1.out e4 hl3)
        have NX := Lib.hid (fun (d : Nat) (h : d = max (mxN (fun j => cntF W.length ss j ss.length) i) (cntF W.length ss i ss.length)) => show RdR wr W ss (.int .i64 (d : Int)) (.int .i64 ((i : Int) + 1)) wr from ⟨i + 1, by congr 1, by rw [h]; rfl, hlt, rfl⟩)
        generalize cntF W.length ss i ss.length = kc at *
        generalize mxN (fun j => cntF W.length ss j ss.length) i = d at *
        have ME := Lib.hid (show W.length - ((i : Int) + 1).toNat < W.length - (i : Int).toNat by omega)
        by_cases hd : d < kc
        · have u1 : decide ((d : Int) < (kc : Int)) = true := decide_eq_true (by omega)
          have u1n : decide (d < kc) = true := decide_eq_true hd
          have N2 := Lib.hid (NX.out kc (by omega))
          clear NX hd
          go_wp2_with fail
          refine UPK.out.mono ?_
          rintro e w2 ⟨rfl, rfl⟩
          go_wp2_with fail
          go_roundw
          case rel => exact N2.out
          case measure => exact ME.out
        · have u1 : decide ((d : Int) < (kc : Int)) = false := decide_eq_false (by omega)
          have u1n : decide (d < kc) = false := decide_eq_false hd
          have N2 := Lib.hid (NX.out d (by omega))
          clear NX hd
          go_wp2_with fail
          refine UPK.out.mono ?_
          rintro e w2 ⟨rfl, rfl⟩
          go_wp2_with fail
          go_roundw
          case rel => exact N2.out
          case measure => exact ME.out
      · have t1 : decide ((i : Int) < (W.length : Int)) = false := decide_eq_false (by omega)
        have t1n : decide (i < W.length) = false := decide_eq_false hlt
        have hie : i = W.length := by omega
        have F := Lib.hid (show RefX w W fan ss (mxN (fun i => cntF W.length ss i ss.length) W.length : Int) (.returned (.tuple #[.int .i64 (mxN (fun j => cntF W.length ss j ss.length) i : Int), .int .i64 0])) wr from ⟨_, 0, rfl, CI.out, by rw [if_pos rfl, hie], K1.out⟩)
        clear hie
        go_wp2_with fail
        go_ret2
        exact F.out
  · have F := Lib.hid (show RefX w W fan ss (mxN (fun i => cntF W.length ss i ss.length) W.length : Int) (.returned (.tuple #[.int .i64 0, .int .i64 E])) w1 from ⟨0, E, rfl, CI.out, by rw [if_neg hne], K1.out⟩)
    have t1 : decide (E = 0) = false := decide_eq_false hne
    have t2 : (E == 0) = false := by simpa using hne
    have t3 : (E != 0) = true := by simpa using hne
    clear hne hE k1
    go_wp2_with fail
    go_ret2
    exact F.out
def RlR (w : World) (ss : List Stp) (v10 v11 : Value) (wr : World) : Prop := ∃ k : Nat, v11 = .int .i64 (k : Int) ∧ v10 = .int .i64 ((flat (ss.take k)).length : Int) ∧ k ≤ ss.length ∧ wr = w
def RefL (w : World) (W : List Int) (fan : Int) (ss : List Stp) (e : Ending) (w' : World) : Prop := ∃ (p q : Nat) (E : Int), e = .returned (.tuple #[.int .i64 (p : Int), .int .i64 (q : Int), .int .i64 E]) ∧ ChkIs W fan ss E ∧ p = (if E = 0 then (flat ss).length else 0) ∧ q = (if E = 0 then fan.toNat * ss.length else 1) ∧ p ≤ 4194304 ∧ 0 < q ∧ q ≤ 4194304 ∧ Below w.heap.size w w'
set_option maxHeartbeats 4000000 in
theorem rload_ok {w : World} {v vs : Value} {W : List Int} {fan : Int} {ss : List Stp} (hv : SlI w v W) (hs : StAt w vs ss) :
    Calls Try.prog 22 #[v, .int .i64 fan, vs] w (RefL w W fan ss) := by
  have CK := Lib.hid (rcheck_ok (fan := fan) hv hs)
  have HS := Lib.hid hs
  obtain ⟨a, c, rfl, hc, hc2⟩ := hv.form
  obtain ⟨sa, sc, rfl, hsc, hsc2⟩ := hs.form
  clear hv hs
  go_enter Try.func22, Try.ntmps22
  go_wp2_with fail
  refine CK.out.mono ?_
  rintro e w1 ⟨E, rfl, hE, k1⟩
  have K1 := Lib.hid k1
  have CI := Lib.hid hE
  rcases hE.cases0 with ⟨rfl, f, hf, hg, hp⟩ | hne
  · have P := Lib.hid hp
    obtain ⟨e1, e2, e3, e4, e5⟩ := givE_ok hg
    have hl1 := hp.some
    have hl2 := hp.few
    have hl3 : ss.length ≤ 65536 := by omega
    have HF := Lib.hid hf
    clear hE hp hg e5 k1 hf
    have S1 := Lib.hid (HS.out.below K1.out)
    have ST := Lib.hid (show RlR w1 ss (.int .i64 0) (.int .i64 0) w1 from ⟨0, rfl, rfl, Nat.zero_le _, rfl⟩)
    go_wp2_with fail
    go_loopw [10, 11] (fun v10 v11 wr => RlR w1 ss v10 v11 wr) (fun _ v11 _ => ss.length - (intOf v11).toNat)
    case atStart => exact ST.out
    case round =>
      clear ST
      obtain ⟨k, rfl, rfl, hk, rfl⟩ := hrel
      have hfl := flat_le P.out k hk
      have hfb : (flat (ss.take k)).length ≤ 4194304 := by
        have : f * k ≤ 64 * 65536 := Nat.mul_le_mul (by have := HF.out; omega) (by omega)
        omega
      by_cases hlt : k < ss.length
      · have t1 : decide ((k : Int) < (ss.length : Int)) = true := decide_eq_true (by omega)
        have t1n : decide (k < ss.length) = true := decide_eq_true hlt
        have ik : (k : Int) < (ss.length : Int) := by omega
        have ik0 : (0 : Int) ≤ (k : Int) := by omega
        obtain ⟨b1, o1, c1, f1, e1', _, l1, g1⟩ := S1.out.get (by rintro rfl; exact absurd hlt (Nat.not_lt_zero _))
        injection e1' with e1' _ e3'
        subst e1' e3'
        obtain ⟨q1, q2, q3⟩ := g1 k hlt
        obtain ⟨xa, xc, hx, xc1, xc2⟩ := q3.form
        rw [hx] at q1
        have PE := Lib.hid (P.out.each k hlt).hi
        have LEN := Lib.hid (show (flat (ss.take (k + 1))).length = (flat (ss.take k)).length + ss[k].inn.length by rw [flat_take hlt, List.length_append])
        have x64 : (ss[k].inn.length : Int) ≤ 64 := by have := PE.out; have := HF.out; omega
        clear g1 hx q2 q3 PE hfl
        generalize ss[k].inn.length = xl at *
        generalize (flat (ss.take k)).length = tk at *
        have NX := Lib.hid (show RlR wr ss (.int .i64 ((tk : Int) + (xl : Int))) (.int .i64 ((k : Int) + 1)) wr from ⟨k + 1, by congr 1, by rw [LEN.out]; congr 1, hlt, rfl⟩)
        go_wp2_with fail
        go_roundw
        case rel => exact NX.out
        case measure => simp [intOf]; omega
      · have t1 : decide ((k : Int) < (ss.length : Int)) = false := decide_eq_false (by omega)
        have t1n : decide (k < ss.length) = false := decide_eq_false hlt
        have hke : k = ss.length := by omega
        have hfl2 : f * ss.length ≤ 64 * 65536 := Nat.mul_le_mul (by have := HF.out; omega) (by omega)
        have hf1 : 0 < f := by have := HF.out; omega
        have hpos : 0 < f * ss.length := Nat.mul_pos hf1 hl1
        have F := Lib.hid (show RefL w W fan ss (.returned (.tuple #[.int .i64 ((flat (ss.take k)).length : Int), .int .i64 ((f * ss.length : Nat) : Int), .int .i64 0])) wr from ⟨_, f * ss.length, 0, rfl, CI.out, by rw [if_pos rfl, hke, List.take_length], by
          rw [if_pos rfl]
          congr 1
          have := HF.out; omega, hfb, hpos, hfl2, K1.out⟩)
        have hm : wrap64 (fan * (ss.length : Int)) = ((f * ss.length : Nat) : Int) := by
          rw [HF.out, ← Int.natCast_mul]
          unfold wrap64; omega
        generalize (flat (ss.take k)).length = tk at *
        generalize f * ss.length = M at *
        clear hke hfl hfb hfl2 hpos
        go_wp2_with fail
        refine bodyPost_ret (v := .tuple #[.int .i64 (tk : Int), .int .i64 (M : Int), .int .i64 0]) (by simp [results, Try.results22, go_sem, hm]) rfl F.out
  · have F := Lib.hid (show RefL w W fan ss (.returned (.tuple #[.int .i64 0, .int .i64 1, .int .i64 E])) w1 from ⟨0, 1, E, rfl, CI.out, by rw [if_neg hne], by rw [if_neg hne], by omega, by omega, by omega, K1.out⟩)
    have t1 : decide (E = 0) = false := decide_eq_false hne
    have t2 : (E == 0) = false := by simpa using hne
    have t3 : (E != 0) = true := by simpa using hne
    clear hne hE k1
    go_wp2_with fail
    refine bodyPost_ret (v := .tuple #[.int .i64 0, .int .i64 1, .int .i64 E]) (by simp [results, Try.results22, go_sem]) rfl F.out
end Go.Proofs.Ythajgfldjjgkiaa
