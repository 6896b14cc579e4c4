/- PlanOwn but for the last call, whose contract is asked. -/
import Derived.Test.YthajgfldjjgkiaaTx
import Derived.Test.YthajgfldjjgkiaaLm
import Derived.Test.YthajgfldjjgkiaaGn
import Derived.Test.YthajgfldjjgkiaaGr
import Derived.Test.YthajgfldjjgkiaaMp
namespace Go.Proofs.Ythajgfldjjgkiaa
open Go.RowKit
set_option maxRecDepth 100000

structure Six (w : World) (vs : Nat → Value) (ss : Nat → List Stp) (G : Nat → Nat) (H : Nat → Nat → Nat) (lo : Nat → Nat) : Prop where
  each : ∀ i, i < 6 → StOwn w (lo i) (vs i) (ss i) (G i) (H i)
  top : ∀ i, i < 6 → G i < lo (i + 1) ∧ ∀ s, s < (ss i).length → H i s < lo (i + 1)
  up : ∀ i, i < 6 → lo i ≤ lo (i + 1)
  some : ∀ i, i < 6 → (ss i).length ≤ 300 ∧ ∀ s, s < (ss i).length → 1 ≤ ((ss i).getD s ⟨[], 0⟩).inn.length ∧ ((ss i).getD s ⟨[], 0⟩).inn.length ≤ 64
def Apart : Prop := ∀ (w : World) (g : Nat) (vs : Nat → Value) (ss : Nat → List Stp) (G : Nat → Nat) (H : Nat → Nat → Nat) (lo : Nat → Nat), Six w vs ss G H lo → lo 6 ≤ g → BlkAt w g 23 [vs 0, vs 1, vs 2, vs 3, vs 4, vs 5] → Calls Try.prog 27 #[.slice (some ⟨g, 0, none⟩) 6 6] w (fun e w' => e = .returned (.bool true) ∧ Below (lo 0) w w')
def f6 {α : Type} (a b c d e f : α) : Nat → α
  | 0 => a
  | 1 => b
  | 2 => c
  | 3 => d
  | 4 => e
  | _ => f
def f7 {α : Type} (a b c d e f g : α) : Nat → α
  | 0 => a
  | 1 => b
  | 2 => c
  | 3 => d
  | 4 => e
  | 5 => f
  | _ => g
theorem six_of {w : World} {va vb vc vd vx vy : Value} {sa sb sc sd sx sy : List Stp} {Ga Gb Gc Gd Gx Gy : Nat} {Ha Hb Hc Hd Hx Hy : Nat → Nat} {l0 l1 l2 l3 l4 l5 l6 : Nat}
    (a : StOwn w l0 va sa Ga Ha) (b : StOwn w l1 vb sb Gb Hb) (c : StOwn w l2 vc sc Gc Hc) (d : StOwn w l3 vd sd Gd Hd) (x : StOwn w l4 vx sx Gx Hx) (y : StOwn w l5 vy sy Gy Hy)
    (ta : Ga < l1 ∧ ∀ s, s < sa.length → Ha s < l1) (tb : Gb < l2 ∧ ∀ s, s < sb.length → Hb s < l2) (tc : Gc < l3 ∧ ∀ s, s < sc.length → Hc s < l3) (td : Gd < l4 ∧ ∀ s, s < sd.length → Hd s < l4) (tx : Gx < l5 ∧ ∀ s, s < sx.length → Hx s < l5) (ty : Gy < l6 ∧ ∀ s, s < sy.length → Hy s < l6)
    (u0 : l0 ≤ l1) (u1 : l1 ≤ l2) (u2 : l2 ≤ l3) (u3 : l3 ≤ l4) (u4 : l4 ≤ l5) (u5 : l5 ≤ l6)
    (q : ∀ i, i < 6 → (f6 sa sb sc sd sx sy i).length ≤ 300 ∧ ∀ s, s < (f6 sa sb sc sd sx sy i).length → 1 ≤ ((f6 sa sb sc sd sx sy i).getD s ⟨[], 0⟩).inn.length ∧ ((f6 sa sb sc sd sx sy i).getD s ⟨[], 0⟩).inn.length ≤ 64) :
    Six w (f6 va vb vc vd vx vy) (f6 sa sb sc sd sx sy) (f6 Ga Gb Gc Gd Gx Gy) (f6 Ha Hb Hc Hd Hx Hy) (f7 l0 l1 l2 l3 l4 l5 l6) := by
  refine ⟨fun i hi => ?_, fun i hi => ?_, fun i hi => ?_, q⟩
  · match i, hi with
    | 0, _ => exact a
    | 1, _ => exact b
    | 2, _ => exact c
    | 3, _ => exact d
    | 4, _ => exact x
    | 5, _ => exact y
  · match i, hi with
    | 0, _ => exact ta
    | 1, _ => exact tb
    | 2, _ => exact tc
    | 3, _ => exact td
    | 4, _ => exact tx
    | 5, _ => exact ty
  · match i, hi with
    | 0, _ => exact u0
    | 1, _ => exact u1
    | 2, _ => exact u2
    | 3, _ => exact u3
    | 4, _ => exact u4
    | 5, _ => exact u5
theorem StOwn.top {w : World} {B : Nat} {v : Value} {ss : List Stp} {g : Nat} {gi : Nat → Nat} (h : StOwn w B v ss g gi) {l : Nat} (hl : w.heap.size ≤ l) : g < l ∧ ∀ s, s < ss.length → gi s < l := ⟨Nat.lt_of_lt_of_le h.row.lt hl, fun s hs => Nat.lt_of_lt_of_le (h.each s hs).1.lt hl⟩
def TuR (w : World) (W : List Int) (g n cap : Nat) (v18 : Value) (wr : World) : Prop := ∃ (k : Nat) (M : List Int), v18 = .int .i64 (k : Int) ∧ k ≤ n / 2 ∧ M.length = n ∧ (∀ x ∈ M, x ∈ W) ∧ OwnI wr (.slice (some ⟨g, 0, none⟩) n cap) M ∧ Kp w wr (fun b => b = g)
theorem give_sub {W M : List Int} {fan : Int} (hE : givE W fan = 0) (hl : M.length = W.length) (hs : ∀ x ∈ M, x ∈ W) : givE M fan = 0 := by
  obtain ⟨e1, e2, e3, e4, hW⟩ := givE_ok hE
  have hb : badB M = false := by
    unfold badB
    rw [List.any_eq_false]
    intro x hx
    have := hW x (hs x hx)
    unfold bad
    simp
    omega
  unfold givE
  rw [if_neg (by omega), if_neg (by rw [hb]; rintro (h | h | h) <;> first | omega | cases h)]
theorem give_three {fan : Int} (h1 : 2 ≤ fan) (h2 : fan ≤ 64) : givE [3, 1, 2] fan = 0 := by
  unfold givE
  rw [if_neg (by omega), if_neg (by simp [badB, bad])]
theorem mk_some {W : List Int} {fan : Int} (hE : givE W fan = 0) (hl : W.length ≤ 300) : (mkAll W fan.toNat).length ≤ 300 ∧ 0 < (mkAll W fan.toNat).length ∧ ∀ s, s < (mkAll W fan.toNat).length → 1 ≤ ((mkAll W fan.toNat).getD s ⟨[], 0⟩).inn.length ∧ ((mkAll W fan.toNat).getD s ⟨[], 0⟩).inn.length ≤ 64 := by
  have p := mk_plan hE
  obtain ⟨e1, e2, e3, _⟩ := givE_ok hE
  refine ⟨by have := p.few; omega, p.some, fun s hs => ?_⟩
  have := p.each s hs
  have e : (mkAll W fan.toNat).getD s ⟨[], 0⟩ = (mkAll W fan.toNat)[s] := by simp [hs]
  rw [e]
  have h1 := this.lo
  have h2 := this.hi
  omega
theorem swap_mem {W M : List Int} {k m : Nat} (hk : k < M.length) (hm : m < M.length) (h : ∀ x ∈ M, x ∈ W) : ∀ x ∈ (M.set k M[m]).set m M[k], x ∈ W := fun x hx => by
  rcases List.mem_or_eq_of_mem_set hx with h1 | h1
  · rcases List.mem_or_eq_of_mem_set h1 with h2 | h2
    · exact h x h2
    · rw [h2]; exact h _ (List.getElem_mem hm)
  · rw [h1]; exact h _ (List.getElem_mem hk)
theorem bT {a b c : World} (h : Below a.heap.size a b) (k : Below b.heap.size b c) : Below a.heap.size a c := h.trans (k.mono h.size)
set_option maxHeartbeats 32000000 in
theorem own_law (ap : Apart) {w : World} {v : Value} {W : List Int} {fan : Int} (hv : SlI w v W) : Calls Try.prog 8 #[v, .int .i64 fan] w (RetTrue w) := by
  have HV := Lib.hid hv
  have GV := Lib.hid (given_ok (fan := fan) hv)
  by_cases hE : givE W fan = 0
  · by_cases hl : 300 < W.length
    · obtain ⟨a, c, rfl, hc, hc2⟩ := hv.form
      clear hv
      have t1 : decide (300 < (W.length : Int)) = true := decide_eq_true (by omega)
      rw [hE] at GV
      go_enter Try.func8, Try.ntmps8
      go_wp2_with (go_at_call 24; refine GV.out.mono ?_; rintro e w' ⟨rfl, rfl⟩)
      go_ret
      exact ⟨rfl, Below.refl _ _⟩
    · have t1 : decide (300 < (W.length : Int)) = false := decide_eq_false (by omega)
      have hl2 : W.length ≤ 300 := by omega
      have HE := Lib.hid hE
      obtain ⟨e1, e2, e3, e4, hW⟩ := givE_ok hE
      obtain ⟨f, hf⟩ : ∃ f : Nat, fan = (f : Int) := ⟨fan.toNat, by omega⟩
      subst hf
      obtain ⟨b, off, c, rfl, hc, lb, hcell⟩ := hv.get (by rintro rfl; simp at e3)
      have HC := Lib.hid hcell
      have MS := Lib.hid (fun (M : List Int) (h : givE M (f : Int) = 0) (hm : M.length ≤ 300) => mk_some h hm)
      simp only [Int.toNat_natCast] at MS
      rw [hE] at GV
      have NU := Lib.hid (fun W : World => num_ok 0 (by omega) (by omega) W)
      clear hl hE hW hv hcell
      go_enter Try.func8, Try.ntmps8
      go_upto_region 4 with (go_at_call 24; refine GV.out.mono ?_; rintro e w' ⟨rfl, rfl⟩)
      go_upto_region 5 with (at_builtin; refine wp_apI rfl _ _ rfl (.slice none 0 0) [] rfl (OwnI.nil w) ⟨b, off, none⟩ W.length c W rfl rfl (by omega) (fun j hj => by rw [add_plain]; exact HC.out j hj) (by simp; omega) ?_; intro ga cap w1 h1a h2a h3a)
      have OWN1 := Lib.hid (show OwnI w1 (.slice (some ⟨ga, 0, none⟩) W.length cap) W from by simpa using h1a)
      have K1 := Lib.hid (show Below w.heap.size w w1 from h2a.below (Nat.le_refl _) (fun x e => by cases e))
      have GA := Lib.hid (show w.heap.size ≤ ga ∧ ga < w1.heap.size from ⟨by rcases h3a with e | e; cases e; omega, OWN1.out.lt'⟩)
      have M1 := Lib.hid (make_ok (fan := f) OWN1.out.sl HE.out)
      clear h1a h2a h3a HC
      go_wp2_with fail
      obtain ⟨S, hS⟩ : ∃ S, S = mkAll W f := ⟨_, rfl⟩
      have HS := Lib.hid hS
      rw [← hS] at M1
      obtain ⟨s1, s2, s3⟩ := MS.out W HE.out hl2
      rw [← hS] at s1 s2 s3
      have SI := Lib.hid (show ∀ i (h : i < S.length), S[i].inn.length ≤ 1000000 from fun i h => by
        have := (s3 i h).2
        have e : S.getD i ⟨[], 0⟩ = S[i] := by simp [h]
        rw [e] at this
        omega)
      have SM := Lib.hid (show ∀ s ∈ S, s.inn.length ≤ 17592186044416 from fun s hs => by
        obtain ⟨i, hi, rfl⟩ := List.mem_iff_getElem.1 hs
        have := SI.out i hi
        omega)
      have S3 := Lib.hid s3
      clear hS s3
      refine M1.out.mono ?_
      rintro e w2 ⟨va, Ga, Ha, rfl, oa, k2⟩
      have hva := oa.val
      subst hva
      have A2 := Lib.hid oa
      have K2 := Lib.hid k2
      have OWN2 := Lib.hid (OWN1.out.below k2)
      have M2 := Lib.hid (make_ok (fan := f) OWN2.out.sl HE.out)
      rw [← HS.out] at M2
      clear oa k2 M1
      go_wp2_with fail
      refine M2.out.mono ?_
      rintro e w3 ⟨vb, Gb, Hb, rfl, ob, k3⟩
      have hvb := ob.val
      subst hvb
      have B3 := Lib.hid ob
      have K3 := Lib.hid k3
      have OWN3 := Lib.hid (OWN2.out.below k3)
      have KA3 := Lib.hid (below_alloc w3 (.cells #[.int .i64 3, .int .i64 1, .int .i64 2] 3))
      have SLC := Lib.hid (show SlI (w3.alloc (.cells #[.int .i64 3, .int .i64 1, .int .i64 2] 3)) (.slice (some ⟨w3.heap.size, 0, none⟩) 3 3) [3, 1, 2] from by
        have := (BlkAt.new w3 [.int .i64 3, .int .i64 1, .int .i64 2] 3).sl (n := 3) (c := 3) (by omega) (by omega) (iV [3, 1, 2]) (fun j u hu => hu)
        exact this)
      have M3 := Lib.hid (make_ok (fan := f) SLC.out (give_three e1 e2))
      obtain ⟨C, hC⟩ : ∃ C, C = mkAll [3, 1, 2] f := ⟨_, rfl⟩
      have HC3 := Lib.hid hC
      rw [← hC] at M3
      clear hC ob k3 M2
      go_wp2_with fail
      refine M3.out.mono ?_
      rintro e w4 ⟨vc, Gc, Hc, rfl, oc, k4⟩
      have hvc := oc.val
      subst hvc
      have C4 := Lib.hid oc
      have K4 := Lib.hid (show Below w3.heap.size w3 w4 from bT KA3.out k4)
      have OWN4 := Lib.hid (OWN3.out.below K4.out)
      have M4 := Lib.hid (make_ok (fan := f) OWN4.out.sl HE.out)
      rw [← HS.out] at M4
      clear oc k4 M3 SLC
      go_wp2_with fail
      refine M4.out.mono ?_
      rintro e w5 ⟨vd, Gd, Hd, rfl, od, k5⟩
      have hvd := od.val
      subst hvd
      have D5 := Lib.hid od
      have K5 := Lib.hid k5
      have K35 := Lib.hid (bT K4.out k5)
      have K25 := Lib.hid (bT K3.out K35.out)
      have T1 := Lib.hid (twin_new ((A2.out.below K25.out).st (by omega) SI.out) (by omega) SM.out)
      clear od k5 M4
      go_wp2_with fail
      refine T1.out.mono ?_
      rintro e w6 ⟨tv1, rfl, n1, k6⟩
      have N1 := Lib.hid n1
      have K6 := Lib.hid k6
      have T2 := Lib.hid (twin_new ((B3.out.below (bT K35.out k6)).st (by omega) SI.out) (by omega) SM.out)
      clear n1 k6 T1
      go_wp2_with fail
      refine T2.out.mono ?_
      rintro e w7 ⟨tv2, rfl, n2, k7⟩
      have N2 := Lib.hid n2
      have K7 := Lib.hid k7
      have T3 := Lib.hid (twin_new ((D5.out.below (bT K6.out k7)).st (by omega) SI.out) (by omega) SM.out)
      clear n2 k7 T2
      go_wp2_with fail
      refine T3.out.mono ?_
      rintro e w8 ⟨tv3, rfl, n3, k8⟩
      have N3 := Lib.hid n3
      have K8 := Lib.hid k8
      have K78 := Lib.hid (bT K7.out k8)
      have SS1 := Lib.hid (sameS_ok (N1.out.below K78.out).st (N2.out.below k8).st)
      rw [eqS_true rfl] at SS1
      clear n3 k8 T3
      have l0 : decide ((S.length : Int) = 0) = false := decide_eq_false (by omega)
      have l1 : ((S.length : Int) == 0) = false := by simp; rintro rfl; simp at s2
      have l2 : (S.length == 0) = false := by simp; rintro rfl; simp at s2
      go_wp2_with (go_at_call 23; refine (NU.out _).mono ?_; rintro e w' ⟨rfl, rfl⟩)
      refine SS1.out.mono ?_
      rintro e w9 ⟨rfl, m9, hm9⟩
      have K9 := Lib.hid (show Below w8.heap.size w8 w9 from by rw [hm9]; exact below_drewN w8 m9)
      have SS2 := Lib.hid (sameS_ok (N1.out.below (bT K78.out K9.out)).st (N3.out.below K9.out).st)
      rw [eqS_true rfl] at SS2
      clear hm9 SS1
      go_wp2_with fail
      refine SS2.out.mono ?_
      rintro e w10 ⟨rfl, m10, hm10⟩
      have K10 := Lib.hid (show Below w9.heap.size w9 w10 from by rw [hm10]; exact below_drewN w9 m10)
      clear hm10 SS2 l0 l1 l2
      have K810 := Lib.hid (bT K9.out K10.out)
      have K710 := Lib.hid (bT K8.out K810.out)
      have K610 := Lib.hid (bT K7.out K710.out)
      have K510 := Lib.hid (bT K6.out K610.out)
      have K410 := Lib.hid (bT K5.out K510.out)
      have K310 := Lib.hid (bT K4.out K410.out)
      have K210 := Lib.hid (bT K3.out K310.out)
      have OWN10 := Lib.hid (OWN2.out.below K210.out)
      obtain ⟨hh, hhe⟩ : ∃ hh, hh = W.length / 2 := ⟨_, rfl⟩
      have HH := Lib.hid hhe
      have h2 : (W.length : Int) / 2 = (hh : Int) := by omega
      have hh2 : hh ≤ 150 := by omega
      clear hhe
      have SO := Lib.hid (show TuR w10 W ga W.length cap (.int .i64 0) w10 from ⟨0, W, rfl, Nat.zero_le _, rfl, fun x hx => hx, OWN10.out, Kp.refl _ _⟩)
      go_wp2_with fail
      go_loopw [18] (fun v18 wr => TuR w10 W ga W.length cap v18 wr) (fun v18 _ => W.length - (intOf v18).toNat)
      case atStart => exact SO.out
      case round =>
        clear SO
        obtain ⟨k, M, rfl, hk, hMl, hMs, hown, hkp⟩ := hrel
        have O := Lib.hid hown
        have KP := Lib.hid hkp
        have HMS := Lib.hid hMs
        have HML := Lib.hid hMl
        clear hown hkp hMs hMl
        rw [← HH.out] at hk
        by_cases hlt : k < hh
        · have u1 : decide ((k : Int) < (hh : Int)) = true := decide_eq_true (by omega)
          have u1n : decide (k < hh) = true := decide_eq_true hlt
          obtain ⟨m, hm⟩ : ∃ m, m = W.length - 1 - k := ⟨_, rfl⟩
          have hk2 : k < W.length / 2 := by rw [← HH.out]; exact hlt
          have hkl : k < M.length := by have := HML.out; omega
          have hml : m < M.length := by have := HML.out; omega
          have hkm : ¬ k = m := by omega
          have hmk : ¬ m = k := by omega
          have e5 : (W.length : Int) - 1 - (k : Int) = (m : Int) := by omega
          have ck := O.out.cell k M[k] (List.getElem?_eq_getElem hkl)
          have cm := O.out.cell m M[m] (List.getElem?_eq_getElem hml)
          have fk := O.out.free k
          have fm := O.out.free m
          have lg := O.out.lt'
          have NM := Lib.hid (swap_mem hkl hml HMS.out)
          have NL := Lib.hid (show ((M.set k M[m]).set m M[k]).length = W.length by rw [List.length_set, List.length_set]; exact HML.out)
          have ik : (k : Int) < (W.length : Int) := by omega
          have ik0 : (0 : Int) ≤ (k : Int) := by omega
          have im : (m : Int) < (W.length : Int) := by omega
          have im0 : (0 : Int) ≤ (m : Int) := by omega
          have NO := Lib.hid (fun n => (((O.out.below (below_drewN wr n)).set k M[m]).set m M[k]))
          generalize M[k] = x at *
          generalize M[m] = y at *
          have NX := Lib.hid (fun n => show TuR w10 W ga W.length cap (.int .i64 ((k : Int) + 1)) (((wr.drewN n).setCell ⟨ga, k, none⟩ (.int .i64 y)).setCell ⟨ga, m, none⟩ (.int .i64 x)) from
            ⟨k + 1, _, by congr 1, by rw [← HH.out]; exact hlt, NL.out, NM.out, NO.out n, (KP.out.tr (Kp.of _ (below_drewN wr n))).trans ((Kp.set _ ga k _).tr (Kp.set _ ga m _)) (fun _ _ e => e) (fun z _ e => e)⟩)
          have ck' : wr.drew.cell? ⟨ga, k, none⟩ = _ := ck
          have cm' : wr.drew.cell? ⟨ga, m, none⟩ = _ := cm
          have fk' : wr.drew.frozen? ⟨ga, k, none⟩ = false := fk
          have fm' : wr.drew.frozen? ⟨ga, m, none⟩ = false := fm
          clear NO hm hk2
          go_wp2_with fail
          go_region
          all_goals
            go_wp2_with fail
            go_roundw
            case rel => exact NX.out 1
            case measure => simp [intOf]; omega
        · have u1 : decide ((k : Int) < (hh : Int)) = false := decide_eq_false (by omega)
          have u1n : decide (k < hh) = false := decide_eq_false hlt
          have HEM := Lib.hid (give_sub HE.out HML.out HMS.out)
          have hga := GA.out
          have z1 : ∀ b, w1.heap.size ≤ b → ¬ b = ga := fun b hb e => by omega
          have AR := Lib.hid ((A2.out.below K210.out).kp KP.out z1)
          have sz2 := K2.out.size
          have sz3 := K3.out.size
          have sz3a := KA3.out.size
          have sz4 := K4.out.size
          have sz5 := K5.out.size
          have sz10 := K510.out.size
          have szr := KP.out.size
          have BR := Lib.hid ((B3.out.below K310.out).kp KP.out (fun b hb => z1 b (by omega)))
          have CR := Lib.hid ((C4.out.below K410.out).kp KP.out (fun b hb => z1 b (by omega)))
          have DR := Lib.hid ((D5.out.below K510.out).kp KP.out (fun b hb => z1 b (by omega)))
          have NR := Lib.hid ((N1.out.below K610.out).kp KP.out (fun b hb => z1 b (by omega)))
          have KR := Lib.hid ((bT (bT K1.out K2.out) K210.out).trans (KP.out.below (by have := K1.out.size; omega) (fun x e => by rw [e]; exact hga.1)))
          have M5 := Lib.hid (make_ok (fan := f) O.out.sl HEM.out)
          obtain ⟨X, hX⟩ : ∃ X, X = mkAll M f := ⟨_, rfl⟩
          have HX := Lib.hid hX
          rw [← hX] at M5
          obtain ⟨x1, x2, x3⟩ := MS.out M HEM.out (by have := HML.out; omega)
          rw [← hX] at x1 x2 x3
          have XI := Lib.hid (show ∀ i (h : i < X.length), X[i].inn.length ≤ 1000000 from fun i h => by
            have := (x3 i h).2
            have e : X.getD i ⟨[], 0⟩ = X[i] := by simp [h]
            rw [e] at this
            omega)
          have X3 := Lib.hid x3
          clear hX x3 z1
          go_wp2_with fail
          refine M5.out.mono ?_
          rintro e w11 ⟨vx, Gx, Hx, rfl, ox, k11⟩
          have hvx := ox.val
          subst hvx
          have X11 := Lib.hid ox
          have K11 := Lib.hid k11
          have O11 := Lib.hid (O.out.below k11)
          clear ox k11 M5
          go_wp2_with (at_builtin; refine wp_apI rfl _ _ rfl (.slice none 0 0) [] rfl (OwnI.nil w11) ⟨ga, 0, none⟩ W.length cap M rfl HML.out.symm e3 (fun j hj => by rw [add_plain, Nat.zero_add]; exact O11.out.cell j _ (List.getElem?_eq_getElem hj)) (by simp; omega) ?_; intro gw cap2 w12 h1b h2b h3b)
          have K12 := Lib.hid (show Below w11.heap.size w11 w12 from h2b.below (Nat.le_refl _) (fun x e => by cases e))
          have OWN12 := Lib.hid (show OwnI w12 (.slice (some ⟨gw, 0, none⟩) W.length cap2) M from by simpa using h1b)
          have M6 := Lib.hid (make_ok (fan := f) OWN12.out.sl HEM.out)
          rw [← HX.out] at M6
          clear h1b h2b h3b
          refine M6.out.mono ?_
          rintro e w13 ⟨vy, Gy, Hy, rfl, oy, k13⟩
          have hvy := oy.val
          subst hvy
          have Y13 := Lib.hid oy
          have K13 := Lib.hid k13
          have O13 := Lib.hid ((O11.out.below K12.out).below k13)
          have RF := Lib.hid (ref_any (fan := (f : Int)) O13.out.sl)
          clear oy k13 M6
          go_wp2_with fail
          refine RF.out.mono ?_
          rintro e w14 ⟨vz, sz, rfl, stz, hsz, k14⟩
          rw [if_pos HEM.out, Int.toNat_natCast, ← HX.out] at hsz
          subst hsz
          rw [HEM.out]
          have Z14 := Lib.hid stz
          have K14 := Lib.hid k14
          have K134 := Lib.hid (bT K13.out k14)
          have K124 := Lib.hid (bT K12.out K134.out)
          have SA := Lib.hid (sameS_ok ((X11.out.below K124.out).st (by omega) XI.out) stz)
          rw [eqS_true rfl] at SA
          clear stz k14 RF
          go_wp2_with fail
          refine SA.out.mono ?_
          rintro e w15 ⟨rfl, m15, hm15⟩
          have K15 := Lib.hid (show Below w14.heap.size w14 w15 from by rw [hm15]; exact below_drewN w14 m15)
          have SB := Lib.hid (sameS_ok ((Y13.out.below (bT K14.out K15.out)).st (by omega) XI.out) (Z14.out.below K15.out))
          rw [eqS_true rfl] at SB
          clear hm15 SA
          go_wp2_with fail
          refine SB.out.mono ?_
          rintro e w16 ⟨rfl, m16, hm16⟩
          have K16 := Lib.hid (show Below w15.heap.size w15 w16 from by rw [hm16]; exact below_drewN w15 m16)
          have K146 := Lib.hid (bT K15.out K16.out)
          have K126 := Lib.hid (bT K124.out K146.out)
          have Kr6 := Lib.hid (bT K11.out K126.out)
          have SCm := Lib.hid (sameS_ok ((AR.out.below Kr6.out).st (by omega) SI.out) (NR.out.below Kr6.out).st)
          rw [eqS_true rfl] at SCm
          clear hm16 SB
          go_wp2_with fail
          refine SCm.out.mono ?_
          rintro e w17 ⟨rfl, m17, hm17⟩
          have K17 := Lib.hid (show Below w16.heap.size w16 w17 from by rw [hm17]; exact below_drewN w16 m17)
          clear hm17 SCm
          have Kr7 := Lib.hid (bT Kr6.out K17.out)
          have K127 := Lib.hid (bT K126.out K17.out)
          have K137 := Lib.hid (bT K134.out (bT K146.out K17.out))
          have cs3 := MS.out [3, 1, 2] (give_three e1 e2) (by simp)
          rw [← HC3.out] at cs3
          obtain ⟨vs, hvs⟩ : ∃ vs, vs = [Value.slice (some ⟨Ga, 0, none⟩) S.length S.length, .slice (some ⟨Gb, 0, none⟩) S.length S.length, .slice (some ⟨Gc, 0, none⟩) C.length C.length, .slice (some ⟨Gd, 0, none⟩) S.length S.length, .slice (some ⟨Gx, 0, none⟩) sz.length sz.length, .slice (some ⟨Gy, 0, none⟩) sz.length sz.length] := ⟨_, rfl⟩
          have KZ := Lib.hid (below_alloc w17 (.cells #[.slice (some ⟨Ga, 0, none⟩) S.length S.length, .slice (some ⟨Gb, 0, none⟩) S.length S.length, .slice (some ⟨Gc, 0, none⟩) C.length C.length, .slice (some ⟨Gd, 0, none⟩) S.length S.length, .slice (some ⟨Gx, 0, none⟩) sz.length sz.length, .slice (some ⟨Gy, 0, none⟩) sz.length sz.length] 23))
          have BZ := Lib.hid (BlkAt.new w17 [.slice (some ⟨Ga, 0, none⟩) S.length S.length, .slice (some ⟨Gb, 0, none⟩) S.length S.length, .slice (some ⟨Gc, 0, none⟩) C.length C.length, .slice (some ⟨Gd, 0, none⟩) S.length S.length, .slice (some ⟨Gx, 0, none⟩) sz.length sz.length, .slice (some ⟨Gy, 0, none⟩) sz.length sz.length] 23)
          have kr := bT Kr7.out KZ.out
          have sz11 := K11.out.size
          have sz12 := K12.out.size
          have sz13 := K13.out.size
          have sz17 := K137.out.size
          have sz1317 := (bT K14.out (bT K146.out K17.out)).size
          have SIX := six_of (l6 := w13.heap.size) (AR.out.below kr) (BR.out.below kr) (CR.out.below kr) (DR.out.below kr) (X11.out.below (bT K127.out KZ.out)) (Y13.out.below (bT (bT K14.out (bT K146.out K17.out)) KZ.out))
            (A2.out.top (Nat.le_refl _)) (B3.out.top sz3a) (C4.out.top (Nat.le_refl _)) (D5.out.top (by omega)) (X11.out.top (by omega)) (Y13.out.top (Nat.le_refl _)) sz2 (by omega) (by have := K4.out.size; have := C4.out.row.lt; have := C4.out.ge; omega) (by omega) (by omega) (by omega) (fun i hi => by
              match i, hi with
              | 0, _ => exact ⟨s1, S3.out⟩
              | 1, _ => exact ⟨s1, S3.out⟩
              | 2, _ => exact ⟨cs3.1, cs3.2.2⟩
              | 3, _ => exact ⟨s1, S3.out⟩
              | 4, _ => exact ⟨x1, X3.out⟩
              | 5, _ => exact ⟨x1, X3.out⟩)
          have AP := Lib.hid (ap _ w17.heap.size _ _ _ _ _ SIX (show w13.heap.size ≤ w17.heap.size from sz1317) BZ.out)
          have KF := Lib.hid ((KR.out.trans (Kr7.out.mono KR.out.size)).trans (KZ.out.mono (by have := (KR.out.trans (Kr7.out.mono KR.out.size)).size; omega)))
          have LO := Lib.hid (show w.heap.size ≤ w1.heap.size from K1.out.size)
          clear SIX BZ kr hvs cs3
          have b1 : (true == true) = true := rfl
          go_wp2_with (go_at_call 23; refine (NU.out _).mono ?_; rintro e w' ⟨rfl, rfl⟩)
          refine AP.out.mono ?_
          rintro e w18 ⟨rfl, k18⟩
          have K18 := Lib.hid (KF.out.trans (k18.mono LO.out))
          clear k18 AP
          go_wp2_with fail
          go_ret
          exact ⟨rfl, K18.out⟩
  · obtain ⟨a, c, rfl, hc, hc2⟩ := hv.form
    clear hv
    generalize givE W fan = E at *
    have t1 : decide (E = 0) = false := decide_eq_false hE
    have t2 : (E == 0) = false := by simpa using hE
    have t3 : (E != 0) = true := by simpa using hE
    clear hE
    go_enter Try.func8, Try.ntmps8
    go_wp2_with (go_at_call 24; refine GV.out.mono ?_; rintro e w' ⟨rfl, rfl⟩)
    go_ret
    exact ⟨rfl, Below.refl _ _⟩
end Go.Proofs.Ythajgfldjjgkiaa
