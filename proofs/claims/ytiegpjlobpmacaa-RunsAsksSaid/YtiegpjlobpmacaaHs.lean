/- The heap: how far down. -/
import Derived.Test.YtiegpjlobpmacaaHr
namespace Go.Proofs.Ytiegpjlobpmacaa
open Go.RowKit
set_option maxRecDepth 100000
theorem decide_lt {a b : Nat} (h : a < b) : decide (a < b) = true := decide_eq_true h
def SinkR (w : World) (F : Nat → It) (one : It) (n : Nat) (v : Value) (wr : World) : Prop := ∃ p, (p < n ∨ p = 0) ∧ v = .int .i64 (p : Int) ∧ sinkI F n one 0 = sinkI F n one p ∧ Below w.heap.size w wr
set_option maxHeartbeats 4000000 in
theorem sink_ok {w : World} {h g n c : Nat} {F : Nat → It} (one : It) (hl : LessAt w h) (hi : ItemsAt w g F n) (hn : n < 1099511627776) :
    Calls Try.prog 21 #[.pointer (some ⟨h, 0, none⟩), .slice (some ⟨g, 0, none⟩) n c, .agg #[.int .i64 one.key, .int .i64 one.who, .int .u64 (one.num : Int)]] w (RetBelow w (.int .i64 (sinkI F n one 0 : Int))) := by
  obtain ⟨ok, ow, on⟩ := one
  have HL := Lib.hid hl
  have HI := Lib.hid hi
  clear hl hi
  go_enter Try.func21, Try.ntmps21
  go_wp2_with fail
  have R1 := Lib.hid (CellsAt.new w [.int .i64 ok, .int .i64 ow, .int .u64 (on : Int)] 50)
  have B1 := Lib.hid ((Below.refl w.heap.size w).alloc (Nat.le_refl _) (.cells #[.int .i64 ok, .int .i64 ow, .int .u64 (on : Int)] 50))
  change Hid (CellsAt (w.alloc (.cells #[.int .i64 ok, .int .i64 ow, .int .u64 (on : Int)] 50)) _ _) at R1
  generalize w.alloc (.cells #[.int .i64 ok, .int .i64 ow, .int .u64 (on : Int)] 50) = x1 at R1 B1 ⊢
  have HB := Lib.hid (Below.refl x1.heap.size x1)
  go_loopw [7, 8] (fun v _ wr => SinkR x1 F ⟨ok, ow, on⟩ n v wr) (fun v _ _ => n - (intOf v).toNat)
  case atStart => exact ⟨0, Or.inr rfl, by go_num, rfl, HB.out⟩
  case round =>
    obtain ⟨p, hp1, rfl, hp2, hb⟩ := hrel
    have Hb := Lib.hid hb
    have L1 := Lib.hid ((HL.out.keep B1.out).keep hb)
    have I1 := Lib.hid ((HI.out.keep B1.out).keep hb)
    have Q1 := Lib.hid (R1.out.step hb)
    have HP2 := Lib.hid hp2
    clear hp2 hb
    have hpb : p < 1099511627776 := by omega
    obtain ⟨K, hK⟩ : ∃ K, K = 2 * p + 1 := ⟨_, rfl⟩
    have e1 : 2 * (p : Int) + 1 = (K : Int) := by omega
    by_cases hkn : K < n
    · have hpn : p < n := by omega
      have tk : decide ((n : Int) ≤ (K : Int)) = false := decide_eq_false (by omega)
      have tkn : decide (n ≤ K) = false := decide_eq_false (by omega)
      have lg := I1.out.lt
      have q0 := Q1.out.cell 0 _ rfl
      have q1 := Q1.out.cell 1 _ rfl
      have q2 := Q1.out.cell 2 _ rfl
      have lq := Q1.out.lt
      obtain ⟨M, hM⟩ : ∃ M, M = K + 1 := ⟨_, rfl⟩
      have e2 : (K : Int) + 1 = (M : Int) := by omega
      have e3 : IntKind.i64.wrap (M : Int) = (M : Int) := IntWalk.i64_in _ (by omega)
      by_cases hk2 : M < n
      · have t2 : decide ((M : Int) < (n : Int)) = true := decide_eq_true (by omega)
        have t2n : decide (M < n) = true := decide_eq_true hk2
        have k1 : (M : Int) < (n : Int) := by omega
        have k2 : (0 : Int) ≤ (M : Int) := by omega
        have k3 : (K : Int) < (n : Int) := by omega
        have k4 : (0 : Int) ≤ (K : Int) := by omega
        have LD := Lib.hid (show LessAt wr.drew h from ⟨L1.out.lt, L1.out.cell⟩)
        have AX := Lib.hid (fun (W : World) (l : LessAt W h) => ahead_ok l (F M) (F K))
        have c0 := I1.out.k0 (M) (by omega)
        have c1 := I1.out.k1 (M) (by omega)
        have c2 := I1.out.k2 (M) (by omega)
        have d0 := I1.out.k0 (K) (by omega)
        have d1 := I1.out.k1 (K) (by omega)
        have d2 := I1.out.k2 (K) (by omega)
        cases hx : ahd (F M) (F K) with
        | true =>
          rw [hx] at AX
          have HKD := Lib.hid (show kidI F n p = M by unfold kidI; rw [← hK, ← hM, if_pos ⟨hk2, hx⟩])
          have HK := Lib.hid hK
          have HM := Lib.hid hM
          clear hx hK hM
          go_wp2_with fail
          go_region_held3 (fun w' => w'.cell? ⟨g, M * 3, none⟩ = some (.int .i64 (F M).key) ∧ w'.cell? ⟨g, M * 3 + 1, none⟩ = some (.int .i64 (F M).who) ∧ w'.cell? ⟨g, M * 3 + 2, none⟩ = some (.int .u64 ((F M).num : Int)) ∧ w'.cell? ⟨g, K * 3, none⟩ = some (.int .i64 (F K).key) ∧ w'.cell? ⟨g, K * 3 + 1, none⟩ = some (.int .i64 (F K).who) ∧ w'.cell? ⟨g, K * 3 + 2, none⟩ = some (.int .u64 ((F K).num : Int)))
            (first | go_keep | exact ⟨((bcell hb3).1 g _ lg).trans c0, ((bcell hb3).1 g _ lg).trans c1, ((bcell hb3).1 g _ lg).trans c2, ((bcell hb3).1 g _ lg).trans d0, ((bcell hb3).1 g _ lg).trans d1, ((bcell hb3).1 g _ lg).trans d2⟩)
            (first | (go_at_call 24; refine (AX.out _ LD.out).mono ?_; rintro e w3 ⟨rfl, hb3⟩))
          all_goals
            have hK := HK.out
            have hM := HM.out
            have B3 := Lib.hid (Hb.out.drew.trans (hb3.mono Hb.out.size))
            have L3 := Lib.hid ((show LessAt wr.drew h from ⟨L1.out.lt, L1.out.cell⟩).keep hb3)
            have I3 := Lib.hid ((show ItemsAt wr.drew g F n from ⟨I1.out.lt, I1.out.k0, I1.out.k1, I1.out.k2⟩).keep hb3)
            have Q3 := Lib.hid ((show CellsAt wr.drew w.heap.size _ from ⟨Q1.out.lt, Q1.out.cell, Q1.out.free⟩).step hb3)
            clear hb3 c0 c1 c2 d0 d1 d2 q0 q1 q2 lg lq
            try clear hHeld
            have c0 := I3.out.k0 (M) (by omega)
            have c1 := I3.out.k1 (M) (by omega)
            have c2 := I3.out.k2 (M) (by omega)
            have lg := I3.out.lt
            have q0 := Q3.out.cell 0 _ rfl
            have q1 := Q3.out.cell 1 _ rfl
            have q2 := Q3.out.cell 2 _ rfl
            have lq := Q3.out.lt
            have LD := Lib.hid (show LessAt w3.drew h from ⟨L3.out.lt, L3.out.cell⟩)
            have AH := Lib.hid (fun (W : World) (l : LessAt W h) => ahead_ok l ⟨ok, ow, on⟩ (F (M)))
            have GO := Lib.hid (fun (hk : ahd ⟨ok, ow, on⟩ (F (M)) = false) => HP2.out.trans (show sinkI F n ⟨ok, ow, on⟩ p = sinkI F n ⟨ok, ow, on⟩ (M) from (sinkI_go (by omega) (by rw [HKD.out]; exact hk)).trans (by rw [HKD.out])))
            have ST := Lib.hid (fun (hk : ahd ⟨ok, ow, on⟩ (F (M)) = true) => HP2.out.trans (sinkI_stay (by rw [HKD.out]; exact hk)))
            have a1 : (M : Int) < (n : Int) := by omega
            have a2 : (0 : Int) ≤ (M : Int) := by omega
            cases hk : ahd ⟨ok, ow, on⟩ (F (M)) with
            | false =>
              rw [hk] at AH
              have FIN := Lib.hid (GO.out hk)
              clear hk GO ST hK hM
              go_wp2_with fail
              go_region_held3 (fun w' => w'.cell? ⟨g, (M) * 3, none⟩ = some (.int .i64 (F (M)).key) ∧ w'.cell? ⟨g, (M) * 3 + 1, none⟩ = some (.int .i64 (F (M)).who) ∧ w'.cell? ⟨g, (M) * 3 + 2, none⟩ = some (.int .u64 ((F (M)).num : Int)) ∧ w'.cell? ⟨w.heap.size, 0, none⟩ = some (.int .i64 ok) ∧ w'.cell? ⟨w.heap.size, 1, none⟩ = some (.int .i64 ow) ∧ w'.cell? ⟨w.heap.size, 2, none⟩ = some (.int .u64 (on : Int)))
                (first | go_keep | exact ⟨((bcell hb4).1 g _ lg).trans c0, ((bcell hb4).1 g _ lg).trans c1, ((bcell hb4).1 g _ lg).trans c2, ((bcell hb4).1 _ _ lq).trans q0, ((bcell hb4).1 _ _ lq).trans q1, ((bcell hb4).1 _ _ lq).trans q2⟩)
                (first | (go_at_call 24; refine (AH.out _ LD.out).mono ?_; rintro e w4 ⟨rfl, hb4⟩))
              all_goals
                clear q0 q1 q2 c0 c1 c2
                go_wp2_with fail
                have hK := HK.out
                have hM := HM.out
                go_roundw
                case rel => exact ⟨M, Or.inl (by omega), rfl, FIN.out, B3.out.drew.trans (hb4.mono B3.out.size)⟩
                case measure => simp [intOf]; omega
            | true =>
              rw [hk] at AH
              have FIN := Lib.hid (ST.out hk)
              clear hk GO ST hK hM
              go_wp2_with fail
              go_region_held3 (fun w' => w'.cell? ⟨g, (M) * 3, none⟩ = some (.int .i64 (F (M)).key) ∧ w'.cell? ⟨g, (M) * 3 + 1, none⟩ = some (.int .i64 (F (M)).who) ∧ w'.cell? ⟨g, (M) * 3 + 2, none⟩ = some (.int .u64 ((F (M)).num : Int)) ∧ w'.cell? ⟨w.heap.size, 0, none⟩ = some (.int .i64 ok) ∧ w'.cell? ⟨w.heap.size, 1, none⟩ = some (.int .i64 ow) ∧ w'.cell? ⟨w.heap.size, 2, none⟩ = some (.int .u64 (on : Int)))
                (first | go_keep | exact ⟨((bcell hb4).1 g _ lg).trans c0, ((bcell hb4).1 g _ lg).trans c1, ((bcell hb4).1 g _ lg).trans c2, ((bcell hb4).1 _ _ lq).trans q0, ((bcell hb4).1 _ _ lq).trans q1, ((bcell hb4).1 _ _ lq).trans q2⟩)
                (first | (go_at_call 24; refine (AH.out _ LD.out).mono ?_; rintro e w4 ⟨rfl, hb4⟩))
              all_goals
                clear q0 q1 q2 c0 c1 c2
                go_wp2_with fail
                go_ret
                rw [FIN.out]
                exact ⟨rfl, B1.out.trans ((B3.out.drew.trans (hb4.mono B3.out.size)).mono B1.out.size)⟩
        | false =>
          rw [hx] at AX
          have HKD := Lib.hid (show kidI F n p = K by unfold kidI; rw [← hK, ← hM, if_neg (by rw [hx]; simp)])
          have HK := Lib.hid hK
          have HM := Lib.hid hM
          clear hx hK hM
          go_wp2_with fail
          go_region_held3 (fun w' => w'.cell? ⟨g, M * 3, none⟩ = some (.int .i64 (F M).key) ∧ w'.cell? ⟨g, M * 3 + 1, none⟩ = some (.int .i64 (F M).who) ∧ w'.cell? ⟨g, M * 3 + 2, none⟩ = some (.int .u64 ((F M).num : Int)) ∧ w'.cell? ⟨g, K * 3, none⟩ = some (.int .i64 (F K).key) ∧ w'.cell? ⟨g, K * 3 + 1, none⟩ = some (.int .i64 (F K).who) ∧ w'.cell? ⟨g, K * 3 + 2, none⟩ = some (.int .u64 ((F K).num : Int)))
            (first | go_keep | exact ⟨((bcell hb3).1 g _ lg).trans c0, ((bcell hb3).1 g _ lg).trans c1, ((bcell hb3).1 g _ lg).trans c2, ((bcell hb3).1 g _ lg).trans d0, ((bcell hb3).1 g _ lg).trans d1, ((bcell hb3).1 g _ lg).trans d2⟩)
            (first | (go_at_call 24; refine (AX.out _ LD.out).mono ?_; rintro e w3 ⟨rfl, hb3⟩))
          all_goals
            have hK := HK.out
            have hM := HM.out
            have B3 := Lib.hid (Hb.out.drew.trans (hb3.mono Hb.out.size))
            have L3 := Lib.hid ((show LessAt wr.drew h from ⟨L1.out.lt, L1.out.cell⟩).keep hb3)
            have I3 := Lib.hid ((show ItemsAt wr.drew g F n from ⟨I1.out.lt, I1.out.k0, I1.out.k1, I1.out.k2⟩).keep hb3)
            have Q3 := Lib.hid ((show CellsAt wr.drew w.heap.size _ from ⟨Q1.out.lt, Q1.out.cell, Q1.out.free⟩).step hb3)
            clear hb3 c0 c1 c2 d0 d1 d2 q0 q1 q2 lg lq
            try clear hHeld
            have c0 := I3.out.k0 (K) (by omega)
            have c1 := I3.out.k1 (K) (by omega)
            have c2 := I3.out.k2 (K) (by omega)
            have lg := I3.out.lt
            have q0 := Q3.out.cell 0 _ rfl
            have q1 := Q3.out.cell 1 _ rfl
            have q2 := Q3.out.cell 2 _ rfl
            have lq := Q3.out.lt
            have LD := Lib.hid (show LessAt w3.drew h from ⟨L3.out.lt, L3.out.cell⟩)
            have AH := Lib.hid (fun (W : World) (l : LessAt W h) => ahead_ok l ⟨ok, ow, on⟩ (F (K)))
            have GO := Lib.hid (fun (hk : ahd ⟨ok, ow, on⟩ (F (K)) = false) => HP2.out.trans (show sinkI F n ⟨ok, ow, on⟩ p = sinkI F n ⟨ok, ow, on⟩ (K) from (sinkI_go (by omega) (by rw [HKD.out]; exact hk)).trans (by rw [HKD.out])))
            have ST := Lib.hid (fun (hk : ahd ⟨ok, ow, on⟩ (F (K)) = true) => HP2.out.trans (sinkI_stay (by rw [HKD.out]; exact hk)))
            have a1 : (K : Int) < (n : Int) := by omega
            have a2 : (0 : Int) ≤ (K : Int) := by omega
            cases hk : ahd ⟨ok, ow, on⟩ (F (K)) with
            | false =>
              rw [hk] at AH
              have FIN := Lib.hid (GO.out hk)
              clear hk GO ST hK hM
              go_wp2_with fail
              go_region_held3 (fun w' => w'.cell? ⟨g, (K) * 3, none⟩ = some (.int .i64 (F (K)).key) ∧ w'.cell? ⟨g, (K) * 3 + 1, none⟩ = some (.int .i64 (F (K)).who) ∧ w'.cell? ⟨g, (K) * 3 + 2, none⟩ = some (.int .u64 ((F (K)).num : Int)) ∧ w'.cell? ⟨w.heap.size, 0, none⟩ = some (.int .i64 ok) ∧ w'.cell? ⟨w.heap.size, 1, none⟩ = some (.int .i64 ow) ∧ w'.cell? ⟨w.heap.size, 2, none⟩ = some (.int .u64 (on : Int)))
                (first | go_keep | exact ⟨((bcell hb4).1 g _ lg).trans c0, ((bcell hb4).1 g _ lg).trans c1, ((bcell hb4).1 g _ lg).trans c2, ((bcell hb4).1 _ _ lq).trans q0, ((bcell hb4).1 _ _ lq).trans q1, ((bcell hb4).1 _ _ lq).trans q2⟩)
                (first | (go_at_call 24; refine (AH.out _ LD.out).mono ?_; rintro e w4 ⟨rfl, hb4⟩))
              all_goals
                clear q0 q1 q2 c0 c1 c2
                go_wp2_with fail
                have hK := HK.out
                have hM := HM.out
                go_roundw
                case rel => exact ⟨K, Or.inl (by omega), rfl, FIN.out, B3.out.drew.trans (hb4.mono B3.out.size)⟩
                case measure => simp [intOf]; omega
            | true =>
              rw [hk] at AH
              have FIN := Lib.hid (ST.out hk)
              clear hk GO ST hK hM
              go_wp2_with fail
              go_region_held3 (fun w' => w'.cell? ⟨g, (K) * 3, none⟩ = some (.int .i64 (F (K)).key) ∧ w'.cell? ⟨g, (K) * 3 + 1, none⟩ = some (.int .i64 (F (K)).who) ∧ w'.cell? ⟨g, (K) * 3 + 2, none⟩ = some (.int .u64 ((F (K)).num : Int)) ∧ w'.cell? ⟨w.heap.size, 0, none⟩ = some (.int .i64 ok) ∧ w'.cell? ⟨w.heap.size, 1, none⟩ = some (.int .i64 ow) ∧ w'.cell? ⟨w.heap.size, 2, none⟩ = some (.int .u64 (on : Int)))
                (first | go_keep | exact ⟨((bcell hb4).1 g _ lg).trans c0, ((bcell hb4).1 g _ lg).trans c1, ((bcell hb4).1 g _ lg).trans c2, ((bcell hb4).1 _ _ lq).trans q0, ((bcell hb4).1 _ _ lq).trans q1, ((bcell hb4).1 _ _ lq).trans q2⟩)
                (first | (go_at_call 24; refine (AH.out _ LD.out).mono ?_; rintro e w4 ⟨rfl, hb4⟩))
              all_goals
                clear q0 q1 q2 c0 c1 c2
                go_wp2_with fail
                go_ret
                rw [FIN.out]
                exact ⟨rfl, B1.out.trans ((B3.out.drew.trans (hb4.mono B3.out.size)).mono B1.out.size)⟩
      · have t2 : decide ((M : Int) < (n : Int)) = false := decide_eq_false (by omega)
        have t2n : decide (M < n) = false := decide_eq_false hk2
        have HKD := Lib.hid (show kidI F n p = K by unfold kidI; rw [← hK, ← hM, if_neg (fun q => hk2 q.1)])
        have HK := Lib.hid hK
        have HM := Lib.hid hM
        clear hK hM
        have c0 := I1.out.k0 (K) (by omega)
        have c1 := I1.out.k1 (K) (by omega)
        have c2 := I1.out.k2 (K) (by omega)
        go_wp2_with fail
        go_quiet (fail)
        have hK := HK.out
        have hM := HM.out
        have B3 := Lib.hid (bdrewB Hb.out nq)
        have L3 := Lib.hid (show LessAt (wr.drewN nq) h from ⟨L1.out.lt, L1.out.cell⟩)
        have I3 := Lib.hid (show ItemsAt (wr.drewN nq) g F n from ⟨I1.out.lt, I1.out.k0, I1.out.k1, I1.out.k2⟩)
        have Q3 := Lib.hid (show CellsAt (wr.drewN nq) w.heap.size _ from ⟨Q1.out.lt, Q1.out.cell, Q1.out.free⟩)
        generalize wr.drewN nq = w3 at *
        clear c0 c1 c2 q0 q1 q2 lg lq
        have c0 := I3.out.k0 (K) (by omega)
        have c1 := I3.out.k1 (K) (by omega)
        have c2 := I3.out.k2 (K) (by omega)
        have lg := I3.out.lt
        have q0 := Q3.out.cell 0 _ rfl
        have q1 := Q3.out.cell 1 _ rfl
        have q2 := Q3.out.cell 2 _ rfl
        have lq := Q3.out.lt
        have LD := Lib.hid (show LessAt w3.drew h from ⟨L3.out.lt, L3.out.cell⟩)
        have AH := Lib.hid (fun (W : World) (l : LessAt W h) => ahead_ok l ⟨ok, ow, on⟩ (F (K)))
        have GO := Lib.hid (fun (hk : ahd ⟨ok, ow, on⟩ (F (K)) = false) => HP2.out.trans (show sinkI F n ⟨ok, ow, on⟩ p = sinkI F n ⟨ok, ow, on⟩ (K) from (sinkI_go (by omega) (by rw [HKD.out]; exact hk)).trans (by rw [HKD.out])))
        have ST := Lib.hid (fun (hk : ahd ⟨ok, ow, on⟩ (F (K)) = true) => HP2.out.trans (sinkI_stay (by rw [HKD.out]; exact hk)))
        have a1 : (K : Int) < (n : Int) := by omega
        have a2 : (0 : Int) ≤ (K : Int) := by omega
        cases hk : ahd ⟨ok, ow, on⟩ (F (K)) with
        | false =>
          rw [hk] at AH
          have FIN := Lib.hid (GO.out hk)
          clear hk GO ST hK hM
          go_wp2_with fail
          go_region_held3 (fun w' => w'.cell? ⟨g, (K) * 3, none⟩ = some (.int .i64 (F (K)).key) ∧ w'.cell? ⟨g, (K) * 3 + 1, none⟩ = some (.int .i64 (F (K)).who) ∧ w'.cell? ⟨g, (K) * 3 + 2, none⟩ = some (.int .u64 ((F (K)).num : Int)) ∧ w'.cell? ⟨w.heap.size, 0, none⟩ = some (.int .i64 ok) ∧ w'.cell? ⟨w.heap.size, 1, none⟩ = some (.int .i64 ow) ∧ w'.cell? ⟨w.heap.size, 2, none⟩ = some (.int .u64 (on : Int)))
            (first | go_keep | exact ⟨((bcell hb4).1 g _ lg).trans c0, ((bcell hb4).1 g _ lg).trans c1, ((bcell hb4).1 g _ lg).trans c2, ((bcell hb4).1 _ _ lq).trans q0, ((bcell hb4).1 _ _ lq).trans q1, ((bcell hb4).1 _ _ lq).trans q2⟩)
            (first | (go_at_call 24; refine (AH.out _ LD.out).mono ?_; rintro e w4 ⟨rfl, hb4⟩))
          all_goals
            clear q0 q1 q2 c0 c1 c2
            go_wp2_with fail
            have hK := HK.out
            have hM := HM.out
            go_roundw
            case rel => exact ⟨K, Or.inl (by omega), rfl, FIN.out, B3.out.drew.trans (hb4.mono B3.out.size)⟩
            case measure => simp [intOf]; omega
        | true =>
          rw [hk] at AH
          have FIN := Lib.hid (ST.out hk)
          clear hk GO ST hK hM
          go_wp2_with fail
          go_region_held3 (fun w' => w'.cell? ⟨g, (K) * 3, none⟩ = some (.int .i64 (F (K)).key) ∧ w'.cell? ⟨g, (K) * 3 + 1, none⟩ = some (.int .i64 (F (K)).who) ∧ w'.cell? ⟨g, (K) * 3 + 2, none⟩ = some (.int .u64 ((F (K)).num : Int)) ∧ w'.cell? ⟨w.heap.size, 0, none⟩ = some (.int .i64 ok) ∧ w'.cell? ⟨w.heap.size, 1, none⟩ = some (.int .i64 ow) ∧ w'.cell? ⟨w.heap.size, 2, none⟩ = some (.int .u64 (on : Int)))
            (first | go_keep | exact ⟨((bcell hb4).1 g _ lg).trans c0, ((bcell hb4).1 g _ lg).trans c1, ((bcell hb4).1 g _ lg).trans c2, ((bcell hb4).1 _ _ lq).trans q0, ((bcell hb4).1 _ _ lq).trans q1, ((bcell hb4).1 _ _ lq).trans q2⟩)
            (first | (go_at_call 24; refine (AH.out _ LD.out).mono ?_; rintro e w4 ⟨rfl, hb4⟩))
          all_goals
            clear q0 q1 q2 c0 c1 c2
            go_wp2_with fail
            go_ret
            rw [FIN.out]
            exact ⟨rfl, B1.out.trans ((B3.out.drew.trans (hb4.mono B3.out.size)).mono B1.out.size)⟩
    · have tk : decide ((n : Int) ≤ (K : Int)) = true := decide_eq_true (by omega)
      have tkn : decide (n ≤ K) = true := decide_eq_true (by omega)
      have FIN := Lib.hid (HP2.out.trans (sinkI_end (by omega)))
      clear hK
      go_wp2_with fail
      go_ret
      rw [FIN.out]
      exact ⟨rfl, B1.out.trans (Hb.out.mono B1.out.size)⟩
end Go.Proofs.Ytiegpjlobpmacaa
