/- How far down, and how often it is asked. -/
import Derived.Test.YtiegpjlobpmacaaQr
namespace Go.Proofs.Ytiegpjlobpmacaa
open Go.RowKit
set_option maxRecDepth 100000
def SinR (w : World) (ba c0 : Nat) (F : Nat → It) (one : It) (n : Nat) (v : Value) (wr : World) : Prop := ∃ p c, (p < n ∨ p = 0) ∧ v = .int .i64 (p : Int) ∧ sinkI F n one 0 = sinkI F n one p ∧ c0 + sinkN F n one 0 = c + sinkN F n one p ∧ Ask ba c w wr
set_option maxHeartbeats 8000000 in
theorem sink2_ok {w : World} {h ba c0 g n c : Nat} {F : Nat → It} (one : It) (hl : LesAt w h ba) (ha : AskAt w ba c0) (hi : Items2 w g ba F n) (hn : n < 1048576) (hc0 : c0 < 1048576) :
    Calls Try.prog 23 #[.pointer (some ⟨h, 0, none⟩), .slice (some ⟨g, 0, none⟩) n c, .agg #[.int .i64 one.key, .int .u64 (one.num : Int)]] w (RetAsk w ba (c0 + sinkN F n one 0) (.int .i64 (sinkI F n one 0 : Int))) := by
  have hcn : c0 + sinkN F n one 0 < 1099511627776 := by
    have h1 := sinkN_le (f := F) (one := one) (n := n) _ 0 (Nat.le_refl _)
    have h2 := dgt_le _ (n / (0 + 1)) (Nat.le_refl _)
    have h3 : n / (0 + 1) = n := Nat.div_one n
    omega
  obtain ⟨ok, ow, on⟩ := one
  have HL := Lib.hid hl
  have HI := Lib.hid hi
  have HA := Lib.hid ha
  clear hl hi ha
  obtain ⟨S, hS⟩ : ∃ S, S = c0 + sinkN F n ⟨ok, ow, on⟩ 0 := ⟨_, rfl⟩
  have HS := Lib.hid hS
  rw [← hS] at hcn ⊢
  obtain ⟨RI, hRI⟩ : ∃ RI, RI = sinkI F n ⟨ok, ow, on⟩ 0 := ⟨_, rfl⟩
  have HRI := Lib.hid hRI
  rw [← hRI]
  clear hS hRI
  go_enter Try.func23, Try.ntmps23
  go_wp2_with fail
  have R1 := Lib.hid (CellsAt.new w [.int .i64 ok, .int .u64 (on : Int)] 56)
  have B1 := Lib.hid ((Below.refl w.heap.size w).alloc (Nat.le_refl _) (.cells #[.int .i64 ok, .int .u64 (on : Int)] 56))
  have A1 := Lib.hid (Ask.of HA.out B1.out)
  have NB := Lib.hid (show w.heap.size ≠ ba from fun e => by have := lt_of_heap HA.out; omega)
  change Hid (CellsAt (w.alloc (.cells #[.int .i64 ok, .int .u64 (on : Int)] 56)) _ _) at R1
  generalize w.alloc (.cells #[.int .i64 ok, .int .u64 (on : Int)] 56) = x1 at R1 B1 A1 ⊢
  have HB := Lib.hid (show SinR x1 ba c0 F ⟨ok, ow, on⟩ n (.int .i64 0) x1 from ⟨0, c0, Or.inr rfl, by go_num, rfl, rfl, Ask.of A1.out.cell (Below.refl _ _)⟩)
  go_loopw [7, 8] (fun v _ wr => SinR x1 ba c0 F ⟨ok, ow, on⟩ n v wr) (fun v _ _ => n - (intOf v).toNat)
  case atStart => exact HB.out
  case round =>
    clear HB
    obtain ⟨p, d, hp1, rfl, hp2, hpc, hb⟩ := hrel
    have Hb := Lib.hid hb
    have L1 := Lib.hid ((HL.out.keep B1.out).ask hb)
    have I1 := Lib.hid ((HI.out.keep B1.out).ask hb)
    have Q1 := Lib.hid (R1.out.ask hb NB.out)
    have HP2 := Lib.hid hp2
    have HPC := Lib.hid hpc
    have NG := Lib.hid I1.out.ne
    clear hp2 hb hpc
    have hpb : p < 1099511627776 := by omega
    obtain ⟨K, hK⟩ : ∃ K, K = 2 * p + 1 := ⟨_, rfl⟩
    have e1 : 2 * (p : Int) + 1 = (K : Int) := by omega
    by_cases hkn : K < n
    · have hpn : p < n := by omega
      have tk : decide ((n : Int) ≤ (K : Int)) = false := decide_eq_false (by omega)
      have tkn : decide (n ≤ K) = false := decide_eq_false (by omega)
      have lg := I1.out.lt
      have q0 := Q1.out.cell 0 _ rfl
      have q1 := Q1.out.cell 1 _ rfl
      have lq := Q1.out.lt
      obtain ⟨M, hM⟩ : ∃ M, M = K + 1 := ⟨_, rfl⟩
      have e2 : (K : Int) + 1 = (M : Int) := by omega
      have e3 : IntKind.i64.wrap (M : Int) = (M : Int) := IntWalk.i64_in _ (by omega)
      have hd0 : d + 1 < 1099511627776 := by
        have h1 := HPC.out
        have h2 := HS.out
        have h3 : 1 ≤ sinkN F n ⟨ok, ow, on⟩ p := by rw [sinkN, dif_pos (by omega)]; omega
        omega
      by_cases hk2 : M < n
      · have t2 : decide ((M : Int) < (n : Int)) = true := decide_eq_true (by omega)
        have t2n : decide (M < n) = true := decide_eq_true hk2
        have k1 : (M : Int) < (n : Int) := by omega
        have k2 : (0 : Int) ≤ (M : Int) := by omega
        have k3 : (K : Int) < (n : Int) := by omega
        have k4 : (0 : Int) ≤ (K : Int) := by omega
        have LD := Lib.hid (show LesAt wr.drew h ba from ⟨L1.out.lt, L1.out.ne, L1.out.cell⟩)
        have AD := Lib.hid (show AskAt wr.drew ba d from Hb.out.cell)
        have AX := Lib.hid (fun (W : World) (l : LesAt W h ba) (q : AskAt W ba d) => ahead2_ok l q (by omega) (F M) (F K))
        have c0' := I1.out.k0 (M) (by omega)
        have c1 := I1.out.k1 (M) (by omega)
        have d0 := I1.out.k0 (K) (by omega)
        have d1 := I1.out.k1 (K) (by omega)
        cases hx : ahd (F M) (F K) with
        | true =>
          rw [hx] at AX
          have HKD := Lib.hid (show kidI F n p = M by unfold kidI; rw [← hK, ← hM, if_pos ⟨hk2, hx⟩])
          have HK := Lib.hid hK
          have HM := Lib.hid hM
          clear hx hK hM
          go_wp2_with fail
          go_region_held3 (fun w' => w'.cell? ⟨g, M * 2, none⟩ = some (.int .i64 (F M).key) ∧ w'.cell? ⟨g, M * 2 + 1, none⟩ = some (.int .u64 ((F M).num : Int)) ∧ w'.cell? ⟨g, K * 2, none⟩ = some (.int .i64 (F K).key) ∧ w'.cell? ⟨g, K * 2 + 1, none⟩ = some (.int .u64 ((F K).num : Int)))
            (first | go_keep | exact ⟨(hb3.cellOf lg NG.out _).trans c0', (hb3.cellOf lg NG.out _).trans c1, (hb3.cellOf lg NG.out _).trans d0, (hb3.cellOf lg NG.out _).trans d1⟩)
            (first | (go_at_call 25; refine (AX.out _ LD.out AD.out).mono ?_; rintro e w3 ⟨rfl, hb3⟩))
          all_goals
            have hK := HK.out
            have hM := HM.out
            clear LD AD
            have B3 := Lib.hid (show Ask ba (d + 1) x1 w3 from (Hb.out.below (Below.refl _ _).drew).trans hb3)
            have L3 := Lib.hid ((show LesAt wr.drew h ba from ⟨L1.out.lt, L1.out.ne, L1.out.cell⟩).ask hb3)
            have I3 := Lib.hid ((show Items2 wr.drew g ba F n from ⟨I1.out.lt, I1.out.ne, I1.out.k0, I1.out.k1⟩).ask hb3)
            have Q3 := Lib.hid ((show CellsAt wr.drew w.heap.size _ from ⟨Q1.out.lt, Q1.out.cell, Q1.out.free⟩).ask hb3 NB.out)
            clear hb3 c0' c1 d0 d1 q0 q1 lg lq
            try clear hHeld
            have c0' := I3.out.k0 (M) (by omega)
            have c1 := I3.out.k1 (M) (by omega)
            have lg := I3.out.lt
            have q0 := Q3.out.cell 0 _ rfl
            have q1 := Q3.out.cell 1 _ rfl
            have lq := Q3.out.lt
            have LD := Lib.hid (show LesAt w3.drew h ba from ⟨L3.out.lt, L3.out.ne, L3.out.cell⟩)
            have AD := Lib.hid (show AskAt w3.drew ba (d + 1) from B3.out.cell)
            have HD := Lib.hid (show Ask ba (d + 1) x1 w3.drew from B3.out.below (Below.refl _ _).drew)
            have AH := Lib.hid (fun (W : World) (l : LesAt W h ba) (q : AskAt W ba (d + 1)) => ahead2_ok l q (by omega) ⟨ok, ow, on⟩ (F (M)))
            have GO := Lib.hid (fun (hk : ahd ⟨ok, ow, on⟩ (F (M)) = false) => (show sinkI F n ⟨ok, ow, on⟩ 0 = sinkI F n ⟨ok, ow, on⟩ (M) ∧ c0 + sinkN F n ⟨ok, ow, on⟩ 0 = ((d + 1) + 1) + sinkN F n ⟨ok, ow, on⟩ (M) from ⟨HP2.out.trans ((sinkI_go (by omega) (by rw [HKD.out]; exact hk)).trans (by rw [HKD.out])), by have h1 := HPC.out; rw [sinkN_go (p := p) (by omega) (by rw [HKD.out]; exact hk), if_pos (show 2 * p + 1 + 1 < n by omega), HKD.out] at h1; omega⟩))
            have ST := Lib.hid (fun (hk : ahd ⟨ok, ow, on⟩ (F (M)) = true) => (show RI = p ∧ S = (d + 1) + 1 from ⟨HRI.out.trans (HP2.out.trans (sinkI_stay (by rw [HKD.out]; exact hk))), by have h1 := HPC.out; have h2 := HS.out; rw [sinkN_stay (p := p) (by omega) (by rw [HKD.out]; exact hk), if_pos (show 2 * p + 1 + 1 < n by omega)] at h1; omega⟩))
            have a1 : (M : Int) < (n : Int) := by omega
            have a2 : (0 : Int) ≤ (M : Int) := by omega
            cases hk : ahd ⟨ok, ow, on⟩ (F (M)) with
            | false =>
              rw [hk] at AH
              have FIN := Lib.hid (GO.out hk)
              clear hk GO ST hK hM
              go_wp2_with fail
              go_region_held3 (fun w' => w'.cell? ⟨g, (M) * 2, none⟩ = some (.int .i64 (F (M)).key) ∧ w'.cell? ⟨g, (M) * 2 + 1, none⟩ = some (.int .u64 ((F (M)).num : Int)) ∧ w'.cell? ⟨w.heap.size, 0, none⟩ = some (.int .i64 ok) ∧ w'.cell? ⟨w.heap.size, 1, none⟩ = some (.int .u64 (on : Int)))
                (first | go_keep | exact ⟨(hb4.cellOf lg NG.out _).trans c0', (hb4.cellOf lg NG.out _).trans c1, (hb4.cellOf lq NB.out _).trans q0, (hb4.cellOf lq NB.out _).trans q1⟩)
                (first | (go_at_call 25; refine (AH.out _ LD.out AD.out).mono ?_; rintro e w4 ⟨rfl, hb4⟩))
              all_goals
                clear q0 q1 c0' c1
                go_wp2_with fail
                have hK := HK.out
                have hM := HM.out
                go_roundw
                case rel => exact ⟨M, _, Or.inl (by omega), rfl, FIN.out.1, FIN.out.2, HD.out.trans hb4⟩
                case measure => simp [intOf]; omega
            | true =>
              rw [hk] at AH
              have FIN := Lib.hid (ST.out hk)
              clear hk GO ST hK hM
              go_wp2_with fail
              go_region_held3 (fun w' => w'.cell? ⟨g, (M) * 2, none⟩ = some (.int .i64 (F (M)).key) ∧ w'.cell? ⟨g, (M) * 2 + 1, none⟩ = some (.int .u64 ((F (M)).num : Int)) ∧ w'.cell? ⟨w.heap.size, 0, none⟩ = some (.int .i64 ok) ∧ w'.cell? ⟨w.heap.size, 1, none⟩ = some (.int .u64 (on : Int)))
                (first | go_keep | exact ⟨(hb4.cellOf lg NG.out _).trans c0', (hb4.cellOf lg NG.out _).trans c1, (hb4.cellOf lq NB.out _).trans q0, (hb4.cellOf lq NB.out _).trans q1⟩)
                (first | (go_at_call 25; refine (AH.out _ LD.out AD.out).mono ?_; rintro e w4 ⟨rfl, hb4⟩))
              all_goals
                clear q0 q1 c0' c1
                go_wp2_with fail
                go_ret
                rw [FIN.out.1]
                refine ⟨rfl, ?_⟩
                rw [FIN.out.2]
                exact A1.out.trans (HD.out.trans hb4)
        | false =>
          rw [hx] at AX
          have HKD := Lib.hid (show kidI F n p = K by unfold kidI; rw [← hK, ← hM, if_neg (by rw [hx]; simp)])
          have HK := Lib.hid hK
          have HM := Lib.hid hM
          clear hx hK hM
          go_wp2_with fail
          go_region_held3 (fun w' => w'.cell? ⟨g, M * 2, none⟩ = some (.int .i64 (F M).key) ∧ w'.cell? ⟨g, M * 2 + 1, none⟩ = some (.int .u64 ((F M).num : Int)) ∧ w'.cell? ⟨g, K * 2, none⟩ = some (.int .i64 (F K).key) ∧ w'.cell? ⟨g, K * 2 + 1, none⟩ = some (.int .u64 ((F K).num : Int)))
            (first | go_keep | exact ⟨(hb3.cellOf lg NG.out _).trans c0', (hb3.cellOf lg NG.out _).trans c1, (hb3.cellOf lg NG.out _).trans d0, (hb3.cellOf lg NG.out _).trans d1⟩)
            (first | (go_at_call 25; refine (AX.out _ LD.out AD.out).mono ?_; rintro e w3 ⟨rfl, hb3⟩))
          all_goals
            have hK := HK.out
            have hM := HM.out
            clear LD AD
            have B3 := Lib.hid (show Ask ba (d + 1) x1 w3 from (Hb.out.below (Below.refl _ _).drew).trans hb3)
            have L3 := Lib.hid ((show LesAt wr.drew h ba from ⟨L1.out.lt, L1.out.ne, L1.out.cell⟩).ask hb3)
            have I3 := Lib.hid ((show Items2 wr.drew g ba F n from ⟨I1.out.lt, I1.out.ne, I1.out.k0, I1.out.k1⟩).ask hb3)
            have Q3 := Lib.hid ((show CellsAt wr.drew w.heap.size _ from ⟨Q1.out.lt, Q1.out.cell, Q1.out.free⟩).ask hb3 NB.out)
            clear hb3 c0' c1 d0 d1 q0 q1 lg lq
            try clear hHeld
            have c0' := I3.out.k0 (K) (by omega)
            have c1 := I3.out.k1 (K) (by omega)
            have lg := I3.out.lt
            have q0 := Q3.out.cell 0 _ rfl
            have q1 := Q3.out.cell 1 _ rfl
            have lq := Q3.out.lt
            have LD := Lib.hid (show LesAt w3.drew h ba from ⟨L3.out.lt, L3.out.ne, L3.out.cell⟩)
            have AD := Lib.hid (show AskAt w3.drew ba (d + 1) from B3.out.cell)
            have HD := Lib.hid (show Ask ba (d + 1) x1 w3.drew from B3.out.below (Below.refl _ _).drew)
            have AH := Lib.hid (fun (W : World) (l : LesAt W h ba) (q : AskAt W ba (d + 1)) => ahead2_ok l q (by omega) ⟨ok, ow, on⟩ (F (K)))
            have GO := Lib.hid (fun (hk : ahd ⟨ok, ow, on⟩ (F (K)) = false) => (show sinkI F n ⟨ok, ow, on⟩ 0 = sinkI F n ⟨ok, ow, on⟩ (K) ∧ c0 + sinkN F n ⟨ok, ow, on⟩ 0 = ((d + 1) + 1) + sinkN F n ⟨ok, ow, on⟩ (K) from ⟨HP2.out.trans ((sinkI_go (by omega) (by rw [HKD.out]; exact hk)).trans (by rw [HKD.out])), by have h1 := HPC.out; rw [sinkN_go (p := p) (by omega) (by rw [HKD.out]; exact hk), if_pos (show 2 * p + 1 + 1 < n by omega), HKD.out] at h1; omega⟩))
            have ST := Lib.hid (fun (hk : ahd ⟨ok, ow, on⟩ (F (K)) = true) => (show RI = p ∧ S = (d + 1) + 1 from ⟨HRI.out.trans (HP2.out.trans (sinkI_stay (by rw [HKD.out]; exact hk))), by have h1 := HPC.out; have h2 := HS.out; rw [sinkN_stay (p := p) (by omega) (by rw [HKD.out]; exact hk), if_pos (show 2 * p + 1 + 1 < n by omega)] at h1; omega⟩))
            have a1 : (K : Int) < (n : Int) := by omega
            have a2 : (0 : Int) ≤ (K : Int) := by omega
            cases hk : ahd ⟨ok, ow, on⟩ (F (K)) with
            | false =>
              rw [hk] at AH
              have FIN := Lib.hid (GO.out hk)
              clear hk GO ST hK hM
              go_wp2_with fail
              go_region_held3 (fun w' => w'.cell? ⟨g, (K) * 2, none⟩ = some (.int .i64 (F (K)).key) ∧ w'.cell? ⟨g, (K) * 2 + 1, none⟩ = some (.int .u64 ((F (K)).num : Int)) ∧ w'.cell? ⟨w.heap.size, 0, none⟩ = some (.int .i64 ok) ∧ w'.cell? ⟨w.heap.size, 1, none⟩ = some (.int .u64 (on : Int)))
                (first | go_keep | exact ⟨(hb4.cellOf lg NG.out _).trans c0', (hb4.cellOf lg NG.out _).trans c1, (hb4.cellOf lq NB.out _).trans q0, (hb4.cellOf lq NB.out _).trans q1⟩)
                (first | (go_at_call 25; refine (AH.out _ LD.out AD.out).mono ?_; rintro e w4 ⟨rfl, hb4⟩))
              all_goals
                clear q0 q1 c0' c1
                go_wp2_with fail
                have hK := HK.out
                have hM := HM.out
                go_roundw
                case rel => exact ⟨K, _, Or.inl (by omega), rfl, FIN.out.1, FIN.out.2, HD.out.trans hb4⟩
                case measure => simp [intOf]; omega
            | true =>
              rw [hk] at AH
              have FIN := Lib.hid (ST.out hk)
              clear hk GO ST hK hM
              go_wp2_with fail
              go_region_held3 (fun w' => w'.cell? ⟨g, (K) * 2, none⟩ = some (.int .i64 (F (K)).key) ∧ w'.cell? ⟨g, (K) * 2 + 1, none⟩ = some (.int .u64 ((F (K)).num : Int)) ∧ w'.cell? ⟨w.heap.size, 0, none⟩ = some (.int .i64 ok) ∧ w'.cell? ⟨w.heap.size, 1, none⟩ = some (.int .u64 (on : Int)))
                (first | go_keep | exact ⟨(hb4.cellOf lg NG.out _).trans c0', (hb4.cellOf lg NG.out _).trans c1, (hb4.cellOf lq NB.out _).trans q0, (hb4.cellOf lq NB.out _).trans q1⟩)
                (first | (go_at_call 25; refine (AH.out _ LD.out AD.out).mono ?_; rintro e w4 ⟨rfl, hb4⟩))
              all_goals
                clear q0 q1 c0' c1
                go_wp2_with fail
                go_ret
                rw [FIN.out.1]
                refine ⟨rfl, ?_⟩
                rw [FIN.out.2]
                exact A1.out.trans (HD.out.trans hb4)
      · have t2 : decide ((M : Int) < (n : Int)) = false := decide_eq_false (by omega)
        have t2n : decide (M < n) = false := decide_eq_false hk2
        have HKD := Lib.hid (show kidI F n p = K by unfold kidI; rw [← hK, ← hM, if_neg (fun q => hk2 q.1)])
        have HK := Lib.hid hK
        have HM := Lib.hid hM
        clear hK hM
        have c0' := I1.out.k0 (K) (by omega)
        have c1 := I1.out.k1 (K) (by omega)
        go_wp2_with fail
        go_quiet (fail)
        have hK := HK.out
        have hM := HM.out
        have B3 := Lib.hid (show Ask ba d x1 (wr.drewN nq) from Hb.out.below (below_drewN _ _))
        have L3 := Lib.hid (show LesAt (wr.drewN nq) h ba from ⟨L1.out.lt, L1.out.ne, L1.out.cell⟩)
        have I3 := Lib.hid (show Items2 (wr.drewN nq) g ba F n from ⟨I1.out.lt, I1.out.ne, I1.out.k0, I1.out.k1⟩)
        have Q3 := Lib.hid (show CellsAt (wr.drewN nq) w.heap.size _ from ⟨Q1.out.lt, Q1.out.cell, Q1.out.free⟩)
        generalize wr.drewN nq = w3 at *
        clear c0' c1 q0 q1 lg lq
        have c0' := I3.out.k0 (K) (by omega)
        have c1 := I3.out.k1 (K) (by omega)
        have lg := I3.out.lt
        have q0 := Q3.out.cell 0 _ rfl
        have q1 := Q3.out.cell 1 _ rfl
        have lq := Q3.out.lt
        have LD := Lib.hid (show LesAt w3.drew h ba from ⟨L3.out.lt, L3.out.ne, L3.out.cell⟩)
        have AD := Lib.hid (show AskAt w3.drew ba d from B3.out.cell)
        have HD := Lib.hid (show Ask ba d x1 w3.drew from B3.out.below (Below.refl _ _).drew)
        have AH := Lib.hid (fun (W : World) (l : LesAt W h ba) (q : AskAt W ba d) => ahead2_ok l q (by omega) ⟨ok, ow, on⟩ (F (K)))
        have GO := Lib.hid (fun (hk : ahd ⟨ok, ow, on⟩ (F (K)) = false) => (show sinkI F n ⟨ok, ow, on⟩ 0 = sinkI F n ⟨ok, ow, on⟩ (K) ∧ c0 + sinkN F n ⟨ok, ow, on⟩ 0 = (d + 1) + sinkN F n ⟨ok, ow, on⟩ (K) from ⟨HP2.out.trans ((sinkI_go (by omega) (by rw [HKD.out]; exact hk)).trans (by rw [HKD.out])), by have h1 := HPC.out; rw [sinkN_go (p := p) (by omega) (by rw [HKD.out]; exact hk), if_neg (show ¬ 2 * p + 1 + 1 < n by omega), HKD.out] at h1; omega⟩))
        have ST := Lib.hid (fun (hk : ahd ⟨ok, ow, on⟩ (F (K)) = true) => (show RI = p ∧ S = d + 1 from ⟨HRI.out.trans (HP2.out.trans (sinkI_stay (by rw [HKD.out]; exact hk))), by have h1 := HPC.out; have h2 := HS.out; rw [sinkN_stay (p := p) (by omega) (by rw [HKD.out]; exact hk), if_neg (show ¬ 2 * p + 1 + 1 < n by omega)] at h1; omega⟩))
        have a1 : (K : Int) < (n : Int) := by omega
        have a2 : (0 : Int) ≤ (K : Int) := by omega
        cases hk : ahd ⟨ok, ow, on⟩ (F (K)) with
        | false =>
          rw [hk] at AH
          have FIN := Lib.hid (GO.out hk)
          clear hk GO ST hK hM
          go_wp2_with fail
          go_region_held3 (fun w' => w'.cell? ⟨g, (K) * 2, none⟩ = some (.int .i64 (F (K)).key) ∧ w'.cell? ⟨g, (K) * 2 + 1, none⟩ = some (.int .u64 ((F (K)).num : Int)) ∧ w'.cell? ⟨w.heap.size, 0, none⟩ = some (.int .i64 ok) ∧ w'.cell? ⟨w.heap.size, 1, none⟩ = some (.int .u64 (on : Int)))
            (first | go_keep | exact ⟨(hb4.cellOf lg NG.out _).trans c0', (hb4.cellOf lg NG.out _).trans c1, (hb4.cellOf lq NB.out _).trans q0, (hb4.cellOf lq NB.out _).trans q1⟩)
            (first | (go_at_call 25; refine (AH.out _ LD.out AD.out).mono ?_; rintro e w4 ⟨rfl, hb4⟩))
          all_goals
            clear q0 q1 c0' c1
            go_wp2_with fail
            have hK := HK.out
            have hM := HM.out
            go_roundw
            case rel => exact ⟨K, _, Or.inl (by omega), rfl, FIN.out.1, FIN.out.2, HD.out.trans hb4⟩
            case measure => simp [intOf]; omega
        | true =>
          rw [hk] at AH
          have FIN := Lib.hid (ST.out hk)
          clear hk GO ST hK hM
          go_wp2_with fail
          go_region_held3 (fun w' => w'.cell? ⟨g, (K) * 2, none⟩ = some (.int .i64 (F (K)).key) ∧ w'.cell? ⟨g, (K) * 2 + 1, none⟩ = some (.int .u64 ((F (K)).num : Int)) ∧ w'.cell? ⟨w.heap.size, 0, none⟩ = some (.int .i64 ok) ∧ w'.cell? ⟨w.heap.size, 1, none⟩ = some (.int .u64 (on : Int)))
            (first | go_keep | exact ⟨(hb4.cellOf lg NG.out _).trans c0', (hb4.cellOf lg NG.out _).trans c1, (hb4.cellOf lq NB.out _).trans q0, (hb4.cellOf lq NB.out _).trans q1⟩)
            (first | (go_at_call 25; refine (AH.out _ LD.out AD.out).mono ?_; rintro e w4 ⟨rfl, hb4⟩))
          all_goals
            clear q0 q1 c0' c1
            go_wp2_with fail
            go_ret
            rw [FIN.out.1]
            refine ⟨rfl, ?_⟩
            rw [FIN.out.2]
            exact A1.out.trans (HD.out.trans hb4)
    · have tk : decide ((n : Int) ≤ (K : Int)) = true := decide_eq_true (by omega)
      have tkn : decide (n ≤ K) = true := decide_eq_true (by omega)
      have FIN := Lib.hid (show RI = p ∧ S = d from ⟨HRI.out.trans (HP2.out.trans (sinkI_end (by omega))), by have h1 := HPC.out; have h2 := HS.out; rw [sinkN_end (p := p) (by omega)] at h1; omega⟩)
      clear hK
      go_wp2_with fail
      go_ret
      rw [FIN.out.1]
      refine ⟨rfl, ?_⟩
      rw [FIN.out.2]
      exact A1.out.trans Hb.out
end Go.Proofs.Ytiegpjlobpmacaa
