/- How far up, and how often it is asked. -/
import Derived.Test.YtiegpjlobpmacaaQa
namespace Go.Proofs.Ytiegpjlobpmacaa
open Go.RowKit
set_option maxRecDepth 100000
/-- Items in memory: a key and a number. -/
structure Items2 (w : World) (g ba : Nat) (F : Nat → It) (n : Nat) : Prop where
  lt : g < w.heap.size
  ne : g ≠ ba
  k0 : ∀ i, i < n → w.cell? ⟨g, i * 2, none⟩ = some (.int .i64 (F i).key)
  k1 : ∀ i, i < n → w.cell? ⟨g, i * 2 + 1, none⟩ = some (.int .u64 ((F i).num : Int))
theorem Items2.keep {w w' : World} {g ba : Nat} {F : Nat → It} {n : Nat} (h : Items2 w g ba F n) (k : Below w.heap.size w w') : Items2 w' g ba F n :=
  ⟨Nat.lt_of_lt_of_le h.lt k.size, h.ne, fun i hi => ((bcell k).1 g _ h.lt).trans (h.k0 i hi), fun i hi => ((bcell k).1 g _ h.lt).trans (h.k1 i hi)⟩
theorem Items2.ask {w w' : World} {g ba c : Nat} {F : Nat → It} {n : Nat} (h : Items2 w g ba F n) (k : Ask ba c w w') : Items2 w' g ba F n :=
  ⟨Nat.lt_of_lt_of_le h.lt k.size, h.ne, fun i hi => (k.cellOf h.lt h.ne _).trans (h.k0 i hi), fun i hi => (k.cellOf h.lt h.ne _).trans (h.k1 i hi)⟩
def RisR (w : World) (ba c0 : Nat) (F : Nat → It) (one : It) (n : Nat) (v : Value) (wr : World) : Prop := ∃ p c, p ≤ n ∧ v = .int .i64 (p : Int) ∧ riseI F one n = riseI F one p ∧ c0 + riseN F one n = c + riseN F one p ∧ Ask ba c w wr
set_option maxHeartbeats 1600000 in
theorem rise2_ok {w : World} {h ba c0 g n c : Nat} {F : Nat → It} (one : It) (hl : LesAt w h ba) (ha : AskAt w ba c0) (hi : Items2 w g ba F n) (hn : n < 1048576) (hc0 : c0 < 1048576) :
    Calls Try.prog 22 #[.pointer (some ⟨h, 0, none⟩), .slice (some ⟨g, 0, none⟩) (n + 1) c, .agg #[.int .i64 one.key, .int .u64 (one.num : Int)]] w (RetAsk w ba (c0 + riseN F one n) (.int .i64 (riseI F one n : Int))) := by
  have hcn : c0 + riseN F one n < 1099511627776 := by
    have h1 := riseN_le F one n
    have h2 := dgt_le _ (n + 1) (Nat.le_refl _)
    omega
  obtain ⟨ok, ow, on⟩ := one
  have HL := Lib.hid hl
  have HI := Lib.hid hi
  have HA := Lib.hid ha
  clear hl hi ha
  obtain ⟨S, hS⟩ : ∃ S, S = c0 + riseN F ⟨ok, ow, on⟩ n := ⟨_, rfl⟩
  have HS := Lib.hid hS
  rw [← hS] at hcn ⊢
  obtain ⟨RI, hRI⟩ : ∃ RI, RI = riseI F ⟨ok, ow, on⟩ n := ⟨_, rfl⟩
  have HRI := Lib.hid hRI
  rw [← hRI]
  clear hS hRI
  go_enter Try.func22, Try.ntmps22
  go_wp2_with fail
  have R1 := Lib.hid (CellsAt.new w [.int .i64 ok, .int .u64 (on : Int)] 56)
  have B1 := Lib.hid ((Below.refl w.heap.size w).alloc (Nat.le_refl _) (.cells #[.int .i64 ok, .int .u64 (on : Int)] 56))
  have A1 := Lib.hid (Ask.of HA.out B1.out)
  have NB := Lib.hid (show w.heap.size ≠ ba from fun e => by have := lt_of_heap HA.out; omega)
  change Hid (CellsAt (w.alloc (.cells #[.int .i64 ok, .int .u64 (on : Int)] 56)) _ _) at R1
  generalize w.alloc (.cells #[.int .i64 ok, .int .u64 (on : Int)] 56) = x1 at R1 B1 A1 ⊢
  have HB := Lib.hid (show RisR x1 ba c0 F ⟨ok, ow, on⟩ n (.int .i64 (n : Int)) x1 from ⟨n, c0, Nat.le_refl _, by go_num, rfl, rfl, Ask.of A1.out.cell (Below.refl _ _)⟩)
  go_loopw [7] (fun v wr => RisR x1 ba c0 F ⟨ok, ow, on⟩ n v wr) (fun v _ => (intOf v).toNat)
  case atStart => exact HB.out
  case round =>
    clear HB
    obtain ⟨p, d, hp1, rfl, hp2, hpc, hb⟩ := hrel
    have Hb := Lib.hid hb
    have hsx : w.heap.size < x1.heap.size := R1.out.lt
    have L1 := Lib.hid ((HL.out.keep B1.out).ask hb)
    have I1 := Lib.hid ((HI.out.keep B1.out).ask hb)
    have Q1 := Lib.hid (R1.out.ask hb NB.out)
    have HP2 := Lib.hid hp2
    have HPC := Lib.hid hpc
    clear hp2 hb hsx hpc
    by_cases hp : p = 0
    · subst hp
      have t1 : decide ((0 : Int) < ((0 : Nat) : Int)) = false := by decide
      have FIN := Lib.hid (show RI = 0 by rw [HRI.out, HP2.out, riseI_zero])
      have FC := Lib.hid (show S = d by have h1 := HPC.out; have h2 := HS.out; rw [riseN_zero] at h1; omega)
      go_wp2_with fail
      go_quiet (fail)
      go_wp2_with fail
      go_ret
      rw [FIN.out]
      refine ⟨rfl, ?_⟩
      rw [FC.out]
      exact (A1.out.trans Hb.out).below (below_drewN _ _)
    · have hp0 : 0 < p := by omega
      have t1 : decide ((0 : Int) < (p : Int)) = true := decide_eq_true (by omega)
      have t1n : decide (0 < p) = true := decide_eq_true hp0
      have AB := Lib.hid (fun W : World => above_pos p hp0 (by omega) W)
      have alt := abv_lt hp0
      have aa : abv p < n := by omega
      have hd : d < 1099511627776 := by have h1 := HPC.out; have h2 := HS.out; omega
      have AH := Lib.hid (fun (W : World) (l : LesAt W h ba) (q : AskAt W ba d) => ahead2_ok l q hd ⟨ok, ow, on⟩ (F (abv p)))
      have c0' := I1.out.k0 _ aa
      have c1 := I1.out.k1 _ aa
      have lg := I1.out.lt
      have q0 := Q1.out.cell 0 _ rfl
      have q1 := Q1.out.cell 1 _ rfl
      have lq := Q1.out.lt
      have GO := Lib.hid (fun (hk : ahd ⟨ok, ow, on⟩ (F (abv p)) = true) => (show riseI F ⟨ok, ow, on⟩ n = riseI F ⟨ok, ow, on⟩ (abv p) ∧ c0 + riseN F ⟨ok, ow, on⟩ n = (d + 1) + riseN F ⟨ok, ow, on⟩ (abv p) from ⟨HP2.out.trans (riseI_go hp0 hk), by have h1 := HPC.out; rw [riseN_go hp0 hk] at h1; omega⟩))
      have ST := Lib.hid (fun (hk : ahd ⟨ok, ow, on⟩ (F (abv p)) = false) => (show RI = p ∧ S = d + 1 from ⟨HRI.out.trans (HP2.out.trans (riseI_stay hk)), by have h1 := HPC.out; have h2 := HS.out; rw [riseN_stay hp0 hk] at h1; omega⟩))
      have LD := Lib.hid (show LesAt wr.drew h ba from ⟨L1.out.lt, L1.out.ne, L1.out.cell⟩)
      have AD := Lib.hid (show AskAt wr.drew ba d from Hb.out.cell)
      have HD := Lib.hid (show Ask ba d x1 wr.drew from Hb.out.below (Below.refl _ _).drew)
      have NG := Lib.hid I1.out.ne
      generalize abv p = A at *
      have a1 : (A : Int) < (n : Int) + 1 := by omega
      have a2 : (0 : Int) ≤ (A : Int) := by omega
      cases hk : ahd ⟨ok, ow, on⟩ (F A) with
      | true =>
        rw [hk] at AH
        have FIN := Lib.hid (GO.out hk)
        have AL := Lib.hid alt
        clear hk GO ST alt
        go_wp2_with fail
        go_region_held3 (fun w' => w'.cell? ⟨g, A * 2, none⟩ = some (.int .i64 (F A).key) ∧ w'.cell? ⟨g, A * 2 + 1, none⟩ = some (.int .u64 ((F A).num : Int)) ∧ w'.cell? ⟨w.heap.size, 0, none⟩ = some (.int .i64 ok) ∧ w'.cell? ⟨w.heap.size, 1, none⟩ = some (.int .u64 (on : Int)))
          (first | go_keep | exact ⟨(hb3.cellOf lg NG.out _).trans c0', (hb3.cellOf lg NG.out _).trans c1, (hb3.cellOf lq NB.out _).trans q0, (hb3.cellOf lq NB.out _).trans q1⟩)
          (first | (go_at_call 20; refine (AB.out _).mono ?_; rintro e w3 ⟨rfl, rfl⟩) | (go_at_call 25; refine (AH.out _ LD.out AD.out).mono ?_; rintro e w3 ⟨rfl, hb3⟩))
        all_goals
          clear q0 q1 c0' c1
          go_wp2_with (go_at_call 20; refine (AB.out _).mono ?_; rintro e w4 ⟨rfl, rfl⟩)
          go_roundw
          case rel => exact ⟨A, d + 1, by omega, rfl, FIN.out.1, FIN.out.2, HD.out.trans hb3⟩
          case measure => have := AL.out; simp [intOf]; omega
      | false =>
        rw [hk] at AH
        have FIN := Lib.hid (ST.out hk)
        clear hk GO ST alt
        go_wp2_with fail
        go_region_held3 (fun w' => w'.cell? ⟨g, A * 2, none⟩ = some (.int .i64 (F A).key) ∧ w'.cell? ⟨g, A * 2 + 1, none⟩ = some (.int .u64 ((F A).num : Int)) ∧ w'.cell? ⟨w.heap.size, 0, none⟩ = some (.int .i64 ok) ∧ w'.cell? ⟨w.heap.size, 1, none⟩ = some (.int .u64 (on : Int)))
          (first | go_keep | exact ⟨(hb3.cellOf lg NG.out _).trans c0', (hb3.cellOf lg NG.out _).trans c1, (hb3.cellOf lq NB.out _).trans q0, (hb3.cellOf lq NB.out _).trans q1⟩)
          (first | (go_at_call 20; refine (AB.out _).mono ?_; rintro e w3 ⟨rfl, rfl⟩) | (go_at_call 25; refine (AH.out _ LD.out AD.out).mono ?_; rintro e w3 ⟨rfl, hb3⟩))
        all_goals
          clear q0 q1 c0' c1
          go_wp2_with fail
          go_ret
          rw [FIN.out.1]
          refine ⟨rfl, ?_⟩
          rw [FIN.out.2]
          exact A1.out.trans (HD.out.trans hb3)
end Go.Proofs.Ytiegpjlobpmacaa
