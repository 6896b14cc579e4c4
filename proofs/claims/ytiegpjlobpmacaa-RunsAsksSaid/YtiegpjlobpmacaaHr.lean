/- The heap: how far up. -/
import Derived.Test.YtiegpjlobpmacaaHw
import Derived.LoopTactic
namespace Go.Proofs.Ytiegpjlobpmacaa
open Go.RowKit
set_option maxRecDepth 100000

/-- Items in memory. -/
structure ItemsAt (w : World) (g : Nat) (F : Nat → It) (n : Nat) : Prop where
  lt : g < w.heap.size
  k0 : ∀ i, i < n → w.cell? ⟨g, i * 3, none⟩ = some (.int .i64 (F i).key)
  k1 : ∀ i, i < n → w.cell? ⟨g, i * 3 + 1, none⟩ = some (.int .i64 (F i).who)
  k2 : ∀ i, i < n → w.cell? ⟨g, i * 3 + 2, none⟩ = some (.int .u64 ((F i).num : Int))
theorem ItemsAt.keep {w w' : World} {g : Nat} {F : Nat → It} {n : Nat} (h : ItemsAt w g F n) (k : Below w.heap.size w w') : ItemsAt w' g F n :=
  ⟨Nat.lt_of_lt_of_le h.lt k.size, fun i hi => ((bcell k).1 g _ h.lt).trans (h.k0 i hi), fun i hi => ((bcell k).1 g _ h.lt).trans (h.k1 i hi), fun i hi => ((bcell k).1 g _ h.lt).trans (h.k2 i hi)⟩
def RiseR (w : World) (F : Nat → It) (one : It) (n : Nat) (v : Value) (wr : World) : Prop := ∃ p, p ≤ n ∧ v = .int .i64 (p : Int) ∧ riseI F one n = riseI F one p ∧ Below w.heap.size w wr
set_option maxHeartbeats 1600000 in
theorem rise_ok {w : World} {h g n c : Nat} {F : Nat → It} (one : It) (hl : LessAt w h) (hi : ItemsAt w g F n) (hn : n < 1099511627776) :
    Calls Try.prog 19 #[.pointer (some ⟨h, 0, none⟩), .slice (some ⟨g, 0, none⟩) (n + 1) c, .agg #[.int .i64 one.key, .int .i64 one.who, .int .u64 (one.num : Int)]] w (RetBelow w (.int .i64 (riseI F one n : Int))) := by
  obtain ⟨ok, ow, on⟩ := one
  have HL := Lib.hid hl
  have HI := Lib.hid hi
  clear hl hi
  go_enter Try.func19, Try.ntmps19
  go_wp2_with fail
  have R1 := Lib.hid (CellsAt.new w [.int .i64 ok, .int .i64 ow, .int .u64 (on : Int)] 50)
  have B1 := Lib.hid ((Below.refl w.heap.size w).alloc (Nat.le_refl _) (.cells #[.int .i64 ok, .int .i64 ow, .int .u64 (on : Int)] 50))
  change Hid (CellsAt (w.alloc (.cells #[.int .i64 ok, .int .i64 ow, .int .u64 (on : Int)] 50)) _ _) at R1
  generalize w.alloc (.cells #[.int .i64 ok, .int .i64 ow, .int .u64 (on : Int)] 50) = x1 at R1 B1 ⊢
  have HB := Lib.hid (Below.refl x1.heap.size x1)
  go_loopw [7] (fun v wr => RiseR x1 F ⟨ok, ow, on⟩ n v wr) (fun v _ => (intOf v).toNat)
  case atStart => exact ⟨n, Nat.le_refl _, by go_num, rfl, HB.out⟩
  case round =>
    obtain ⟨p, hp1, rfl, hp2, hb⟩ := hrel
    have Hb := Lib.hid hb
    have hsx : w.heap.size < x1.heap.size := R1.out.lt
    have L1 := Lib.hid ((HL.out.keep B1.out).keep hb)
    have I1 := Lib.hid ((HI.out.keep B1.out).keep hb)
    have Q1 := Lib.hid (R1.out.step hb)
    have HP2 := Lib.hid hp2
    clear hp2 hb hsx
    by_cases hp : p = 0
    · subst hp
      have t1 : decide ((0 : Int) < ((0 : Nat) : Int)) = false := by decide
      have FIN := Lib.hid (show riseI F ⟨ok, ow, on⟩ n = 0 by rw [HP2.out, riseI_zero])
      go_wp2_with fail
      go_quiet (fail)
      go_wp2_with fail
      go_ret
      rw [FIN.out]
      exact ⟨rfl, B1.out.trans ((bdrewB Hb.out _).mono B1.out.size)⟩
    · have hp0 : 0 < p := by omega
      have t1 : decide ((0 : Int) < (p : Int)) = true := decide_eq_true (by omega)
      have t1n : decide (0 < p) = true := decide_eq_true hp0
      have AB := Lib.hid (fun W : World => above_pos p hp0 (by omega) W)
      have alt := abv_lt hp0
      have aa : abv p < n := by omega
      have AH := Lib.hid (fun (W : World) (l : LessAt W h) => ahead_ok l ⟨ok, ow, on⟩ (F (abv p)))
      have c0 := I1.out.k0 _ aa
      have c1 := I1.out.k1 _ aa
      have c2 := I1.out.k2 _ aa
      have lg := I1.out.lt
      have q0 := Q1.out.cell 0 _ rfl
      have q1 := Q1.out.cell 1 _ rfl
      have q2 := Q1.out.cell 2 _ rfl
      have lq := Q1.out.lt
      have GO := Lib.hid (fun (hk : ahd ⟨ok, ow, on⟩ (F (abv p)) = true) => HP2.out.trans (riseI_go hp0 hk))
      have ST := Lib.hid (fun (hk : ahd ⟨ok, ow, on⟩ (F (abv p)) = false) => HP2.out.trans (riseI_stay hk))
      have LD := Lib.hid (show LessAt wr.drew h from ⟨L1.out.lt, L1.out.cell⟩)
      generalize abv p = A at *
      have a1 : (A : Int) < (n : Int) + 1 := by omega
      have a2 : (0 : Int) ≤ (A : Int) := by omega
      cases hk : ahd ⟨ok, ow, on⟩ (F A) with
      | true =>
        rw [hk] at AH
        have FIN := Lib.hid (GO.out hk)
        have AL := Lib.hid alt
        clear hk GO ST alt
        go_wp2_with fail
        go_region_held3 (fun w' => w'.cell? ⟨g, A * 3, none⟩ = some (.int .i64 (F A).key) ∧ w'.cell? ⟨g, A * 3 + 1, none⟩ = some (.int .i64 (F A).who) ∧ w'.cell? ⟨g, A * 3 + 2, none⟩ = some (.int .u64 ((F A).num : Int)) ∧ w'.cell? ⟨w.heap.size, 0, none⟩ = some (.int .i64 ok) ∧ w'.cell? ⟨w.heap.size, 1, none⟩ = some (.int .i64 ow) ∧ w'.cell? ⟨w.heap.size, 2, none⟩ = some (.int .u64 (on : Int)))
          (first | go_keep | exact ⟨((bcell hb3).1 g _ lg).trans c0, ((bcell hb3).1 g _ lg).trans c1, ((bcell hb3).1 g _ lg).trans c2, ((bcell hb3).1 _ _ lq).trans q0, ((bcell hb3).1 _ _ lq).trans q1, ((bcell hb3).1 _ _ lq).trans q2⟩)
          (first | (go_at_call 20; refine (AB.out _).mono ?_; rintro e w3 ⟨rfl, rfl⟩) | (go_at_call 24; refine (AH.out _ LD.out).mono ?_; rintro e w3 ⟨rfl, hb3⟩))
        all_goals
          clear q0 q1 q2 c0 c1 c2
          go_wp2_with (go_at_call 20; refine (AB.out _).mono ?_; rintro e w4 ⟨rfl, rfl⟩)
          go_roundw
          case rel => exact ⟨A, by omega, rfl, FIN.out, Hb.out.drew.trans (hb3.mono Hb.out.size)⟩
          case measure => have := AL.out; simp [intOf]; omega
      | false =>
        rw [hk] at AH
        have FIN := Lib.hid (ST.out hk)
        clear hk GO ST alt
        go_wp2_with fail
        go_region_held3 (fun w' => w'.cell? ⟨g, A * 3, none⟩ = some (.int .i64 (F A).key) ∧ w'.cell? ⟨g, A * 3 + 1, none⟩ = some (.int .i64 (F A).who) ∧ w'.cell? ⟨g, A * 3 + 2, none⟩ = some (.int .u64 ((F A).num : Int)) ∧ w'.cell? ⟨w.heap.size, 0, none⟩ = some (.int .i64 ok) ∧ w'.cell? ⟨w.heap.size, 1, none⟩ = some (.int .i64 ow) ∧ w'.cell? ⟨w.heap.size, 2, none⟩ = some (.int .u64 (on : Int)))
          (first | go_keep | exact ⟨((bcell hb3).1 g _ lg).trans c0, ((bcell hb3).1 g _ lg).trans c1, ((bcell hb3).1 g _ lg).trans c2, ((bcell hb3).1 _ _ lq).trans q0, ((bcell hb3).1 _ _ lq).trans q1, ((bcell hb3).1 _ _ lq).trans q2⟩)
          (first | (go_at_call 20; refine (AB.out _).mono ?_; rintro e w3 ⟨rfl, rfl⟩) | (go_at_call 24; refine (AH.out _ LD.out).mono ?_; rintro e w3 ⟨rfl, hb3⟩))
        all_goals
          clear q0 q1 q2 c0 c1 c2
          go_wp2_with fail
          go_ret
          rw [FIN.out]
          exact ⟨rfl, B1.out.trans ((Hb.out.drew.trans (hb3.mono Hb.out.size)).mono B1.out.size)⟩
end Go.Proofs.Ytiegpjlobpmacaa
