/- Plans that may be: the walks. -/
import Derived.Test.YtolnojhepakaoaaFile
namespace Go.Proofs.Ytolnojhepakaoaa
open Go.RowKit Go.Maps Go.MuLone

set_option maxRecDepth 100000 in
set_option maxHeartbeats 800000 in
theorem sizesHold_ok (mb mf mh pi pp : Int) (sh fa : Value) (w : World) (b0 : 0 ≤ mb) (b1 : mb ≤ 67108864) (f0 : 1 ≤ mf) (f1 : mf ≤ 1024) (h0 : 1 ≤ mh) (h1 : mh ≤ 256) :
    Calls Try.prog 53 #[.agg #[.int .i64 mb, .int .i64 mf, .int .i64 mh, sh, fa, .int .i64 pi, .int .i64 pp]] w fun e w' => e = .returned (.bool true) ∧ Keeps [] w w' := by
  go_enter Try.func53, Try.ntmps53
  go_wp2_with fail
  go_ret
  exact ⟨rfl, (Keeps.refl _ _).alloc _⟩

set_option maxHeartbeats 400000 in
theorem lt1_ok (n : Int) (w : World) (h : 1 ≤ n) : Calls Try.prog 68 #[.int .i64 n] w fun e w' => e = .returned (.bool false) ∧ w = w' := by
  have t : decide (n < 1) = false := by rw [decide_eq_false_iff_not]; omega
  go_enter Try.func68, Try.ntmps68
  go_wp2_with fail
  go_ret
  exact ⟨rfl, rfl⟩

set_option maxRecDepth 100000 in
set_option maxHeartbeats 800000 in
theorem indexFunc_int (sb so sn sc : Nat) (z : Nat → Int) (w : World) (hn : sn ≤ 64) (hz : ∀ j, j < sn → w.cell? ⟨sb, so + j, none⟩ = some (.int .i64 (z j)) ∧ 1 ≤ z j) :
    Calls Try.prog 86 #[.slice (some ⟨sb, so, none⟩) sn sc, .func (.func 68) #[] #[]] w fun e w' => e = .returned (.int .i64 (-1)) ∧ w = w' := by
  have Hz := Lib.hid hz
  clear hz
  go_enter Try.func86, Try.ntmps86
  go_wp2_with fail
  go_loop [5, 8] (fun j i => ∃ k : Nat, k ≤ sn ∧ i = .int .i64 k) (fun _ i => sn - (intOf i).toNat)
  case atStart => exact ⟨0, Nat.zero_le _, rfl⟩
  case round =>
    obtain ⟨k, hk, rfl⟩ := hrel
    by_cases hlt : k < sn
    · have hc := (Hz.out k hlt).1
      have h1 := (Hz.out k hlt).2
      generalize z k = zk at *
      go_wp2_with fail
      refine (lt1_ok zk w h1).mono ?_
      rintro e w' ⟨rfl, rfl⟩
      go_wp2_with fail
      go_round
      case rel => exact ⟨k + 1, by omega, by go_num⟩
      case measure => simp [intOf]; omega
    · go_wp2_with fail
      go_ret
      exact ⟨rfl, rfl⟩

set_option maxHeartbeats 400000 in
theorem indexFunc_none (so : Option Addr) (sc : Nat) (w : World) :
    Calls Try.prog 86 #[.slice so 0 sc, .func (.func 68) #[] #[]] w fun e w' => e = .returned (.int .i64 (-1)) ∧ w = w' := by
  go_enter Try.func86, Try.ntmps86
  go_wp2_with fail
  refine wp_loop_rounds 1 ?_; rw [rounds_succ]
  go_wp2_with fail
  go_ret
  exact ⟨rfl, rfl⟩

set_option maxHeartbeats 400000 in
theorem indexFault_none (w : World) :
    Calls Try.prog 87 #[.slice none 0 0, .func (.func 70) #[] #[]] w fun e w' => e = .returned (.int .i64 (-1)) ∧ w = w' := by
  go_enter Try.func87, Try.ntmps87
  go_wp2_with fail
  refine wp_loop_rounds 1 ?_; rw [rounds_succ]
  go_wp2_with fail
  go_ret
  exact ⟨rfl, rfl⟩

/-- A list of short reads that may be. -/
def ShortOk (w : World) (sh : Value) : Prop :=
  (∃ so sc, sh = .slice so 0 sc) ∨ ∃ (sb so sn sc : Nat) (z : Nat → Int), sh = .slice (some ⟨sb, so, none⟩) sn sc ∧ 0 < sn ∧ sn ≤ 64 ∧ ∀ j, j < sn → w.cell? ⟨sb, so + j, none⟩ = some (.int .i64 (z j)) ∧ 1 ≤ z j

set_option maxHeartbeats 400000 in
theorem contains_int (sh : Value) (w : World) (hs : ShortOk w sh) : Calls Try.prog 67 #[sh, .func (.func 68) #[] #[]] w fun e w' => e = .returned (.bool false) ∧ w = w' := by
  rcases hs with ⟨so, sc, rfl⟩ | ⟨sb, so, sn, sc, z, rfl, h0, h1, h2⟩
  · go_enter Try.func67, Try.ntmps67
    go_wp2_with fail
    refine (indexFunc_none so sc w).mono ?_
    rintro e w' ⟨rfl, rfl⟩
    go_wp2_with fail
    go_ret
    exact ⟨rfl, rfl⟩
  · have H2 := Lib.hid h2
    clear h2
    go_enter Try.func67, Try.ntmps67
    go_wp2_with fail
    refine (indexFunc_int sb so sn sc z w h1 H2.out).mono ?_
    rintro e w' ⟨rfl, rfl⟩
    go_wp2_with fail
    go_ret
    exact ⟨rfl, rfl⟩

set_option maxHeartbeats 400000 in
theorem contains_fault (w : World) : Calls Try.prog 69 #[.slice none 0 0, .func (.func 70) #[] #[]] w fun e w' => e = .returned (.bool false) ∧ w = w' := by
  go_enter Try.func69, Try.ntmps69
  go_wp2_with fail
  refine (indexFault_none w).mono ?_
  rintro e w' ⟨rfl, rfl⟩
  go_wp2_with fail
  go_ret
  exact ⟨rfl, rfl⟩

theorem ShortOk.slice {w : World} {sh : Value} (h : ShortOk w sh) : ∃ so sn sc, sh = .slice so sn sc ∧ sn ≤ 64 := by
  rcases h with ⟨so, sc, rfl⟩ | ⟨sb, so, sn, sc, z, rfl, h0, h1, h2⟩
  · exact ⟨so, 0, sc, rfl, by omega⟩
  · exact ⟨_, sn, sc, rfl, h1⟩
theorem ShortOk.keeps {w w' : World} {sh : Value} (h : ShortOk w sh) (k : Keeps [] w w') : ShortOk w' sh := by
  rcases h with h | ⟨sb, so, sn, sc, z, rfl, h0, h1, h2⟩
  · exact .inl h
  · exact .inr ⟨sb, so, sn, sc, z, rfl, h0, h1, fun j hj => ⟨(World.cell?_of_block (k.block _ (World.block_lt_of_cell? w _ (h2 j hj).1) (by simp))).trans (h2 j hj).1, (h2 j hj).2⟩⟩

set_option maxRecDepth 100000 in
set_option maxHeartbeats 800000 in
theorem planHolds_ok (mb mf mh pi pp : Int) (sh : Value) (w : World) (hs : ShortOk w sh) (i0 : 0 ≤ pi) (p0 : 0 ≤ pp) :
    Calls Try.prog 54 #[.agg #[.int .i64 mb, .int .i64 mf, .int .i64 mh, sh, .slice none 0 0, .int .i64 pi, .int .i64 pp]] w fun e w' => e = .returned (.bool true) ∧ Keeps [] w w' := by
  obtain ⟨so, sn, sc, rfl, hn⟩ := hs.slice
  have Hs := Lib.hid hs
  clear hs
  go_enter Try.func54, Try.ntmps54
  go_wp2_with fail
  refine (contains_int _ _ (Hs.out.keeps ((Keeps.refl _ _).alloc _))).mono ?_
  rintro e w' ⟨rfl, rfl⟩
  go_wp2_with fail
  refine (contains_fault _).mono ?_
  rintro e w' ⟨rfl, rfl⟩
  go_wp2_with fail
  go_ret
  exact ⟨rfl, (Keeps.refl _ _).alloc _⟩
end Go.Proofs.Ytolnojhepakaoaa
