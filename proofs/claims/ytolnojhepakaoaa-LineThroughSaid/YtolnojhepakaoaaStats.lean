/- Stats and Stats: the walk. -/
import Derived.Test.YtolnojhepakaoaaFile
import Derived.Deep.MidRow
namespace Go.Proofs.Ytolnojhepakaoaa
open Go.RowKit Go.Maps Go.MuLone
def FSt.statsL (s : FSt) : List Value := [.int .i64 s.calls, .int .i64 (s.ops 0), .int .i64 (s.ops 1), .int .i64 (s.ops 2), .int .i64 (s.ops 3), .int .i64 (s.ops 4), .int .i64 (s.ops 5), .int .i64 (s.ops 6), .int .i64 (s.ops 7), .int .i64 (s.ops 8), .int .i64 s.made, .int .i64 s.written, .int .i64 s.opn, .int .i64 s.peak, .int .i64 s.used, .int .i64 s.most, .bool s.stp, .bool s.drk]
def FSt.stats (s : FSt) : Value := .agg s.statsL.toArray
theorem info47 : (Try.prog.info? 71).map (·.size) = some 18 := by kernel_rfl
theorem statsL_size (s : FSt) : s.statsL.toArray.size = 18 := rfl
theorem statsL_one (s : FSt) : s.statsL.toArray.all (·.oneCell') = true := by simp [FSt.statsL, Value.oneCell']
theorem stats_range {w : World} {b : Nat} {l : Int} {s : FSt} (h : FsAt w b l s) : w.rangeAt b 13 s.statsL := by
  intro j v hj
  rw [h.cell, ← hj]
  have hl : j < 18 := by
    rcases Nat.lt_or_ge j 18 with h' | h'
    · exact h'
    · rw [List.getElem?_eq_none (by show 18 ≤ j; exact h')] at hj; cases hj
  match j, hl with
  | 0, _ | 1, _ | 2, _ | 3, _ | 4, _ | 5, _ | 6, _ | 7, _ | 8, _ | 9, _ | 10, _ | 11, _ | 12, _ | 13, _ | 14, _ | 15, _ | 16, _ | 17, _ => rfl
set_option maxRecDepth 100000 in
set_option maxHeartbeats 1600000 in
theorem stats_ok (b : Nat) (s : FSt) (w : World) (hb : FsAt w b 0 s) :
    Calls Try.prog 30 #[.pointer (some ⟨b, 0, none⟩)] w fun e w' => e = .returned s.stats ∧ FsAt w' b 0 s ∧ Keeps [b] w w' := by
  have z0 : w.cell? ⟨b, 0, none⟩ = some (.int .i32 0) := by rw [hb.cell]; rfl
  have f0 := hb.free 0
  have Hb := Lib.hid hb
  clear hb
  go_enter_defers Try.func30, Try.ntmps30
  go_wp2_with fail
  have hb0 := Hb.out.alloc (.cells #[.int .i64 0, .int .i64 0, .int .i64 0, .int .i64 0, .int .i64 0, .int .i64 0, .int .i64 0, .int .i64 0, .int .i64 0, .int .i64 0, .int .i64 0, .int .i64 0, .int .i64 0, .int .i64 0, .int .i64 0, .int .i64 0, .bool false, .bool false] 71)
  have kp0 := (Keeps.refl [b] w).alloc (.cells #[.int .i64 0, .int .i64 0, .int .i64 0, .int .i64 0, .int .i64 0, .int .i64 0, .int .i64 0, .int .i64 0, .int .i64 0, .int .i64 0, .int .i64 0, .int .i64 0, .int .i64 0, .int .i64 0, .int .i64 0, .int .i64 0, .bool false, .bool false] 71)
  have hr0 := heap_alloc_new w (.cells #[.int .i64 0, .int .i64 0, .int .i64 0, .int .i64 0, .int .i64 0, .int .i64 0, .int .i64 0, .int .i64 0, .int .i64 0, .int .i64 0, .int .i64 0, .int .i64 0, .int .i64 0, .int .i64 0, .int .i64 0, .int .i64 0, .bool false, .bool false] 71)
  have hlb := lt_of_block Hb.out
  clear z0 f0
  generalize w.alloc _ = w0 at *
  generalize hR : w.heap.size = R at *
  refine (lock_free Try.muLib ⟨b, 0, none⟩ _ (by rw [hb0.cell]; rfl) (hb0.free 0)).mono ?_
  rintro e w1 ⟨rfl, hw1⟩
  have hb1 : FsAt w1 b 1 s := by rw [hw1]; exact hb0.set 0 _ rfl
  have kp1 : Keeps [b] w w1 := by rw [hw1]; exact kp0.setCell (by simp) _
  have hr1 : w1.heap[R]? = some (.cells #[.int .i64 0, .int .i64 0, .int .i64 0, .int .i64 0, .int .i64 0, .int .i64 0, .int .i64 0, .int .i64 0, .int .i64 0, .int .i64 0, .int .i64 0, .int .i64 0, .int .i64 0, .int .i64 0, .int .i64 0, .int .i64 0, .bool false, .bool false] 71 (0, 0)) := by rw [hw1]; exact (heap_set_ne (by simp; omega) _).trans hr0
  have Hw1 := Lib.hid hw1
  have HR := Lib.hid hR
  clear hw1 hr0 kp0 hb0 hR
  have Hb1 := Lib.hid hb1
  have Kp1 := Lib.hid kp1
  have Hr1 := Lib.hid hr1
  clear hb1 kp1 hr1
  go_wp2_with (first
    | (refine wpList_load_mid rfl 71 _ rfl b 13 rfl s.statsL _ (stats_range Hb1.out) Try.underlying71 rfl info47 ?_)
    | (refine wpList_store_row rfl 71 _ _ rfl R s.statsL.toArray rfl rfl 71 _ Hr1.out info47 rfl (statsL_one s) ?_))
  have hr2 : (w1.setRow R s.statsL.toArray).heap[R]? = some (.cells s.statsL.toArray 71 (0, 0)) := setRow_heap w1 R _ _ 71 (0, 0) Hr1.out
  have hb2 : FsAt (w1.setRow R s.statsL.toArray) b 1 s := (setRow_other w1 R b _ (by omega)).trans Hb1.out
  have kp2 : Keeps [b] w (w1.setRow R s.statsL.toArray) := ⟨Kp1.out.os, Kp1.out.tape, Kp1.out.output, by have := Kp1.out.size; simpa [World.setRow] using this, fun k hk hn => (setRow_other w1 R k _ (by have := HR.out; omega)).trans (Kp1.out.block k hk hn)⟩
  refine leaves_cons (f := 43) (args := #[.pointer (some ⟨b, 0, none⟩)]) (by simp) (by simp [go_sem]) ?_
  refine (unlock_deferred Try.muLib ⟨b, 0, none⟩ .returning _ ?_ ?_).mono ?_
  · rw [hb2.cell]; rfl
  · exact hb2.free 0
  rintro e u' w'' ⟨rfl, rfl, rfl⟩
  exact ⟨_, results_cell_row rfl _ _ R 71 s.statsL.toArray (0, 0) _ rfl ((heap_set_ne (a := ⟨b, 0, none⟩) (show R ≠ b by omega) _).trans hr2) Try.underlying71 rfl info47, rfl, hb2.set 0 _ rfl, kp2.setCell (by simp) _⟩
end Go.Proofs.Ytolnojhepakaoaa
