/- New: the walk. -/
import Derived.Test.YtolnojhepakaoaaBegin
namespace Go.Proofs.Ytolnojhepakaoaa
open Go.RowKit Go.Maps Go.MuLone

/-- A system that has just been made. -/
def newFS (mb mf mh pp : Int) (sh d : Value) (mp : Nat) : FSt := { mb := mb, mf := mf, mh := mh, pc := mb, pf := mf, ph := mh, sh := sh, fa := .slice none 0 0, pi := 0, pp := pp, mp := mp, calls := 0, ops := fun _ => 0, made := 0, written := 0, opn := 0, peak := 0, used := 0, most := 0, stp := false, drk := false, done := d, life := 0 }

set_option maxRecDepth 100000 in
set_option maxHeartbeats 1600000 in
theorem new_ok (mb mf mh pp : Int) (sh : Value) (w : World) (hs : ShortOk w sh) (p0 : 0 ≤ pp) (b0 : 0 ≤ mb) (b1 : mb ≤ 67108864) (f0 : 1 ≤ mf) (f1 : mf ≤ 1024) (h0 : 1 ≤ mh) (h1 : mh ≤ 256) :
    Calls Try.prog 27 #[.agg #[.int .i64 mb, .int .i64 mf, .int .i64 mh, sh, .slice none 0 0, .int .i64 0, .int .i64 pp]] w fun e w' => ∃ b mp sh' d, e = .returned (.tuple #[.pointer (some ⟨b, 0, none⟩), .int .i64 0]) ∧
      FsAt w' b 0 (newFS mb mf mh pp sh' d mp) ∧ w'.ownsMap Try.prog 9 heldR mp 0 (.map []) ∧ ShortAt w' sh' b ∧ mp ≠ b ∧ w.heap.size ≤ b ∧ w.heap.size ≤ mp ∧ Keeps [] w w' := by
  obtain ⟨so, sn, sc, rfl, hn⟩ := hs.slice
  have hmm := @run_makeMap Try.prog
  have Hs := Lib.hid hs
  clear hs
  go_enter Try.func27, Try.ntmps27
  go_wp2_with fail
  refine (sizesHold_ok mb mf mh 0 pp _ _ _ b0 b1 f0 f1 h0 h1).mono ?_
  rintro e w1 ⟨rfl, kp1⟩
  have hr1 := (kp1.block w.heap.size (by simp) (by simp)).trans (heap_alloc_new w _)
  have kw1 := ((Keeps.refl [] w).alloc _).trans kp1
  generalize hR : w.heap.size = R at *
  have c0 : w1.cell? ⟨R, 0, none⟩ = some (.int .i64 mb) := by rw [cell_of hr1]; rfl
  have c1 : w1.cell? ⟨R, 1, none⟩ = some (.int .i64 mf) := by rw [cell_of hr1]; rfl
  have c2 : w1.cell? ⟨R, 2, none⟩ = some (.int .i64 mh) := by rw [cell_of hr1]; rfl
  have c3 : w1.cell? ⟨R, 3, none⟩ = some (.slice so sn sc) := by rw [cell_of hr1]; rfl
  have c4 : w1.cell? ⟨R, 4, none⟩ = some (.slice none 0 0) := by rw [cell_of hr1]; rfl
  have c5 : w1.cell? ⟨R, 5, none⟩ = some (.int .i64 0) := by rw [cell_of hr1]; rfl
  have c6 : w1.cell? ⟨R, 6, none⟩ = some (.int .i64 pp) := by rw [cell_of hr1]; rfl
  have Hr1 := Lib.hid hr1
  have Kw1 := Lib.hid kw1
  clear hr1 kw1 kp1
  go_wp2_with fail
  refine (planHolds_ok mb mf mh 0 pp _ _ (Hs.out.keeps Kw1.out) (by omega) p0).mono ?_
  rintro e w2 ⟨rfl, kp2⟩
  have hr2 := (kp2.block R (lt_of_block Hr1.out) (by simp)).trans Hr1.out
  have kw2 := Kw1.out.trans kp2
  clear c0 c1 c2 c3 c4 c5 c6 kp2
  have c0 : w2.cell? ⟨R, 0, none⟩ = some (.int .i64 mb) := by rw [cell_of hr2]; rfl
  have c1 : w2.cell? ⟨R, 1, none⟩ = some (.int .i64 mf) := by rw [cell_of hr2]; rfl
  have c2 : w2.cell? ⟨R, 2, none⟩ = some (.int .i64 mh) := by rw [cell_of hr2]; rfl
  have cA : ∀ o o' : Obj, ((w2.alloc o).alloc o').heap[R]? = some (.cells #[.int .i64 mb, .int .i64 mf, .int .i64 mh, .slice so sn sc, .slice none 0 0, .int .i64 0, .int .i64 pp] 59 (0, 0)) := fun o o' => (((Keeps.refl [] w2).alloc o).alloc o').block R (lt_of_block hr2) (by simp) |>.trans hr2
  have c0' : ∀ o o' : Obj, ((w2.alloc o).alloc o').cell? ⟨R, 0, none⟩ = some (.int .i64 mb) := fun o o' => by rw [cell_of (cA o o')]; rfl
  have c1' : ∀ o o' : Obj, ((w2.alloc o).alloc o').cell? ⟨R, 1, none⟩ = some (.int .i64 mf) := fun o o' => by rw [cell_of (cA o o')]; rfl
  have c2' : ∀ o o' : Obj, ((w2.alloc o).alloc o').cell? ⟨R, 2, none⟩ = some (.int .i64 mh) := fun o o' => by rw [cell_of (cA o o')]; rfl
  have c3' : ∀ o o' : Obj, ((w2.alloc o).alloc o').cell? ⟨R, 3, none⟩ = some (.slice so sn sc) := fun o o' => by rw [cell_of (cA o o')]; rfl
  have c4' : ∀ o o' : Obj, ((w2.alloc o).alloc o').cell? ⟨R, 4, none⟩ = some (.slice none 0 0) := fun o o' => by rw [cell_of (cA o o')]; rfl
  have c5' : ∀ o o' : Obj, ((w2.alloc o).alloc o').cell? ⟨R, 5, none⟩ = some (.int .i64 0) := fun o o' => by rw [cell_of (cA o o')]; rfl
  have c6' : ∀ o o' : Obj, ((w2.alloc o).alloc o').cell? ⟨R, 6, none⟩ = some (.int .i64 pp) := fun o o' => by rw [cell_of (cA o o')]; rfl
  have CA := Lib.hid cA
  have Hr2 := Lib.hid hr2
  have Kw2 := Lib.hid kw2
  clear cA hr2 kw2
  go_wp2_with fail
  obtain ⟨s0, hs0⟩ : ∃ s0 : FSt, s0 = { mb := mb, mf := mf, mh := mh, pc := 0, pf := 0, ph := 0, sh := .slice none 0 0, fa := .slice none 0 0, pi := 0, pp := 0, mp := w2.heap.size, calls := 0, ops := fun _ => 0, made := 0, written := 0, opn := 0, peak := 0, used := 0, most := 0, stp := false, drk := false, done := .chan none, life := 0 } := ⟨_, rfl⟩
  have hb3 : FsAt ((w2.alloc (.map #[] 0)).alloc (.cells (s0.arr 0) 93)) (w2.heap.size + 1) 0 s0 := by
    have h := heap_alloc_new (w2.alloc (.map #[] 0)) (.cells (s0.arr 0) 93)
    have e : (w2.alloc (.map #[] 0)).heap.size = w2.heap.size + 1 := by simp
    rw [e] at h
    exact h
  have hm3 : ((w2.alloc (.map #[] 0)).alloc (.cells (s0.arr 0) 93)).ownsMap Try.prog 9 heldR w2.heap.size 0 (.map []) := (World.ownsMap_made w2 Try.prog 9 heldR).alloc _
  have kp3 : Keeps [] w ((w2.alloc (.map #[] 0)).alloc (.cells (s0.arr 0) 93)) := (Kw2.out.alloc _).alloc _
  have hs3 : ShortAt ((w2.alloc (.map #[] 0)).alloc (.cells (s0.arr 0) 93)) (.slice so sn sc) (w2.heap.size + 1) := by
    rcases Hs.out with h | ⟨sb, so', sn', sc', z, e, h0', h1', h2'⟩
    · exact .inl h
    · have hlt := World.block_lt_of_cell? w _ (h2' 0 h0').1
      have hle := Kw2.out.size
      exact .inr ⟨sb, so', sn', sc', z, e, h0', h1', by simp at hlt; omega, fun j hj => ⟨(World.cell?_of_block (kp3.block _ (World.block_lt_of_cell? w _ (h2' j hj).1) (by simp))).trans (h2' j hj).1, (h2' j hj).2⟩⟩
  have hz : (Obj.cells (s0.arr 0) 93) = Obj.cells #[.int .i32 0, .int .u32 0, .int .i64 mb, .int .i64 mf, .int .i64 mh, .int .i64 0, .int .i64 0, .int .i64 0, .slice none 0 0, .slice none 0 0, .int .i64 0, .int .i64 0, .map (some w2.heap.size), .int .i64 0, .int .i64 0, .int .i64 0, .int .i64 0, .int .i64 0, .int .i64 0, .int .i64 0, .int .i64 0, .int .i64 0, .int .i64 0, .int .i64 0, .int .i64 0, .int .i64 0, .int .i64 0, .int .i64 0, .int .i64 0, .bool false, .bool false, .chan none, .int .i64 0] 93 := by rw [hs0]; rfl
  rw [← hz]
  have Hm3 := Lib.hid hm3
  have Kp3 := Lib.hid kp3
  have Hs0 := Lib.hid hs0
  have hle2 := Kw2.out.size
  clear hm3 kp3 hz hs0 c0 c1 c2 c0' c1' c2' c3' c4' c5' c6' hmm
  refine (begin_ok (w2.heap.size + 1) 0 s0 mb mf mh 0 pp _ _ hb3 hs3).mono ?_
  rintro e w4 ⟨sh', d, rfl, hb4, hs4, kp4⟩
  have hm4 := ownsMap_keeps Hm3.out kp4 (by simp)
  have kp5 : Keeps [] w w4 := (Kp3.out.mono (T := [w2.heap.size + 1]) (by simp)).trans kp4 |>.drop (fun k hk => by simp at hk; omega)
  have Hb4 := Lib.hid hb4
  have Hm4 := Lib.hid hm4
  have Hs4 := Lib.hid hs4
  have Kp5 := Lib.hid kp5
  clear hb3 hs3 hb4 hs4 kp4 hm4 kp5
  go_wp2_with fail
  go_ret2
  refine ⟨w2.heap.size + 1, w2.heap.size, sh', d, rfl, ?_, Hm4.out, Hs4.out, by omega, by omega, by omega, Kp5.out⟩
  have e := Hb4.out
  rw [Hs0.out] at e
  exact e
end Go.Proofs.Ytolnojhepakaoaa
