/- Look and Stats: the walks. -/
import Derived.Test.YtfplfnhhiipgcaaFile
import Derived.Deep.MidRow
namespace Go.Proofs.Ytfplfnhhiipgcaa
open Go.RowKit Go.Maps Go.MuLone

set_option maxRecDepth 100000 in
set_option maxHeartbeats 1600000 in
/-- Look, at a file whose bytes lie in a row. -/
theorem look_row (b g d : Nat) (s : FSt) (nm : ByteArray) (n cp : Nat) (D : DataW Value) (k : Nat) (sy op : Int) (wr : Bool) (zs : List Int) (w : World) (hb : FsAt w b 0 s) (hn : Nam nm) (hown : w.ownsMap Try.prog 9 heldR s.mp k D) (hne : s.mp ≠ b)
    (hat : D.atKey (key nm) (.held (.pointer none)) = .held (.pointer (some ⟨g, 0, none⟩))) (hg : BodyAt w g (.slice (some ⟨d, 0, none⟩) n cp) sy op wr) (e2 : g ≠ b) (e4 : d ≠ b)
    (hz : zs.length = n) (hc : ∀ j, j < n → w.cell? ⟨d, j, none⟩ = some (.int .u8 (zs.getD j 0))) (hn1 : n ≤ 67108864) :
    Calls Try.prog 17 #[.pointer (some ⟨b, 0, none⟩), .string nm] w fun e w' => ∃ u : Value, e = .returned (.tuple #[u, .bool true]) ∧ FsAt w' b 0 s ∧ w'.ownsRow w.heap.size 5 1 u n (zs.map (Value.int .u8)) ∧ Keeps [b] w w' := by
  have hkey := key_of hn
  have z0 : w.cell? ⟨b, 0, none⟩ = some (.int .i32 0) := by rw [hb.cell]; rfl
  have f0 := hb.free 0
  have Hat := Lib.hid hat
  have Hown := Lib.hid hown
  have Hkey := Lib.hid hkey
  have Hb := Lib.hid hb
  have Hg := Lib.hid hg
  have Hz := Lib.hid hz
  have Hc := Lib.hid hc
  clear hat hown hkey hb hg hz hc hn
  go_enter_defers Try.func17, Try.ntmps17
  go_wp2_with fail
  refine (lock_free Try.muLib ⟨b, 0, none⟩ _ z0 f0).mono ?_
  rintro e w1 ⟨rfl, hw1⟩
  have hb1 : FsAt w1 b 1 s := by rw [hw1]; exact Hb.out.set 0 _ rfl
  have kp1 : Keeps [b] w w1 := by rw [hw1]; exact (Keeps.refl _ _).setCell (by simp) _
  clear z0 f0
  have Hw1 := Lib.hid hw1
  clear hw1
  have hg1 := Hg.out.keeps kp1 (by simpa using e2)
  have hown1 := ownsMap_keeps Hown.out kp1 (by simpa using hne)
  have g12 : w1.cell? ⟨b, 12, none⟩ = some (.map (some s.mp)) := by rw [hb1.cell]; rfl
  have k0 := (body_facts hg1).1
  have Hb1 := Lib.hid hb1
  have Kp1 := Lib.hid kp1
  have Hown1 := Lib.hid hown1
  clear hb1 kp1 hg1 hown1
  go_wp2_with (at_lookup; go_must (refine wpList_lookup_held _ rfl _ _ 91 rfl 9 97 law9 Try.underlying91 (Try.zeroValue97 _) s.mp k D rfl Hown1.out _ _ rfl Hkey.out (.pointer (some ⟨g, 0, none⟩)) Hat.out ?_))
  refine (Try.bytes_Clone_at ⟨d, 0, none⟩ n cp zs w1 Hz.out (by omega) (fun i hi => by
    have ha : (⟨d, 0, none⟩ : Addr).add i = ⟨d, i, none⟩ := by unfold Addr.add; split <;> simp_all
    have h0 := Hc.out i hi
    rw [ha]
    exact (World.cell?_of_block (Kp1.out.block _ (World.block_lt_of_cell? w _ h0) (by simpa using e4))).trans h0)).mono ?_
  rintro e w5 ⟨u, rfl, hu5, hun, hbel⟩
  have kp45 : Keeps [] w1 w5 := ⟨hbel.os, hbel.tape, hbel.output, hbel.size, fun k hk _ => hbel.block k hk⟩
  have hb5 := Hb1.out.keeps kp45 (by simp)
  have kp5 := Kp1.out.trans (kp45.mono (by simp))
  clear g12 k0 hun hbel
  have Hu5 := Lib.hid hu5
  clear hu5
  go_wp2_with fail
  refine leaves_cons (f := 42) (args := #[.pointer (some ⟨b, 0, none⟩)]) (by simp) (by simp [go_sem]) ?_
  refine (unlock_deferred Try.muLib ⟨b, 0, none⟩ .returning _ ?_ ?_).mono ?_
  · rw [hb5.cell]; rfl
  · exact hb5.free 0
  rintro e u' w'' ⟨rfl, rfl, rfl⟩
  refine ⟨_, results_tmp2 rfl _ _ _, u, rfl, hb5.set 0 _ rfl, ?_, kp5.setCell (by simp) _⟩
  have hh := Hu5.out
  have hle : w.heap.size ≤ w1.heap.size := Kp1.out.size
  have hlb : b < w.heap.size := lt_of_block Hb.out
  have h2 := ownsRow_setCell_other hh (a := ⟨b, 0, none⟩) (fun e => by have := (hh.lt _ e).1; simp at this; omega) (.int .i32 0)
  refine ⟨h2.1, ?_⟩
  rcases h2.2 with h3 | ⟨g', c', cur, h3, h4, h5⟩
  · exact .inl h3
  · exact .inr ⟨g', c', cur, h3, Nat.le_trans hle h4, h5⟩

set_option maxRecDepth 100000 in
set_option maxHeartbeats 1600000 in
/-- Look, at a file that never had a byte. -/
theorem look_nil' (b g : Nat) (s : FSt) (nm : ByteArray) (D : DataW Value) (k : Nat) (sy op : Int) (wr : Bool) (w : World) (hb : FsAt w b 0 s) (hn : Nam nm) (hown : w.ownsMap Try.prog 9 heldR s.mp k D) (hne : s.mp ≠ b)
    (hat : D.atKey (key nm) (.held (.pointer none)) = .held (.pointer (some ⟨g, 0, none⟩))) (hg : BodyAt w g (.slice none 0 0) sy op wr) (e2 : g ≠ b) :
    Calls Try.prog 17 #[.pointer (some ⟨b, 0, none⟩), .string nm] w fun e w' => e = .returned (.tuple #[.slice none 0 0, .bool true]) ∧ FsAt w' b 0 s ∧ Keeps [b] w w' := by
  have hkey := key_of hn
  have z0 : w.cell? ⟨b, 0, none⟩ = some (.int .i32 0) := by rw [hb.cell]; rfl
  have f0 := hb.free 0
  have Hat := Lib.hid hat
  have Hown := Lib.hid hown
  have Hkey := Lib.hid hkey
  have Hb := Lib.hid hb
  have Hg := Lib.hid hg
  clear hat hown hkey hb hg hn
  go_enter_defers Try.func17, Try.ntmps17
  go_wp2_with fail
  refine (lock_free Try.muLib ⟨b, 0, none⟩ _ z0 f0).mono ?_
  rintro e w1 ⟨rfl, hw1⟩
  have hb1 : FsAt w1 b 1 s := by rw [hw1]; exact Hb.out.set 0 _ rfl
  have kp1 : Keeps [b] w w1 := by rw [hw1]; exact (Keeps.refl _ _).setCell (by simp) _
  clear z0 f0
  have Hw1 := Lib.hid hw1
  clear hw1
  have hg1 := Hg.out.keeps kp1 (by simpa using e2)
  have hown1 := ownsMap_keeps Hown.out kp1 (by simpa using hne)
  have g12 : w1.cell? ⟨b, 12, none⟩ = some (.map (some s.mp)) := by rw [hb1.cell]; rfl
  have k0 := (body_facts hg1).1
  have Hb1 := Lib.hid hb1
  have Kp1 := Lib.hid kp1
  have Hown1 := Lib.hid hown1
  clear hb1 kp1 hg1 hown1
  go_wp2_with (at_lookup; go_must (refine wpList_lookup_held _ rfl _ _ 91 rfl 9 97 law9 Try.underlying91 (Try.zeroValue97 _) s.mp k D rfl Hown1.out _ _ rfl Hkey.out (.pointer (some ⟨g, 0, none⟩)) Hat.out ?_))
  refine (Try.bytes_Clone_nil 0 0 w1).mono ?_
  rintro e w5 ⟨rfl, hw5⟩
  obtain rfl : w1 = w5 := hw5.symm
  clear hw5 g12 k0
  go_wp2_with fail
  refine leaves_cons (f := 42) (args := #[.pointer (some ⟨b, 0, none⟩)]) (by simp) (by simp [go_sem]) ?_
  refine (unlock_deferred Try.muLib ⟨b, 0, none⟩ .returning _ ?_ ?_).mono ?_
  · rw [Hb1.out.cell]; rfl
  · exact Hb1.out.free 0
  rintro e u' w'' ⟨rfl, rfl, rfl⟩
  exact ⟨_, results_tmp2 rfl _ _ _, rfl, Hb1.out.set 0 _ rfl, Kp1.out.setCell (by simp) _⟩

def FSt.statsL (s : FSt) : List Value := [.int .i64 s.calls, .int .i64 (s.ops 0), .int .i64 (s.ops 1), .int .i64 (s.ops 2), .int .i64 (s.ops 3), .int .i64 (s.ops 4), .int .i64 (s.ops 5), .int .i64 (s.ops 6), .int .i64 (s.ops 7), .int .i64 (s.ops 8), .int .i64 s.made, .int .i64 s.written, .int .i64 s.opn, .int .i64 s.peak, .int .i64 s.used, .int .i64 s.most, .bool s.stp, .bool s.drk]
def FSt.stats (s : FSt) : Value := .agg s.statsL.toArray
theorem info47 : (Try.prog.info? 47).map (·.size) = some 18 := by kernel_rfl
theorem statsL_size (s : FSt) : s.statsL.toArray.size = 18 := rfl
theorem statsL_one (s : FSt) : s.statsL.toArray.all (·.oneCell') = true := by simp [FSt.statsL, Value.oneCell']
theorem stats_range {w : World} {b : Nat} {l : Int} {s : FSt} (h : FsAt w b l s) : w.rangeAt b 13 s.statsL := by
  intro j v hj
  rw [h.cell, ← hj]
  have hl : j < 18 := by
    rcases Nat.lt_or_ge j 18 with h' | h'
    · exact h'
    · rw [List.getElem?_eq_none (by show 18 ≤ j; exact h')] at hj; cases hj
  match j, hl with
  | 0, _ | 1, _ | 2, _ | 3, _ | 4, _ | 5, _ | 6, _ | 7, _ | 8, _ | 9, _ | 10, _ | 11, _ | 12, _ | 13, _ | 14, _ | 15, _ | 16, _ | 17, _ => rfl
set_option maxRecDepth 100000 in
set_option maxHeartbeats 1600000 in
theorem stats_ok (b : Nat) (s : FSt) (w : World) (hb : FsAt w b 0 s) :
    Calls Try.prog 19 #[.pointer (some ⟨b, 0, none⟩)] w fun e w' => e = .returned s.stats ∧ FsAt w' b 0 s ∧ Keeps [b] w w' := by
  have z0 : w.cell? ⟨b, 0, none⟩ = some (.int .i32 0) := by rw [hb.cell]; rfl
  have f0 := hb.free 0
  have Hb := Lib.hid hb
  clear hb
  go_enter_defers Try.func19, Try.ntmps19
  go_wp2_with fail
  have hb0 := Hb.out.alloc (.cells #[.int .i64 0, .int .i64 0, .int .i64 0, .int .i64 0, .int .i64 0, .int .i64 0, .int .i64 0, .int .i64 0, .int .i64 0, .int .i64 0, .int .i64 0, .int .i64 0, .int .i64 0, .int .i64 0, .int .i64 0, .int .i64 0, .bool false, .bool false] 47)
  have kp0 := (Keeps.refl [b] w).alloc (.cells #[.int .i64 0, .int .i64 0, .int .i64 0, .int .i64 0, .int .i64 0, .int .i64 0, .int .i64 0, .int .i64 0, .int .i64 0, .int .i64 0, .int .i64 0, .int .i64 0, .int .i64 0, .int .i64 0, .int .i64 0, .int .i64 0, .bool false, .bool false] 47)
  have hr0 := heap_alloc_new w (.cells #[.int .i64 0, .int .i64 0, .int .i64 0, .int .i64 0, .int .i64 0, .int .i64 0, .int .i64 0, .int .i64 0, .int .i64 0, .int .i64 0, .int .i64 0, .int .i64 0, .int .i64 0, .int .i64 0, .int .i64 0, .int .i64 0, .bool false, .bool false] 47)
  have hlb := lt_of_block Hb.out
  clear z0 f0
  generalize w.alloc _ = w0 at *
  generalize hR : w.heap.size = R at *
  refine (lock_free Try.muLib ⟨b, 0, none⟩ _ (by rw [hb0.cell]; rfl) (hb0.free 0)).mono ?_
  rintro e w1 ⟨rfl, hw1⟩
  have hb1 : FsAt w1 b 1 s := by rw [hw1]; exact hb0.set 0 _ rfl
  have kp1 : Keeps [b] w w1 := by rw [hw1]; exact kp0.setCell (by simp) _
  have hr1 : w1.heap[R]? = some (.cells #[.int .i64 0, .int .i64 0, .int .i64 0, .int .i64 0, .int .i64 0, .int .i64 0, .int .i64 0, .int .i64 0, .int .i64 0, .int .i64 0, .int .i64 0, .int .i64 0, .int .i64 0, .int .i64 0, .int .i64 0, .int .i64 0, .bool false, .bool false] 47 (0, 0)) := by rw [hw1]; exact (heap_set_ne (by simp; omega) _).trans hr0
  have Hw1 := Lib.hid hw1
  have HR := Lib.hid hR
  clear hw1 hr0 kp0 hb0 hR
  have Hb1 := Lib.hid hb1
  have Kp1 := Lib.hid kp1
  have Hr1 := Lib.hid hr1
  clear hb1 kp1 hr1
  go_wp2_with (first
    | (refine wpList_load_mid rfl 47 _ rfl b 13 rfl s.statsL _ (stats_range Hb1.out) Try.underlying47 rfl info47 ?_)
    | (refine wpList_store_row rfl 47 _ _ rfl R s.statsL.toArray rfl rfl 47 _ Hr1.out info47 rfl (statsL_one s) ?_))
  have hr2 : (w1.setRow R s.statsL.toArray).heap[R]? = some (.cells s.statsL.toArray 47 (0, 0)) := setRow_heap w1 R _ _ 47 (0, 0) Hr1.out
  have hb2 : FsAt (w1.setRow R s.statsL.toArray) b 1 s := (setRow_other w1 R b _ (by omega)).trans Hb1.out
  have kp2 : Keeps [b] w (w1.setRow R s.statsL.toArray) := ⟨Kp1.out.os, Kp1.out.tape, Kp1.out.output, by have := Kp1.out.size; simpa [World.setRow] using this, fun k hk hn => (setRow_other w1 R k _ (by have := HR.out; omega)).trans (Kp1.out.block k hk hn)⟩
  refine leaves_cons (f := 42) (args := #[.pointer (some ⟨b, 0, none⟩)]) (by simp) (by simp [go_sem]) ?_
  refine (unlock_deferred Try.muLib ⟨b, 0, none⟩ .returning _ ?_ ?_).mono ?_
  · rw [hb2.cell]; rfl
  · exact hb2.free 0
  rintro e u' w'' ⟨rfl, rfl, rfl⟩
  exact ⟨_, results_cell_row rfl _ _ R 47 s.statsL.toArray (0, 0) _ rfl ((heap_set_ne (a := ⟨b, 0, none⟩) (show R ≠ b by omega) _).trans hr2) Try.underlying47 rfl info47, rfl, hb2.set 0 _ rfl, kp2.setCell (by simp) _⟩
end Go.Proofs.Ytfplfnhhiipgcaa
