/- An entry with those of its fields that its kind uses. -/
import Derived.Test.YtlbekgcfafofdaaDoorTw
namespace Go.Proofs.YtlbekgcfafofdaaDoor
open Go.RowKit
set_option maxRecDepth 100000

def RetAgg (w : World) (x : Array Value) (e : Ending) (w' : World) : Prop := e = .returned (.agg x) ∧ Below w.heap.size w w'
/-- The end of a function that answers an entry. -/
theorem ent_end37 {K : Ending → World → Prop} {a : Act} {W : World} {p : Nat} {x0 x1 x2 x3 x4 x5 x6 x7 : Value} (ha : a.tmps.getD 2 undef = .pointer (some ⟨p, 0, none⟩)) (hd : a.defers = []) (h : CellsAt W p [x0, x1, x2, x3, x4, x5, x6, x7]) (hK : K (.returned (.agg #[x0, x1, x2, x3, x4, x5, x6, x7])) W) : bodyPost Tryd.prog Tryd.f37 K Exit.ret a W := by
  have ha2 : a.tmps[2]?.getD undef = .pointer (some ⟨p, 0, none⟩) := by simpa using ha
  have e0 := h.cell 0 _ rfl
  have e1 := h.cell 1 _ rfl
  have e2 := h.cell 2 _ rfl
  have e3 := h.cell 3 _ rfl
  have e4 := h.cell 4 _ rfl
  have e5 := h.cell 5 _ rfl
  have e6 := h.cell 6 _ rfl
  have e7 := h.cell 7 _ rfl
  exact bodyPost_ret (v := .agg #[x0, x1, x2, x3, x4, x5, x6, x7]) (by simp [results, Tryd.results37, go_sem, ha2, e0, e1, e2, e3, e4, e5, e6, e7]) hd hK
set_option maxHeartbeats 3200000 in
theorem bare1_ok (w : World) (pr : Nat) (s : ByteArray) (ru re li : Int) (su : Nat) (u : Value) {l : List Int} (hu : SlI w u l) : Calls Tryd.prog 37 #[.agg #[.int .u8 1, .int .u64 pr, .string s, .int .i64 ru, .int .i64 re, .int .i64 li, .int .u32 su, u]] w (RetAgg w #[.int .u8 1, .int .u64 pr, .string ⟨#[]⟩, .int .i64 0, .int .i64 0, .int .i64 0, .int .u32 0, .slice none 0 0]) := by
  obtain ⟨ua, uc, hu1, _⟩ := hu.form
  clear hu
  generalize hn : l.length = n at *
  clear hn
  subst hu1
  have hz1 : (w.alloc (.cells #[.int .u8 1, .int .u64 pr, .string s, .int .i64 ru, .int .i64 re, .int .i64 li, .int .u32 su, .slice ua n uc] 27)).heap.size = w.heap.size + 1 := by simp
  have hz2 : ((w.alloc (.cells #[.int .u8 1, .int .u64 pr, .string s, .int .i64 ru, .int .i64 re, .int .i64 li, .int .u32 su, .slice ua n uc] 27)).alloc (.cells #[.int .u8 0, .int .u64 0, .string ⟨#[]⟩, .int .i64 0, .int .i64 0, .int .i64 0, .int .u32 0, .slice none 0 0] 27)).heap.size = w.heap.size + 1 + 1 := by simp
  have EA : CellsAt (((w.alloc (.cells #[.int .u8 1, .int .u64 pr, .string s, .int .i64 ru, .int .i64 re, .int .i64 li, .int .u32 su, .slice ua n uc] 27)).alloc (.cells #[.int .u8 0, .int .u64 0, .string ⟨#[]⟩, .int .i64 0, .int .i64 0, .int .i64 0, .int .u32 0, .slice none 0 0] 27)).alloc (.cells #[.int .u8 1, .int .u64 0, .string ⟨#[]⟩, .int .i64 0, .int .i64 0, .int .i64 0, .int .u32 0, .slice none 0 0] 27)) w.heap.size [.int .u8 1, .int .u64 pr, .string s, .int .i64 ru, .int .i64 re, .int .i64 li, .int .u32 su, .slice ua n uc] := (CellsAt.new w [.int .u8 1, .int .u64 pr, .string s, .int .i64 ru, .int .i64 re, .int .i64 li, .int .u32 su, .slice ua n uc] 27).gr
  have ER : CellsAt (((w.alloc (.cells #[.int .u8 1, .int .u64 pr, .string s, .int .i64 ru, .int .i64 re, .int .i64 li, .int .u32 su, .slice ua n uc] 27)).alloc (.cells #[.int .u8 0, .int .u64 0, .string ⟨#[]⟩, .int .i64 0, .int .i64 0, .int .i64 0, .int .u32 0, .slice none 0 0] 27)).alloc (.cells #[.int .u8 1, .int .u64 0, .string ⟨#[]⟩, .int .i64 0, .int .i64 0, .int .i64 0, .int .u32 0, .slice none 0 0] 27)) (w.heap.size + 1) [.int .u8 0, .int .u64 0, .string ⟨#[]⟩, .int .i64 0, .int .i64 0, .int .i64 0, .int .u32 0, .slice none 0 0] := by have := CellsAt.new (w.alloc (.cells #[.int .u8 1, .int .u64 pr, .string s, .int .i64 ru, .int .i64 re, .int .i64 li, .int .u32 su, .slice ua n uc] 27)) [.int .u8 0, .int .u64 0, .string ⟨#[]⟩, .int .i64 0, .int .i64 0, .int .i64 0, .int .u32 0, .slice none 0 0] 27; rw [hz1] at this; exact this.gr
  have EX : CellsAt (((w.alloc (.cells #[.int .u8 1, .int .u64 pr, .string s, .int .i64 ru, .int .i64 re, .int .i64 li, .int .u32 su, .slice ua n uc] 27)).alloc (.cells #[.int .u8 0, .int .u64 0, .string ⟨#[]⟩, .int .i64 0, .int .i64 0, .int .i64 0, .int .u32 0, .slice none 0 0] 27)).alloc (.cells #[.int .u8 1, .int .u64 0, .string ⟨#[]⟩, .int .i64 0, .int .i64 0, .int .i64 0, .int .u32 0, .slice none 0 0] 27)) (w.heap.size + 1 + 1) [.int .u8 1, .int .u64 0, .string ⟨#[]⟩, .int .i64 0, .int .i64 0, .int .i64 0, .int .u32 0, .slice none 0 0] := by have := CellsAt.new ((w.alloc (.cells #[.int .u8 1, .int .u64 pr, .string s, .int .i64 ru, .int .i64 re, .int .i64 li, .int .u32 su, .slice ua n uc] 27)).alloc (.cells #[.int .u8 0, .int .u64 0, .string ⟨#[]⟩, .int .i64 0, .int .i64 0, .int .i64 0, .int .u32 0, .slice none 0 0] 27)) [.int .u8 1, .int .u64 0, .string ⟨#[]⟩, .int .i64 0, .int .i64 0, .int .i64 0, .int .u32 0, .slice none 0 0] 27; rw [hz2] at this; exact this
  have GB := (inferInstance : Gr w (((w.alloc (.cells #[.int .u8 1, .int .u64 pr, .string s, .int .i64 ru, .int .i64 re, .int .i64 li, .int .u32 su, .slice ua n uc] 27)).alloc (.cells #[.int .u8 0, .int .u64 0, .string ⟨#[]⟩, .int .i64 0, .int .i64 0, .int .i64 0, .int .u32 0, .slice none 0 0] 27)).alloc (.cells #[.int .u8 1, .int .u64 0, .string ⟨#[]⟩, .int .i64 0, .int .i64 0, .int .i64 0, .int .u32 0, .slice none 0 0] 27))).h
  clear hz1 hz2
  go_enter Tryd.func37, Tryd.ntmps37
  go_upto_region 2 with fail
  generalize ((w.alloc (.cells #[.int .u8 1, .int .u64 pr, .string s, .int .i64 ru, .int .i64 re, .int .i64 li, .int .u32 su, .slice ua n uc] 27)).alloc (.cells #[.int .u8 0, .int .u64 0, .string ⟨#[]⟩, .int .i64 0, .int .i64 0, .int .i64 0, .int .u32 0, .slice none 0 0] 27)).alloc (.cells #[.int .u8 1, .int .u64 0, .string ⟨#[]⟩, .int .i64 0, .int .i64 0, .int .i64 0, .int .u32 0, .slice none 0 0] 27) = w0 at *
  have a0 := EA.cell 0 _ rfl
  have a1 := EA.cell 1 _ rfl
  have a2 := EA.cell 2 _ rfl
  have a3 := EA.cell 3 _ rfl
  have a4 := EA.cell 4 _ rfl
  have a5 := EA.cell 5 _ rfl
  have a6 := EA.cell 6 _ rfl
  have a7 := EA.cell 7 _ rfl
  have g1 := EX.free 1
  have y1 := EX.cell 1 _ rfl
  clear EA
  go_upto_region 19 with fail
  have EX2 : CellsAt (w0.setCell ⟨w.heap.size + 1 + 1, 1, none⟩ (.int .u64 pr)) (w.heap.size + 1 + 1) [.int .u8 1, .int .u64 pr, .string ⟨#[]⟩, .int .i64 0, .int .i64 0, .int .i64 0, .int .u32 0, .slice none 0 0] := (EX.set 1 (.int .u64 pr) (by simp))
  have ER2 := (ER.other (c := w.heap.size + 1 + 1) (by omega) 1 (.int .u64 pr))
  have GB2 := (GB.setCell (p := ⟨w.heap.size + 1 + 1, 1, none⟩) (by show w.heap.size ≤ w.heap.size + 1 + 1; omega) (.int .u64 pr))
  clear EX ER GB g1 y1 a0 a1 a2 a3 a4 a5 a6 a7
  generalize (w0.setCell ⟨w.heap.size + 1 + 1, 1, none⟩ (.int .u64 pr)) = w1 at *
  have c0 := EX2.cell 0 _ rfl
  have c1 := EX2.cell 1 _ rfl
  have c2 := EX2.cell 2 _ rfl
  have c3 := EX2.cell 3 _ rfl
  have c4 := EX2.cell 4 _ rfl
  have c5 := EX2.cell 5 _ rfl
  have c6 := EX2.cell 6 _ rfl
  have c7 := EX2.cell 7 _ rfl
  have f0 := ER2.free 0
  have r0 := ER2.cell 0 _ rfl
  have f1 := ER2.free 1
  have r1 := ER2.cell 1 _ rfl
  have f2 := ER2.free 2
  have r2 := ER2.cell 2 _ rfl
  have f3 := ER2.free 3
  have r3 := ER2.cell 3 _ rfl
  have f4 := ER2.free 4
  have r4 := ER2.cell 4 _ rfl
  have f5 := ER2.free 5
  have r5 := ER2.cell 5 _ rfl
  have f6 := ER2.free 6
  have r6 := ER2.cell 6 _ rfl
  have f7 := ER2.free 7
  have r7 := ER2.cell 7 _ rfl
  have ES := Lib.hid (ER2.set8 (.int .u8 1) (.int .u64 pr) (.string ⟨#[]⟩) (.int .i64 0) (.int .i64 0) (.int .i64 0) (.int .u32 0) (.slice none 0 0))
  have BS := Lib.hid (below_set8 GB2 (show w.heap.size ≤ w.heap.size + 1 by omega) (.int .u8 1) (.int .u64 pr) (.string ⟨#[]⟩) (.int .i64 0) (.int .i64 0) (.int .i64 0) (.int .u32 0) (.slice none 0 0))
  clear EX2 ER2 GB2
  go_wp2_with fail
  exact ent_end37 rfl rfl ES.out ⟨rfl, BS.out⟩
set_option maxHeartbeats 3200000 in
theorem bare2_ok (w : World) (pr : Nat) (s : ByteArray) (ru re li : Int) (su : Nat) (u : Value) {l : List Int} (hu : SlI w u l) : Calls Tryd.prog 37 #[.agg #[.int .u8 2, .int .u64 pr, .string s, .int .i64 ru, .int .i64 re, .int .i64 li, .int .u32 su, u]] w (RetAgg w #[.int .u8 2, .int .u64 0, .string s, .int .i64 0, .int .i64 0, .int .i64 0, .int .u32 0, .slice none 0 0]) := by
  obtain ⟨ua, uc, hu1, _⟩ := hu.form
  clear hu
  generalize hn : l.length = n at *
  clear hn
  subst hu1
  have hz1 : (w.alloc (.cells #[.int .u8 2, .int .u64 pr, .string s, .int .i64 ru, .int .i64 re, .int .i64 li, .int .u32 su, .slice ua n uc] 27)).heap.size = w.heap.size + 1 := by simp
  have hz2 : ((w.alloc (.cells #[.int .u8 2, .int .u64 pr, .string s, .int .i64 ru, .int .i64 re, .int .i64 li, .int .u32 su, .slice ua n uc] 27)).alloc (.cells #[.int .u8 0, .int .u64 0, .string ⟨#[]⟩, .int .i64 0, .int .i64 0, .int .i64 0, .int .u32 0, .slice none 0 0] 27)).heap.size = w.heap.size + 1 + 1 := by simp
  have EA : CellsAt (((w.alloc (.cells #[.int .u8 2, .int .u64 pr, .string s, .int .i64 ru, .int .i64 re, .int .i64 li, .int .u32 su, .slice ua n uc] 27)).alloc (.cells #[.int .u8 0, .int .u64 0, .string ⟨#[]⟩, .int .i64 0, .int .i64 0, .int .i64 0, .int .u32 0, .slice none 0 0] 27)).alloc (.cells #[.int .u8 2, .int .u64 0, .string ⟨#[]⟩, .int .i64 0, .int .i64 0, .int .i64 0, .int .u32 0, .slice none 0 0] 27)) w.heap.size [.int .u8 2, .int .u64 pr, .string s, .int .i64 ru, .int .i64 re, .int .i64 li, .int .u32 su, .slice ua n uc] := (CellsAt.new w [.int .u8 2, .int .u64 pr, .string s, .int .i64 ru, .int .i64 re, .int .i64 li, .int .u32 su, .slice ua n uc] 27).gr
  have ER : CellsAt (((w.alloc (.cells #[.int .u8 2, .int .u64 pr, .string s, .int .i64 ru, .int .i64 re, .int .i64 li, .int .u32 su, .slice ua n uc] 27)).alloc (.cells #[.int .u8 0, .int .u64 0, .string ⟨#[]⟩, .int .i64 0, .int .i64 0, .int .i64 0, .int .u32 0, .slice none 0 0] 27)).alloc (.cells #[.int .u8 2, .int .u64 0, .string ⟨#[]⟩, .int .i64 0, .int .i64 0, .int .i64 0, .int .u32 0, .slice none 0 0] 27)) (w.heap.size + 1) [.int .u8 0, .int .u64 0, .string ⟨#[]⟩, .int .i64 0, .int .i64 0, .int .i64 0, .int .u32 0, .slice none 0 0] := by have := CellsAt.new (w.alloc (.cells #[.int .u8 2, .int .u64 pr, .string s, .int .i64 ru, .int .i64 re, .int .i64 li, .int .u32 su, .slice ua n uc] 27)) [.int .u8 0, .int .u64 0, .string ⟨#[]⟩, .int .i64 0, .int .i64 0, .int .i64 0, .int .u32 0, .slice none 0 0] 27; rw [hz1] at this; exact this.gr
  have EX : CellsAt (((w.alloc (.cells #[.int .u8 2, .int .u64 pr, .string s, .int .i64 ru, .int .i64 re, .int .i64 li, .int .u32 su, .slice ua n uc] 27)).alloc (.cells #[.int .u8 0, .int .u64 0, .string ⟨#[]⟩, .int .i64 0, .int .i64 0, .int .i64 0, .int .u32 0, .slice none 0 0] 27)).alloc (.cells #[.int .u8 2, .int .u64 0, .string ⟨#[]⟩, .int .i64 0, .int .i64 0, .int .i64 0, .int .u32 0, .slice none 0 0] 27)) (w.heap.size + 1 + 1) [.int .u8 2, .int .u64 0, .string ⟨#[]⟩, .int .i64 0, .int .i64 0, .int .i64 0, .int .u32 0, .slice none 0 0] := by have := CellsAt.new ((w.alloc (.cells #[.int .u8 2, .int .u64 pr, .string s, .int .i64 ru, .int .i64 re, .int .i64 li, .int .u32 su, .slice ua n uc] 27)).alloc (.cells #[.int .u8 0, .int .u64 0, .string ⟨#[]⟩, .int .i64 0, .int .i64 0, .int .i64 0, .int .u32 0, .slice none 0 0] 27)) [.int .u8 2, .int .u64 0, .string ⟨#[]⟩, .int .i64 0, .int .i64 0, .int .i64 0, .int .u32 0, .slice none 0 0] 27; rw [hz2] at this; exact this
  have GB := (inferInstance : Gr w (((w.alloc (.cells #[.int .u8 2, .int .u64 pr, .string s, .int .i64 ru, .int .i64 re, .int .i64 li, .int .u32 su, .slice ua n uc] 27)).alloc (.cells #[.int .u8 0, .int .u64 0, .string ⟨#[]⟩, .int .i64 0, .int .i64 0, .int .i64 0, .int .u32 0, .slice none 0 0] 27)).alloc (.cells #[.int .u8 2, .int .u64 0, .string ⟨#[]⟩, .int .i64 0, .int .i64 0, .int .i64 0, .int .u32 0, .slice none 0 0] 27))).h
  clear hz1 hz2
  go_enter Tryd.func37, Tryd.ntmps37
  go_upto_region 2 with fail
  generalize ((w.alloc (.cells #[.int .u8 2, .int .u64 pr, .string s, .int .i64 ru, .int .i64 re, .int .i64 li, .int .u32 su, .slice ua n uc] 27)).alloc (.cells #[.int .u8 0, .int .u64 0, .string ⟨#[]⟩, .int .i64 0, .int .i64 0, .int .i64 0, .int .u32 0, .slice none 0 0] 27)).alloc (.cells #[.int .u8 2, .int .u64 0, .string ⟨#[]⟩, .int .i64 0, .int .i64 0, .int .i64 0, .int .u32 0, .slice none 0 0] 27) = w0 at *
  have a0 := EA.cell 0 _ rfl
  have a1 := EA.cell 1 _ rfl
  have a2 := EA.cell 2 _ rfl
  have a3 := EA.cell 3 _ rfl
  have a4 := EA.cell 4 _ rfl
  have a5 := EA.cell 5 _ rfl
  have a6 := EA.cell 6 _ rfl
  have a7 := EA.cell 7 _ rfl
  have g2 := EX.free 2
  have y2 := EX.cell 2 _ rfl
  clear EA
  go_upto_region 19 with fail
  have EX2 : CellsAt (w0.setCell ⟨w.heap.size + 1 + 1, 2, none⟩ (.string s)) (w.heap.size + 1 + 1) [.int .u8 2, .int .u64 0, .string s, .int .i64 0, .int .i64 0, .int .i64 0, .int .u32 0, .slice none 0 0] := (EX.set 2 (.string s) (by simp))
  have ER2 := (ER.other (c := w.heap.size + 1 + 1) (by omega) 2 (.string s))
  have GB2 := (GB.setCell (p := ⟨w.heap.size + 1 + 1, 2, none⟩) (by show w.heap.size ≤ w.heap.size + 1 + 1; omega) (.string s))
  clear EX ER GB g2 y2 a0 a1 a2 a3 a4 a5 a6 a7
  generalize (w0.setCell ⟨w.heap.size + 1 + 1, 2, none⟩ (.string s)) = w1 at *
  have c0 := EX2.cell 0 _ rfl
  have c1 := EX2.cell 1 _ rfl
  have c2 := EX2.cell 2 _ rfl
  have c3 := EX2.cell 3 _ rfl
  have c4 := EX2.cell 4 _ rfl
  have c5 := EX2.cell 5 _ rfl
  have c6 := EX2.cell 6 _ rfl
  have c7 := EX2.cell 7 _ rfl
  have f0 := ER2.free 0
  have r0 := ER2.cell 0 _ rfl
  have f1 := ER2.free 1
  have r1 := ER2.cell 1 _ rfl
  have f2 := ER2.free 2
  have r2 := ER2.cell 2 _ rfl
  have f3 := ER2.free 3
  have r3 := ER2.cell 3 _ rfl
  have f4 := ER2.free 4
  have r4 := ER2.cell 4 _ rfl
  have f5 := ER2.free 5
  have r5 := ER2.cell 5 _ rfl
  have f6 := ER2.free 6
  have r6 := ER2.cell 6 _ rfl
  have f7 := ER2.free 7
  have r7 := ER2.cell 7 _ rfl
  have ES := Lib.hid (ER2.set8 (.int .u8 2) (.int .u64 0) (.string s) (.int .i64 0) (.int .i64 0) (.int .i64 0) (.int .u32 0) (.slice none 0 0))
  have BS := Lib.hid (below_set8 GB2 (show w.heap.size ≤ w.heap.size + 1 by omega) (.int .u8 2) (.int .u64 0) (.string s) (.int .i64 0) (.int .i64 0) (.int .i64 0) (.int .u32 0) (.slice none 0 0))
  clear EX2 ER2 GB2
  go_wp2_with fail
  exact ent_end37 rfl rfl ES.out ⟨rfl, BS.out⟩
set_option maxHeartbeats 3200000 in
theorem bare3_ok (w : World) (pr : Nat) (s : ByteArray) (ru re li : Int) (su : Nat) (u : Value) {l : List Int} (hu : SlI w u l) : Calls Tryd.prog 37 #[.agg #[.int .u8 3, .int .u64 pr, .string s, .int .i64 ru, .int .i64 re, .int .i64 li, .int .u32 su, u]] w (RetAgg w #[.int .u8 3, .int .u64 0, .string s, .int .i64 ru, .int .i64 re, .int .i64 li, .int .u32 su, .slice none 0 0]) := by
  obtain ⟨ua, uc, hu1, _⟩ := hu.form
  clear hu
  generalize hn : l.length = n at *
  clear hn
  subst hu1
  have hz1 : (w.alloc (.cells #[.int .u8 3, .int .u64 pr, .string s, .int .i64 ru, .int .i64 re, .int .i64 li, .int .u32 su, .slice ua n uc] 27)).heap.size = w.heap.size + 1 := by simp
  have hz2 : ((w.alloc (.cells #[.int .u8 3, .int .u64 pr, .string s, .int .i64 ru, .int .i64 re, .int .i64 li, .int .u32 su, .slice ua n uc] 27)).alloc (.cells #[.int .u8 0, .int .u64 0, .string ⟨#[]⟩, .int .i64 0, .int .i64 0, .int .i64 0, .int .u32 0, .slice none 0 0] 27)).heap.size = w.heap.size + 1 + 1 := by simp
  have EA : CellsAt (((w.alloc (.cells #[.int .u8 3, .int .u64 pr, .string s, .int .i64 ru, .int .i64 re, .int .i64 li, .int .u32 su, .slice ua n uc] 27)).alloc (.cells #[.int .u8 0, .int .u64 0, .string ⟨#[]⟩, .int .i64 0, .int .i64 0, .int .i64 0, .int .u32 0, .slice none 0 0] 27)).alloc (.cells #[.int .u8 3, .int .u64 0, .string ⟨#[]⟩, .int .i64 0, .int .i64 0, .int .i64 0, .int .u32 0, .slice none 0 0] 27)) w.heap.size [.int .u8 3, .int .u64 pr, .string s, .int .i64 ru, .int .i64 re, .int .i64 li, .int .u32 su, .slice ua n uc] := (CellsAt.new w [.int .u8 3, .int .u64 pr, .string s, .int .i64 ru, .int .i64 re, .int .i64 li, .int .u32 su, .slice ua n uc] 27).gr
  have ER : CellsAt (((w.alloc (.cells #[.int .u8 3, .int .u64 pr, .string s, .int .i64 ru, .int .i64 re, .int .i64 li, .int .u32 su, .slice ua n uc] 27)).alloc (.cells #[.int .u8 0, .int .u64 0, .string ⟨#[]⟩, .int .i64 0, .int .i64 0, .int .i64 0, .int .u32 0, .slice none 0 0] 27)).alloc (.cells #[.int .u8 3, .int .u64 0, .string ⟨#[]⟩, .int .i64 0, .int .i64 0, .int .i64 0, .int .u32 0, .slice none 0 0] 27)) (w.heap.size + 1) [.int .u8 0, .int .u64 0, .string ⟨#[]⟩, .int .i64 0, .int .i64 0, .int .i64 0, .int .u32 0, .slice none 0 0] := by have := CellsAt.new (w.alloc (.cells #[.int .u8 3, .int .u64 pr, .string s, .int .i64 ru, .int .i64 re, .int .i64 li, .int .u32 su, .slice ua n uc] 27)) [.int .u8 0, .int .u64 0, .string ⟨#[]⟩, .int .i64 0, .int .i64 0, .int .i64 0, .int .u32 0, .slice none 0 0] 27; rw [hz1] at this; exact this.gr
  have EX : CellsAt (((w.alloc (.cells #[.int .u8 3, .int .u64 pr, .string s, .int .i64 ru, .int .i64 re, .int .i64 li, .int .u32 su, .slice ua n uc] 27)).alloc (.cells #[.int .u8 0, .int .u64 0, .string ⟨#[]⟩, .int .i64 0, .int .i64 0, .int .i64 0, .int .u32 0, .slice none 0 0] 27)).alloc (.cells #[.int .u8 3, .int .u64 0, .string ⟨#[]⟩, .int .i64 0, .int .i64 0, .int .i64 0, .int .u32 0, .slice none 0 0] 27)) (w.heap.size + 1 + 1) [.int .u8 3, .int .u64 0, .string ⟨#[]⟩, .int .i64 0, .int .i64 0, .int .i64 0, .int .u32 0, .slice none 0 0] := by have := CellsAt.new ((w.alloc (.cells #[.int .u8 3, .int .u64 pr, .string s, .int .i64 ru, .int .i64 re, .int .i64 li, .int .u32 su, .slice ua n uc] 27)).alloc (.cells #[.int .u8 0, .int .u64 0, .string ⟨#[]⟩, .int .i64 0, .int .i64 0, .int .i64 0, .int .u32 0, .slice none 0 0] 27)) [.int .u8 3, .int .u64 0, .string ⟨#[]⟩, .int .i64 0, .int .i64 0, .int .i64 0, .int .u32 0, .slice none 0 0] 27; rw [hz2] at this; exact this
  have GB := (inferInstance : Gr w (((w.alloc (.cells #[.int .u8 3, .int .u64 pr, .string s, .int .i64 ru, .int .i64 re, .int .i64 li, .int .u32 su, .slice ua n uc] 27)).alloc (.cells #[.int .u8 0, .int .u64 0, .string ⟨#[]⟩, .int .i64 0, .int .i64 0, .int .i64 0, .int .u32 0, .slice none 0 0] 27)).alloc (.cells #[.int .u8 3, .int .u64 0, .string ⟨#[]⟩, .int .i64 0, .int .i64 0, .int .i64 0, .int .u32 0, .slice none 0 0] 27))).h
  clear hz1 hz2
  go_enter Tryd.func37, Tryd.ntmps37
  go_upto_region 2 with fail
  generalize ((w.alloc (.cells #[.int .u8 3, .int .u64 pr, .string s, .int .i64 ru, .int .i64 re, .int .i64 li, .int .u32 su, .slice ua n uc] 27)).alloc (.cells #[.int .u8 0, .int .u64 0, .string ⟨#[]⟩, .int .i64 0, .int .i64 0, .int .i64 0, .int .u32 0, .slice none 0 0] 27)).alloc (.cells #[.int .u8 3, .int .u64 0, .string ⟨#[]⟩, .int .i64 0, .int .i64 0, .int .i64 0, .int .u32 0, .slice none 0 0] 27) = w0 at *
  have a0 := EA.cell 0 _ rfl
  have a1 := EA.cell 1 _ rfl
  have a2 := EA.cell 2 _ rfl
  have a3 := EA.cell 3 _ rfl
  have a4 := EA.cell 4 _ rfl
  have a5 := EA.cell 5 _ rfl
  have a6 := EA.cell 6 _ rfl
  have a7 := EA.cell 7 _ rfl
  have g2 := EX.free 2
  have y2 := EX.cell 2 _ rfl
  have g3 := EX.free 3
  have y3 := EX.cell 3 _ rfl
  have g4 := EX.free 4
  have y4 := EX.cell 4 _ rfl
  have g5 := EX.free 5
  have y5 := EX.cell 5 _ rfl
  have g6 := EX.free 6
  have y6 := EX.cell 6 _ rfl
  clear EA
  go_upto_region 19 with fail
  have EX2 : CellsAt (((((w0.setCell ⟨w.heap.size + 1 + 1, 2, none⟩ (.string s)).setCell ⟨w.heap.size + 1 + 1, 3, none⟩ (.int .i64 ru)).setCell ⟨w.heap.size + 1 + 1, 4, none⟩ (.int .i64 re)).setCell ⟨w.heap.size + 1 + 1, 5, none⟩ (.int .i64 li)).setCell ⟨w.heap.size + 1 + 1, 6, none⟩ (.int .u32 su)) (w.heap.size + 1 + 1) [.int .u8 3, .int .u64 0, .string s, .int .i64 ru, .int .i64 re, .int .i64 li, .int .u32 su, .slice none 0 0] := (((((EX.set 2 (.string s) (by simp)).set 3 (.int .i64 ru) (by simp)).set 4 (.int .i64 re) (by simp)).set 5 (.int .i64 li) (by simp)).set 6 (.int .u32 su) (by simp))
  have ER2 := (((((ER.other (c := w.heap.size + 1 + 1) (by omega) 2 (.string s)).other (c := w.heap.size + 1 + 1) (by omega) 3 (.int .i64 ru)).other (c := w.heap.size + 1 + 1) (by omega) 4 (.int .i64 re)).other (c := w.heap.size + 1 + 1) (by omega) 5 (.int .i64 li)).other (c := w.heap.size + 1 + 1) (by omega) 6 (.int .u32 su))
  have GB2 := (((((GB.setCell (p := ⟨w.heap.size + 1 + 1, 2, none⟩) (by show w.heap.size ≤ w.heap.size + 1 + 1; omega) (.string s)).setCell (p := ⟨w.heap.size + 1 + 1, 3, none⟩) (by show w.heap.size ≤ w.heap.size + 1 + 1; omega) (.int .i64 ru)).setCell (p := ⟨w.heap.size + 1 + 1, 4, none⟩) (by show w.heap.size ≤ w.heap.size + 1 + 1; omega) (.int .i64 re)).setCell (p := ⟨w.heap.size + 1 + 1, 5, none⟩) (by show w.heap.size ≤ w.heap.size + 1 + 1; omega) (.int .i64 li)).setCell (p := ⟨w.heap.size + 1 + 1, 6, none⟩) (by show w.heap.size ≤ w.heap.size + 1 + 1; omega) (.int .u32 su))
  clear EX ER GB g2 y2 g3 y3 g4 y4 g5 y5 g6 y6 a0 a1 a2 a3 a4 a5 a6 a7
  generalize (((((w0.setCell ⟨w.heap.size + 1 + 1, 2, none⟩ (.string s)).setCell ⟨w.heap.size + 1 + 1, 3, none⟩ (.int .i64 ru)).setCell ⟨w.heap.size + 1 + 1, 4, none⟩ (.int .i64 re)).setCell ⟨w.heap.size + 1 + 1, 5, none⟩ (.int .i64 li)).setCell ⟨w.heap.size + 1 + 1, 6, none⟩ (.int .u32 su)) = w1 at *
  have c0 := EX2.cell 0 _ rfl
  have c1 := EX2.cell 1 _ rfl
  have c2 := EX2.cell 2 _ rfl
  have c3 := EX2.cell 3 _ rfl
  have c4 := EX2.cell 4 _ rfl
  have c5 := EX2.cell 5 _ rfl
  have c6 := EX2.cell 6 _ rfl
  have c7 := EX2.cell 7 _ rfl
  have f0 := ER2.free 0
  have r0 := ER2.cell 0 _ rfl
  have f1 := ER2.free 1
  have r1 := ER2.cell 1 _ rfl
  have f2 := ER2.free 2
  have r2 := ER2.cell 2 _ rfl
  have f3 := ER2.free 3
  have r3 := ER2.cell 3 _ rfl
  have f4 := ER2.free 4
  have r4 := ER2.cell 4 _ rfl
  have f5 := ER2.free 5
  have r5 := ER2.cell 5 _ rfl
  have f6 := ER2.free 6
  have r6 := ER2.cell 6 _ rfl
  have f7 := ER2.free 7
  have r7 := ER2.cell 7 _ rfl
  have ES := Lib.hid (ER2.set8 (.int .u8 3) (.int .u64 0) (.string s) (.int .i64 ru) (.int .i64 re) (.int .i64 li) (.int .u32 su) (.slice none 0 0))
  have BS := Lib.hid (below_set8 GB2 (show w.heap.size ≤ w.heap.size + 1 by omega) (.int .u8 3) (.int .u64 0) (.string s) (.int .i64 ru) (.int .i64 re) (.int .i64 li) (.int .u32 su) (.slice none 0 0))
  clear EX2 ER2 GB2
  go_wp2_with fail
  exact ent_end37 rfl rfl ES.out ⟨rfl, BS.out⟩
set_option maxHeartbeats 3200000 in
theorem bare5_ok (w : World) (pr : Nat) (s : ByteArray) (ru re li : Int) (su : Nat) (u : Value) {l : List Int} (hu : SlI w u l) : Calls Tryd.prog 37 #[.agg #[.int .u8 5, .int .u64 pr, .string s, .int .i64 ru, .int .i64 re, .int .i64 li, .int .u32 su, u]] w (RetAgg w #[.int .u8 5, .int .u64 0, .string s, .int .i64 ru, .int .i64 re, .int .i64 0, .int .u32 su, u]) := by
  obtain ⟨ua, uc, hu1, _⟩ := hu.form
  clear hu
  generalize hn : l.length = n at *
  clear hn
  subst hu1
  have hz1 : (w.alloc (.cells #[.int .u8 5, .int .u64 pr, .string s, .int .i64 ru, .int .i64 re, .int .i64 li, .int .u32 su, .slice ua n uc] 27)).heap.size = w.heap.size + 1 := by simp
  have hz2 : ((w.alloc (.cells #[.int .u8 5, .int .u64 pr, .string s, .int .i64 ru, .int .i64 re, .int .i64 li, .int .u32 su, .slice ua n uc] 27)).alloc (.cells #[.int .u8 0, .int .u64 0, .string ⟨#[]⟩, .int .i64 0, .int .i64 0, .int .i64 0, .int .u32 0, .slice none 0 0] 27)).heap.size = w.heap.size + 1 + 1 := by simp
  have EA : CellsAt (((w.alloc (.cells #[.int .u8 5, .int .u64 pr, .string s, .int .i64 ru, .int .i64 re, .int .i64 li, .int .u32 su, .slice ua n uc] 27)).alloc (.cells #[.int .u8 0, .int .u64 0, .string ⟨#[]⟩, .int .i64 0, .int .i64 0, .int .i64 0, .int .u32 0, .slice none 0 0] 27)).alloc (.cells #[.int .u8 5, .int .u64 0, .string ⟨#[]⟩, .int .i64 0, .int .i64 0, .int .i64 0, .int .u32 0, .slice none 0 0] 27)) w.heap.size [.int .u8 5, .int .u64 pr, .string s, .int .i64 ru, .int .i64 re, .int .i64 li, .int .u32 su, .slice ua n uc] := (CellsAt.new w [.int .u8 5, .int .u64 pr, .string s, .int .i64 ru, .int .i64 re, .int .i64 li, .int .u32 su, .slice ua n uc] 27).gr
  have ER : CellsAt (((w.alloc (.cells #[.int .u8 5, .int .u64 pr, .string s, .int .i64 ru, .int .i64 re, .int .i64 li, .int .u32 su, .slice ua n uc] 27)).alloc (.cells #[.int .u8 0, .int .u64 0, .string ⟨#[]⟩, .int .i64 0, .int .i64 0, .int .i64 0, .int .u32 0, .slice none 0 0] 27)).alloc (.cells #[.int .u8 5, .int .u64 0, .string ⟨#[]⟩, .int .i64 0, .int .i64 0, .int .i64 0, .int .u32 0, .slice none 0 0] 27)) (w.heap.size + 1) [.int .u8 0, .int .u64 0, .string ⟨#[]⟩, .int .i64 0, .int .i64 0, .int .i64 0, .int .u32 0, .slice none 0 0] := by have := CellsAt.new (w.alloc (.cells #[.int .u8 5, .int .u64 pr, .string s, .int .i64 ru, .int .i64 re, .int .i64 li, .int .u32 su, .slice ua n uc] 27)) [.int .u8 0, .int .u64 0, .string ⟨#[]⟩, .int .i64 0, .int .i64 0, .int .i64 0, .int .u32 0, .slice none 0 0] 27; rw [hz1] at this; exact this.gr
  have EX : CellsAt (((w.alloc (.cells #[.int .u8 5, .int .u64 pr, .string s, .int .i64 ru, .int .i64 re, .int .i64 li, .int .u32 su, .slice ua n uc] 27)).alloc (.cells #[.int .u8 0, .int .u64 0, .string ⟨#[]⟩, .int .i64 0, .int .i64 0, .int .i64 0, .int .u32 0, .slice none 0 0] 27)).alloc (.cells #[.int .u8 5, .int .u64 0, .string ⟨#[]⟩, .int .i64 0, .int .i64 0, .int .i64 0, .int .u32 0, .slice none 0 0] 27)) (w.heap.size + 1 + 1) [.int .u8 5, .int .u64 0, .string ⟨#[]⟩, .int .i64 0, .int .i64 0, .int .i64 0, .int .u32 0, .slice none 0 0] := by have := CellsAt.new ((w.alloc (.cells #[.int .u8 5, .int .u64 pr, .string s, .int .i64 ru, .int .i64 re, .int .i64 li, .int .u32 su, .slice ua n uc] 27)).alloc (.cells #[.int .u8 0, .int .u64 0, .string ⟨#[]⟩, .int .i64 0, .int .i64 0, .int .i64 0, .int .u32 0, .slice none 0 0] 27)) [.int .u8 5, .int .u64 0, .string ⟨#[]⟩, .int .i64 0, .int .i64 0, .int .i64 0, .int .u32 0, .slice none 0 0] 27; rw [hz2] at this; exact this
  have GB := (inferInstance : Gr w (((w.alloc (.cells #[.int .u8 5, .int .u64 pr, .string s, .int .i64 ru, .int .i64 re, .int .i64 li, .int .u32 su, .slice ua n uc] 27)).alloc (.cells #[.int .u8 0, .int .u64 0, .string ⟨#[]⟩, .int .i64 0, .int .i64 0, .int .i64 0, .int .u32 0, .slice none 0 0] 27)).alloc (.cells #[.int .u8 5, .int .u64 0, .string ⟨#[]⟩, .int .i64 0, .int .i64 0, .int .i64 0, .int .u32 0, .slice none 0 0] 27))).h
  clear hz1 hz2
  go_enter Tryd.func37, Tryd.ntmps37
  go_upto_region 2 with fail
  generalize ((w.alloc (.cells #[.int .u8 5, .int .u64 pr, .string s, .int .i64 ru, .int .i64 re, .int .i64 li, .int .u32 su, .slice ua n uc] 27)).alloc (.cells #[.int .u8 0, .int .u64 0, .string ⟨#[]⟩, .int .i64 0, .int .i64 0, .int .i64 0, .int .u32 0, .slice none 0 0] 27)).alloc (.cells #[.int .u8 5, .int .u64 0, .string ⟨#[]⟩, .int .i64 0, .int .i64 0, .int .i64 0, .int .u32 0, .slice none 0 0] 27) = w0 at *
  have a0 := EA.cell 0 _ rfl
  have a1 := EA.cell 1 _ rfl
  have a2 := EA.cell 2 _ rfl
  have a3 := EA.cell 3 _ rfl
  have a4 := EA.cell 4 _ rfl
  have a5 := EA.cell 5 _ rfl
  have a6 := EA.cell 6 _ rfl
  have a7 := EA.cell 7 _ rfl
  have g2 := EX.free 2
  have y2 := EX.cell 2 _ rfl
  have g3 := EX.free 3
  have y3 := EX.cell 3 _ rfl
  have g4 := EX.free 4
  have y4 := EX.cell 4 _ rfl
  have g6 := EX.free 6
  have y6 := EX.cell 6 _ rfl
  have g7 := EX.free 7
  have y7 := EX.cell 7 _ rfl
  clear EA
  go_upto_region 19 with fail
  have EX2 : CellsAt (((((w0.setCell ⟨w.heap.size + 1 + 1, 2, none⟩ (.string s)).setCell ⟨w.heap.size + 1 + 1, 3, none⟩ (.int .i64 ru)).setCell ⟨w.heap.size + 1 + 1, 4, none⟩ (.int .i64 re)).setCell ⟨w.heap.size + 1 + 1, 6, none⟩ (.int .u32 su)).setCell ⟨w.heap.size + 1 + 1, 7, none⟩ (.slice ua n uc)) (w.heap.size + 1 + 1) [.int .u8 5, .int .u64 0, .string s, .int .i64 ru, .int .i64 re, .int .i64 0, .int .u32 su, .slice ua n uc] := (((((EX.set 2 (.string s) (by simp)).set 3 (.int .i64 ru) (by simp)).set 4 (.int .i64 re) (by simp)).set 6 (.int .u32 su) (by simp)).set 7 (.slice ua n uc) (by simp))
  have ER2 := (((((ER.other (c := w.heap.size + 1 + 1) (by omega) 2 (.string s)).other (c := w.heap.size + 1 + 1) (by omega) 3 (.int .i64 ru)).other (c := w.heap.size + 1 + 1) (by omega) 4 (.int .i64 re)).other (c := w.heap.size + 1 + 1) (by omega) 6 (.int .u32 su)).other (c := w.heap.size + 1 + 1) (by omega) 7 (.slice ua n uc))
  have GB2 := (((((GB.setCell (p := ⟨w.heap.size + 1 + 1, 2, none⟩) (by show w.heap.size ≤ w.heap.size + 1 + 1; omega) (.string s)).setCell (p := ⟨w.heap.size + 1 + 1, 3, none⟩) (by show w.heap.size ≤ w.heap.size + 1 + 1; omega) (.int .i64 ru)).setCell (p := ⟨w.heap.size + 1 + 1, 4, none⟩) (by show w.heap.size ≤ w.heap.size + 1 + 1; omega) (.int .i64 re)).setCell (p := ⟨w.heap.size + 1 + 1, 6, none⟩) (by show w.heap.size ≤ w.heap.size + 1 + 1; omega) (.int .u32 su)).setCell (p := ⟨w.heap.size + 1 + 1, 7, none⟩) (by show w.heap.size ≤ w.heap.size + 1 + 1; omega) (.slice ua n uc))
  clear EX ER GB g2 y2 g3 y3 g4 y4 g6 y6 g7 y7 a0 a1 a2 a3 a4 a5 a6 a7
  generalize (((((w0.setCell ⟨w.heap.size + 1 + 1, 2, none⟩ (.string s)).setCell ⟨w.heap.size + 1 + 1, 3, none⟩ (.int .i64 ru)).setCell ⟨w.heap.size + 1 + 1, 4, none⟩ (.int .i64 re)).setCell ⟨w.heap.size + 1 + 1, 6, none⟩ (.int .u32 su)).setCell ⟨w.heap.size + 1 + 1, 7, none⟩ (.slice ua n uc)) = w1 at *
  have c0 := EX2.cell 0 _ rfl
  have c1 := EX2.cell 1 _ rfl
  have c2 := EX2.cell 2 _ rfl
  have c3 := EX2.cell 3 _ rfl
  have c4 := EX2.cell 4 _ rfl
  have c5 := EX2.cell 5 _ rfl
  have c6 := EX2.cell 6 _ rfl
  have c7 := EX2.cell 7 _ rfl
  have f0 := ER2.free 0
  have r0 := ER2.cell 0 _ rfl
  have f1 := ER2.free 1
  have r1 := ER2.cell 1 _ rfl
  have f2 := ER2.free 2
  have r2 := ER2.cell 2 _ rfl
  have f3 := ER2.free 3
  have r3 := ER2.cell 3 _ rfl
  have f4 := ER2.free 4
  have r4 := ER2.cell 4 _ rfl
  have f5 := ER2.free 5
  have r5 := ER2.cell 5 _ rfl
  have f6 := ER2.free 6
  have r6 := ER2.cell 6 _ rfl
  have f7 := ER2.free 7
  have r7 := ER2.cell 7 _ rfl
  have ES := Lib.hid (ER2.set8 (.int .u8 5) (.int .u64 0) (.string s) (.int .i64 ru) (.int .i64 re) (.int .i64 0) (.int .u32 su) (.slice ua n uc))
  have BS := Lib.hid (below_set8 GB2 (show w.heap.size ≤ w.heap.size + 1 by omega) (.int .u8 5) (.int .u64 0) (.string s) (.int .i64 ru) (.int .i64 re) (.int .i64 0) (.int .u32 su) (.slice ua n uc))
  clear EX2 ER2 GB2
  go_wp2_with fail
  exact ent_end37 rfl rfl ES.out ⟨rfl, BS.out⟩
set_option maxHeartbeats 3200000 in
theorem bare0_ok (w : World) (k : Nat) (hk1 : k ≠ 1) (hk2 : k ≠ 2) (hk3 : k ≠ 3) (hk5 : k ≠ 5) (hk : k < 256) (pr : Nat) (s : ByteArray) (ru re li : Int) (su : Nat) (u : Value) {l : List Int} (hu : SlI w u l) : Calls Tryd.prog 37 #[.agg #[.int .u8 (k : Int), .int .u64 pr, .string s, .int .i64 ru, .int .i64 re, .int .i64 li, .int .u32 su, u]] w (RetAgg w #[.int .u8 (k : Int), .int .u64 0, .string ⟨#[]⟩, .int .i64 0, .int .i64 0, .int .i64 0, .int .u32 0, .slice none 0 0]) := by
  obtain ⟨ua, uc, hu1, _⟩ := hu.form
  clear hu
  generalize hn : l.length = n at *
  clear hn
  have q1 : ((k : Int) == 1) = false := by simp only [beq_eq_false_iff_ne]; omega
  have d1 : decide ((k : Int) = 1) = false := decide_eq_false (by omega)
  have q2 : ((k : Int) == 2) = false := by simp only [beq_eq_false_iff_ne]; omega
  have d2 : decide ((k : Int) = 2) = false := decide_eq_false (by omega)
  have q3 : ((k : Int) == 3) = false := by simp only [beq_eq_false_iff_ne]; omega
  have d3 : decide ((k : Int) = 3) = false := decide_eq_false (by omega)
  have q5 : ((k : Int) == 5) = false := by simp only [beq_eq_false_iff_ne]; omega
  have d5 : decide ((k : Int) = 5) = false := decide_eq_false (by omega)
  have kb : (k : Int) ≤ 255 := by omega
  clear hk1 hk2 hk3 hk5 hk
  subst hu1
  have hz1 : (w.alloc (.cells #[.int .u8 (k : Int), .int .u64 pr, .string s, .int .i64 ru, .int .i64 re, .int .i64 li, .int .u32 su, .slice ua n uc] 27)).heap.size = w.heap.size + 1 := by simp
  have hz2 : ((w.alloc (.cells #[.int .u8 (k : Int), .int .u64 pr, .string s, .int .i64 ru, .int .i64 re, .int .i64 li, .int .u32 su, .slice ua n uc] 27)).alloc (.cells #[.int .u8 0, .int .u64 0, .string ⟨#[]⟩, .int .i64 0, .int .i64 0, .int .i64 0, .int .u32 0, .slice none 0 0] 27)).heap.size = w.heap.size + 1 + 1 := by simp
  have EA : CellsAt (((w.alloc (.cells #[.int .u8 (k : Int), .int .u64 pr, .string s, .int .i64 ru, .int .i64 re, .int .i64 li, .int .u32 su, .slice ua n uc] 27)).alloc (.cells #[.int .u8 0, .int .u64 0, .string ⟨#[]⟩, .int .i64 0, .int .i64 0, .int .i64 0, .int .u32 0, .slice none 0 0] 27)).alloc (.cells #[.int .u8 (k : Int), .int .u64 0, .string ⟨#[]⟩, .int .i64 0, .int .i64 0, .int .i64 0, .int .u32 0, .slice none 0 0] 27)) w.heap.size [.int .u8 (k : Int), .int .u64 pr, .string s, .int .i64 ru, .int .i64 re, .int .i64 li, .int .u32 su, .slice ua n uc] := (CellsAt.new w [.int .u8 (k : Int), .int .u64 pr, .string s, .int .i64 ru, .int .i64 re, .int .i64 li, .int .u32 su, .slice ua n uc] 27).gr
  have ER : CellsAt (((w.alloc (.cells #[.int .u8 (k : Int), .int .u64 pr, .string s, .int .i64 ru, .int .i64 re, .int .i64 li, .int .u32 su, .slice ua n uc] 27)).alloc (.cells #[.int .u8 0, .int .u64 0, .string ⟨#[]⟩, .int .i64 0, .int .i64 0, .int .i64 0, .int .u32 0, .slice none 0 0] 27)).alloc (.cells #[.int .u8 (k : Int), .int .u64 0, .string ⟨#[]⟩, .int .i64 0, .int .i64 0, .int .i64 0, .int .u32 0, .slice none 0 0] 27)) (w.heap.size + 1) [.int .u8 0, .int .u64 0, .string ⟨#[]⟩, .int .i64 0, .int .i64 0, .int .i64 0, .int .u32 0, .slice none 0 0] := by have := CellsAt.new (w.alloc (.cells #[.int .u8 (k : Int), .int .u64 pr, .string s, .int .i64 ru, .int .i64 re, .int .i64 li, .int .u32 su, .slice ua n uc] 27)) [.int .u8 0, .int .u64 0, .string ⟨#[]⟩, .int .i64 0, .int .i64 0, .int .i64 0, .int .u32 0, .slice none 0 0] 27; rw [hz1] at this; exact this.gr
  have EX : CellsAt (((w.alloc (.cells #[.int .u8 (k : Int), .int .u64 pr, .string s, .int .i64 ru, .int .i64 re, .int .i64 li, .int .u32 su, .slice ua n uc] 27)).alloc (.cells #[.int .u8 0, .int .u64 0, .string ⟨#[]⟩, .int .i64 0, .int .i64 0, .int .i64 0, .int .u32 0, .slice none 0 0] 27)).alloc (.cells #[.int .u8 (k : Int), .int .u64 0, .string ⟨#[]⟩, .int .i64 0, .int .i64 0, .int .i64 0, .int .u32 0, .slice none 0 0] 27)) (w.heap.size + 1 + 1) [.int .u8 (k : Int), .int .u64 0, .string ⟨#[]⟩, .int .i64 0, .int .i64 0, .int .i64 0, .int .u32 0, .slice none 0 0] := by have := CellsAt.new ((w.alloc (.cells #[.int .u8 (k : Int), .int .u64 pr, .string s, .int .i64 ru, .int .i64 re, .int .i64 li, .int .u32 su, .slice ua n uc] 27)).alloc (.cells #[.int .u8 0, .int .u64 0, .string ⟨#[]⟩, .int .i64 0, .int .i64 0, .int .i64 0, .int .u32 0, .slice none 0 0] 27)) [.int .u8 (k : Int), .int .u64 0, .string ⟨#[]⟩, .int .i64 0, .int .i64 0, .int .i64 0, .int .u32 0, .slice none 0 0] 27; rw [hz2] at this; exact this
  have GB := (inferInstance : Gr w (((w.alloc (.cells #[.int .u8 (k : Int), .int .u64 pr, .string s, .int .i64 ru, .int .i64 re, .int .i64 li, .int .u32 su, .slice ua n uc] 27)).alloc (.cells #[.int .u8 0, .int .u64 0, .string ⟨#[]⟩, .int .i64 0, .int .i64 0, .int .i64 0, .int .u32 0, .slice none 0 0] 27)).alloc (.cells #[.int .u8 (k : Int), .int .u64 0, .string ⟨#[]⟩, .int .i64 0, .int .i64 0, .int .i64 0, .int .u32 0, .slice none 0 0] 27))).h
  clear hz1 hz2
  go_enter Tryd.func37, Tryd.ntmps37
  go_upto_region 2 with fail
  generalize ((w.alloc (.cells #[.int .u8 (k : Int), .int .u64 pr, .string s, .int .i64 ru, .int .i64 re, .int .i64 li, .int .u32 su, .slice ua n uc] 27)).alloc (.cells #[.int .u8 0, .int .u64 0, .string ⟨#[]⟩, .int .i64 0, .int .i64 0, .int .i64 0, .int .u32 0, .slice none 0 0] 27)).alloc (.cells #[.int .u8 (k : Int), .int .u64 0, .string ⟨#[]⟩, .int .i64 0, .int .i64 0, .int .i64 0, .int .u32 0, .slice none 0 0] 27) = w0 at *
  have a0 := EA.cell 0 _ rfl
  have a1 := EA.cell 1 _ rfl
  have a2 := EA.cell 2 _ rfl
  have a3 := EA.cell 3 _ rfl
  have a4 := EA.cell 4 _ rfl
  have a5 := EA.cell 5 _ rfl
  have a6 := EA.cell 6 _ rfl
  have a7 := EA.cell 7 _ rfl
  clear EA
  go_upto_region 19 with fail
  have EX2 := EX
  have ER2 := ER
  have GB2 := GB
  clear EX ER GB a0 a1 a2 a3 a4 a5 a6 a7
  generalize w0 = w1 at *
  have c0 := EX2.cell 0 _ rfl
  have c1 := EX2.cell 1 _ rfl
  have c2 := EX2.cell 2 _ rfl
  have c3 := EX2.cell 3 _ rfl
  have c4 := EX2.cell 4 _ rfl
  have c5 := EX2.cell 5 _ rfl
  have c6 := EX2.cell 6 _ rfl
  have c7 := EX2.cell 7 _ rfl
  have f0 := ER2.free 0
  have r0 := ER2.cell 0 _ rfl
  have f1 := ER2.free 1
  have r1 := ER2.cell 1 _ rfl
  have f2 := ER2.free 2
  have r2 := ER2.cell 2 _ rfl
  have f3 := ER2.free 3
  have r3 := ER2.cell 3 _ rfl
  have f4 := ER2.free 4
  have r4 := ER2.cell 4 _ rfl
  have f5 := ER2.free 5
  have r5 := ER2.cell 5 _ rfl
  have f6 := ER2.free 6
  have r6 := ER2.cell 6 _ rfl
  have f7 := ER2.free 7
  have r7 := ER2.cell 7 _ rfl
  have ES := Lib.hid (ER2.set8 (.int .u8 (k : Int)) (.int .u64 0) (.string ⟨#[]⟩) (.int .i64 0) (.int .i64 0) (.int .i64 0) (.int .u32 0) (.slice none 0 0))
  have BS := Lib.hid (below_set8 GB2 (show w.heap.size ≤ w.heap.size + 1 by omega) (.int .u8 (k : Int)) (.int .u64 0) (.string ⟨#[]⟩) (.int .i64 0) (.int .i64 0) (.int .i64 0) (.int .u32 0) (.slice none 0 0))
  clear EX2 ER2 GB2
  go_wp2_with fail
  exact ent_end37 rfl rfl ES.out ⟨rfl, BS.out⟩
def bareE (e : Ent) : Ent :=
  if e.k = 1 then ⟨1, e.pr, [], 0, 0, 0, 0, []⟩
  else if e.k = 2 then ⟨2, 0, e.nm, 0, 0, 0, 0, []⟩
  else if e.k = 3 then ⟨3, 0, e.nm, e.ru, e.re, e.li, e.su, []⟩
  else if e.k = 5 then ⟨5, 0, e.nm, e.ru, e.re, 0, e.su, e.inn⟩
  else ⟨e.k, 0, [], 0, 0, 0, 0, []⟩
/-- An entry is answered. -/
def RetE (w : World) (x : Ent) (e : Ending) (w' : World) : Prop := ∃ v, e = .returned (eA x v) ∧ SlI w' v x.inn ∧ Below w.heap.size w w'
theorem bare_ok (e : Ent) (hk : e.k < 256) {u : Value} {w : World} (h : SlI w u e.inn) : Calls Tryd.prog 37 #[eA e u] w (RetE w (bareE e)) := by
  obtain ⟨k, pr, nm, ru, re, li, su, inn⟩ := e
  simp only at h hk
  unfold bareE
  simp only
  by_cases h1 : k = 1
  · subst h1
    rw [if_pos rfl]
    exact (bare1_ok w pr (bs nm) ru re li su u h).mono fun _ W ⟨a, b⟩ => ⟨.slice none 0 0, a, SlAt.nil W, b⟩
  · rw [if_neg h1]
    by_cases h2 : k = 2
    · subst h2
      rw [if_pos rfl]
      exact (bare2_ok w pr (bs nm) ru re li su u h).mono fun _ W ⟨a, b⟩ => ⟨.slice none 0 0, a, SlAt.nil W, b⟩
    · rw [if_neg h2]
      by_cases h3 : k = 3
      · subst h3
        rw [if_pos rfl]
        exact (bare3_ok w pr (bs nm) ru re li su u h).mono fun _ W ⟨a, b⟩ => ⟨.slice none 0 0, a, SlAt.nil W, b⟩
      · rw [if_neg h3]
        by_cases h5 : k = 5
        · subst h5
          rw [if_pos rfl]
          exact (bare5_ok w pr (bs nm) ru re li su u h).mono fun _ W ⟨a, b⟩ => ⟨u, a, h.below b, b⟩
        · rw [if_neg h5]
          exact (bare0_ok w k h1 h2 h3 h5 hk pr (bs nm) ru re li su u h).mono fun _ W ⟨a, b⟩ => ⟨.slice none 0 0, a, SlAt.nil W, b⟩

end Go.Proofs.YtlbekgcfafofdaaDoor
