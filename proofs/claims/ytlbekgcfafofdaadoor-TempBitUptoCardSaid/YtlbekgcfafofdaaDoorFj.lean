/- Which fields of an entry are not empty: the walk. -/
import Derived.Test.YtlbekgcfafofdaaDoorPr
namespace Go.Proofs.YtlbekgcfafofdaaDoor
section
open Go.RowKit
set_option maxRecDepth 100000

def orN (b : Bool) (v m : Nat) : Nat := if b then v ||| m else v
def FilPost (w : World) (p : Nat) (v : Nat) (e : Ending) (w' : World) : Prop := e = .returned (.tuple #[]) ∧ BlkAt w' p 63 [.int .u8 v] ∧ Kp w w' (fun k => k = p)
theorem fill_ok (p m v : Nat) (b : Bool) (w : World) (hm : m < 256) (hv : v < 256) (h : BlkAt w p 63 [.int .u8 v]) : Calls Tryd.prog 46 #[.int .u8 m, .bool b, .pointer (some ⟨p, 0, none⟩)] w (FilPost w p (orN b v m)) := by
  have c1 := h.cell 0 _ rfl
  have f1 := h.free 0
  have H := Lib.hid h
  have O := Lib.hid (u8_or_nat v m hv hm)
  clear h
  cases b with
  | false =>
    go_enter Tryd.func46, Tryd.ntmps46
    go_wp2_with fail
    go_end0
    exact ⟨rfl, H.out, Kp.refl _ _⟩
  | true =>
    go_enter Tryd.func46, Tryd.ntmps46
    go_wp2_with fail
    go_end0
    refine ⟨rfl, ?_, Kp.set w p 0 _⟩
    have := H.out.set 0 (.int .u8 ((v ||| m : Nat) : Int))
    simp only [List.set_cons_zero] at this
    rw [O.out]
    exact this
end
section
open Go.RowKit
set_option maxRecDepth 100000

def FilBox (w : World) (k pr : Nat) (s : ByteArray) (ru re li : Int) (su : Nat) (u : Value) (v : Nat) (w1 : World) : Prop :=
  CellsAt w1 w.heap.size [.int .u8 k, .int .u64 pr, .string s, .int .i64 ru, .int .i64 re, .int .i64 li, .int .u32 su, u] ∧ BlkAt w1 (w.heap.size + 1) 63 [.int .u8 v] ∧ Below w.heap.size w w1
theorem FilBox.step {w : World} {k pr : Nat} {s : ByteArray} {ru re li : Int} {su : Nat} {u : Value} {v v' : Nat} {w1 w2 : World} (h : FilBox w k pr s ru re li su u v w1) (b : BlkAt w2 (w.heap.size + 1) 63 [.int .u8 v']) (q : Kp w1 w2 (fun k => k = w.heap.size + 1)) : FilBox w k pr s ru re li su u v' w2 := by
  obtain ⟨h1, h2, h3⟩ := h
  refine ⟨⟨Nat.lt_of_lt_of_le h1.lt q.size, fun j v hv => ?_, fun j => ?_⟩, b, h3.trans (q.below h3.size fun x e => by omega)⟩
  · have := q.block w.heap.size h1.lt (by omega)
    exact (World.cell?_of_block (a := ⟨w.heap.size, j, none⟩) this).trans (h1.cell j v hv)
  · have := q.block w.heap.size h1.lt (by omega)
    exact (World.frozen?_of_block (a := ⟨w.heap.size, j, none⟩) this).trans (h1.free j)
theorem orN_lt {b : Bool} {v m : Nat} (hv : v < 256) (hm : m < 256) : orN b v m < 256 := by
  unfold orN; split
  · exact Nat.or_lt_two_pow (n := 8) hv hm
  · exact hv
set_option maxHeartbeats 1600000 in
theorem filled_raw (k pr : Nat) (s : ByteArray) (ru re li : Int) (su : Nat) (a : Option Addr) (n c : Nat) (w : World) (b0 b1 b2 b3 b4 b5 b6 : Bool)
    (h0 : ((pr : Int) != 0) = b0) (h1 : (!s.toList.isEmpty) = b1) (h2 : (ru != 0) = b2) (h3 : (re != 0) = b3) (h4 : (li != 0) = b4) (h5 : ((su : Int) != 0) = b5) (_h6 : decide (0 < (n : Int)) = b6) (h6n : decide (0 < n) = b6) :
    Calls Tryd.prog 31 #[.agg #[.int .u8 k, .int .u64 pr, .string s, .int .i64 ru, .int .i64 re, .int .i64 li, .int .u32 su, .slice a n c]] w (RetBelow w (.int .u8 ((orN b6 (orN b5 (orN b4 (orN b3 (orN b2 (orN b1 (orN b0 0 1) 2) 4) 8) 16) 32) 64 : Nat) : Int))) := by
  have FB := Lib.hid (show FilBox w k pr s ru re li su (.slice a n c) 0 ((w.alloc (.cells #[.int .u8 k, .int .u64 pr, .string s, .int .i64 ru, .int .i64 re, .int .i64 li, .int .u32 su, .slice a n c] 27)).alloc (.cells #[.int .u8 0] 63)) from
    ⟨(CellsAt.new w [.int .u8 k, .int .u64 pr, .string s, .int .i64 ru, .int .i64 re, .int .i64 li, .int .u32 su, .slice a n c] 27).alloc _, by have := BlkAt.new (w.alloc (.cells #[.int .u8 k, .int .u64 pr, .string s, .int .i64 ru, .int .i64 re, .int .i64 li, .int .u32 su, .slice a n c] 27)) [.int .u8 0] 63; rw [World.size_alloc] at this; exact this, ((Below.refl _ _).alloc (Nat.le_refl _) _).alloc (by simp) _⟩)
  go_enter Tryd.func31, Tryd.ntmps31
  go_wp2_with fail
  generalize hW : (w.alloc (.cells #[.int .u8 k, .int .u64 pr, .string s, .int .i64 ru, .int .i64 re, .int .i64 li, .int .u32 su, .slice a n c] 27)).alloc (.cells #[.int .u8 0] 63) = wx at *
  clear hW
  refine (fill_ok _ 1 0 b0 _ (by decide) (by decide) FB.out.2.1).mono ?_
  rintro e w1 ⟨rfl, q1, q2⟩
  have F1 := Lib.hid (FB.out.step q1 q2)
  have c2 := F1.out.1.cell 2 _ rfl
  clear FB q1 q2
  have L0 : orN b0 0 1 < 256 := orN_lt (by decide) (by decide)
  go_wp2_with fail
  refine (fill_ok _ 2 (orN b0 0 1) b1 _ (by decide) L0 F1.out.2.1).mono ?_
  rintro e w2 ⟨rfl, q1, q2⟩
  have F2 := Lib.hid (F1.out.step q1 q2)
  have d3 := F2.out.1.cell 3 _ rfl
  clear F1 q1 q2
  have L1 : orN b1 (orN b0 0 1) 2 < 256 := orN_lt L0 (by decide)
  go_wp2_with fail
  refine (fill_ok _ 4 (orN b1 (orN b0 0 1) 2) b2 _ (by decide) L1 F2.out.2.1).mono ?_
  rintro e w3 ⟨rfl, q1, q2⟩
  have F3 := Lib.hid (F2.out.step q1 q2)
  have d4 := F3.out.1.cell 4 _ rfl
  clear F2 q1 q2
  have L2 : orN b2 (orN b1 (orN b0 0 1) 2) 4 < 256 := orN_lt L1 (by decide)
  go_wp2_with fail
  refine (fill_ok _ 8 (orN b2 (orN b1 (orN b0 0 1) 2) 4) b3 _ (by decide) L2 F3.out.2.1).mono ?_
  rintro e w4 ⟨rfl, q1, q2⟩
  have F4 := Lib.hid (F3.out.step q1 q2)
  have d5 := F4.out.1.cell 5 _ rfl
  clear F3 q1 q2
  have L3 : orN b3 (orN b2 (orN b1 (orN b0 0 1) 2) 4) 8 < 256 := orN_lt L2 (by decide)
  go_wp2_with fail
  refine (fill_ok _ 16 (orN b3 (orN b2 (orN b1 (orN b0 0 1) 2) 4) 8) b4 _ (by decide) L3 F4.out.2.1).mono ?_
  rintro e w5 ⟨rfl, q1, q2⟩
  have F5 := Lib.hid (F4.out.step q1 q2)
  have d6 := F5.out.1.cell 6 _ rfl
  clear F4 q1 q2
  have L4 : orN b4 (orN b3 (orN b2 (orN b1 (orN b0 0 1) 2) 4) 8) 16 < 256 := orN_lt L3 (by decide)
  go_wp2_with fail
  refine (fill_ok _ 32 (orN b4 (orN b3 (orN b2 (orN b1 (orN b0 0 1) 2) 4) 8) 16) b5 _ (by decide) L4 F5.out.2.1).mono ?_
  rintro e w6 ⟨rfl, q1, q2⟩
  have F6 := Lib.hid (F5.out.step q1 q2)
  have d7 := F6.out.1.cell 7 _ rfl
  clear F5 q1 q2
  have L5 : orN b5 (orN b4 (orN b3 (orN b2 (orN b1 (orN b0 0 1) 2) 4) 8) 16) 32 < 256 := orN_lt L4 (by decide)
  go_wp2_with fail
  refine (fill_ok _ 64 (orN b5 (orN b4 (orN b3 (orN b2 (orN b1 (orN b0 0 1) 2) 4) 8) 16) 32) b6 _ (by decide) L5 F6.out.2.1).mono ?_
  rintro e w7 ⟨rfl, q1, q2⟩
  have F7 := Lib.hid (F6.out.step q1 q2)
  have dd := F7.out.2.1.cell 0 _ rfl
  clear F6 q1 q2
  go_wp2_with fail
  go_ret
  exact ⟨rfl, F7.out.2.2⟩

theorem orN_fil : ∀ b0 b1 b2 b3 b4 b5 b6 : Bool, orN b6 (orN b5 (orN b4 (orN b3 (orN b2 (orN b1 (orN b0 0 1) 2) 4) 8) 16) 32) 64 = bitN b0 1 + bitN b1 2 + bitN b2 4 + bitN b3 8 + bitN b4 16 + bitN b5 32 + bitN b6 64 := by
  intro b0 b1 b2 b3 b4 b5 b6
  cases b0 <;> cases b1 <;> cases b2 <;> cases b3 <;> cases b4 <;> cases b5 <;> cases b6 <;> rfl
theorem bs_toList (l : List UInt8) : (bs l).toList = l := by
  rw [ByteArray.toList_eq, bs_list]
/-- An entry as a value. -/
abbrev eA (e : Ent) (u : Value) : Value := .agg #[.int .u8 (e.k : Int), .int .u64 (e.pr : Int), .string (bs e.nm), .int .i64 e.ru, .int .i64 e.re, .int .i64 e.li, .int .u32 (e.su : Int), u]
theorem filled_ok (e : Ent) {u : Value} {w : World} (h : SlI w u e.inn) : Calls Tryd.prog 31 #[eA e u] w (RetBelow w (.int .u8 (filN e : Nat))) := by
  obtain ⟨a, c, rfl, _⟩ := h.form
  unfold filN
  rw [← orN_fil]
  refine filled_raw e.k e.pr (bs e.nm) e.ru e.re e.li e.su a e.inn.length c w _ _ _ _ _ _ _ ?_ ?_ ?_ ?_ ?_ ?_ ?_ rfl
  · rw [Bool.eq_iff_iff]; simp
  · rw [bs_toList, Bool.eq_iff_iff]; simp
  · rw [Bool.eq_iff_iff]; simp
  · rw [Bool.eq_iff_iff]; simp
  · rw [Bool.eq_iff_iff]; simp
  · rw [Bool.eq_iff_iff]; simp
  · rw [Bool.eq_iff_iff]; simp
end
end Go.Proofs.YtlbekgcfafofdaaDoor
