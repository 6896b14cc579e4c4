/- Repeats in forty bytes that are the same: keys, places. Repeats in forty bytes that are the same: the longest at the first two places. Repeats in forty bytes that are the same: places noted. Repeats in forty bytes that are the same: all of them. -/
import Derived.Test.YtfbeipfpkikakaaDoorLy
namespace Go.Proofs.YtfbeipfpkikakaaDoor
section
open Go.RowKit

set_option maxRecDepth 100000
def i32L (n : Nat) (f : Nat → Nat) : List Value := (List.range n).map fun j => .int .i32 (f j : Int)
theorem i32L_len (n : Nat) (f : Nat → Nat) : (i32L n f).length = n := by simp [i32L]
theorem i32L_get {n : Nat} {f : Nat → Nat} {j : Nat} (h : j < n) : (i32L n f)[j]? = some (.int .i32 (f j : Int)) := by
  unfold i32L; rw [List.getElem?_map, List.getElem?_range h]; rfl
theorem i32L_set (n : Nat) (f : Nat → Nat) (k v : Nat) : (i32L n f).set k (.int .i32 (v : Int)) = i32L n (upd f k v) := by
  unfold i32L upd
  apply List.ext_getElem
  · simp
  · intro i h1 h2
    rw [List.getElem_set]
    simp only [List.getElem_map, List.getElem_range]
    by_cases e : k = i
    · subst e; rw [if_pos rfl, if_pos rfl]
    · rw [if_neg e, if_neg (fun h => e h.symm)]
/-- What hangs on what is there alone, though orders be drawn. -/
def Qt (w : World) (v : Value) (e : Ending) (w' : World) : Prop := e = .returned v ∧ ∃ m, w' = w.drewN m
def latF (m : Nat) : Nat → Nat := fun j => if j = 5 then m else 0
def earF (m : Nat) : Nat → Nat := fun j => if j < m then j else 0
/-- A finder of forty bytes 97, m places of which are noted. -/
structure FdAt (w : World) (B p bb bo bc L E m : Nat) : Prop where
  hb : BlkAt w p 122 [.slice (some ⟨bb, bo, none⟩) 40 bc, .int .i64 6, .slice (some ⟨L, 0, none⟩) 64 64, .slice (some ⟨E, 0, none⟩) 40 40]
  hl : BlkAt w L 21 (i32L 64 (latF m))
  he : BlkAt w E 21 (i32L 40 (earF m))
  byt : ∀ j, j < 40 → w.cell? ⟨bb, bo + j, none⟩ = some (.int .u8 97)
  lt : bb < B
  bl : B ≤ L
  be : B ≤ E
  bp : B ≤ p
  ne : L ≠ E
  pl : L ≠ p
  pe : E ≠ p
theorem FdAt.size {w : World} {B p bb bo bc L E m : Nat} (h : FdAt w B p bb bo bc L E m) : B ≤ w.heap.size := by have := h.hb.cells.lt; have := h.bp; omega
theorem FdAt.below {w w' : World} {B p bb bo bc L E m : Nat} (h : FdAt w B p bb bo bc L E m) (k : Below w.heap.size w w') : FdAt w' B p bb bo bc L E m :=
  ⟨h.hb.below k, h.hl.below k, h.he.below k, fun j hj => ((bcell k).1 bb _ (Nat.lt_of_lt_of_le h.lt h.size)).trans (h.byt j hj), h.lt, h.bl, h.be, h.bp, h.ne, h.pl, h.pe⟩
set_option maxHeartbeats 1600000 in
theorem key_ok {w : World} {B p bb bo bc L E m : Nat} (h : FdAt w B p bb bo bc L E m) (i : Nat) (hi : i + 2 < 40) : Calls Tryd.prog 73 #[.pointer (some ⟨p, 0, none⟩), .int .i64 (i : Int)] w (Qt w (.int .u32 5)) := by
  have c0 := h.hb.cells.cell 0 _ rfl
  have c1 := h.hb.cells.cell 1 _ rfl
  have lp := h.hb.cells.lt
  have b0 := h.byt i (by omega)
  have b1 := h.byt (i + 1) (by omega)
  have b2 := h.byt (i + 2) (by omega)
  have lb : bb < w.heap.size := Nat.lt_of_lt_of_le h.lt h.size
  have i0 : (i : Int) < 40 := by omega
  have i1 : (i : Int) + 1 < 40 := by omega
  have i2 : (i : Int) + 2 < 40 := by omega
  have j0 : (0 : Int) ≤ (i : Int) := by omega
  have j1 : (0 : Int) ≤ (i : Int) + 1 := by omega
  have j2 : (0 : Int) ≤ (i : Int) + 2 := by omega
  have n1 : ((i : Int) + 1).toNat = i + 1 := by omega
  have n2 : ((i : Int) + 2).toNat = i + 2 := by omega
  have eo1 : bits .or .u32 6356992 24832 = 6381824 := by decide
  have eo2 : bits .or .u32 6381824 97 = 6381921 := by decide
  clear h hi
  go_enter Tryd.func73, Tryd.ntmps73
  go_wp2_with fail
  go_quiet (fail)
  have d1 : (w.drewN nq).cell? ⟨p, 1, none⟩ = some (.int .i64 6) := c1
  go_wp2_with fail
  go_ret
  exact ⟨rfl, nq, rfl⟩
def AlRel (w : World) (i : Value) (wr : World) : Prop := ∃ k : Nat, k ≤ 39 ∧ i = .int .i64 (k : Int) ∧ ∃ d, wr = w.drewN d
theorem FdAt.drewN {w : World} {B p bb bo bc L E m : Nat} (h : FdAt w B p bb bo bc L E m) (d : Nat) : FdAt (w.drewN d) B p bb bo bc L E m := ⟨h.hb, h.hl, h.he, h.byt, h.lt, h.bl, h.be, h.bp, h.ne, h.pl, h.pe⟩
set_option maxHeartbeats 1600000 in
theorem alike_ok {w : World} {B p bb bo bc L E m : Nat} (h : FdAt w B p bb bo bc L E m) : Calls Tryd.prog 74 #[.pointer (some ⟨p, 0, none⟩), .int .i64 0, .int .i64 1, .int .i64 2, .int .i64 39] w (Qt w (.int .i64 39)) := by
  have HF := Lib.hid h
  have c0 := h.hb.cells.cell 0 _ rfl
  have lp := h.hb.cells.lt
  have b2 := h.byt 2 (by omega)
  have b3 := h.byt 3 (by omega)
  have lb : bb < w.heap.size := Nat.lt_of_lt_of_le h.lt h.size
  clear h
  go_enter Tryd.func74, Tryd.ntmps74
  go_wp2_with fail
  go_quiet (fail)
  have ST := Lib.hid (show AlRel w (.int .i64 0) (w.drewN nq) from ⟨0, by omega, rfl, nq, rfl⟩)
  clear c0 lp b2 b3 lb
  go_wp2_with fail
  go_loopw [11] (fun i wr => AlRel w i wr) (fun i _ => (39 - intOf i).toNat)
  case atStart => exact ST.out
  case round =>
    clear ST
    obtain ⟨k, hk, rfl, d, rfl⟩ := hrel
    have HD := Lib.hid (HF.out.drewN d)
    have c0 := HD.out.hb.cells.cell 0 _ rfl
    have lp := HD.out.hb.cells.lt
    have lb : bb < (w.drewN d).heap.size := Nat.lt_of_lt_of_le HD.out.lt HD.out.size
    have DD := Lib.hid (fun (n : Nat) => (World.drewN_drewN w d n))
    by_cases hlt : k < 39
    · have b0 := HD.out.byt k (by omega)
      have b1 := HD.out.byt (1 + k) (by omega)
      have t1 : decide ((k : Int) < 39) = true := decide_eq_true (by omega)
      have i0 : (k : Int) < 40 := by omega
      have i1 : 1 + (k : Int) < 40 := by omega
      have j0 : (0 : Int) ≤ (k : Int) := by omega
      have j1 : (0 : Int) ≤ 1 + (k : Int) := by omega
      have n1 : (1 + (k : Int)).toNat = 1 + k := by omega
      have ME := Lib.hid (show (39 - ((k : Int) + 1)).toNat < (39 - (k : Int)).toNat by omega)
      generalize w.drewN d = wd at *
      go_upto_region 4 with fail
      go_quiet (fail)
      go_wp2_with fail
      exact ⟨⟨k + 1, by omega, by congr 1, _, DD.out _⟩, ME.out⟩
    · obtain rfl : k = 39 := by omega
      have t1 : decide ((39 : Int) < 39) = false := by decide
      generalize w.drewN d = wd at *
      go_upto_region 4 with fail
      go_quiet (fail)
      go_wp2_with fail
      go_ret
      exact ⟨rfl, _, DD.out _⟩
end

section
open Go.RowKit

set_option maxRecDepth 100000
set_option maxHeartbeats 1600000 in
theorem longest0_ok {w : World} {B p bb bo bc L E : Nat} (h : FdAt w B p bb bo bc L E 0) : Calls Tryd.prog 55 #[.pointer (some ⟨p, 0, none⟩), .int .i64 0] w (Qt w (.tuple #[.int .i64 0, .int .i64 0])) := by
  have HF := Lib.hid h
  have c0 := h.hb.cells.cell 0 _ rfl
  have c2 := h.hb.cells.cell 2 _ rfl
  have lp := h.hb.cells.lt
  have cl : w.cell? ⟨L, 5, none⟩ = some (.int .i32 0) := h.hl.cells.cell 5 _ (i32L_get (by omega))
  have ll := h.hl.cells.lt
  clear h
  go_enter Tryd.func55, Tryd.ntmps55
  go_wp2_with fail
  go_quiet ((go_at_call 73; exact Calls.quiet_of (key_ok (HF.out.drewN _) 0 (by omega))))
  have HD := Lib.hid (HF.out.drewN nq)
  clear c0 c2 lp cl ll HF
  go_wp2_with fail
  refine wp_loop_rounds 1 ?_
  rw [rounds_succ]
  go_wp2_with fail
  go_ret2
  exact ⟨rfl, _, rfl⟩
set_option maxHeartbeats 1600000 in
theorem longest1_ok {w : World} {B p bb bo bc L E : Nat} (h : FdAt w B p bb bo bc L E 1) : Calls Tryd.prog 55 #[.pointer (some ⟨p, 0, none⟩), .int .i64 1] w (Qt w (.tuple #[.int .i64 39, .int .i64 1])) := by
  have HF := Lib.hid h
  have c0 := h.hb.cells.cell 0 _ rfl
  have c2 := h.hb.cells.cell 2 _ rfl
  have lp := h.hb.cells.lt
  have cl : w.cell? ⟨L, 5, none⟩ = some (.int .i32 1) := h.hl.cells.cell 5 _ (i32L_get (by omega))
  have ll := h.hl.cells.lt
  have mm : (min 250 39 : Int) = 39 := by decide
  clear h
  go_enter Tryd.func55, Tryd.ntmps55
  go_wp2_with fail
  go_quiet ((go_at_call 73; exact Calls.quiet_of (key_ok (HF.out.drewN _) 1 (by omega))))
  have HD := Lib.hid (HF.out.drewN nq)
  have QW := Lib.hid (show ∃ d, w.drewN nq = w.drewN d from ⟨_, rfl⟩)
  clear c0 c2 lp cl ll HF
  generalize w.drewN nq = w1 at *
  go_wp2_with fail
  refine wp_loop_rounds 2 ?_
  rw [rounds_succ]
  have AL := Lib.hid (alike_ok HD.out)
  go_wp2_with (go_at_call 74; refine AL.out.mono ?_; rintro e w2 ⟨rfl, d, rfl⟩)
  have HE := Lib.hid (HD.out.drewN d)
  have QW2 := Lib.hid (show ∃ d', w1.drewN d = w.drewN d' from by obtain ⟨a, ha⟩ := QW.out; exact ⟨_, by rw [ha, World.drewN_drewN]⟩)
  clear AL HD QW
  generalize w1.drewN d = w2 at *
  have c3 := HE.out.hb.cells.cell 3 _ rfl
  have lp := HE.out.hb.cells.lt
  have ce : w2.cell? ⟨E, 0, none⟩ = some (.int .i32 0) := HE.out.he.cells.cell 0 _ (i32L_get (by omega))
  have le := HE.out.he.cells.lt
  go_quiet (fail)
  go_wp2_with fail
  have QW3 := Lib.hid (show ∃ d', w2.drewN nq = w.drewN d' from by obtain ⟨a, ha⟩ := QW2.out; exact ⟨_, by rw [ha, World.drewN_drewN]⟩)
  rw [rounds_succ]
  go_wp2_with fail
  go_ret2
  obtain ⟨a, ha⟩ := QW3.out
  exact ⟨rfl, a, ha⟩
end

section
open Go.RowKit

set_option maxRecDepth 100000
theorem FdAt.next {w : World} {B p bb bo bc L E m : Nat} (h : FdAt w B p bb bo bc L E m) (hm : m < 40) : FdAt ((w.setCell ⟨E, m, none⟩ (.int .i32 (m : Int))).setCell ⟨L, 5, none⟩ (.int .i32 ((m : Int) + 1))) B p bb bo bc L E (m + 1) := by
  have lt := h.lt
  have bl := h.bl
  have be := h.be
  refine ⟨(h.hb.other h.pe _ _).other h.pl _ _, ?_, ?_, fun j hj => ?_, h.lt, h.bl, h.be, h.bp, h.ne, h.pl, h.pe⟩
  · have k := (h.hl.other (c := E) (Ne.symm h.ne) m (.int .i32 (m : Int))).set 5 (.int .i32 ((m + 1 : Nat) : Int))
    rw [i32L_set] at k
    have e : upd (latF m) 5 (m + 1) = latF (m + 1) := by funext j; unfold upd latF; by_cases e : j = 5 <;> simp [e]
    rw [e] at k
    exact k
  · have k := h.he.set m (.int .i32 (m : Int))
    rw [i32L_set] at k
    have e : upd (earF m) m m = earF (m + 1) := by
      funext j; unfold upd earF
      by_cases e : j = m
      · rw [if_pos e, if_pos (by omega), e]
      · rw [if_neg e]
        by_cases h : j < m
        · rw [if_pos h, if_pos (by omega)]
        · rw [if_neg h, if_neg (by omega)]
    rw [e] at k
    exact k.other h.ne _ _
  · rw [World.cell?_setCell_other _ _ _ _ (fun e => by have := congrArg Addr.block e; simp at this; omega), World.cell?_setCell_other _ _ _ _ (fun e => by have := congrArg Addr.block e; simp at this; omega)]
    exact h.byt j hj
theorem KeepO.trans' {t : TypeId} {a b c : World} (h : KeepO t a b) (k : KeepO t b c) : KeepO t a c := h.trans k
def RetNote (w : World) (B p bb bo bc L E m : Nat) (e : Ending) (w' : World) : Prop := e = .returned (.tuple #[]) ∧ FdAt w' B p bb bo bc L E m ∧ Below B w w' ∧ KeepO 21 w w'
theorem note_end {w0 w : World} {B p bb bo bc L E m : Nat} (h : FdAt w B p bb bo bc L E m) (hm : m < 40) (b : Below B w0 w) (k : KeepO 21 w0 w) :
    RetNote w0 B p bb bo bc L E (m + 1) (.returned (.tuple #[])) ((w.setCell ⟨E, m, none⟩ (.int .i32 (m : Int))).setCell ⟨L, 5, none⟩ (.int .i32 ((m : Int) + 1))) :=
  ⟨rfl, h.next hm, (b.setCell (p := ⟨E, m, none⟩) h.be _).setCell (p := ⟨L, 5, none⟩) h.bl _,
    (k.trans (KeepO.set h.he m _)).trans (KeepO.set (h.hl.other (c := E) (Ne.symm h.ne) m (.int .i32 (m : Int))) 5 _)⟩
set_option maxHeartbeats 1600000 in
theorem note_ok {w : World} {B p bb bo bc L E m : Nat} (h : FdAt w B p bb bo bc L E m) (hm : m ≤ 37) : Calls Tryd.prog 56 #[.pointer (some ⟨p, 0, none⟩), .int .i64 (m : Int)] w (RetNote w B p bb bo bc L E (m + 1)) := by
  have HF := Lib.hid h
  have c0 := h.hb.cells.cell 0 _ rfl
  have c2 := h.hb.cells.cell 2 _ rfl
  have lp := h.hb.cells.lt
  have t1 : decide ((m : Int) + 3 ≤ 40) = true := decide_eq_true (by omega)
  clear h
  go_enter Tryd.func56, Tryd.ntmps56
  go_wp2_with fail
  go_quiet ((go_at_call 73; exact Calls.quiet_of (key_ok (HF.out.drewN _) m (by omega))))
  have HD := Lib.hid (show FdAt (w.drewN nq).drew B p bb bo bc L E m from (HF.out.drewN nq).drewN 1)
  have BB := Lib.hid (show Below B w (w.drewN nq).drew from (below_base (below_drewN w nq) HF.out.size).drew)
  have KK := Lib.hid (show KeepO 21 w (w.drewN nq).drew from fun g t cs ht hg => hg)
  clear c0 c2 lp t1 HF
  generalize w.drewN nq = x1 at *
  have d3 : x1.drew.cell? ⟨p, 3, none⟩ = some (.slice (some ⟨E, 0, none⟩) 40 40) := HD.out.hb.cells.cell 3 _ rfl
  have dl : x1.drew.cell? ⟨L, 5, none⟩ = some (.int .i32 (m : Int)) := by
    have := HD.out.hl.cells.cell 5 _ (i32L_get (by omega))
    exact this
  have lp : p < x1.drew.heap.size := HD.out.hb.cells.lt
  have ll : L < x1.drew.heap.size := HD.out.hl.cells.lt
  have le : E < x1.drew.heap.size := HD.out.he.cells.lt
  have de : x1.drew.cell? ⟨E, m, none⟩ = some (.int .i32 ((earF m m : Nat) : Int)) := HD.out.he.cells.cell m _ (i32L_get (by omega))
  have fe : x1.drew.frozen? ⟨E, m, none⟩ = false := HD.out.he.cells.free m
  have fl : x1.drew.frozen? ⟨L, 5, none⟩ = false := HD.out.hl.cells.free 5
  have r1 : (m : Int).tmod 40 = (m : Int) := by rw [Int.tmod_eq_emod_of_nonneg (by omega)]; omega
  have i1 : (m : Int) < 40 := by omega
  have i2 : (0 : Int) ≤ (m : Int) := by omega
  go_upto_region 2 with fail
  go_still_tail 15, (by kernel_rfl)
  change wpList _ _ _ _ _ x1.drew
  have NE := Lib.hid (note_end HD.out (by omega) BB.out KK.out)
  have w1' : IntKind.i32.wrap ((m : Int) + 1) = (m : Int) + 1 := by rw [IntKind.wrap_i32]; omega
  have ne : ¬ E = L := fun e => HD.out.ne e.symm
  clear HD BB KK
  generalize x1.drew = x2 at *
  go_wp2_with fail
  go_end0
  exact NE.out
set_option maxHeartbeats 800000 in
theorem note_skip {w : World} {B p bb bo bc L E m : Nat} (h : FdAt w B p bb bo bc L E m) (i : Nat) (hi : 38 ≤ i) (hi2 : i ≤ 1000) : Calls Tryd.prog 56 #[.pointer (some ⟨p, 0, none⟩), .int .i64 (i : Int)] w (RetNote w B p bb bo bc L E m) := by
  have HF := Lib.hid h
  have c0 := h.hb.cells.cell 0 _ rfl
  have lp := h.hb.cells.lt
  have t1 : decide ((i : Int) + 3 ≤ 40) = false := decide_eq_false (by omega)
  clear h
  go_enter Tryd.func56, Tryd.ntmps56
  go_wp2_with fail
  go_end0
  exact ⟨rfl, HF.out, Below.refl _ _, KeepO.refl _ _⟩
theorem info21 : (Tryd.prog.info? 21).map (fun i => (i.zero, i.size, i.bytes)) = some (some (.int .i32 0), 1, 4) := by kernel_rfl
theorem made_i32 (n : Nat) : (madeCells #[(.int .i32 0 : Value)] n) = (i32L n fun _ => 0).toArray := by
  apply Array.ext
  · simp [size_madeCells, i32L]
  · intro i h1 h2
    simp [madeCells, i32L, Nat.mod_one]
def RetFd (w : World) (bb bo bc : Nat) (e : Ending) (w' : World) : Prop := ∃ p L E, e = .returned (.pointer (some ⟨p, 0, none⟩)) ∧ FdAt w' w.heap.size p bb bo bc L E 0 ∧ Below w.heap.size w w'
theorem below3 (w : World) (o1 o2 o3 : Obj) : Below w.heap.size w (((w.alloc o1).alloc o2).alloc o3).drew := (((below_alloc w o1).alloc (by simp) o2).alloc (by simp; omega) o3).drew
theorem fd_end {w wx : World} {bb bo bc L E p : Nat} (hx : Below w.heap.size w wx) (hb : bb < w.heap.size) (hby : ∀ j, j < 40 → w.cell? ⟨bb, bo + j, none⟩ = some (.int .u8 97))
    (h1 : wx.heap[L]? = some (.cells (i32L 64 fun _ => 0).toArray 21 (0, 0))) (h2 : wx.heap[E]? = some (.cells (i32L 40 fun _ => 0).toArray 21 (0, 0)))
    (h3 : wx.heap[p]? = some (.cells #[.slice (some ⟨bb, bo, none⟩) 40 bc, .int .i64 6, .slice (some ⟨L, 0, none⟩) 64 64, .slice (some ⟨E, 0, none⟩) 40 40] 122 (0, 0)))
    (l1 : w.heap.size ≤ L) (l2 : w.heap.size ≤ E) (l3 : w.heap.size ≤ p) (n1 : L ≠ E) (n2 : L ≠ p) (n3 : E ≠ p) : RetFd w bb bo bc (.returned (.pointer (some ⟨p, 0, none⟩))) wx := by
  have e1 : latF 0 = fun _ => 0 := by funext j; unfold latF; simp
  have e2 : earF 0 = fun _ => 0 := by funext j; unfold earF; simp
  refine ⟨p, L, E, rfl, ⟨h3, ?_, ?_, fun j hj => ((bcell hx).1 bb _ hb).trans (hby j hj), hb, l1, l2, l3, n1, n2, n3⟩, hx⟩
  · rw [e1]; exact h1
  · rw [e2]; exact h2
set_option maxHeartbeats 1600000 in
theorem newFinder_ok {w : World} {bb bo bc : Nat} (hb : bb < w.heap.size) (hby : ∀ j, j < 40 → w.cell? ⟨bb, bo + j, none⟩ = some (.int .u8 97)) : Calls Tryd.prog 54 #[.slice (some ⟨bb, bo, none⟩) 40 bc] w (RetFd w bb bo bc) := by
  have HY := Lib.hid hby
  have m1 : ∀ W : World, (Instr.makeSlice 120 (.int .i64 64) (.int .i64 64)).run Tryd.prog W = .ok (.slice (some ⟨W.heap.size, 0, none⟩) 64 64) (W.alloc (.cells (i32L 64 fun _ => 0).toArray 21)) := fun W => by
    rw [← made_i32]; exact run_make_row' (P := Tryd.prog) 120 21 (.int .i32 0) 4 Tryd.underlying120 info21 rfl .i64 .i64 64 (by omega) (by omega) W
  have m2 : ∀ W : World, (Instr.makeSlice 120 (.int .i64 40) (.int .i64 40)).run Tryd.prog W = .ok (.slice (some ⟨W.heap.size, 0, none⟩) 40 40) (W.alloc (.cells (i32L 40 fun _ => 0).toArray 21)) := fun W => by
    rw [← made_i32]; exact run_make_row' (P := Tryd.prog) 120 21 (.int .i32 0) 4 Tryd.underlying120 info21 rfl .i64 .i64 40 (by omega) (by omega) W
  have mm1 : (min ((Lib.bitLen 40 : Nat) : Int) 15) = 6 := by decide
  have mm2 : (min 40 32768 : Int) = 40 := by decide
  clear hby
  go_enter Tryd.func54, Tryd.ntmps54
  go_wp2_with (go_at_call 72; refine (Tryd.bits_Len 40 w (by omega) (by omega)).mono ?_; rintro e w1 ⟨rfl, rfl⟩)
  go_upto_region 2 with fail
  go_region
  all_goals
    go_wp2_with fail
    go_ret
    refine fd_end (below3 w1 _ _ _) hb HY.out (by first | exact (alloc3 w1 _ rfl _ _ _).1 | exact (alloc3 w1 _ rfl _ _ _).2.1) (by first | exact (alloc3 w1 _ rfl _ _ _).1 | exact (alloc3 w1 _ rfl _ _ _).2.1) (alloc3 w1 _ rfl _ _ _).2.2 (by omega) (by omega) (by omega) (by omega) (by omega) (by omega)
end

section
open Go.RowKit

set_option maxRecDepth 100000
theorem info95z : (Tryd.prog.info? 95).map (fun i => (i.zero, i.size, i.bytes)) = some (some (.agg #[.int .u32 0, .int .u16 0, .int .u8 0]), 3, 8) := by kernel_rfl
def repV : List Value := [.int .u32 1, .int .u16 1, .int .u8 39]
def OwnR (w : World) (B : Nat) (v : Value) : Prop := w.ownsRow B 95 3 v 1 repV
theorem OwnR.keepO {w w' : World} {B : Nat} {v : Value} (h : OwnR w B v) (k : KeepO 21 w w') : OwnR w' B v := by
  refine ⟨h.1, ?_⟩
  rcases h.2 with hn | ⟨g, cap, cur, hv, hb, hgg, rest⟩
  · exact .inl hn
  · exact .inr ⟨g, cap, cur, hv, hb, k g 95 cur (by decide) hgg, rest⟩
theorem OwnR.below {w w' : World} {B : Nat} {v : Value} (h : OwnR w B v) (k : Below w.heap.size w w') : OwnR w' B v := by
  refine ⟨h.1, ?_⟩
  rcases h.2 with hn | ⟨g, cap, cur, hv, hb, hgg, rest⟩
  · exact .inl hn
  · exact .inr ⟨g, cap, cur, hv, hb, (k.block g (lt_of_heap hgg)).trans hgg, rest⟩
theorem OwnR.osets {w : World} {B P : Nat} {t : TypeId} {v : Value} {vs : List Value} (h : OwnR w B v) (hp : BlkAt w P t vs) (ht : t ≠ 95) (us : List Value) (o : Nat) : OwnR (w.setCells P o us) B v := by
  refine ⟨h.1, ?_⟩
  rcases h.2 with hn | ⟨g, cap, cur, hv, hb, hgg, rest⟩
  · exact .inl hn
  · refine .inr ⟨g, cap, cur, hv, hb, ?_, rest⟩
    have hne : P ≠ g := by
      intro e
      subst e
      unfold BlkAt at hp
      rw [hp] at hgg
      injection hgg with hgg
      injection hgg with _ y
      exact ht y
    have hg : BlkAt w g 95 cur.toList := by unfold BlkAt; rw [hgg]
    have := hg.osets us o hne
    unfold BlkAt at this
    rw [this]
theorem OwnR.form {w : World} {B : Nat} {v : Value} (h : OwnR w B v) : ∃ g c, v = .slice (some ⟨g, 0, none⟩) 1 c := by
  rcases h.2 with ⟨_, hn⟩ | ⟨g, cap, cur, hv, _⟩
  · cases hn
  · exact ⟨_, _, hv⟩
theorem OwnR.slr {w : World} {B : Nat} {v : Value} (h : OwnR w B v) : SlR w v [⟨1, 1, 39⟩] := by
  rcases h.2 with ⟨_, hn⟩ | ⟨g, cap, cur, hv, hb, hgg, h1, h2, h3, h4⟩
  · cases hn
  · have hc := (BlkAt.cells (w := w) (p := g) (t := 95) (vs := cur.toList) (by unfold BlkAt; rw [hgg]))
    have get : ∀ j u, repV[j]? = some u → cur.toList[j]? = some u := fun j u hj => by
      have := h4
      rw [← this, List.getElem?_take] at hj
      split at hj
      · exact hj
      · cases hj
    refine ⟨_, _, hv, .inr ⟨g, 0, rfl, lt_of_heap hgg, fun j r hj => ?_⟩⟩
    have hj0 : j = 0 := by have := (List.getElem?_eq_some_iff.1 hj).1; simp at this; exact this
    subst hj0
    have hr : r = ⟨1, 1, 39⟩ := by injection hj with hj; exact hj.symm
    subst hr
    exact ⟨hc.cell 0 _ (get 0 _ rfl), hc.cell 1 _ (get 1 _ rfl), hc.cell 2 _ (get 2 _ rfl)⟩
/-- The one repeat is appended. -/
theorem wp_appr {w : World} {ops : Array Oper} {rest : List Oper} {o : Oper} {a : Act} {Q : Exit → Act → World → Prop} (hgd : o.guard = none) (s x : Operand)
    (ho : o.op = .call { callee := .builtin .append, args := #[s, x], argTypes := #[67, 67] })
    (B : Nat) (hB : B ≤ w.heap.size) (hs : a.eval s = .slice none 0 0)
    (hx : a.eval x = .slice (some ⟨w.heap.size, 0, none⟩) 1 1)
    (h : ∀ v' w', OwnR w' B v' → Below w.heap.size w w' → wpList Tryd.prog ops Q rest (a.put o.dst v') w') :
    wpList Tryd.prog ops Q (o :: rest) a (w.alloc (.cells #[.int .u32 1, .int .u16 1, .int .u8 39] 95)) := by
  obtain ⟨i0, hi, hz0, hz1, hz2⟩ := info_parts info95z
  have hown : (w.alloc (.cells #[.int .u32 1, .int .u16 1, .int .u8 39] 95)).ownsRow w.heap.size 95 3 (.slice none 0 0) 0 [] := World.ownsRow_nil _ _ _ _
  refine wpList_append_own _ hgd s x 67 ho w.heap.size 95 i0 (.agg #[.int .u32 0, .int .u16 0, .int .u8 0]) 3 8 Tryd.underlying67 hi hz0 hz1 hz2 rfl (by decide) (.slice none 0 0) 0 [] hs hown ⟨w.heap.size, 0, none⟩ 1 1 repV hx rfl ?_ ?_ ?_ ?_ ?_ ?_
  · intro j u hj
    rw [add_plain, Nat.zero_add]
    exact (BlkAt.new w repV 95).cells.cell j u hj
  · intro u hu
    simp only [repV, List.mem_cons, List.not_mem_nil, or_false] at hu
    rcases hu with rfl | rfl | rfl <;> rfl
  · unfold maxLen; omega
  · omega
  · simp
  · intro v' w' h1 h2 _
    refine h v' w' ?_ ?_
    · refine ⟨h1.1, ?_⟩
      rcases h1.2 with hn | ⟨g, cap, cur, hv, hb, rest⟩
      · exact .inl hn
      · exact .inr ⟨g, cap, cur, hv, Nat.le_trans hB hb, rest⟩
    · exact (below_alloc w _).grown h2 (by simp) (fun k hk => by simp [Value.ownBlock] at hk)
def RoRel (w : World) (p bb bo bc L E : Nat) (f a : Value) (wr : World) : Prop :=
  Below w.heap.size w wr ∧ ((a = .int .i64 0 ∧ f = .slice none 0 0 ∧ FdAt wr w.heap.size p bb bo bc L E 0) ∨ (a = .int .i64 1 ∧ f = .slice none 0 0 ∧ FdAt wr w.heap.size p bb bo bc L E 1) ∨ (a = .int .i64 40 ∧ OwnR wr w.heap.size f))
def RiRel (w : World) (p bb bo bc L E : Nat) (f a i : Value) (wr : World) : Prop :=
  ∃ k : Nat, k ≤ 39 ∧ i = .int .i64 (k : Int) ∧ a = .int .i64 ((1 + k : Nat) : Int) ∧ Below w.heap.size w wr ∧ FdAt wr w.heap.size p bb bo bc L E (min (1 + k) 38) ∧ OwnR wr w.heap.size f
def RetRep (w : World) (e : Ending) (w' : World) : Prop := ∃ v, e = .returned v ∧ OwnR w' w.heap.size v ∧ Below w.heap.size w w'
set_option maxHeartbeats 3200000 in
theorem repeatsOf_ok {w : World} {bb bo bc : Nat} (hb : bb < w.heap.size) (hby : ∀ j, j < 40 → w.cell? ⟨bb, bo + j, none⟩ = some (.int .u8 97)) : Calls Tryd.prog 40 #[.slice (some ⟨bb, bo, none⟩) 40 bc] w (RetRep w) := by
  have NF := Lib.hid (newFinder_ok (bc := bc) hb hby)
  clear hb hby
  go_enter Tryd.func40, Tryd.ntmps40
  go_wp2_with fail
  refine NF.out.mono ?_
  rintro e w1 ⟨p, L, E, rfl, hf, hB⟩
  have ST := Lib.hid (show RoRel w p bb bo bc L E (.slice none 0 0) (.int .i64 0) w1 from ⟨hB, .inl ⟨rfl, rfl, hf⟩⟩)
  clear hf hB NF
  go_wp2_with fail
  go_loopw [4, 5, 6, 7] (fun f a _ _ wr => RoRel w p bb bo bc L E f a wr) (fun _ a _ _ _ => (40 - intOf a).toNat)
  case atStart => exact ST.out
  case round =>
    clear ST
    obtain ⟨hB, h⟩ := hrel
    have BB := Lib.hid hB
    clear hB
    rcases h with ⟨rfl, rfl, hf⟩ | ⟨rfl, rfl, hf⟩ | ⟨rfl, ho⟩
    · have LG := Lib.hid (longest0_ok hf)
      have HF := Lib.hid hf
      clear hf
      have mx : (max 1 0 : Int) = 1 := by decide
      go_wp2_with (go_at_call 55; refine LG.out.mono ?_; rintro e w2 ⟨rfl, d, rfl⟩)
      have HD := Lib.hid (HF.out.drewN d)
      have BD := Lib.hid (bdrewB BB.out d)
      clear HF BB LG
      generalize wr.drewN d = w2 at *
      have NT := Lib.hid (note_ok HD.out (by omega))
      refine wp_loop_rounds 2 ?_
      rw [rounds_succ]
      go_wp2_with (go_at_call 56; refine NT.out.mono ?_; rintro e w3 ⟨rfl, hf3, hb3, _⟩)
      have FIN := Lib.hid (show RoRel w p bb bo bc L E (.slice none 0 0) (.int .i64 1) w3 from ⟨BD.out.trans hb3, .inr (.inl ⟨rfl, rfl, hf3⟩)⟩)
      clear hf3 hb3 NT HD BD
      rw [rounds_succ]
      go_wp2_with fail
      exact ⟨FIN.out, by decide⟩
    · have LG := Lib.hid (longest1_ok hf)
      have HF := Lib.hid hf
      clear hf
      have mx : (max 1 39 : Int) = 39 := by decide
      go_wp2_with fail
      refine LG.out.mono ?_
      rintro e w2 ⟨rfl, d, rfl⟩
      have HD := Lib.hid (HF.out.drewN d)
      have BD := Lib.hid (bdrewB BB.out d)
      clear HF BB LG
      generalize wr.drewN d = w2 at *
      go_wp2_with (at_builtin; refine wp_appr rfl _ _ rfl w.heap.size BD.out.size rfl (by rfl) ?_)
      intro v' w3 ho hb3
      obtain ⟨g, c, rfl⟩ := ho.form
      have ST := Lib.hid (show RiRel w p bb bo bc L E (.slice (some ⟨g, 0, none⟩) 1 c) (.int .i64 1) (.int .i64 0) w3 from ⟨0, by omega, rfl, rfl, BD.out.trans (hb3.mono BD.out.size), HD.out.below hb3, ho⟩)
      clear ho hb3 HD BD
      go_wp2_with fail
      go_loopw [5, 34] (fun a i wr => RiRel w p bb bo bc L E (.slice (some ⟨g, 0, none⟩) 1 c) a i wr) (fun _ i _ => (39 - intOf i).toNat)
      case atStart => exact ST.out
      case round =>
        clear ST
        obtain ⟨k, hk, rfl, rfl, hB, hf, ho⟩ := hrel
        by_cases hlt : k < 39
        · have t1 : decide ((k : Int) < 39) = true := decide_eq_true (by omega)
          have NT := Lib.hid (show Calls Tryd.prog 56 #[.pointer (some ⟨p, 0, none⟩), .int .i64 ((1 + k : Nat) : Int)] wr (RetNote wr w.heap.size p bb bo bc L E (min (1 + (k + 1)) 38)) from by
            by_cases h37 : 1 + k ≤ 37
            · have e1 : min (1 + k) 38 = 1 + k := by omega
              have e2 : min (1 + (k + 1)) 38 = 1 + k + 1 := by omega
              rw [e2]
              rw [e1] at hf
              exact note_ok hf h37
            · have e1 : min (1 + k) 38 = 38 := by omega
              have e2 : min (1 + (k + 1)) 38 = 38 := by omega
              rw [e2]
              rw [e1] at hf
              exact note_skip hf (1 + k) (by omega) (by omega))
          have BB := Lib.hid hB
          have HO := Lib.hid ho
          have ME := Lib.hid (show (39 - ((k : Int) + 1)).toNat < (39 - (k : Int)).toNat by omega)
          obtain ⟨A, hA⟩ : ∃ A, A = 1 + k := ⟨_, rfl⟩
          rw [← hA] at NT ⊢
          have QA := Lib.hid hA
          have al : A ≤ 39 := by omega
          clear hB hf ho hA
          go_wp2_with (go_at_call 56; refine NT.out.mono ?_; rintro e w4 ⟨rfl, hf4, hb4, hk4⟩)
          exact ⟨⟨k + 1, by omega, by congr 1, by congr 1; rw [QA.out]; omega, BB.out.trans hb4, hf4, HO.out.keepO hk4⟩, ME.out⟩
        · obtain rfl : k = 39 := by omega
          have t1 : decide ((39 : Int) < 39) = false := by decide
          have FIN := Lib.hid (show RoRel w p bb bo bc L E (.slice (some ⟨g, 0, none⟩) 1 c) (.int .i64 40) wr from ⟨hB, .inr (.inr ⟨rfl, ho⟩)⟩)
          clear hB hf ho
          go_wp2_with fail
          exact ⟨FIN.out, by decide⟩
    · obtain ⟨g, c, hv⟩ := ho.form
      subst hv
      have t1 : decide ((40 : Int) < 40) = false := by decide
      have SR := Lib.hid ho
      clear ho
      go_wp2_with fail
      go_ret
      exact ⟨_, rfl, SR.out, BB.out⟩
end
end Go.Proofs.YtfbeipfpkikakaaDoor
