/- What is wrong with a block's head; Look. -/
import Derived.Test.YtfbeipfpkikakaaDoorFr
import Derived.Deep.DeepCutAuto
namespace Go.Proofs.YtfbeipfpkikakaaDoor
open Go.RowKit

set_option maxRecDepth 100000
theorem same_q {f : Nat} {args : Array Value} {w : World} {v : Value} (h : Calls Tryd.prog f args w (Same w v)) : Calls Tryd.prog f args w fun e w' => e = .returned v ∧ w' = w := h.mono fun _ _ h => ⟨h.1, h.2.symm⟩
def cutN (l : List UInt8) (i n : Nat) : List UInt8 := (l.drop i).take n
theorem cutN_len {l : List UInt8} {i n : Nat} (h : i + n ≤ l.length) : (cutN l i n).length = n := by unfold cutN; rw [List.length_take, List.length_drop]; omega
theorem cutN_get {l : List UInt8} {i n j : Nat} {u : UInt8} (h : (cutN l i n)[j]? = some u) : l[i + j]? = some u := by
  unfold cutN at h
  rw [List.getElem?_take] at h
  split at h
  · rw [List.getElem?_drop] at h; exact h
  · cases h
/-- The place and the number of what is wrong with a head. -/
def faultN (a m sa sb r d : Nat) : Nat × Nat :=
  if a ≠ 181 then (0, 60) else if m ≠ 1 ∧ m ≠ 2 then (1, 60) else if sa ≠ sb then (8, 62) else if m = 2 ∧ r = 0 then (2, 60) else if (m = 2 ∧ d = 0) ∨ (m = 1 ∧ d ≠ r) then (5, 60) else (0, 0)
/-- A slice of bytes that is held by a block, at a place in it. -/
structure HeldB (w : World) (b off : Nat) (l : List UInt8) : Prop where
  lt : b < w.heap.size
  cell : ∀ j u, l[j]? = some u → w.cell? ⟨b, off + j, none⟩ = some (.int .u8 u.toNat)
theorem HeldB.below {w w' : World} {b off : Nat} {l : List UInt8} (h : HeldB w b off l) (k : Below w.heap.size w w') : HeldB w' b off l :=
  ⟨Nat.lt_of_lt_of_le h.lt k.size, fun j u hu => (k.cell (p := ⟨b, off + j, none⟩) h.lt).trans (h.cell j u hu)⟩
theorem HeldB.cut {w : World} {b off : Nat} {l : List UInt8} (h : HeldB w b off l) (i n : Nat) : HeldB w b (off + i) (cutN l i n) :=
  ⟨h.lt, fun j u hu => by rw [Nat.add_assoc]; exact h.cell (i + j) u (cutN_get hu)⟩
theorem HeldB.sl {w : World} {b off c : Nat} {l : List UInt8} (h : HeldB w b off l) : SlB w (.slice (some ⟨b, off, none⟩) l.length c) l :=
  ⟨_, _, rfl, (fun e => by cases e), Or.inr ⟨b, off, rfl, h.lt, h.cell⟩⟩
set_option maxHeartbeats 1600000 in
theorem headFault_ok (b off cp : Nat) (l : List UInt8) (h12 : 12 ≤ l.length) (hcp : l.length ≤ cp) (hl : cp ≤ 9223372036854775807) (m r d : Nat) (hm : m < 256) (hr : r < 16777216) (hd : d < 16777216) (z : Int) (w : World) (HB : HeldB w b off l) (T : Tabs w) :
    Calls Tryd.prog 35 #[.slice (some ⟨b, off, none⟩) l.length cp, .agg #[.int .i64 m, .int .i64 r, .int .i64 d, .int .i64 z]] w (RetBelow w (.tuple #[.int .i64 (faultN (l.getD 0 0).toNat m (numB (cutN l 8 4)) (sumN (cutN l 0 8)) r d).1, .int .i64 (faultN (l.getD 0 0).toNat m (numB (cutN l 8 4)) (sumN (cutN l 0 8)) r d).2])) := by
  have l4 : (cutN l 8 4).length = 4 := cutN_len (by omega)
  have l8 : (cutN l 0 8).length = 8 := cutN_len (by omega)
  have c0 := HB.cell 0 (l.getD 0 0) (by simp [List.getD]; rw [List.getElem?_eq_getElem (by omega)]; rfl)
  have b4 := numB_bound4 (l := cutN l 8 4) (by omega)
  have b8 : sumN (cutN l 0 8) < 2 ^ 32 := sumMoreN_lt (by decide) _
  have NB := Lib.hid (fun (c : Nat) (W : World) (k : Below w.heap.size w W) => same_q (number_some b (off + 8) c (cutN l 8 4) (by omega) W ((HB.below k).cut 8 4).lt ((HB.below k).cut 8 4).cell))
  have SB := Lib.hid (fun (c : Nat) (W : World) (k : Below w.heap.size w W) => same_q (sum_ok _ (cutN l 0 8) W (by omega) (((HB.below k).cut 0 8).sl (c := c)) (T.below k)))
  rw [l4] at NB
  rw [l8, Nat.add_zero] at SB
  have h0 := (l.getD 0 0).toNat_lt
  have hbl := HB.lt
  rw [Nat.add_zero] at c0
  clear l4 l8 HB T
  generalize numB (cutN l 8 4) = sa at *
  generalize sumN (cutN l 0 8) = sb at *
  generalize (l.getD 0 0).toNat = a at *
  generalize l.length = L at *
  obtain ⟨F, hF⟩ : ∃ F, F = faultN a m sa sb r d := ⟨_, rfl⟩
  rw [← hF]
  go_enter Tryd.func35, Tryd.ntmps35
  go_upto_region 1 with fail
  have A1 := Lib.hid (CellsAt.new w [.int .i64 m, .int .i64 r, .int .i64 d, .int .i64 z] 44)
  have B1 := Lib.hid (below_alloc w (Obj.cells #[.int .i64 m, .int .i64 r, .int .i64 d, .int .i64 z] 44))
  replace c0 := ((bcell B1.out).1 b off hbl).trans c0
  generalize hX : w.alloc (Obj.cells #[.int .i64 m, .int .i64 r, .int .i64 d, .int .i64 z] 44) = x1 at *
  clear hX
  have a0 := A1.out.cell 0 _ rfl
  have a1 := A1.out.cell 1 _ rfl
  have a2 := A1.out.cell 2 _ rfl
  by_cases e1 : a = 181
  · subst e1
    rcases (show m = 1 ∨ m = 2 ∨ (m ≠ 1 ∧ m ≠ 2) by omega) with rfl | rfl | ⟨e2, e3⟩
    · by_cases e4 : sa = sb
      · subst e4
        by_cases e5 : d = r
        · subst e5
          obtain rfl : F = (0, 0) := by rw [hF]; simp [faultN]
          go_wp2_with fail
          skip
          go_quiet ((first | (go_at_call 34; exact Calls.quiet_of_same (NB.out _ _ (bdrewB B1.out _))) | (go_at_call 12; exact Calls.quiet_of_same (SB.out _ _ (bdrewB B1.out _)))))
          go_wp2_with fail
          go_ret2
          exact ⟨rfl, bdrewB B1.out _⟩
        · have t5 : ((d : Int) != r) = true := by simp; omega
          obtain rfl : F = (5, 60) := by rw [hF]; simp [faultN, e5]
          go_wp2_with fail
          skip
          go_quiet ((first | (go_at_call 34; exact Calls.quiet_of_same (NB.out _ _ (bdrewB B1.out _))) | (go_at_call 12; exact Calls.quiet_of_same (SB.out _ _ (bdrewB B1.out _)))))
          go_wp2_with fail
          go_ret2
          exact ⟨rfl, bdrewB B1.out _⟩
      · have t4 : ((sa : Int) != sb) = true := by simp; omega
        obtain rfl : F = (8, 62) := by rw [hF]; simp [faultN, e4]
        go_wp2_with fail
        skip
        go_quiet ((first | (go_at_call 34; exact Calls.quiet_of_same (NB.out _ _ (bdrewB B1.out _))) | (go_at_call 12; exact Calls.quiet_of_same (SB.out _ _ (bdrewB B1.out _)))))
        go_wp2_with fail
        go_ret2
        exact ⟨rfl, bdrewB B1.out _⟩
    · by_cases e4 : sa = sb
      · subst e4
        by_cases e5 : r = 0
        · subst e5
          obtain rfl : F = (2, 60) := by rw [hF]; simp [faultN]
          go_wp2_with fail
          skip
          go_quiet ((first | (go_at_call 34; exact Calls.quiet_of_same (NB.out _ _ (bdrewB B1.out _))) | (go_at_call 12; exact Calls.quiet_of_same (SB.out _ _ (bdrewB B1.out _)))))
          go_wp2_with fail
          go_ret2
          exact ⟨rfl, bdrewB B1.out _⟩
        · have t5 : ((r : Int) == 0) = false := by simp; omega
          by_cases e6 : d = 0
          · subst e6
            obtain rfl : F = (5, 60) := by rw [hF]; simp [faultN, e5]
            go_wp2_with fail
            skip
            go_quiet ((first | (go_at_call 34; exact Calls.quiet_of_same (NB.out _ _ (bdrewB B1.out _))) | (go_at_call 12; exact Calls.quiet_of_same (SB.out _ _ (bdrewB B1.out _)))))
            go_wp2_with fail
            go_ret2
            exact ⟨rfl, bdrewB B1.out _⟩
          · have t6 : ((d : Int) == 0) = false := by simp; omega
            obtain rfl : F = (0, 0) := by rw [hF]; simp [faultN, e5, e6]
            go_wp2_with fail
            skip
            go_quiet ((first | (go_at_call 34; exact Calls.quiet_of_same (NB.out _ _ (bdrewB B1.out _))) | (go_at_call 12; exact Calls.quiet_of_same (SB.out _ _ (bdrewB B1.out _)))))
            go_wp2_with fail
            go_ret2
            exact ⟨rfl, bdrewB B1.out _⟩
      · have t4 : ((sa : Int) != sb) = true := by simp; omega
        obtain rfl : F = (8, 62) := by rw [hF]; simp [faultN, e4]
        go_wp2_with fail
        skip
        go_quiet ((first | (go_at_call 34; exact Calls.quiet_of_same (NB.out _ _ (bdrewB B1.out _))) | (go_at_call 12; exact Calls.quiet_of_same (SB.out _ _ (bdrewB B1.out _)))))
        go_wp2_with fail
        go_ret2
        exact ⟨rfl, bdrewB B1.out _⟩
    · have t2 : ((m : Int) != 1) = true := by simp; omega
      have t3 : ((m : Int) != 2) = true := by simp; omega
      obtain rfl : F = (1, 60) := by rw [hF]; simp [faultN, e2, e3]
      go_wp2_with fail
      go_ret2
      exact ⟨rfl, B1.out⟩
  · have t1 : ((a : Int) != 181) = true := by simp; omega
    obtain rfl : F = (0, 60) := by rw [hF]; simp [faultN, e1]
    go_wp2_with fail
    go_ret2
    exact ⟨rfl, B1.out⟩
end Go.Proofs.YtfbeipfpkikakaaDoor
