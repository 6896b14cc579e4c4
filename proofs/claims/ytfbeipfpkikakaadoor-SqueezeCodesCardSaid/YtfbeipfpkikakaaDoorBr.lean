/- A reader of bits: what is left, what lies ahead, going on. -/
import Derived.Test.YtfbeipfpkikakaaDoorLk
namespace Go.Proofs.YtfbeipfpkikakaaDoor
open Go.RowKit

set_option maxRecDepth 100000
/-- A reader of a body's bits. -/
structure Rdr (w : World) (r b off cp : Nat) (l : List UInt8) (at' from' : Nat) : Prop where
  cells : CellsAt w r [.slice (some ⟨b, off, none⟩) l.length cp, .int .i64 at', .int .i64 from']
  held : HeldB w b off l
  ne : b ≠ r
  size : l.length ≤ 16777215
  pos : at' ≤ 8 * l.length
theorem Rdr.step {w w' : World} {r b off cp a f : Nat} {l : List UInt8} (h : Rdr w r b off cp l a f) (k : Below w.heap.size w w') : Rdr w' r b off cp l a f :=
  ⟨h.cells.step k, h.held.below k, h.ne, h.size, h.pos⟩
theorem HeldB.other {w : World} {b off c : Nat} {l : List UInt8} (h : HeldB w b off l) (hc : c ≠ b) (j : Nat) (x : Value) : HeldB (w.setCell ⟨c, j, none⟩ x) b off l :=
  ⟨by simpa using h.lt, fun i v hv => by rw [World.cell?_setCell_other _ _ _ _ (fun e => hc (congrArg Addr.block e))]; exact h.cell i v hv⟩
theorem Rdr.go {w : World} {r b off cp a f n : Nat} {l : List UInt8} (h : Rdr w r b off cp l a f) (hn : n ≤ 8 * l.length) : Rdr (w.setCell ⟨r, 1, none⟩ (.int .i64 n)) r b off cp l n f :=
  ⟨h.cells.set 1 _ (by simp), h.held.other (fun e => h.ne e.symm) _ _, h.ne, h.size, hn⟩
theorem Rdr.mark {w : World} {r b off cp a f : Nat} {l : List UInt8} (h : Rdr w r b off cp l a f) : Rdr (w.setCell ⟨r, 2, none⟩ (.int .i64 a)) r b off cp l a a :=
  ⟨h.cells.set 2 _ (by simp), h.held.other (fun e => h.ne e.symm) _ _, h.ne, h.size, h.pos⟩
/-- What a call on a reader leaves. -/
def RetRdr (r b off cp : Nat) (l : List UInt8) (v : Value) (a f : Nat) (w : World) (e : Ending) (w' : World) : Prop :=
  e = .returned v ∧ Rdr w' r b off cp l a f ∧ Below r w w' ∧ (∀ c, c ≠ r → w'.heap[c]? = w.heap[c]?)
set_option maxHeartbeats 800000 in
theorem left_ok {w : World} {r b off cp a f : Nat} {l : List UInt8} (h : Rdr w r b off cp l a f) : Calls Tryd.prog 80 #[.pointer (some ⟨r, 0, none⟩)] w (RetBelow w (.int .i64 ((8 * l.length - a : Nat) : Int))) := by
  have c0 := h.cells.cell 0 _ rfl
  have c1 := h.cells.cell 1 _ rfl
  have hl := h.size
  have hp := h.pos
  have hrl := h.cells.lt
  clear h
  generalize l.length = L at *
  have E := Lib.hid (show (8 * (L : Int) - (a : Int)) = ((8 * L - a : Nat) : Int) by omega)
  have w1 : IntKind.i64.wrap (8 * (L : Int)) = 8 * (L : Int) := IntWalk.i64_in _ (by omega)
  have w2 : IntKind.i64.wrap (8 * (L : Int) - (a : Int)) = 8 * (L : Int) - (a : Int) := IntWalk.i64_in _ (by omega)
  go_enter Tryd.func80, Tryd.ntmps80
  go_wp2_with fail
  go_quiet (fail)
  go_wp2_with fail
  go_ret
  exact ⟨by rw [E.out]; rfl, below_drewN _ _⟩
set_option maxHeartbeats 800000 in
theorem begin_ok {w : World} {r b off cp a f : Nat} {l : List UInt8} (h : Rdr w r b off cp l a f) : Calls Tryd.prog 62 #[.pointer (some ⟨r, 0, none⟩)] w (fun e w' => e = .returned (.tuple #[]) ∧ w' = w.setCell ⟨r, 2, none⟩ (.int .i64 a)) := by
  have c1 := h.cells.cell 1 _ rfl
  have c2 := h.cells.cell 2 _ rfl
  have f2 := h.cells.free 2
  have hrl := h.cells.lt
  clear h
  go_enter Tryd.func62, Tryd.ntmps62
  go_wp2_with fail
  go_end0
  exact ⟨rfl, rfl⟩
def byteAt (l : List UInt8) (j : Nat) : Nat := (l.getD j 0).toNat
def padN (l : List UInt8) (q : Nat) : Nat → Nat
  | 0 => 0
  | k + 1 => 256 * padN l q k + byteAt l (q + k)
theorem byteAt_lt (l : List UInt8) (j : Nat) : byteAt l j < 256 := (l.getD j 0).toNat_lt
theorem padN_lt (l : List UInt8) (q : Nat) : ∀ k, padN l q k < 256 ^ k
  | 0 => Nat.one_pos
  | k + 1 => by have h1 := padN_lt l q k; have h2 := byteAt_lt l (q + k); show 256 * padN l q k + byteAt l (q + k) < _; rw [Nat.pow_succ]; omega
/-- The next fifteen bits. -/
def aheadN (l : List UInt8) (a : Nat) : Nat := padN l (a / 8) 3 / 2 ^ (9 - a % 8) % 32768
theorem i64_or_nat (a b : Nat) (ha : a < 9223372036854775808) (hb : b < 9223372036854775808) : bits .or .i64 (a : Int) (b : Int) = ((a ||| b : Nat) : Int) := by
  have hx : a ||| b < 2 ^ 63 := Nat.or_lt_two_pow (by omega) (by omega)
  show IntKind.i64.wrap ((BitVec.ofInt 64 (a : Int) ||| BitVec.ofInt 64 (b : Int)).toNat : Int) = _
  rw [BitVec.toNat_or, ofInt_u64 a (by omega), ofInt_u64 b (by omega), IntKind.wrap_i64]
  omega
theorem i64_and_nat (a b : Nat) (ha : a < 9223372036854775808) (hb : b < 9223372036854775808) : bits .and .i64 (a : Int) (b : Int) = ((a &&& b : Nat) : Int) := by
  have hx : a &&& b < 2 ^ 63 := Nat.and_lt_two_pow _ (by omega)
  show IntKind.i64.wrap ((BitVec.ofInt 64 (a : Int) &&& BitVec.ofInt 64 (b : Int)).toNat : Int) = _
  rw [BitVec.toNat_and, ofInt_u64 a (by omega), ofInt_u64 b (by omega), IntKind.wrap_i64]
  omega
def PdRel (l : List UInt8) (q : Nat) (h i : Value) : Prop := ∃ k : Nat, k ≤ 3 ∧ i = .int .i64 ((q + k : Nat) : Int) ∧ h = .int .i64 ((padN l q k : Nat) : Int)
set_option maxHeartbeats 1600000 in
theorem ahead_ok {w : World} {r b off cp a f : Nat} {l : List UInt8} (h : Rdr w r b off cp l a f) : Calls Tryd.prog 77 #[.pointer (some ⟨r, 0, none⟩)] w (Same w (.int .i64 (aheadN l a))) := by
  have c0 := h.cells.cell 0 _ rfl
  have c1 := h.cells.cell 1 _ rfl
  have hl := h.size
  have hp := h.pos
  have hrl := h.cells.lt
  have hbl := h.held.lt
  have HC := Lib.hid h.held.cell
  clear h
  obtain ⟨q, hq⟩ : ∃ q, q = a / 8 := ⟨_, rfl⟩
  have iq : (a : Int) / 8 = (q : Int) := by omega
  have HQ := Lib.hid hq
  have q1 : q ≤ 16777216 := by omega
  clear hq
  go_enter Tryd.func77, Tryd.ntmps77
  go_wp2_with fail
  go_loop [3, 4] (fun x i => PdRel l q x i) (fun _ i => ((q : Int) + 3 - intOf i).toNat)
  case atStart => exact ⟨0, by omega, rfl, rfl⟩
  case round =>
    obtain ⟨k, hk, rfl, rfl⟩ := hrel
    by_cases h3 : k < 3
    · have pl := padN_lt l q k
      have pl2 : padN l q k < 65536 := Nat.lt_of_lt_of_le pl (Nat.pow_le_pow_right (n := 256) (by omega) (show k ≤ 2 by omega))
      have bl := byteAt_lt l (q + k)
      have t1 : decide (((q + k : Nat) : Int) < (q : Int) + 3) = true := decide_eq_true (by omega)
      obtain ⟨j, hj⟩ : ∃ j, j = q + k := ⟨_, rfl⟩
      have j1 : j ≤ 16777219 := by omega
      have HN := Lib.hid (show padN l q (k + 1) = padN l q k * 256 + byteAt l j by rw [hj]; show 256 * padN l q k + byteAt l (q + k) = _; omega)
      have ME := Lib.hid (show ((q : Int) + 3 - ((j : Int) + 1)).toNat < ((q : Int) + 3 - (j : Int)).toNat by omega)
      rw [← hj] at t1 bl ⊢
      have HJ := Lib.hid (show (.int .i64 ((j : Int) + 1) : Value) = .int .i64 ((q + (k + 1) : Nat) : Int) by rw [hj]; go_num)
      by_cases hin : j < l.length
      · have cx := HC.out j l[j] (List.getElem?_eq_getElem hin)
        have bx : byteAt l j = l[j].toNat := by unfold byteAt; rw [List.getD_eq_getElem?_getD, List.getElem?_eq_getElem hin]; rfl
        rw [← bx] at cx
        have OR := i64_or_nat (padN l q k * 256) (byteAt l j) (by omega) (by omega)
        rw [or_add _ _ bl, ← HN.out] at OR
        have OR2 : bits .or .i64 ((padN l q k : Int) * 256) (byteAt l j : Int) = ((padN l q (k + 1) : Nat) : Int) := by rw [← OR]; rfl
        generalize byteAt l j = x at *
        have HQ1 := Lib.hid (show PdRel l q (.int .i64 ((padN l q (k + 1) : Nat) : Int)) (.int .i64 ((j : Int) + 1)) from ⟨k + 1, by omega, HJ.out, rfl⟩)
        generalize padN l q (k + 1) = p1 at *
        generalize padN l q k = p0 at *
        clear OR bx pl hj
        generalize l.length = L at *
        go_wp2_with fail
        exact ⟨HQ1.out, ME.out⟩
      · have bx : byteAt l j = 0 := by unfold byteAt; rw [List.getD_eq_getElem?_getD, List.getElem?_eq_none (by omega)]; rfl
        rw [bx, Nat.add_zero] at HN
        have HQ1 := Lib.hid (show PdRel l q (.int .i64 ((padN l q k : Int) * 256)) (.int .i64 ((j : Int) + 1)) from ⟨k + 1, by omega, HJ.out, by rw [HN.out]; go_num⟩)
        generalize padN l q k = p0 at *
        clear bx pl hj HN
        generalize l.length = L at *
        go_wp2_with fail
        exact ⟨HQ1.out, ME.out⟩
    · obtain rfl : k = 3 := by omega
      have pl := padN_lt l q 3
      have HA := Lib.hid (show aheadN l a = padN l q 3 / 2 ^ (9 - a % 8) % 32768 by unfold aheadN; rw [← HQ.out])
      generalize padN l q 3 = p0 at *
      obtain ⟨s, hs⟩ : ∃ s, s = a % 8 := ⟨_, rfl⟩
      have is : (a : Int) % 8 = (s : Int) := by omega
      have s8 : s < 8 := by omega
      rw [← hs] at HA
      clear hs HQ
      have px : p0 / 2 ^ (9 - s) < 9223372036854775808 := Nat.lt_of_le_of_lt (Nat.div_le_self _ _) (by omega)
      have AN := i64_and_nat (p0 / 2 ^ (9 - s)) 32767 px (by omega)
      rw [show p0 / 2 ^ (9 - s) &&& 32767 = p0 / 2 ^ (9 - s) % 32768 from Nat.and_two_pow_sub_one_eq_mod _ 15, ← HA.out] at AN
      generalize aheadN l a = R at *
      have AF := Lib.hid (show bits .and .i64 ((p0 : Int) / 2 ^ (9 - s)) 32767 = (R : Int) by rw [← AN, Int.natCast_ediv, Int.natCast_pow]; rfl)
      clear px AN HA
      go_wp2_with fail
      go_ret
      exact ⟨by rw [← AF.out]; rfl, rfl⟩
set_option maxHeartbeats 1600000 in
theorem skip_ok {w : World} {r b off cp a f n : Nat} {l : List UInt8} (h : Rdr w r b off cp l a f) (hn : a + n ≤ 8 * l.length) : Calls Tryd.prog 78 #[.pointer (some ⟨r, 0, none⟩), .int .i64 n] w (fun e w' => e = .returned (.tuple #[]) ∧ ∃ v, Below w.heap.size w v ∧ w' = v.setCell ⟨r, 1, none⟩ (.int .i64 ((a + n : Nat) : Int))) := by
  have LC := Lib.hid (left_ok h)
  have HH := Lib.hid h
  have hl := h.size
  clear h
  have t1 : decide (8 * l.length - a < n) = false := decide_eq_false (by omega)
  obtain ⟨z, hz⟩ : ∃ z, z = 8 * l.length - a := ⟨_, rfl⟩
  rw [← hz] at LC t1
  have EA := Lib.hid (show ((a : Int) + (n : Int)) = ((a + n : Nat) : Int) by omega)
  have an : (a : Int) + (n : Int) ≤ 1000000000 := by omega
  clear hz
  go_enter Tryd.func78, Tryd.ntmps78
  go_wp2_with fail
  refine LC.out.mono ?_
  rintro e w1 ⟨rfl, hb⟩
  have B1 := Lib.hid hb
  have H1 := HH.out.step hb
  clear hb
  have c1 := H1.cells.cell 1 _ rfl
  have f1 := H1.cells.free 1
  have hrl := H1.cells.lt
  clear H1
  go_wp2_with fail
  go_end0
  exact ⟨rfl, w1, B1.out, by rw [EA.out]⟩
set_option maxHeartbeats 1600000 in
theorem number_ok {w : World} {r b off cp a f n : Nat} {l : List UInt8} (h : Rdr w r b off cp l a f) (h15 : n ≤ 15) (hn : a + n ≤ 8 * l.length) : Calls Tryd.prog 79 #[.pointer (some ⟨r, 0, none⟩), .int .i64 n] w (fun e w' => e = .returned (.int .i64 ((aheadN l a / 2 ^ (15 - n) : Nat) : Int)) ∧ ∃ v, Below w.heap.size w v ∧ w' = v.setCell ⟨r, 1, none⟩ (.int .i64 ((a + n : Nat) : Int))) := by
  have AC := Lib.hid (ahead_ok h)
  have SC := Lib.hid (skip_ok h hn)
  have ha : aheadN l a < 32768 := Nat.mod_lt _ (by omega)
  have EX := Lib.hid (show ((aheadN l a : Nat) : Int) / 2 ^ (15 - n) = ((aheadN l a / 2 ^ (15 - n) : Nat) : Int) by rw [Int.natCast_ediv, Int.natCast_pow]; rfl)
  generalize aheadN l a = x at *
  generalize a + n = m at *
  clear h
  go_enter Tryd.func79, Tryd.ntmps79
  go_wp2_with fail
  refine AC.out.mono ?_
  rintro e w1 ⟨rfl, rfl⟩
  go_wp2_with fail
  refine SC.out.mono ?_
  rintro e w1 ⟨rfl, hv⟩
  have HV := Lib.hid hv
  clear hv
  go_wp2_with fail
  go_ret
  exact ⟨by rw [← EX.out]; rfl, HV.out⟩
end Go.Proofs.YtfbeipfpkikakaaDoor
