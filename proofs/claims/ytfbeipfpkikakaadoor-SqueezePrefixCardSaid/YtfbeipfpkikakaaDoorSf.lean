/- What symbol a value has; whole bytes. -/
import Derived.Test.YtfbeipfpkikakaaDoorPt
namespace Go.Proofs.YtfbeipfpkikakaaDoor
open Go.RowKit

set_option maxRecDepth 100000
set_option maxHeartbeats 1600000 in
theorem fill_ok {w : World} {p B val N : Nat} (h : WrAt w p B val N) (hB : B ≤ p) (hN : N ≤ 1000000000) :
    Calls Tryd.prog 60 #[.pointer (some ⟨p, 0, none⟩)] w (RetPut w p B (val * 2 ^ ((8 - N % 8) % 8)) (N + (8 - N % 8) % 8)) := by
  have HW := Lib.hid h
  obtain ⟨v, held, hb, ho, hh, h64⟩ := h
  have c2 := hb.cells.cell 2 _ rfl
  have hl := hb.cells.lt
  clear hb ho hh h64
  obtain ⟨r, hr⟩ : ∃ r, r = N % 8 := ⟨_, rfl⟩
  rw [← hr] at c2 ⊢
  by_cases h0 : r = 0
  · have FIN := Lib.hid (show RetPut w p B (val * 2 ^ ((8 - r) % 8)) (N + (8 - r) % 8) (.returned (.tuple #[])) w from by
      rw [h0, Nat.pow_zero, Nat.mul_one]
      exact ⟨rfl, HW.out, WKeep.refl p B w⟩)
    subst h0
    clear hr
    go_enter Tryd.func60, Tryd.ntmps60
    go_wp2_with fail
    go_end0
    exact FIN.out
  · have PC := Lib.hid (put_ok (x := 0) (n := 8 - r) HW.out hB (Nat.two_pow_pos _) (by omega) hN)
    have e8 : (8 - r) % 8 = 8 - r := by omega
    rw [e8]
    have t1 : decide ((0 : Int) < (r : Int)) = true := decide_eq_true (by omega)
    have e1 : (8 : Int) - (r : Int) = ((8 - r : Nat) : Int) := by omega
    have r8 : r < 8 := by omega
    obtain ⟨s, hs⟩ : ∃ s, s = 8 - r := ⟨_, rfl⟩
    rw [← hs] at e1 PC ⊢
    clear hr hs e8 HW
    go_enter Tryd.func60, Tryd.ntmps60
    go_wp2_with fail
    refine PC.out.mono ?_
    rintro e w1 ⟨rfl, hw, hk⟩
    have HW := Lib.hid hw
    have HK := Lib.hid hk
    clear hw hk PC
    go_wp2_with fail
    go_end0
    exact ⟨rfl, HW.out, HK.out⟩
def symN (base : Nat → Nat) (v : Nat) : Nat → Nat
  | 0 => 0
  | k + 1 => if base (k + 1) ≤ v then k + 1 else symN base v k
theorem symN_le (base : Nat → Nat) (v : Nat) : ∀ k, symN base v k ≤ k
  | 0 => Nat.le_refl _
  | k + 1 => by show (if base (k + 1) ≤ v then k + 1 else symN base v k) ≤ k + 1; have := symN_le base v k; split <;> omega
theorem symN_base (base : Nat → Nat) (v : Nat) (h0 : base 0 ≤ v) : ∀ k, base (symN base v k) ≤ v
  | 0 => h0
  | k + 1 => by
    show base (if base (k + 1) ≤ v then k + 1 else symN base v k) ≤ v
    by_cases h : base (k + 1) ≤ v
    · rw [if_pos h]; exact h
    · rw [if_neg h]; exact symN_base base v h0 k
theorem symN_hit {base : Nat → Nat} {v k : Nat} (h : base k ≤ v) : symN base v k = k := by
  cases k with
  | zero => rfl
  | succ k => show (if base (k + 1) ≤ v then k + 1 else symN base v k) = _; rw [if_pos h]
theorem symN_miss {base : Nat → Nat} {v k : Nat} (h : ¬ base (k + 1) ≤ v) : symN base v (k + 1) = symN base v k := by
  show (if base (k + 1) ≤ v then k + 1 else symN base v k) = _; rw [if_neg h]
def SfRel (base bits : Nat → Nat) (v n : Nat) (s b i : Value) : Prop := ∃ k : Nat, k < n ∧ s = .int .i64 (k : Int) ∧ b = .int .i64 (base k : Int) ∧ i = .int .i64 (bits k : Int) ∧ symN base v k = symN base v (n - 1)
def sufV (s b r : Nat) : Value := .agg #[.int .i64 (s : Int), .int .i64 (b : Int), .int .i64 (r : Int)]
theorem info84 : (Tryd.prog.info? 84).map (·.size) = some 3 := by kernel_rfl
theorem basesN_le (k : Nat) (hk : k < 16) : basesN.getD k 0 ≤ 187 ∧ lbits k ≤ 20 := by
  rcases (show k = 0 ∨ k = 1 ∨ k = 2 ∨ k = 3 ∨ k = 4 ∨ k = 5 ∨ k = 6 ∨ k = 7 ∨ k = 8 ∨ k = 9 ∨ k = 10 ∨ k = 11 ∨ k = 12 ∨ k = 13 ∨ k = 14 ∨ k = 15 by omega) with rfl | rfl | rfl | rfl | rfl | rfl | rfl | rfl | rfl | rfl | rfl | rfl | rfl | rfl | rfl | rfl <;> decide
def lbase (k : Nat) : Nat := basesN.getD k 0
theorem dbase_le (d : Nat) (hd : d < 30) : dbase d ≤ 65536 ∧ dbits d ≤ 20 := by
  unfold dbase dbits
  by_cases h : d < 4
  · rw [if_pos h, if_pos h]; omega
  · rw [if_neg h, if_neg h]
    have p : (2 : Nat) ^ ((d - 2) / 2) ≤ 2 ^ 13 := Nat.pow_le_pow_right (by omega) (by omega)
    have q : (2 + d % 2) * 2 ^ ((d - 2) / 2) ≤ 3 * 2 ^ 13 := Nat.mul_le_mul (by omega) p
    omega
set_option maxHeartbeats 1600000 in
theorem symbolFor_len {w : World} (T : Tabs w) (v : Nat) (hv : 3 ≤ v) (hv2 : v ≤ 1000000) :
    Calls Tryd.prog 70 #[.int .i64 (v : Int), .int .i64 16, .func (.func 65) #[] #[]] w (RetBelow w (sufV (symN lbase v 15) (lbits (symN lbase v 15)) (v - lbase (symN lbase v 15)))) := by
  have HB := Lib.hid (symN_base lbase v (by unfold lbase; exact hv) 15)
  have HL := Lib.hid (symN_le lbase v 15)
  have BC := Lib.hid (fun (k : Nat) (hk : k < 16) (W : World) (T : Tabs W) => lengthBase_ok k hk W T)
  have BB := Lib.hid (show ∀ k, k < 16 → lbase k ≤ 65536 ∧ lbits k ≤ 20 from fun k hk => ⟨Nat.le_trans (basesN_le k hk).1 (by omega), (basesN_le k hk).2⟩)
  have TT := Lib.hid (T.below (below_alloc w (.cells #[.int .i64 0, .int .i64 0, .int .i64 0] 84)))
  clear T
  obtain ⟨base, hb⟩ : ∃ base, base = lbase := ⟨_, rfl⟩
  obtain ⟨bits, hi⟩ : ∃ bits, bits = lbits := ⟨_, rfl⟩
  have BC2 := Lib.hid (show ∀ (k : Nat), k < 16 → ∀ W : World, Tabs W → Calls Tryd.prog 65 #[.int .i64 (k : Int)] W (Same W (.tuple #[.int .i64 (base k : Int), .int .i64 (bits k : Int)])) from by rw [hb, hi]; exact BC.out)
  rw [← hb] at HB HL BB ⊢
  rw [← hi] at BB ⊢
  clear hb hi BC
  obtain ⟨S, hS⟩ : ∃ S, S = symN base v 15 := ⟨_, rfl⟩
  rw [← hS] at HB HL ⊢
  have QS := Lib.hid hS
  clear hS
  go_enter Tryd.func70, Tryd.ntmps70
  go_upto_region 2 with fail
  have B1 := Lib.hid (below_alloc w (.cells #[.int .i64 0, .int .i64 0, .int .i64 0] 84))
  have C1 := Lib.hid (CellsAt.new w [.int .i64 0, .int .i64 0, .int .i64 0] 84)
  change Hid (CellsAt (w.alloc (.cells #[.int .i64 0, .int .i64 0, .int .i64 0] 84)) _ _) at C1
  generalize w.alloc (.cells #[.int .i64 0, .int .i64 0, .int .i64 0] 84) = x1 at *
  go_wp2_with fail
  refine (BC2.out 15 (by omega) x1 TT.out).mono ?_
  rintro e x2 ⟨rfl, rfl⟩
  have ST := Lib.hid (show SfRel base bits v 16 (.int .i64 15) (.int .i64 (base 15 : Int)) (.int .i64 (bits 15 : Int)) from ⟨15, by omega, rfl, rfl, rfl, rfl⟩)
  go_wp2_with fail
  go_loop [7, 8, 9] (fun s b i => SfRel base bits v 16 s b i) (fun s _ _ => (intOf s).toNat)
  case atStart => exact ST.out
  case round =>
    clear ST
    obtain ⟨k, hk, rfl, rfl, rfl, hs⟩ := hrel
    have bk := (BB.out k hk).1
    by_cases hgt : v < base k
    · have hk0 : k ≠ 0 := by
        intro e
        subst e
        have h1 := HB.out
        rw [QS.out, ← hs] at h1
        have : symN base v 0 = 0 := rfl
        rw [this] at h1
        omega
      obtain ⟨j, rfl⟩ : ∃ j, k = j + 1 := ⟨k - 1, by omega⟩
      have e1 : ((j + 1 : Nat) : Int) - 1 = (j : Int) := by omega
      have FIN := Lib.hid (show SfRel base bits v 16 (.int .i64 (j : Int)) (.int .i64 (base j : Int)) (.int .i64 (bits j : Int)) from ⟨j, by omega, rfl, rfl, rfl, by rw [← hs, symN_miss (by omega)]⟩)
      have ME := Lib.hid (show (j : Int).toNat < ((j + 1 : Nat) : Int).toNat by omega)
      have t1 : decide ((v : Int) < (base (j + 1) : Int)) = true := decide_eq_true (by omega)
      have t1n : decide (v < base (j + 1)) = true := decide_eq_true hgt
      have BJ := Lib.hid (BC2.out j (by omega) x1 TT.out)
      obtain ⟨J, hJ⟩ : ∃ J, J = j + 1 := ⟨_, rfl⟩
      rw [← hJ] at e1 t1 t1n ME bk ⊢
      clear hs hgt hJ
      generalize base J = bJ at *
      generalize base j = bj at *
      generalize bits j = ij at *
      go_wp2_with fail
      refine BJ.out.mono ?_
      rintro e x3 ⟨rfl, rfl⟩
      go_wp2_with fail
      exact ⟨FIN.out, ME.out⟩
    · have e2 : S = k := by rw [QS.out, ← hs]; exact symN_hit (by omega)
      subst e2
      have t1 : decide ((v : Int) < (base S : Int)) = false := decide_eq_false (by omega)
      have t1n : decide (v < base S) = false := decide_eq_false hgt
      have e3 : (v : Int) - (base S : Int) = ((v - base S : Nat) : Int) := by omega
      have z0 := C1.out.cell 0 _ rfl
      have z1 := C1.out.cell 1 _ rfl
      have z2 := C1.out.cell 2 _ rfl
      have y0 := C1.out.free 0
      have y1 := C1.out.free 1
      have y2 := C1.out.free 2
      have bS := (BB.out S hk).2
      generalize bits S = iS at *
      obtain ⟨D, hD⟩ : ∃ D, D = v - base S := ⟨_, rfl⟩
      rw [← hD] at e3
      have QD := Lib.hid hD
      have BZ := Lib.hid (((B1.out.setCell (p := ⟨w.heap.size, 0, none⟩) (Nat.le_refl _) (.int .i64 (S : Int))).setCell (p := ⟨w.heap.size, 1, none⟩) (Nat.le_refl _) (.int .i64 (iS : Int))).setCell (p := ⟨w.heap.size, 2, none⟩) (Nat.le_refl _) (.int .i64 (D : Int)))
      have CZ := Lib.hid (((C1.out.set 0 (.int .i64 (S : Int)) (by simp)).set 1 (.int .i64 (iS : Int)) (by simp)).set 2 (.int .i64 (D : Int)) (by simp))
      clear hD hs hgt HB HL QS
      generalize base S = bb at *
      go_wp2_with fail
      exact bodyPost_ret (results_range rfl _ _ w.heap.size [.int .i64 (S : Int), .int .i64 (iS : Int), .int .i64 (D : Int)] _ rfl CZ.out.range Tryd.underlying84 rfl info84) rfl ⟨by rw [QD.out]; rfl, BZ.out⟩
set_option maxHeartbeats 1600000 in
theorem symbolFor_dist {w : World} (T : Tabs w) (v : Nat) (hv : 1 ≤ v) (hv2 : v ≤ 1000000) :
    Calls Tryd.prog 70 #[.int .i64 (v : Int), .int .i64 30, .func (.func 66) #[] #[]] w (RetBelow w (sufV (symN dbase v 29) (dbits (symN dbase v 29)) (v - dbase (symN dbase v 29)))) := by
  have HB := Lib.hid (symN_base dbase v (by show 0 + 1 ≤ v; exact hv) 29)
  have HL := Lib.hid (symN_le dbase v 29)
  have BC := Lib.hid (fun (k : Nat) (hk : k < 30) (W : World) (T : Tabs W) => distanceBase_ok k hk W)
  have BB := Lib.hid (show ∀ k, k < 30 → dbase k ≤ 65536 ∧ dbits k ≤ 20 from dbase_le)
  have TT := Lib.hid (T.below (below_alloc w (.cells #[.int .i64 0, .int .i64 0, .int .i64 0] 84)))
  clear T
  obtain ⟨base, hb⟩ : ∃ base, base = dbase := ⟨_, rfl⟩
  obtain ⟨bits, hi⟩ : ∃ bits, bits = dbits := ⟨_, rfl⟩
  have BC2 := Lib.hid (show ∀ (k : Nat), k < 30 → ∀ W : World, Tabs W → Calls Tryd.prog 66 #[.int .i64 (k : Int)] W (Same W (.tuple #[.int .i64 (base k : Int), .int .i64 (bits k : Int)])) from by rw [hb, hi]; exact BC.out)
  rw [← hb] at HB HL BB ⊢
  rw [← hi] at BB ⊢
  clear hb hi BC
  obtain ⟨S, hS⟩ : ∃ S, S = symN base v 29 := ⟨_, rfl⟩
  rw [← hS] at HB HL ⊢
  have QS := Lib.hid hS
  clear hS
  go_enter Tryd.func70, Tryd.ntmps70
  go_upto_region 2 with fail
  have B1 := Lib.hid (below_alloc w (.cells #[.int .i64 0, .int .i64 0, .int .i64 0] 84))
  have C1 := Lib.hid (CellsAt.new w [.int .i64 0, .int .i64 0, .int .i64 0] 84)
  change Hid (CellsAt (w.alloc (.cells #[.int .i64 0, .int .i64 0, .int .i64 0] 84)) _ _) at C1
  generalize w.alloc (.cells #[.int .i64 0, .int .i64 0, .int .i64 0] 84) = x1 at *
  go_wp2_with fail
  refine (BC2.out 29 (by omega) x1 TT.out).mono ?_
  rintro e x2 ⟨rfl, rfl⟩
  have ST := Lib.hid (show SfRel base bits v 30 (.int .i64 29) (.int .i64 (base 29 : Int)) (.int .i64 (bits 29 : Int)) from ⟨29, by omega, rfl, rfl, rfl, rfl⟩)
  go_wp2_with fail
  go_loop [7, 8, 9] (fun s b i => SfRel base bits v 30 s b i) (fun s _ _ => (intOf s).toNat)
  case atStart => exact ST.out
  case round =>
    clear ST
    obtain ⟨k, hk, rfl, rfl, rfl, hs⟩ := hrel
    have bk := (BB.out k hk).1
    by_cases hgt : v < base k
    · have hk0 : k ≠ 0 := by
        intro e
        subst e
        have h1 := HB.out
        rw [QS.out, ← hs] at h1
        have : symN base v 0 = 0 := rfl
        rw [this] at h1
        omega
      obtain ⟨j, rfl⟩ : ∃ j, k = j + 1 := ⟨k - 1, by omega⟩
      have e1 : ((j + 1 : Nat) : Int) - 1 = (j : Int) := by omega
      have FIN := Lib.hid (show SfRel base bits v 30 (.int .i64 (j : Int)) (.int .i64 (base j : Int)) (.int .i64 (bits j : Int)) from ⟨j, by omega, rfl, rfl, rfl, by rw [← hs, symN_miss (by omega)]⟩)
      have ME := Lib.hid (show (j : Int).toNat < ((j + 1 : Nat) : Int).toNat by omega)
      have t1 : decide ((v : Int) < (base (j + 1) : Int)) = true := decide_eq_true (by omega)
      have t1n : decide (v < base (j + 1)) = true := decide_eq_true hgt
      have BJ := Lib.hid (BC2.out j (by omega) x1 TT.out)
      obtain ⟨J, hJ⟩ : ∃ J, J = j + 1 := ⟨_, rfl⟩
      rw [← hJ] at e1 t1 t1n ME bk ⊢
      clear hs hgt hJ
      generalize base J = bJ at *
      generalize base j = bj at *
      generalize bits j = ij at *
      go_wp2_with fail
      refine BJ.out.mono ?_
      rintro e x3 ⟨rfl, rfl⟩
      go_wp2_with fail
      exact ⟨FIN.out, ME.out⟩
    · have e2 : S = k := by rw [QS.out, ← hs]; exact symN_hit (by omega)
      subst e2
      have t1 : decide ((v : Int) < (base S : Int)) = false := decide_eq_false (by omega)
      have t1n : decide (v < base S) = false := decide_eq_false hgt
      have e3 : (v : Int) - (base S : Int) = ((v - base S : Nat) : Int) := by omega
      have z0 := C1.out.cell 0 _ rfl
      have z1 := C1.out.cell 1 _ rfl
      have z2 := C1.out.cell 2 _ rfl
      have y0 := C1.out.free 0
      have y1 := C1.out.free 1
      have y2 := C1.out.free 2
      have bS := (BB.out S hk).2
      generalize bits S = iS at *
      obtain ⟨D, hD⟩ : ∃ D, D = v - base S := ⟨_, rfl⟩
      rw [← hD] at e3
      have QD := Lib.hid hD
      have BZ := Lib.hid (((B1.out.setCell (p := ⟨w.heap.size, 0, none⟩) (Nat.le_refl _) (.int .i64 (S : Int))).setCell (p := ⟨w.heap.size, 1, none⟩) (Nat.le_refl _) (.int .i64 (iS : Int))).setCell (p := ⟨w.heap.size, 2, none⟩) (Nat.le_refl _) (.int .i64 (D : Int)))
      have CZ := Lib.hid (((C1.out.set 0 (.int .i64 (S : Int)) (by simp)).set 1 (.int .i64 (iS : Int)) (by simp)).set 2 (.int .i64 (D : Int)) (by simp))
      clear hD hs hgt HB HL QS
      generalize base S = bb at *
      go_wp2_with fail
      exact bodyPost_ret (results_range rfl _ _ w.heap.size [.int .i64 (S : Int), .int .i64 (iS : Int), .int .i64 (D : Int)] _ rfl CZ.out.range Tryd.underlying84 rfl info84) rfl ⟨by rw [QD.out]; rfl, BZ.out⟩
end Go.Proofs.YtfbeipfpkikakaaDoor
