/- How often a heap asks: counts; what the function that counts leaves alone; less, ahead. -/
import Derived.Test.YtiegpjlobpmacaaHs
namespace Go.Proofs.Ytiegpjlobpmacaa
open Go.RowKit
set_option maxRecDepth 100000
/-- Binary digits. -/
def dgt (n : Nat) : Nat := if _h : 0 < n then 1 + dgt (n / 2) else 0
termination_by n
decreasing_by omega
theorem dgt_zero : dgt 0 = 0 := by rw [dgt, dif_neg (by omega)]
theorem dgt_pos {n : Nat} (h : 0 < n) : dgt n = 1 + dgt (n / 2) := by rw [dgt, dif_pos h]
theorem dgt_mono : ∀ (m : Nat) (a b : Nat), b ≤ m → a ≤ b → dgt a ≤ dgt b := by
  intro m
  induction m with
  | zero =>
    intro a b h1 h2
    obtain rfl : a = 0 := by omega
    rw [dgt_zero]
    exact Nat.zero_le _
  | succ m ih =>
    intro a b h1 h2
    by_cases ha : 0 < a
    · rw [dgt_pos ha, dgt_pos (by omega : 0 < b)]
      have := ih (a / 2) (b / 2) (by omega) (by omega)
      omega
    · obtain rfl : a = 0 := by omega
      rw [dgt_zero]; omega
theorem dgt_le : ∀ (m n : Nat), n ≤ m → dgt n ≤ n := by
  intro m
  induction m with
  | zero =>
    intro n h
    obtain rfl : n = 0 := by omega
    rw [dgt_zero]
    exact Nat.zero_le _
  | succ m ih =>
    intro n h
    by_cases hn : 0 < n
    · rw [dgt_pos hn]
      have := ih (n / 2) (by omega)
      omega
    · obtain rfl : n = 0 := by omega
      rw [dgt_zero]; omega
/-- How often it is asked on the way up. -/
def riseN (f : Nat → It) (one : It) (p : Nat) : Nat := if _h : 0 < p then 1 + (if ahd one (f (abv p)) = true then riseN f one (abv p) else 0) else 0
termination_by p
decreasing_by exact abv_lt _h
theorem riseN_go {f : Nat → It} {one : It} {p : Nat} (h : 0 < p) (k : ahd one (f (abv p)) = true) : riseN f one p = 1 + riseN f one (abv p) := by rw [riseN, dif_pos h, if_pos k]
theorem riseN_stay {f : Nat → It} {one : It} {p : Nat} (h : 0 < p) (k : ahd one (f (abv p)) = false) : riseN f one p = 1 := by rw [riseN, dif_pos h, if_neg (by rw [k]; simp)]
theorem riseN_zero {f : Nat → It} {one : It} : riseN f one 0 = 0 := by rw [riseN, dif_neg (by omega)]
theorem riseN_le (f : Nat → It) (one : It) : ∀ p, riseN f one p ≤ dgt (p + 1) := by
  intro p
  induction p using Nat.strongRecOn with
  | ind p ih =>
    by_cases h : 0 < p
    · have e : (p + 1) / 2 = abv p + 1 := by unfold abv; omega
      rw [dgt_pos (by omega : 0 < p + 1), e]
      have := ih _ (abv_lt h)
      cases hk : ahd one (f (abv p)) with
      | true => rw [riseN_go h hk]; omega
      | false => rw [riseN_stay h hk]; omega
    · obtain rfl : p = 0 := by omega
      rw [riseN_zero]; omega
/-- How often it is asked on the way down. -/
def sinkN (f : Nat → It) (n : Nat) (one : It) (p : Nat) : Nat := if _h : 2 * p + 1 < n then (if 2 * p + 1 + 1 < n then 1 else 0) + 1 + (if ahd one (f (kidI f n p)) = false then sinkN f n one (kidI f n p) else 0) else 0
termination_by n - p
decreasing_by have := kidI_gt f n p; omega
theorem sinkN_go {f : Nat → It} {n : Nat} {one : It} {p : Nat} (h : 2 * p + 1 < n) (k : ahd one (f (kidI f n p)) = false) : sinkN f n one p = (if 2 * p + 1 + 1 < n then 1 else 0) + 1 + sinkN f n one (kidI f n p) := by rw [sinkN, dif_pos h, if_pos k]
theorem sinkN_stay {f : Nat → It} {n : Nat} {one : It} {p : Nat} (h : 2 * p + 1 < n) (k : ahd one (f (kidI f n p)) = true) : sinkN f n one p = (if 2 * p + 1 + 1 < n then 1 else 0) + 1 := by rw [sinkN, dif_pos h, if_neg (c := ahd one (f (kidI f n p)) = false) (by rw [k]; simp)]
theorem sinkN_end {f : Nat → It} {n : Nat} {one : It} {p : Nat} (h : ¬ 2 * p + 1 < n) : sinkN f n one p = 0 := by rw [sinkN, dif_neg h]
theorem sinkN_le {f : Nat → It} {n : Nat} {one : It} : ∀ (m p : Nat), n - p ≤ m → sinkN f n one p ≤ 2 * dgt (n / (p + 1)) := by
  intro m
  induction m with
  | zero => intro p h; rw [sinkN_end (by omega)]; omega
  | succ m ih =>
    intro p hm
    by_cases h : 2 * p + 1 < n
    · have g := kidI_gt f n p
      have gk : 2 * p + 1 ≤ kidI f n p := by unfold kidI; split <;> omega
      have h2 : 2 ≤ n / (p + 1) := (Nat.le_div_iff_mul_le (by omega)).2 (by omega)
      have h3 : n / (kidI f n p + 1) ≤ n / (p + 1) / 2 := by
        rw [Nat.div_div_eq_div_mul]
        exact Nat.div_le_div_left (by omega) (by omega)
      have h4 := dgt_mono _ _ _ (Nat.le_refl _) h3
      have h5 := ih (kidI f n p) (by omega)
      have h6 : dgt (n / (p + 1)) = 1 + dgt (n / (p + 1) / 2) := dgt_pos (by omega)
      have h7 : (if 2 * p + 1 + 1 < n then 1 else 0) ≤ 1 := by split <;> omega
      cases hk : ahd one (f (kidI f n p)) with
      | false => rw [sinkN_go h hk]; omega
      | true => rw [sinkN_stay h hk]; omega
    · rw [sinkN_end h]; omega

/-- The count, in memory. -/
def AskAt (w : World) (ba c : Nat) : Prop := w.heap[ba]? = some (.cells #[.int .i64 (c : Int)] 3 (0, 0))
/-- Nothing that was there has changed but the count. -/
structure Ask (ba c : Nat) (w w' : World) : Prop where
  os : w'.os = w.os
  tape : w'.tape = w.tape
  output : w'.output = w.output
  size : w.heap.size ≤ w'.heap.size
  block : ∀ b, b < w.heap.size → b ≠ ba → w'.heap[b]? = w.heap[b]?
  cell : AskAt w' ba c
theorem Ask.of {ba c : Nat} {w w' : World} (h : AskAt w ba c) (k : Below w.heap.size w w') : Ask ba c w w' := ⟨k.os, k.tape, k.output, k.size, fun b hb _ => k.block b hb, (k.block ba (lt_of_heap h)).trans h⟩
theorem Ask.trans {ba c d : Nat} {a b e : World} (h : Ask ba c a b) (k : Ask ba d b e) : Ask ba d a e :=
  ⟨k.os.trans h.os, k.tape.trans h.tape, k.output.trans h.output, Nat.le_trans h.size k.size, fun x hx hne => (k.block x (Nat.lt_of_lt_of_le hx h.size) hne).trans (h.block x hx hne), k.cell⟩
theorem Ask.below {ba c : Nat} {a b e : World} (h : Ask ba c a b) (k : Below b.heap.size b e) : Ask ba c a e := h.trans (Ask.of h.cell k)
theorem Ask.cellOf {ba c : Nat} {w w' : World} (h : Ask ba c w w') {b : Nat} (hb : b < w.heap.size) (hne : b ≠ ba) (o : Nat) : w'.cell? ⟨b, o, none⟩ = w.cell? ⟨b, o, none⟩ := World.cell?_of_block (a := ⟨b, o, none⟩) (h.block b hb hne)
theorem Ask.freeOf {ba c : Nat} {w w' : World} (h : Ask ba c w w') {b : Nat} (hb : b < w.heap.size) (hne : b ≠ ba) (o : Nat) : w'.frozen? ⟨b, o, none⟩ = w.frozen? ⟨b, o, none⟩ := World.frozen?_of_block (a := ⟨b, o, none⟩) (h.block b hb hne)
/-- Below a block that came later than the count. -/
theorem Ask.low {ba c B : Nat} {w w' : World} (h : Ask ba c w w') (hB : B ≤ ba) (hs : B ≤ w.heap.size) : Below B w w' := ⟨h.os, h.tape, h.output, h.size, fun b hb => h.block b (by omega) (by omega)⟩
theorem CellsAt.ask {w w' : World} {b ba c : Nat} {vs : List Value} (h : CellsAt w b vs) (k : Ask ba c w w') (hne : b ≠ ba) : CellsAt w' b vs :=
  ⟨Nat.lt_of_lt_of_le h.lt k.size, fun j v hv => (k.cellOf h.lt hne j).trans (h.cell j v hv), fun j => (k.freeOf h.lt hne j).trans (h.free j)⟩
def RetAsk (w : World) (ba c : Nat) (v : Value) (e : Ending) (w' : World) : Prop := e = .returned v ∧ Ask ba c w w'
theorem AskAt.c0 {w : World} {ba c : Nat} (h : AskAt w ba c) : w.cell? ⟨ba, 0, none⟩ = some (.int .i64 (c : Int)) := by rw [cell_of_row w ba 0 _ 3 (0, 0) h]; rfl
theorem AskAt.f0 {w : World} {ba c : Nat} (h : AskAt w ba c) : w.frozen? ⟨ba, 0, none⟩ = false := frozen_of_row w ba 0 _ 3 h
theorem less13_ok {w : World} {ba c : Nat} (h : AskAt w ba c) (hc : c < 1099511627776) (a b : Int) : Calls Try.prog 13 #[.int .i64 a, .int .i64 b, .pointer (some ⟨ba, 0, none⟩)] w (RetAsk w ba (c + 1) (.bool (decide (a < b)))) := by
  have c0 := h.c0
  have f0 := h.f0
  have lt := lt_of_heap h
  have HA := Lib.hid h
  clear h
  go_enter Try.func13, Try.ntmps13
  go_wp2_with fail
  go_ret
  refine ⟨rfl, rfl, rfl, rfl, by simp, fun b hb hne => heap_setCell_other _ ⟨ba, 0, none⟩ b _ hne, ?_⟩
  have := heap_setCell_same w ba 0 _ 3 (.int .i64 ((c : Int) + 1)) HA.out
  unfold AskAt
  rw [this]
  rfl
/-- A heap's function, that counts. -/
structure LesAt (w : World) (h ba : Nat) : Prop where
  lt : h < w.heap.size
  ne : h ≠ ba
  cell : w.cell? ⟨h, 0, none⟩ = some (.func (.func 13) #[] #[.pointer (some ⟨ba, 0, none⟩)])
theorem LesAt.keep {w w' : World} {h ba : Nat} (l : LesAt w h ba) (k : Below w.heap.size w w') : LesAt w' h ba := ⟨Nat.lt_of_lt_of_le l.lt k.size, l.ne, ((bcell k).1 h 0 l.lt).trans l.cell⟩
theorem LesAt.ask {w w' : World} {h ba c : Nat} (l : LesAt w h ba) (k : Ask ba c w w') : LesAt w' h ba := ⟨Nat.lt_of_lt_of_le l.lt k.size, l.ne, (k.cellOf l.lt l.ne 0).trans l.cell⟩
set_option maxHeartbeats 800000 in
theorem ahead2_ok {w : World} {h ba c : Nat} (hl : LesAt w h ba) (ha : AskAt w ba c) (hcc : c < 1099511627776) (x y : It) : Calls Try.prog 25 #[.pointer (some ⟨h, 0, none⟩), .agg #[.int .i64 x.key, .int .u64 (x.num : Int)], .agg #[.int .i64 y.key, .int .u64 (y.num : Int)]] w (RetAsk w ba (c + 1) (.bool (ahd x y))) := by
  obtain ⟨xk, xw, xn⟩ := x
  obtain ⟨yk, yw, yn⟩ := y
  have hc := hl.cell
  have hlt := hl.lt
  by_cases hn : xn < yn
  · have e : ahd ⟨xk, xw, xn⟩ ⟨yk, yw, yn⟩ = !(decide (yk < xk)) := if_pos hn
    have t1 : decide (xn < yn) = true := decide_eq_true hn
    rw [e]
    clear e hn
    go_enter Try.func25, Try.ntmps25
    go_upto_region 2 with fail
    have R1 := Lib.hid ((CellsAt.new w [.int .i64 xk, .int .u64 (xn : Int)] 56).alloc (.cells #[.int .i64 yk, .int .u64 (yn : Int)] 56))
    have R2 := Lib.hid (CellsAt.new (w.alloc (.cells #[.int .i64 xk, .int .u64 (xn : Int)] 56)) [.int .i64 yk, .int .u64 (yn : Int)] 56)
    have B1 := Lib.hid (((Below.refl w.heap.size w).alloc (Nat.le_refl _) (.cells #[.int .i64 xk, .int .u64 (xn : Int)] 56)).alloc (by simp) (.cells #[.int .i64 yk, .int .u64 (yn : Int)] 56))
    change Hid (CellsAt ((w.alloc (.cells #[.int .i64 xk, .int .u64 (xn : Int)] 56)).alloc (.cells #[.int .i64 yk, .int .u64 (yn : Int)] 56)) (w.alloc (.cells #[.int .i64 xk, .int .u64 (xn : Int)] 56)).heap.size _) at R2
    have hs2 : (w.alloc (.cells #[.int .i64 xk, .int .u64 (xn : Int)] 56)).heap.size = w.heap.size + 1 := by simp
    rw [hs2] at R2
    clear hs2
    have hc1 := (((bcell B1.out).1 h 0 hlt)).trans hc
    clear hc
    generalize (w.alloc (.cells #[.int .i64 xk, .int .u64 (xn : Int)] 56)).alloc (.cells #[.int .i64 yk, .int .u64 (yn : Int)] 56) = x1 at R1 R2 B1 hc1 ⊢
    have LE := Lib.hid (fun (W : World) (q : AskAt W ba c) => less13_ok q hcc yk xk)
    have A1 := Lib.hid (Ask.of ha B1.out)
    have a0 := R1.out.cell 0 _ rfl
    have a2 := R2.out.cell 0 _ rfl
    have a4 := R1.out.lt
    have a5 := R2.out.lt
    go_still_tail 8, (by kernel_rfl)
    change wpList _ _ _ _ _ (World.drew _)
    go_wp2_with fail
    refine (LE.out _ (show AskAt x1.drew ba c from A1.out.cell)).mono ?_
    rintro e w1 ⟨rfl, hb⟩
    have B2 := Lib.hid hb
    clear hb
    go_wp2_with fail
    go_ret
    exact ⟨rfl, (A1.out.below (Below.refl _ _).drew).trans B2.out⟩
  · have e : ahd ⟨xk, xw, xn⟩ ⟨yk, yw, yn⟩ = decide (xk < yk) := if_neg hn
    have t1 : decide (xn < yn) = false := decide_eq_false hn
    rw [e]
    clear e hn
    go_enter Try.func25, Try.ntmps25
    go_upto_region 3 with fail
    have R1 := Lib.hid ((CellsAt.new w [.int .i64 xk, .int .u64 (xn : Int)] 56).alloc (.cells #[.int .i64 yk, .int .u64 (yn : Int)] 56))
    have R2 := Lib.hid (CellsAt.new (w.alloc (.cells #[.int .i64 xk, .int .u64 (xn : Int)] 56)) [.int .i64 yk, .int .u64 (yn : Int)] 56)
    have B1 := Lib.hid (((Below.refl w.heap.size w).alloc (Nat.le_refl _) (.cells #[.int .i64 xk, .int .u64 (xn : Int)] 56)).alloc (by simp) (.cells #[.int .i64 yk, .int .u64 (yn : Int)] 56))
    change Hid (CellsAt ((w.alloc (.cells #[.int .i64 xk, .int .u64 (xn : Int)] 56)).alloc (.cells #[.int .i64 yk, .int .u64 (yn : Int)] 56)) (w.alloc (.cells #[.int .i64 xk, .int .u64 (xn : Int)] 56)).heap.size _) at R2
    have hs2 : (w.alloc (.cells #[.int .i64 xk, .int .u64 (xn : Int)] 56)).heap.size = w.heap.size + 1 := by simp
    rw [hs2] at R2
    clear hs2
    have hc1 := (((bcell B1.out).1 h 0 hlt)).trans hc
    clear hc
    generalize (w.alloc (.cells #[.int .i64 xk, .int .u64 (xn : Int)] 56)).alloc (.cells #[.int .i64 yk, .int .u64 (yn : Int)] 56) = x1 at R1 R2 B1 hc1 ⊢
    have LE := Lib.hid (fun (W : World) (q : AskAt W ba c) => less13_ok q hcc xk yk)
    have A1 := Lib.hid (Ask.of ha B1.out)
    have a0 := R1.out.cell 0 _ rfl
    have a2 := R2.out.cell 0 _ rfl
    have a4 := R1.out.lt
    have a5 := R2.out.lt
    go_still_tail 8, (by kernel_rfl)
    change wpList _ _ _ _ _ (World.drew _)
    go_wp2_with fail
    refine (LE.out _ (show AskAt x1.drew ba c from A1.out.cell)).mono ?_
    rintro e w1 ⟨rfl, hb⟩
    have B2 := Lib.hid hb
    clear hb
    go_wp2_with fail
    go_ret
    exact ⟨rfl, (A1.out.below (Below.refl _ _).drew).trans B2.out⟩
end Go.Proofs.Ytiegpjlobpmacaa
