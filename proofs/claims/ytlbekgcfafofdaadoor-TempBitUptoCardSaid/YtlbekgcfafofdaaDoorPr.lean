/- What an entry may be: the program's small tests. -/
import Derived.Test.YtlbekgcfafofdaaDoorMe
import Derived.Lib.IndexAny
namespace Go.Proofs.YtlbekgcfafofdaaDoor
open Go.RowKit
set_option maxRecDepth 100000

theorem isKind_ok (k : Nat) (w : World) : Calls Tryd.prog 30 #[.int .u8 k] w (Same w (.bool (isKind k))) := by
  by_cases h1 : 1 ≤ k
  · by_cases h2 : k ≤ 6
    · have e : isKind k = true := by simp [isKind, h1, h2]
      rw [e]
      have t1 : decide (1 ≤ (k : Int)) = true := decide_eq_true (by omega)
      have t2 : decide ((k : Int) ≤ 6) = true := decide_eq_true (by omega)
      go_enter Tryd.func30, Tryd.ntmps30
      go_wp2_with fail
      go_ret
      exact ⟨rfl, rfl⟩
    · have e : isKind k = false := by simp [isKind, h2]
      rw [e]
      have t1 : decide (1 ≤ (k : Int)) = true := decide_eq_true (by omega)
      have t2 : decide ((k : Int) ≤ 6) = false := decide_eq_false (by omega)
      go_enter Tryd.func30, Tryd.ntmps30
      go_wp2_with fail
      go_ret
      exact ⟨rfl, rfl⟩
  · have e : isKind k = false := by simp [isKind, h1]
    rw [e]
    have t1 : decide (1 ≤ (k : Int)) = false := decide_eq_false (by omega)
    go_enter Tryd.func30, Tryd.ntmps30
    go_wp2_with fail
    go_ret
    exact ⟨rfl, rfl⟩
theorem upTo_ok (n m : Int) (w : World) : Calls Tryd.prog 34 #[.int .i64 n, .int .i64 m] w (Same w (.bool (upTo n m))) := by
  by_cases h1 : 0 ≤ n
  · by_cases h2 : n ≤ m
    · have e : upTo n m = true := by simp [upTo, h1, h2]
      rw [e]
      have t1 : decide (0 ≤ n) = true := decide_eq_true h1
      have t2 : decide (n ≤ m) = true := decide_eq_true h2
      clear h1 h2 e
      go_enter Tryd.func34, Tryd.ntmps34
      go_wp2_with fail
      go_ret
      exact ⟨rfl, rfl⟩
    · have e : upTo n m = false := by simp [upTo, h2]
      rw [e]
      have t1 : decide (0 ≤ n) = true := decide_eq_true h1
      have t2 : decide (n ≤ m) = false := decide_eq_false h2
      clear h1 h2 e
      go_enter Tryd.func34, Tryd.ntmps34
      go_wp2_with fail
      go_ret
      exact ⟨rfl, rfl⟩
  · have e : upTo n m = false := by simp [upTo, h1]
    rw [e]
    have t1 : decide (0 ≤ n) = false := decide_eq_false h1
    clear h1 e
    go_enter Tryd.func34, Tryd.ntmps34
    go_wp2_with fail
    go_ret
    exact ⟨rfl, rfl⟩
theorem has_ok (s f : Nat) (hs : s < 256) (hf : f < 256) (w : World) : Calls Tryd.prog 32 #[.int .u8 s, .int .u8 f] w (Same w (.bool (hasN s f))) := by
  have A := Lib.hid (u8_and_nat s f hs hf)
  unfold hasN
  generalize s &&& f = m at *
  by_cases h : m = f
  · subst h
    rw [decide_eq_true rfl]
    have A1 := A.out
    go_enter Tryd.func32, Tryd.ntmps32
    go_wp2_with fail
    go_ret
    exact ⟨rfl, rfl⟩
  · rw [decide_eq_false h]
    have A1 := A.out
    have t1 : decide ((m : Int) = (f : Int)) = false := decide_eq_false (by omega)
    have t2 : ((m : Int) == (f : Int)) = false := by simp only [beq_eq_false_iff_ne]; omega
    have t3 : (m == f) = false := by simpa using h
    clear h
    go_enter Tryd.func32, Tryd.ntmps32
    go_wp2_with fail
    go_ret
    exact ⟨rfl, rfl⟩
theorem ib_ok (s : ByteArray) (w : World) : Calls Tryd.prog 52 #[.string s, .int .u8 0] w (Same w (.int .i64 (Lib.indexByte s.data.toList 0))) :=
  (Tryd.strings_IndexByte s 0 w).mono fun _ _ ⟨h1, h2⟩ => ⟨h1, h2.symm⟩
def cleanB (s : ByteArray) (m : Nat) : Bool := decide (1 ≤ s.size) && (decide (s.size ≤ m) && !s.data.toList.contains 0)
theorem isText_ok (s : ByteArray) (m : Nat) (w : World) : Calls Tryd.prog 47 #[.string s, .int .i64 m] w (Same w (.bool (cleanB s m))) := by
  unfold cleanB
  by_cases h1 : 1 ≤ s.size
  · have t1 : decide (1 ≤ (s.size : Int)) = true := decide_eq_true (by omega)
    have t1n : decide (1 ≤ s.size) = true := decide_eq_true h1
    by_cases h2 : s.size ≤ m
    · have t2 : decide ((s.size : Int) ≤ (m : Int)) = true := decide_eq_true (by omega)
      have t2n : decide (s.size ≤ m) = true := decide_eq_true h2
      have ci := Lib.contains_iff_indexByte s.data.toList 0
      have IB := Lib.hid (ib_ok s w)
      generalize Lib.indexByte s.data.toList 0 = x at *
      generalize s.data.toList.contains 0 = c at *
      subst ci
      rw [t1n, t2n]
      by_cases h3 : 0 ≤ x
      · have t3 : decide (x < 0) = false := decide_eq_false (by omega)
        rw [decide_eq_true h3]
        clear h3 h2 h1
        go_enter Tryd.func47, Tryd.ntmps47
        go_wp2_with fail
        refine IB.out.mono ?_
        rintro e w' ⟨rfl, rfl⟩
        go_wp2_with fail
        go_ret
        exact ⟨rfl, rfl⟩
      · have t3 : decide (x < 0) = true := decide_eq_true (by omega)
        rw [decide_eq_false h3]
        clear h3 h2 h1
        go_enter Tryd.func47, Tryd.ntmps47
        go_wp2_with fail
        refine IB.out.mono ?_
        rintro e w' ⟨rfl, rfl⟩
        go_wp2_with fail
        go_ret
        exact ⟨rfl, rfl⟩
    · have t2 : decide ((s.size : Int) ≤ (m : Int)) = false := decide_eq_false (by omega)
      have t2n : decide (s.size ≤ m) = false := decide_eq_false h2
      rw [t2n, Bool.false_and, Bool.and_false]
      clear h2 h1
      go_enter Tryd.func47, Tryd.ntmps47
      go_wp2_with fail
      go_ret
      exact ⟨rfl, rfl⟩
  · have t1 : decide (1 ≤ (s.size : Int)) = false := decide_eq_false (by omega)
    have t1n : decide (1 ≤ s.size) = false := decide_eq_false h1
    rw [t1n, Bool.false_and]
    clear h1
    go_enter Tryd.func47, Tryd.ntmps47
    go_wp2_with fail
    go_ret
    exact ⟨rfl, rfl⟩
theorem clean_bs (l : List UInt8) : cleanB (bs l) 64 = clean l := by
  unfold cleanB clean
  rw [bs_size, bs_list]
theorem isName_ok (s : ByteArray) (w : World) : Calls Tryd.prog 33 #[.string s] w (Same w (.bool (cleanB s 64))) := by
  have T := Lib.hid (isText_ok s 64 w)
  go_enter Tryd.func33, Tryd.ntmps33
  go_wp2_with fail
  refine T.out.mono ?_
  rintro e w' ⟨rfl, rfl⟩
  go_wp2_with fail
  go_ret
  exact ⟨rfl, rfl⟩
/-- Numbers of runs, rising, as far as they have been looked at. -/
def lastL : Int → List Int → Int
  | x, [] => x
  | _, y :: l => lastL y l
theorem lastL_snoc : ∀ (l : List Int) (x y : Int), lastL x (l ++ [y]) = y
  | [], _, _ => rfl
  | z :: l, _, y => lastL_snoc l z y
theorem runs_app : ∀ (a b : List Int) (x : Int), runsUp x (a ++ b) = (runsUp x a && runsUp (lastL x a) b)
  | [], b, x => by simp [runsUp, lastL]
  | y :: a, b, x => by
    rw [List.cons_append, runsUp, runsUp, runs_app a b y, lastL]
    simp only [Bool.and_assoc]
def ArRel (l : List Int) (x i : Value) : Prop := ∃ k : Nat, k ≤ l.length ∧ runsUp (-1) (l.take k) = true ∧ i = .int .i64 k ∧ x = .int .i64 (lastL (-1) (l.take k))
set_option maxHeartbeats 800000 in
theorem areRuns_some (b off cp : Nat) (l : List Int) (hl : l.length ≤ 17592186044416) (w : World) (_hb : b < w.heap.size) (hc : ∀ (j : Nat) (hj : j < l.length), w.cell? ⟨b, off + j, none⟩ = some (.int .i64 l[j])) :
    Calls Tryd.prog 35 #[.slice (some ⟨b, off, none⟩) l.length cp] w (Same w (.bool (runsUp (-1) l))) := by
  have HC := Lib.hid hc
  clear hc
  go_enter Tryd.func35, Tryd.ntmps35
  go_wp2_with fail
  go_loop [3, 8] (fun x i => ArRel l x i) (fun _ i => l.length - (intOf i).toNat)
  case atStart => exact ⟨0, Nat.zero_le _, rfl, rfl, rfl⟩
  case round =>
    obtain ⟨k, hk, hr, rfl, rfl⟩ := hrel
    by_cases hlt : k < l.length
    · have hx := HC.out k hlt
      have e1 : l.take (k + 1) = l.take k ++ [l[k]] := List.take_succ_eq_append_getElem hlt
      have e2 : lastL (-1) (l.take (k + 1)) = l[k] := by rw [e1, lastL_snoc]
      have e3 : runsUp (-1) (l.take (k + 1)) = (decide (lastL (-1) (l.take k) < l[k]) && decide (l[k] ≤ 131071)) := by
        rw [e1, runs_app, hr]; simp [runsUp]
      have e4 : runsUp (-1) (l.take (k + 1)) = false → runsUp (-1) l = false := by
        intro h
        rw [← List.take_append_drop (k + 1) l, runs_app, h, Bool.false_and]
      have E2 := Lib.hid e2
      have E3 := Lib.hid e3
      have E4 := Lib.hid e4
      have HR := Lib.hid hr
      clear e1 e2 e3 e4 hr
      generalize l[k] = y at *
      generalize lastL (-1) (l.take k) = x at *
      by_cases h1 : y ≤ x
      · have t1 : decide (y ≤ x) = true := decide_eq_true h1
        have hf : runsUp (-1) l = false := E4.out (by rw [E3.out, decide_eq_false (by omega)]; rfl)
        have HF := Lib.hid hf
        clear hf h1
        go_wp2_with fail
        go_ret
        exact ⟨by rw [HF.out]; rfl, rfl⟩
      · have t1 : decide (y ≤ x) = false := decide_eq_false h1
        by_cases h2 : 131071 < y
        · have t2 : decide (131071 < y) = true := decide_eq_true h2
          have hf : runsUp (-1) l = false := E4.out (by rw [E3.out, decide_eq_false (show ¬ y ≤ 131071 by omega)]; simp)
          have HF := Lib.hid hf
          clear hf h1 h2
          go_wp2_with fail
          go_ret
          exact ⟨by rw [HF.out]; rfl, rfl⟩
        · have t2 : decide (131071 < y) = false := decide_eq_false h2
          have KEY := Lib.hid (show ArRel l (.int .i64 y) (.int .i64 ((k : Int) + 1)) from ⟨k + 1, by omega, by rw [E3.out, decide_eq_true (show x < y by omega), decide_eq_true (show y ≤ 131071 by omega)]; rfl, by go_num, by rw [E2.out]⟩)
          clear h1 h2
          go_wp2_with fail
          exact ⟨KEY.out, by simp [intOf]; omega⟩
    · have ek : l.take k = l := List.take_of_length_le (by omega)
      rw [ek] at hr
      have HF := Lib.hid hr
      clear ek hr
      generalize lastL (-1) (l.take k) = x at *
      go_wp2_with fail
      go_ret
      exact ⟨by rw [HF.out]; rfl, rfl⟩
theorem areRuns_none (a : Option Addr) (cp : Nat) (w : World) : Calls Tryd.prog 35 #[.slice a 0 cp] w (Same w (.bool true)) := by
  go_enter Tryd.func35, Tryd.ntmps35
  go_wp2_with fail
  go_loop [3, 8] (fun x i => x = .int .i64 (-1) ∧ i = .int .i64 0) (fun _ i => 0)
  case atStart => exact ⟨rfl, rfl⟩
  case round =>
    obtain ⟨rfl, rfl⟩ := hrel
    go_wp2_with fail
    go_ret
    exact ⟨rfl, rfl⟩
theorem areRuns_ok {v : Value} {l : List Int} {w : World} (hl : l.length ≤ 17592186044416) (h : SlI w v l) : Calls Tryd.prog 35 #[v] w (Same w (.bool (runsUp (-1) l))) := by
  by_cases h0 : l = []
  · subst h0
    obtain ⟨a, c, rfl, _⟩ := h.form
    exact areRuns_none a c w
  · obtain ⟨b, off, c, rfl, _, hb, hc⟩ := h.get h0
    exact areRuns_some b off c l hl w hb hc
end Go.Proofs.YtlbekgcfafofdaaDoor
