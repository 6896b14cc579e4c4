/- Small ones: num, byKey, is it nil, Compared, Err; a source of a list. -/
import Derived.Test.YtjlcbhblpofjhaaNx
namespace Go.Proofs.Ytjlcbhblpofjhaa
open Go.RowKit
set_option maxRecDepth 100000
theorem num_ok (x : Int) (w : World) : Calls Try.prog 15 #[.int .i64 x] w (Same w (.int .i64 x)) := by
  go_enter Try.func15, Try.ntmps15
  go_wp2_with fail
  go_ret
  exact ⟨rfl, rfl⟩
def cmpK (a b : Int) : Int := if a < b then -1 else if b < a then 1 else 0
theorem byKey_ok (xk xw yk yw : Int) (w : World) : Calls Try.prog 14 #[.agg #[.int .i64 xk, .int .i64 xw], .agg #[.int .i64 yk, .int .i64 yw]] w (RetBelow w (.int .i64 (cmpK xk yk))) := by
  rcases Int.lt_trichotomy xk yk with h | h | h
  · have e : cmpK xk yk = -1 := if_pos h
    have t1 : decide (xk < yk) = true := decide_eq_true h
    rw [e]
    go_enter Try.func14, Try.ntmps14
    go_wp2_with fail
    go_ret
    exact ⟨rfl, ((Below.refl _ _).alloc (Nat.le_refl _) _).alloc (by simp) _⟩
  · subst h
    have e : cmpK xk xk = 0 := by unfold cmpK; rw [if_neg (Int.lt_irrefl _), if_neg (Int.lt_irrefl _)]
    have t1 : decide (xk < xk) = false := decide_eq_false (Int.lt_irrefl _)
    rw [e]
    go_enter Try.func14, Try.ntmps14
    go_wp2_with fail
    go_ret
    exact ⟨rfl, ((Below.refl _ _).alloc (Nat.le_refl _) _).alloc (by simp) _⟩
  · have e : cmpK xk yk = 1 := by unfold cmpK; rw [if_neg (by omega), if_pos h]
    have t1 : decide (xk < yk) = false := decide_eq_false (by omega)
    have t2 : decide (yk < xk) = true := decide_eq_true h
    rw [e]
    go_enter Try.func14, Try.ntmps14
    go_wp2_with fail
    go_ret
    exact ⟨rfl, ((Below.refl _ _).alloc (Nat.le_refl _) _).alloc (by simp) _⟩
theorem isNil_no (f : Nat) (cs : Array Value) (w : World) : Calls Try.prog 37 #[.func (.func f) #[] cs] w (Same w (.bool false)) := by
  have hrun : ∀ w, Sem.run Try.prog (binOp BinOp.eql 25 (Value.func (.func f) #[] cs) Value.nilFunc) w = .ok (.bool false) w := fun _ => by kernel_rfl
  go_enter Try.func37, Try.ntmps37
  go_wp2_with fail
  go_ret
  exact ⟨rfl, rfl⟩
theorem compared_live {σ : Type} {E : Env σ} {G : Geo} {busy : Bool} {w : World} {Y : Nat → Prop} {T : TS σ} (h : TreeAt E G busy w Y T) : Calls Try.prog 18 #[.pointer (some ⟨G.t, 0, none⟩)] w (Same w (.int .i64 (T.cmpd : Int))) := by
  have c9 := h.tree.cell 9 _ rfl
  have lt := h.tree.lt
  clear h
  go_enter Try.func18, Try.ntmps18
  go_wp2_with fail
  go_ret
  exact ⟨rfl, rfl⟩
theorem compared_dead {σ : Type} {E : Env σ} {G : Geo} {busy : Bool} {w : World} {Y : Nat → Prop} {er : Int} {f c : Nat} {s : σ} (h : DeadAt E G busy w Y er f c s) : Calls Try.prog 18 #[.pointer (some ⟨G.t, 0, none⟩)] w (Same w (.int .i64 (c : Int))) := by
  have c9 := h.c9
  have lt := h.lt
  clear h
  go_enter Try.func18, Try.ntmps18
  go_wp2_with fail
  go_ret
  exact ⟨rfl, rfl⟩
def ErrR (w : World) (f : Nat) (er : Int) (e : Ending) (w' : World) : Prop := e = .returned (.tuple #[.int .i64 (f : Int), .int .i64 er]) ∧ Below w.heap.size w w'
theorem err_live {σ : Type} {E : Env σ} {G : Geo} {busy : Bool} {w : World} {Y : Nat → Prop} {T : TS σ} (h : TreeAt E G busy w Y T) : Calls Try.prog 31 #[.pointer (some ⟨G.t, 0, none⟩)] w (ErrR w 0 0) := by
  have c10 := h.tree.cell 10 _ rfl
  have c11 := h.tree.cell 11 _ rfl
  have lt := h.tree.lt
  clear h
  go_enter Try.func31, Try.ntmps31
  go_wp2_with fail
  go_quiet (fail)
  go_wp2_with fail
  go_ret2
  exact ⟨rfl, below_drewN _ _⟩
theorem err_dead {σ : Type} {E : Env σ} {G : Geo} {busy : Bool} {w : World} {Y : Nat → Prop} {er : Int} {f c : Nat} {s : σ} (h : DeadAt E G busy w Y er f c s) : Calls Try.prog 31 #[.pointer (some ⟨G.t, 0, none⟩)] w (ErrR w f er) := by
  have c10 := h.c10
  have c11 := h.c11
  have lt := h.lt
  clear h
  go_enter Try.func31, Try.ntmps31
  go_wp2_with fail
  go_quiet (fail)
  go_wp2_with fail
  go_ret2
  exact ⟨rfl, below_drewN _ _⟩
/-- Sources in a row. -/
structure SrcRow (w : World) (v : Value) (n : Nat) (sF : Nat → Nat) (sC : Nat → Array Value) : Prop where
  form : ∃ a c, v = .slice a n c ∧ (0 < n → ∃ b, a = some ⟨b, 0, none⟩)
  lt : ∀ b n' c, v = .slice (some ⟨b, 0, none⟩) n' c → 0 < n → b < w.heap.size
  cell : ∀ b n' c, v = .slice (some ⟨b, 0, none⟩) n' c → ∀ i, i < n → w.cell? ⟨b, i, none⟩ = some (.func (.func (sF i)) #[] (sC i))
theorem SrcRow.below {w w' : World} {v : Value} {n : Nat} {sF : Nat → Nat} {sC : Nat → Array Value} (h : SrcRow w v n sF sC) (k : Below w.heap.size w w') : SrcRow w' v n sF sC :=
  ⟨h.form, fun b n' c e h0 => Nat.lt_of_lt_of_le (h.lt b n' c e h0) k.size, fun b n' c e i hi => ((bcell k).1 b i (h.lt b n' c e (by omega))).trans (h.cell b n' c e i hi)⟩
def IxR (w : World) (e : Ending) (w' : World) : Prop := e = .returned (.int .i64 (-1)) ∧ w = w'
def IxIn (n : Nat) (w : World) (i : Value) (wr : World) : Prop := ∃ k : Nat, k ≤ n ∧ i = .int .i64 (k : Int) ∧ wr = w
theorem index_ok {w : World} {v : Value} {n : Nat} {sF : Nat → Nat} {sC : Nat → Array Value} (h : SrcRow w v n sF sC) (hn : n < 4611686018427387904) : Calls Try.prog 48 #[v, .func (.func 37) #[] #[]] w (IxR w) := by
  obtain ⟨a, c, rfl, hb⟩ := h.form
  have HS := Lib.hid h
  have HB := Lib.hid hb
  clear h hb
  have n0 : (0 : Int) ≤ (n : Int) := by omega
  have n1 : (n : Int) < 4611686018427387904 := by omega
  go_enter Try.func48, Try.ntmps48
  go_wp2_with fail
  go_loopw [8] (fun i wr => IxIn n w i wr) (fun i _ => n - (intOf i).toNat)
  case atStart => exact ⟨0, by omega, rfl, rfl⟩
  case round =>
    obtain ⟨k, hk, rfl, rfl⟩ := hrel
    by_cases hlt : k < n
    · have t1 : decide ((k : Int) < (n : Int)) = true := decide_eq_true (by omega)
      have t1n : decide (k < n) = true := decide_eq_true hlt
      obtain ⟨b, rfl⟩ := HB.out (by omega)
      have cc := HS.out.cell b n c rfl k hlt
      have lb := HS.out.lt b n c rfl (by omega)
      have i1 : (k : Int) < (n : Int) := by omega
      have i2 : (0 : Int) ≤ (k : Int) := by omega
      have HK := Lib.hid hlt
      clear hlt hk
      go_wp2_with fail
      refine (isNil_no _ _ _).mono ?_
      rintro e w' ⟨rfl, rfl⟩
      go_wp2_with fail
      go_roundw
      case rel => exact ⟨k + 1, HK.out, by go_num, rfl⟩
      case measure => have := HK.out; simp [intOf]; omega
    · have t1 : decide ((k : Int) < (n : Int)) = false := decide_eq_false (by omega)
      have t1n : decide (k < n) = false := decide_eq_false hlt
      go_wp2_with fail
      go_ret
      exact ⟨rfl, rfl⟩
theorem contains_ok {w : World} {v : Value} {n : Nat} {sF : Nat → Nat} {sC : Nat → Array Value} (h : SrcRow w v n sF sC) (hn : n < 4611686018427387904) : Calls Try.prog 38 #[v, .func (.func 37) #[] #[]] w (Same w (.bool false)) := by
  have C := Lib.hid (index_ok h hn)
  clear h
  go_enter Try.func38, Try.ntmps38
  go_wp2_with fail
  refine C.out.mono ?_
  rintro e w' ⟨rfl, rfl⟩
  go_wp2_with fail
  go_ret
  exact ⟨rfl, rfl⟩
end Go.Proofs.Ytjlcbhblpofjhaa
