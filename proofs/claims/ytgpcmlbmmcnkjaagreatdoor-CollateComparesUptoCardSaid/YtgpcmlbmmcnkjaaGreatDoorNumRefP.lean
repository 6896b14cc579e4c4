/- What the document's side of numbers rests on. -/
import Derived.Test.YtgpcmlbmmcnkjaaGreatDoorNumCompare
import Derived.Lib.SmallJoins
import Derived.Deep.RegionHeld3
namespace Go.Proofs.YtgpcmlbmmcnkjaaGreatDoor.Num
section
theorem isDig_iff {c : UInt8} : isDig c = true ↔ 48 ≤ c.toNat ∧ c.toNat ≤ 57 := by
  unfold isDig; simp
theorem trimL_eq (l : List UInt8) : trimL l = l.dropWhile (· == 48) := by
  unfold trimL Lib.trimLeftS
  congr 1; funext c; simp; rfl
theorem trimR_eq (l : List UInt8) : trimR l = (l.reverse.dropWhile (· == 48)).reverse := by
  unfold trimR Lib.trimRightS
  congr 2; funext c; simp; rfl
theorem dropZeros (l : List UInt8) : ∀ z, (List.replicate z (48 : UInt8) ++ l).dropWhile (· == 48) = l.dropWhile (· == 48)
  | 0 => by simp
  | z + 1 => by
    simp [List.replicate_succ, dropZeros l z]
theorem trimR_nil : trimR [] = [] := rfl
theorem trimR_cons (x : UInt8) (l : List UInt8) : trimR (x :: l) = if trimR l = [] ∧ x = 48 then [] else x :: trimR l := by
  rw [trimR_eq, trimR_eq, List.reverse_cons, List.dropWhile_append]
  by_cases h : (l.reverse.dropWhile (· == 48)) = []
  · rw [h]
    by_cases k : x = 48
    · subst k; simp [List.dropWhile]
    · have e : (x == 48) = false := by simpa using k
      simp [List.dropWhile, e, k]
  · have : (l.reverse.dropWhile (· == 48)).isEmpty = false := by
      cases hh : l.reverse.dropWhile (· == 48) with
      | nil => exact absurd hh h
      | cons _ _ => rfl
    rw [this]
    simp [h]
theorem trimR_none {l : List UInt8} (h : trimR l = []) : ∀ x ∈ l, x = 48 := by
  induction l with
  | nil => intro x hx; simp at hx
  | cons y r ih =>
    rw [trimR_cons] at h
    by_cases k : trimR r = [] ∧ y = 48
    · intro x hx
      rcases List.mem_cons.1 hx with e | e
      · rw [e]; exact k.2
      · exact ih k.1 x e
    · rw [if_neg k] at h; cases h
end
section
theorem trimR_trimL {D : List UInt8} (h : trimR (trimL D) = []) : trimL D = [] := by
  cases hh : trimL D with
  | nil => rfl
  | cons c r =>
    rw [hh] at h
    have hc : c = 48 := trimR_none h c (List.mem_cons_self ..)
    rw [trimL_eq] at hh
    have := List.head?_dropWhile_not (· == (48 : UInt8)) D
    rw [hh] at this
    simp [hc] at this
end
section
theorem cmpI_shift (a b c : Int) : cmpI (a + c) (b + c) = cmpI a b := by
  unfold cmpI
  by_cases c1 : a < b
  · rw [if_pos (by omega), if_pos c1]
  · rw [if_neg (by omega), if_neg c1]
    by_cases c2 : b < a
    · rw [if_pos (by omega), if_pos c2]
    · rw [if_neg (by omega), if_neg c2]
end
section
open Go.RowKit

/-- The digits of a number above 0; of 0 none. -/
def dgs (m : Nat) : List UInt8 := if _h : m = 0 then [] else dgs (m / 10) ++ [48 + UInt8.ofNat (m % 10)]
termination_by m
decreasing_by omega
theorem dgs_zero : dgs 0 = [] := by rw [dgs]; simp
theorem dgs_pos {m : Nat} (h : m ≠ 0) : dgs m = dgs (m / 10) ++ [48 + UInt8.ofNat (m % 10)] := by
  conv => lhs; rw [dgs]
  simp [h]
/-- A whole number's digits; of 0 one. -/
def dg (m : Nat) : List UInt8 := if m = 0 then [48] else dgs m
/-- Between two rounds: the digits that are there, and the number that is left. -/
def WrD (M k : Nat) (l : List UInt8) : Prop := k < 2 ^ 62 ∧ ((l = [] ∧ k = M) ∨ (l ≠ [] ∧ dgs k ++ l = dg M))
theorem WrD.step {M k : Nat} {l : List UInt8} (h : WrD M k l) (c : 0 < k ∨ l = []) : WrD M (k / 10) ((48 + UInt8.ofNat (k % 10)) :: l) := by
  refine ⟨by have := h.1; omega, Or.inr ⟨by simp, ?_⟩⟩
  by_cases e : k = 0
  · subst e
    rcases h.2 with ⟨rfl, rfl⟩ | ⟨h1, h2⟩
    · simp [dgs_zero, dg]
    · rcases c with c | c
      · omega
      · exact absurd c h1
  · have e1 : dgs (k / 10) ++ (48 + UInt8.ofNat (k % 10)) :: l = dgs k ++ l := by rw [dgs_pos e]; simp
    rw [e1]
    rcases h.2 with ⟨rfl, rfl⟩ | ⟨h1, h2⟩
    · simp [dg, e]
    · exact h2
theorem WrD.nil {M : Nat} (h : WrD M 0 []) : WrD M 0 ([48] ++ []) := by
  have := h.step (Or.inr rfl)
  simpa using this
theorem bs_cat (a b : List UInt8) : bs a ++ bs b = bs (a ++ b) := by
  apply ByteArray.ext; simp [bs]

set_option maxRecDepth 100000
end
section
open Go.RowKit

structure PartsOk (n : Nat) (h : Hd) : Prop where
  wl : h.whole.length ≤ n
  fl : h.frac.length ≤ n
  wd : ∀ x ∈ h.whole, isDig x = true
  fd : ∀ x ∈ h.frac, isDig x = true
theorem fracS_ok (r : List UInt8) : (fracS r).length ≤ r.length ∧ ∀ x ∈ fracS r, isDig x = true := by
  unfold fracS
  split
  · refine ⟨?_, fun x hx => mem_takeWhile hx⟩
    have := (List.takeWhile_sublist (l := r.drop 1) isDig).length_le
    rw [List.length_drop] at this
    exact Nat.le_trans this (by omega)
  · simp
theorem numberS_ok (r1 : List UInt8) (g neg : Bool) (base : Nat) : PartsOk r1.length (numberS r1 g neg base) := by
  have a1 := (List.takeWhile_sublist (l := r1) isDig).length_le
  have a2 := fracS_ok (r1.dropWhile isDig)
  have a3 := (List.dropWhile_sublist (l := r1) isDig).length_le
  have m : ∀ c : Prop, [Decidable c] → ∀ x y : Hd, PartsOk r1.length x → PartsOk r1.length y → PartsOk r1.length (if c then x else y) := fun c _ x y hx hy => by
    split
    · exact hx
    · exact hy
  unfold numberS
  exact m _ _ _ ⟨by simp [Hd.none], by simp [Hd.none], by simp [Hd.none], by simp [Hd.none]⟩ (m _ _ _ ⟨a1, Nat.le_trans a2.1 a3, fun x hx => mem_takeWhile hx, a2.2⟩ ⟨a1, Nat.le_trans a2.1 a3, fun x hx => mem_takeWhile hx, a2.2⟩)
theorem PartsOk.mono {n m : Nat} {h : Hd} (k : PartsOk n h) (hm : n ≤ m) : PartsOk m h := ⟨Nat.le_trans k.wl hm, Nat.le_trans k.fl hm, k.wd, k.fd⟩
theorem scanS_parts (l : List UInt8) (g : Bool) : PartsOk l.length (scanS l g) := by
  unfold scanS
  simp only
  split
  · exact ⟨by simp, by simp, by simp, by simp⟩
  · exact (numberS_ok _ _ _ _).mono (by rw [List.length_drop, List.length_drop]; omega)
theorem mem_trimL {l : List UInt8} {x : UInt8} (h : x ∈ trimL l) : x ∈ l := by
  rw [trimL_eq] at h
  exact (List.dropWhile_sublist _).subset h
theorem mem_trimR {l : List UInt8} {x : UInt8} (h : x ∈ trimR l) : x ∈ l := by
  rw [trimR_eq] at h
  have := List.mem_reverse.1 h
  exact List.mem_reverse.1 ((List.dropWhile_sublist _).subset this)
theorem mem_numW {h : Hd} {x : UInt8} (k : x ∈ numW h) : x ∈ h.whole := by
  unfold numW at k
  by_cases c : (if trimL h.whole = [] then trimL (trimR h.frac) else trimR h.frac) = []
  · rw [if_pos c] at k
    exact mem_trimL (mem_trimR k)
  · rw [if_neg c] at k
    exact mem_trimL k
theorem mem_numF {h : Hd} {x : UInt8} (k : x ∈ numF h) : x ∈ h.frac := by
  unfold numF at k
  split at k
  · exact mem_trimR (mem_trimL k)
  · exact mem_trimR k
theorem rankOf_le (c : UInt8) : rankOf c ≤ 10 := by
  unfold rankOf
  repeat' split
  all_goals omega
theorem sufS_le (h : Hd) (l : List UInt8) : sufS h l ≤ 10 := by
  unfold sufS
  split
  · omega
  · exact rankOf_le _
end
section
theorem trimR_idem (l : List UInt8) : trimR (trimR l) = trimR l := by
  rw [trimR_eq, trimR_eq, List.reverse_reverse]
  congr 1
  induction l.reverse with
  | nil => rfl
  | cons x r ih =>
    rw [List.dropWhile_cons]
    split
    · exact ih
    · rename_i h
      rw [List.dropWhile_cons, if_neg h]
theorem trimL_all : ∀ {l : List UInt8}, trimL l = [] → ∀ x ∈ l, x = 48 := by
  intro l
  rw [trimL_eq]
  induction l with
  | nil => intro _ x hx; cases hx
  | cons y r ih =>
    intro h x hx
    rw [List.dropWhile_cons] at h
    split at h
    · rename_i hy
      rcases List.mem_cons.1 hx with rfl | hx
      · simpa using hy
      · exact ih h x hx
    · cases h
theorem trimL_of : ∀ {l : List UInt8}, (∀ x ∈ l, x = 48) → l.dropWhile (· == 48) = []
  | [], _ => rfl
  | y :: r, h => by
    rw [List.dropWhile_cons, if_pos (by rw [h y (List.mem_cons_self ..)]; rfl)]
    exact trimL_of fun x hx => h x (List.mem_cons_of_mem _ hx)
theorem trimR_all {l : List UInt8} (h : ∀ x ∈ l, x = 48) : trimR l = [] := by
  rw [trimR_eq, trimL_of fun x hx => h x (by simpa using hx)]; rfl
theorem trimLR_nil {l : List UInt8} (h : trimL (trimR l) = []) : trimR l = [] := by
  rw [← trimR_idem]
  exact trimR_all (trimL_all h)
theorem trimR_more (l : List UInt8) (k : Nat) : trimR (l ++ List.replicate k 48) = trimR l := by
  rw [trimR_eq, trimR_eq, List.reverse_append, List.reverse_replicate, dropZeros]
theorem trimR_split (l : List UInt8) : ∃ j, l = trimR l ++ List.replicate j 48 := by
  induction l with
  | nil => exact ⟨0, rfl⟩
  | cons x r ih =>
    obtain ⟨j, hj⟩ := ih
    rw [trimR_cons]
    split
    · rename_i h
      rw [h.1] at hj
      exact ⟨j + 1, by rw [hj, h.2]; rfl⟩
    · exact ⟨j, by rw [List.cons_append, ← hj]⟩
end
section
open Go.RowKit

/-- The number of n that a head tells: its sign, and its two pieces. -/
def decNeg (h : Hd) : Bool := h.neg && !(decide (numD h = []))
def decV (h : Hd) : Value := .agg #[.bool (decNeg h), .string (bs (trimL h.whole)), .string (bs (trimR h.frac)), .int .i64 h.size]
end
section
open Go.RowKit

set_option maxRecDepth 100000
/-- What General tells of a head. -/
def genV (h : Hd) : Value :=
  if numD h = [] then .agg #[.int .u8 h.cls, .bool false, .string ⟨#[]⟩, .int .i64 0, .int .i64 h.size]
  else .agg #[.int .u8 h.cls, .bool h.neg, .string (bs (numD h)), .int .i64 (numE h), .int .i64 h.size]
end
section
open Go.RowKit

theorem ints_ok (x y : Int) (w : World) : Calls Tryz.prog 64 #[.int .i64 x, .int .i64 y] w fun e w' => e = .returned (.int .i64 (cmpI x y)) ∧ w = w' := by
  by_cases h : x < y
  · have t1 : decide (x < y) = true := by simpa using h
    have e : cmpI x y = -1 := by unfold cmpI; rw [if_pos h]
    rw [e]
    clear h e
    go_enter Tryz.func64, Tryz.ntmps64
    go_wp2_with fail
    go_ret
    exact ⟨rfl, rfl⟩
  · have t1 : decide (x < y) = false := by simpa using h
    by_cases h2 : y < x
    · have t2 : decide (y < x) = true := by simpa using h2
      have e : cmpI x y = 1 := by unfold cmpI; rw [if_neg h, if_pos h2]
      rw [e]
      clear h h2 e
      go_enter Tryz.func64, Tryz.ntmps64
      go_wp2_with fail
      go_ret
      exact ⟨rfl, rfl⟩
    · have t2 : decide (y < x) = false := by simpa using h2
      have e : cmpI x y = 0 := by unfold cmpI; rw [if_neg h, if_neg h2]
      rw [e]
      clear h h2 e
      go_enter Tryz.func64, Tryz.ntmps64
      go_wp2_with fail
      go_ret
      exact ⟨rfl, rfl⟩

theorem bdrewB {B : Nat} {a w : World} (h : Below B a w) (n : Nat) : Below B a (w.drewN n) := ⟨h.os, h.tape, h.output, h.size, h.block⟩
theorem wrap_byte (c : UInt8) : IntKind.i64.wrap (c.toNat : Int) = c.toNat := by have := c.toNat_lt; rw [IntKind.wrap_i64]; omega
theorem drop_at (s : ByteArray) (k : Nat) (h : k < s.size) : s.data.toList.drop k = s[k] :: s.data.toList.drop (k + 1) := by
  have hl : k < s.data.toList.length := by rw [← Lib.size_eq]; exact h
  rw [List.drop_eq_getElem_cons hl]
  rfl
theorem cmpL_end (A B : List UInt8) (h : A = [] ∨ B = []) : cmpL A B = cmpI A.length B.length := by
  rcases h with rfl | rfl
  · cases B with
    | nil => rfl
    | cons y b => rw [cmpL_left]; unfold cmpI; simp only [List.length_nil, List.length_cons]; split <;> omega
  · cases A with
    | nil => rfl
    | cons y b => rw [cmpL_right]; unfold cmpI; simp only [List.length_nil, List.length_cons]; split <;> (try split) <;> omega

theorem cmpL_stop (a b : ByteArray) (k : Nat) (h1 : k ≤ a.size) (h2 : k ≤ b.size) (h : k = a.size ∨ k = b.size) :
    cmpL (a.data.toList.drop k) (b.data.toList.drop k) = cmpI a.size b.size := by
  have la := Lib.size_eq a
  have lb := Lib.size_eq b
  rw [cmpL_end _ _ (h.elim (fun e => Or.inl (List.drop_eq_nil_of_le (by omega))) (fun e => Or.inr (List.drop_eq_nil_of_le (by omega)))), List.length_drop, List.length_drop, ← la, ← lb]
  unfold cmpI
  split <;> split <;> (try split) <;> (try split) <;> omega

set_option maxRecDepth 100000
theorem bytes_ok (a b : ByteArray) (w : World) (ha : a.size ≤ 140737488351232) (hb : b.size ≤ 140737488351232) :
    Calls Tryz.prog 68 #[.string a, .string b] w (RetBelow w (.int .i64 (cmpL a.data.toList b.data.toList))) := by
  go_enter Tryz.func68, Tryz.ntmps68
  go_wp2_with fail
  go_loopw [5] (fun i wr => ∃ k : Nat, k ≤ a.size ∧ k ≤ b.size ∧ i = .int .i64 k ∧ Below w.heap.size w wr ∧ cmpL a.data.toList b.data.toList = cmpL (a.data.toList.drop k) (b.data.toList.drop k)) (fun i _ => a.size - (intOf i).toNat)
  case atStart => exact ⟨0, by omega, by omega, rfl, Below.refl _ _, rfl⟩
  case round =>
    obtain ⟨k, hk, hk2, rfl, hbl, heq⟩ := hrel
    have HB := Lib.hid hbl
    have HE := Lib.hid heq
    clear hbl heq
    by_cases h1 : k < a.size
    · by_cases h2 : k < b.size
      · have t1 : decide (k < a.size) = true := by simpa using h1
        have t2 : decide (k < b.size) = true := by simpa using h2
        have hd : cmpL (a.data.toList.drop k) (b.data.toList.drop k) = thenC (cmpI a[k].toNat b[k].toNat) (cmpL (a.data.toList.drop (k + 1)) (b.data.toList.drop (k + 1))) := by rw [drop_at a k h1, drop_at b k h2, cmpL_cons]
        have HD := Lib.hid hd
        clear hd
        by_cases hz : a[k] = b[k]
        · have t3 : ((a[k].toNat : Int) != b[k].toNat) = false := by rw [hz]; simp
          have HZ := Lib.hid hz
          have HZ2 := Lib.hid (show cmpI (a[k].toNat : Int) (b[k].toNat : Int) = 0 by rw [hz]; unfold cmpI; simp)
          clear hz
          go_wp2_with fail
          go_quiet (fail)
          go_wp2_with fail
          go_roundw
          case rel => exact ⟨k + 1, by omega, by omega, by go_num, bdrewB HB.out _, by rw [HE.out, HD.out, HZ2.out, thenC_zero]⟩
          case measure => simp [intOf]; omega
        · have t3 : ((a[k].toNat : Int) != b[k].toNat) = true := by
            simp only [bne_iff_ne, ne_eq]
            intro e
            exact hz (UInt8.toNat_inj.mp (by omega))
          have HZ2 := Lib.hid (show cmpI (a[k].toNat : Int) (b[k].toNat : Int) ≠ 0 by
            intro h
            have := cmpI_zero h
            exact hz (UInt8.toNat_inj.mp (by omega)))
          clear hz
          have HI := Lib.hid (fun w => ints_ok (a[k].toNat : Int) (b[k].toNat : Int) w)
          have hwa := wrap_byte a[k]
          have hwb := wrap_byte b[k]
          go_wp2_with fail
          go_quiet (fail)
          go_wp2_with fail
          have HB9 := Lib.hid (bdrewB HB.out nq)
          generalize wr.drewN nq = w9 at *
          go_quiet ((go_at_call 64; exact Calls.quiet_of_same ((HI.out _).mono fun _ _ h => ⟨h.1, h.2.symm⟩)))
          go_wp2_with fail
          go_ret
          refine ⟨?_, bdrewB HB9.out _⟩
          rw [HE.out, HD.out, thenC_ne HZ2.out]; rfl
      · have t1 : decide (k < b.size) = false := by simpa using h2
        have E := Lib.hid (show cmpL (a.data.toList.drop k) (b.data.toList.drop k) = cmpI a.size b.size by
          have e : k = b.size := by omega
          exact cmpL_stop a b k hk hk2 (Or.inr e))
        go_wp2_with fail
        refine (ints_ok _ _ _).mono ?_
        rintro e w2 ⟨rfl, rfl⟩
        go_wp2_with fail
        go_ret
        exact ⟨by rw [HE.out, E.out]; rfl, HB.out⟩
    · have t1 : decide (k < a.size) = false := by simpa using h1
      have E := Lib.hid (show cmpL (a.data.toList.drop k) (b.data.toList.drop k) = cmpI a.size b.size by
        have e : k = a.size := by omega
        exact cmpL_stop a b k hk hk2 (Or.inl e))
      go_wp2_with fail
      refine (ints_ok _ _ _).mono ?_
      rintro e w2 ⟨rfl, rfl⟩
      go_wp2_with fail
      go_ret
      exact ⟨by rw [HE.out, E.out]; rfl, HB.out⟩
end
end Go.Proofs.YtgpcmlbmmcnkjaaGreatDoor.Num
