/- NumeralEmbedding: the walk. -/
import Derived.Test.YtpbbgmfjdachnaaDoorEmbOk
import Derived.Test.YtpbbgmfjdachnaaDoorAlive
import Derived.Test.YtpbbgmfjdachnaaDoorBegins
import Derived.Test.YtpbbgmfjdachnaaDoorBytes
namespace Go.Proofs.YtpbbgmfjdachnaaDoor
open Go.RowKit

theorem cmpL_less : ∀ (p : List UInt8) (u v : UInt8) (xs ys : List UInt8), u < v → cmpL (p ++ u :: xs) (p ++ v :: ys) = -1
  | [], u, v, xs, ys, h => by
    show cmpL (u :: xs) (v :: ys) = -1
    have h' := UInt8.lt_iff_toNat_lt.1 h
    have e : cmpI (u.toNat : Int) v.toNat = -1 := by unfold cmpI; rw [if_pos (by omega)]
    rw [cmpL_cons, e]; rfl
  | x :: p, u, v, xs, ys, h => by
    show cmpL (x :: (p ++ u :: xs)) (x :: (p ++ v :: ys)) = -1
    rw [cmpL_cons, cmpI_is.refl, thenC_zero, cmpL_less p u v xs ys h]
theorem Sep.cmp {c : Int} {x y : List UInt8} (h : Sep c x y) : cmpL x y = c := by
  rcases h with ⟨rfl, rfl⟩ | ⟨rfl, p, u, v, xs, ys, rfl, rfl, huv⟩ | ⟨rfl, p, u, v, xs, ys, rfl, rfl, huv⟩
  · exact cmpL_is.refl _
  · exact cmpL_less p u v xs ys huv
  · rw [cmpL_is.anti (p ++ v :: ys) (p ++ u :: xs), cmpL_less p v u ys xs huv]; rfl
theorem beg_not (p : List UInt8) (u v : UInt8) (xs ys : List UInt8) (h : u ≠ v) : begS (p ++ u :: xs) (p ++ v :: ys) = false := by
  unfold begS
  apply decide_eq_false
  intro e
  have e1 := congrArg (fun l : List UInt8 => l[p.length]?) e
  simp only [List.getElem?_take] at e1
  rw [if_pos (by simp), List.getElem?_append_right (Nat.le_refl _), List.getElem?_append_right (Nat.le_refl _)] at e1
  simp at e1
  exact h e1
theorem ne_at (p : List UInt8) (u v : UInt8) (xs ys : List UInt8) (h : u ≠ v) : p ++ u :: xs ≠ p ++ v :: ys := by
  intro e
  have := List.append_cancel_left e
  simp at this
  exact h this.1
theorem Sep.apart {c : Int} {x y : List UInt8} (h : Sep c x y) : (c = 0 ∧ x = y) ∨ (x ≠ y ∧ begS x y = false ∧ begS y x = false) := by
  rcases h with ⟨rfl, rfl⟩ | ⟨rfl, p, u, v, xs, ys, rfl, rfl, huv⟩ | ⟨rfl, p, u, v, xs, ys, rfl, rfl, huv⟩
  · exact Or.inl ⟨rfl, rfl⟩
  · have n : u ≠ v := fun e => by subst e; exact absurd huv (by rw [UInt8.lt_iff_toNat_lt]; omega)
    exact Or.inr ⟨ne_at p u v xs ys n, beg_not p u v xs ys n, beg_not p v u ys xs n.symm⟩
  · have n : u ≠ v := fun e => by subst e; exact absurd huv (by rw [UInt8.lt_iff_toNat_lt]; omega)
    exact Or.inr ⟨ne_at p u v xs ys n, beg_not p u v xs ys n, beg_not p v u ys xs n.symm⟩

theorem sep_embS (kind : Nat) (a b : ByteArray) (ha : a.size ≤ 10000000) (hb : b.size ≤ 10000000) : Sep (cmpS kind a.data.toList b.data.toList) (embS kind a.data.toList) (embS kind b.data.toList) := by
  unfold cmpS embS
  by_cases hn : kind = 16 ∨ kind = 32 ∨ kind = 64
  · rw [if_pos hn, if_pos hn, if_pos hn]
    exact sep_val (valS_full kind a ha).ok (valS_full kind b hb).ok
  · rw [if_neg hn, if_neg hn, if_neg hn]
    by_cases h1 : kind = 128
    · rw [if_pos h1, if_pos h1, if_pos h1]
      have m1 := monthS_le a.data.toList
      have m2 := monthS_le b.data.toList
      have s := Sep.byte (UInt8.ofNat (monthS a.data.toList)) (UInt8.ofNat (monthS b.data.toList))
      have e1 : (UInt8.ofNat (monthS a.data.toList)).toNat = monthS a.data.toList := by simp; omega
      have e2 : (UInt8.ofNat (monthS b.data.toList)).toNat = monthS b.data.toList := by simp; omega
      rw [e1, e2] at s
      exact s
    · rw [if_neg h1, if_neg h1, if_neg h1]
      by_cases h2 : kind = 256
      · rw [if_pos h2, if_pos h2, if_pos h2]
        have l1 : a.data.toList.length < 2 ^ 64 := by rw [← Lib.size_eq]; omega
        have l2 : b.data.toList.length < 2 ^ 64 := by rw [← Lib.size_eq]; omega
        exact sep_ver _ _ _ _ (Nat.le_refl _) (Nat.le_refl _) l1 l2
      · rw [if_neg h2, if_neg h2, if_neg h2]
        exact sep_esc _ _

theorem verL_len (n : Nat) : ∀ l : List UInt8, l.length ≤ n → (verL l).length ≤ 11 * l.length + 2 := by
  induction n with
  | zero =>
    intro l h
    have : l = [] := List.eq_nil_of_length_eq_zero (by omega)
    subst this; simp [verL_nil]
  | succ n ih =>
    intro l h
    by_cases e : l = []
    · subst e; simp [verL_nil]
    · have a := pairE_len l e
      have b := restOf_lt e
      have c := ih (restOf l) (by omega)
      rw [verL_cons e, List.length_append]
      omega
theorem valE_ne (h : Bool) (v : Val) : valE h v ≠ [] := by
  unfold valE
  split
  · simp
  · split <;> simp
theorem embS_ne (kind : Nat) (l : List UInt8) : embS kind l ≠ [] := by
  unfold embS
  split
  · exact valE_ne _ _
  · split
    · simp
    · split
      · cases l.length
        · simp [verN]
        · unfold verN
          split
          · simp
          · unfold pairE; simp
      · unfold escS; simp
theorem embS_len (kind : Nat) (s : ByteArray) (hs : s.size ≤ 10000000) : (embS kind s.data.toList).length ≤ 200000000 := by
  have hl : s.data.toList.length ≤ 10000000 := by rw [← Lib.size_eq]; exact hs
  have f := valS_full kind s hs
  have f1 := f.whole
  have f2 := f.frac
  have v1 := verL_len _ s.data.toList (Nat.le_refl _)
  have e1 := esc_len s.data.toList
  have sz : (sizeE (kind == 64) (valS kind s.data.toList)).length ≤ 30000000 := by
    unfold sizeE Val.digits
    split <;> (simp [beN_len]; omega)
  unfold embS
  split
  · unfold valE
    split
    · simp; omega
    · split
      · simp; omega
      · simp
  · split
    · simp
    · split
      · show (verL s.data.toList).length ≤ _
        omega
      · unfold escS
        rw [List.length_append]
        simp only [List.length_cons, List.length_nil]
        omega

set_option maxRecDepth 100000
set_option maxHeartbeats 1600000 in
theorem embedding_vals (kind : Nat) (a b X Y : ByteArray) (c : Int) (w : World) (T : Tabs w) (hX : X.data.toList ≠ []) (hY : Y.data.toList ≠ [])
    (E1 : Hid (∀ W, Tabs W → Calls Tryd.prog 24 #[.int .u16 kind, .string a] W (RetBelow W (.string X))))
    (E2 : Hid (∀ W, Tabs W → Calls Tryd.prog 24 #[.int .u16 kind, .string b] W (RetBelow W (.string Y))))
    (C1 : Hid (∀ W, Tabs W → Calls Tryd.prog 21 #[.int .u16 kind, .string a, .string b] W (RetBelow W (.int .i64 c))))
    (C2 : Hid (∀ W, Calls Tryd.prog 25 #[.string X, .string Y] W (RetBelow W (.int .i64 c))))
    (G : Hid (X = Y ∨ (X.data.toList ≠ Y.data.toList ∧ (∀ W, Calls Tryd.prog 18 #[.string X, .string Y] W (RetBelow W (.bool false))) ∧ (∀ W, Calls Tryd.prog 18 #[.string Y, .string X] W (RetBelow W (.bool false)))))) :
    Calls Tryd.prog 10 #[.int .u16 kind, .string a, .string b] w (RetBelow w (.bool true)) := by
  have HT := Lib.hid T
  clear T
  have nem : ∀ x : ByteArray, ¬ x.data.toList = [] → ¬ x.toList = [] ∧ x.toList.isEmpty = false := fun x h => by rw [Lib.toList_data]; exact ⟨h, by cases hx : x.data.toList <;> simp_all⟩
  obtain ⟨x1, x2⟩ := nem X hX
  obtain ⟨y1, y2⟩ := nem Y hY
  clear nem hX hY
  rcases G.out with h | ⟨h, D1, D2⟩
  · subst h
    clear G
    go_enter Tryd.func10, Tryd.ntmps10
    go_wp2_with fail
    refine (E1.out _ HT.out).mono ?_
    rintro e w1 ⟨rfl, hb1⟩
    have B1 := Lib.hid hb1
    clear hb1
    go_wp2_with fail
    refine (E2.out _ (HT.out.below B1.out)).mono ?_
    rintro e w2 ⟨rfl, hb2⟩
    have B2 := Lib.hid (B1.out.trans (hb2.mono B1.out.size))
    clear hb2
    go_wp2_with fail
    refine (alive_ok _ (HT.out.below B2.out)).mono ?_
    rintro e w3 ⟨rfl, hb3⟩
    have B3 := Lib.hid (B2.out.trans (hb3.mono B2.out.size))
    clear hb3
    go_wp2_with fail
    refine (C2.out _).mono ?_
    rintro e w4 ⟨rfl, hb4⟩
    have B4 := Lib.hid (B3.out.trans (hb4.mono B3.out.size))
    clear hb4
    go_wp2_with fail
    refine (C1.out _ (HT.out.below B4.out)).mono ?_
    rintro e w5 ⟨rfl, hb5⟩
    have B5 := Lib.hid (B4.out.trans (hb5.mono B4.out.size))
    clear hb5
    go_wp2_with fail
    go_ret
    exact ⟨rfl, B5.out⟩
  · have t1 : (X.toList == Y.toList) = false := by rw [Lib.toList_data, Lib.toList_data]; simpa using h
    have t2 : (X.toList != Y.toList) = true := by rw [Lib.toList_data, Lib.toList_data]; simpa using h
    have D1' := Lib.hid D1
    have D2' := Lib.hid D2
    clear G h D1 D2
    go_enter Tryd.func10, Tryd.ntmps10
    go_wp2_with fail
    refine (E1.out _ HT.out).mono ?_
    rintro e w1 ⟨rfl, hb1⟩
    have B1 := Lib.hid hb1
    clear hb1
    go_wp2_with fail
    refine (E2.out _ (HT.out.below B1.out)).mono ?_
    rintro e w2 ⟨rfl, hb2⟩
    have B2 := Lib.hid (B1.out.trans (hb2.mono B1.out.size))
    clear hb2
    go_wp2_with fail
    refine (alive_ok _ (HT.out.below B2.out)).mono ?_
    rintro e w3 ⟨rfl, hb3⟩
    have B3 := Lib.hid (B2.out.trans (hb3.mono B2.out.size))
    clear hb3
    go_wp2_with fail
    refine (D1'.out _).mono ?_
    rintro e w3 ⟨rfl, hb3⟩
    have BB3 := Lib.hid (B3.out.trans (hb3.mono B3.out.size))
    clear hb3
    go_wp2_with fail
    refine (D2'.out _).mono ?_
    rintro e w3 ⟨rfl, hb3⟩
    have BC3 := Lib.hid (BB3.out.trans (hb3.mono BB3.out.size))
    clear hb3
    go_wp2_with fail
    refine (C2.out _).mono ?_
    rintro e w4 ⟨rfl, hb4⟩
    have B4 := Lib.hid (BC3.out.trans (hb4.mono BC3.out.size))
    clear hb4
    go_wp2_with fail
    refine (C1.out _ (HT.out.below B4.out)).mono ?_
    rintro e w5 ⟨rfl, hb5⟩
    have B5 := Lib.hid (B4.out.trans (hb5.mono B4.out.size))
    clear hb5
    go_wp2_with fail
    go_ret
    exact ⟨rfl, B5.out⟩

theorem embedding_card (k : Int) (a b : ByteArray) (hk : 0 ≤ k ∧ k < 65536) (ha : a.size ≤ 10000000) (hb : b.size ≤ 10000000) (w : World) (T : Tabs w) :
    Calls Tryd.prog 10 #[.int .u16 k, .string a, .string b] w (RetBelow w (.bool true)) := by
  obtain ⟨kind, rfl⟩ : ∃ n : Nat, k = n := ⟨k.toNat, by omega⟩
  have s := sep_embS kind a b ha hb
  have la := embS_len kind a ha
  have lb := embS_len kind b hb
  have c2 := fun W => bytes_ok (bs (embS kind a.data.toList)) (bs (embS kind b.data.toList)) W (by rw [bs_size]; omega) (by rw [bs_size]; omega)
  rw [bs_list, bs_list, s.cmp] at c2
  refine embedding_vals kind a b (bs (embS kind a.data.toList)) (bs (embS kind b.data.toList)) (cmpS kind a.data.toList b.data.toList) w T (by rw [bs_list]; exact embS_ne _ _) (by rw [bs_list]; exact embS_ne _ _)
    (Lib.hid fun W hT => embed_ok kind a W ha hT) (Lib.hid fun W hT => embed_ok kind b W hb hT) (Lib.hid fun W hT => compare_ok kind a b W (by omega) (by omega) hT) (Lib.hid c2) (Lib.hid ?_)
  rcases s.apart with ⟨_, e⟩ | ⟨e1, e2, e3⟩
  · exact Or.inl (by rw [e])
  · refine Or.inr ⟨by rw [bs_list, bs_list]; exact e1, fun W => ?_, fun W => ?_⟩
    · have := bgs_ok (bs (embS kind a.data.toList)) (bs (embS kind b.data.toList)) W
      rw [bs_list, bs_list, e2] at this
      exact this
    · have := bgs_ok (bs (embS kind b.data.toList)) (bs (embS kind a.data.toList)) W
      rw [bs_list, bs_list, e3] at this
      exact this
end Go.Proofs.YtpbbgmfjdachnaaDoor
