/- The document's answer for numbers: General is the program's. -/
import Derived.Test.YtpbbgmfjdachnaaDoorRefY
import Derived.Test.YtpbbgmfjdachnaaDoorAlive
namespace Go.Proofs.YtpbbgmfjdachnaaDoor
open Go.RowKit

theorem trimL_cons (x : UInt8) (l : List UInt8) : trimL (x :: l) = if x = 48 then trimL l else x :: l := by
  rw [trimL_eq, trimL_eq]
  by_cases h : x = 48
  · rw [if_pos h, List.dropWhile_cons_of_pos (by simpa using h)]
  · rw [if_neg h, List.dropWhile_cons_of_neg (by simpa using h)]
theorem trimL_nil : trimL [] = [] := rfl
theorem trim_comm : ∀ l : List UInt8, trimR (trimL l) = trimL (trimR l)
  | [] => rfl
  | x :: l => by
    rw [trimL_cons, trimR_cons]
    by_cases h : x = 48
    · rw [if_pos h, trim_comm l]
      by_cases k : trimR l = []
      · rw [if_pos ⟨k, h⟩, k]
      · rw [if_neg (fun z => k z.1), trimL_cons, if_pos h]
    · rw [if_neg h, if_neg (fun z => h z.2), trimL_cons, if_neg h, trimR_cons, if_neg (fun z => h z.2)]
theorem trimR_app : ∀ (a b : List UInt8), trimR (a ++ b) = if trimR b = [] then trimR a else a ++ trimR b
  | [], b => by
    rw [trimR_nil, List.nil_append]
    split
    · assumption
    · rfl
  | x :: a, b => by
    rw [List.cons_append, trimR_cons, trimR_app a b]
    by_cases k : trimR b = []
    · simp only [if_pos k]; rw [trimR_cons]
    · simp only [if_neg k]
      rw [if_neg (fun z => k (List.append_eq_nil_iff.1 z.1).2)]
      rfl
theorem trimL_app : ∀ (a b : List UInt8), trimL (a ++ b) = if trimL a = [] then trimL b else trimL a ++ b
  | [], b => by rw [trimL_nil, if_pos rfl]; rfl
  | x :: a, b => by
    rw [List.cons_append, trimL_cons, trimL_cons]
    by_cases h : x = 48
    · simp only [if_pos h]; exact trimL_app a b
    · simp only [if_neg h]
      rw [if_neg (by simp)]
      rfl
theorem len_trimL (l : List UInt8) : (trimL l).length + spanN isZero l = l.length := by
  rw [← trimL_span, List.length_drop]
  have := spanN_le isZero l
  omega
theorem spanZ_app : ∀ (a b : List UInt8), spanN isZero (a ++ b) = if trimL a = [] then a.length + spanN isZero b else spanN isZero a
  | a, b => by
    have h1 := len_trimL (a ++ b)
    rw [trimL_app] at h1
    have h2 := len_trimL a
    have h3 := len_trimL b
    rw [List.length_append] at h1
    by_cases h : trimL a = []
    · rw [if_pos h] at h1 ⊢
      omega
    · rw [if_neg h, List.length_append] at h1
      rw [if_neg h]
      omega
theorem num_digits (c : Nat) (neg : Bool) (W F : List UInt8) (e : Int) (sz : Nat) : numD ⟨c, neg, W, F, e, sz⟩ = trimR (trimL (W ++ F)) := by
  unfold numD numW numF
  simp only
  rw [trimL_app]
  by_cases h : trimL W = []
  · simp only [h, if_true]
    rw [trim_comm F]
    split <;> rfl
  · simp only [if_neg h]
    rw [trimR_app]
    by_cases k : trimR F = []
    · rw [if_pos k, if_pos k, k, List.append_nil]
    · rw [if_neg k, if_neg k]
theorem num_exp (c : Nat) (neg : Bool) (W F : List UInt8) (e : Int) (sz : Nat) (hne : trimR (trimL (W ++ F)) ≠ []) : numE ⟨c, neg, W, F, e, sz⟩ = (W.length + e) - spanN isZero (W ++ F) := by
  unfold numE
  simp only
  rw [spanZ_app]
  have h1 := len_trimL W
  by_cases h : trimL W = []
  · rw [if_pos h, if_pos h]
    rw [trimL_app, if_pos h, trim_comm] at hne
    have h2 := len_trimL (trimR F)
    obtain ⟨j, hj⟩ := trimR_split F
    have h3 := spanZ_app (trimR F) (List.replicate j 48)
    rw [← hj, if_neg hne] at h3
    omega
  · rw [if_neg h, if_neg h]
    omega
theorem word_nan {l : List UInt8} (neg : Bool) (h : begW wNan l = true) : wordS l neg = (1, 3) := by
  cases l with
  | nil => cases h
  | cons x l =>
    have hx : (x ||| 32 == 110) = true := by
      have : ((x ||| 32 == 110) && begW [97, 110] l) = true := h
      exact (Bool.and_eq_true _ _ ▸ this).1
    have h1 : begB (x :: l) wInfinity = false := by
      show ((x ||| 32 == 105) && begW [110, 102, 105, 110, 105, 116, 121] l) = false
      rw [eq_of_beq hx]; rfl
    have h2 : begB (x :: l) wInf = false := by
      show ((x ||| 32 == 105) && begW [110, 102] l) = false
      rw [eq_of_beq hx]; rfl
    unfold wordS
    rw [h1, h2, show begB (x :: l) wNan = true from h]
    rfl
theorem inf_of {l : List UInt8} (h : begW wInfinity l = true) : begW wInf l = true := by
  match l, h with
  | x :: y :: z :: r, h =>
    have h' : ((x ||| 32 == 105) && ((y ||| 32 == 110) && ((z ||| 32 == 102) && begW [105, 110, 105, 116, 121] r))) = true := h
    simp only [Bool.and_eq_true] at h'
    show ((x ||| 32 == 105) && ((y ||| 32 == 110) && ((z ||| 32 == 102) && true))) = true
    rw [h'.1, h'.2.1, h'.2.2.1]; rfl
  | [], h => cases h
  | [x], h =>
    have h' : ((x ||| 32 == 105) && false) = true := h
    simp at h'
  | [x, y], h =>
    have h' : ((x ||| 32 == 105) && ((y ||| 32 == 110) && false)) = true := h
    simp at h'
theorem word_inf {l : List UInt8} (neg : Bool) (h1 : begW wInf l = true) (h2 : begW wInfinity l = false) : wordS l neg = (if neg then 2 else 4, 3) := by
  unfold wordS
  rw [show begB l wInfinity = false from h2, show begB l wInf = true from h1]
  rfl
theorem word_infinity {l : List UInt8} (neg : Bool) (h2 : begW wInfinity l = true) : wordS l neg = (if neg then 2 else 4, 8) := by
  unfold wordS
  rw [show begB l wInfinity = true from h2]
  rfl
theorem word_no {l : List UInt8} (neg : Bool) (h0 : begW wNan l = false) (h1 : begW wInf l = false) : wordS l neg = (0, 0) := by
  have h2 : begW wInfinity l = false := by
    cases h : begW wInfinity l with
    | false => rfl
    | true => rw [inf_of h] at h1; cases h1
  unfold wordS
  rw [show begB l wInfinity = false from h2, show begB l wInf = false from h1, show begB l wNan = false from h0]
  rfl
theorem genV_word (c sz : Nat) : genV ⟨c, false, [], [], 0, sz⟩ = .agg #[.int .u8 c, .bool false, .string ⟨#[]⟩, .int .i64 0, .int .i64 sz] := by
  unfold genV
  rw [if_pos (by rw [num_digits]; rfl)]
theorem genV_num (neg : Bool) (W F : List UInt8) (e : Int) (sz : Nat) :
    genV ⟨3, neg, W, F, e, sz⟩ = if trimR (trimL (W ++ F)) = [] then .agg #[.int .u8 3, .bool false, .string ⟨#[]⟩, .int .i64 0, .int .i64 sz]
      else .agg #[.int .u8 3, .bool neg, .string (bs (trimR (trimL (W ++ F)))), .int .i64 ((W.length + e) - spanN isZero (W ++ F)), .int .i64 sz] := by
  unfold genV
  rw [num_digits]
  by_cases h : trimR (trimL (W ++ F)) = []
  · rw [if_pos h, if_pos h]; rfl
  · rw [if_neg h, if_neg h, num_exp _ _ _ _ _ _ h]; rfl
theorem expS_rng (l : List UInt8) : -1099511627776 ≤ (expS l).1 ∧ (expS l).1 ≤ 1099511627776 := by
  unfold expS
  have hs : ∀ r, satS 0 r ≤ 1099511627776 := fun r => by rw [satS_min]; omega
  split
  · split
    · exact ⟨by show (-1099511627776 : Int) ≤ 0; omega, by show (0 : Int) ≤ _; omega⟩
    · split
      · have := hs ((l.drop (1 + expSg l)).takeWhile isDig); exact ⟨by show (-1099511627776 : Int) ≤ - (_ : Int); omega, by show - (_ : Int) ≤ _; omega⟩
      · have := hs ((l.drop (1 + expSg l)).takeWhile isDig); exact ⟨by show (-1099511627776 : Int) ≤ (_ : Int); omega, by show (_ : Int) ≤ _; omega⟩
  · exact ⟨by show (-1099511627776 : Int) ≤ 0; omega, by show (0 : Int) ≤ _; omega⟩
theorem scan_true (l : List UInt8) (b sg : Nat) (hb : b = spanN isBlank l) (hsg : sg = signN (l.drop b) true) (neg : Bool) (hn : neg = (atB (l.drop b) 0 == 45)) :
    scanS l true = if 0 < (wordS (l.drop (b + sg)) neg).2 then ⟨(wordS (l.drop (b + sg)) neg).1, false, [], [], 0, b + sg + (wordS (l.drop (b + sg)) neg).2⟩ else numberS (l.drop (b + sg)) true neg (b + sg) := by
  subst hb hsg hn
  unfold scanS
  simp only [Bool.true_and, decide_eq_true_eq, List.drop_drop]
theorem number_true (l : List UInt8) (i : Nat) (neg : Bool) : numberS (l.drop i) true neg i = if plW (l.drop i) ++ plF (l.drop i) = [] then Hd.none
    else ⟨3, neg, plW (l.drop i), plF (l.drop i), (expS (l.drop (i + plN (l.drop i)))).1, i + plN (l.drop i) + (expS (l.drop (i + plN (l.drop i)))).2⟩ := by
  have e1 : ((l.drop i).dropWhile isDig).drop (fracN ((l.drop i).dropWhile isDig)) = l.drop (i + plN (l.drop i)) := by
    rw [dw_at, List.drop_drop]
    congr 1
    unfold plN
    rw [dw_at]
    omega
  unfold numberS
  rw [e1]
  have e4 : ((l.drop i).takeWhile isDig = [] ∧ fracS ((l.drop i).dropWhile isDig) = []) ↔ plW (l.drop i) ++ plF (l.drop i) = [] := by
    unfold plW plF
    rw [List.append_eq_nil_iff]
  by_cases h : plW (l.drop i) ++ plF (l.drop i) = []
  · rw [if_pos (e4.2 h), if_pos h]
  · rw [if_neg (fun k => h (e4.1 k)), if_neg h]
    show (⟨3, neg, _, _, _, i + spanN isDig (l.drop i) + fracN ((l.drop i).dropWhile isDig) + _⟩ : Hd) = _
    unfold plN
    rw [Nat.add_assoc i]
    rfl
theorem pl_lens (l : List UInt8) (i : Nat) (hi : i ≤ l.length) : (plW (l.drop i)).length + (plF (l.drop i)).length ≤ l.length ∧ i + plN (l.drop i) ≤ l.length := by
  have h1 := (fracJ ((l.drop i).dropWhile isDig))
  have h2 := congrArg List.length (List.takeWhile_append_dropWhile (p := isDig) (l := l.drop i))
  rw [List.length_append, List.length_drop] at h2
  unfold plW plF plN
  unfold spanN
  omega
theorem sign_at (s : ByteArray) (b : Nat) : signN (s.data.toList.drop b) true = if atB s.data.toList b == 45 || atB s.data.toList b == 43 then 1 else 0 := by
  unfold signN
  rw [atB_drop]
  simp

theorem generalR_ok (s : ByteArray) (w : World) (hs : s.size ≤ 140737488351232) : Calls Tryd.prog 26 #[.string s] w (RetBelow w (genV (scanS s.data.toList true))) := by
  have hm : s.size ≤ maxLen := by unfold maxLen; omega
  have el := Lib.size_eq s
  have SC := Lib.hid (fun W : World => start_ok s W hm)
  obtain ⟨b, hb⟩ : ∃ b, b = spanN isBlank s.data.toList := ⟨_, rfl⟩
  rw [← hb] at SC
  have hbs : b ≤ s.size := by rw [hb, el]; exact spanN_le _ _
  have AT : ∀ i, i ≤ s.size → ∀ (t : ByteArray), t.size ≤ 1000 → smallW t.data.toList = true → ∀ W, Calls Tryd.prog 51 #[.string s, .int .i64 i, .string t] W (BeginsPost W (begW t.data.toList (s.data.toList.drop i))) := fun i hi t ht hsm W => by
    have := atR_ok s t i W hs hi ht
    rw [begR_W _ _ hsm] at this
    exact this
  have eS := fun sg neg h1 h2 => scan_true s.data.toList b sg hb h1 neg h2

  by_cases hlt : b < s.size
  · have g := get_atB s b hlt
    by_cases h45 : s[b] = 45
    · have eAt : atB s.data.toList b = 45 := g.trans h45
      have eS2 := eS 1 true (by rw [sign_at, eAt]; rfl) (by rw [atB_drop, Nat.add_zero, eAt]; rfl)
      skip
      have AN := Lib.hid (AT (b + 1) (by omega) ⟨#[110, 97, 110]⟩ (by decide) (by decide))
      have AI := Lib.hid (AT (b + 1) (by omega) ⟨#[105, 110, 102]⟩ (by decide) (by decide))
      have AY := Lib.hid (AT (b + 1) (by omega) ⟨#[105, 110, 102, 105, 110, 105, 116, 121]⟩ (by decide) (by decide))
      have PC := Lib.hid (fun W : World => plain_ok s (b + 1) W hs (by omega))
      have pll := pl_lens s.data.toList (b + 1) (by omega)
      rw [show (((b + 1 : Nat)) : Int) = (b : Int) + 1 from by omega] at AN AI AY PC
      rw [eS2]
      cases hn : begW wNan (s.data.toList.drop (b + 1)) with
      | true =>
        rw [show begW (⟨#[110, 97, 110]⟩ : ByteArray).data.toList (s.data.toList.drop (b + 1)) = true from hn] at AN
        rw [word_nan _ hn]
        show Calls Tryd.prog 26 _ w (RetBelow w (genV ⟨1, false, [], [], 0, (b + 1) + 3⟩))
        rw [genV_word]
        have := genR_neg_nan s b w hs hlt h45 SC AN
        rw [show (((b + 1) + 3 : Nat) : Int) = ((b : Int) + 1) + 3 from by omega]
        exact this
      | false =>
        rw [show begW (⟨#[110, 97, 110]⟩ : ByteArray).data.toList (s.data.toList.drop (b + 1)) = false from hn] at AN
        cases hi : begW wInf (s.data.toList.drop (b + 1)) with
        | true =>
          rw [show begW (⟨#[105, 110, 102]⟩ : ByteArray).data.toList (s.data.toList.drop (b + 1)) = true from hi] at AI
          cases hy : begW wInfinity (s.data.toList.drop (b + 1)) with
          | true =>
            rw [show begW (⟨#[105, 110, 102, 105, 110, 105, 116, 121]⟩ : ByteArray).data.toList (s.data.toList.drop (b + 1)) = true from hy] at AY
            rw [word_infinity _ hy]
            show Calls Tryd.prog 26 _ w (RetBelow w (genV ⟨2, false, [], [], 0, (b + 1) + 8⟩))
            rw [genV_word]
            have := genR_neg_infinity s b w hs hlt h45 SC AN AI AY
            rw [show (((b + 1) + 8 : Nat) : Int) = ((b : Int) + 1) + 8 from by omega]
            exact this
          | false =>
            rw [show begW (⟨#[105, 110, 102, 105, 110, 105, 116, 121]⟩ : ByteArray).data.toList (s.data.toList.drop (b + 1)) = false from hy] at AY
            rw [word_inf _ hi hy]
            show Calls Tryd.prog 26 _ w (RetBelow w (genV ⟨2, false, [], [], 0, (b + 1) + 3⟩))
            rw [genV_word]
            have := genR_neg_inf s b w hs hlt h45 SC AN AI AY
            rw [show (((b + 1) + 3 : Nat) : Int) = ((b : Int) + 1) + 3 from by omega]
            exact this
        | false =>
          rw [show begW (⟨#[105, 110, 102]⟩ : ByteArray).data.toList (s.data.toList.drop (b + 1)) = false from hi] at AI
          rw [word_no _ hn hi]
          show Calls Tryd.prog 26 _ w (RetBelow w (genV (numberS (s.data.toList.drop (b + 1)) true true (b + 1))))
          rw [number_true]
          unfold plainV at PC
          by_cases hz : plW (s.data.toList.drop (b + 1)) ++ plF (s.data.toList.drop (b + 1)) = []
          · rw [if_pos hz] at PC ⊢
            have e0 : genV Hd.none = .agg #[.int .u8 0, .bool false, .string ⟨#[]⟩, .int .i64 0, .int .i64 0] := genV_word 0 0
            rw [e0]
            exact genR_neg_none s b w hs hlt h45 SC AN AI PC
          · rw [if_neg hz] at PC ⊢
            have EC := Lib.hid (fun W : World => expR_ok s ((b + 1) + plN (s.data.toList.drop (b + 1))) W hs (by omega))
            have er := expS_rng (s.data.toList.drop ((b + 1) + plN (s.data.toList.drop (b + 1))))
            have lD : (plW (s.data.toList.drop (b + 1)) ++ plF (s.data.toList.drop (b + 1))).length ≤ 140737488351232 := by rw [List.length_append]; omega
            unfold expV at EC
            generalize plN (s.data.toList.drop (b + 1)) = N at *
            generalize (expS (s.data.toList.drop ((b + 1) + N))).1 = ex at *
            generalize (expS (s.data.toList.drop ((b + 1) + N))).2 = en at *
            have NC := Lib.hid (fun W : World => norm_ok true (plW (s.data.toList.drop (b + 1)) ++ plF (s.data.toList.drop (b + 1))) ((plW (s.data.toList.drop (b + 1))).length + ex) 0 W (by omega) lD)
            unfold normV numV at NC
            rw [genV_num]
            by_cases hd : trimR (trimL (plW (s.data.toList.drop (b + 1)) ++ plF (s.data.toList.drop (b + 1)))) = []
            · rw [if_pos hd] at NC ⊢
              exact genR_neg_num s b w hs hlt h45 SC AN AI _ _ _ _ _ _ _ _ (by omega) er PC EC NC
            · rw [if_neg hd] at NC ⊢
              exact genR_neg_num s b w hs hlt h45 SC AN AI _ _ _ _ _ _ _ _ (by omega) er PC EC NC
    · have t45 : ((s[b].toNat : Int) == 45) = false := (byte_is _ 45 (by omega)).trans (by simpa using h45)
      by_cases h43 : s[b] = 43
      · have eAt : atB s.data.toList b = 43 := g.trans h43
        have eS2 := eS 1 false (by rw [sign_at, eAt]; rfl) (by rw [atB_drop, Nat.add_zero, eAt]; rfl)
        skip
        have AN := Lib.hid (AT (b + 1) (by omega) ⟨#[110, 97, 110]⟩ (by decide) (by decide))
        have AI := Lib.hid (AT (b + 1) (by omega) ⟨#[105, 110, 102]⟩ (by decide) (by decide))
        have AY := Lib.hid (AT (b + 1) (by omega) ⟨#[105, 110, 102, 105, 110, 105, 116, 121]⟩ (by decide) (by decide))
        have PC := Lib.hid (fun W : World => plain_ok s (b + 1) W hs (by omega))
        have pll := pl_lens s.data.toList (b + 1) (by omega)
        rw [show (((b + 1 : Nat)) : Int) = (b : Int) + 1 from by omega] at AN AI AY PC
        rw [eS2]
        cases hn : begW wNan (s.data.toList.drop (b + 1)) with
        | true =>
          rw [show begW (⟨#[110, 97, 110]⟩ : ByteArray).data.toList (s.data.toList.drop (b + 1)) = true from hn] at AN
          rw [word_nan _ hn]
          show Calls Tryd.prog 26 _ w (RetBelow w (genV ⟨1, false, [], [], 0, (b + 1) + 3⟩))
          rw [genV_word]
          have := genR_plus_nan s b w hs hlt h43 SC AN
          rw [show (((b + 1) + 3 : Nat) : Int) = ((b : Int) + 1) + 3 from by omega]
          exact this
        | false =>
          rw [show begW (⟨#[110, 97, 110]⟩ : ByteArray).data.toList (s.data.toList.drop (b + 1)) = false from hn] at AN
          cases hi : begW wInf (s.data.toList.drop (b + 1)) with
          | true =>
            rw [show begW (⟨#[105, 110, 102]⟩ : ByteArray).data.toList (s.data.toList.drop (b + 1)) = true from hi] at AI
            cases hy : begW wInfinity (s.data.toList.drop (b + 1)) with
            | true =>
              rw [show begW (⟨#[105, 110, 102, 105, 110, 105, 116, 121]⟩ : ByteArray).data.toList (s.data.toList.drop (b + 1)) = true from hy] at AY
              rw [word_infinity _ hy]
              show Calls Tryd.prog 26 _ w (RetBelow w (genV ⟨4, false, [], [], 0, (b + 1) + 8⟩))
              rw [genV_word]
              have := genR_plus_infinity s b w hs hlt h43 SC AN AI AY
              rw [show (((b + 1) + 8 : Nat) : Int) = ((b : Int) + 1) + 8 from by omega]
              exact this
            | false =>
              rw [show begW (⟨#[105, 110, 102, 105, 110, 105, 116, 121]⟩ : ByteArray).data.toList (s.data.toList.drop (b + 1)) = false from hy] at AY
              rw [word_inf _ hi hy]
              show Calls Tryd.prog 26 _ w (RetBelow w (genV ⟨4, false, [], [], 0, (b + 1) + 3⟩))
              rw [genV_word]
              have := genR_plus_inf s b w hs hlt h43 SC AN AI AY
              rw [show (((b + 1) + 3 : Nat) : Int) = ((b : Int) + 1) + 3 from by omega]
              exact this
          | false =>
            rw [show begW (⟨#[105, 110, 102]⟩ : ByteArray).data.toList (s.data.toList.drop (b + 1)) = false from hi] at AI
            rw [word_no _ hn hi]
            show Calls Tryd.prog 26 _ w (RetBelow w (genV (numberS (s.data.toList.drop (b + 1)) true false (b + 1))))
            rw [number_true]
            unfold plainV at PC
            by_cases hz : plW (s.data.toList.drop (b + 1)) ++ plF (s.data.toList.drop (b + 1)) = []
            · rw [if_pos hz] at PC ⊢
              have e0 : genV Hd.none = .agg #[.int .u8 0, .bool false, .string ⟨#[]⟩, .int .i64 0, .int .i64 0] := genV_word 0 0
              rw [e0]
              exact genR_plus_none s b w hs hlt h43 SC AN AI PC
            · rw [if_neg hz] at PC ⊢
              have EC := Lib.hid (fun W : World => expR_ok s ((b + 1) + plN (s.data.toList.drop (b + 1))) W hs (by omega))
              have er := expS_rng (s.data.toList.drop ((b + 1) + plN (s.data.toList.drop (b + 1))))
              have lD : (plW (s.data.toList.drop (b + 1)) ++ plF (s.data.toList.drop (b + 1))).length ≤ 140737488351232 := by rw [List.length_append]; omega
              unfold expV at EC
              generalize plN (s.data.toList.drop (b + 1)) = N at *
              generalize (expS (s.data.toList.drop ((b + 1) + N))).1 = ex at *
              generalize (expS (s.data.toList.drop ((b + 1) + N))).2 = en at *
              have NC := Lib.hid (fun W : World => norm_ok false (plW (s.data.toList.drop (b + 1)) ++ plF (s.data.toList.drop (b + 1))) ((plW (s.data.toList.drop (b + 1))).length + ex) 0 W (by omega) lD)
              unfold normV numV at NC
              rw [genV_num]
              by_cases hd : trimR (trimL (plW (s.data.toList.drop (b + 1)) ++ plF (s.data.toList.drop (b + 1)))) = []
              · rw [if_pos hd] at NC ⊢
                exact genR_plus_num s b w hs hlt h43 SC AN AI _ _ _ _ _ _ _ _ (by omega) er PC EC NC
              · rw [if_neg hd] at NC ⊢
                exact genR_plus_num s b w hs hlt h43 SC AN AI _ _ _ _ _ _ _ _ (by omega) er PC EC NC
      · have t43 : ((s[b].toNat : Int) == 43) = false := (byte_is _ 43 (by omega)).trans (by simpa using h43)
        have eAt : atB s.data.toList b = s[b] := g
        have n45 : (s[b] == 45) = false := by simpa using h45
        have n43 : (s[b] == 43) = false := by simpa using h43
        have eS2 := eS 0 false (by rw [sign_at, eAt, n45, n43]; rfl) (by rw [atB_drop, Nat.add_zero, eAt, n45])
        rw [Nat.add_zero] at eS2
        have AN := Lib.hid (AT b (by omega) ⟨#[110, 97, 110]⟩ (by decide) (by decide))
        have AI := Lib.hid (AT b (by omega) ⟨#[105, 110, 102]⟩ (by decide) (by decide))
        have AY := Lib.hid (AT b (by omega) ⟨#[105, 110, 102, 105, 110, 105, 116, 121]⟩ (by decide) (by decide))
        have PC := Lib.hid (fun W : World => plain_ok s b W hs (by omega))
        have pll := pl_lens s.data.toList b (by omega)
        skip
        rw [eS2]
        cases hn : begW wNan (s.data.toList.drop b) with
        | true =>
          rw [show begW (⟨#[110, 97, 110]⟩ : ByteArray).data.toList (s.data.toList.drop b) = true from hn] at AN
          rw [word_nan _ hn]
          show Calls Tryd.prog 26 _ w (RetBelow w (genV ⟨1, false, [], [], 0, b + 3⟩))
          rw [genV_word]
          have := genR_bare_nan s b w hs hlt t45 t43 SC AN
          rw [show ((b + 3 : Nat) : Int) = (b : Int) + 3 from by omega]
          exact this
        | false =>
          rw [show begW (⟨#[110, 97, 110]⟩ : ByteArray).data.toList (s.data.toList.drop b) = false from hn] at AN
          cases hi : begW wInf (s.data.toList.drop b) with
          | true =>
            rw [show begW (⟨#[105, 110, 102]⟩ : ByteArray).data.toList (s.data.toList.drop b) = true from hi] at AI
            cases hy : begW wInfinity (s.data.toList.drop b) with
            | true =>
              rw [show begW (⟨#[105, 110, 102, 105, 110, 105, 116, 121]⟩ : ByteArray).data.toList (s.data.toList.drop b) = true from hy] at AY
              rw [word_infinity _ hy]
              show Calls Tryd.prog 26 _ w (RetBelow w (genV ⟨4, false, [], [], 0, b + 8⟩))
              rw [genV_word]
              have := genR_bare_infinity s b w hs hlt t45 t43 SC AN AI AY
              rw [show ((b + 8 : Nat) : Int) = (b : Int) + 8 from by omega]
              exact this
            | false =>
              rw [show begW (⟨#[105, 110, 102, 105, 110, 105, 116, 121]⟩ : ByteArray).data.toList (s.data.toList.drop b) = false from hy] at AY
              rw [word_inf _ hi hy]
              show Calls Tryd.prog 26 _ w (RetBelow w (genV ⟨4, false, [], [], 0, b + 3⟩))
              rw [genV_word]
              have := genR_bare_inf s b w hs hlt t45 t43 SC AN AI AY
              rw [show ((b + 3 : Nat) : Int) = (b : Int) + 3 from by omega]
              exact this
          | false =>
            rw [show begW (⟨#[105, 110, 102]⟩ : ByteArray).data.toList (s.data.toList.drop b) = false from hi] at AI
            rw [word_no _ hn hi]
            show Calls Tryd.prog 26 _ w (RetBelow w (genV (numberS (s.data.toList.drop b) true false b)))
            rw [number_true]
            unfold plainV at PC
            by_cases hz : plW (s.data.toList.drop b) ++ plF (s.data.toList.drop b) = []
            · rw [if_pos hz] at PC ⊢
              have e0 : genV Hd.none = .agg #[.int .u8 0, .bool false, .string ⟨#[]⟩, .int .i64 0, .int .i64 0] := genV_word 0 0
              rw [e0]
              exact genR_bare_none s b w hs hlt t45 t43 SC AN AI PC
            · rw [if_neg hz] at PC ⊢
              have EC := Lib.hid (fun W : World => expR_ok s (b + plN (s.data.toList.drop b)) W hs (by omega))
              have er := expS_rng (s.data.toList.drop (b + plN (s.data.toList.drop b)))
              have lD : (plW (s.data.toList.drop b) ++ plF (s.data.toList.drop b)).length ≤ 140737488351232 := by rw [List.length_append]; omega
              unfold expV at EC
              generalize plN (s.data.toList.drop b) = N at *
              generalize (expS (s.data.toList.drop (b + N))).1 = ex at *
              generalize (expS (s.data.toList.drop (b + N))).2 = en at *
              have NC := Lib.hid (fun W : World => norm_ok false (plW (s.data.toList.drop b) ++ plF (s.data.toList.drop b)) ((plW (s.data.toList.drop b)).length + ex) 0 W (by omega) lD)
              unfold normV numV at NC
              rw [genV_num]
              by_cases hd : trimR (trimL (plW (s.data.toList.drop b) ++ plF (s.data.toList.drop b))) = []
              · rw [if_pos hd] at NC ⊢
                exact genR_bare_num s b w hs hlt t45 t43 SC AN AI _ _ _ _ _ _ _ _ (by omega) er PC EC NC
              · rw [if_neg hd] at NC ⊢
                exact genR_bare_num s b w hs hlt t45 t43 SC AN AI _ _ _ _ _ _ _ _ (by omega) er PC EC NC
  · have hbe : b = s.size := by omega
    have hnil : s.data.toList.drop b = [] := List.drop_eq_nil_of_le (by omega)
    have e1 : scanS s.data.toList true = Hd.none := by
      have := eS 0 false (by rw [hnil]; rfl) (by rw [hnil]; rfl)
      rw [Nat.add_zero, hnil] at this
      exact this
    rw [e1]
    have e0 : genV Hd.none = .agg #[.int .u8 0, .bool false, .string ⟨#[]⟩, .int .i64 0, .int .i64 0] := genV_word 0 0
    rw [e0]
    have AN := Lib.hid (AT b (by omega) ⟨#[110, 97, 110]⟩ (by decide) (by decide))
    have AI := Lib.hid (AT b (by omega) ⟨#[105, 110, 102]⟩ (by decide) (by decide))
    rw [hnil] at AN AI
    have PC := Lib.hid (fun W : World => plain_ok s b W hs (by omega))
    have eP : plainV s.data.toList b = .tuple #[.string ⟨#[]⟩, .int .i64 0, .int .i64 (-1)] := by
      unfold plainV
      rw [hnil]
      rfl
    rw [eP] at PC
    exact genR_end_none s b w hs hlt hbs SC AN AI PC

set_option maxHeartbeats 800000 in
theorem generals_card (s : ByteArray) (hs : s.size ≤ 140737488351232) (w : World) (T : Tabs w) : Calls Tryd.prog 11 #[.string s] w (RetBelow w (.bool true)) := by
  have GC := Lib.hid (fun (W : World) (hT : Tabs W) => generalX_ok s W hs hT)
  have GR := Lib.hid (fun (W : World) => generalR_ok s W hs)
  have AL := Lib.hid (fun (W : World) (hT : Tabs W) => alive_ok W hT)
  have hv : ∃ a b c d e, genV (scanS s.data.toList true) = .agg #[.int .u8 a, .bool b, .string c, .int .i64 d, .int .i64 e] := by
    unfold genV
    split
    · exact ⟨_, _, _, _, _, rfl⟩
    · exact ⟨_, _, _, _, _, rfl⟩
  obtain ⟨v0, v1, v2, v3, v4, hv⟩ := hv
  rw [hv] at GC GR
  clear hv
  have HT := Lib.hid T
  clear T
  go_enter Tryd.func11, Tryd.ntmps11
  go_wp2_with fail
  refine (GC.out _ HT.out).mono ?_
  rintro e w1 ⟨rfl, hb1⟩
  have T1 := Lib.hid (HT.out.below hb1)
  have B1 := Lib.hid hb1
  clear hb1
  go_wp2_with fail
  refine (GR.out _).mono ?_
  rintro e w2 ⟨rfl, hb2⟩
  have T2 := Lib.hid (T1.out.below hb2)
  have B2 := Lib.hid (B1.out.trans (hb2.mono B1.out.size))
  clear hb2
  go_wp2_with fail
  refine (AL.out _ T2.out).mono ?_
  rintro e w3 ⟨rfl, hb3⟩
  have B3 := Lib.hid (B2.out.trans (hb3.mono B2.out.size))
  clear hb3
  go_wp2_with fail
  go_ret
  exact ⟨rfl, B3.out⟩
end Go.Proofs.YtpbbgmfjdachnaaDoor
