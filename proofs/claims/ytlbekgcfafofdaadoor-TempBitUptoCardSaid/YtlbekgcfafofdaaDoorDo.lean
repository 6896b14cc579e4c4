/- The document's MayBe and Encode. -/
import Derived.Test.YtlbekgcfafofdaaDoorDn
namespace Go.Proofs.YtlbekgcfafofdaaDoor
open Go.RowKit
set_option maxRecDepth 100000

/-- The numbers within their bounds, as the document asks. -/
def rgB (e : Ent) (fin : Bool) : Bool := !decide (e.ru < 0) && (!decide (131071 < e.ru) && (!decide (e.re < 0) && (!decide (1099511627776 < e.re) && (!decide (e.li < 0) && (!decide (1099511627776 < e.li) && fin)))))
theorem rgB_iff (e : Ent) (fin : Bool) : rgB e fin = true ↔ rng e ∧ fin = true := by
  unfold rgB rng
  simp only [Bool.and_eq_true, Bool.not_eq_true', decide_eq_false_iff_not]
  constructor
  · rintro ⟨a, b, c, d, x, y, z⟩; exact ⟨⟨⟨by omega, by omega⟩, ⟨by omega, by omega⟩, ⟨by omega, by omega⟩⟩, z⟩
  · rintro ⟨⟨⟨a, b⟩, ⟨c, d⟩, ⟨x, y⟩⟩, z⟩; exact ⟨by omega, by omega, by omega, by omega, by omega, by omega, z⟩
theorem md1 (e : Ent) (h : e.k = 1) : mayP e = (sameB e (bareE e) && (true && rgB e true)) := by
  rw [Bool.eq_iff_iff, may_iff, Bool.and_eq_true, Bool.and_eq_true, sameB_iff, rgB_iff]
  obtain ⟨k, pr, nm, ru, re, li, su, inn⟩ := e
  simp only at h
  subst h
  simp only [bareE, if_pos, Ent.mk.injEq, rng]
  constructor
  · intro m
    cases m with
    | job h1 h2 h3 h4 h5 h6 h7 => simp only at h2 h3 h4 h5 h6 h7; subst h2 h3 h4 h5 h6 h7; simp
    | make h1 => cases h1
    | run h1 => cases h1
    | bare h1 => rcases h1 with h1 | h1 <;> cases h1
    | merge h1 => cases h1
  · rintro ⟨⟨_, _, h2, h3, h4, h5, h6, h7⟩, _⟩
    exact .job rfl h2 h3 h4 h5 h6 h7
theorem md2 (e : Ent) (h : e.k = 2) : mayP e = (sameB e (bareE e) && (clean e.nm && rgB e true)) := by
  rw [Bool.eq_iff_iff, may_iff, Bool.and_eq_true, Bool.and_eq_true, sameB_iff, rgB_iff]
  obtain ⟨k, pr, nm, ru, re, li, su, inn⟩ := e
  simp only at h
  subst h
  simp only [bareE, Ent.mk.injEq, rng, reduceIte, Nat.reduceEqDiff]
  constructor
  · intro m
    cases m with
    | job h1 => cases h1
    | make h1 h2 h3 h4 h5 h6 h7 h8 => simp only at h2 h3 h4 h5 h6 h7 h8; subst h2 h4 h5 h6 h7 h8; simp [h3]
    | run h1 => cases h1
    | bare h1 => rcases h1 with h1 | h1 <;> cases h1
    | merge h1 => cases h1
  · rintro ⟨⟨_, h2, _, h4, h5, h6, h7, h8⟩, h3, _⟩
    exact .make rfl h2 h3 h4 h5 h6 h7 h8
theorem md3 (e : Ent) (h : e.k = 3) : mayP e = (sameB e (bareE e) && (clean e.nm && rgB e true)) := by
  rw [Bool.eq_iff_iff, may_iff, Bool.and_eq_true, Bool.and_eq_true, sameB_iff, rgB_iff]
  obtain ⟨k, pr, nm, ru, re, li, su, inn⟩ := e
  simp only at h
  subst h
  simp only [bareE, Ent.mk.injEq, reduceIte, Nat.reduceEqDiff]
  constructor
  · intro m
    cases m with
    | job h1 => cases h1
    | make h1 => cases h1
    | run h1 h2 h3 h4 h5 => simp only at h2 h3 h5; subst h2 h5; simp [h3, h4]
    | bare h1 => rcases h1 with h1 | h1 <;> cases h1
    | merge h1 => cases h1
  · rintro ⟨⟨_, h2, _, _, _, _, _, h8⟩, h3, h4, _⟩
    exact .run rfl h2 h3 h4 h8
theorem md4 (e : Ent) (h : e.k = 4 ∨ e.k = 6) : mayP e = (sameB e (bareE e) && (true && rgB e true)) := by
  rw [Bool.eq_iff_iff, may_iff, Bool.and_eq_true, Bool.and_eq_true, sameB_iff, rgB_iff]
  obtain ⟨k, pr, nm, ru, re, li, su, inn⟩ := e
  simp only at h
  have hb : bareE ⟨k, pr, nm, ru, re, li, su, inn⟩ = ⟨k, 0, [], 0, 0, 0, 0, []⟩ := by
    unfold bareE
    rcases h with rfl | rfl <;> rfl
  rw [hb]
  simp only [Ent.mk.injEq, rng]
  constructor
  · intro m
    cases m with
    | job h1 => simp only at h1; omega
    | make h1 => simp only at h1; omega
    | run h1 => simp only at h1; omega
    | bare h1 h2 h3 h4 h5 h6 h7 h8 => simp only at h2 h3 h4 h5 h6 h7 h8; subst h2 h3 h4 h5 h6 h7 h8; simp
    | merge h1 => simp only at h1; omega
  · rintro ⟨⟨_, h2, h3, h4, h5, h6, h7, h8⟩, _⟩
    exact .bare h h2 h3 h4 h5 h6 h7 h8
theorem md5 (e : Ent) (h : e.k = 5) : mayP e = (sameB e (bareE e) && (clean e.nm && rgB e (runsUp (-1) e.inn && (decide (1 ≤ e.inn.length) && decide (e.inn.length ≤ 64))))) := by
  rw [Bool.eq_iff_iff, may_iff, Bool.and_eq_true, Bool.and_eq_true, sameB_iff, rgB_iff, Bool.and_eq_true, Bool.and_eq_true, decide_eq_true_eq, decide_eq_true_eq]
  obtain ⟨k, pr, nm, ru, re, li, su, inn⟩ := e
  simp only at h
  subst h
  simp only [bareE, Ent.mk.injEq, reduceIte, Nat.reduceEqDiff]
  constructor
  · intro m
    cases m with
    | job h1 => cases h1
    | make h1 => cases h1
    | run h1 => cases h1
    | bare h1 => rcases h1 with h1 | h1 <;> cases h1
    | merge h1 h2 h3 h4 h5 h6 h7 h8 => simp only at h2 h3 h5 h6 h7 h8; subst h2 h5; simp only [true_and, and_true]; exact ⟨h3, h4, h8, h6, h7⟩
  · rintro ⟨⟨_, h2, _, _, _, h5, _, _⟩, h3, h4, h8, h6, h7⟩
    exact .merge rfl h2 h3 h4 h5 h6 h7 h8
theorem md0 (e : Ent) (h : ¬ (1 ≤ e.k ∧ e.k ≤ 6)) : mayP e = false := by
  rw [← Bool.not_eq_true, may_iff]
  intro m
  cases m with
  | job h1 => omega
  | make h1 => omega
  | run h1 => omega
  | bare h1 => omega
  | merge h1 => omega
theorem EntIs.bare {e : Ent} (E : EntIs e) : EntIs (bareE e) := by
  obtain ⟨k, pr, nm, ru, re, li, su, inn⟩ := e
  have z : (-9223372036854775808 : Int) ≤ 0 ∧ (0 : Int) ≤ 9223372036854775807 := by omega
  unfold bareE
  simp only
  split
  · exact ⟨by show 1 < 256; omega, E.pr, by simp, z, z, z, by show 0 < 4294967296; omega, by simp, by simp⟩
  · split
    · exact ⟨by show 2 < 256; omega, by show 0 < 18446744073709551616; omega, E.nm, z, z, z, by show 0 < 4294967296; omega, by simp, by simp⟩
    · split
      · exact ⟨by show 3 < 256; omega, by show 0 < 18446744073709551616; omega, E.nm, E.ru, E.re, E.li, E.su, by simp, by simp⟩
      · split
        · exact ⟨by show 5 < 256; omega, by show 0 < 18446744073709551616; omega, E.nm, E.ru, E.re, z, E.su, E.ii, E.inn⟩
        · exact ⟨E.k, by show 0 < 18446744073709551616; omega, by simp, z, z, z, by show 0 < 4294967296; omega, by simp, by simp⟩
theorem dmay_ok (e : Ent) (E : EntIs e) {u : Value} {w : World} (h : SlI w u e.inn) : Calls Tryd.prog 25 #[eA e u] w (RetBelow w (.bool (mayP e))) := by
  have BA : ∀ W, Below w.heap.size w W → Calls Tryd.prog 37 #[eA e u] W (RetE W (bareE e)) := fun W q => bare_ok e E.k (h.below q)
  have SA : ∀ W v, SlI W v (bareE e).inn → Below w.heap.size w W → Calls Tryd.prog 13 #[eA e u, eA (bareE e) v] W (RetBelow W (.bool (sameB e (bareE e)))) := fun W v hv q => same_ok e (bareE e) E (h.below q) hv
  have hs : (bs e.nm).size ≤ 140737488355328 := by rw [bs_size]; exact E.nm
  by_cases hk : 1 ≤ e.k ∧ e.k ≤ 6
  · have hk6 : e.k = 1 ∨ e.k = 2 ∨ e.k = 3 ∨ e.k = 4 ∨ e.k = 5 ∨ e.k = 6 := by omega
    rcases hk6 with h1 | h1 | h1 | h1 | h1 | h1
    · have M := md1 e h1
      obtain ⟨k, pr, nm, ru, re, li, su, inn⟩ := e
      simp only at h1 h
      subst h1
      obtain ⟨a, c, rfl, _⟩ := h.form
      exact dmay1_raw w pr (bs nm) hs ru re li su a inn.length c _ _ true _ rfl _ rfl _ rfl _ rfl _ rfl _ rfl M rfl _ BA SA
    · have M := md2 e h1
      obtain ⟨k, pr, nm, ru, re, li, su, inn⟩ := e
      simp only at h1 h
      subst h1
      obtain ⟨a, c, rfl, _⟩ := h.form
      exact dmay2_raw w pr (bs nm) hs ru re li su a inn.length c _ _ _ _ rfl _ rfl _ rfl _ rfl _ rfl _ rfl M (clean_bs nm) _ BA SA
    · have M := md3 e h1
      obtain ⟨k, pr, nm, ru, re, li, su, inn⟩ := e
      simp only at h1 h
      subst h1
      obtain ⟨a, c, rfl, _⟩ := h.form
      exact dmay3_raw w pr (bs nm) hs ru re li su a inn.length c _ _ _ _ rfl _ rfl _ rfl _ rfl _ rfl _ rfl M (clean_bs nm) _ BA SA
    · have M := md4 e (.inl h1)
      obtain ⟨k, pr, nm, ru, re, li, su, inn⟩ := e
      simp only at h1 h
      subst h1
      obtain ⟨a, c, rfl, _⟩ := h.form
      exact dmay4_raw w pr (bs nm) hs ru re li su a inn.length c _ _ true _ rfl _ rfl _ rfl _ rfl _ rfl _ rfl M rfl _ BA SA
    · have M := md5 e h1
      obtain ⟨k, pr, nm, ru, re, li, su, inn⟩ := e
      simp only at h1 h
      subst h1
      by_cases h0 : inn = []
      · obtain ⟨a, c, rfl, _⟩ := h.form
        exact dmay5_raw w pr (bs nm) hs ru re li su a inn.length c _ _ _ _ rfl _ rfl _ rfl _ rfl _ rfl _ rfl 0 0 inn rfl E.ii (Or.inl h0) _ rfl M (clean_bs nm) _ BA SA
      · obtain ⟨b, off, c, rfl, _, hb, hcell⟩ := h.get h0
        exact dmay5_raw w pr (bs nm) hs ru re li su (some ⟨b, off, none⟩) inn.length c _ _ _ _ rfl _ rfl _ rfl _ rfl _ rfl _ rfl b off inn rfl E.ii (Or.inr ⟨rfl, hb, hcell⟩) _ rfl M (clean_bs nm) _ BA SA
    · have M := md4 e (.inr h1)
      obtain ⟨k, pr, nm, ru, re, li, su, inn⟩ := e
      simp only at h1 h
      subst h1
      obtain ⟨a, c, rfl, _⟩ := h.form
      exact dmay6_raw w pr (bs nm) hs ru re li su a inn.length c _ _ true _ rfl _ rfl _ rfl _ rfl _ rfl _ rfl M rfl _ BA SA
  · obtain ⟨a, c, rfl, _⟩ := h.form
    exact dmay0_raw w e.k E.k hk e.pr (bs e.nm) hs e.ru e.re e.li e.su a e.inn.length c _ _ true _ rfl _ rfl _ rfl _ rfl _ rfl _ rfl (md0 e hk) _ BA SA
def RetEncD (w : World) (l : List UInt8) (x : Int) (e : Ending) (w' : World) : Prop := ∃ v, e = .returned (.tuple #[v, .int .i64 x]) ∧ Sm w' v l 415 ∧ Below w.heap.size w w'
set_option maxHeartbeats 3200000 in
theorem denc_raw (k pr : Nat) (s : ByteArray) (ru re li : Int) (su : Nat) (a : Option Addr) (m c : Nat) (w : World) (n : Nat) (hn : n ≤ 2147483647) (b : Bool) (body : List UInt8)
    (MB : ∀ W, Below w.heap.size w W → Calls Tryd.prog 25 #[.agg #[.int .u8 k, .int .u64 pr, .string s, .int .i64 ru, .int .i64 re, .int .i64 li, .int .u32 su, .slice a m c]] W (RetBelow W (.bool b)))
    (BD : b = true → ∀ W, Below w.heap.size w W → Calls Tryd.prog 27 #[.agg #[.int .u8 k, .int .u64 pr, .string s, .int .i64 ru, .int .i64 re, .int .i64 li, .int .u32 su, .slice a m c]] W (RetSm W body 400)) :
    Calls Tryd.prog 10 #[.int .i64 n, .agg #[.int .u8 k, .int .u64 pr, .string s, .int .i64 ru, .int .i64 re, .int .i64 li, .int .u32 su, .slice a m c]] w (RetEncD w (ifL b (frameE n body)) (ifX b)) := by
  have HM := Lib.hid MB
  have HB := Lib.hid BD
  have EB := CellsAt.new w [.int .u8 k, .int .u64 pr, .string s, .int .i64 ru, .int .i64 re, .int .i64 li, .int .u32 su, .slice a m c] 27
  have BE := below_alloc w (.cells #[.int .u8 k, .int .u64 pr, .string s, .int .i64 ru, .int .i64 re, .int .i64 li, .int .u32 su, .slice a m c] 27)
  clear MB BD
  have t1 : decide ((n : Int) < 0) = false := decide_eq_false (by omega)
  have t2 : decide (2147483647 < (n : Int)) = false := decide_eq_false (by omega)
  have t2n : decide (2147483647 < n) = false := decide_eq_false (by omega)
  have n0 : 0 ≤ (n : Int) := by omega
  have n1 : (n : Int) ≤ 2147483647 := by omega
  go_enter Tryd.func10, Tryd.ntmps10
  go_wp2_with fail
  change CellsAt (w.alloc (.cells #[.int .u8 k, .int .u64 pr, .string s, .int .i64 ru, .int .i64 re, .int .i64 li, .int .u32 su, .slice a m c] 27)) _ _ at EB
  generalize w.alloc (.cells #[.int .u8 k, .int .u64 pr, .string s, .int .i64 ru, .int .i64 re, .int .i64 li, .int .u32 su, .slice a m c] 27) = w0 at *
  have T0 : Stp w w0 := ⟨BE⟩
  refine (HM.out w0 BE).mono ?_
  rintro e w1 ⟨rfl, q⟩
  have T1 : Stp w0 w1 := ⟨q⟩
  have E1 : CellsAt w1 w.heap.size _ := EB.gr
  clear q EB BE
  cases b with
  | false =>
    go_wp2_with fail
    go_ret2
    exact ⟨_, rfl, ⟨SlB.nil _, by simp [ifL]⟩, (inferInstance : Gr w w1).h⟩
  | true =>
    have e0 := E1.cell 0 _ rfl
    have e1 := E1.cell 1 _ rfl
    have e2 := E1.cell 2 _ rfl
    have e3 := E1.cell 3 _ rfl
    have e4 := E1.cell 4 _ rfl
    have e5 := E1.cell 5 _ rfl
    have e6 := E1.cell 6 _ rfl
    have e7 := E1.cell 7 _ rfl
    go_wp2_with fail
    refine (HB.out (by trivial) w1 (inferInstance : Gr w w1).h).mono ?_
    rintro e w2 ⟨v2, rfl, s2, b2⟩
    have T2 : Stp w1 w2 := ⟨b2⟩
    clear e0 e1 e2 e3 e4 e5 e6 e7 E1 b2
    have FR := Lib.hid (frame_ok n hn v2 body w2 s2)
    go_wp2_with fail
    refine FR.out.mono ?_
    rintro e w3 ⟨v3, rfl, s3, b3⟩
    have T3 : Stp w2 w3 := ⟨b3⟩
    clear b3
    go_wp2_with fail
    go_ret2
    exact ⟨_, rfl, s3, (inferInstance : Gr w w3).h⟩
theorem denc_ok (n : Int) (e : Ent) (E : EntIs e) {u : Value} {w : World} (h : SlI w u e.inn) : Calls Tryd.prog 10 #[.int .i64 n, eA e u] w (RetEncD w (encL n e) (encX n e)) := by
  by_cases h1 : n < 0
  · unfold encL encX
    rw [if_pos (Or.inl h1), if_pos (Or.inl h1)]
    obtain ⟨a, c, rfl, _⟩ := h.form
    have t1 : decide (n < 0) = true := decide_eq_true h1
    have BE := Lib.hid (below_alloc w (.cells #[.int .u8 e.k, .int .u64 e.pr, .string (bs e.nm), .int .i64 e.ru, .int .i64 e.re, .int .i64 e.li, .int .u32 e.su, .slice a e.inn.length c] 27))
    clear h1 E h
    go_enter Tryd.func10, Tryd.ntmps10
    go_wp2_with fail
    go_ret2
    exact ⟨_, rfl, ⟨SlB.nil _, by simp⟩, BE.out⟩
  · by_cases h2 : 2147483647 < n
    · unfold encL encX
      rw [if_pos (Or.inr h2), if_pos (Or.inr h2)]
      obtain ⟨a, c, rfl, _⟩ := h.form
      have t1 : decide (n < 0) = false := decide_eq_false h1
      have t2 : decide (2147483647 < n) = true := decide_eq_true h2
      have BE := Lib.hid (below_alloc w (.cells #[.int .u8 e.k, .int .u64 e.pr, .string (bs e.nm), .int .i64 e.ru, .int .i64 e.re, .int .i64 e.li, .int .u32 e.su, .slice a e.inn.length c] 27))
      clear h1 h2 E h
      go_enter Tryd.func10, Tryd.ntmps10
      go_wp2_with fail
      go_ret2
      exact ⟨_, rfl, ⟨SlB.nil _, by simp⟩, BE.out⟩
    · obtain ⟨m, rfl⟩ := nat_of (z := n) (by omega)
      have MB : ∀ W, Below w.heap.size w W → Calls Tryd.prog 25 #[eA e u] W (RetBelow W (.bool (mayP e))) := fun W q => dmay_ok e E (h.below q)
      have BD : mayP e = true → ∀ W, Below w.heap.size w W → Calls Tryd.prog 27 #[eA e u] W (RetSm W (bodyE e) 400) := fun hm W q => dbody_ok e E ((may_iff e).1 hm) (h.below q)
      have e1 : encL (m : Int) e = ifL (mayP e) (frameE m (bodyE e)) := by
        unfold encL ifL
        rw [if_neg (by omega)]
        rfl
      have e2 : encX (m : Int) e = ifX (mayP e) := by
        unfold encX ifX
        rw [if_neg (by omega)]
      rw [e1, e2]
      obtain ⟨a, c, rfl, _⟩ := h.form
      exact denc_raw e.k e.pr (bs e.nm) e.ru e.re e.li e.su a e.inn.length c w m (by omega) (mayP e) (bodyE e) MB BD
end Go.Proofs.YtlbekgcfafofdaaDoor
