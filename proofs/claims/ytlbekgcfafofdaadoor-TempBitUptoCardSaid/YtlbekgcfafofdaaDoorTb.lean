/- The law TempBit, walked. -/
import Derived.Test.YtlbekgcfafofdaaDoorTt
namespace Go.Proofs.YtlbekgcfafofdaaDoor
section
section
open Go.RowKit
set_option maxRecDepth 100000

theorem xor_rc {a b c : Nat} (h : a ^^^ c = b ^^^ c) : a = b := by
  have := congrArg (· ^^^ c) h
  simpa [Nat.xor_assoc, Nat.xor_self, Nat.xor_zero] using this
theorem xor_lc {a b c : Nat} (h : c ^^^ a = c ^^^ b) : a = b := by rw [Nat.xor_comm c a, Nat.xor_comm c b] at h; exact xor_rc h
theorem bitS_inj {a b : Nat} (ha : a < 2 ^ 32) (hb : b < 2 ^ 32) (h : bitS a = bitS b) : a = b := by
  have top : ∀ x : Nat, x < 2 ^ 31 → (x ^^^ 3988292384).testBit 31 = true := fun x hx => by
    rw [Nat.testBit_xor, Nat.testBit_lt_two_pow hx]; decide
  have low : ∀ x : Nat, x < 2 ^ 31 → x.testBit 31 = false := fun x hx => Nat.testBit_lt_two_pow hx
  have ha2 : a / 2 < 2 ^ 31 := by omega
  have hb2 : b / 2 < 2 ^ 31 := by omega
  unfold bitS at h
  by_cases p : a % 2 = 1
  · by_cases q : b % 2 = 1
    · rw [if_pos p, if_pos q] at h
      have := xor_rc h
      omega
    · rw [if_pos p, if_neg q] at h
      have t := top _ ha2
      rw [h, low _ hb2] at t
      cases t
  · by_cases q : b % 2 = 1
    · rw [if_neg p, if_pos q] at h
      have t := top _ hb2
      rw [← h, low _ ha2] at t
      cases t
    · rw [if_neg p, if_neg q] at h
      omega
theorem halfS_inj {a b : Nat} (ha : a < 2 ^ 32) (hb : b < 2 ^ 32) (h : halfS a = halfS b) : a = b := by
  rw [half_bits, half_bits] at h
  exact bitS_inj ha hb (bitS_inj (bitS_lt ha) (bitS_lt hb) (bitS_inj (bitS_lt (bitS_lt ha)) (bitS_lt (bitS_lt hb)) (bitS_inj (bitS_lt (bitS_lt (bitS_lt ha))) (bitS_lt (bitS_lt (bitS_lt hb))) h)))
theorem byteS_inj {c d : Nat} {x y : UInt8} (hc : c < 2 ^ 32) (hd : d < 2 ^ 32) (h : byteS c x = byteS d y) : c ^^^ x.toNat = d ^^^ y.toNat := by
  have lx : c ^^^ x.toNat < 2 ^ 32 := Nat.xor_lt_two_pow hc (Nat.lt_of_lt_of_le x.toNat_lt (by decide))
  have ly : d ^^^ y.toNat < 2 ^ 32 := Nat.xor_lt_two_pow hd (Nat.lt_of_lt_of_le y.toNat_lt (by decide))
  exact halfS_inj lx ly (halfS_inj (halfS_lt lx) (halfS_lt ly) h)
theorem foldS_inj : ∀ (l : List UInt8) {c d : Nat}, c < 2 ^ 32 → d < 2 ^ 32 → foldS c l = foldS d l → c = d
  | [], _, _, _, _, h => h
  | x :: l, c, d, hc, hd, h => by
    have := foldS_inj l (byteS_lt hc x) (byteS_lt hd x) h
    exact xor_rc (byteS_inj hc hd this)
theorem foldS_set : ∀ (l : List UInt8) (i : Nat) (y : UInt8) {c : Nat}, c < 2 ^ 32 → (h : i < l.length) → y ≠ l[i] → foldS c (l.set i y) ≠ foldS c l
  | [], i, y, c, _, h, _ => by simp at h
  | x :: l, 0, y, c, hc, _, hy => fun e => by
    have e1 : foldS (byteS c y) l = foldS (byteS c x) l := e
    have e2 := foldS_inj l (byteS_lt hc y) (byteS_lt hc x) e1
    have e3 := xor_lc (byteS_inj hc hc e2)
    exact hy (UInt8.toNat_inj.1 e3)
  | x :: l, i + 1, y, c, hc, h, hy => foldS_set l i y (byteS_lt hc x) (by simpa using h) hy
theorem sum_set (l : List UInt8) (i : Nat) (y : UInt8) (h : i < l.length) (hy : y ≠ l[i]) : sumN (l.set i y) ≠ sumN l := by
  unfold sumN sumMoreN
  intro e
  exact foldS_set l i y (inv32_lt (c := 0) (by decide)) h hy (by
    have := congrArg inv32 e
    rwa [inv32_inv, inv32_inv] at this)
theorem valB_set (l : List UInt8) (i : Nat) (y : UInt8) (h : i < l.length) (hy : y ≠ l[i]) : valB (l.set i y) ≠ valB l := by
  intro e
  have h1 := be_val (l.set i y)
  rw [List.length_set, e, be_val l] at h1
  have h2 : l[i] = (l.set i y)[i]'(by simpa using h) := by congr 1
  rw [List.getElem_set_self] at h2
  exact hy h2.symm
theorem seg_out (l : List UInt8) {a n i : Nat} (y : UInt8) (h : i < a ∨ a + n ≤ i) : seg (l.set i y) a n = seg l a n := by
  unfold seg
  rw [List.drop_set]
  split
  · rfl
  · rw [List.take_set, List.set_eq_of_length_le]
    rw [List.length_take]
    omega
theorem seg_in (l : List UInt8) {a n i : Nat} (y : UInt8) (h : a ≤ i) : seg (l.set i y) a n = (seg l a n).set (i - a) y := by
  unfold seg
  rw [List.drop_set, if_neg (by omega), List.take_set]
theorem seg_get (l : List UInt8) {a n i : Nat} (h : i < n) (h2 : a + i < l.length) : (seg l a n)[i]? = l[a + i]? := by
  unfold seg
  rw [List.getElem?_take, if_pos h, List.getElem?_drop]
theorem seg_ne {l : List UInt8} {a n i : Nat} {y : UInt8} (h : a ≤ i) (h2 : i < a + n) (h3 : a + n ≤ l.length) (hy : l[i]? ≠ some y) : ∃ h : i - a < (seg l a n).length, y ≠ (seg l a n)[i - a] := by
  have hl : (seg l a n).length = n := seg_len h3
  refine ⟨by omega, fun e => hy ?_⟩
  have h4 := seg_get l (a := a) (n := n) (i := i - a) (by omega) (by omega)
  rw [List.getElem?_eq_getElem (by omega), ← e, show a + (i - a) = i by omega] at h4
  exact h4.symm
/-- One byte of a frame is another. -/
theorem fr_flip (n : Nat) (B rest : List UInt8) (hB : B.length ≤ 400) (hn : n < 4294967296) (i : Nat) (y : UInt8) (hi : i < 15 + B.length) (hy : (frameE n B)[i]? ≠ some y) : feE ((frameE n B ++ rest).set i y) n = 112 := by
  have hlen := fr_len n B rest
  have hlen' : ((frameE n B ++ rest).set i y).length = 15 + B.length + rest.length := by rw [List.length_set]; exact hlen
  have s1 := sumN_lt (hd7 n B.length)
  have s2 := sumN_lt B
  have v1 : valB (be 4 (sumN (hd7 n B.length))) = sumN (hd7 n B.length) := val_be_lt (by omega)
  have v2 : valB (be 4 (sumN B)) = sumN B := val_be_lt (by omega)
  have v3 : valB (be 4 n) = n := val_be_lt (by omega)
  have hyF : (frameE n B ++ rest)[i]? ≠ some y := by rw [List.getElem?_append_left (by rw [frameE_len]; omega)]; exact hy
  have e1 := fr_take1 n B rest
  have e7 := fr_take7 n B rest
  have eN := fr_num n B rest
  have eH := fr_hsum n B rest
  have eZ := fr_size n B rest
  have eL := fr_feL n B rest hB
  have eB := fr_body n B rest
  have eS := fr_bsum n B rest
  generalize frameE n B ++ rest = F at *
  have h00 : ¬ (F.set i y).length = 0 := by omega
  have h11 : ¬ (F.set i y).length < 11 := by omega
  have t1 : F.take 1 = seg F 0 1 := (seg_zero F 1).symm
  have t7 : F.take 7 = seg F 0 7 := (seg_zero F 7).symm
  have t1' : (F.set i y).take 1 = seg (F.set i y) 0 1 := (seg_zero _ 1).symm
  have t7' : (F.set i y).take 7 = seg (F.set i y) 0 7 := (seg_zero _ 7).symm
  unfold feE
  rw [if_neg h00]
  by_cases c0 : i = 0
  · subst c0
    have hne : valB ((F.set 0 y).take 1) ≠ 229 := by
      obtain ⟨a, b⟩ := seg_ne (l := F) (a := 0) (n := 1) (i := 0) (y := y) (by omega) (by omega) (by omega) hyF
      have := valB_set (seg F 0 1) 0 y a b
      rw [t1', seg_in F y (Nat.le_refl 0)]
      rw [← t1, e1] at this
      have w : valB [229] = 229 := rfl
      rw [w] at this
      rw [← t1, e1]
      exact this
    rw [if_pos hne]
  · have k1 : (F.set i y).take 1 = [229] := by rw [t1', seg_out F y (Or.inr (by omega)), ← t1, e1]
    rw [if_neg (by rw [k1]; simp [valB]), if_neg h11]
    by_cases c6 : i < 7
    · have hne : valB (seg (F.set i y) 7 4) ≠ sumN ((F.set i y).take 7) := by
        obtain ⟨a, b⟩ := seg_ne (l := F) (a := 0) (n := 7) (i := i) (y := y) (by omega) (by omega) (by omega) hyF
        have := sum_set (seg F 0 7) (i - 0) y a b
        rw [seg_out F y (Or.inl c6), eH, v1, t7', seg_in F y (Nat.zero_le i)]
        rw [← t7, e7] at this ⊢
        exact fun e => this e.symm
      rw [if_pos hne]
    · have k7 : (F.set i y).take 7 = hd7 n B.length := by rw [t7', seg_out F y (Or.inr (by omega)), ← t7, e7]
      by_cases c10 : i < 11
      · have hne : valB (seg (F.set i y) 7 4) ≠ sumN ((F.set i y).take 7) := by
          obtain ⟨a, b⟩ := seg_ne (l := F) (a := 7) (n := 4) (i := i) (y := y) (by omega) (by omega) (by omega) hyF
          have := valB_set (seg F 7 4) (i - 7) y a b
          rw [k7, seg_in F y (by omega)]
          rw [eH, v1] at this
          rw [eH]
          exact this
        rw [if_pos hne]
      · have kH : valB (seg (F.set i y) 7 4) = sumN ((F.set i y).take 7) := by rw [k7, seg_out F y (Or.inr (by omega)), eH, v1]
        have kN : valB (seg (F.set i y) 1 4) = n := by rw [seg_out F y (Or.inr (by omega)), eN, v3]
        have kL : feL (F.set i y) = B.length := by unfold feL at *; rw [seg_out F y (Or.inr (by omega))]; exact eL
        have h15 : ¬ (F.set i y).length < 15 + feL (F.set i y) := by rw [kL]; omega
        have hne : valB (seg (F.set i y) (11 + feL (F.set i y)) 4) ≠ sumN (feB (F.set i y)) := by
          unfold feB
          rw [kL]
          by_cases cB : i < 11 + B.length
          · obtain ⟨a, b⟩ := seg_ne (l := F) (a := 11) (n := B.length) (i := i) (y := y) (by omega) (by omega) (by omega) hyF
            have := sum_set (seg F 11 B.length) (i - 11) y a b
            rw [seg_out F y (Or.inl cB), eS, v2, seg_in F y (by omega)]
            rw [eB] at this ⊢
            exact fun e => this e.symm
          · obtain ⟨a, b⟩ := seg_ne (l := F) (a := 11 + B.length) (n := 4) (i := i) (y := y) (by omega) (by omega) (by omega) hyF
            have := valB_set (seg F (11 + B.length) 4) (i - (11 + B.length)) y a b
            rw [seg_in F y (by omega), seg_out F y (Or.inr (by omega)), eB]
            rw [eS, v2] at this
            rw [eS]
            exact this
        rw [if_neg (by simpa using kH), if_neg (by simpa using kN), if_neg h15, if_pos hne]
/-- One byte of a journal is another: nothing but the entries ahead of the one in which it lies. -/
theorem dec_flip (M : List Ent) (hM : FrsOk 0 M) (hm : ∀ e ∈ M, May e) (h32 : M.length < 4294967296) (t j : Nat) (y : UInt8) (ht : t < M.length) (h1 : off M t ≤ j) (h2 : j < off M (t + 1)) (hy : (frs 0 M)[j]? ≠ some y) :
    decC ((frs 0 M).set j y) 0 = (M.take t, off M t, 112) := by
  have e0 : frs 0 M = frs 0 (M.take t) ++ (frameE t (bodyE M[t]) ++ frs (t + 1) (M.drop (t + 1))) := by
    have : M = M.take t ++ (M[t] :: M.drop (t + 1)) := by rw [← List.drop_eq_getElem_cons ht, List.take_append_drop]
    conv => lhs; rw [this]
    rw [frs_app, frs, List.length_take, Nat.min_eq_left (by omega), Nat.zero_add]
  have hs := off_succ M t ht
  have hB := body_len (hm M[t] (List.getElem_mem ht))
  have hl : (frs 0 (M.take t)).length = off M t := rfl
  have hok : FrsOk 0 (M.take t) := by
    have := hM
    rw [← List.take_append_drop t M] at this
    exact ((frsOk_app 0 _ _).1 this).1
  have hyF : (frameE t (bodyE M[t]))[j - off M t]? ≠ some y := by
    intro e
    apply hy
    rw [e0, List.getElem?_append_right (by omega), hl, List.getElem?_append_left (by rw [frameE_len]; omega)]
    exact e
  rw [e0, List.set_append_right _ _ (by omega), hl, dec_frs 0 (M.take t) _ hok, List.length_take, Nat.min_eq_left (by omega), Nat.zero_add,
    dec_err (fr_flip t (bodyE M[t]) _ hB (by omega) (j - off M t) y (by omega) hyF) (by omega)]
  simp [hl]
end
section
open Go.RowKit
set_option maxRecDepth 100000

/-- The region. -/
noncomputable def r7B : Code := fstC (sndC (sndC (sndC (sndC (sndC (Tryd.f6.body.getD .skip))))))
theorem pow8 {r : Nat} (h : r < 8) : 2 ^ r < 256 := by
  have : 2 ^ r ≤ 2 ^ 7 := Nat.pow_le_pow_right (by omega) (by omega)
  omega
section
variable {o : Oper} {a : Act} {W : World} {t s : Nat}
theorem quo8 {x : Nat} (ho : o.op = .binOp .quo 3 (.tmp t) (.const (.int .i64 8)) 3) (ha : a.tmps.getD t undef = .int .i64 (x : Int)) (hx : x < 9223372036854775808) : (execOp a.eval o).run Tryd.prog W = .ok (.value (.int .i64 ((x / 8 : Nat) : Int))) W := by
  have ha' := gd ha
  have hc : a.eval (.const (.int .i64 8)) = .int .i64 8 := rfl
  have h0 : (0 : Int) ≤ (x : Int) := by omega
  have hw : wrap64 ((x : Int) / 8) = (x : Int) / 8 := by unfold wrap64; omega
  have hw2 : IntKind.i64.wrap ((x : Int) / 8) = (x : Int) / 8 := by rw [IntKind.wrap_i64]; omega
  have ht : (x : Int).tdiv 8 = (x : Int) / 8 := Int.tdiv_eq_ediv_of_nonneg h0
  generalize a.eval = ρ at *
  simp [execOp, ho, ha', hc, go_sem, h0, hw, hw2, ht]
theorem rem8 {x : Nat} (ho : o.op = .binOp .rem 3 (.tmp t) (.const (.int .i64 8)) 3) (ha : a.tmps.getD t undef = .int .i64 (x : Int)) (hx : x < 9223372036854775808) : (execOp a.eval o).run Tryd.prog W = .ok (.value (.int .i64 ((x % 8 : Nat) : Int))) W := by
  have ha' := gd ha
  have hc : a.eval (.const (.int .i64 8)) = .int .i64 8 := rfl
  have h0 : (0 : Int) ≤ (x : Int) := by omega
  have hw : wrap64 ((x : Int) % 8) = (x : Int) % 8 := by unfold wrap64; omega
  have hw2 : IntKind.i64.wrap ((x : Int) % 8) = (x : Int) % 8 := by rw [IntKind.wrap_i64]; omega
  have ht : (x : Int).tmod 8 = (x : Int) % 8 := Int.tmod_eq_emod_of_nonneg h0
  generalize a.eval = ρ at *
  simp [execOp, ho, ha', hc, go_sem, h0, hw, hw2, ht]
theorem shl8 {r : Nat} (ho : o.op = .binOp .shl 5 (.const (.int .u8 1)) (.tmp t) 3) (ha : a.tmps.getD t undef = .int .i64 (r : Int)) (hr : r < 8) : (execOp a.eval o).run Tryd.prog W = .ok (.value (.int .u8 ((2 ^ r : Nat) : Int))) W := by
  have ha' := gd ha
  have hc : a.eval (.const (.int .u8 1)) = .int .u8 1 := rfl
  generalize a.eval = ρ at *
  have h8 : r = 0 ∨ r = 1 ∨ r = 2 ∨ r = 3 ∨ r = 4 ∨ r = 5 ∨ r = 6 ∨ r = 7 := by omega
  rcases h8 with rfl | rfl | rfl | rfl | rfl | rfl | rfl | rfl
  all_goals (simp [execOp, ho, ha', hc, go_sem]; try rfl)
theorem xor8 {x y : Nat} (ho : o.op = .binOp .xor 5 (.tmp t) (.tmp s) 5) (ha : a.tmps.getD t undef = .int .u8 (x : Int)) (hs : a.tmps.getD s undef = .int .u8 (y : Int)) (hx : x < 256) (hy : y < 256) : (execOp a.eval o).run Tryd.prog W = .ok (.value (.int .u8 ((x ^^^ y : Nat) : Int))) W := by
  have ha' := gd ha
  have hs' := gd hs
  have hb := u8_xor_nat x y hx hy
  generalize a.eval = ρ at *
  simp [execOp, ho, ha', hs', go_sem, hb]
theorem ia29 {g n c i : Nat} (ho : o.op = .indexAddr 29 (.tmp t) (.tmp s)) (ha : a.tmps.getD t undef = .slice (some ⟨g, 0, none⟩) n c) (hs : a.tmps.getD s undef = .int .i64 (i : Int)) (hi : i < n) (hc : n ≤ 9223372036854775807) : (execOp a.eval o).run Tryd.prog W = .ok (.value (.pointer (some ⟨g, i, none⟩))) W := by
  have ha' := gd ha
  have hs' := gd hs
  have q1 : (i : Int) < (n : Int) := by omega
  have q2 : (0 : Int) ≤ (i : Int) := by omega
  generalize a.eval = ρ at *
  simp [execOp, ho, ha', hs', go_sem, q1, q2]
theorem ld5 {g i : Nat} {v : Value} (ho : o.op = .load 5 (.tmp t)) (ha : a.tmps.getD t undef = .pointer (some ⟨g, i, none⟩)) (h : W.cell? ⟨g, i, none⟩ = some v) : (execOp a.eval o).run Tryd.prog W = .ok (.value v) W := by
  have ha' := gd ha
  generalize a.eval = ρ at *
  simp [execOp, ho, ha', go_sem, h]
theorem st5 {g i : Nat} {z : Int} {v0 : Value} (h : W.cell? ⟨g, i, none⟩ = some v0) (f : W.frozen? ⟨g, i, none⟩ = false) (ho : o.op = .store 5 (.tmp t) (.tmp s)) (ha : a.tmps.getD t undef = .pointer (some ⟨g, i, none⟩)) (hs : a.tmps.getD s undef = .int .u8 z) :
    (execOp a.eval o).run Tryd.prog W = .ok .skip (W.setCell ⟨g, i, none⟩ (.int .u8 z)) := by
  have ha' := gd ha
  have hs' := gd hs
  generalize a.eval = ρ at *
  simp [execOp, ho, ha', hs', go_sem, h, f]
end
set_option maxHeartbeats 3200000 in
theorem regBit {Q : Exit → Act → World → Prop} {W : World} {g m c q x : Nat} {t0 t1 t3 t4 t5 t6 t8 t9 t10 t11 t12 t13 t14 t15 t16 t17 t18 t19 t20 t21 t22 t23 t24 t25 t26 t27 t28 t29 t30 t31 t32 t33 t34 t35 t36 t37 t38 t39 t40 t41 t42 t43 t44 t45 t46 t47 t48 t49 t50 t51 t52 t53 t54 t55 t56 t57 t58 t59 t60 t61 t62 t63 t64 t65 t66 t67 t68 t69 t70 t71 t72 t73 t74 t75 t76 t77 t78 t79 t80 t81 t82 t83 t84 t85 t86 t87 : Value} {d : List Deferred}
    (hQ : ∀ (ch : _) (a : Act) (dd : Tmp) (v : Value) (w : World), Q (.panic ch) (a.put (some dd) v) w → Q (.panic ch) a w)
    (hq : q / 8 < m) (hm : m ≤ 100000) (hx : x < 256) (X : W.drew.cell? ⟨g, q / 8, none⟩ = some (.int .u8 (x : Int))) (FX : W.drew.frozen? ⟨g, q / 8, none⟩ = false)
    (h : ∀ (v35 v36 v37 v38 v39 v40 v41 v42 v43 v44 v45 v46 v47 : Value), Q .normal ⟨#[t0, t1, .int .i64 (q : Int), t3, t4, t5, t6, .slice (some ⟨g, 0, none⟩) m c, t8, t9, t10, t11, t12, t13, t14, t15, t16, t17, t18, t19, t20, t21, t22, t23, t24, t25, t26, t27, t28, t29, t30, t31, t32, t33, t34, v35, v36, v37, v38, v39, v40, v41, v42, v43, v44, v45, v46, v47, t48, t49, t50, t51, t52, t53, t54, t55, t56, t57, t58, t59, t60, t61, t62, t63, t64, t65, t66, t67, t68, t69, t70, t71, t72, t73, t74, t75, t76, t77, t78, t79, t80, t81, t82, t83, t84, t85, t86, t87], d⟩ (W.drew.setCell ⟨g, q / 8, none⟩ (.int .u8 ((x ^^^ 2 ^ (q % 8) : Nat) : Int)))) :
    r7B.wp Tryd.prog Q ⟨#[t0, t1, .int .i64 (q : Int), t3, t4, t5, t6, .slice (some ⟨g, 0, none⟩) m c, t8, t9, t10, t11, t12, t13, t14, t15, t16, t17, t18, t19, t20, t21, t22, t23, t24, t25, t26, t27, t28, t29, t30, t31, t32, t33, t34, t35, t36, t37, t38, t39, t40, t41, t42, t43, t44, t45, t46, t47, t48, t49, t50, t51, t52, t53, t54, t55, t56, t57, t58, t59, t60, t61, t62, t63, t64, t65, t66, t67, t68, t69, t70, t71, t72, t73, t74, t75, t76, t77, t78, t79, t80, t81, t82, t83, t84, t85, t86, t87], d⟩ W := by
  show (Code.region 7 _ true).wp _ _ _ _
  refine wp_region_any (by kernel_rfl) ?_
  show wpAny _ _ _ _ _ _ _ W.drew
  generalize W.drew = W0 at *
  refine wpAny_take (i := 0) (v := .slice (some ⟨g, 0, none⟩) m c) rfl (by kernel_rfl) (by kernel_rfl) (by kernel_rfl) (fun _ _ _ q => hQ _ _ _ _ _ q) (Or.inl ⟨by kernel_rfl, fun w => mv (t := 7) (Or.inl rfl) rfl⟩) ?_
  show wpAny _ _ _ _ _ #[true, false, false, false, false, false, false, false, false, false, false, false, false, false] ⟨#[t0, t1, .int .i64 (q : Int), t3, t4, t5, t6, .slice (some ⟨g, 0, none⟩) m c, t8, t9, t10, t11, t12, t13, t14, t15, t16, t17, t18, t19, t20, t21, t22, t23, t24, t25, t26, t27, t28, t29, t30, t31, t32, t33, t34, .slice (some ⟨g, 0, none⟩) m c, t36, t37, t38, t39, t40, t41, t42, t43, t44, t45, t46, t47, t48, t49, t50, t51, t52, t53, t54, t55, t56, t57, t58, t59, t60, t61, t62, t63, t64, t65, t66, t67, t68, t69, t70, t71, t72, t73, t74, t75, t76, t77, t78, t79, t80, t81, t82, t83, t84, t85, t86, t87], d⟩ W0
  refine wpAny_take (i := 1) (v := .int .i64 (q : Int)) rfl (by kernel_rfl) (by kernel_rfl) (by kernel_rfl) (fun _ _ _ q => hQ _ _ _ _ _ q) (Or.inl ⟨by kernel_rfl, fun w => mv (t := 2) (Or.inl rfl) rfl⟩) ?_
  show wpAny _ _ _ _ _ #[true, true, false, false, false, false, false, false, false, false, false, false, false, false] ⟨#[t0, t1, .int .i64 (q : Int), t3, t4, t5, t6, .slice (some ⟨g, 0, none⟩) m c, t8, t9, t10, t11, t12, t13, t14, t15, t16, t17, t18, t19, t20, t21, t22, t23, t24, t25, t26, t27, t28, t29, t30, t31, t32, t33, t34, .slice (some ⟨g, 0, none⟩) m c, .int .i64 (q : Int), t37, t38, t39, t40, t41, t42, t43, t44, t45, t46, t47, t48, t49, t50, t51, t52, t53, t54, t55, t56, t57, t58, t59, t60, t61, t62, t63, t64, t65, t66, t67, t68, t69, t70, t71, t72, t73, t74, t75, t76, t77, t78, t79, t80, t81, t82, t83, t84, t85, t86, t87], d⟩ W0
  refine wpAny_take (i := 2) (v := .int .i64 ((q / 8 : Nat) : Int)) rfl (by kernel_rfl) (by kernel_rfl) (by kernel_rfl) (fun _ _ _ q => hQ _ _ _ _ _ q) (Or.inl ⟨by kernel_rfl, fun w => quo8 (t := 36) rfl rfl (by omega)⟩) ?_
  show wpAny _ _ _ _ _ #[true, true, true, false, false, false, false, false, false, false, false, false, false, false] ⟨#[t0, t1, .int .i64 (q : Int), t3, t4, t5, t6, .slice (some ⟨g, 0, none⟩) m c, t8, t9, t10, t11, t12, t13, t14, t15, t16, t17, t18, t19, t20, t21, t22, t23, t24, t25, t26, t27, t28, t29, t30, t31, t32, t33, t34, .slice (some ⟨g, 0, none⟩) m c, .int .i64 (q : Int), .int .i64 ((q / 8 : Nat) : Int), t38, t39, t40, t41, t42, t43, t44, t45, t46, t47, t48, t49, t50, t51, t52, t53, t54, t55, t56, t57, t58, t59, t60, t61, t62, t63, t64, t65, t66, t67, t68, t69, t70, t71, t72, t73, t74, t75, t76, t77, t78, t79, t80, t81, t82, t83, t84, t85, t86, t87], d⟩ W0
  refine wpAny_take (i := 3) (v := .slice (some ⟨g, 0, none⟩) m c) rfl (by kernel_rfl) (by kernel_rfl) (by kernel_rfl) (fun _ _ _ q => hQ _ _ _ _ _ q) (Or.inl ⟨by kernel_rfl, fun w => mv (t := 7) (Or.inl rfl) rfl⟩) ?_
  show wpAny _ _ _ _ _ #[true, true, true, true, false, false, false, false, false, false, false, false, false, false] ⟨#[t0, t1, .int .i64 (q : Int), t3, t4, t5, t6, .slice (some ⟨g, 0, none⟩) m c, t8, t9, t10, t11, t12, t13, t14, t15, t16, t17, t18, t19, t20, t21, t22, t23, t24, t25, t26, t27, t28, t29, t30, t31, t32, t33, t34, .slice (some ⟨g, 0, none⟩) m c, .int .i64 (q : Int), .int .i64 ((q / 8 : Nat) : Int), .slice (some ⟨g, 0, none⟩) m c, t39, t40, t41, t42, t43, t44, t45, t46, t47, t48, t49, t50, t51, t52, t53, t54, t55, t56, t57, t58, t59, t60, t61, t62, t63, t64, t65, t66, t67, t68, t69, t70, t71, t72, t73, t74, t75, t76, t77, t78, t79, t80, t81, t82, t83, t84, t85, t86, t87], d⟩ W0
  refine wpAny_take (i := 4) (v := .int .i64 (q : Int)) rfl (by kernel_rfl) (by kernel_rfl) (by kernel_rfl) (fun _ _ _ q => hQ _ _ _ _ _ q) (Or.inl ⟨by kernel_rfl, fun w => mv (t := 2) (Or.inl rfl) rfl⟩) ?_
  show wpAny _ _ _ _ _ #[true, true, true, true, true, false, false, false, false, false, false, false, false, false] ⟨#[t0, t1, .int .i64 (q : Int), t3, t4, t5, t6, .slice (some ⟨g, 0, none⟩) m c, t8, t9, t10, t11, t12, t13, t14, t15, t16, t17, t18, t19, t20, t21, t22, t23, t24, t25, t26, t27, t28, t29, t30, t31, t32, t33, t34, .slice (some ⟨g, 0, none⟩) m c, .int .i64 (q : Int), .int .i64 ((q / 8 : Nat) : Int), .slice (some ⟨g, 0, none⟩) m c, .int .i64 (q : Int), t40, t41, t42, t43, t44, t45, t46, t47, t48, t49, t50, t51, t52, t53, t54, t55, t56, t57, t58, t59, t60, t61, t62, t63, t64, t65, t66, t67, t68, t69, t70, t71, t72, t73, t74, t75, t76, t77, t78, t79, t80, t81, t82, t83, t84, t85, t86, t87], d⟩ W0
  refine wpAny_take (i := 5) (v := .int .i64 ((q / 8 : Nat) : Int)) rfl (by kernel_rfl) (by kernel_rfl) (by kernel_rfl) (fun _ _ _ q => hQ _ _ _ _ _ q) (Or.inl ⟨by kernel_rfl, fun w => quo8 (t := 39) rfl rfl (by omega)⟩) ?_
  show wpAny _ _ _ _ _ #[true, true, true, true, true, true, false, false, false, false, false, false, false, false] ⟨#[t0, t1, .int .i64 (q : Int), t3, t4, t5, t6, .slice (some ⟨g, 0, none⟩) m c, t8, t9, t10, t11, t12, t13, t14, t15, t16, t17, t18, t19, t20, t21, t22, t23, t24, t25, t26, t27, t28, t29, t30, t31, t32, t33, t34, .slice (some ⟨g, 0, none⟩) m c, .int .i64 (q : Int), .int .i64 ((q / 8 : Nat) : Int), .slice (some ⟨g, 0, none⟩) m c, .int .i64 (q : Int), .int .i64 ((q / 8 : Nat) : Int), t41, t42, t43, t44, t45, t46, t47, t48, t49, t50, t51, t52, t53, t54, t55, t56, t57, t58, t59, t60, t61, t62, t63, t64, t65, t66, t67, t68, t69, t70, t71, t72, t73, t74, t75, t76, t77, t78, t79, t80, t81, t82, t83, t84, t85, t86, t87], d⟩ W0
  refine wpAny_take (i := 6) (v := .pointer (some ⟨g, q / 8, none⟩)) rfl (by kernel_rfl) (by kernel_rfl) (by kernel_rfl) (fun _ _ _ q => hQ _ _ _ _ _ q) (Or.inl ⟨by kernel_rfl, fun w => ia29 (t := 38) (s := 40) rfl rfl rfl hq (by omega)⟩) ?_
  show wpAny _ _ _ _ _ #[true, true, true, true, true, true, true, false, false, false, false, false, false, false] ⟨#[t0, t1, .int .i64 (q : Int), t3, t4, t5, t6, .slice (some ⟨g, 0, none⟩) m c, t8, t9, t10, t11, t12, t13, t14, t15, t16, t17, t18, t19, t20, t21, t22, t23, t24, t25, t26, t27, t28, t29, t30, t31, t32, t33, t34, .slice (some ⟨g, 0, none⟩) m c, .int .i64 (q : Int), .int .i64 ((q / 8 : Nat) : Int), .slice (some ⟨g, 0, none⟩) m c, .int .i64 (q : Int), .int .i64 ((q / 8 : Nat) : Int), .pointer (some ⟨g, q / 8, none⟩), t42, t43, t44, t45, t46, t47, t48, t49, t50, t51, t52, t53, t54, t55, t56, t57, t58, t59, t60, t61, t62, t63, t64, t65, t66, t67, t68, t69, t70, t71, t72, t73, t74, t75, t76, t77, t78, t79, t80, t81, t82, t83, t84, t85, t86, t87], d⟩ W0
  refine wpAny_take (i := 8) (v := .int .i64 (q : Int)) rfl (by kernel_rfl) (by kernel_rfl) (by kernel_rfl) (fun _ _ _ q => hQ _ _ _ _ _ q) (Or.inl ⟨by kernel_rfl, fun w => mv (t := 2) (Or.inl rfl) rfl⟩) ?_
  show wpAny _ _ _ _ _ #[true, true, true, true, true, true, true, false, true, false, false, false, false, false] ⟨#[t0, t1, .int .i64 (q : Int), t3, t4, t5, t6, .slice (some ⟨g, 0, none⟩) m c, t8, t9, t10, t11, t12, t13, t14, t15, t16, t17, t18, t19, t20, t21, t22, t23, t24, t25, t26, t27, t28, t29, t30, t31, t32, t33, t34, .slice (some ⟨g, 0, none⟩) m c, .int .i64 (q : Int), .int .i64 ((q / 8 : Nat) : Int), .slice (some ⟨g, 0, none⟩) m c, .int .i64 (q : Int), .int .i64 ((q / 8 : Nat) : Int), .pointer (some ⟨g, q / 8, none⟩), t42, .int .i64 (q : Int), t44, t45, t46, t47, t48, t49, t50, t51, t52, t53, t54, t55, t56, t57, t58, t59, t60, t61, t62, t63, t64, t65, t66, t67, t68, t69, t70, t71, t72, t73, t74, t75, t76, t77, t78, t79, t80, t81, t82, t83, t84, t85, t86, t87], d⟩ W0
  refine wpAny_take (i := 9) (v := .int .i64 ((q % 8 : Nat) : Int)) rfl (by kernel_rfl) (by kernel_rfl) (by kernel_rfl) (fun _ _ _ q => hQ _ _ _ _ _ q) (Or.inl ⟨by kernel_rfl, fun w => rem8 (t := 43) rfl rfl (by omega)⟩) ?_
  show wpAny _ _ _ _ _ #[true, true, true, true, true, true, true, false, true, true, false, false, false, false] ⟨#[t0, t1, .int .i64 (q : Int), t3, t4, t5, t6, .slice (some ⟨g, 0, none⟩) m c, t8, t9, t10, t11, t12, t13, t14, t15, t16, t17, t18, t19, t20, t21, t22, t23, t24, t25, t26, t27, t28, t29, t30, t31, t32, t33, t34, .slice (some ⟨g, 0, none⟩) m c, .int .i64 (q : Int), .int .i64 ((q / 8 : Nat) : Int), .slice (some ⟨g, 0, none⟩) m c, .int .i64 (q : Int), .int .i64 ((q / 8 : Nat) : Int), .pointer (some ⟨g, q / 8, none⟩), t42, .int .i64 (q : Int), .int .i64 ((q % 8 : Nat) : Int), t45, t46, t47, t48, t49, t50, t51, t52, t53, t54, t55, t56, t57, t58, t59, t60, t61, t62, t63, t64, t65, t66, t67, t68, t69, t70, t71, t72, t73, t74, t75, t76, t77, t78, t79, t80, t81, t82, t83, t84, t85, t86, t87], d⟩ W0
  refine wpAny_take (i := 10) (v := .int .u8 ((2 ^ (q % 8) : Nat) : Int)) rfl (by kernel_rfl) (by kernel_rfl) (by kernel_rfl) (fun _ _ _ q => hQ _ _ _ _ _ q) (Or.inl ⟨by kernel_rfl, fun w => shl8 (t := 44) rfl rfl (by omega)⟩) ?_
  show wpAny _ _ _ _ _ #[true, true, true, true, true, true, true, false, true, true, true, false, false, false] ⟨#[t0, t1, .int .i64 (q : Int), t3, t4, t5, t6, .slice (some ⟨g, 0, none⟩) m c, t8, t9, t10, t11, t12, t13, t14, t15, t16, t17, t18, t19, t20, t21, t22, t23, t24, t25, t26, t27, t28, t29, t30, t31, t32, t33, t34, .slice (some ⟨g, 0, none⟩) m c, .int .i64 (q : Int), .int .i64 ((q / 8 : Nat) : Int), .slice (some ⟨g, 0, none⟩) m c, .int .i64 (q : Int), .int .i64 ((q / 8 : Nat) : Int), .pointer (some ⟨g, q / 8, none⟩), t42, .int .i64 (q : Int), .int .i64 ((q % 8 : Nat) : Int), .int .u8 ((2 ^ (q % 8) : Nat) : Int), t46, t47, t48, t49, t50, t51, t52, t53, t54, t55, t56, t57, t58, t59, t60, t61, t62, t63, t64, t65, t66, t67, t68, t69, t70, t71, t72, t73, t74, t75, t76, t77, t78, t79, t80, t81, t82, t83, t84, t85, t86, t87], d⟩ W0
  refine wpAny_ready (rs := [7]) (by kernel_rfl) (by simp) (AllReady.cons rfl (fun K hK => ?_) AllReady.nil)
  rw [if_pos (by kernel_rfl)]
  unfold Oper.wp
  rw [ld5 (W := W0) (t := 41) rfl rfl X, Oper.upon_value]
  refine hK _ _ ?_
  clear hK K
  show wpAny _ _ _ _ _ #[true, true, true, true, true, true, true, true, true, true, true, false, false, false] ⟨#[t0, t1, .int .i64 (q : Int), t3, t4, t5, t6, .slice (some ⟨g, 0, none⟩) m c, t8, t9, t10, t11, t12, t13, t14, t15, t16, t17, t18, t19, t20, t21, t22, t23, t24, t25, t26, t27, t28, t29, t30, t31, t32, t33, t34, .slice (some ⟨g, 0, none⟩) m c, .int .i64 (q : Int), .int .i64 ((q / 8 : Nat) : Int), .slice (some ⟨g, 0, none⟩) m c, .int .i64 (q : Int), .int .i64 ((q / 8 : Nat) : Int), .pointer (some ⟨g, q / 8, none⟩), .int .u8 (x : Int), .int .i64 (q : Int), .int .i64 ((q % 8 : Nat) : Int), .int .u8 ((2 ^ (q % 8) : Nat) : Int), t46, t47, t48, t49, t50, t51, t52, t53, t54, t55, t56, t57, t58, t59, t60, t61, t62, t63, t64, t65, t66, t67, t68, t69, t70, t71, t72, t73, t74, t75, t76, t77, t78, t79, t80, t81, t82, t83, t84, t85, t86, t87], d⟩ W0
  refine wpAny_take (i := 11) (v := .int .u8 ((x ^^^ 2 ^ (q % 8) : Nat) : Int)) rfl (by kernel_rfl) (by kernel_rfl) (by kernel_rfl) (fun _ _ _ q => hQ _ _ _ _ _ q) (Or.inl ⟨by kernel_rfl, fun w => xor8 (t := 42) (s := 45) rfl rfl rfl hx (pow8 (by omega))⟩) ?_
  show wpAny _ _ _ _ _ #[true, true, true, true, true, true, true, true, true, true, true, true, false, false] ⟨#[t0, t1, .int .i64 (q : Int), t3, t4, t5, t6, .slice (some ⟨g, 0, none⟩) m c, t8, t9, t10, t11, t12, t13, t14, t15, t16, t17, t18, t19, t20, t21, t22, t23, t24, t25, t26, t27, t28, t29, t30, t31, t32, t33, t34, .slice (some ⟨g, 0, none⟩) m c, .int .i64 (q : Int), .int .i64 ((q / 8 : Nat) : Int), .slice (some ⟨g, 0, none⟩) m c, .int .i64 (q : Int), .int .i64 ((q / 8 : Nat) : Int), .pointer (some ⟨g, q / 8, none⟩), .int .u8 (x : Int), .int .i64 (q : Int), .int .i64 ((q % 8 : Nat) : Int), .int .u8 ((2 ^ (q % 8) : Nat) : Int), .int .u8 ((x ^^^ 2 ^ (q % 8) : Nat) : Int), t47, t48, t49, t50, t51, t52, t53, t54, t55, t56, t57, t58, t59, t60, t61, t62, t63, t64, t65, t66, t67, t68, t69, t70, t71, t72, t73, t74, t75, t76, t77, t78, t79, t80, t81, t82, t83, t84, t85, t86, t87], d⟩ W0
  refine wpAny_take (i := 12) (v := .pointer (some ⟨g, q / 8, none⟩)) rfl (by kernel_rfl) (by kernel_rfl) (by kernel_rfl) (fun _ _ _ q => hQ _ _ _ _ _ q) (Or.inl ⟨by kernel_rfl, fun w => ia29 (t := 35) (s := 37) rfl rfl rfl hq (by omega)⟩) ?_
  show wpAny _ _ _ _ _ #[true, true, true, true, true, true, true, true, true, true, true, true, true, false] ⟨#[t0, t1, .int .i64 (q : Int), t3, t4, t5, t6, .slice (some ⟨g, 0, none⟩) m c, t8, t9, t10, t11, t12, t13, t14, t15, t16, t17, t18, t19, t20, t21, t22, t23, t24, t25, t26, t27, t28, t29, t30, t31, t32, t33, t34, .slice (some ⟨g, 0, none⟩) m c, .int .i64 (q : Int), .int .i64 ((q / 8 : Nat) : Int), .slice (some ⟨g, 0, none⟩) m c, .int .i64 (q : Int), .int .i64 ((q / 8 : Nat) : Int), .pointer (some ⟨g, q / 8, none⟩), .int .u8 (x : Int), .int .i64 (q : Int), .int .i64 ((q % 8 : Nat) : Int), .int .u8 ((2 ^ (q % 8) : Nat) : Int), .int .u8 ((x ^^^ 2 ^ (q % 8) : Nat) : Int), .pointer (some ⟨g, q / 8, none⟩), t48, t49, t50, t51, t52, t53, t54, t55, t56, t57, t58, t59, t60, t61, t62, t63, t64, t65, t66, t67, t68, t69, t70, t71, t72, t73, t74, t75, t76, t77, t78, t79, t80, t81, t82, t83, t84, t85, t86, t87], d⟩ W0
  refine wpAny_ready (rs := [13]) (by kernel_rfl) (by simp) (AllReady.cons rfl (fun K hK => ?_) AllReady.nil)
  rw [if_pos (by kernel_rfl)]
  unfold Oper.wp
  rw [st5 (W := W0) (t := 47) (s := 46) X FX rfl rfl rfl, Oper.upon_skip]
  refine hK _ _ ?_
  clear hK K
  show wpAny _ _ _ _ _ #[true, true, true, true, true, true, true, true, true, true, true, true, true, true] ⟨#[t0, t1, .int .i64 (q : Int), t3, t4, t5, t6, .slice (some ⟨g, 0, none⟩) m c, t8, t9, t10, t11, t12, t13, t14, t15, t16, t17, t18, t19, t20, t21, t22, t23, t24, t25, t26, t27, t28, t29, t30, t31, t32, t33, t34, .slice (some ⟨g, 0, none⟩) m c, .int .i64 (q : Int), .int .i64 ((q / 8 : Nat) : Int), .slice (some ⟨g, 0, none⟩) m c, .int .i64 (q : Int), .int .i64 ((q / 8 : Nat) : Int), .pointer (some ⟨g, q / 8, none⟩), .int .u8 (x : Int), .int .i64 (q : Int), .int .i64 ((q % 8 : Nat) : Int), .int .u8 ((2 ^ (q % 8) : Nat) : Int), .int .u8 ((x ^^^ 2 ^ (q % 8) : Nat) : Int), .pointer (some ⟨g, q / 8, none⟩), t48, t49, t50, t51, t52, t53, t54, t55, t56, t57, t58, t59, t60, t61, t62, t63, t64, t65, t66, t67, t68, t69, t70, t71, t72, t73, t74, t75, t76, t77, t78, t79, t80, t81, t82, t83, t84, t85, t86, t87], d⟩ _
  refine wpAny_done (by kernel_rfl) ?_ _
  exact h _ _ _ _ _ _ _ _ _ _ _ _ _
end
end
section
open Go.RowKit
set_option maxRecDepth 100000

theorem byV_set (l : List UInt8) (j : Nat) (y : UInt8) : byV (l.set j y) = (byV l).set j (.int .u8 y.toNat) := by unfold byV; rw [List.map_set]
theorem OwnB.set {w : World} {B g n c : Nat} {l : List UInt8} (h : OwnB w B (.slice (some ⟨g, 0, none⟩) n c) l) (j : Nat) (y : UInt8) : OwnB (w.setCell ⟨g, j, none⟩ (.int .u8 y.toNat)) B (.slice (some ⟨g, 0, none⟩) n c) (l.set j y) := by
  have hn : n = l.length := by
    rcases h.1.2 with ⟨hv, _⟩ | ⟨g', cap, cur, hv, _⟩
    · cases hv
    · injection hv
  subst hn
  refine ⟨?_, by simpa using h.2⟩
  rw [byV_set, List.length_set]
  exact (World.ownsRow.stored h.1 j (.int .u8 y.toNat)).1
set_option maxHeartbeats 2400000 in
theorem tempBit_walk (w : World) (p : Nat) (hp : p < 18446744073709551616) (L : List Ent) (hE : ∀ e ∈ L, EntIs e) (v : Value) (bit : Int) (hcu : -9223372036854775808 ≤ bit ∧ bit ≤ 9223372036854775807) (h : EsAt w v L) (T : Tabs w) : Calls Tryd.prog 6 #[.int .u64 (p : Int), v, .int .i64 bit] w (RetTrue w) := by
  have HPR : Hid (Calls Tryd.prog 14 #[v] w (PrP w L)) := Lib.hid (by
    obtain ⟨a, c, rfl, h1, h2, h3⟩ := h
    exact proper_raw w L hE a _ c rfl (by omega) ⟨a, c, rfl, h1, h2, h3⟩)
  have HE := Lib.hid hE
  have HT := Lib.hid T
  have HP := Lib.hid hp
  have HCU := Lib.hid hcu
  clear h hE T hp hcu
  go_enter Tryd.func6, Tryd.ntmps6
  go_wp2_with fail
  with_reducible refine HPR.out.mono ?_
  rintro z w1 ⟨v1, us1, rfl, O1, b1⟩
  clear HPR
  have HCD := Lib.hid (coded_ok w1 p HP.out (pr L) (fun e he => HE.out e (pr_mem he).1) (fun e he => (pr_mem he).2.2) (pr_le L) O1.es (HT.out.below b1))
  have HO1 := Lib.hid O1
  have HB1 := Lib.hid b1
  clear O1 b1
  go_wp2_with fail
  with_reducible refine HCD.out.mono ?_
  rintro z w2 ⟨vb, va, rfl, OB, OA, b2⟩
  clear HCD
  have hjm : ∀ e ∈ jobE p :: pr L, May e := fun e he => by
    rcases List.mem_cons.1 he with rfl | he
    · exact jobE_may p
    · exact (pr_mem he).2.2
  have hji := job_is HP.out L HE.out
  have hjo := frsOk_job HP.out L HE.out
  have hjl : (jobE p :: pr L).length ≤ 201 := by have := pr_le L; rw [List.length_cons]; omega
  have hsm := frs_small p L
  have hl1 : (ats (jobE p :: pr L) (pr L).length).length = (jobE p :: pr L).length := by rw [ats_len, List.length_cons]
  obtain ⟨M, hM⟩ : ∃ M, M = jobE p :: pr L := ⟨_, rfl⟩
  obtain ⟨gb, bc, rfl⟩ : ∃ g c, vb = .slice (some ⟨g, 0, none⟩) (frs 0 M).length c := by
    rcases OB.1.2 with ⟨_, hn⟩ | ⟨g, cap, cur, hv, _⟩
    · exfalso
      rw [frs, List.length_append, frameE_len] at hn
      omega
    · exact ⟨g, cap, by rw [hM]; exact hv⟩
  obtain ⟨ga, ac, rfl⟩ : ∃ g c, va = .slice (some ⟨g, 0, none⟩) M.length c := by
    rcases OA.1.2 with ⟨_, hn⟩ | ⟨g, cap, cur, hv, _⟩
    · rw [hl1] at hn
      simp at hn
    · exact ⟨g, cap, by rw [hM, ← hl1]; exact hv⟩
  have hMp : M.length = (pr L).length + 1 := by rw [hM, List.length_cons]
  rw [← hM] at OB OA hjm hji hjo hjl hsm hl1
  have hat : ∀ i, i < M.length → w2.cell? ⟨ga, i, none⟩ = some (.int .i64 ((off M i : Nat) : Int)) := fun i hi => OA.own.cell i _ (ats_off M _ i (by omega))
  have gaL : ga < w2.heap.size := OA.own.lt rfl
  have HAT := Lib.hid hat
  have HGA := Lib.hid gaL
  have HSB := Lib.hid OB.slc
  have hgg : ga ≠ gb := by
    rcases OA.1.2 with ⟨hv, _⟩ | ⟨g1, cap1, cur1, hv1, _, hg1, _⟩
    · cases hv
    · rcases OB.1.2 with ⟨hv, _⟩ | ⟨g2, cap2, cur2, hv2, _, hg2, _⟩
      · cases hv
      · injection hv1 with e1 _ _
        injection e1 with e1
        injection e1 with e1
        injection hv2 with e2 _ _
        injection e2 with e2
        injection e2 with e2
        intro e
        rw [← e1] at hg1
        rw [← e2, ← e, hg1] at hg2
        injection hg2 with hg2
        injection hg2 with _ h5
        exact absurd h5 (by decide)
  have HGG := Lib.hid hgg
  have HGB := Lib.hid (OB.1.lt gb rfl)
  have HOB := Lib.hid OB
  have HFR := Lib.hid (fun j => (OB.1.frozenAt j : w2.frozen? ⟨gb, j, none⟩ = false))
  have HB12 := Lib.hid b2
  clear hgg
  have HB2 := Lib.hid (HB1.out.trans (b2.mono HB1.out.size))
  have HJM := Lib.hid hjm
  have HJI := Lib.hid hji
  have HJO := Lib.hid hjo
  have HJL := Lib.hid hjl
  have HSM := Lib.hid hsm
  have HMM := Lib.hid hM
  clear OB OA hjm hji hjo hl1 hat gaL b2 hM
  obtain ⟨bl, hbl⟩ : ∃ bl, bl = (frs 0 M).length := ⟨_, rfl⟩
  rw [← hbl] at HSB HOB hsm ⊢
  obtain ⟨ml, hml⟩ : ∃ ml, ml = M.length := ⟨_, rfl⟩
  rw [← hml] at hjl hMp ⊢
  have HBL := Lib.hid hbl
  have HML := Lib.hid hml
  have HMP := Lib.hid hMp
  have ibl : (bl : Int) ≤ 90000 := by omega
  have iml : (ml : Int) ≤ 201 := by omega
  clear hbl hml hMp hsm hjl
  by_cases hc0 : bit < 0
  · have d1 : decide (bit < 0) = true := decide_eq_true hc0
    clear hc0
    go_wp2_with fail
    go_ret
    exact ⟨rfl, HB2.out⟩
  · have d1 : decide (bit < 0) = false := decide_eq_false hc0
    obtain ⟨q, rfl⟩ : ∃ c : Nat, bit = (c : Int) := ⟨bit.toNat, by omega⟩
    have h0 : (0 : Int) ≤ (q : Int) := by omega
    have hq63 : (q : Int) ≤ 9223372036854775807 := HCU.out.2
    by_cases hcb : bl ≤ q / 8
    · have d2 : decide ((bl : Int) ≤ (q : Int) / 8) = true := decide_eq_true (by omega)
      have d3 : decide ((q : Int) / 8 ≥ (bl : Int)) = true := decide_eq_true (by omega)
      have d4 : decide (bl ≤ q / 8) = true := decide_eq_true hcb
      clear hc0 hcb
      go_wp2_with fail
      go_ret
      exact ⟨rfl, HB2.out⟩
    · have d2 : decide ((bl : Int) ≤ (q : Int) / 8) = false := decide_eq_false (by omega)
      have d3 : decide ((q : Int) / 8 ≥ (bl : Int)) = false := decide_eq_false (by omega)
      have d4 : decide (bl ≤ q / 8) = false := decide_eq_false hcb
      have HCB := Lib.hid hcb
      clear hc0 hcb
      go_upto_region 7 with fail
      rename_i KK hKK
      have hjl : q / 8 < (frs 0 M).length := by have := HCB.out; have := HBL.out; omega
      obtain ⟨x, hx⟩ : ∃ x : UInt8, x = (frs 0 M)[q / 8] := ⟨_, rfl⟩
      have hx256 := x.toNat_lt
      have xc : w2.drew.cell? ⟨gb, q / 8, none⟩ = some (.int .u8 (x.toNat : Int)) := by
        obtain ⟨_, _, _, _, hc⟩ := HSB.out.lens
        have := hc (q / 8) x (by rw [hx]; exact List.getElem?_eq_getElem hjl)
        rw [Nat.zero_add] at this
        exact this
      refine regBit (fun _ _ _ _ _ h => h) (by have := HCB.out; omega) (by omega) hx256 xc (HFR.out (q / 8)) ?_
      intro v35 v36 v37 v38 v39 v40 v41 v42 v43 v44 v45 v46 v47
      refine hKK _ _ ?_
      have p256 : x.toNat ^^^ 2 ^ (q % 8) < 256 := Nat.xor_lt_two_pow (n := 8) hx256 (pow8 (by omega))
      obtain ⟨y, hy⟩ : ∃ y : UInt8, y.toNat = x.toNat ^^^ 2 ^ (q % 8) := ⟨UInt8.ofNat (x.toNat ^^^ 2 ^ (q % 8)), by rw [UInt8.toNat_ofNat', Nat.mod_eq_of_lt p256]⟩
      rw [← hy]
      have hne : (frs 0 M)[q / 8]? ≠ some y := by
        rw [List.getElem?_eq_getElem hjl, ← hx]
        intro e
        injection e with e
        rw [← e] at hy
        have : (0 : Nat) = 2 ^ (q % 8) := xor_lc (c := x.toNat) (by rw [Nat.xor_zero]; exact hy)
        have hp := Nat.pow_pos (a := 2) (n := q % 8) (by omega)
        omega
      have OB' := OwnB.set (w := w2.drew) (HOB.out.below (below_drewN w2 1)) (q / 8) y
      have KB : Below w1.heap.size w1 (w2.drew.setCell ⟨gb, q / 8, none⟩ (.int .u8 (y.toNat : Int))) := (HB12.out.trans (bdrewB (Below.refl _ _) 1)).setCell (p := ⟨gb, q / 8, none⟩) HGB.out.1 _
      have HAT' : ∀ i, i < M.length → (w2.drew.setCell ⟨gb, q / 8, none⟩ (.int .u8 (y.toNat : Int))).cell? ⟨ga, i, none⟩ = some (.int .i64 ((off M i : Nat) : Int)) := fun i hi => (World.cell?_setCell_other _ _ _ _ (fun e => HGG.out (congrArg Addr.block e).symm)).trans (HAT.out i hi)
      have HGA' : ga < (w2.drew.setCell ⟨gb, q / 8, none⟩ (.int .u8 (y.toNat : Int))).heap.size := by simpa using HGA.out
      have HNE := Lib.hid hne
      have HOB2 := Lib.hid OB'
      have HKB := Lib.hid KB
      have HO2 := Lib.hid (HO1.out.below KB)
      have HATT := Lib.hid HAT'
      have HGAA := Lib.hid HGA'
      have HB3 := Lib.hid (HB1.out.trans (KB.mono HB1.out.size))
      clear OB' KB HAT' HGA' hne xc hx hx256 p256 hy hjl HAT HGA HOB HFR HB12 HGB HGG HO1 HSB hKK d1 d2 d3 d4 HB2 HB1
      generalize w2.drew.setCell ⟨gb, q / 8, none⟩ (.int .u8 (y.toNat : Int)) = w3 at *
      have HJ8 := Lib.hid (show q / 8 < bl by have := HCB.out; omega)
      go_wp2_with fail
      go_loopw [10, 11] (fun x i wr => WhRel w3 M (q / 8) x i wr) (fun _ i _ => ml - (intOf i).toNat)
      case atStart => exact ⟨0, 0, 0, Nat.zero_le _, rfl, rfl, Or.inr rfl, by rw [off_zero]; exact Nat.zero_le _, fun j h1 h2 => by omega, rfl⟩
      case round =>
        obtain ⟨k, t, yy, hk, rfl, rfl, htk, h1, h2, rfl⟩ := hrel
        by_cases hlt : k < ml
        · have hkM : k < M.length := by have := HML.out; omega
          have xk := ((bcell (below_drewN w3 yy)).1 ga k HGAA.out).trans (HATT.out k hkM)
          have ik : (k : Int) < (ml : Int) := by omega
          by_cases hle : off M k ≤ q / 8
          · have d1 : decide (((off M k : Nat) : Int) ≤ (q : Int) / 8) = true := decide_eq_true (by omega)
            have d2 : decide (off M k ≤ q / 8) = true := decide_eq_true hle
            have KEY := Lib.hid (show WhRel w3 M (q / 8) (.int .i64 (k : Int)) (.int .i64 ((k : Int) + 1)) (w3.drewN yy) from ⟨k + 1, k, yy, hkM, by go_num, rfl, Or.inl (Nat.lt_succ_self k), hle, fun j a b => by omega, rfl⟩)
            clear h1 h2 htk hle hkM hk
            generalize off M k = ok at *
            go_wp2_with fail
            exact ⟨KEY.out, by simp [intOf]; omega⟩
          · have d1 : decide (((off M k : Nat) : Int) ≤ (q : Int) / 8) = false := decide_eq_false (by omega)
            have d2 : decide (off M k ≤ q / 8) = false := decide_eq_false hle
            have KEY := Lib.hid (show WhRel w3 M (q / 8) (.int .i64 (t : Int)) (.int .i64 ((k : Int) + 1)) (w3.drewN yy) from ⟨k + 1, t, yy, hkM, by go_num, rfl, by omega, h1, fun j a b => by
              by_cases e : j = k
              · subst e; omega
              · exact h2 j a (by omega), rfl⟩)
            clear h1 h2 htk hle hkM hk
            generalize off M k = ok at *
            go_wp2_with fail
            exact ⟨KEY.out, by simp [intOf]; omega⟩
        · obtain rfl : k = ml := by have := HML.out; omega
          have ht : t < M.length := by have := HML.out; have := HMP.out; omega
          have hcut : q / 8 < off M (t + 1) := by
            by_cases e : t + 1 < M.length
            · exact h2 (t + 1) (by omega) (by have := HML.out; omega)
            · rw [off_all M (t + 1) (by omega), ← HBL.out]; exact HJ8.out
          have hdec := dec_flip M HJO.out HJM.out (by have := HML.out; omega) t (q / 8) y ht h1 hcut HNE.out
          have D := decode_ok (w3.drewN yy) _ _ (HOB2.out.slc.below (below_drewN w3 yy)) (by rw [List.length_set]; have := HSM.out; omega) (HT.out.below (HB3.out.trans ((below_drewN w3 yy).mono HB3.out.size)))
          unfold DeP at D
          rw [hdec] at D
          have HXT := Lib.hid (HATT.out t ht)
          have HD := Lib.hid D
          have HTM := Lib.hid ht
          have it : (t : Int) < (k : Int) := by have := HML.out; omega
          obtain ⟨ot, hot⟩ : ∃ ot, ot = off M t := ⟨_, rfl⟩
          rw [← hot] at HXT HD
          clear h1 h2 htk hcut hdec D ht hlt hk hot
          go_wp2_with fail
          with_reducible refine HD.out.mono ?_
          rintro z w4 ⟨v3, us3, rfl, E3, b3⟩
          clear HD
          have c3 : Below w3.heap.size w3 w4 := (below_drewN w3 yy).trans b3
          have xt := ((bcell c3).1 ga t HGAA.out).trans HXT.out
          have HE3 := Lib.hid E3.es
          have HB4 := Lib.hid (HB3.out.trans (c3.mono HB3.out.size))
          have HJ := Lib.hid (job_ok w4 p (pr L) (pr_le L) _ _ _ (HO2.out.below c3))
          clear E3 b3 HO2 HB3 c3
          go_wp2_with fail
          refine (num_ok _ w4).mono ?_
          rintro e w9 ⟨rfl, rfl⟩
          go_wp2_with fail
          with_reducible refine HJ.out.mono ?_
          rintro z w5 ⟨v4, us4, rfl, E4, b4⟩
          clear HJ xt
          obtain ⟨g4, c4, rfl⟩ : ∃ g c, v4 = .slice (some ⟨g, 0, none⟩) k c := by
            rcases E4.own.2 with ⟨_, hn⟩ | ⟨g, cap, cur, hv, _⟩
            · simp at hn
            · exact ⟨g, cap, by rw [HMP.out]; exact hv⟩
          have hkc : k ≤ c4 := by obtain ⟨a', c', hv, h1, _⟩ := E4.es; injection hv with e1 e2 e3; subst e3; have := HMP.out; rw [List.length_cons] at h1; omega
          have itc : (t : Int) ≤ (c4 : Int) := by omega
          have E5 := E4.es
          rw [← HMM.out] at E5
          have HEN := Lib.hid (entries_ok w5 (M.take t) (M.take t) (fun e he => HJI.out e (List.mem_of_mem_take he)) (HE3.out.below b4) (E5.take t (by have := HTM.out; omega)) true (by simp))
          have HB5 := Lib.hid (HB4.out.trans (b4.mono HB4.out.size))
          clear E4 E5 b4 HE3 HB4 hkc
          go_wp2_with fail
          with_reducible refine HEN.out.mono ?_
          rintro z w6 ⟨rfl, b5⟩
          clear HEN
          go_wp2_with fail
          go_ret
          exact ⟨rfl, HB5.out.trans (b5.mono HB5.out.size)⟩
end
end Go.Proofs.YtlbekgcfafofdaaDoor
