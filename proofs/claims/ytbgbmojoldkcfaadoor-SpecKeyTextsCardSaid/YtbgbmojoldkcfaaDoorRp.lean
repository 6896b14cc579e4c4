/- PrintKey, the document's. -/
import Derived.Test.YtbgbmojoldkcfaaDoorKt
namespace Go.Proofs.YtbgbmojoldkcfaaDoor
open Go.RowKit

set_option maxRecDepth 100000
def RetPk (w : World) (l : List UInt8) (n : Int) (e : Ending) (w' : World) : Prop := e = .returned (.tuple #[.string (bsk l), .int .i64 n]) ∧ Below w.heap.size w w'
theorem keyT_len (f c ef ec : Int) (m : Nat) (b : Bool) (bf : f ≤ 9223372036854775807) (bc : c ≤ 9223372036854775807) (be : ef ≤ 9223372036854775807) (bd : ec ≤ 9223372036854775807) : (keyT f c ef ec m b).length ≤ 100 := by
  have L1 := dg19 f bf
  have L2 := dg19 c bc
  have L3 := dg19 ef be
  have L4 := dg19 ec bd
  have L5 := let10 m
  have a : (if c = 1 then ([] : List UInt8) else 46 :: dgT c.toNat).length ≤ 20 := by split <;> simp only [List.length_nil, List.length_cons] <;> omega
  have d : (if ec = 0 then ([] : List UInt8) else 46 :: dgT ec.toNat).length ≤ 20 := by split <;> simp only [List.length_nil, List.length_cons] <;> omega
  have e : (if b then [98] else ([] : List UInt8)).length ≤ 1 := by cases b <;> simp
  have g : (endT ef ec b).length ≤ 41 := by
    unfold endT
    split
    · simp
    · simp only [List.length_cons, List.length_append]; omega
  unfold keyT
  simp only [List.length_append]
  omega
set_option maxHeartbeats 3200000 in
theorem rp_hold (f c ef ec : Int) (m : Nat) (b : Bool) (w : World) (hm : m < 65536) (bf : f ≤ 9223372036854775807) (bc : c ≤ 9223372036854775807) (be : ef ≤ 9223372036854775807) (bd : ec ≤ 9223372036854775807) (h : Holds f c ef ec m b) :
    Calls Tryd.prog 14 #[.agg #[.int .i64 f, .int .i64 c, .int .i64 ef, .int .i64 ec, .int .u16 (m : Int), .bool b]] w (RetPk w (keyT f c ef ec m b) 0) := by
  have K := Lib.hid (fun w => kt_ok f c ef ec m b w hm bf bc be bd)
  have hk := key_hold h
  have hl := keyT_len f c ef ec m b bf bc be bd
  obtain ⟨T, hT⟩ : ∃ T, T = keyT f c ef ec m b := ⟨_, rfl⟩
  rw [← hT] at hl hk K ⊢
  have R := Lib.hid (fun w => rkey_ok (bsk T) w (by rw [bsk_size]; omega))
  rw [bsk_list, hk] at R
  obtain ⟨F, rfl⟩ : ∃ F : Nat, f = F := ⟨f.toNat, by have := h.f1; omega⟩
  obtain ⟨C, rfl⟩ : ∃ F : Nat, c = F := ⟨c.toNat, by have := h.c1; omega⟩
  obtain ⟨E, rfl⟩ : ∃ F : Nat, ef = F := ⟨ef.toNat, by have := h.e1; omega⟩
  obtain ⟨D, rfl⟩ : ∃ F : Nat, ec = F := ⟨ec.toNat, by have := h.d1; omega⟩
  simp only [Int.toNat_natCast] at R
  clear hT hk hl h bf bc be bd
  have H0 := Lib.hid (KtIn.start w F C E D m b)
  go_enter Tryd.func14, Tryd.ntmps14
  go_wp2_with fail
  refine (K.out _).mono ?_
  rintro e w1 ⟨rfl, hb⟩
  have H1 := Lib.hid (H0.out.step hb)
  clear hb
  go_wp2_with fail
  refine (R.out _).mono ?_
  rintro e w2 ⟨he, hb⟩
  obtain rfl : e = .returned (.tuple #[.agg #[.int .i64 (F : Int), .int .i64 (C : Int), .int .i64 (E : Int), .int .i64 (D : Int), .int .u16 (m : Int), .bool b], .int .i64 0, .int .i64 0]) := he
  have H2 := Lib.hid (H1.out.step hb)
  clear hb
  have k0 := H2.out.key.cell 0 _ rfl
  have k1 := H2.out.key.cell 1 _ rfl
  have k2 := H2.out.key.cell 2 _ rfl
  have k3 := H2.out.key.cell 3 _ rfl
  have k4 := H2.out.key.cell 4 _ rfl
  have k5 := H2.out.key.cell 5 _ rfl
  have kl := H2.out.key.lt
  go_wp2_with fail
  go_ret2
  exact ⟨rfl, H2.out.below.alloc H2.out.below.size _⟩
set_option maxHeartbeats 3200000 in
theorem rp_not0 (f c ef ec : Int) (m : Nat) (b : Bool) (w : World) (T : List UInt8) (F C E D M : Nat) (B : Bool) (at_ : Nat) (u : ((F : Int) == f) = false)
    (K : Hid (∀ w, Calls Tryd.prog 33 #[.agg #[.int .i64 f, .int .i64 c, .int .i64 ef, .int .i64 ec, .int .u16 (m : Int), .bool b]] w (RetS w T)))
    (R : Hid (∀ w, Calls Tryd.prog 12 #[.string (bsk T)] w (RetKey w (⟨F, C, E, D, M, B⟩, at_, 0)))) :
    Calls Tryd.prog 14 #[.agg #[.int .i64 f, .int .i64 c, .int .i64 ef, .int .i64 ec, .int .u16 (m : Int), .bool b]] w (RetPk w [] 43) := by
  have H0 := Lib.hid (KtIn.start w f c ef ec m b)
  go_enter Tryd.func14, Tryd.ntmps14
  go_wp2_with fail
  refine (K.out _).mono ?_
  rintro e w1 ⟨rfl, hb⟩
  have H1 := Lib.hid (H0.out.step hb)
  clear hb
  go_wp2_with fail
  refine (R.out _).mono ?_
  rintro e w2 ⟨he, hb⟩
  obtain rfl : e = .returned (.tuple #[.agg #[.int .i64 (F : Int), .int .i64 (C : Int), .int .i64 (E : Int), .int .i64 (D : Int), .int .u16 (M : Int), .bool B], .int .i64 (at_ : Int), .int .i64 0]) := he
  have H2 := Lib.hid (H1.out.step hb)
  clear hb
  have k0 := H2.out.key.cell 0 _ rfl
  have k1 := H2.out.key.cell 1 _ rfl
  have k2 := H2.out.key.cell 2 _ rfl
  have k3 := H2.out.key.cell 3 _ rfl
  have k4 := H2.out.key.cell 4 _ rfl
  have k5 := H2.out.key.cell 5 _ rfl
  have kl := H2.out.key.lt
  go_wp2_with fail
  go_ret2
  exact ⟨rfl, H2.out.below.alloc H2.out.below.size _⟩
set_option maxHeartbeats 3200000 in
theorem rp_not1 (f c ef ec : Int) (m : Nat) (b : Bool) (w : World) (T : List UInt8) (F C E D M : Nat) (B : Bool) (at_ : Nat) (u : ((C : Int) == c) = false)
    (K : Hid (∀ w, Calls Tryd.prog 33 #[.agg #[.int .i64 f, .int .i64 c, .int .i64 ef, .int .i64 ec, .int .u16 (m : Int), .bool b]] w (RetS w T)))
    (R : Hid (∀ w, Calls Tryd.prog 12 #[.string (bsk T)] w (RetKey w (⟨F, C, E, D, M, B⟩, at_, 0)))) :
    Calls Tryd.prog 14 #[.agg #[.int .i64 f, .int .i64 c, .int .i64 ef, .int .i64 ec, .int .u16 (m : Int), .bool b]] w (RetPk w [] 43) := by
  have H0 := Lib.hid (KtIn.start w f c ef ec m b)
  go_enter Tryd.func14, Tryd.ntmps14
  go_wp2_with fail
  refine (K.out _).mono ?_
  rintro e w1 ⟨rfl, hb⟩
  have H1 := Lib.hid (H0.out.step hb)
  clear hb
  go_wp2_with fail
  refine (R.out _).mono ?_
  rintro e w2 ⟨he, hb⟩
  obtain rfl : e = .returned (.tuple #[.agg #[.int .i64 (F : Int), .int .i64 (C : Int), .int .i64 (E : Int), .int .i64 (D : Int), .int .u16 (M : Int), .bool B], .int .i64 (at_ : Int), .int .i64 0]) := he
  have H2 := Lib.hid (H1.out.step hb)
  clear hb
  have k0 := H2.out.key.cell 0 _ rfl
  have k1 := H2.out.key.cell 1 _ rfl
  have k2 := H2.out.key.cell 2 _ rfl
  have k3 := H2.out.key.cell 3 _ rfl
  have k4 := H2.out.key.cell 4 _ rfl
  have k5 := H2.out.key.cell 5 _ rfl
  have kl := H2.out.key.lt
  go_wp2_with fail
  go_ret2
  exact ⟨rfl, H2.out.below.alloc H2.out.below.size _⟩
set_option maxHeartbeats 3200000 in
theorem rp_not2 (f c ef ec : Int) (m : Nat) (b : Bool) (w : World) (T : List UInt8) (F C E D M : Nat) (B : Bool) (at_ : Nat) (u : ((E : Int) == ef) = false)
    (K : Hid (∀ w, Calls Tryd.prog 33 #[.agg #[.int .i64 f, .int .i64 c, .int .i64 ef, .int .i64 ec, .int .u16 (m : Int), .bool b]] w (RetS w T)))
    (R : Hid (∀ w, Calls Tryd.prog 12 #[.string (bsk T)] w (RetKey w (⟨F, C, E, D, M, B⟩, at_, 0)))) :
    Calls Tryd.prog 14 #[.agg #[.int .i64 f, .int .i64 c, .int .i64 ef, .int .i64 ec, .int .u16 (m : Int), .bool b]] w (RetPk w [] 43) := by
  have H0 := Lib.hid (KtIn.start w f c ef ec m b)
  go_enter Tryd.func14, Tryd.ntmps14
  go_wp2_with fail
  refine (K.out _).mono ?_
  rintro e w1 ⟨rfl, hb⟩
  have H1 := Lib.hid (H0.out.step hb)
  clear hb
  go_wp2_with fail
  refine (R.out _).mono ?_
  rintro e w2 ⟨he, hb⟩
  obtain rfl : e = .returned (.tuple #[.agg #[.int .i64 (F : Int), .int .i64 (C : Int), .int .i64 (E : Int), .int .i64 (D : Int), .int .u16 (M : Int), .bool B], .int .i64 (at_ : Int), .int .i64 0]) := he
  have H2 := Lib.hid (H1.out.step hb)
  clear hb
  have k0 := H2.out.key.cell 0 _ rfl
  have k1 := H2.out.key.cell 1 _ rfl
  have k2 := H2.out.key.cell 2 _ rfl
  have k3 := H2.out.key.cell 3 _ rfl
  have k4 := H2.out.key.cell 4 _ rfl
  have k5 := H2.out.key.cell 5 _ rfl
  have kl := H2.out.key.lt
  go_wp2_with fail
  go_ret2
  exact ⟨rfl, H2.out.below.alloc H2.out.below.size _⟩
set_option maxHeartbeats 3200000 in
theorem rp_not3 (f c ef ec : Int) (m : Nat) (b : Bool) (w : World) (T : List UInt8) (F C E D M : Nat) (B : Bool) (at_ : Nat) (u : ((D : Int) == ec) = false)
    (K : Hid (∀ w, Calls Tryd.prog 33 #[.agg #[.int .i64 f, .int .i64 c, .int .i64 ef, .int .i64 ec, .int .u16 (m : Int), .bool b]] w (RetS w T)))
    (R : Hid (∀ w, Calls Tryd.prog 12 #[.string (bsk T)] w (RetKey w (⟨F, C, E, D, M, B⟩, at_, 0)))) :
    Calls Tryd.prog 14 #[.agg #[.int .i64 f, .int .i64 c, .int .i64 ef, .int .i64 ec, .int .u16 (m : Int), .bool b]] w (RetPk w [] 43) := by
  have H0 := Lib.hid (KtIn.start w f c ef ec m b)
  go_enter Tryd.func14, Tryd.ntmps14
  go_wp2_with fail
  refine (K.out _).mono ?_
  rintro e w1 ⟨rfl, hb⟩
  have H1 := Lib.hid (H0.out.step hb)
  clear hb
  go_wp2_with fail
  refine (R.out _).mono ?_
  rintro e w2 ⟨he, hb⟩
  obtain rfl : e = .returned (.tuple #[.agg #[.int .i64 (F : Int), .int .i64 (C : Int), .int .i64 (E : Int), .int .i64 (D : Int), .int .u16 (M : Int), .bool B], .int .i64 (at_ : Int), .int .i64 0]) := he
  have H2 := Lib.hid (H1.out.step hb)
  clear hb
  have k0 := H2.out.key.cell 0 _ rfl
  have k1 := H2.out.key.cell 1 _ rfl
  have k2 := H2.out.key.cell 2 _ rfl
  have k3 := H2.out.key.cell 3 _ rfl
  have k4 := H2.out.key.cell 4 _ rfl
  have k5 := H2.out.key.cell 5 _ rfl
  have kl := H2.out.key.lt
  go_wp2_with fail
  go_ret2
  exact ⟨rfl, H2.out.below.alloc H2.out.below.size _⟩
set_option maxHeartbeats 3200000 in
theorem rp_not4 (f c ef ec : Int) (m : Nat) (b : Bool) (w : World) (T : List UInt8) (F C E D M : Nat) (B : Bool) (at_ : Nat) (u : ((M : Int) == (m : Int)) = false)
    (K : Hid (∀ w, Calls Tryd.prog 33 #[.agg #[.int .i64 f, .int .i64 c, .int .i64 ef, .int .i64 ec, .int .u16 (m : Int), .bool b]] w (RetS w T)))
    (R : Hid (∀ w, Calls Tryd.prog 12 #[.string (bsk T)] w (RetKey w (⟨F, C, E, D, M, B⟩, at_, 0)))) :
    Calls Tryd.prog 14 #[.agg #[.int .i64 f, .int .i64 c, .int .i64 ef, .int .i64 ec, .int .u16 (m : Int), .bool b]] w (RetPk w [] 43) := by
  have H0 := Lib.hid (KtIn.start w f c ef ec m b)
  go_enter Tryd.func14, Tryd.ntmps14
  go_wp2_with fail
  refine (K.out _).mono ?_
  rintro e w1 ⟨rfl, hb⟩
  have H1 := Lib.hid (H0.out.step hb)
  clear hb
  go_wp2_with fail
  refine (R.out _).mono ?_
  rintro e w2 ⟨he, hb⟩
  obtain rfl : e = .returned (.tuple #[.agg #[.int .i64 (F : Int), .int .i64 (C : Int), .int .i64 (E : Int), .int .i64 (D : Int), .int .u16 (M : Int), .bool B], .int .i64 (at_ : Int), .int .i64 0]) := he
  have H2 := Lib.hid (H1.out.step hb)
  clear hb
  have k0 := H2.out.key.cell 0 _ rfl
  have k1 := H2.out.key.cell 1 _ rfl
  have k2 := H2.out.key.cell 2 _ rfl
  have k3 := H2.out.key.cell 3 _ rfl
  have k4 := H2.out.key.cell 4 _ rfl
  have k5 := H2.out.key.cell 5 _ rfl
  have kl := H2.out.key.lt
  go_wp2_with fail
  go_ret2
  exact ⟨rfl, H2.out.below.alloc H2.out.below.size _⟩
set_option maxHeartbeats 3200000 in
theorem rp_not5 (f c ef ec : Int) (m : Nat) (b : Bool) (w : World) (T : List UInt8) (F C E D M : Nat) (B : Bool) (at_ : Nat) (u : (B == b) = false)
    (K : Hid (∀ w, Calls Tryd.prog 33 #[.agg #[.int .i64 f, .int .i64 c, .int .i64 ef, .int .i64 ec, .int .u16 (m : Int), .bool b]] w (RetS w T)))
    (R : Hid (∀ w, Calls Tryd.prog 12 #[.string (bsk T)] w (RetKey w (⟨F, C, E, D, M, B⟩, at_, 0)))) :
    Calls Tryd.prog 14 #[.agg #[.int .i64 f, .int .i64 c, .int .i64 ef, .int .i64 ec, .int .u16 (m : Int), .bool b]] w (RetPk w [] 43) := by
  have H0 := Lib.hid (KtIn.start w f c ef ec m b)
  go_enter Tryd.func14, Tryd.ntmps14
  go_wp2_with fail
  refine (K.out _).mono ?_
  rintro e w1 ⟨rfl, hb⟩
  have H1 := Lib.hid (H0.out.step hb)
  clear hb
  go_wp2_with fail
  refine (R.out _).mono ?_
  rintro e w2 ⟨he, hb⟩
  obtain rfl : e = .returned (.tuple #[.agg #[.int .i64 (F : Int), .int .i64 (C : Int), .int .i64 (E : Int), .int .i64 (D : Int), .int .u16 (M : Int), .bool B], .int .i64 (at_ : Int), .int .i64 0]) := he
  have H2 := Lib.hid (H1.out.step hb)
  clear hb
  have k0 := H2.out.key.cell 0 _ rfl
  have k1 := H2.out.key.cell 1 _ rfl
  have k2 := H2.out.key.cell 2 _ rfl
  have k3 := H2.out.key.cell 3 _ rfl
  have k4 := H2.out.key.cell 4 _ rfl
  have k5 := H2.out.key.cell 5 _ rfl
  have kl := H2.out.key.lt
  go_wp2_with fail
  go_ret2
  exact ⟨rfl, H2.out.below.alloc H2.out.below.size _⟩
set_option maxHeartbeats 3200000 in
theorem rp_not (f c ef ec : Int) (m : Nat) (b : Bool) (w : World) (hm : m < 65536) (bf : f ≤ 9223372036854775807) (bc : c ≤ 9223372036854775807) (be : ef ≤ 9223372036854775807) (bd : ec ≤ 9223372036854775807) (h : ¬ Holds f c ef ec m b) :
    Calls Tryd.prog 14 #[.agg #[.int .i64 f, .int .i64 c, .int .i64 ef, .int .i64 ec, .int .u16 (m : Int), .bool b]] w (RetPk w [] 43) := by
  have K := Lib.hid (fun w => kt_ok f c ef ec m b w hm bf bc be bd)
  have hl := keyT_len f c ef ec m b bf bc be bd
  have hk := key_inv (keyT f c ef ec m b)
  obtain ⟨T, hT⟩ : ∃ T, T = keyT f c ef ec m b := ⟨_, rfl⟩
  rw [← hT] at hl K hk
  have R := Lib.hid (fun w => rkey_ok (bsk T) w (by rw [bsk_size]; omega))
  rw [bsk_list] at R
  generalize keyS T = P at *
  obtain ⟨⟨F, C, E, D, M, B⟩, at_, er⟩ := P
  by_cases her : er = 0
  · subst her
    have hh := hk _ _ rfl
    have hne : ¬ (f = F ∧ c = C ∧ ef = E ∧ ec = D ∧ m = M ∧ b = B) := by
      rintro ⟨rfl, rfl, rfl, rfl, rfl, rfl⟩
      exact h hh
    by_cases g0 : f = F
    · by_cases g1 : c = C
      · by_cases g2 : ef = E
        · by_cases g3 : ec = D
          · by_cases g4 : m = M
            · by_cases g5 : b = B
              · exact absurd ⟨g0, g1, g2, g3, g4, g5⟩ hne
              · exact rp_not5 f c ef ec m b w T F C E D M B at_ (by rw [beq_eq_false_iff_ne]; exact fun e => g5 e.symm) K R
            · exact rp_not4 f c ef ec m b w T F C E D M B at_ (by rw [beq_eq_false_iff_ne]; omega) K R
          · exact rp_not3 f c ef ec m b w T F C E D M B at_ (by rw [beq_eq_false_iff_ne]; omega) K R
        · exact rp_not2 f c ef ec m b w T F C E D M B at_ (by rw [beq_eq_false_iff_ne]; omega) K R
      · exact rp_not1 f c ef ec m b w T F C E D M B at_ (by rw [beq_eq_false_iff_ne]; omega) K R
    · exact rp_not0 f c ef ec m b w T F C E D M B at_ (by rw [beq_eq_false_iff_ne]; omega) K R
  · have t1 : ((er : Int) != 0) = true := by rw [bne_iff_ne]; omega
    clear hT hk hl h bf bc be bd her
    have H0 := Lib.hid (KtIn.start w f c ef ec m b)
    go_enter Tryd.func14, Tryd.ntmps14
    go_wp2_with fail
    refine (K.out _).mono ?_
    rintro e w1 ⟨rfl, hb⟩
    have H1 := Lib.hid (H0.out.step hb)
    clear hb
    go_wp2_with fail
    refine (R.out _).mono ?_
    rintro e w2 ⟨he, hb⟩
    obtain rfl : e = .returned (.tuple #[.agg #[.int .i64 (F : Int), .int .i64 (C : Int), .int .i64 (E : Int), .int .i64 (D : Int), .int .u16 (M : Int), .bool B], .int .i64 (at_ : Int), .int .i64 (er : Int)]) := he
    have H2 := Lib.hid (H1.out.step hb)
    clear hb
    go_wp2_with fail
    go_ret2
    exact ⟨rfl, H2.out.below.alloc H2.out.below.size _⟩
end Go.Proofs.YtbgbmojoldkcfaaDoor
