/- CollateTurned, with the contracts laid in. -/
import Derived.Test.YtgpcmlbmmcnkjaaGreatDoorTn
namespace Go.Proofs.YtgpcmlbmmcnkjaaGreatDoor
open Go.RowKit
open Num (IsCmp)
set_option maxRecDepth 100000
theorem xor_and (m c : Nat) (h : 512 &&& c = 0) : (m ^^^ 512) &&& c = m &&& c := by
  rw [Nat.and_xor_distrib_right, h, Nat.xor_zero]
theorem xor_lt (m : Nat) (h : m < 1024) : m ^^^ 512 < 1024 := Nat.xor_lt_two_pow (n := 10) h (by omega)
theorem xor_xor (m : Nat) : (m ^^^ 512) ^^^ 512 = m := by rw [Nat.xor_assoc, Nat.xor_self, Nat.xor_zero]
theorem xor_lt_iff (m : Nat) : m ^^^ 512 < 1024 ↔ m < 1024 := ⟨fun h => by have := xor_lt _ h; rwa [xor_xor] at this, xor_lt m⟩
theorem and512 (m : Nat) : m &&& 512 = 0 ∨ m &&& 512 = 512 := by
  by_cases h : m.testBit 9 = true
  · right
    apply Nat.eq_of_testBit_eq
    intro i
    rw [Nat.testBit_and, show (512 : Nat) = 2 ^ 9 from rfl, Nat.testBit_two_pow]
    by_cases e : 9 = i
    · subst e; simp [h]
    · simp [e]
  · left
    apply Nat.eq_of_testBit_eq
    intro i
    rw [Nat.testBit_and, show (512 : Nat) = 2 ^ 9 from rfl, Nat.testBit_two_pow, Nat.zero_testBit]
    by_cases e : 9 = i
    · subst e; simp [h]
    · simp [e]
theorem xor_r (m : Nat) : (m ^^^ 512) &&& 512 = 0 ↔ m &&& 512 ≠ 0 := by
  rw [Nat.and_xor_distrib_right, Nat.and_self]
  rcases and512 m with e | e <;> rw [e] <;> decide
theorem tog_x : ∀ m : Fin 1024, togS (m.val ^^^ 512) = togS m.val := by decide +kernel
theorem zB_x (m : Nat) : zB (m ^^^ 512) = zB m := by
  funext x y
  have e1 : letsS (m ^^^ 512) = letsS m := by unfold letsS; rw [xor_and m 2 (by decide), xor_and m 8 (by decide)]
  have e2 : foldS (m ^^^ 512) = foldS m := by unfold foldS; rw [xor_and m 4 (by decide)]
  unfold zB
  rw [xor_and m 496 (by decide), e1, e2]
theorem zK_x (m : Nat) (x y : List UInt8) : zK (m ^^^ 512) x y = - zK m x y := by
  unfold zK
  rw [zB_x]
  by_cases h : m &&& 512 = 0
  · rw [if_pos h, if_neg (fun e => (xor_r m).1 e h)]
    exact (zB_is m).anti x y
  · rw [if_neg h, if_pos ((xor_r m).2 h)]
    exact (zB_is m).anti y x
theorem bB_x (m : Nat) : bB (m ^^^ 512) = bB m := by unfold bB; rw [xor_and m 1 (by decide)]
theorem spL_m (s : ByteArray) (oo : Option UInt8) (K K' : KeyL) (hf : K'.f = K.f) (hc : K'.c = K.c) (he : K'.ef = K.ef) (hec : K'.ec = K.ec) (hbb : K'.b = K.b) (hm : bB K'.m = bB K.m) : spL s oo [K'] 0 = spL s oo [K] 0 := by
  unfold spL
  simp only [List.getElem?_cons_zero]
  rw [hf, hc, he, hec, hbb]
  unfold spanP spanB
  rw [hm]
theorem kyS_x (oo : Option UInt8) (K K' : KeyL) (hf : K'.f = K.f) (hc : K'.c = K.c) (he : K'.ef = K.ef) (hec : K'.ec = K.ec) (hbb : K'.b = K.b) (hm : K'.m = K.m ^^^ 512) (a b : ByteArray) : kyS oo [K'] a b = - kyS oo [K] a b := by
  rw [kyS_one, kyS_one]
  have hb : bB K'.m = bB K.m := by rw [hm, bB_x]
  unfold cutL
  rw [spL_m a oo K K' hf hc he hec hbb hb, spL_m b oo K K' hf hc he hec hbb hb, hm, zK_x]
theorem cpS_x (b1 : Bool) (m : Nat) (oo : Option UInt8) (K K' : KeyL) (hf : K'.f = K.f) (hc : K'.c = K.c) (he : K'.ef = K.ef) (hec : K'.ec = K.ec) (hbb : K'.b = K.b) (hm : K'.m = K.m ^^^ 512) (a b : ByteArray) :
    cpS b1 (!decide ((m ^^^ 512) &&& 512 = 0)) oo [K'] a b = - cpS b1 (!decide (m &&& 512 = 0)) oo [K] a b := by
  unfold cpS cmpV
  rw [kyS_x oo K K' hf hc he hec hbb hm]
  by_cases hz : kyS oo [K] a b = 0
  · rw [if_pos hz, if_pos (by omega)]
    cases b1 with
    | false => rfl
    | true =>
      simp only [if_true]
      have n := cb_neg a.data.toList b.data.toList
      by_cases h : m &&& 512 = 0
      · have h2 : ¬ (m ^^^ 512) &&& 512 = 0 := fun e => (xor_r m).1 e h
        simp only [h, h2, decide_true, decide_false, Bool.not_true, Bool.not_false, if_true, Bool.false_eq_true, if_false]
        exact n
      · have h2 : (m ^^^ 512) &&& 512 = 0 := (xor_r m).2 h
        simp only [h, h2, decide_true, decide_false, Bool.not_true, Bool.not_false, if_true, Bool.false_eq_true, if_false]
        omega
  · rw [if_neg hz, if_neg (by omega)]
theorem modB_bB (m : Nat) (h : m < 65536) : modB m = bB m := by
  unfold modB bB
  rw [show ((1 : Int)) = ((1 : Nat) : Int) from rfl, and_nat m 1 h (by omega)]
  rw [Bool.eq_iff_iff]
  simp
  omega
theorem eff_k0 (K : KeyL) (m : Nat) (t : Int) : effL [k0 K] m t = [⟨K.f, K.c, K.ef, K.ec, m, modB m⟩] := by
  unfold effL dflt own
  simp [k0, turn, o3]
theorem eff_K (K : KeyL) (m : Nat) (t : Int) (h : ¬ (K.m = 0 ∧ K.b = false)) : effL [K] m t = [K] := by
  unfold effL dflt own
  simp [h]
theorem doc_k0 (K : KeyL) (m : Nat) (t : Int) (_hm : m < 65536) : docS [k0 K] (m ^^^ 512) t = docS [k0 K] m t := by
  unfold docS
  rw [eff_k0, eff_k0]
  by_cases h : m < 1024
  · have h2 := xor_lt m h
    have h3 := tog_x ⟨m, h⟩
    simp only at h3
    simp [h, h2, h3]
  · have h2 : ¬ m ^^^ 512 < 1024 := fun e => h ((xor_lt_iff m).1 e)
    simp [h, h2]
theorem sh_x (K : KeyL) : shK (kM K (K.m ^^^ 512)) = shK K := by
  unfold shK shB kM
  have e : decide (((K.m ^^^ 512 : Nat) : Int) < 1024) = decide ((K.m : Int) < 1024) := by
    have := xor_lt_iff K.m
    rw [Bool.eq_iff_iff, decide_eq_true_eq, decide_eq_true_eq]
    omega
  simp only [e]
theorem doc_K (K : KeyL) (m : Nat) (t : Int) (h1 : ¬ (K.m = 0 ∧ K.b = false)) (h2 : ¬ (K.m ^^^ 512 = 0 ∧ K.b = false)) : docS [kM K (K.m ^^^ 512)] m t = docS [K] m t := by
  unfold docS
  rw [eff_K K m t h1, eff_K (kM K (K.m ^^^ 512)) m t h2]
  simp only [List.all_cons, List.all_nil, Bool.and_true, sh_x]
  by_cases h : K.m < 1024
  · have h3 := tog_x ⟨K.m, h⟩
    simp only at h3
    rw [show (kM K (K.m ^^^ 512)).m = K.m ^^^ 512 from rfl, h3]
    rfl
  · have e : shK K = false := by
      unfold shK shB
      have : decide ((K.m : Int) < 1024) = false := decide_eq_false (by omega)
      rw [this]
      simp
    rw [e]
    simp
theorem sl_k {W : World} {g : Nat} {K : KeyL} (h : CellsAt W g (kc K)) : SlAt W W.heap.size (.slice (some ⟨g, 0, none⟩) 1 1) 6 [K].length (ksV [K]) := ky_sl h h.lt
theorem turned_ok2 (o : Opt) (K : KeyL) (ak : Option Addr) (kn kp : Nat) (fa : Option Addr) (fn fc : Nat) (a b : ByteArray) (w : World) (hmm : o.mods < 65536) (hkm : K.m < 65536) (ha : a.size ≤ 1048576) (hb : b.size ≤ 1048576) (T : Tbs w) :
    Calls Tryz.prog 5 #[optV o (.slice ak kn kp) (.slice fa fn fc), .agg #[.int .i64 K.f, .int .i64 K.c, .int .i64 K.ef, .int .i64 K.ec, .int .u16 (K.m : Int), .bool K.b], .string a, .string b] w (RetBk w (.bool true)) := by
  have hX : o.mods ^^^ 512 < 65536 := Nat.xor_lt_two_pow (n := 16) hmm (by omega)
  have hXK : K.m ^^^ 512 < 65536 := Nat.xor_lt_two_pow (n := 16) hkm (by omega)
  have mem1 : ∀ (J : KeyL), J.m < 65536 → ∀ k ∈ [J], k.m < 65536 := fun J h k hk => by simp at hk; subst hk; exact h
  have IC := cpS_is (!o.stable && !o.unique) (!decide (o.mods &&& 512 = 0)) (tabO o.tab) (effL [k0 K] o.mods o.tab)
  have IK := kyS_is (tabO o.tab) (effL [K] o.mods o.tab)
  refine turned_g (docS [k0 K] o.mods o.tab) (docS [K] o.mods o.tab) (bits BinOp.andNot IntKind.u16 (K.m : Int) 512 == 0) o K ak kn kp fa fn fc a b
    (cpS (!o.stable && !o.unique) (!decide (o.mods &&& 512 = 0)) (tabO o.tab) (effL [k0 K] o.mods o.tab) a b) (kyS (tabO o.tab) (effL [k0 K] o.mods o.tab) a b) (kyS (tabO o.tab) (effL [k0 K] (o.mods ^^^ 512) o.tab) a b)
    (cpS (!o.stable && !o.unique) (!decide (o.mods &&& 512 = 0)) (tabO o.tab) (effL [K] o.mods o.tab) a b) (kyS (tabO o.tab) (effL [K] o.mods o.tab) a b)
    (cpS (!o.stable && !o.unique) (!decide (o.mods &&& 512 = 0)) (tabO o.tab) (effL [kM K (K.m ^^^ 512)] o.mods o.tab) a b)
    w T (u16_xor_nat o.mods 512 hmm (by omega)) (u16_xor_nat K.m 512 hkm (by omega)) rfl ⟨IC.lo a b, IC.hi a b⟩ ⟨IK.lo a b, IK.hi a b⟩
    (Lib.hid fun W g bb h => ?_) (Lib.hid fun W g bb h => ?_) (Lib.hid fun W g bb h => ?_) (Lib.hid fun hq W g bb h => ?_)
  · exact mayD_ok o [k0 K] _ _ a b W hmm (mem1 _ (by show (0 : Nat) < 65536; omega)) (sl_k h) (by simp) ha hb
  · have := mayC_ok (xM o) [k0 K] (.slice (some ⟨g, 0, none⟩) 1 1) (.slice fa fn fc) a b W hX (mem1 _ (by show (0 : Nat) < 65536; omega)) (sl_k h) (by simp) ha hb (T.below bb)
    have e1 : docS [k0 K] (xM o).mods (xM o).tab = docS [k0 K] o.mods o.tab := doc_k0 K o.mods o.tab hmm
    have e2 : cpS (!(xM o).stable && !(xM o).unique) (!decide ((xM o).mods &&& 512 = 0)) (tabO (xM o).tab) (effL [k0 K] (xM o).mods (xM o).tab) a b = - cpS (!o.stable && !o.unique) (!decide (o.mods &&& 512 = 0)) (tabO o.tab) (effL [k0 K] o.mods o.tab) a b := by
      show cpS (!o.stable && !o.unique) (!decide ((o.mods ^^^ 512) &&& 512 = 0)) (tabO o.tab) (effL [k0 K] (o.mods ^^^ 512) o.tab) a b = _
      rw [eff_k0, eff_k0]
      exact cpS_x _ o.mods _ ⟨K.f, K.c, K.ef, K.ec, o.mods, modB o.mods⟩ ⟨K.f, K.c, K.ef, K.ec, o.mods ^^^ 512, modB (o.mods ^^^ 512)⟩ rfl rfl rfl rfl (by show modB (o.mods ^^^ 512) = modB o.mods; rw [modB_bB _ hX, modB_bB _ hmm, bB_x]) rfl a b
    rw [e1, e2] at this
    exact this
  · exact mayC_ok o [K] _ _ a b W hmm (mem1 _ hkm) (sl_k h) (by simp) ha hb (T.below bb)
  · have hn : ∀ m : Nat, m < 65536 → m = 0 ∨ m = 512 → (bits BinOp.andNot IntKind.u16 (m : Int) 512 == 0) = true := fun m _ h => by
      rcases h with rfl | rfl <;> decide
    have h1 : ¬ (K.m = 0 ∧ K.b = false) := fun e => by
      rcases hq with q | q
      · rw [hn K.m hkm (Or.inl e.1)] at q; cases q
      · rw [e.2] at q; cases q
    have h2 : ¬ (K.m ^^^ 512 = 0 ∧ K.b = false) := fun e => by
      have e3 : K.m = 512 := by have := congrArg (fun z => z ^^^ 512) e.1; simp only [xor_xor, Nat.zero_xor] at this; exact this
      rcases hq with q | q
      · rw [hn K.m hkm (Or.inr e3)] at q; cases q
      · rw [e.2] at q; cases q
    have := mayC_ok o [kM K (K.m ^^^ 512)] (.slice (some ⟨g, 0, none⟩) 1 1) (.slice fa fn fc) a b W hmm (mem1 _ hXK) (sl_k h) (by simp) ha hb (T.below bb)
    have e3 : kyS (tabO o.tab) (effL [kM K (K.m ^^^ 512)] o.mods o.tab) a b = - kyS (tabO o.tab) (effL [K] o.mods o.tab) a b := by
      rw [eff_K K o.mods o.tab h1, eff_K (kM K (K.m ^^^ 512)) o.mods o.tab h2]
      exact kyS_x _ K (kM K (K.m ^^^ 512)) rfl rfl rfl rfl rfl rfl a b
    rw [doc_K K o.mods o.tab h1 h2, e3] at this
    exact this
end Go.Proofs.YtgpcmlbmmcnkjaaGreatDoor
