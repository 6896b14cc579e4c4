/- RunsAsks: the walk. -/
import Derived.Test.YtiegpjlobpmacaaQo
import Derived.Test.YtiegpjlobpmacaaLv
namespace Go.Proofs.Ytiegpjlobpmacaa
open Go.RowKit
set_option maxRecDepth 100000
def DgR (n : Nat) (a b : Value) : Prop := ∃ m k : Nat, a = .int .i64 (m : Int) ∧ b = .int .i64 (k : Int) ∧ dgt n = k + dgt m ∧ m ≤ n
theorem digits_ok (n : Nat) (hn : n ≤ 1048576) (w : World) : Calls Try.prog 16 #[.int .i64 (n : Int)] w (Same w (.int .i64 (dgt n : Int))) := by
  obtain ⟨D, hD⟩ : ∃ D, D = dgt n := ⟨_, rfl⟩
  have hdl := dgt_le _ n (Nat.le_refl _)
  have HD := Lib.hid hD
  rw [← hD] at hdl ⊢
  clear hD
  go_enter Try.func16, Try.ntmps16
  go_wp2_with fail
  have ST := Lib.hid (show DgR n (.int .i64 (n : Int)) (.int .i64 0) from ⟨n, 0, rfl, by go_num, by omega, Nat.le_refl _⟩)
  go_loop [0, 3] (fun a b => DgR n a b) (fun a _ => (intOf a).toNat)
  case atStart => exact ST.out
  case round =>
    clear ST
    obtain ⟨m, k, rfl, rfl, he, hm⟩ := hrel
    have HE := Lib.hid he
    clear he
    by_cases h0 : 0 < m
    · have t1 : decide ((0 : Int) < (m : Int)) = true := decide_eq_true (by omega)
      have t1n : decide (0 < m) = true := decide_eq_true h0
      have FIN := Lib.hid (show DgR n (.int .i64 ((m : Int) / 2)) (.int .i64 ((k : Int) + 1)) from ⟨m / 2, k + 1, by go_num, by go_num, by have := HE.out; rw [dgt_pos h0] at this; omega, by omega⟩)
      have hk : k ≤ n := by have := HE.out; have := HD.out; omega
      go_wp2_with fail
      exact ⟨FIN.out, by show ((m : Int) / 2).toNat < (m : Int).toNat; omega⟩
    · have t1 : decide ((0 : Int) < (m : Int)) = false := decide_eq_false (by omega)
      have t1n : decide (0 < m) = false := decide_eq_false h0
      have hm0 : m = 0 := by omega
      have FIN := Lib.hid (show k = D by
        have h1 := HE.out
        have h2 := HD.out
        rw [hm0, dgt_zero] at h1
        omega)
      clear hm0
      go_wp2_with fail
      go_ret
      rw [FIN.out]
      exact ⟨rfl, rfl⟩
theorem carry_first {F : Nat → It} {N : Nat} {T : List It} {P : Nat} (h : LhOk T F P) (hN : T.length = N + 1) : (carryI F 0 (sinkI F N (F N) 0) (F N)).2 = F 0 := by
  have hh := h.heap
  have hs := h.set
  rw [hN] at hh hs
  by_cases h0 : 0 < N
  · rw [(pop_all hh hs h0).1]
  · obtain rfl : N = 0 := by omega
    rw [sinkI_end (by omega), (pop_one hs).1]
structure AkAt (w : World) (len k : Nat) (T : List It) (F : Nat → It) (P c : Nat) (wr : World) : Prop where
  heap : ∃ v, Hp2 wr w.heap.size (w.heap.size + 1) (w.heap.size + 2) v F T.length P c
  ok : LhOk T F P
  bel : Below w.heap.size w wr
  le : T.length ≤ P
  pk : P ≤ k
  ck : c ≤ 100 * k
def AkR (w : World) (len : Nat) (i : Value) (wr : World) : Prop := ∃ (k : Nat) (T : List It) (F : Nat → It) (P c : Nat), i = .int .i64 (k : Int) ∧ k ≤ len ∧ AkAt w len k T F P c wr
theorem dgt_pow : ∀ (k n : Nat), n < 2 ^ k → dgt n ≤ k := by
  intro k
  induction k with
  | zero =>
    intro n h
    have h0 : n = 0 := by simpa using h
    rw [h0, dgt_zero]
    exact Nat.zero_le _
  | succ k ih =>
    intro n h
    by_cases hn : 0 < n
    · rw [dgt_pos hn]
      have := ih (n / 2) (by rw [Nat.pow_succ] at h; omega)
      omega
    · have h0 : n = 0 := by omega
      rw [h0, dgt_zero]
      exact Nat.zero_le _
theorem dgt_small {n : Nat} (h : n ≤ 2047) : dgt n ≤ 11 := dgt_pow 11 n (by omega)
set_option maxHeartbeats 4000000 in
theorem asks_long {w : World} {a : Option Addr} {c len : Nat} (hl : 2000 < len) (hm : len ≤ 9223372036854775807) : Calls Try.prog 4 #[.slice a len c] w (RetTrue w) := by
  have t1 : decide ((2000 : Int) < (len : Int)) = true := decide_eq_true (by omega)
  have t1n : decide (2000 < len) = true := decide_eq_true hl
  go_enter Try.func4, Try.ntmps4
  go_wp2_with fail
  go_ret
  exact ⟨rfl, Below.refl _ _⟩
set_option maxHeartbeats 8000000 in
theorem asks_law {w : World} {a : Option Addr} {cp : Nat} {zs : List Int} (hz : SlZ w (.slice a zs.length cp) zs) (hl : zs.length ≤ 2000) : Calls Try.prog 4 #[.slice a zs.length cp] w (RetTrue w) := by
  have HZ := Lib.hid hz
  clear hz
  obtain ⟨len, hlen⟩ : ∃ len, len = zs.length := ⟨_, rfl⟩
  have HL := Lib.hid hlen
  rw [← hlen] at hl ⊢
  clear hlen
  have t1 : decide ((2000 : Int) < (len : Int)) = false := decide_eq_false (by omega)
  have t1n : decide (2000 < len) = false := decide_eq_false (by omega)
  go_enter Try.func4, Try.ntmps4
  go_wp2_with fail
  have A1 := Lib.hid (show AskAt (w.alloc (.cells #[.int .i64 0] 3)) w.heap.size 0 from heap_alloc_new w _)
  have B1 := Lib.hid (below_alloc w (.cells #[.int .i64 0] 3))
  have S1 := Lib.hid (show (w.alloc (.cells #[.int .i64 0] 3)).heap.size = w.heap.size + 1 by simp)
  generalize w.alloc (.cells #[.int .i64 0] 3) = x1 at A1 B1 S1 ⊢
  refine (new2_ok A1.out).mono ?_
  rintro e w1 ⟨rfl, hh, hb⟩
  have h1 := S1.out
  rw [S1.out] at hh hb ⊢
  clear h1
  have ST := Lib.hid (show AkR w len (.int .i64 0) w1 from ⟨0, [], fun _ => ⟨0, 0, 0⟩, 0, 0, rfl, by omega, ⟨⟨_, hh _⟩, LhOk.nil _, B1.out.trans (hb.mono (by omega)), Nat.le_refl _, Nat.le_refl _, by omega⟩⟩)
  clear hh hb A1 B1 S1
  go_wp2_with (go_at_call 7; refine (num_ok _ _).mono ?_; rintro e w' ⟨rfl, rfl⟩)
  go_loopw [6] (fun i wr => AkR w len i wr) (fun i _ => len - (intOf i).toNat)
  case atStart => exact ST.out
  case round =>
    clear ST
    obtain ⟨k, T, F, P, c, rfl, hk, M⟩ := hrel
    have HM := Lib.hid M
    obtain ⟨v, hv⟩ := M.heap
    have H := Lib.hid hv
    have hTP := M.le
    have hPk := M.pk
    have hck := M.ck
    clear hv
    obtain ⟨n, hn⟩ : ∃ n, n = T.length := ⟨_, rfl⟩
    have HN := Lib.hid hn
    rw [← hn] at H hTP
    clear hn
    have c0 := H.out.asks.c0
    have lba := lt_of_heap H.out.asks
    by_cases hlt : k < len
    · have t2 : decide ((k : Int) < (len : Int)) = true := decide_eq_true (by omega)
      have t2n : decide (k < len) = true := decide_eq_true hlt
      have a1 : (k : Int) < (len : Int) := by omega
      have a2 : (0 : Int) ≤ (k : Int) := by omega
      have hzk : zs[k]? = some (zs.getD k 0) := by rw [List.getD_eq_getElem?_getD, List.getElem?_eq_getElem (by have := HL.out; omega)]; rfl
      obtain ⟨bz, oz, rfl, lz, cz⟩ := (show SlZ wr (.slice a len cp) zs from by rw [HL.out]; exact HZ.out.below M.bel).get hzk
      clear hzk M
      generalize zs.getD k 0 = z at *
      by_cases hz0 : 0 ≤ z
      · have t4 : decide ((0 : Int) ≤ z) = true := decide_eq_true hz0
        have PO := Lib.hid (push2_ok (B0 := w.heap.size) H.out (Nat.le_refl _) z (by omega) (by omega) (by omega))
        have hrn : riseN (upI F n ⟨z, 0, P⟩) ⟨z, 0, P⟩ n ≤ dgt (n + 1) := riseN_le _ _ _
        generalize riseN (upI F n ⟨z, 0, P⟩) ⟨z, 0, P⟩ n = r at PO hrn
        have hdn := dgt_small (show n + 1 ≤ 2047 by omega)
        have DG := Lib.hid (fun W : World => (show Calls Try.prog 16 #[.int .i64 ((n : Int) + 1)] W (Same W (.int .i64 (dgt (n + 1) : Int))) from by
          have := digits_ok (n + 1) (by omega) W
          rwa [show (((n + 1 : Nat)) : Int) = (n : Int) + 1 by omega] at this))
        generalize dgt (n + 1) = dn at *
        go_upto_region 14 with (go_at_call 14; refine (len2_ok H.out).mono ?_; rintro e w' ⟨rfl, rfl⟩)
        go_wp2_with fail
        refine PO.out.mono ?_
        rintro e w2 ⟨rfl, ⟨v2, hv2⟩, hb2⟩
        have H2 := Lib.hid hv2
        have BL2 := Lib.hid (HM.out.bel.trans hb2)
        have d0 := hv2.asks.c0
        have lb2 := lt_of_heap hv2.asks
        clear hv2 hb2
        go_wp2_with (go_at_call 16; refine (DG.out _).mono ?_; rintro e w' ⟨rfl, rfl⟩)
        refine (peek2_ok H2.out (by omega)).mono ?_
        rintro e w' ⟨rfl, rfl⟩
        have FIN := Lib.hid (show AkR w len (.int .i64 ((k : Int) + 1)) w2 from by
          have hlen1 : (T ++ [(⟨z, 0, P⟩ : It)]).length = n + 1 := by have := HN.out; simp; omega
          have ok := HM.out.ok.push z 0
          rw [← HN.out] at ok
          exact ⟨k + 1, T ++ [⟨z, 0, P⟩], _, P + 1, c + r, by go_num, by omega, ⟨⟨v2, by rw [hlen1]; exact H2.out⟩, ok, BL2.out, by rw [hlen1]; omega, by omega, by omega⟩⟩)
        go_wp2_with (go_at_call 14; refine (len2_ok H2.out).mono ?_; rintro e w' ⟨rfl, rfl⟩)
        exact ⟨FIN.out, by show len - ((k : Int) + 1).toNat < len - (k : Int).toNat; omega⟩
      · have t4 : decide ((0 : Int) ≤ z) = false := decide_eq_false hz0
        by_cases hn0 : n = 0
        · subst hn0
          have DG := Lib.hid (fun W : World => digits_ok 0 (by omega) W)
          rw [dgt_zero] at DG
          have FIN := Lib.hid (show AkR w len (.int .i64 ((k : Int) + 1)) wr from ⟨k + 1, T, F, P, c, by go_num, by omega, ⟨⟨v, by rw [← HN.out]; exact H.out⟩, HM.out.ok, HM.out.bel, by rw [← HN.out]; omega, by omega, by omega⟩⟩)
          go_upto_region 14 with (go_at_call 14; refine (len2_ok H.out).mono ?_; rintro e w' ⟨rfl, rfl⟩)
          go_wp2_with (first | (go_at_call 14; refine (len2_ok H.out).mono ?_; rintro e w' ⟨rfl, rfl⟩) | (go_at_call 16; refine (DG.out _).mono ?_; rintro e w' ⟨rfl, rfl⟩) | (go_at_call 17; refine (pop2_none H.out).mono ?_; rintro e w' ⟨rfl, rfl⟩) | (go_at_call 18; refine (peek2_none H.out).mono ?_; rintro e w' ⟨rfl, rfl⟩))
          exact ⟨FIN.out, by show len - ((k : Int) + 1).toNat < len - (k : Int).toNat; omega⟩
        · obtain ⟨N, hNN⟩ : ∃ N, n = N + 1 := ⟨n - 1, by omega⟩
          subst hNN
          have PO := Lib.hid (pop2_ok (B0 := w.heap.size) H.out (Nat.le_refl _) (by omega) (by omega))
          have hm0 : F 0 ∈ T := (HM.out.ok.set.has _).2 ⟨0, by have := HN.out; omega, rfl⟩
          obtain ⟨b, hb, hFb⟩ := List.getElem_of_mem hm0
          have OK2 := Lib.hid (HM.out.ok.pop (N := N) (by have := HN.out; omega) hb hFb.symm).2
          have L1 := Lib.hid (show (less1 T b).length = N by have := less1_len hb; have := HN.out; omega)
          have hrn : sinkN F N (F N) 0 ≤ 2 * dgt (N + 1) := by
            have h1 := sinkN_le (f := F) (one := F N) (n := N) _ 0 (Nat.le_refl _)
            rw [show N / (0 + 1) = N from Nat.div_one N] at h1
            have h2 := dgt_mono _ N (N + 1) (Nat.le_refl _) (by omega)
            omega
          have hdn := dgt_small (show N + 1 ≤ 2047 by omega)
          have DG := Lib.hid (fun W : World => (show Calls Try.prog 16 #[.int .i64 ((N : Int) + 1)] W (Same W (.int .i64 (dgt (N + 1) : Int))) from by
            have := digits_ok (N + 1) (by omega) W
            rwa [show (((N + 1 : Nat)) : Int) = (N : Int) + 1 by omega] at this))
          clear hm0 hFb
          generalize dgt (N + 1) = dn at *
          generalize sinkN F N (F N) 0 = r at *
          generalize (carryI F 0 (sinkI F N (F N) 0) (F N)).1 = F2 at *
          generalize (carryI F 0 (sinkI F N (F N) 0) (F N)).2 = x2 at *
          go_upto_region 14 with (go_at_call 14; refine (len2_ok H.out).mono ?_; rintro e w' ⟨rfl, rfl⟩)
          go_wp2_with fail
          refine PO.out.mono ?_
          rintro e w2 ⟨rfl, ⟨v2, hv2⟩, hb2⟩
          have H2 := Lib.hid hv2
          have BL2 := Lib.hid (HM.out.bel.trans hb2)
          have d0 := hv2.asks.c0
          have lb2 := lt_of_heap hv2.asks
          clear hv2 hb2
          have FIN := Lib.hid (show AkR w len (.int .i64 ((k : Int) + 1)) w2 from
            ⟨k + 1, less1 T b, F2, P, c + r, by go_num, by omega, ⟨⟨v2, by rw [L1.out]; exact H2.out⟩, OK2.out, BL2.out, by rw [L1.out]; omega, by omega, by omega⟩⟩)
          go_wp2_with (go_at_call 16; refine (DG.out _).mono ?_; rintro e w' ⟨rfl, rfl⟩)
          by_cases hN0 : N = 0
          · subst hN0
            refine (peek2_none H2.out).mono ?_
            rintro e w' ⟨rfl, rfl⟩
            go_wp2_with (go_at_call 14; refine (len2_ok H2.out).mono ?_; rintro e w' ⟨rfl, rfl⟩)
            exact ⟨FIN.out, by show len - ((k : Int) + 1).toNat < len - (k : Int).toNat; omega⟩
          · refine (peek2_ok H2.out (by omega)).mono ?_
            rintro e w' ⟨rfl, rfl⟩
            go_wp2_with (go_at_call 14; refine (len2_ok H2.out).mono ?_; rintro e w' ⟨rfl, rfl⟩)
            exact ⟨FIN.out, by show len - ((k : Int) + 1).toNat < len - (k : Int).toNat; omega⟩
    · have t2 : decide ((k : Int) < (len : Int)) = false := decide_eq_false (by omega)
      have t2n : decide (k < len) = false := decide_eq_false hlt
      have PO := Lib.hid (push2_ok (B0 := w.heap.size) H.out (Nat.le_refl _) 1 (by omega) (by omega) (by omega))
      have hrn : riseN (upI F n ⟨1, 0, P⟩) ⟨1, 0, P⟩ n ≤ dgt (n + 1) := riseN_le _ _ _
      have hdn := dgt_small (show n + 1 ≤ 2047 by omega)
      have OK1 := Lib.hid (HM.out.ok.push 1 0)
      rw [← HN.out] at OK1
      have BB := Lib.hid HM.out.bel
      clear M
      generalize riseN (upI F n ⟨1, 0, P⟩) ⟨1, 0, P⟩ n = r at *
      rw [show pushJ F n ⟨1, 0, P⟩ = pushI F n ⟨1, 0, P⟩ from rfl] at PO
      generalize pushI F n ⟨1, 0, P⟩ = F1 at *
      have hT1 : (T ++ [(⟨1, 0, P⟩ : It)]).length = n + 1 := by have := HN.out; simp; omega
      have hF1 : leI (F1 0) ⟨1, 0, P⟩ := by
        have hh := OK1.out.heap
        have hs := OK1.out.set
        rw [hT1] at hh hs
        exact (first_all hh hs (by omega)).2 _ (by simp)
      have hk1 : (F1 0).key ≤ 1 := by
        unfold leI at hF1
        rcases hF1 with q | q
        · exact Int.le_of_lt q
        · exact Int.le_of_eq q.1
      have CF := Lib.hid (carry_first OK1.out hT1)
      clear hF1 hT1
      go_wp2_with fail
      refine PO.out.mono ?_
      rintro e w2 ⟨rfl, ⟨v2, hv2⟩, hb2⟩
      have PP := Lib.hid (pop2_ok (B0 := w.heap.size) hv2 (Nat.le_refl _) (by omega) (by omega))
      rw [CF.out] at PP
      have t9 : decide ((F1 0).key ≤ 1) = true := decide_eq_true hk1
      have BL2 := Lib.hid (BB.out.trans hb2)
      clear hv2 hb2 hk1
      go_wp2_with fail
      refine PP.out.mono ?_
      rintro e w3 ⟨rfl, _, hb3⟩
      have BL3 := Lib.hid (BL2.out.trans hb3)
      clear hb3
      go_wp2_with fail
      go_ret
      exact ⟨rfl, BL3.out⟩
end Go.Proofs.Ytiegpjlobpmacaa
