/- apart: the three parts. -/
import Derived.Test.YthajgfldjjgkiaaAw
namespace Go.Proofs.Ythajgfldjjgkiaa
open Go.RowKit
set_option maxRecDepth 100000

def Don (ss : Nat → List Stp) (i : Nat) (X : Nat → Nat → List Int) (O : Nat → Nat → Int) : Prop := ∀ a, a < i → ∀ b, b < (ss a).length → X a b = mkX a b (nL6 ss a b) ∧ O a b = mkO a b
def Don2 (ss : Nat → List Stp) (i s : Nat) (X : Nat → Nat → List Int) (O : Nat → Nat → Int) : Prop := Don ss i X O ∧ ∀ b, b < s → X i b = mkX i b (nL6 ss i b) ∧ O i b = mkO i b
def P1R (w : World) (g : Nat) (vs : Nat → Value) (ss : Nat → List Stp) (G : Nat → Nat) (H : Nat → Nat → Nat) (B : Nat) (v3 : Value) (wr : World) : Prop := ∃ (i : Nat) (X : Nat → Nat → List Int) (O : Nat → Nat → Int), v3 = .int .i64 (i : Int) ∧ i ≤ 6 ∧ Mem w g vs ss G H B wr X O ∧ Don ss i X O
def P2R (w : World) (g : Nat) (vs : Nat → Value) (ss : Nat → List Stp) (G : Nat → Nat) (H : Nat → Nat → Nat) (B i : Nat) (v4 : Value) (wr : World) : Prop := ∃ (s : Nat) (X : Nat → Nat → List Int) (O : Nat → Nat → Int), v4 = .int .i64 (s : Int) ∧ s ≤ (ss i).length ∧ Mem w g vs ss G H B wr X O ∧ Don2 ss i s X O
def P3R (w : World) (g : Nat) (vs : Nat → Value) (ss : Nat → List Stp) (G : Nat → Nat) (H : Nat → Nat → Nat) (B i s : Nat) (v5 : Value) (wr : World) : Prop := ∃ (k : Nat) (X : Nat → Nat → List Int) (O : Nat → Nat → Int), v5 = .int .i64 (k : Int) ∧ k ≤ nL6 ss i s ∧ Mem w g vs ss G H B wr X O ∧ Don2 ss i s X O ∧ ∀ j, j < k → (X i s)[j]? = some (100000 * (i : Int) + 100 * (s : Int) + (j : Int))
theorem Don2.upd {ss : Nat → List Stp} {i s : Nat} {X : Nat → Nat → List Int} {O : Nat → Nat → Int} (h : Don2 ss i s X O) (x : List Int) : Don2 ss i s (upd2 X i s x) O :=
  ⟨fun a ha b hb => by rw [upd2_other _ _ _ _ (by omega)]; exact h.1 a ha b hb, fun b hb => by rw [upd2_other _ _ _ _ (by omega)]; exact h.2 b hb⟩
theorem Don2.next {ss : Nat → List Stp} {i s : Nat} {X : Nat → Nat → List Int} {O : Nat → Nat → Int} (h : Don2 ss i s X O) (hx : X i s = mkX i s (nL6 ss i s)) : Don2 ss i (s + 1) X (upd2 O i s (mkO i s)) :=
  ⟨fun a ha b hb => by rw [upd2_other _ _ _ _ (by omega)]; exact h.1 a ha b hb, fun b hb => by
    by_cases c : b = s
    · subst c; rw [upd2_same]; exact ⟨hx, rfl⟩
    · rw [upd2_other _ _ _ _ (by omega)]; exact h.2 b (by omega)⟩
theorem Don2.done {ss : Nat → List Stp} {i : Nat} {X : Nat → Nat → List Int} {O : Nat → Nat → Int} (h : Don2 ss i (ss i).length X O) : Don ss (i + 1) X O := fun a ha b hb => by
  by_cases c : a = i
  · subst c; exact h.2 b hb
  · exact h.1 a (by omega) b hb
theorem all_marks {i s n : Nat} {l : List Int} (hl : l.length = n) (h : ∀ j, j < n → l[j]? = some (100000 * (i : Int) + 100 * (s : Int) + (j : Int))) : l = mkX i s n := by
  apply List.ext_getElem?
  intro j
  by_cases c : j < n
  · rw [h j c, mkX_at c]
  · rw [List.getElem?_eq_none (by omega), List.getElem?_eq_none (by rw [mkX_len]; omega)]
theorem OwnI.form2' {w : World} {v : Value} {l : List Int} (h : OwnI w v l) : ∃ pa cap, v = .slice pa l.length cap := by
  rcases h.2 with ⟨rfl, hn⟩ | ⟨g, cap, cur, hv, _⟩
  · exact ⟨none, 0, by rw [hn]⟩
  · exact ⟨_, _, hv⟩
def P5R (ss : Nat → List Stp) (w1 : World) (v6 v7 v8 : Value) (wr : World) : Prop := ∃ (i : Nat) (li la : List Value) (vi vo : Value), vi = v6 ∧ vo = v7 ∧ v8 = .int .i64 (i : Int) ∧ i ≤ 6 ∧ Gro ss w1 wr vi vo li la i 0 i
def P6R (ss : Nat → List Stp) (w1 : World) (vo : Value) (la : List Value) (i : Nat) (v6 v9 : Value) (wr : World) : Prop := ∃ (s : Nat) (li : List Value) (vi : Value), vi = v6 ∧ v9 = .int .i64 (s : Int) ∧ s ≤ (ss i).length ∧ Gro ss w1 wr vi vo li la i s i
def P7R (wo : World) (b n : Nat) (l0 : List Int) (i s : Nat) (v10 v11 : Value) (wr : World) : Prop := ∃ (k : Nat) (vi : Value), vi = v10 ∧ v11 = .int .i64 (k : Int) ∧ k ≤ 70 ∧ Below wo.heap.size wo wr ∧ ((k = 0 ∧ vi = .slice (some ⟨b, 0, none⟩) n n) ∨ (0 < k ∧ OwnI wr vi (l0 ++ tlI i s k) ∧ ∀ c, vi.ownBlock = some c → wo.heap.size ≤ c))
def P8R (wo : World) (b n : Nat) (i : Nat) (v12 v13 : Value) (wr : World) : Prop := ∃ (k : Nat) (vi : Value) (f : Nat → Value) (p : Nat → Int), vi = v12 ∧ v13 = .int .i64 (k : Int) ∧ k ≤ 20 ∧ Below wo.heap.size wo wr ∧ ((k = 0 ∧ vi = .slice (some ⟨b, 0, none⟩) n n) ∨ (0 < k ∧ OwnS wr vi f p (n + k) ∧ ∀ c, vi.ownBlock = some c → wo.heap.size ≤ c)) ∧ ∀ j, j < k → p (n + j) = 1000 * (i : Int) + (j : Int)
def P9R (ss : Nat → List Stp) (wf : World) (v14 v15 : Value) (wr : World) : Prop := ∃ i : Nat, v14 = .int .i64 (bse ss i : Int) ∧ v15 = .int .i64 (i : Int) ∧ i ≤ 6 ∧ Below wf.heap.size wf wr
def PaR (ss : Nat → List Stp) (wf : World) (i : Nat) (v14 v16 : Value) (wr : World) : Prop := ∃ s : Nat, v14 = .int .i64 ((bse ss i + s : Nat) : Int) ∧ v16 = .int .i64 (s : Int) ∧ s ≤ (ss i).length ∧ Below wf.heap.size wf wr
def PbR (wf : World) (n : Nat) (v18 : Value) (wr : World) : Prop := ∃ k : Nat, v18 = .int .i64 (k : Int) ∧ k ≤ n ∧ Below wf.heap.size wf wr
theorem bse_le {ss : Nat → List Stp} (h : ∀ i, i < 6 → (ss i).length ≤ 300) : ∀ j, j ≤ 6 → bse ss j ≤ 300 * j
  | 0, _ => Nat.zero_le _
  | j + 1, hj => by have := bse_le h j (by omega); have := h j (by omega); unfold bse at *; rw [sumN]; omega
theorem bse_up (ss : Nat → List Stp) : ∀ d i, bse ss i ≤ bse ss (i + d)
  | 0, _ => Nat.le_refl _
  | d + 1, i => by have := bse_up ss d i; rw [← Nat.add_assoc]; unfold bse at *; rw [sumN]; omega
set_option maxHeartbeats 64000000 in
theorem apart_ok : Apart := by
  intro w g vs ss G H lo six hlo hall
  have D := Lib.hid (six.dist hlo)
  have M0 := Lib.hid (six.mem hall)
  have VS := Lib.hid (show ∀ i, i < 6 → vs i = .slice (some ⟨G i, 0, none⟩) (ss i).length (ss i).length from fun i hi => (six.each i hi).val)
  have SM := Lib.hid (show ∀ i, i < 6 → (ss i).length ≤ 300 ∧ ∀ s, s < (ss i).length → 1 ≤ nL6 ss i s ∧ nL6 ss i s ≤ 64 from six.some)
  have LW := Lib.hid (show lo 0 ≤ w.heap.size from by
    have := (six.each 0 (by omega)).ge
    have := (six.each 0 (by omega)).row.lt
    omega)
  obtain ⟨B, hB⟩ : ∃ B, B = lo 0 := ⟨_, rfl⟩
  rw [← hB] at D M0 LW ⊢
  clear six hlo hall hB
  have ST := Lib.hid (show P1R w g vs ss G H B (.int .i64 0) w from ⟨0, _, _, rfl, Nat.zero_le _, M0.out, fun a ha => absurd ha (Nat.not_lt_zero _)⟩)
  go_enter Try.func27, Try.ntmps27
  go_wp2_with fail
  go_loopw [3] (fun v3 wr => P1R w g vs ss G H B v3 wr) (fun v3 _ => 6 - (intOf v3).toNat)
  case atStart => exact ST.out
  case round =>
    clear ST M0
    obtain ⟨i, X, O, rfl, hi, hm, hd⟩ := hrel
    have M := Lib.hid hm
    have DN := Lib.hid hd
    clear hm hd
    by_cases hlt : i < 6
    · have t1 : decide ((i : Int) < 6) = true := decide_eq_true (by omega)
      have t1n : decide (i < 6) = true := decide_eq_true hlt
      have ii : (i : Int) < 6 := by omega
      have ii0 : (0 : Int) ≤ (i : Int) := by omega
      obtain ⟨l1, l2⟩ := SM.out i hlt
      have L2 := Lib.hid l2
      have VI := Lib.hid (VS.out i hlt)
      have S2 := Lib.hid (show P2R w g vs ss G H B i (.int .i64 0) wr from ⟨0, X, O, rfl, Nat.zero_le _, M.out, DN.out, fun b hb => absurd hb (Nat.not_lt_zero _)⟩)
      clear M DN l2
      go_wp2_with fail
      go_loopw [4] (fun v4 wr => P2R w g vs ss G H B i v4 wr) (fun v4 _ => (ss i).length - (intOf v4).toNat)
      case atStart => exact S2.out
      case round =>
        clear S2
        obtain ⟨s, X, O, rfl, hs, hm, hd⟩ := hrel
        have M := Lib.hid hm
        have DN := Lib.hid hd
        have cg := hm.val hlt
        rw [VI.out] at cg
        have lg := hm.all.lt
        clear hm hd
        by_cases hst : s < (ss i).length
        · have u1 : decide ((s : Int) < ((ss i).length : Int)) = true := decide_eq_true (by omega)
          have u1n : decide (s < (ss i).length) = true := decide_eq_true hst
          have is : (s : Int) < ((ss i).length : Int) := by omega
          have is0 : (0 : Int) ≤ (s : Int) := by omega
          obtain ⟨n1, n2⟩ := L2.out s hst
          have S3 := Lib.hid (show P3R w g vs ss G H B i s (.int .i64 0) wr from ⟨0, X, O, rfl, Nat.zero_le _, M.out, DN.out, fun b hb => absurd hb (Nat.not_lt_zero _)⟩)
          clear M DN
          go_wp2_with fail
          clear cg lg
          go_loopw [5] (fun v5 wr => P3R w g vs ss G H B i s v5 wr) (fun v5 _ => nL6 ss i s - (intOf v5).toNat)
          case atStart => exact S3.out
          case round =>
            clear S3
            obtain ⟨k, X, O, rfl, hk, hm, hd, hx⟩ := hrel
            have M := Lib.hid hm
            have DN := Lib.hid hd
            have HX := Lib.hid hx
            have cg := hm.val hlt
            rw [VI.out] at cg
            have lg := hm.all.lt
            have cr := (hm.row i hlt).cell (s * 2) _ (sV_at _ _ _ s hst).1
            have lr := (hm.row i hlt).lt
            have hxl := (hm.cel i hlt s hst).2
            have HXL := Lib.hid hxl
            clear hm hd hx hxl
            by_cases hkt : k < nL6 ss i s
            · have v1 : decide ((k : Int) < (nL6 ss i s : Int)) = true := decide_eq_true (by omega)
              have v1n : decide (k < nL6 ss i s) = true := decide_eq_true hkt
              have ik : (k : Int) < (nL6 ss i s : Int) := by omega
              have ik0 : (0 : Int) ≤ (k : Int) := by omega
              have cel := M.out.cel i hlt s hst
              have fz := cel.1.free k
              have lh := cel.1.lt
              have NX := Lib.hid (show P3R w g vs ss G H B i s (.int .i64 ((k : Int) + 1)) (wr.setCell ⟨H i s, k, none⟩ (.int .i64 (100000 * (i : Int) + 100 * (s : Int) + (k : Int)))) from
                ⟨k + 1, _, O, by congr 1, hkt, M.out.setX D.out LW.out hlt hst k _, DN.out.upd _, fun j hj => by
                  rw [upd2_same, List.getElem?_set]
                  by_cases c : k = j
                  · rw [if_pos c, if_pos (by have := HXL.out; omega), c]
                  · rw [if_neg c]; exact HX.out j (by omega)⟩)
              have cc : ∃ y, wr.cell? ⟨H i s, k, none⟩ = some (.int .i64 y) := ⟨(X i s)[k]'(by have := HXL.out; omega), cel.1.cell k _ (iV_at _ _ (by have := HXL.out; omega))⟩
              obtain ⟨y, cy⟩ := cc
              clear cel M DN HX
              go_wp2_with fail
              go_roundw
              case rel => exact NX.out
              case measure => simp [intOf]; omega
            · have v1 : decide ((k : Int) < (nL6 ss i s : Int)) = false := decide_eq_false (by omega)
              have v1n : decide (k < nL6 ss i s) = false := decide_eq_false hkt
              have co := (M.out.row i hlt).cell (s * 2 + 1) _ (sV_at _ _ _ s hst).2
              have fo := (M.out.row i hlt).free (s * 2 + 1)
              have XE := Lib.hid (show X i s = mkX i s (nL6 ss i s) from all_marks HXL.out (fun j hj => HX.out j (by omega)))
              have NX := Lib.hid (show P2R w g vs ss G H B i (.int .i64 ((s : Int) + 1)) (wr.setCell ⟨G i, s * 2 + 1, none⟩ (.int .i64 (-1000 * (i : Int) - (s : Int) - 1))) from
                ⟨s + 1, X, _, by congr 1, hst, M.out.setO D.out LW.out hlt hst _, DN.out.next XE.out⟩)
              clear M DN HX
              go_wp2_with fail
              go_roundw
              case rel => exact NX.out
              case measure => simp [intOf]; omega
        · have u1 : decide ((s : Int) < ((ss i).length : Int)) = false := decide_eq_false (by omega)
          have u1n : decide (s < (ss i).length) = false := decide_eq_false hst
          have NX := Lib.hid (show P1R w g vs ss G H B (.int .i64 ((i : Int) + 1)) wr from ⟨i + 1, X, O, by congr 1, hlt, M.out, by
            have := DN.out
            rw [show s = (ss i).length by omega] at this
            exact this.done⟩)
          clear M DN
          go_wp2_with fail
          go_roundw
          case rel => exact NX.out
          case measure => simp [intOf]; omega
    · have t1 : decide ((i : Int) < 6) = false := decide_eq_false (by omega)
      have t1n : decide (i < 6) = false := decide_eq_false hlt
      have XE := Lib.hid (show ∀ a, a < 6 → ∀ b, b < (ss a).length → X a b = mkX a b (nL6 ss a b) ∧ O a b = mkO a b from fun a ha => DN.out a (by omega))
      obtain ⟨w1, rfl⟩ : ∃ w1, w1 = wr := ⟨wr, rfl⟩
      clear DN
      go_wp2_with fail
      have S5 := Lib.hid (show P5R ss w1 (.slice none 0 0) (.slice none 0 0) (.int .i64 0) w1 from ⟨0, [], [], _, _, rfl, rfl, rfl, Nat.zero_le _, Gro.start ss w1⟩)
      clear t1 t1n hlt hi
      go_loopw [6, 7, 8] (fun v6 v7 v8 wr => P5R ss w1 v6 v7 v8 wr) (fun _ _ v8 _ => 6 - (intOf v8).toNat)
      case atStart => exact S5.out
      case round =>
        clear S5
        obtain ⟨i, li, la, vi, vo, rfl, rfl, rfl, hi, hg⟩ := hrel
        have GR := Lib.hid hg
        clear hg
        by_cases hlt : i < 6
        · have t1 : decide ((i : Int) < 6) = true := decide_eq_true (by omega)
          have t1n : decide (i < 6) = true := decide_eq_true hlt
          have ii : (i : Int) < 6 := by omega
          have ii0 : (0 : Int) ≤ (i : Int) := by omega
          obtain ⟨l1, l2⟩ := SM.out i hlt
          have L2 := Lib.hid l2
          have VI := Lib.hid (VS.out i hlt)
          have S6 := Lib.hid (show P6R ss w1 vo la i vi (.int .i64 0) wr from ⟨0, li, vi, rfl, rfl, Nat.zero_le _, GR.out⟩)
          clear GR l2
          go_wp2_with fail
          go_loopw [6, 9] (fun v6 v9 wr => P6R ss w1 vo la i v6 v9 wr) (fun _ v9 _ => (ss i).length - (intOf v9).toNat)
          case atStart => exact S6.out
          case round =>
            clear S6
            obtain ⟨s, li, vi, rfl, rfl, hs, hg⟩ := hrel
            have GR := Lib.hid hg
            have MR := Lib.hid (M.out.below hg.bel (Nat.le_trans LW.out (Nat.le_refl _)))
            clear hg
            obtain ⟨wo, rfl⟩ : ∃ wo, wo = wr := ⟨wr, rfl⟩
            have cg := MR.out.val hlt
            rw [VI.out] at cg
            have lg := MR.out.all.lt
            by_cases hst : s < (ss i).length
            · have u1 : decide ((s : Int) < ((ss i).length : Int)) = true := decide_eq_true (by omega)
              have u1n : decide (s < (ss i).length) = true := decide_eq_true hst
              have is : (s : Int) < ((ss i).length : Int) := by omega
              have is0 : (0 : Int) ≤ (s : Int) := by omega
              obtain ⟨n1, n2⟩ := L2.out s hst
              have cr := (MR.out.row i hlt).cell (s * 2) _ (sV_at _ _ _ s hst).1
              have lr := (MR.out.row i hlt).lt
              have BX := Lib.hid (MR.out.cel i hlt s hst)
              have S7 := Lib.hid (show P7R wo (H i s) (nL6 ss i s) (X i s) i s (.slice (some ⟨H i s, 0, none⟩) (nL6 ss i s) (nL6 ss i s)) (.int .i64 0) wo from ⟨0, _, rfl, rfl, Nat.zero_le _, Below.refl _ _, Or.inl ⟨rfl, rfl⟩⟩)
              go_wp2_with fail
              clear cg lg cr lr
              go_loopw [10, 11] (fun v10 v11 wr => P7R wo (H i s) (nL6 ss i s) (X i s) i s v10 v11 wr) (fun _ v11 _ => 70 - (intOf v11).toNat)
              case atStart => exact S7.out
              case round =>
                clear S7
                obtain ⟨k, v10, rfl, rfl, hk, hb, hc⟩ := hrel
                have BL := Lib.hid hb
                have HC := Lib.hid hc
                clear hb hc
                by_cases hkt : k < 70
                · have v1 : decide ((k : Int) < 70) = true := decide_eq_true (by omega)
                  have v1n : decide (k < 70) = true := decide_eq_true hkt
                  obtain ⟨z, hz⟩ : ∃ z, z = -100000 * (i : Int) - 100 * (s : Int) - (k : Int) - 1 := ⟨_, rfl⟩
                  have HZ := Lib.hid hz
                  have N1 := Lib.hid (BlkAt.new wr [.int .i64 z] 3)
                  have BA := Lib.hid (below_alloc wr (.cells #[.int .i64 z] 3))
                  have XL := BX.out.2
                  rcases HC.out with ⟨hk0, hv10⟩ | ⟨hk0, ho, hn⟩
                  · subst hv10
                    have BB := Lib.hid ((BX.out.1.below BL.out).below BA.out)
                    have HK0 := Lib.hid hk0
                    clear hk0 HC
                    rw [hz] at N1 BA BB
                    clear hz
                    go_wp2_with (at_builtin; refine wp_apGI rfl _ _ rfl (H i s) (nL6 ss i s) (X i s) rfl XL BB.out wr.heap.size rfl _ N1.out (by omega) ?_; intro cap w3 h1 h2)
                    have NX := Lib.hid (show P7R wo (H i s) (nL6 ss i s) (X i s) i s (.slice (some ⟨(wr.alloc (.cells #[.int .i64 (-100000 * (i : Int) - 100 * (s : Int) - (k : Int) - 1)] 3)).heap.size, 0, none⟩) (nL6 ss i s + 1) cap) (.int .i64 ((k : Int) + 1)) w3 from
                      ⟨k + 1, _, rfl, by congr 1, hkt, bT BL.out (bT BA.out h2), Or.inr ⟨by omega, by
                        have e : tlI i s (k + 1) = [-100000 * (i : Int) - 100 * (s : Int) - (k : Int) - 1] := by rw [tlI_next]; have := HK0.out; subst this; rfl
                        rw [e]; exact h1, fun c hc => by
                        injection hc with hc
                        subst hc
                        exact (bT BL.out BA.out).size⟩⟩)
                    have SZ : (wr.alloc (.cells #[.int .i64 (-100000 * (i : Int) - 100 * (s : Int) - (k : Int) - 1)] 3)).heap.size = wr.heap.size + 1 := by simp
                    rw [SZ] at NX
                    clear h1 h2 SZ
                    go_wp2_with fail
                    go_roundw
                    case rel => exact NX.out
                    case measure => simp [intOf]; omega
                  · have H1 := Lib.hid (ho.below BA.out)
                    have HN := Lib.hid hn
                    have HLL := Lib.hid (show (X i s ++ tlI i s k).length = nL6 ss i s + k by rw [List.length_append, tlI_len, XL])
                    clear ho hn HC
                    rw [hz] at N1 BA H1
                    clear hz
                    go_wp2_with (at_builtin; refine wp_apI rfl _ _ rfl v10 (X i s ++ tlI i s k) rfl H1.out ⟨wr.heap.size, 0, none⟩ 1 1 [_] rfl rfl (by omega) (fun j hj => by
                      have : j = 0 := by simp at hj; omega
                      subst this
                      exact N1.out.cell 0 _ rfl) (by have := HLL.out; omega) ?_; intro g3 cap w3 h1 h2 h3)
                    have NX := Lib.hid (show P7R wo (H i s) (nL6 ss i s) (X i s) i s (.slice (some ⟨g3, 0, none⟩) ((X i s ++ tlI i s k).length + 1) cap) (.int .i64 ((k : Int) + 1)) w3 from
                      ⟨k + 1, _, rfl, by congr 1, hkt, (bT BL.out BA.out).trans (h2.below (bT BL.out BA.out).size HN.out), Or.inr ⟨by omega, by
                        rw [tlI_next, ← List.append_assoc]; exact h1, fun c hc => by
                        injection hc with hc
                        subst hc
                        rcases h3 with q | q
                        · exact HN.out _ q
                        · simp only; rw [q]; exact (bT BL.out BA.out).size⟩⟩)
                    rw [List.length_append, XL] at NX
                    clear h1 h2 h3
                    go_wp2_with fail
                    go_roundw
                    case rel => exact NX.out
                    case measure => simp [intOf]; omega
                · have v1 : decide ((k : Int) < 70) = false := decide_eq_false (by omega)
                  have v1n : decide (k < 70) = false := decide_eq_false hkt
                  have hk70 : k = 70 := by omega
                  rcases HC.out with ⟨hk0, _⟩ | ⟨hk0, ho, hn⟩
                  · omega
                  · obtain ⟨pa, pc, hpv⟩ := ho.form2'
                    rw [hk70, (XE.out i hlt s hst).1] at ho
                    have GB := GR.out.below BL.out
                    generalize (X i s ++ tlI i s k).length = pn at *
                    subst hpv
                    have OU := Lib.hid ho
                    have BA := Lib.hid (below_alloc wr (.cells #[.slice pa pn pc] 22))
                    have N1 := Lib.hid (BlkAt.new wr [.slice pa pn pc] 22)
                    have GA := Lib.hid (GB.below BA.out)
                    have LI := Lib.hid (show li.length ≤ 1000000 from by
                      rw [GR.out.lenI]
                      have : ∀ j, j ≤ 6 → bse ss j ≤ 300 * j := fun j => by
                        induction j with
                        | zero => intro _; exact Nat.zero_le _
                        | succ j ih => intro hj; have := ih (by omega); have := (SM.out j (by omega)).1; unfold bse at *; rw [sumN]; omega
                      have := this i (by omega)
                      omega)
                    obtain ⟨b22, hb22, hi22⟩ := info22
                    clear ho hk70 hk0 hn HC GB
                    go_wp2_with (at_builtin; refine wp_apV rfl _ _ 64 22 rfl Try.underlying64 (.slice none 0 0) b22 hi22 rfl hb22 vi li rfl GA.out.ins wr.heap.size rfl (.slice pa pn pc) rfl N1.out LI.out ?_; intro g3 cap w3 h1 h2 h3)
                    have NX := Lib.hid (show P6R ss w1 vo la i (.slice (some ⟨g3, 0, none⟩) (li.length + 1) cap) (.int .i64 ((s : Int) + 1)) w3 from
                      ⟨s + 1, _, _, rfl, by congr 1, hst, GA.out.addI (OU.out.below BA.out) h1 h2 h3⟩)
                    clear h1 h2 h3
                    go_wp2_with fail
                    go_roundw
                    case rel => exact NX.out
                    case measure => simp [intOf]; omega
            · have u1 : decide ((s : Int) < ((ss i).length : Int)) = false := decide_eq_false (by omega)
              have u1n : decide (s < (ss i).length) = false := decide_eq_false hst
              have hse : s = (ss i).length := by omega
              have GE := GR.out
              rw [hse] at GE
              have GF := Lib.hid GE
              have BX := Lib.hid (MR.out.row i hlt)
              have S8 := Lib.hid (show P8R wo (G i) (ss i).length i (.slice (some ⟨G i, 0, none⟩) (ss i).length (ss i).length) (.int .i64 0) wo from ⟨0, _, (fun _ => .slice none 0 0), (fun _ => 0), rfl, rfl, Nat.zero_le _, Below.refl _ _, Or.inl ⟨rfl, rfl⟩, fun j hj => absurd hj (Nat.not_lt_zero _)⟩)
              clear GE hse hs GR hst
              go_wp2_with fail
              clear cg lg MR
              go_loopw [12, 13] (fun v12 v13 wr => P8R wo (G i) (ss i).length i v12 v13 wr) (fun _ v13 _ => 20 - (intOf v13).toNat)
              case atStart => exact S8.out
              case round =>
                clear S8
                obtain ⟨k, v12, f, p, rfl, rfl, hk, hb, hc, hp⟩ := hrel
                have BL := Lib.hid hb
                have HC := Lib.hid hc
                have HP := Lib.hid hp
                clear hb hc hp
                by_cases hkt : k < 20
                · have v1 : decide ((k : Int) < 20) = true := decide_eq_true (by omega)
                  have v1n : decide (k < 20) = true := decide_eq_true hkt
                  have N1 := Lib.hid (BlkAt.new wr [.slice none 0 0, .int .i64 (1000 * (i : Int) + (k : Int))] 46)
                  have BA := Lib.hid (below_alloc wr (.cells #[.slice none 0 0, .int .i64 (1000 * (i : Int) + (k : Int))] 46))
                  have SZ : (wr.alloc (.cells #[.slice none 0 0, .int .i64 (1000 * (i : Int) + (k : Int))] 46)).heap.size = wr.heap.size + 1 := by simp
                  have SZ2 := Lib.hid SZ
                  clear SZ
                  rcases HC.out with ⟨hk0, hv12⟩ | ⟨hk0, ho, hn⟩
                  · subst hv12
                    have BB := Lib.hid ((BX.out.below BL.out).below BA.out)
                    have HK0 := Lib.hid hk0
                    clear hk0 HC
                    go_wp2_with (at_builtin; refine wp_apGS rfl _ _ rfl (G i) (ss i).length _ _ rfl BB.out wr.heap.size rfl (.slice none 0 0) _ rfl N1.out (by omega) ?_; intro cap w3 h1 h2)
                    have NX := Lib.hid (show P8R wo (G i) (ss i).length i (.slice (some ⟨(wr.alloc (.cells #[.slice none 0 0, .int .i64 (1000 * (i : Int) + (k : Int))] 46)).heap.size, 0, none⟩) ((ss i).length + 1) cap) (.int .i64 ((k : Int) + 1)) w3 from
                      ⟨k + 1, _, _, _, rfl, by congr 1, hkt, bT BL.out (bT BA.out h2), Or.inr ⟨by omega, by
                        have := HK0.out
                        subst this
                        exact h1, fun c hc => by
                        injection hc with hc
                        subst hc
                        exact (bT BL.out BA.out).size⟩, fun j hj => by
                        have := HK0.out
                        have : j = k := by omega
                        subst this
                        have e : (ss i).length + j = (ss i).length := by omega
                        rw [e, updF_same]
                        omega⟩)
                    rw [SZ2.out] at NX
                    clear h1 h2
                    go_wp2_with fail
                    go_roundw
                    case rel => exact NX.out
                    case measure => simp [intOf]; omega
                  · have H1 := Lib.hid (ho.below BA.out)
                    have HN := Lib.hid hn
                    clear ho hn HC
                    go_wp2_with (at_builtin; refine wp_apS rfl _ _ rfl v12 f p ((ss i).length + k) rfl H1.out wr.heap.size rfl (.slice none 0 0) _ rfl N1.out (by omega) ?_; intro g3 cap w3 h1 h2 h3)
                    have NX := Lib.hid (show P8R wo (G i) (ss i).length i (.slice (some ⟨g3, 0, none⟩) ((ss i).length + k + 1) cap) (.int .i64 ((k : Int) + 1)) w3 from
                      ⟨k + 1, _, _, _, rfl, by congr 1, hkt, (bT BL.out BA.out).trans (h2.below (bT BL.out BA.out).size HN.out), Or.inr ⟨by omega, h1, fun c hc => by
                        injection hc with hc
                        subst hc
                        rcases h3 with q | q
                        · exact HN.out _ q
                        · simp only; rw [q]; exact (bT BL.out BA.out).size⟩, fun j hj => by
                        by_cases c : j = k
                        · subst c; rw [updF_same]
                        · rw [updF_other _ _ _ _ (by omega)]; exact HP.out j (by omega)⟩)
                    clear h1 h2 h3
                    go_wp2_with fail
                    go_roundw
                    case rel => exact NX.out
                    case measure => simp [intOf]; omega
                · have v1 : decide ((k : Int) < 20) = false := decide_eq_false (by omega)
                  have v1n : decide (k < 20) = false := decide_eq_false hkt
                  have hk20 : k = 20 := by omega
                  rcases HC.out with ⟨hk0, _⟩ | ⟨hk0, ho, hn⟩
                  · omega
                  · obtain ⟨pa, pc, hpv⟩ := ho.form
                    have hpp := HP.out
                    rw [hk20] at ho hpp
                    have GB := GF.out.below BL.out
                    obtain ⟨pn, hpn⟩ : ∃ pn, pn = (ss i).length + k := ⟨_, rfl⟩
                    rw [← hpn] at hpv
                    subst hpv
                    have OU := Lib.hid ho
                    have HPP := Lib.hid hpp
                    have BA := Lib.hid (below_alloc wr (.cells #[.slice pa pn pc] 23))
                    have N1 := Lib.hid (BlkAt.new wr [.slice pa pn pc] 23)
                    have GA := Lib.hid (GB.below BA.out)
                    have LA := Lib.hid (show la.length ≤ 1000000 from by rw [GF.out.lenO]; omega)
                    obtain ⟨b23, hb23, hi23⟩ := info23
                    clear ho hk20 hk0 hn HC GB hpp hpn
                    go_wp2_with (at_builtin; refine wp_apV rfl _ _ 52 23 rfl Try.underlying52 (.slice none 0 0) b23 hi23 rfl hb23 vo la rfl GA.out.out wr.heap.size rfl (.slice pa pn pc) rfl N1.out LA.out ?_; intro g3 cap w3 h1 h2 h3)
                    have NX := Lib.hid (show P5R ss w1 vi (.slice (some ⟨g3, 0, none⟩) (la.length + 1) cap) (.int .i64 ((i : Int) + 1)) w3 from
                      ⟨i + 1, _, _, _, _, rfl, rfl, by congr 1, hlt, GA.out.addO (OU.out.below BA.out) HPP.out h1 h2 h3⟩)
                    clear h1 h2 h3
                    go_wp2_with fail
                    go_roundw
                    case rel => exact NX.out
                    case measure => simp [intOf]; omega
        · have t1 : decide ((i : Int) < 6) = false := decide_eq_false (by omega)
          have t1n : decide (i < 6) = false := decide_eq_false hlt
          have hi6 : i = 6 := by omega
          have hg := GR.out
          rw [hi6] at hg
          have MF := Lib.hid (M.out.below hg.bel LW.out)
          have GF := Lib.hid hg
          obtain ⟨wf, rfl⟩ : ∃ wf, wf = wr := ⟨wr, rfl⟩
          have S9 := Lib.hid (show P9R ss wf (.int .i64 0) (.int .i64 0) wf from ⟨0, rfl, rfl, Nat.zero_le _, Below.refl _ _⟩)
          obtain ⟨go, co, hvo, hgo⟩ := hg.out.form (by rw [hg.lenO]; omega)
          rw [hg.lenO] at hvo
          subst hvo
          obtain ⟨pa6, pc6, hvi⟩ : ∃ pa6 pc6, vi = .slice pa6 li.length pc6 := by
            rcases hg.ins.2 with ⟨rfl, hn⟩ | ⟨g, cap, cur, hv, _⟩
            · exact ⟨none, 0, by rw [hn]⟩
            · exact ⟨_, _, hv⟩
          subst hvi
          have LEN := Lib.hid hg.lenI
          obtain ⟨nl, hnl⟩ : ∃ nl, nl = li.length := ⟨_, rfl⟩
          rw [← hnl] at LEN
          clear hg hi6 GR M
          go_wp2_with fail
          clear t1 t1n hlt hi
          go_loopw [14, 15] (fun v14 v15 wr => P9R ss wf v14 v15 wr) (fun _ v15 _ => 6 - (intOf v15).toNat)
          case atStart => exact S9.out
          case round =>
            clear S9
            obtain ⟨i, rfl, rfl, hi, hb⟩ := hrel
            have BL := Lib.hid hb
            clear hb
            by_cases hlt : i < 6
            · have t1 : decide ((i : Int) < 6) = true := decide_eq_true (by omega)
              have t1n : decide (i < 6) = true := decide_eq_true hlt
              have ii : (i : Int) < 6 := by omega
              have ii0 : (0 : Int) ≤ (i : Int) := by omega
              obtain ⟨l1, l2⟩ := SM.out i hlt
              have L2 := Lib.hid l2
              have VI := Lib.hid (VS.out i hlt)
              have S10 := Lib.hid (show PaR ss wf i (.int .i64 (bse ss i : Int)) (.int .i64 0) wr from ⟨0, rfl, rfl, Nat.zero_le _, BL.out⟩)
              have BS := Lib.hid (show bse ss i + (ss i).length ≤ nl ∧ nl ≤ 1800 from by
                have h1 := bse_up ss (6 - (i + 1)) (i + 1)
                rw [show i + 1 + (6 - (i + 1)) = 6 by omega] at h1
                have h2 : bse ss (i + 1) = bse ss i + (ss i).length := rfl
                have h3 := bse_le (fun i hi => (SM.out i hi).1) 6 (Nat.le_refl _)
                have := LEN.out
                omega)
              clear l2 BL
              go_wp2_with fail
              go_loopw [14, 16] (fun v14 v16 wr => PaR ss wf i v14 v16 wr) (fun _ v16 _ => (ss i).length - (intOf v16).toNat)
              case atStart => exact S10.out
              case round =>
                clear S10
                obtain ⟨s, rfl, rfl, hs, hb⟩ := hrel
                have BL := Lib.hid hb
                have MR := Lib.hid (MF.out.below hb (Nat.le_trans LW.out MF.out.bel.size |> fun h => LW.out))
                have GR := Lib.hid (GF.out.below hb)
                clear hb
                have cg := MR.out.val hlt
                rw [VI.out] at cg
                have lg := MR.out.all.lt
                by_cases hst : s < (ss i).length
                · have u1 : decide ((s : Int) < ((ss i).length : Int)) = true := decide_eq_true (by omega)
                  have u1n : decide (s < (ss i).length) = true := decide_eq_true hst
                  have is : (s : Int) < ((ss i).length : Int) := by omega
                  have is0 : (0 : Int) ≤ (s : Int) := by omega
                  obtain ⟨n1, n2⟩ := L2.out s hst
                  have cr := (MR.out.row i hlt).cell (s * 2) _ (sV_at _ _ _ s hst).1
                  have co := (MR.out.row i hlt).cell (s * 2 + 1) _ (sV_at _ _ _ s hst).2
                  rw [(XE.out i hlt s hst).2] at co
                  unfold mkO at co
                  have lr := (MR.out.row i hlt).lt
                  have q1 : decide ((-1000 * (i : Int) - (s : Int) - 1) = (-1000 * (i : Int) - (s : Int) - 1)) = true := decide_eq_true rfl
                  have q2 : ((-1000 * (i : Int) - (s : Int) - 1) == (-1000 * (i : Int) - (s : Int) - 1)) = true := beq_self_eq_true _
                  have S11 := Lib.hid (show PbR wf (nL6 ss i s + 70) (.int .i64 0) wr from ⟨0, rfl, Nat.zero_le _, BL.out⟩)
                  obtain ⟨t, ht⟩ : ∃ t, t = bse ss i + s := ⟨_, rfl⟩
                  have HT := Lib.hid ht
                  rw [← ht]
                  have tl : (t : Int) < (nl : Int) := by have := BS.out; omega
                  have tl0 : (0 : Int) ≤ (t : Int) := by omega
                  have tb : t ≤ 1800 := by have := BS.out; omega
                  clear GR ht
                  go_wp2_with fail
                  clear cg lg cr co lr q1 q2
                  go_loopw [18] (fun v18 wr => PbR wf (nL6 ss i s + 70) v18 wr) (fun v18 _ => nL6 ss i s + 70 - (intOf v18).toNat)
                  case atStart => exact S11.out
                  case round =>
                    clear S11
                    obtain ⟨k, rfl, hk, hb⟩ := hrel
                    have BL := Lib.hid hb
                    have MR := Lib.hid (MF.out.below hb LW.out)
                    have GR := Lib.hid (GF.out.below hb)
                    clear hb
                    by_cases hkt : k < nL6 ss i s + 70
                    · have v1 : decide ((k : Int) < (nL6 ss i s : Int) + 70) = true := decide_eq_true (by omega)
                      have v1n : decide (k < nL6 ss i s + 70) = true := decide_eq_true hkt
                      have NX := Lib.hid (show PbR wf (nL6 ss i s + 70) (.int .i64 ((k : Int) + 1)) wr from ⟨k + 1, by congr 1, hkt, BL.out⟩)
                      have ik0 : (0 : Int) ≤ (k : Int) := by omega
                      by_cases hkn : k < nL6 ss i s
                      · have v2 : decide ((k : Int) < (nL6 ss i s : Int)) = true := decide_eq_true (by omega)
                        have v2n : decide (k < nL6 ss i s) = true := decide_eq_true hkn
                        have v3 : decide ((nL6 ss i s : Int) ≤ (k : Int)) = false := decide_eq_false (by omega)
                        have v3n : decide (nL6 ss i s ≤ k) = false := decide_eq_false (by omega)
                        have ik : (k : Int) < (nL6 ss i s : Int) := by omega
                        have cg := MR.out.val hlt
                        rw [VI.out] at cg
                        have lg := MR.out.all.lt
                        have cr := (MR.out.row i hlt).cell (s * 2) _ (sV_at _ _ _ s hst).1
                        have lr := (MR.out.row i hlt).lt
                        have cel := (MR.out.cel i hlt s hst).1
                        rw [(XE.out i hlt s hst).1] at cel
                        have ck := cel.cell k _ (show (iV (mkX i s (nL6 ss i s)))[k]? = some (.int .i64 (100000 * (i : Int) + 100 * (s : Int) + (k : Int))) by unfold iV; rw [List.getElem?_map, mkX_at hkn]; rfl)
                        have lh := cel.lt
                        clear cel GR MR
                        go_wp2_with fail
                        go_roundw
                        case rel => exact NX.out
                        case measure => simp [intOf]; omega
                      · have v2 : decide ((k : Int) < (nL6 ss i s : Int)) = false := decide_eq_false (by omega)
                        have v2n : decide (k < nL6 ss i s) = false := decide_eq_false hkn
                        have v3 : decide ((nL6 ss i s : Int) ≤ (k : Int)) = true := decide_eq_true (by omega)
                        have v3n : decide (nL6 ss i s ≤ k) = true := decide_eq_true (by omega)
                        obtain ⟨gi, ci, ei, lgi⟩ := GR.out.ins.form (by rw [← hnl]; have := BS.out; omega)
                        injection ei with ei1 ei2 ei3
                        subst ei1
                        clear ei2 ei3
                        obtain ⟨vv, ev, ov⟩ := GR.out.eachI i s (Or.inl ⟨hlt, hst⟩)
                        rw [← HT.out] at ev
                        have cv := GR.out.ins.cell t vv ev
                        have lv : (mkX i s (nL6 ss i s) ++ tlI i s 70).length = nL6 ss i s + 70 := by rw [List.length_append, mkX_len, tlI_len]
                        obtain ⟨pv, pcv, hpv⟩ := ov.form2'
                        rw [lv] at hpv
                        subst hpv
                        obtain ⟨gv, rfl⟩ : ∃ gv, pv = some ⟨gv, 0, none⟩ := by
                          rcases ov.2 with ⟨_, hn⟩ | ⟨g, cap, cur, hv, _⟩
                          · rw [lv] at hn; omega
                          · injection hv with hv _ _; exact ⟨g, hv⟩
                        have ck := ov.cell k (-100000 * (i : Int) - 100 * (s : Int) - (k : Int) + (nL6 ss i s : Int) - 1) (by
                          rw [List.getElem?_append_right (by rw [mkX_len]; omega), mkX_len, tlI_at (by omega)]
                          congr 1
                          omega)
                        have lh := ov.lt'
                        have ik : (k : Int) < (nL6 ss i s : Int) + 70 := by omega
                        clear ov GR MR lv ev
                        go_wp2_with fail
                        go_roundw
                        case rel => exact NX.out
                        case measure => simp [intOf]; omega
                    · have v1 : decide ((k : Int) < (nL6 ss i s : Int) + 70) = false := decide_eq_false (by omega)
                      have v1n : decide (k < nL6 ss i s + 70) = false := decide_eq_false hkt
                      have NX := Lib.hid (show PaR ss wf i (.int .i64 ((t : Int) + 1)) (.int .i64 ((s : Int) + 1)) wr from ⟨s + 1, by rw [HT.out]; congr 1, by congr 1, hst, BL.out⟩)
                      clear GR MR
                      go_wp2_with fail
                      go_roundw
                      case rel => exact NX.out
                      case measure => simp [intOf]; omega
                · have u1 : decide ((s : Int) < ((ss i).length : Int)) = false := decide_eq_false (by omega)
                  have u1n : decide (s < (ss i).length) = false := decide_eq_false hst
                  have hse : s = (ss i).length := by omega
                  have HSE := Lib.hid hse
                  have S12 := Lib.hid (show PbR wf 20 (.int .i64 0) wr from ⟨0, rfl, Nat.zero_le _, BL.out⟩)
                  obtain ⟨t, ht⟩ : ∃ t, t = bse ss i + s := ⟨_, rfl⟩
                  have HT := Lib.hid ht
                  rw [← ht]
                  clear GR MR hse ht hs hst
                  go_wp2_with fail
                  clear cg lg
                  go_loopw [20] (fun v20 wr => PbR wf 20 v20 wr) (fun v20 _ => 20 - (intOf v20).toNat)
                  case atStart => exact S12.out
                  case round =>
                    clear S12
                    obtain ⟨k, rfl, hk, hb⟩ := hrel
                    have BL := Lib.hid hb
                    have GR := Lib.hid (GF.out.below hb)
                    clear hb
                    by_cases hkt : k < 20
                    · have v1 : decide ((k : Int) < 20) = true := decide_eq_true (by omega)
                      have v1n : decide (k < 20) = true := decide_eq_true hkt
                      have NX := Lib.hid (show PbR wf 20 (.int .i64 ((k : Int) + 1)) wr from ⟨k + 1, by congr 1, hkt, BL.out⟩)
                      obtain ⟨vv, ff, oo, ev, ov, eo⟩ := GR.out.eachO i hlt
                      have cv := GR.out.out.cell i vv ev
                      have lgo := Nat.lt_of_lt_of_le hgo BL.out.size
                      obtain ⟨pv, pcv, hpv⟩ := ov.form
                      subst hpv
                      obtain ⟨gv, rfl⟩ : ∃ gv, pv = some ⟨gv, 0, none⟩ := by
                        rcases ov.2 with ⟨_, hn⟩ | ⟨g, cap, cur, hv, _⟩
                        · omega
                        · injection hv with hv _ _; exact ⟨g, hv⟩
                      have ck := World.ownsRow.cells ov (g := gv) rfl (((ss i).length + k) * 2 + 1) _ (sV_at ff oo _ ((ss i).length + k) (by omega)).2
                      rw [add_plain, Nat.zero_add, eo k hkt] at ck
                      have lh : gv < wr.heap.size := by
                        rcases ov.2 with ⟨_, hn⟩ | ⟨g, cap, cur, hv, _, hg, _⟩
                        · omega
                        · injection hv with hv _ _
                          injection hv with hv
                          injection hv with hv
                          subst hv
                          exact lt_of_heap hg
                      have ik : ((ss i).length : Int) + (k : Int) < (((ss i).length + 20 : Nat) : Int) := by omega
                      have ik0 : (0 : Int) ≤ ((ss i).length : Int) + (k : Int) := by omega
                      have ecast : ((ss i).length : Int) + (k : Int) = (((ss i).length + k : Nat) : Int) := by omega
                      obtain ⟨nk, hnk⟩ : ∃ nk, nk = (ss i).length + k := ⟨_, rfl⟩
                      rw [← hnk] at ck ecast
                      have inn : (nk : Int) < (((ss i).length + 20 : Nat) : Int) := by omega
                      obtain ⟨nm, hnm⟩ : ∃ nm, nm = (ss i).length + 20 := ⟨_, rfl⟩
                      rw [← hnm] at inn cv
                      clear ov GR ev eo ik ik0 hnk hnm
                      go_wp2_with fail
                      go_roundw
                      case rel => exact NX.out
                      case measure => simp [intOf]; omega
                    · have v1 : decide ((k : Int) < 20) = false := decide_eq_false (by omega)
                      have v1n : decide (k < 20) = false := decide_eq_false hkt
                      have NX := Lib.hid (show P9R ss wf (.int .i64 (t : Int)) (.int .i64 ((i : Int) + 1)) wr from ⟨i + 1, by rw [HT.out, HSE.out]; rfl, by congr 1, hlt, BL.out⟩)
                      clear GR
                      go_wp2_with fail
                      go_roundw
                      case rel => exact NX.out
                      case measure => simp [intOf]; omega
            · have t1 : decide ((i : Int) < 6) = false := decide_eq_false (by omega)
              have t1n : decide (i < 6) = false := decide_eq_false hlt
              have F := Lib.hid (MF.out.bel.trans (BL.out.mono (Nat.le_trans LW.out MF.out.bel.size)))
              go_wp2_with fail
              go_ret
              exact ⟨rfl, F.out⟩
end Go.Proofs.Ythajgfldjjgkiaa
