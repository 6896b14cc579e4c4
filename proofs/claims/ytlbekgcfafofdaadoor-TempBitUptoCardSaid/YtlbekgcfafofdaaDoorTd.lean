/- The law TempDecodes, walked. -/
import Derived.Test.YtlbekgcfafofdaaDoorOn
namespace Go.Proofs.YtlbekgcfafofdaaDoor
section
section
section
open Go.RowKit
set_option maxRecDepth 100000

theorem feN_err {b : List UInt8} {n : Nat} (hb : ¬ b.length = 0) : feN b n = 0 ↔ ¬ feE b n = 0 := by
  rw [feN_zero]
  unfold feG
  simp [hb]
theorem decC_nil (n : Nat) : decC [] n = ([], 0, 0) := by
  have h : feN [] n = 0 := (feN_zero [] n).2 (by unfold feG; simp)
  rw [decC_zero h]
  rfl
set_option maxHeartbeats 2400000 in
theorem ddecode_raw (w : World) (a0 : Option Addr) (m0 n0 : Nat) (b : List UInt8) (h0 : b = [] ∨ SlC w (.slice a0 m0 n0) b) (hm0 : m0 = b.length) (hmc : m0 ≤ n0) (hc63 : n0 ≤ 9223372036854775807) (hbl : b.length ≤ 140737488355328) : Calls Tryd.prog 19 #[.slice a0 m0 n0] w (DeP w b) := by
  have HM0 := Lib.hid hm0
  have HC := Lib.hid h0
  have HBL := Lib.hid hbl
  clear hm0 h0 hbl
  go_enter Tryd.func19, Tryd.ntmps19
  go_wp2_with fail
  go_loopw [5, 6] (fun x i wr => DeRel w b x i wr) (fun _ i _ => b.length - (intOf i).toNat)
  case atStart => exact ⟨[], [], 0, none, 0, rfl, rfl, Nat.zero_le _, Nat.le_refl _, OwnEs.nil _ _ (Nat.le_refl _), Below.refl _ _, by simp⟩
  case round =>
    obtain ⟨l, us, p, va, vc, rfl, rfl, hp, hl, OE, BW, HI⟩ := hrel
    have ip : (p : Int) ≤ (m0 : Int) := by have := HM0.out; omega
    have ic : (m0 : Int) ≤ (n0 : Int) := by omega
    have HP := Lib.hid hp
    have HL := Lib.hid hl
    have HOE := Lib.hid OE
    have HBW := Lib.hid BW
    have HHI := Lib.hid HI
    clear hp hl OE HI
    by_cases hend : p < m0
    · have HCC := HC.out.resolve_left (by intro h; have := HM0.out; rw [h] at this; simp at this; omega)
      have CW := Lib.hid (HCC.below BW)
      clear BW
      obtain ⟨bb, off, rfl⟩ : ∃ bb off, a0 = some ⟨bb, off, none⟩ := by
        rcases HCC with ⟨h, _⟩ | ⟨bb, off, c, h, _⟩
        · injection h with _ h2 _; omega
        · injection h with h1 _ _; exact ⟨bb, off, h1⟩
      have hcap : ¬ n0 = p := by omega
      have ipl : (p : Int) < (m0 : Int) := by omega
      have SD := CW.out.drop p HP.out
      unfold dropV at SD
      rw [if_neg hcap] at SD
      have HSD := Lib.hid SD
      clear SD
      have FE := Lib.hid (one_ok wr bb (off + p) (m0 - p) (n0 - p) (b.drop p) l.length (HSD.out) (by rw [List.length_drop]; have := HM0.out; omega) (by rw [List.length_drop]; have := HBL.out; omega) (by have := HBL.out; have := HP.out; have := HL.out; omega))
      go_wp2_with fail
      with_reducible refine FE.out.mono ?_
      rintro e w3 ⟨u, rfl, OI, B3⟩
      clear FE
      obtain ⟨ua, un, uc, rfl⟩ : ∃ a n c, u = .slice a n c := by obtain ⟨a, c, h, _⟩ := OI.sl.form; exact ⟨_, _, _, h⟩
      generalize hX : feX (b.drop p) l.length = X at *
      generalize hN : feN (b.drop p) l.length = N at *
      generalize hE : feE (b.drop p) l.length = E at *
      have HX := Lib.hid hX
      have HN := Lib.hid hN
      have HE := Lib.hid hE
      clear hX hN hE
      obtain ⟨k, pr, nm, ru, re, li, su, inn⟩ := X
      obtain ⟨s, hs⟩ : ∃ s, s = bs nm := ⟨_, rfl⟩
      unfold eA
      simp only
      rw [← hs]
      have HSS := Lib.hid hs
      clear hs
      have P4 : CellsAt (w3.alloc (.cells #[.int .u8 (k : Int), .int .u64 (pr : Int), .string s, .int .i64 ru, .int .i64 re, .int .i64 li, .int .u32 (su : Int), .slice ua un uc] 27)) w3.heap.size [.int .u8 (k : Int), .int .u64 (pr : Int), .string s, .int .i64 ru, .int .i64 re, .int .i64 li, .int .u32 (su : Int), .slice ua un uc] := CellsAt.new w3 [.int .u8 (k : Int), .int .u64 (pr : Int), .string s, .int .i64 ru, .int .i64 re, .int .i64 li, .int .u32 (su : Int), .slice ua un uc] 27
      have OE4 : OwnEs (w3.alloc (.cells #[.int .u8 (k : Int), .int .u64 (pr : Int), .string s, .int .i64 ru, .int .i64 re, .int .i64 li, .int .u32 (su : Int), .slice ua un uc] 27)) w.heap.size (.slice va l.length vc) l us := (HOE.out.below B3).below (below_alloc w3 _)
      have B4 : Below w.heap.size w (w3.alloc (.cells #[.int .u8 (k : Int), .int .u64 (pr : Int), .string s, .int .i64 ru, .int .i64 re, .int .i64 li, .int .u32 (su : Int), .slice ua un uc] 27)) := (HBW.out.trans (B3.mono HBW.out.size)).trans ((below_alloc w3 _).mono (HBW.out.trans (B3.mono HBW.out.size)).size)
      have OI4 : OwnIB (w3.alloc (.cells #[.int .u8 (k : Int), .int .u64 (pr : Int), .string s, .int .i64 ru, .int .i64 re, .int .i64 li, .int .u32 (su : Int), .slice ua un uc] 27)) w.heap.size (.slice ua un uc) inn := (OI.below (below_alloc w3 _)).base HBW.out.size
      have HP4 := Lib.hid P4
      have HOE4 := Lib.hid OE4
      have HB4 := Lib.hid B4
      have HOI4 := Lib.hid OI4
      clear P4 OE4 B4 OI4 HOE HBW OI B3 CW HSD
      go_upto_region 5 with fail
      generalize (w3.alloc (.cells #[.int .u8 (k : Int), .int .u64 (pr : Int), .string s, .int .i64 ru, .int .i64 re, .int .i64 li, .int .u32 (su : Int), .slice ua un uc] 27)) = w4 at *
      generalize w3.heap.size = q at *
      by_cases hz : N = 0
      · have hd := decC_zero (HN.out.trans hz)
        have hi := HHI.out
        rw [hd, HE.out] at hi
        simp only [List.append_nil, Nat.add_zero] at hi
        have HI2 := Lib.hid hi
        clear hi hd
        have hez : ¬ E = 0 := by have := (feN_err (b := b.drop p) (n := l.length) (by rw [List.length_drop]; have := HM0.out; omega)).1 (HN.out.trans hz); rw [HE.out] at this; exact this
        have hzi : ((E : Int) == 0) = false := by simp; omega
        have hzj : ((E : Int) != 0) = true := by simp; omega
        clear hez
        go_wp2_with fail
        go_ret3
        exact ⟨_, us, by rw [HI2.out]; rfl, by rw [HI2.out]; exact HOE4.out, HB4.out⟩
      · obtain rfl : E = 0 := by have h := (feN_err (b := b.drop p) (n := l.length) (by rw [List.length_drop]; have := HM0.out; omega)); rw [HE.out, HN.out] at h; exact Classical.byContradiction fun c => hz (h.2 c)
        have hd := decC_more (show ¬ feN (b.drop p) l.length = 0 by rw [HN.out]; exact hz)
        have HNM := Lib.hid (feN_num (show ¬ feN (b.drop p) l.length = 0 by rw [HN.out]; exact hz))
        rw [HN.out, HX.out, List.drop_drop] at hd
        have hNl : N ≤ b.length - p := by have := feN_le (b.drop p) l.length; rw [HN.out, List.length_drop] at this; exact this
        have HD := Lib.hid hd
        have HNL := Lib.hid hNl
        have HNZ := Lib.hid hz
        clear hd hNl hz
        have x0 := HP4.out.cell 0 _ rfl
        have x1 := HP4.out.cell 1 _ rfl
        have x2 := HP4.out.cell 2 _ rfl
        have x3 := HP4.out.cell 3 _ rfl
        have x4 := HP4.out.cell 4 _ rfl
        have x5 := HP4.out.cell 5 _ rfl
        have x6 := HP4.out.cell 6 _ rfl
        have x7 := HP4.out.cell 7 _ rfl
        have P5 : CellsAt (w4.alloc (.cells #[.int .u8 (k : Int), .int .u64 (pr : Int), .string s, .int .i64 ru, .int .i64 re, .int .i64 li, .int .u32 (su : Int), .slice ua un uc] 27)) w4.heap.size (entV ⟨k, pr, nm, ru, re, li, su, inn⟩ (.slice ua un uc)) := by unfold entV; simp only; rw [← HSS.out]; exact CellsAt.new w4 [.int .u8 (k : Int), .int .u64 (pr : Int), .string s, .int .i64 ru, .int .i64 re, .int .i64 li, .int .u32 (su : Int), .slice ua un uc] 27
        have OE5 := Lib.hid (HOE4.out.below (below_alloc w4 (.cells #[.int .u8 (k : Int), .int .u64 (pr : Int), .string s, .int .i64 ru, .int .i64 re, .int .i64 li, .int .u32 (su : Int), .slice ua un uc] 27)))
        have OI5 := Lib.hid (HOI4.out.below (below_alloc w4 (.cells #[.int .u8 (k : Int), .int .u64 (pr : Int), .string s, .int .i64 ru, .int .i64 re, .int .i64 li, .int .u32 (su : Int), .slice ua un uc] 27)))
        have HP5 := Lib.hid P5
        clear P5
        have iN : (N : Int) ≤ 140737488355328 := by have := HNL.out; have := HBL.out; omega
        have iP : (p : Int) ≤ 140737488355328 := by have := HP.out; have := HBL.out; omega
        go_upto_region 7 with fail
        go_wp2_with (at_builtin; go_loud (refine wp_apE rfl _ _ rfl w.heap.size _ l us rfl OE5.out w4.heap.size ⟨k, pr, nm, ru, re, li, su, inn⟩ _ rfl HP5.out rfl OI5.out (by have := HNM.out; omega) ?_))
        intro v6 w6 OE6 B6 _
        have B46 : Below w.heap.size w w6 := (HB4.out.trans ((below_alloc w4 (.cells #[.int .u8 (k : Int), .int .u64 (pr : Int), .string s, .int .i64 ru, .int .i64 re, .int .i64 li, .int .u32 (su : Int), .slice ua un uc] 27)).mono HB4.out.size)).trans B6
        obtain ⟨va6, vc6, rfl⟩ : ∃ a c, v6 = .slice a (l.length + 1) c := by
          have ho := OE6.own.2
          rw [List.length_append, List.length_singleton] at ho
          rcases ho with ⟨hn, h⟩ | ⟨g, cap, cur, hv, _⟩
          · omega
          · exact ⟨_, _, hv⟩
        have KEY := Lib.hid (show DeRel w b (.slice va6 (l.length + 1) vc6) (.int .i64 ((p : Int) + (N : Int))) w6 from ⟨l ++ [⟨k, pr, nm, ru, re, li, su, inn⟩], us ++ [.slice ua un uc], p + N, va6, vc6, by simp, by simp, by have := HP.out; have := HNL.out; omega, by have := HL.out; have := HNZ.out; simp; omega, by simpa using OE6, B46, by have hi := HHI.out; rw [HD.out] at hi; rw [hi]; simp [Nat.add_assoc]⟩)
        clear OE6 B6 B46
        go_wp2_with fail
        refine ⟨?_, by simp [intOf]; have := HP.out; have := HNL.out; have := HNZ.out; omega⟩
        repeat (refine Exists.intro _ ?_)
        first | exact ⟨rfl, KEY.out⟩ | exact ⟨KEY.out, rfl⟩ | exact KEY.out
    · obtain rfl : p = m0 := by omega
      have hd : b.drop p = [] := List.drop_of_length_le (by have := HM0.out; omega)
      have hi := HHI.out
      rw [hd, decC_nil] at hi
      simp only [List.append_nil, Nat.add_zero] at hi
      have HI2 := Lib.hid hi
      clear hi hd hend BW
      go_wp2_with fail
      go_ret3
      exact ⟨_, us, by rw [HI2.out]; rfl, by rw [HI2.out]; exact HOE.out, HBW.out⟩
theorem ddecode_ok (w : World) (v : Value) (b : List UInt8) (h : SlC w v b) (hbl : b.length ≤ 140737488355328) : Calls Tryd.prog 19 #[v] w (DeP w b) := by
  rcases h with ⟨rfl, hb⟩ | ⟨bb, off, c, rfl, h1⟩
  · exact ddecode_raw w none 0 0 b (Or.inl hb) (by rw [hb]; rfl) (Nat.le_refl _) (by omega) hbl
  · exact ddecode_raw w _ _ c b (Or.inr (Or.inr ⟨bb, off, c, rfl, h1⟩)) rfl h1.1 h1.2.1 hbl
end
section
open Go.RowKit
set_option maxRecDepth 100000

theorem flatE_at : ∀ (l : List Ent) (us : List Value) (i j : Nat) (e : Ent) (u : Value), l[i]? = some e → us[i]? = some u → j < 8 → (flatE l us)[8 * i + j]? = (entV e u)[j]?
  | [], _, i, _, _, _, h, _, _ => by simp at h
  | _ :: _, [], i, _, _, _, _, h, _ => by simp at h
  | a :: l, b :: us, 0, j, e, u, h1, h2, h3 => by
    simp at h1 h2
    subst h1 h2
    rw [flatE, List.getElem?_append_left (by simp [entV]; omega)]
    simp
  | a :: l, b :: us, i + 1, j, e, u, h1, h2, h3 => by
    rw [flatE, List.getElem?_append_right (by simp [entV]; omega)]
    have : 8 * (i + 1) + j - (entV a b).length = 8 * i + j := by simp [entV]; omega
    rw [this]
    exact flatE_at l us i j e u (by simpa using h1) (by simpa using h2) h3
/-- A slice of entries that reads so. -/
def EsAt (w : World) (v : Value) (l : List Ent) : Prop :=
  ∃ a c, v = .slice a l.length c ∧ l.length ≤ c ∧ c ≤ 9223372036854775807 ∧ (l = [] ∨ ∃ g off, a = some ⟨g, off, none⟩ ∧ g < w.heap.size ∧ ∀ i e, l[i]? = some e → ∃ u, (∀ j x, (entV e u)[j]? = some x → w.cell? ⟨g, off + 8 * i + j, none⟩ = some x) ∧ SlI w u e.inn)
theorem EsAt.below {w w' : World} {v : Value} {l : List Ent} (h : EsAt w v l) (k : Below w.heap.size w w') : EsAt w' v l := by
  obtain ⟨a, c, hv, h1, h2, h | ⟨g, off, ha, hg, hc⟩⟩ := h
  · exact ⟨a, c, hv, h1, h2, Or.inl h⟩
  · refine ⟨a, c, hv, h1, h2, Or.inr ⟨g, off, ha, Nat.lt_of_lt_of_le hg k.size, fun i e he => ?_⟩⟩
    obtain ⟨u, hu, hs⟩ := hc i e he
    exact ⟨u, fun j x hx => ((bcell k).1 g _ hg).trans (hu j x hx), hs.below k⟩
theorem OwnEs.es {w : World} {B : Nat} {v : Value} {l : List Ent} {us : List Value} (h : OwnEs w B v l us) : EsAt w v l := by
  rcases h.own.2 with ⟨hv, hn⟩ | ⟨g, cap, cur, hv, hb, hg, h1, h2, _⟩
  · have : l = [] := List.eq_nil_of_length_eq_zero hn
    subst this
    exact ⟨none, 0, hv, Nat.le_refl _, by omega, Or.inl rfl⟩
  · refine ⟨_, cap, hv, h1, by unfold maxLen at h2; omega, Or.inr ⟨g, 0, rfl, lt_of_heap hg, fun i e he => ?_⟩⟩
    have hi : i < us.length := by rw [h.len]; exact (List.getElem?_eq_some_iff.1 he).1
    refine ⟨us[i], fun j x hx => ?_, (h.ins i e us[i] he (List.getElem?_eq_getElem hi)).sl⟩
    have hj : j < 8 := by have := (List.getElem?_eq_some_iff.1 hx).1; simpa [entV] using this
    have := h.own.cells (g := g) (by rw [hv]; rfl) (8 * i + j) x (by rw [flatE_at l us i j e us[i] he (List.getElem?_eq_getElem hi) hj]; exact hx)
    rw [add_plain] at this
    rw [Nat.zero_add] at this ⊢
    exact this
section
variable {o : Oper} {a : Act} {W : World} {t s : Nat}
theorem ia39 {g off n c i : Nat} (ho : o.op = .indexAddr 39 (.tmp t) (.tmp s)) (ha : a.tmps.getD t undef = .slice (some ⟨g, off, none⟩) n c) (hs : a.tmps.getD s undef = .int .i64 (i : Int)) (hi : i < n) (hc : n ≤ 9223372036854775807) : (execOp a.eval o).run Tryd.prog W = .ok (.value (.pointer (some ⟨g, off + 8 * i, none⟩))) W := by
  have ha' := gd ha
  have hs' := gd hs
  have q1 : (i : Int) < (n : Int) := by omega
  have q2 : (0 : Int) ≤ (i : Int) := by omega
  generalize a.eval = ρ at *
  simp [execOp, ho, ha', hs', go_sem, q1, q2]
theorem ldE {g off : Nat} {x0 x1 x2 x3 x4 x5 x6 x7 : Value} (ho : o.op = .load 27 (.tmp t)) (ha : a.tmps.getD t undef = .pointer (some ⟨g, off, none⟩)) (h : ∀ j x, [x0, x1, x2, x3, x4, x5, x6, x7][j]? = some x → W.cell? ⟨g, off + j, none⟩ = some x) : (execOp a.eval o).run Tryd.prog W = .ok (.value (.agg #[x0, x1, x2, x3, x4, x5, x6, x7])) W := by
  have e0 := h 0 _ rfl
  have e1 := h 1 _ rfl
  have e2 := h 2 _ rfl
  have e3 := h 3 _ rfl
  have e4 := h 4 _ rfl
  have e5 := h 5 _ rfl
  have e6 := h 6 _ rfl
  have e7 := h 7 _ rfl
  rw [Nat.add_zero] at e0
  have ha' := gd ha
  generalize a.eval = ρ at *
  simp [execOp, ho, ha', go_sem, e0, e1, e2, e3, e4, e5, e6, e7]
theorem cl13 {u v : Value} (ho : o.op = .call { callee := .value (.func 13), args := #[.tmp t, .tmp s], argTypes := #[27, 27] }) (ha : a.tmps.getD t undef = u) (hs : a.tmps.getD s undef = v) : (execOp a.eval o).run Tryd.prog W = .ok (.enter 13 #[u, v]) W := by
  have ha' := gd ha
  have hs' := gd hs
  have hf : a.eval (.func 13) = .func (.func 13) #[] #[] := rfl
  generalize a.eval = ρ at *
  simp [execOp, ho, ha', hs', hf, go_sem]
end
end
end
section
open Go.RowKit
set_option maxRecDepth 100000

/-- The region. -/
noncomputable def r6C : Code := fstC (blC (fstC (sndC (lpC (blC (sndC (fstC (sndC (sndC (Tryd.f17.body.getD .skip))))))))))
set_option maxHeartbeats 3200000 in
theorem reg6 {Q : Exit → Act → World → Prop} {W : World} {g g2 o1 o2 n1 n2 c1 c2 k : Nat} {q : Bool} {x0 x1 x2 x3 x4 x5 x6 x7 y0 y1 y2 y3 y4 y5 y6 y7 t2 t3 t4 t6 t7 t8 t9 t10 t11 t12 t13 t14 t15 t16 t17 t18 t19 t20 t21 t22 t23 t24 t25 t26 : Value} {d : List Deferred}
    (hQ : ∀ (ch : _) (a : Act) (dd : Tmp) (v : Value) (w : World), Q (.panic ch) (a.put (some dd) v) w → Q (.panic ch) a w)
    (h1 : k < n1) (h2 : k < n2) (hn1 : n1 ≤ 9223372036854775807) (hn2 : n2 ≤ 9223372036854775807)
    (X : ∀ j x, [x0, x1, x2, x3, x4, x5, x6, x7][j]? = some x → W.cell? ⟨g, o1 + 8 * k + j, none⟩ = some x) (Y : ∀ j x, [y0, y1, y2, y3, y4, y5, y6, y7][j]? = some x → W.cell? ⟨g2, o2 + 8 * k + j, none⟩ = some x)
    (SM : Calls Tryd.prog 13 #[.agg #[x0, x1, x2, x3, x4, x5, x6, x7], .agg #[y0, y1, y2, y3, y4, y5, y6, y7]] W.drew (RetBelow W.drew (.bool q)))
    (h : ∀ (v17 v18 v19 v20 v21 v22 v23 v24 v25 : Value) (W1 : World), Below W.drew.heap.size W.drew W1 → Q .normal ⟨#[.slice (some ⟨g, o1, none⟩) n1 c1, .slice (some ⟨g2, o2, none⟩) n2 c2, t2, t3, t4, .int .i64 (k : Int), t6, t7, t8, t9, t10, t11, t12, t13, t14, t15, t16, v17, v18, v19, v20, v21, v22, v23, v24, v25, .bool (!q)], d⟩ W1) :
    r6C.wp Tryd.prog Q ⟨#[.slice (some ⟨g, o1, none⟩) n1 c1, .slice (some ⟨g2, o2, none⟩) n2 c2, t2, t3, t4, .int .i64 (k : Int), t6, t7, t8, t9, t10, t11, t12, t13, t14, t15, t16, t17, t18, t19, t20, t21, t22, t23, t24, t25, t26], d⟩ W := by
  show (Code.region 6 _ true).wp _ _ _ _
  refine wp_region_any (by kernel_rfl) ?_
  show wpAny _ _ _ _ _ _ _ W.drew
  change ∀ j x, [x0, x1, x2, x3, x4, x5, x6, x7][j]? = some x → W.drew.cell? ⟨g, o1 + 8 * k + j, none⟩ = some x at X
  change ∀ j x, [y0, y1, y2, y3, y4, y5, y6, y7][j]? = some x → W.drew.cell? ⟨g2, o2 + 8 * k + j, none⟩ = some x at Y
  generalize W.drew = W0 at *
  refine wpAny_take (i := 0) (v := .slice (some ⟨g, o1, none⟩) n1 c1) rfl (by kernel_rfl) (by kernel_rfl) (by kernel_rfl) (fun _ _ _ q => hQ _ _ _ _ _ q) (Or.inl ⟨by kernel_rfl, fun w => mv (t := 0) (Or.inl rfl) rfl⟩) ?_
  show wpAny _ _ _ _ _ #[true, false, false, false, false, false, false, false, false, false] ⟨#[.slice (some ⟨g, o1, none⟩) n1 c1, .slice (some ⟨g2, o2, none⟩) n2 c2, t2, t3, t4, .int .i64 (k : Int), t6, t7, t8, t9, t10, t11, t12, t13, t14, t15, t16, .slice (some ⟨g, o1, none⟩) n1 c1, t18, t19, t20, t21, t22, t23, t24, t25, t26], d⟩ W0
  refine wpAny_take (i := 1) (v := .int .i64 (k : Int)) rfl (by kernel_rfl) (by kernel_rfl) (by kernel_rfl) (fun _ _ _ q => hQ _ _ _ _ _ q) (Or.inl ⟨by kernel_rfl, fun w => mv (t := 5) (Or.inl rfl) rfl⟩) ?_
  show wpAny _ _ _ _ _ #[true, true, false, false, false, false, false, false, false, false] ⟨#[.slice (some ⟨g, o1, none⟩) n1 c1, .slice (some ⟨g2, o2, none⟩) n2 c2, t2, t3, t4, .int .i64 (k : Int), t6, t7, t8, t9, t10, t11, t12, t13, t14, t15, t16, .slice (some ⟨g, o1, none⟩) n1 c1, .int .i64 (k : Int), t19, t20, t21, t22, t23, t24, t25, t26], d⟩ W0
  refine wpAny_take (i := 2) (v := .pointer (some ⟨g, o1 + 8 * k, none⟩)) rfl (by kernel_rfl) (by kernel_rfl) (by kernel_rfl) (fun _ _ _ q => hQ _ _ _ _ _ q) (Or.inl ⟨by kernel_rfl, fun w => ia39 (t := 17) (s := 18) rfl rfl rfl h1 hn1⟩) ?_
  show wpAny _ _ _ _ _ #[true, true, true, false, false, false, false, false, false, false] ⟨#[.slice (some ⟨g, o1, none⟩) n1 c1, .slice (some ⟨g2, o2, none⟩) n2 c2, t2, t3, t4, .int .i64 (k : Int), t6, t7, t8, t9, t10, t11, t12, t13, t14, t15, t16, .slice (some ⟨g, o1, none⟩) n1 c1, .int .i64 (k : Int), .pointer (some ⟨g, o1 + 8 * k, none⟩), t20, t21, t22, t23, t24, t25, t26], d⟩ W0
  refine wpAny_take (i := 4) (v := .slice (some ⟨g2, o2, none⟩) n2 c2) rfl (by kernel_rfl) (by kernel_rfl) (by kernel_rfl) (fun _ _ _ q => hQ _ _ _ _ _ q) (Or.inl ⟨by kernel_rfl, fun w => mv (t := 1) (Or.inl rfl) rfl⟩) ?_
  show wpAny _ _ _ _ _ #[true, true, true, false, true, false, false, false, false, false] ⟨#[.slice (some ⟨g, o1, none⟩) n1 c1, .slice (some ⟨g2, o2, none⟩) n2 c2, t2, t3, t4, .int .i64 (k : Int), t6, t7, t8, t9, t10, t11, t12, t13, t14, t15, t16, .slice (some ⟨g, o1, none⟩) n1 c1, .int .i64 (k : Int), .pointer (some ⟨g, o1 + 8 * k, none⟩), t20, .slice (some ⟨g2, o2, none⟩) n2 c2, t22, t23, t24, t25, t26], d⟩ W0
  refine wpAny_take (i := 5) (v := .int .i64 (k : Int)) rfl (by kernel_rfl) (by kernel_rfl) (by kernel_rfl) (fun _ _ _ q => hQ _ _ _ _ _ q) (Or.inl ⟨by kernel_rfl, fun w => mv (t := 5) (Or.inl rfl) rfl⟩) ?_
  show wpAny _ _ _ _ _ #[true, true, true, false, true, true, false, false, false, false] ⟨#[.slice (some ⟨g, o1, none⟩) n1 c1, .slice (some ⟨g2, o2, none⟩) n2 c2, t2, t3, t4, .int .i64 (k : Int), t6, t7, t8, t9, t10, t11, t12, t13, t14, t15, t16, .slice (some ⟨g, o1, none⟩) n1 c1, .int .i64 (k : Int), .pointer (some ⟨g, o1 + 8 * k, none⟩), t20, .slice (some ⟨g2, o2, none⟩) n2 c2, .int .i64 (k : Int), t23, t24, t25, t26], d⟩ W0
  refine wpAny_take (i := 6) (v := .pointer (some ⟨g2, o2 + 8 * k, none⟩)) rfl (by kernel_rfl) (by kernel_rfl) (by kernel_rfl) (fun _ _ _ q => hQ _ _ _ _ _ q) (Or.inl ⟨by kernel_rfl, fun w => ia39 (t := 21) (s := 22) rfl rfl rfl h2 hn2⟩) ?_
  show wpAny _ _ _ _ _ #[true, true, true, false, true, true, true, false, false, false] ⟨#[.slice (some ⟨g, o1, none⟩) n1 c1, .slice (some ⟨g2, o2, none⟩) n2 c2, t2, t3, t4, .int .i64 (k : Int), t6, t7, t8, t9, t10, t11, t12, t13, t14, t15, t16, .slice (some ⟨g, o1, none⟩) n1 c1, .int .i64 (k : Int), .pointer (some ⟨g, o1 + 8 * k, none⟩), t20, .slice (some ⟨g2, o2, none⟩) n2 c2, .int .i64 (k : Int), .pointer (some ⟨g2, o2 + 8 * k, none⟩), t24, t25, t26], d⟩ W0
  refine wpAny_ready (rs := [3, 7]) (by kernel_rfl) (by simp) (AllReady.cons rfl (fun K hK => ?_) (AllReady.cons rfl (fun K hK => ?_) AllReady.nil))
  · skip
    rw [if_pos (by kernel_rfl)]
    unfold Oper.wp
    rw [ldE (W := W0) (t := 19) rfl rfl X, Oper.upon_value]
    refine hK _ _ ?_
    clear hK K
    show wpAny _ _ _ _ _ #[true, true, true, true, true, true, true, false, false, false] ⟨#[.slice (some ⟨g, o1, none⟩) n1 c1, .slice (some ⟨g2, o2, none⟩) n2 c2, t2, t3, t4, .int .i64 (k : Int), t6, t7, t8, t9, t10, t11, t12, t13, t14, t15, t16, .slice (some ⟨g, o1, none⟩) n1 c1, .int .i64 (k : Int), .pointer (some ⟨g, o1 + 8 * k, none⟩), .agg #[x0, x1, x2, x3, x4, x5, x6, x7], .slice (some ⟨g2, o2, none⟩) n2 c2, .int .i64 (k : Int), .pointer (some ⟨g2, o2 + 8 * k, none⟩), t24, t25, t26], d⟩ W0
    refine wpAny_ready (rs := [7]) (by kernel_rfl) (by simp) (AllReady.cons rfl (fun K hK => ?_) AllReady.nil)
    rw [if_pos (by kernel_rfl)]
    unfold Oper.wp
    rw [ldE (W := W0) (t := 23) rfl rfl Y, Oper.upon_value]
    refine hK _ _ ?_
    clear hK K
    show wpAny _ _ _ _ _ #[true, true, true, true, true, true, true, true, false, false] ⟨#[.slice (some ⟨g, o1, none⟩) n1 c1, .slice (some ⟨g2, o2, none⟩) n2 c2, t2, t3, t4, .int .i64 (k : Int), t6, t7, t8, t9, t10, t11, t12, t13, t14, t15, t16, .slice (some ⟨g, o1, none⟩) n1 c1, .int .i64 (k : Int), .pointer (some ⟨g, o1 + 8 * k, none⟩), .agg #[x0, x1, x2, x3, x4, x5, x6, x7], .slice (some ⟨g2, o2, none⟩) n2 c2, .int .i64 (k : Int), .pointer (some ⟨g2, o2 + 8 * k, none⟩), .agg #[y0, y1, y2, y3, y4, y5, y6, y7], t25, t26], d⟩ W0
    refine wpAny_ready (rs := [8]) (by kernel_rfl) (by simp) (AllReady.cons rfl (fun K hK => ?_) AllReady.nil)
    rw [if_pos (by kernel_rfl)]
    unfold Oper.wp
    rw [cl13 (t := 20) (s := 24) rfl rfl rfl, Oper.upon_enter]
    refine SM.mono ?_
    rintro e W1 ⟨rfl, b1⟩
    refine hK _ _ ?_
    clear hK K
    show wpAny _ _ _ _ _ #[true, true, true, true, true, true, true, true, true, false] ⟨#[.slice (some ⟨g, o1, none⟩) n1 c1, .slice (some ⟨g2, o2, none⟩) n2 c2, t2, t3, t4, .int .i64 (k : Int), t6, t7, t8, t9, t10, t11, t12, t13, t14, t15, t16, .slice (some ⟨g, o1, none⟩) n1 c1, .int .i64 (k : Int), .pointer (some ⟨g, o1 + 8 * k, none⟩), .agg #[x0, x1, x2, x3, x4, x5, x6, x7], .slice (some ⟨g2, o2, none⟩) n2 c2, .int .i64 (k : Int), .pointer (some ⟨g2, o2 + 8 * k, none⟩), .agg #[y0, y1, y2, y3, y4, y5, y6, y7], .bool q, t26], d⟩ W1
    refine wpAny_take (i := 9) (v := .bool (!q)) rfl (by kernel_rfl) (by kernel_rfl) (by kernel_rfl) (fun _ _ _ q => hQ _ _ _ _ _ q) (Or.inl ⟨by kernel_rfl, fun w => nt (t := 25) rfl rfl⟩) ?_
    show wpAny _ _ _ _ _ #[true, true, true, true, true, true, true, true, true, true] ⟨#[.slice (some ⟨g, o1, none⟩) n1 c1, .slice (some ⟨g2, o2, none⟩) n2 c2, t2, t3, t4, .int .i64 (k : Int), t6, t7, t8, t9, t10, t11, t12, t13, t14, t15, t16, .slice (some ⟨g, o1, none⟩) n1 c1, .int .i64 (k : Int), .pointer (some ⟨g, o1 + 8 * k, none⟩), .agg #[x0, x1, x2, x3, x4, x5, x6, x7], .slice (some ⟨g2, o2, none⟩) n2 c2, .int .i64 (k : Int), .pointer (some ⟨g2, o2 + 8 * k, none⟩), .agg #[y0, y1, y2, y3, y4, y5, y6, y7], .bool q, .bool (!q)], d⟩ W1
    refine wpAny_done (by kernel_rfl) ?_ _
    exact h _ _ _ _ _ _ _ _ _ W1 b1
  · skip
    rw [if_pos (by kernel_rfl)]
    unfold Oper.wp
    rw [ldE (W := W0) (t := 23) rfl rfl Y, Oper.upon_value]
    refine hK _ _ ?_
    clear hK K
    show wpAny _ _ _ _ _ #[true, true, true, false, true, true, true, true, false, false] ⟨#[.slice (some ⟨g, o1, none⟩) n1 c1, .slice (some ⟨g2, o2, none⟩) n2 c2, t2, t3, t4, .int .i64 (k : Int), t6, t7, t8, t9, t10, t11, t12, t13, t14, t15, t16, .slice (some ⟨g, o1, none⟩) n1 c1, .int .i64 (k : Int), .pointer (some ⟨g, o1 + 8 * k, none⟩), t20, .slice (some ⟨g2, o2, none⟩) n2 c2, .int .i64 (k : Int), .pointer (some ⟨g2, o2 + 8 * k, none⟩), .agg #[y0, y1, y2, y3, y4, y5, y6, y7], t25, t26], d⟩ W0
    refine wpAny_ready (rs := [3]) (by kernel_rfl) (by simp) (AllReady.cons rfl (fun K hK => ?_) AllReady.nil)
    rw [if_pos (by kernel_rfl)]
    unfold Oper.wp
    rw [ldE (W := W0) (t := 19) rfl rfl X, Oper.upon_value]
    refine hK _ _ ?_
    clear hK K
    show wpAny _ _ _ _ _ #[true, true, true, true, true, true, true, true, false, false] ⟨#[.slice (some ⟨g, o1, none⟩) n1 c1, .slice (some ⟨g2, o2, none⟩) n2 c2, t2, t3, t4, .int .i64 (k : Int), t6, t7, t8, t9, t10, t11, t12, t13, t14, t15, t16, .slice (some ⟨g, o1, none⟩) n1 c1, .int .i64 (k : Int), .pointer (some ⟨g, o1 + 8 * k, none⟩), .agg #[x0, x1, x2, x3, x4, x5, x6, x7], .slice (some ⟨g2, o2, none⟩) n2 c2, .int .i64 (k : Int), .pointer (some ⟨g2, o2 + 8 * k, none⟩), .agg #[y0, y1, y2, y3, y4, y5, y6, y7], t25, t26], d⟩ W0
    refine wpAny_ready (rs := [8]) (by kernel_rfl) (by simp) (AllReady.cons rfl (fun K hK => ?_) AllReady.nil)
    rw [if_pos (by kernel_rfl)]
    unfold Oper.wp
    rw [cl13 (t := 20) (s := 24) rfl rfl rfl, Oper.upon_enter]
    refine SM.mono ?_
    rintro e W1 ⟨rfl, b1⟩
    refine hK _ _ ?_
    clear hK K
    show wpAny _ _ _ _ _ #[true, true, true, true, true, true, true, true, true, false] ⟨#[.slice (some ⟨g, o1, none⟩) n1 c1, .slice (some ⟨g2, o2, none⟩) n2 c2, t2, t3, t4, .int .i64 (k : Int), t6, t7, t8, t9, t10, t11, t12, t13, t14, t15, t16, .slice (some ⟨g, o1, none⟩) n1 c1, .int .i64 (k : Int), .pointer (some ⟨g, o1 + 8 * k, none⟩), .agg #[x0, x1, x2, x3, x4, x5, x6, x7], .slice (some ⟨g2, o2, none⟩) n2 c2, .int .i64 (k : Int), .pointer (some ⟨g2, o2 + 8 * k, none⟩), .agg #[y0, y1, y2, y3, y4, y5, y6, y7], .bool q, t26], d⟩ W1
    refine wpAny_take (i := 9) (v := .bool (!q)) rfl (by kernel_rfl) (by kernel_rfl) (by kernel_rfl) (fun _ _ _ q => hQ _ _ _ _ _ q) (Or.inl ⟨by kernel_rfl, fun w => nt (t := 25) rfl rfl⟩) ?_
    show wpAny _ _ _ _ _ #[true, true, true, true, true, true, true, true, true, true] ⟨#[.slice (some ⟨g, o1, none⟩) n1 c1, .slice (some ⟨g2, o2, none⟩) n2 c2, t2, t3, t4, .int .i64 (k : Int), t6, t7, t8, t9, t10, t11, t12, t13, t14, t15, t16, .slice (some ⟨g, o1, none⟩) n1 c1, .int .i64 (k : Int), .pointer (some ⟨g, o1 + 8 * k, none⟩), .agg #[x0, x1, x2, x3, x4, x5, x6, x7], .slice (some ⟨g2, o2, none⟩) n2 c2, .int .i64 (k : Int), .pointer (some ⟨g2, o2 + 8 * k, none⟩), .agg #[y0, y1, y2, y3, y4, y5, y6, y7], .bool q, .bool (!q)], d⟩ W1
    refine wpAny_done (by kernel_rfl) ?_ _
    exact h _ _ _ _ _ _ _ _ _ W1 b1
def EnRel (l m : List Ent) (w : World) (i : Value) (wr : World) : Prop := ∃ k : Nat, k ≤ l.length ∧ l.take k = m.take k ∧ i = .int .i64 (k : Int) ∧ Below w.heap.size w wr
set_option maxHeartbeats 1600000 in
theorem entries_raw (w : World) (l m : List Ent) (hE : ∀ e ∈ l, EntIs e) (a1 a2 : Option Addr) (c1 c2 : Nat) (h1 : EsAt w (.slice a1 l.length c1) l) (h2 : EsAt w (.slice a2 m.length c2) m) (n1 n2 : Nat) (hn1 : n1 = l.length) (hn2 : n2 = m.length) (hx1 : n1 ≤ 9223372036854775807) (hx2 : n2 ≤ 9223372036854775807) (q : Bool) (hq : q = true ↔ l = m) :
    Calls Tryd.prog 17 #[.slice a1 n1 c1, .slice a2 n2 c2] w (RetBelow w (.bool q)) := by
  have HQ := Lib.hid hq
  clear hq
  have H1 := Lib.hid h1
  have H2 := Lib.hid h2
  have HE := Lib.hid hE
  have HN1 := Lib.hid hn1
  have HN2 := Lib.hid hn2
  clear h1 h2 hE
  by_cases hl : n1 = n2
  · have HL := Lib.hid hl
    subst hl
    clear hn1 hn2
    go_enter Tryd.func17, Tryd.ntmps17
    go_wp2_with fail
    go_loopw [5] (fun i wr => EnRel l m w i wr) (fun i _ => n1 - (intOf i).toNat)
    case atStart => exact ⟨0, Nat.zero_le _, rfl, rfl, Below.refl _ _⟩
    case round =>
      obtain ⟨k, hk, ht, rfl, BW⟩ := hrel
      by_cases hlt : k < n1
      · have kl : k < l.length := by have := HN1.out; omega
        have km : k < m.length := by have := HN2.out; omega
        obtain ⟨b1, e1, q1, _, _, r1⟩ := H1.out
        obtain ⟨b2, e2, q2, _, _, r2⟩ := H2.out
        injection q1 with q1 _ _
        injection q2 with q2 _ _
        subst q1 q2
        obtain ⟨g1, o1, rfl, hg1, s1⟩ := r1.resolve_left (by rintro rfl; simp at kl)
        obtain ⟨g2, o2, rfl, hg2, s2⟩ := r2.resolve_left (by rintro rfl; simp at km)
        obtain ⟨u, hu, hi⟩ := s1 k l[k] (List.getElem?_eq_getElem kl)
        obtain ⟨v, hv, hj⟩ := s2 k m[k] (List.getElem?_eq_getElem km)
        have EI := HE.out l[k] (List.getElem_mem kl)
        have KD : Below w.heap.size w wr.drew := BW.trans (bdrewB (Below.refl _ _) 1)
        have SM := same_ok l[k] m[k] EI (hi.below KD) (hj.below KD)
        have hsb := sameB_iff l[k] m[k]
        have HT := Lib.hid ht
        have t1 : l.take (k + 1) = l.take k ++ [l[k]] := List.take_succ_eq_append_getElem kl
        have t2 : m.take (k + 1) = m.take k ++ [m[k]] := List.take_succ_eq_append_getElem km
        have HT1 := Lib.hid t1
        have HT2 := Lib.hid t2
        have HLE : Hid (l = m → l[k] = m[k]) := Lib.hid (fun e => by subst e; rfl)
        have HX := Lib.hid (fun j x (hx : (entV l[k] u)[j]? = some x) => ((bcell BW).1 g1 (o1 + 8 * k + j) hg1).trans (hu j x hx))
        have HY := Lib.hid (fun j x (hx : (entV m[k] v)[j]? = some x) => ((bcell BW).1 g2 (o2 + 8 * k + j) hg2).trans (hv j x hx))
        have HSM := Lib.hid SM
        have HSB := Lib.hid hsb
        have HBW := Lib.hid BW
        clear ht t1 t2 SM hsb BW KD hi hj hu hv EI s1 s2 r1 r2
        go_upto_region 6 with fail
        rename_i KK hKK
        refine reg6 (q := sameB l[k] m[k]) (fun _ _ _ _ _ h => h) hlt hlt (by omega) (by omega) HX.out HY.out HSM.out ?_
        intro v17 v18 v19 v20 v21 v22 v23 v24 v25 W1 B1
        refine hKK _ _ ?_
        have B2 := Lib.hid ((HBW.out.trans (bdrewB (Below.refl _ _) 1)).trans (B1.mono (HBW.out.trans (bdrewB (Below.refl _ _) 1)).size))
        clear B1 HX HY HSM
        generalize sameB l[k] m[k] = sb at *
        cases sb with
        | false =>
          go_wp2_with fail
          go_ret
          refine ⟨?_, B2.out⟩
          have : q = false := by cases q with | false => rfl | true => (have := HSB.out.2 (HLE.out (HQ.out.1 rfl)); cases this)
          rw [this]; rfl
        | true =>
          have KEY := Lib.hid (show EnRel l m w (.int .i64 ((k : Int) + 1)) W1 from ⟨k + 1, by omega, by rw [HT1.out, HT2.out, HT.out, HSB.out.1 rfl], by go_num, B2.out⟩)
          clear B2 HT1 HT2 HT
          go_wp2_with fail
          exact ⟨KEY.out, by simp [intOf]; omega⟩
      · obtain rfl : k = n1 := by have := HN1.out; omega
        have e1 : l.take k = l := List.take_of_length_le (by have := HN1.out; omega)
        have e2 : m.take k = m := List.take_of_length_le (by have := HN2.out; omega)
        have HQ2 : Hid (q = true) := Lib.hid (HQ.out.2 (by rw [← e1, ht, e2]))
        have HBW := Lib.hid BW
        clear ht e1 e2 BW hlt
        go_wp2_with fail
        go_ret
        exact ⟨by rw [HQ2.out]; rfl, HBW.out⟩
  · have q1 : ((n1 : Int) != (n2 : Int)) = true := by simp; omega
    have q2 : (n1 != n2) = true := by simpa using hl
    have q3 : ((n1 : Int) == (n2 : Int)) = false := by simp; omega
    have q4 : (n1 == n2) = false := by simpa using hl
    have HF : Hid (q = false) := Lib.hid (by cases q with | false => rfl | true => exact absurd (by rw [hn1, hn2, HQ.out.1 rfl]) hl)
    clear hn1 hn2 hl
    go_enter Tryd.func17, Tryd.ntmps17
    go_wp2_with fail
    go_ret
    exact ⟨by rw [HF.out]; rfl, Below.refl _ _⟩
theorem entries_ok (w : World) (l m : List Ent) (hE : ∀ e ∈ l, EntIs e) {u v : Value} (h1 : EsAt w u l) (h2 : EsAt w v m) (q : Bool) (hq : q = true ↔ l = m) : Calls Tryd.prog 17 #[u, v] w (RetBelow w (.bool q)) := by
  obtain ⟨a1, c1, rfl, b1, d1, r1⟩ := h1
  obtain ⟨a2, c2, rfl, b2, d2, r2⟩ := h2
  exact entries_raw w l m hE a1 a2 c1 c2 ⟨a1, c1, rfl, b1, d1, r1⟩ ⟨a2, c2, rfl, b2, d2, r2⟩ _ _ rfl rfl (by omega) (by omega) q hq
end
end
section
open Go.RowKit
set_option maxRecDepth 100000

theorem slc_of {w : World} {a : Option Addr} {c : Nat} {l : List UInt8} (h : SlB w (.slice a l.length c) l) (hl : l.length ≤ c) (hc : c ≤ 9223372036854775807) : l = [] ∨ SlC w (.slice a l.length c) l := by
  obtain ⟨a', c', hv, hn, h | ⟨b, off, ha, hb, hx⟩⟩ := h
  · exact Or.inl h
  · injection hv with e1 _ e3
    subst e1 e3
    exact Or.inr (Or.inr ⟨b, off, c, by rw [ha], hl, hc, hb, hx⟩)
theorem decS_is : ∀ (f : Nat) (b : List UInt8) (n : Nat), b.length ≤ 140737488355328 → ∀ e ∈ (decS f b n).1, EntIs e
  | 0, _, _, _, e, he => by simp [decS] at he
  | f + 1, b, n, hb, e, he => by
    rw [decS] at he
    by_cases g : feN b n = 0
    · rw [if_pos g] at he; simp at he
    · rw [if_neg g] at he
      simp only [List.mem_cons] at he
      rcases he with rfl | he
      · unfold feX
        split
        · exact par_is _ (by unfold feB; have := seg_le b 11 (feL b); have := valB_lt (seg b 5 2); have h2 : 256 ^ (seg b 5 2).length ≤ 256 ^ 2 := Nat.pow_le_pow_right (by omega) (seg_le _ _ _); unfold feL at *; omega)
        · have z : (-9223372036854775808 : Int) ≤ 0 ∧ (0 : Int) ≤ 9223372036854775807 := by omega
          exact ⟨by show 0 < 256; omega, by show 0 < 18446744073709551616; omega, by simp [zE], z, z, z, by show 0 < 4294967296; omega, by simp [zE], by simp [zE]⟩
      · exact decS_is f _ (n + 1) (by rw [List.length_drop]; omega) e he
theorem decC_is (b : List UInt8) (n : Nat) (hb : b.length ≤ 140737488355328) : ∀ e ∈ (decC b n).1, EntIs e := decS_is _ b n hb
set_option maxHeartbeats 2400000 in
theorem tempDecodes_walk (w : World) (a : Option Addr) (c : Nat) (b : List UInt8) (hs : SlB w (.slice a b.length c) b) (hc : b.length ≤ c) (h63 : c ≤ 9223372036854775807) (hl : b.length ≤ 140737488351232) (T : Tabs w) : Calls Tryd.prog 7 #[.slice a b.length c] w (RetTrue w) := by
  have HO := Lib.hid (OwnB.nil w)
  have HS := Lib.hid hs
  have HL := Lib.hid hl
  have HT := Lib.hid T
  have HSC := Lib.hid (slc_of hs hc h63)
  obtain ⟨m0, hm0⟩ : ∃ m0, m0 = b.length := ⟨_, rfl⟩
  rw [← hm0] at HS HSC hc ⊢
  have HM := Lib.hid hm0
  clear hs hl T hm0
  have HC := Lib.hid hc
  have H63 := Lib.hid h63
  clear hc h63
  go_enter Tryd.func7, Tryd.ntmps7
  go_wp2_with (at_builtin; refine wp_appv rfl _ _ rfl w.heap.size _ _ rfl HO.out _ b rfl HS.out (by have := HL.out; simp; omega) ?_)
  intro v1 w1 h1 h2 h3
  have O1 : SlC w1 v1 b := h1.slc
  have K1 := Lib.hid h2
  have HO1 := Lib.hid O1
  clear h1 h3 O1 HO
  have D1 := Lib.hid (decode_ok w1 v1 b HO1.out (by have := HL.out; omega) (HT.out.below h2))
  clear h2
  go_wp2_with fail
  with_reducible refine D1.out.mono ?_
  rintro e w2 ⟨v2, us2, rfl, E2, b2⟩
  clear D1
  have D2 := Lib.hid (ddecode_raw w2 a m0 c b (HSC.out.imp id fun h => (h.below K1.out).below b2) HM.out HC.out H63.out (by have := HL.out; omega))
  obtain ⟨l, hlv⟩ : ∃ l, l = (decC b 0).1 := ⟨_, rfl⟩
  obtain ⟨n, hnv⟩ : ∃ n, n = (decC b 0).2.1 := ⟨_, rfl⟩
  obtain ⟨x, hxv⟩ : ∃ x, x = (decC b 0).2.2 := ⟨_, rfl⟩
  have HLE : Hid (∀ e ∈ l, EntIs e) := Lib.hid (by rw [hlv]; exact decC_is b 0 (by have := HL.out; omega))
  unfold DeP at D2
  rw [← hlv, ← hnv, ← hxv] at D2
  rw [← hlv] at E2
  rw [← hnv, ← hxv]
  clear hlv hnv hxv
  have HE2 := Lib.hid E2.es
  clear E2
  go_wp2_with fail
  with_reducible refine D2.out.mono ?_
  rintro e w3 ⟨v3, us3, rfl, E3, b3⟩
  clear D2
  have EN := Lib.hid (entries_ok w3 l l HLE.out (HE2.out.below b3) E3.es true (by simp))
  have K3 := Lib.hid ((K1.out.trans (b2.mono K1.out.size)).trans (b3.mono (K1.out.trans (b2.mono K1.out.size)).size))
  have HV := Lib.hid ((HO1.out.below b2).below b3)
  have HB := Lib.hid (HS.out.below K3.out)
  clear E3 b3 b2 HE2 HO1
  go_wp2_with fail
  with_reducible refine EN.out.mono ?_
  rintro e w4 ⟨rfl, b4⟩
  clear EN
  have BS := bytesame_ok (HV.out.below b4).sl (HB.out.below b4)
  rw [decide_eq_true rfl] at BS
  have HBS := Lib.hid BS
  clear BS
  go_wp2_with fail
  refine (num_ok _ w4).mono ?_
  rintro e w5 ⟨rfl, rfl⟩
  go_wp2_with fail
  refine HBS.out.mono ?_
  rintro e w5 ⟨rfl, rfl⟩
  go_wp2_with fail
  go_ret
  exact ⟨rfl, K3.out.trans (b4.mono K3.out.size)⟩
end
end Go.Proofs.YtlbekgcfafofdaaDoor
