/- textOf of the program; text and high of the document. -/
import Derived.Test.YtlohgcdonenmeaaDoorTx
import Derived.Lib.AppendIntMem
namespace Go.Proofs.YtlohgcdonenmeaaDoor
open Go.RowKit Go.Maps
set_option maxRecDepth 100000

def txF (e : Int) : Option (Int × List UInt8) := tx.find? (fun p => decide (p.1 = e))
def errL : List UInt8 := [101, 114, 114, 111, 114, 32]
/-- What is told of an error. -/
def txS (e : Int) : List UInt8 := match txF e with | some p => p.2 | none => errL ++ dcS e
theorem at_list (e : Int) (z : Value) : ∀ l : List (Int × List UInt8), (DataW.map (l.map txE)).atKey (.int .i64 e) (.held z) = .held (match l.find? (fun p => decide (p.1 = e)) with | some p => .agg #[.string (bs p.2)] | none => z) ∧
    Maps.has (DataW.map (l.map txE)) (.int .i64 e) = (l.find? (fun p => decide (p.1 = e))).isSome
  | [] => ⟨rfl, rfl⟩
  | p :: l => by
    have ih := at_list e z l
    unfold DataW.atKey Maps.has at *
    by_cases h : p.1 = e
    · simp [txE, Lit.sameKey, h]
    · simp only [List.map_cons, List.find?_cons, List.any_cons]
      have : (txE p).1.sameKey (.int .i64 e) = false := by simp [txE, Lit.sameKey, h]
      rw [this]
      simp only [h, decide_false, Bool.false_or]
      exact ih
theorem at_tx (e : Int) (z : Value) : (txD 26).atKey (.int .i64 e) (.held z) = .held (match txF e with | some p => .agg #[.string (bs p.2)] | none => z) ∧ Maps.has (txD 26) (.int .i64 e) = (txF e).isSome := at_list e z _
def Tabs (w : World) : Prop := Lib.TabIs Tryd.prog w "internal/strconv.uint64pow10" .u64 Lib.pow10Tab
theorem global_tab : Tryd.prog.globalNamed "internal/strconv.uint64pow10" = some 0 := by kernel_rfl
theorem Tabs.below {w w' : World} (h : Tabs w) (hb : Below w.heap.size w w') : Tabs w' := by
  unfold Tabs Lib.TabIs World.var? at h ⊢
  rw [global_tab] at h ⊢
  simp only [Option.bind_some] at h ⊢
  have hlt : 0 < w.heap.size := by
    rcases Nat.lt_or_ge 0 w.heap.size with h' | h'
    · exact h'
    · rw [Array.getElem?_eq_none h'] at h; cases h
  rw [hb.block 0 hlt]
  exact h
theorem itoa_ok (n : Int) (h0 : -9223372036854775808 ≤ n) (h1 : n ≤ 9223372036854775807) (w : World) (T : Tabs w) : Calls Tryd.prog 10 #[.int .i64 n] w (RetBelow w (.string (bs (dcS n)))) := by
  refine (Tryd.strconv_Itoa n h0 h1 w T).mono ?_
  rintro e w' ⟨rfl, k, os, rfl⟩
  exact ⟨rfl, Lib.below_grow _ _ (Nat.le_refl _) _ _⟩
theorem key_of (e : Int) (h0 : -9223372036854775808 ≤ e) (h1 : e ≤ 9223372036854775807) : keyOf Tryd.prog 26 (.int .i64 e) = some (.int .i64 e) := by
  unfold keyOf
  rw [Tryd.underlying26]
  unfold mapKey
  rw [Tryd.underlying26]
  have hw : (Lit.int .i64 e).wf = true := by
    simp [Lit.wf, IntKind.min, IntKind.max, IntKind.bits, IntKind.signed]; omega
  simp only [hw, and_self, if_true]
theorem wp_lookup_tx (w : World) {ops : Array Oper} {rest : List Oper} {o : Oper} {a : Act} {Q : Exit → Act → World → Prop}
    (hg : o.guard = none) (m x : Operand) (hop : o.op = Op.lookup 47 m x true) (b n : Nat)
    (hm : a.eval m = .map (some b)) (hown : w.ownsMap Tryd.prog 26 heldR b n (txD 26)) (e : Int) (hx : a.eval x = .int .i64 e) (h0 : -9223372036854775808 ≤ e) (h1 : e ≤ 9223372036854775807)
    (s : ByteArray) (y : Bool) (hs : (match txF e with | some p => bs p.2 | none => bs []) = s) (hy : (txF e).isSome = y)
    (hK : wpList Tryd.prog ops Q rest (a.put o.dst (.tuple #[.agg #[.string s], .bool y])) w) :
    wpList Tryd.prog ops Q (o :: rest) a w := by
  obtain ⟨h2, h3⟩ := at_tx e (.agg #[.string (bs [])])
  refine wpList_lookup_own_ok w hg m x 47 hop 26 45 K26 Tryd.underlying47 heldR (z := .agg #[.string (bs [])]) (Tryd.zeroValue45 w) (.held (.agg #[.string (bs [])])) [] rfl b n (txD 26) hm hown _ (.int .i64 e) hx (key_of e h0 h1) ?_
  intro v ps hv
  rw [h2] at hv
  simp only [heldR, Option.some.injEq, Prod.mk.injEq, DataW.held.injEq] at hv
  obtain ⟨hv, _⟩ := hv
  rw [h3, hy]
  have : v = .agg #[.string s] := by rw [hv, ← hs]; cases txF e <;> rfl
  rw [this]
  exact hK
set_option maxHeartbeats 4000000 in
theorem textOf_ok (e : Int) (h0 : -9223372036854775808 ≤ e) (h1 : e ≤ 9223372036854775807) (w : World) (T : Tabs w) : Calls Tryd.prog 13 #[.int .i64 e] w (RetBelow w (.string (bs (txS e)))) := by
  obtain ⟨s, hs⟩ : ∃ s, s = (match txF e with | some p => bs p.2 | none => bs []) := ⟨_, rfl⟩
  have HS := Lib.hid hs.symm
  have HT := Lib.hid T
  have H0 := Lib.hid h0
  have H1 := Lib.hid h1
  clear hs T h0 h1
  cases hy : txF e with
  | some p =>
    have HY := Lib.hid (show (txF e).isSome = true by rw [hy]; rfl)
    have HE := Lib.hid (show txS e = p.2 ∧ s = bs p.2 by rw [← HS.out]; unfold txS; rw [hy]; exact ⟨rfl, rfl⟩)
    clear hy
    go_enter Tryd.func13, Tryd.ntmps13
    go_wp2_with (first | (go_at_call 19; refine (texts_ok _).mono ?_) | (at_lookup; refine wp_lookup_tx _ rfl _ _ rfl _ 26 rfl HO.out e rfl H0.out H1.out s true HS.out HY.out ?_))
    rintro e w1 ⟨rfl, o1, b1⟩
    have HO := Lib.hid o1
    have HB := Lib.hid b1
    clear o1 b1
    go_wp2_with (at_lookup; refine wp_lookup_tx _ rfl _ _ rfl _ 26 rfl HO.out _ rfl H0.out H1.out s true HS.out HY.out ?_)
    go_ret
    exact ⟨by rw [HE.out.1, HE.out.2]; rfl, HB.out.trans ((below_alloc _ _).mono HB.out.size)⟩
  | none =>
    have HY := Lib.hid (show (txF e).isSome = false by rw [hy]; rfl)
    have HE := Lib.hid (show txS e = errL ++ dcS e ∧ s = bs [] by rw [← HS.out]; unfold txS; rw [hy]; exact ⟨rfl, rfl⟩)
    clear hy
    go_enter Tryd.func13, Tryd.ntmps13
    go_wp2_with (go_at_call 19; refine (texts_ok _).mono ?_)
    rintro e1 w1 ⟨rfl, o1, b1⟩
    have HO := Lib.hid o1
    have HB := Lib.hid b1
    clear o1 b1
    have HT2 := Lib.hid ((HT.out.below HB.out).below (below_alloc w1 (.cells #[.string s] 45)))
    have hl := Lib.hid (dc_len e H0.out H1.out)
    go_wp2_with (first | (at_lookup; refine wp_lookup_tx _ rfl _ _ rfl _ 26 rfl HO.out _ rfl H0.out H1.out s false HS.out HY.out ?_) | (go_at_call 10; refine (itoa_ok e H0.out H1.out _ ?_).mono ?_))
    · exact HT2.out
    rintro e2 w2 ⟨rfl, b2⟩
    have HB2 := Lib.hid b2
    clear b2
    generalize hM : bs (dcS e) = M at *
    have HM := Lib.hid hM
    clear hM
    have z1 : ¬ 9223372036854775807 < (⟨#[101, 114, 114, 111, 114, 32]⟩ : ByteArray).size + M.size := by rw [show (⟨#[101, 114, 114, 111, 114, 32]⟩ : ByteArray).size = 6 from rfl]; have := hl.out; omega
    go_wp2_with fail
    go_ret
    refine ⟨?_, ?_⟩
    · rw [HE.out.1, ← bs_cat, HM.out]; rfl
    · exact HB.out.trans (((below_alloc _ _).mono HB.out.size).trans (HB2.out.mono (by have := HB.out.size; simp; omega)))
theorem tx_none {e : Int} (h : ∀ p ∈ tx, p.1 ≠ e) : txS e = errL ++ dcS e := by
  unfold txS txF
  rw [List.find?_eq_none.2 (fun p hp => by simpa using h p hp)]

set_option maxHeartbeats 4000000 in
theorem high_ok (e : Int) (h0 : -9223372036854775808 ≤ e) (h1 : e ≤ 9223372036854775807) (hl : ∀ p ∈ tx, p.1 < 40 → p.1 ≠ e) (w : World) : Calls Tryd.prog 20 #[.int .i64 e] w (RetBelow w (.string (bs (txS e)))) := by
  by_cases k40 : e = 40
  · subst k40
    clear h0 h1
    go_enter Tryd.func20, Tryd.ntmps20
    go_wp2_with fail
    go_ret
    exact ⟨rfl, Below.refl _ _⟩
  by_cases k41 : e = 41
  · subst k41
    clear h0 h1
    go_enter Tryd.func20, Tryd.ntmps20
    go_wp2_with fail
    go_ret
    exact ⟨rfl, Below.refl _ _⟩
  by_cases k42 : e = 42
  · subst k42
    clear h0 h1
    go_enter Tryd.func20, Tryd.ntmps20
    go_wp2_with fail
    go_ret
    exact ⟨rfl, Below.refl _ _⟩
  by_cases k43 : e = 43
  · subst k43
    clear h0 h1
    go_enter Tryd.func20, Tryd.ntmps20
    go_wp2_with fail
    go_ret
    exact ⟨rfl, Below.refl _ _⟩
  by_cases k44 : e = 44
  · subst k44
    clear h0 h1
    go_enter Tryd.func20, Tryd.ntmps20
    go_wp2_with fail
    go_ret
    exact ⟨rfl, Below.refl _ _⟩
  by_cases k45 : e = 45
  · subst k45
    clear h0 h1
    go_enter Tryd.func20, Tryd.ntmps20
    go_wp2_with fail
    go_ret
    exact ⟨rfl, Below.refl _ _⟩
  by_cases k46 : e = 46
  · subst k46
    clear h0 h1
    go_enter Tryd.func20, Tryd.ntmps20
    go_wp2_with fail
    go_ret
    exact ⟨rfl, Below.refl _ _⟩
  by_cases k47 : e = 47
  · subst k47
    clear h0 h1
    go_enter Tryd.func20, Tryd.ntmps20
    go_wp2_with fail
    go_ret
    exact ⟨rfl, Below.refl _ _⟩
  by_cases k48 : e = 48
  · subst k48
    clear h0 h1
    go_enter Tryd.func20, Tryd.ntmps20
    go_wp2_with fail
    go_ret
    exact ⟨rfl, Below.refl _ _⟩
  by_cases k49 : e = 49
  · subst k49
    clear h0 h1
    go_enter Tryd.func20, Tryd.ntmps20
    go_wp2_with fail
    go_ret
    exact ⟨rfl, Below.refl _ _⟩
  by_cases k71 : e = 71
  · subst k71
    clear h0 h1
    go_enter Tryd.func20, Tryd.ntmps20
    go_wp2_with fail
    go_ret
    exact ⟨rfl, Below.refl _ _⟩
  by_cases k72 : e = 72
  · subst k72
    clear h0 h1
    go_enter Tryd.func20, Tryd.ntmps20
    go_wp2_with fail
    go_ret
    exact ⟨rfl, Below.refl _ _⟩
  by_cases k111 : e = 111
  · subst k111
    clear h0 h1
    go_enter Tryd.func20, Tryd.ntmps20
    go_wp2_with fail
    go_ret
    exact ⟨rfl, Below.refl _ _⟩
  by_cases k112 : e = 112
  · subst k112
    clear h0 h1
    go_enter Tryd.func20, Tryd.ntmps20
    go_wp2_with fail
    go_ret
    exact ⟨rfl, Below.refl _ _⟩
  by_cases k113 : e = 113
  · subst k113
    clear h0 h1
    go_enter Tryd.func20, Tryd.ntmps20
    go_wp2_with fail
    go_ret
    exact ⟨rfl, Below.refl _ _⟩
  have hn : ∀ p ∈ tx, p.1 ≠ e := by
    intro p hp
    by_cases h40 : p.1 < 40
    · exact hl p hp h40
    · have : ∀ p ∈ tx, ¬ p.1 < 40 → p.1 ∈ ([40, 41, 42, 43, 44, 45, 46, 47, 48, 49, 71, 72, 111, 112, 113] : List Int) := by decide
      have := this p hp h40
      simp only [List.mem_cons, List.mem_nil_iff, or_false] at this
      omega
  have E := Lib.hid (tx_none hn)
  clear hn
  have f40 : decide (e = 40) = false := decide_eq_false k40
  have g40 : (e == 40) = false := by simp [k40]
  have f41 : decide (e = 41) = false := decide_eq_false k41
  have g41 : (e == 41) = false := by simp [k41]
  have f42 : decide (e = 42) = false := decide_eq_false k42
  have g42 : (e == 42) = false := by simp [k42]
  have f43 : decide (e = 43) = false := decide_eq_false k43
  have g43 : (e == 43) = false := by simp [k43]
  have f44 : decide (e = 44) = false := decide_eq_false k44
  have g44 : (e == 44) = false := by simp [k44]
  have f45 : decide (e = 45) = false := decide_eq_false k45
  have g45 : (e == 45) = false := by simp [k45]
  have f46 : decide (e = 46) = false := decide_eq_false k46
  have g46 : (e == 46) = false := by simp [k46]
  have f47 : decide (e = 47) = false := decide_eq_false k47
  have g47 : (e == 47) = false := by simp [k47]
  have f48 : decide (e = 48) = false := decide_eq_false k48
  have g48 : (e == 48) = false := by simp [k48]
  have f49 : decide (e = 49) = false := decide_eq_false k49
  have g49 : (e == 49) = false := by simp [k49]
  have f71 : decide (e = 71) = false := decide_eq_false k71
  have g71 : (e == 71) = false := by simp [k71]
  have f72 : decide (e = 72) = false := decide_eq_false k72
  have g72 : (e == 72) = false := by simp [k72]
  have f111 : decide (e = 111) = false := decide_eq_false k111
  have g111 : (e == 111) = false := by simp [k111]
  have f112 : decide (e = 112) = false := decide_eq_false k112
  have g112 : (e == 112) = false := by simp [k112]
  have f113 : decide (e = 113) = false := decide_eq_false k113
  have g113 : (e == 113) = false := by simp [k113]
  have H0 := Lib.hid h0
  have H1 := Lib.hid h1
  clear h0 h1 k40 k41 k42 k43 k44 k45 k46 k47 k48 k49 k71 k72 k111 k112 k113 hl
  go_enter Tryd.func20, Tryd.ntmps20
  go_wp2_with (go_at_call 12; refine (decimal_ok e.natAbs e (Nat.le_refl _) H0.out H1.out _).mono ?_)
  rintro e1 w1 ⟨rfl, b1⟩
  have HB := Lib.hid b1
  clear b1
  have hl := Lib.hid (dc_len e H0.out H1.out)
  generalize hM : bs (dcS e) = M at *
  have HM := Lib.hid hM
  clear hM
  have z1 : ¬ 9223372036854775807 < (⟨#[101, 114, 114, 111, 114, 32]⟩ : ByteArray).size + M.size := by rw [show (⟨#[101, 114, 114, 111, 114, 32]⟩ : ByteArray).size = 6 from rfl]; have := hl.out; omega
  go_wp2_with fail
  go_ret
  exact ⟨by rw [E.out, ← bs_cat, HM.out]; rfl, HB.out⟩
set_option maxHeartbeats 4000000 in
theorem text_ok (e : Int) (h0 : -9223372036854775808 ≤ e) (h1 : e ≤ 9223372036854775807) (w : World) : Calls Tryd.prog 14 #[.int .i64 e] w (RetBelow w (.string (bs (txS e)))) := by
  by_cases k3 : e = 3
  · subst k3
    clear h0 h1
    go_enter Tryd.func14, Tryd.ntmps14
    go_wp2_with fail
    go_ret
    exact ⟨rfl, Below.refl _ _⟩
  by_cases k4 : e = 4
  · subst k4
    clear h0 h1
    go_enter Tryd.func14, Tryd.ntmps14
    go_wp2_with fail
    go_ret
    exact ⟨rfl, Below.refl _ _⟩
  by_cases k5 : e = 5
  · subst k5
    clear h0 h1
    go_enter Tryd.func14, Tryd.ntmps14
    go_wp2_with fail
    go_ret
    exact ⟨rfl, Below.refl _ _⟩
  by_cases k10 : e = 10
  · subst k10
    clear h0 h1
    go_enter Tryd.func14, Tryd.ntmps14
    go_wp2_with fail
    go_ret
    exact ⟨rfl, Below.refl _ _⟩
  by_cases k11 : e = 11
  · subst k11
    clear h0 h1
    go_enter Tryd.func14, Tryd.ntmps14
    go_wp2_with fail
    go_ret
    exact ⟨rfl, Below.refl _ _⟩
  by_cases k12 : e = 12
  · subst k12
    clear h0 h1
    go_enter Tryd.func14, Tryd.ntmps14
    go_wp2_with fail
    go_ret
    exact ⟨rfl, Below.refl _ _⟩
  by_cases k13 : e = 13
  · subst k13
    clear h0 h1
    go_enter Tryd.func14, Tryd.ntmps14
    go_wp2_with fail
    go_ret
    exact ⟨rfl, Below.refl _ _⟩
  by_cases k14 : e = 14
  · subst k14
    clear h0 h1
    go_enter Tryd.func14, Tryd.ntmps14
    go_wp2_with fail
    go_ret
    exact ⟨rfl, Below.refl _ _⟩
  by_cases k15 : e = 15
  · subst k15
    clear h0 h1
    go_enter Tryd.func14, Tryd.ntmps14
    go_wp2_with fail
    go_ret
    exact ⟨rfl, Below.refl _ _⟩
  by_cases k18 : e = 18
  · subst k18
    clear h0 h1
    go_enter Tryd.func14, Tryd.ntmps14
    go_wp2_with fail
    go_ret
    exact ⟨rfl, Below.refl _ _⟩
  by_cases k22 : e = 22
  · subst k22
    clear h0 h1
    go_enter Tryd.func14, Tryd.ntmps14
    go_wp2_with fail
    go_ret
    exact ⟨rfl, Below.refl _ _⟩
  have hn : ∀ p ∈ tx, p.1 < 40 → p.1 ≠ e := by
    intro p hp h40
    have : ∀ p ∈ tx, p.1 < 40 → p.1 ∈ ([3, 4, 5, 10, 11, 12, 13, 14, 15, 18, 22] : List Int) := by decide
    have := this p hp h40
    simp only [List.mem_cons, List.mem_nil_iff, or_false] at this
    omega
  have HN := Lib.hid hn
  clear hn
  have f3 : decide (e = 3) = false := decide_eq_false k3
  have g3 : (e == 3) = false := by simp [k3]
  have f4 : decide (e = 4) = false := decide_eq_false k4
  have g4 : (e == 4) = false := by simp [k4]
  have f5 : decide (e = 5) = false := decide_eq_false k5
  have g5 : (e == 5) = false := by simp [k5]
  have f10 : decide (e = 10) = false := decide_eq_false k10
  have g10 : (e == 10) = false := by simp [k10]
  have f11 : decide (e = 11) = false := decide_eq_false k11
  have g11 : (e == 11) = false := by simp [k11]
  have f12 : decide (e = 12) = false := decide_eq_false k12
  have g12 : (e == 12) = false := by simp [k12]
  have f13 : decide (e = 13) = false := decide_eq_false k13
  have g13 : (e == 13) = false := by simp [k13]
  have f14 : decide (e = 14) = false := decide_eq_false k14
  have g14 : (e == 14) = false := by simp [k14]
  have f15 : decide (e = 15) = false := decide_eq_false k15
  have g15 : (e == 15) = false := by simp [k15]
  have f18 : decide (e = 18) = false := decide_eq_false k18
  have g18 : (e == 18) = false := by simp [k18]
  have f22 : decide (e = 22) = false := decide_eq_false k22
  have g22 : (e == 22) = false := by simp [k22]
  have H0 := Lib.hid h0
  have H1 := Lib.hid h1
  clear h0 h1 k3 k4 k5 k10 k11 k12 k13 k14 k15 k18 k22
  go_enter Tryd.func14, Tryd.ntmps14
  go_wp2_with (go_at_call 20; refine (high_ok e H0.out H1.out HN.out _).mono ?_)
  rintro e1 w1 ⟨rfl, b1⟩
  have HB := Lib.hid b1
  clear b1
  go_wp2_with fail
  go_ret
  exact ⟨rfl, HB.out⟩
end Go.Proofs.YtlohgcdonenmeaaDoor
