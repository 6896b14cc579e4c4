/- The steps of begin and end one by one, for walks by hand; their regions that draw an order. -/
import Derived.Test.YtnpnccjeapejdaaGreatDoorKb
import Derived.Test.YtnpnccjeapejdaaGreatDoorSq
import Derived.Test.YtnpnccjeapejdaaGreatDoorKg
namespace Go.Proofs.YtnpnccjeapejdaaGreatDoor
open Go.RowKit
set_option maxRecDepth 100000

/-- A key's numbers, as the program's order has them, from off on. -/
structure KcAt (w : World) (g off : Nat) (f c ef ec : Int) (m : Nat) (b : Bool) (t : Int) : Prop where
  c0 : w.cell? ⟨g, off, none⟩ = some (.int .i64 f)
  c1 : w.cell? ⟨g, off + 1, none⟩ = some (.int .i64 c)
  c2 : w.cell? ⟨g, off + 2, none⟩ = some (.int .i64 ef)
  c3 : w.cell? ⟨g, off + 3, none⟩ = some (.int .i64 ec)
  c4 : w.cell? ⟨g, off + 4, none⟩ = some (.int .u16 (m : Int))
  c5 : w.cell? ⟨g, off + 5, none⟩ = some (.bool b)
  c6 : w.cell? ⟨g, off + 6, none⟩ = some (.int .i64 t)
  lt : g < w.heap.size
theorem KcAt.below {w w' : World} {g off : Nat} {f c ef ec : Int} {m : Nat} {b : Bool} {t : Int} (h : KcAt w g off f c ef ec m b t) (k : Below w.heap.size w w') : KcAt w' g off f c ef ec m b t :=
  have q := fun j => (k.cell (p := ⟨g, j, none⟩) h.lt)
  ⟨(q _).trans h.c0, (q _).trans h.c1, (q _).trans h.c2, (q _).trans h.c3, (q _).trans h.c4, (q _).trans h.c5, (q _).trans h.c6, Nat.lt_of_lt_of_le h.lt k.size⟩
/-- Is the bit B set? -/
def bB (m : Nat) : Bool := !decide (m &&& 1 = 0)
def sndC : Code → Code
  | .seq _ b => b
  | c => c
def fstC : Code → Code
  | .seq a _ => a
  | c => c
section
variable {o : Oper} {a : Act} {W : World} {t u x y : Nat}
theorem gd {v : Value} (h : a.tmps.getD t undef = v) : a.eval (.tmp t) = v := h
theorem mv {v : Value} (ho : o.op = .move (.tmp t) ∨ o.op = .assign (.tmp t)) (ha : a.tmps.getD t undef = v) : (execOp a.eval o).run Tryz.prog W = .ok (.value v) W := by
  have ha' := gd ha
  generalize a.eval = ρ at *
  rcases ho with ho | ho <;> simp [execOp, ho, ha', go_sem]
theorem nck {p : Addr} (ho : o.op = .nilCheck (.tmp t)) (ha : a.tmps.getD t undef = .pointer (some p)) : (execOp a.eval o).run Tryz.prog W = .ok (.value (.pointer (some p))) W := by
  have ha' := gd ha
  generalize a.eval = ρ at *
  simp [execOp, ho, ha', go_sem]
theorem fa65_0 {g off : Nat} (ho : o.op = .fieldAddr 59 (.tmp t) 0) (ha : a.tmps.getD t undef = .pointer (some ⟨g, off, none⟩)) : (execOp a.eval o).run Tryz.prog W = .ok (.value (.pointer (some ⟨g, off, none⟩))) W := by
  have ha' := gd ha
  generalize a.eval = ρ at *
  simp [execOp, ho, ha', go_sem]
theorem fa65_1 {g off : Nat} (ho : o.op = .fieldAddr 59 (.tmp t) 1) (ha : a.tmps.getD t undef = .pointer (some ⟨g, off, none⟩)) : (execOp a.eval o).run Tryz.prog W = .ok (.value (.pointer (some ⟨g, off + 6, none⟩))) W := by
  have ha' := gd ha
  generalize a.eval = ρ at *
  simp [execOp, ho, ha', go_sem]
theorem fa35_0 {g off : Nat} (ho : o.op = .fieldAddr 54 (.tmp t) 0) (ha : a.tmps.getD t undef = .pointer (some ⟨g, off, none⟩)) : (execOp a.eval o).run Tryz.prog W = .ok (.value (.pointer (some ⟨g, off, none⟩))) W := by
  have ha' := gd ha
  generalize a.eval = ρ at *
  simp [execOp, ho, ha', go_sem]
theorem fa35_1 {g off : Nat} (ho : o.op = .fieldAddr 54 (.tmp t) 1) (ha : a.tmps.getD t undef = .pointer (some ⟨g, off, none⟩)) : (execOp a.eval o).run Tryz.prog W = .ok (.value (.pointer (some ⟨g, off + 1, none⟩))) W := by
  have ha' := gd ha
  generalize a.eval = ρ at *
  simp [execOp, ho, ha', go_sem]
theorem fa35_2 {g off : Nat} (ho : o.op = .fieldAddr 54 (.tmp t) 2) (ha : a.tmps.getD t undef = .pointer (some ⟨g, off, none⟩)) : (execOp a.eval o).run Tryz.prog W = .ok (.value (.pointer (some ⟨g, off + 2, none⟩))) W := by
  have ha' := gd ha
  generalize a.eval = ρ at *
  simp [execOp, ho, ha', go_sem]
theorem fa35_3 {g off : Nat} (ho : o.op = .fieldAddr 54 (.tmp t) 3) (ha : a.tmps.getD t undef = .pointer (some ⟨g, off, none⟩)) : (execOp a.eval o).run Tryz.prog W = .ok (.value (.pointer (some ⟨g, off + 3, none⟩))) W := by
  have ha' := gd ha
  generalize a.eval = ρ at *
  simp [execOp, ho, ha', go_sem]
theorem fa35_4 {g off : Nat} (ho : o.op = .fieldAddr 54 (.tmp t) 4) (ha : a.tmps.getD t undef = .pointer (some ⟨g, off, none⟩)) : (execOp a.eval o).run Tryz.prog W = .ok (.value (.pointer (some ⟨g, off + 4, none⟩))) W := by
  have ha' := gd ha
  generalize a.eval = ρ at *
  simp [execOp, ho, ha', go_sem]
theorem fa35_5 {g off : Nat} (ho : o.op = .fieldAddr 54 (.tmp t) 5) (ha : a.tmps.getD t undef = .pointer (some ⟨g, off, none⟩)) : (execOp a.eval o).run Tryz.prog W = .ok (.value (.pointer (some ⟨g, off + 5, none⟩))) W := by
  have ha' := gd ha
  generalize a.eval = ρ at *
  simp [execOp, ho, ha', go_sem]
theorem ld3 {p : Addr} {v : Value} (ho : o.op = .load 3 (.tmp t)) (ha : a.tmps.getD t undef = .pointer (some p)) (h : W.cell? p = some v) : (execOp a.eval o).run Tryz.prog W = .ok (.value v) W := by
  have ha' := gd ha
  generalize a.eval = ρ at *
  simp [execOp, ho, ha', go_sem, h]
theorem ld4 {p : Addr} {v : Value} (ho : o.op = .load 4 (.tmp t)) (ha : a.tmps.getD t undef = .pointer (some p)) (h : W.cell? p = some v) : (execOp a.eval o).run Tryz.prog W = .ok (.value v) W := by
  have ha' := gd ha
  generalize a.eval = ρ at *
  simp [execOp, ho, ha', go_sem, h]
theorem ld24 {p : Addr} {v : Value} (ho : o.op = .load 24 (.tmp t)) (ha : a.tmps.getD t undef = .pointer (some p)) (h : W.cell? p = some v) : (execOp a.eval o).run Tryz.prog W = .ok (.value v) W := by
  have ha' := gd ha
  generalize a.eval = ρ at *
  simp [execOp, ho, ha', go_sem, h]
theorem and1 {m : Nat} (ho : o.op = .binOp .and 24 (.tmp t) (.const (.int .u16 1)) 24) (ha : a.tmps.getD t undef = .int .u16 (m : Int)) (hm : m < 65536) : (execOp a.eval o).run Tryz.prog W = .ok (.value (.int .u16 ((m &&& 1 : Nat) : Int))) W := by
  have ha' := gd ha
  have hc : a.eval (.const (.int .u16 1)) = .int .u16 1 := rfl
  have hb1 : bits BinOp.and IntKind.u16 (m : Int) 1 = ((m &&& 1 : Nat) : Int) := and_nat m 1 hm (by omega)
  generalize a.eval = ρ at *
  simp [execOp, ho, ha', hc, go_sem, hb1]
theorem ne24 {m : Nat} (ho : o.op = .binOp .neq 24 (.tmp t) (.const (.int .u16 0)) 24) (ha : a.tmps.getD t undef = .int .u16 ((m &&& 1 : Nat) : Int)) : (execOp a.eval o).run Tryz.prog W = .ok (.value (.bool (bB m))) W := by
  have ha' := gd ha
  have hc : a.eval (.const (.int .u16 0)) = .int .u16 0 := rfl
  have hbb : (((m &&& 1 : Nat) : Int) != 0) = bB m := by unfold bB; rw [Bool.eq_iff_iff]; simp; omega
  generalize m &&& 1 = mm at *
  generalize a.eval = ρ at *
  simp [execOp, ho, ha', hc, go_sem, hbb]
theorem sub1 {c : Nat} (ho : o.op = .binOp .sub 3 (.tmp t) (.const (.int .i64 1)) 3) (ha : a.tmps.getD t undef = .int .i64 (c : Int)) (hc : 1 ≤ c ∧ c ≤ 2147483647) : (execOp a.eval o).run Tryz.prog W = .ok (.value (.int .i64 ((c - 1 : Nat) : Int))) W := by
  have ha' := gd ha
  have hc' : a.eval (.const (.int .i64 1)) = .int .i64 1 := rfl
  generalize a.eval = ρ at *
  have hw : IntKind.i64.wrap ((c : Int) - 1) = ((c - 1 : Nat) : Int) := by rw [IntKind.wrap_i64]; omega
  simp [execOp, ho, ha', hc', go_sem, hw]
theorem cl58 {v0 v1 v2 : Value} (ho : o.op = .call { callee := .value (.func 106), args := #[.tmp t, .tmp u, .tmp x], argTypes := #[9, 3, 3] }) (h0 : a.tmps.getD t undef = v0) (h1 : a.tmps.getD u undef = v1) (h2 : a.tmps.getD x undef = v2) : (execOp a.eval o).run Tryz.prog W = .ok (.enter 106 #[v0, v1, v2]) W := by
  have h0' := gd h0
  have h1' := gd h1
  have h2' := gd h2
  have hf : a.eval (.func 106) = .func (.func 106) #[] #[] := rfl
  generalize a.eval = ρ at *
  simp [execOp, ho, h0', h1', h2', hf, go_sem]
theorem cl59 {v0 v1 v2 v3 : Value} (ho : o.op = .call { callee := .value (.func 107), args := #[.tmp t, .tmp u, .tmp x, .tmp y], argTypes := #[9, 3, 4, 3] }) (h0 : a.tmps.getD t undef = v0) (h1 : a.tmps.getD u undef = v1) (h2 : a.tmps.getD x undef = v2) (h3 : a.tmps.getD y undef = v3) : (execOp a.eval o).run Tryz.prog W = .ok (.enter 107 #[v0, v1, v2, v3]) W := by
  have h0' := gd h0
  have h1' := gd h1
  have h2' := gd h2
  have h3' := gd h3
  have hf : a.eval (.func 107) = .func (.func 107) #[] #[] := rfl
  generalize a.eval = ρ at *
  simp [execOp, ho, h0', h1', h2', h3', hf, go_sem]
end
set_option maxHeartbeats 3200000 in
theorem b44_1 {Q : Exit → Act → World → Prop} {W : World} {g off f c m a : Nat} {ef ec : Int} {b : Bool} {s : ByteArray} {t : Int} {t2 t3 t4 t5 t6 t7 t8 t9 t10 t11 t12 t13 t14 t15 t16 t17 t18 t19 t20 t21 t22 t23 t24 t25 t26 t27 t28 t29 t30 t31 t32 : Value} {d : List Deferred}
    (hQ : ∀ (ch : _) (a : Act) (dd : Tmp) (v : Value) (w : World), Q (.panic ch) (a.put (some dd) v) w → Q (.panic ch) a w)
    (KC : KcAt W.drew g off (f : Int) (c : Int) ef ec m b t)
    (FB : Calls Tryz.prog 106 #[.string s, .int .i64 t, .int .i64 (f : Int)] W.drew (RetS W.drew (.int .i64 (a : Int))))
    (h : ∀ (v6 v7 v8 v9 v10 v11 v12 v13 v14 v15 v16 : Value), Q .normal ⟨#[.pointer (some ⟨g, off, none⟩), .string s, t2, t3, t4, .int .i64 (a : Int), v6, v7, v8, v9, v10, v11, v12, v13, v14, v15, v16, t17, t18, t19, t20, t21, t22, t23, t24, t25, t26, t27, t28, t29, t30, t31, t32], d⟩ W.drew) :
    (fstC (sndC (Tryz.f83.body.getD .skip))).wp Tryz.prog Q ⟨#[.pointer (some ⟨g, off, none⟩), .string s, t2, t3, t4, t5, t6, t7, t8, t9, t10, t11, t12, t13, t14, t15, t16, t17, t18, t19, t20, t21, t22, t23, t24, t25, t26, t27, t28, t29, t30, t31, t32], d⟩ W := by
  show (Code.region 1 _ true).wp _ _ _ _
  refine wp_region_any (by kernel_rfl) ?_
  show wpAny _ _ _ _ _ _ _ W.drew
  generalize W.drew = W0 at *
  refine wpAny_take (i := 0) (v := .string s) rfl (by kernel_rfl) (by kernel_rfl) (by kernel_rfl) (fun _ _ _ q => hQ _ _ _ _ _ q) (Or.inl ⟨by kernel_rfl, fun w => mv (t := 1) (Or.inl rfl) rfl⟩) ?_
  show wpAny _ _ _ _ _ #[true, false, false, false, false, false, false, false, false, false, false, false] ⟨#[.pointer (some ⟨g, off, none⟩), .string s, t2, t3, t4, t5, .string s, t7, t8, t9, t10, t11, t12, t13, t14, t15, t16, t17, t18, t19, t20, t21, t22, t23, t24, t25, t26, t27, t28, t29, t30, t31, t32], d⟩ W0
  refine wpAny_take (i := 1) (v := .pointer (some ⟨g, off, none⟩)) rfl (by kernel_rfl) (by kernel_rfl) (by kernel_rfl) (fun _ _ _ q => hQ _ _ _ _ _ q) (Or.inl ⟨by kernel_rfl, fun w => mv (t := 0) (Or.inl rfl) rfl⟩) ?_
  show wpAny _ _ _ _ _ #[true, true, false, false, false, false, false, false, false, false, false, false] ⟨#[.pointer (some ⟨g, off, none⟩), .string s, t2, t3, t4, t5, .string s, .pointer (some ⟨g, off, none⟩), t8, t9, t10, t11, t12, t13, t14, t15, t16, t17, t18, t19, t20, t21, t22, t23, t24, t25, t26, t27, t28, t29, t30, t31, t32], d⟩ W0
  refine wpAny_take (i := 2) (v := .pointer (some ⟨g, off, none⟩)) rfl (by kernel_rfl) (by kernel_rfl) (by kernel_rfl) (fun _ _ _ q => hQ _ _ _ _ _ q) (Or.inl ⟨by kernel_rfl, fun w => nck (t := 7) rfl rfl⟩) ?_
  show wpAny _ _ _ _ _ #[true, true, true, false, false, false, false, false, false, false, false, false] ⟨#[.pointer (some ⟨g, off, none⟩), .string s, t2, t3, t4, t5, .string s, .pointer (some ⟨g, off, none⟩), .pointer (some ⟨g, off, none⟩), t9, t10, t11, t12, t13, t14, t15, t16, t17, t18, t19, t20, t21, t22, t23, t24, t25, t26, t27, t28, t29, t30, t31, t32], d⟩ W0
  refine wpAny_take (i := 3) (v := .pointer (some ⟨g, off + 6, none⟩)) rfl (by kernel_rfl) (by kernel_rfl) (by kernel_rfl) (fun _ _ _ q => hQ _ _ _ _ _ q) (Or.inl ⟨by kernel_rfl, fun w => fa65_1 (t := 8) rfl rfl⟩) ?_
  show wpAny _ _ _ _ _ #[true, true, true, true, false, false, false, false, false, false, false, false] ⟨#[.pointer (some ⟨g, off, none⟩), .string s, t2, t3, t4, t5, .string s, .pointer (some ⟨g, off, none⟩), .pointer (some ⟨g, off, none⟩), .pointer (some ⟨g, off + 6, none⟩), t10, t11, t12, t13, t14, t15, t16, t17, t18, t19, t20, t21, t22, t23, t24, t25, t26, t27, t28, t29, t30, t31, t32], d⟩ W0
  refine wpAny_take (i := 5) (v := .pointer (some ⟨g, off, none⟩)) rfl (by kernel_rfl) (by kernel_rfl) (by kernel_rfl) (fun _ _ _ q => hQ _ _ _ _ _ q) (Or.inl ⟨by kernel_rfl, fun w => mv (t := 0) (Or.inl rfl) rfl⟩) ?_
  show wpAny _ _ _ _ _ #[true, true, true, true, false, true, false, false, false, false, false, false] ⟨#[.pointer (some ⟨g, off, none⟩), .string s, t2, t3, t4, t5, .string s, .pointer (some ⟨g, off, none⟩), .pointer (some ⟨g, off, none⟩), .pointer (some ⟨g, off + 6, none⟩), t10, .pointer (some ⟨g, off, none⟩), t12, t13, t14, t15, t16, t17, t18, t19, t20, t21, t22, t23, t24, t25, t26, t27, t28, t29, t30, t31, t32], d⟩ W0
  refine wpAny_take (i := 6) (v := .pointer (some ⟨g, off, none⟩)) rfl (by kernel_rfl) (by kernel_rfl) (by kernel_rfl) (fun _ _ _ q => hQ _ _ _ _ _ q) (Or.inl ⟨by kernel_rfl, fun w => nck (t := 11) rfl rfl⟩) ?_
  show wpAny _ _ _ _ _ #[true, true, true, true, false, true, true, false, false, false, false, false] ⟨#[.pointer (some ⟨g, off, none⟩), .string s, t2, t3, t4, t5, .string s, .pointer (some ⟨g, off, none⟩), .pointer (some ⟨g, off, none⟩), .pointer (some ⟨g, off + 6, none⟩), t10, .pointer (some ⟨g, off, none⟩), .pointer (some ⟨g, off, none⟩), t13, t14, t15, t16, t17, t18, t19, t20, t21, t22, t23, t24, t25, t26, t27, t28, t29, t30, t31, t32], d⟩ W0
  refine wpAny_take (i := 7) (v := .pointer (some ⟨g, off, none⟩)) rfl (by kernel_rfl) (by kernel_rfl) (by kernel_rfl) (fun _ _ _ q => hQ _ _ _ _ _ q) (Or.inl ⟨by kernel_rfl, fun w => fa65_0 (t := 12) rfl rfl⟩) ?_
  show wpAny _ _ _ _ _ #[true, true, true, true, false, true, true, true, false, false, false, false] ⟨#[.pointer (some ⟨g, off, none⟩), .string s, t2, t3, t4, t5, .string s, .pointer (some ⟨g, off, none⟩), .pointer (some ⟨g, off, none⟩), .pointer (some ⟨g, off + 6, none⟩), t10, .pointer (some ⟨g, off, none⟩), .pointer (some ⟨g, off, none⟩), .pointer (some ⟨g, off, none⟩), t14, t15, t16, t17, t18, t19, t20, t21, t22, t23, t24, t25, t26, t27, t28, t29, t30, t31, t32], d⟩ W0
  refine wpAny_take (i := 8) (v := .pointer (some ⟨g, off, none⟩)) rfl (by kernel_rfl) (by kernel_rfl) (by kernel_rfl) (fun _ _ _ q => hQ _ _ _ _ _ q) (Or.inl ⟨by kernel_rfl, fun w => fa35_0 (t := 13) rfl rfl⟩) ?_
  show wpAny _ _ _ _ _ #[true, true, true, true, false, true, true, true, true, false, false, false] ⟨#[.pointer (some ⟨g, off, none⟩), .string s, t2, t3, t4, t5, .string s, .pointer (some ⟨g, off, none⟩), .pointer (some ⟨g, off, none⟩), .pointer (some ⟨g, off + 6, none⟩), t10, .pointer (some ⟨g, off, none⟩), .pointer (some ⟨g, off, none⟩), .pointer (some ⟨g, off, none⟩), .pointer (some ⟨g, off, none⟩), t15, t16, t17, t18, t19, t20, t21, t22, t23, t24, t25, t26, t27, t28, t29, t30, t31, t32], d⟩ W0
  refine wpAny_ready (rs := [4, 9]) (by kernel_rfl) (by simp) (AllReady.cons rfl (fun K hK => ?_) (AllReady.cons rfl (fun K hK => ?_) AllReady.nil))
  · skip
    rw [if_pos (by kernel_rfl)]
    unfold Oper.wp
    rw [ld3 (W := W0) (t := 9) rfl rfl KC.c6, Oper.upon_value]
    refine hK _ _ ?_
    clear hK K
    show wpAny _ _ _ _ _ #[true, true, true, true, true, true, true, true, true, false, false, false] ⟨#[.pointer (some ⟨g, off, none⟩), .string s, t2, t3, t4, t5, .string s, .pointer (some ⟨g, off, none⟩), .pointer (some ⟨g, off, none⟩), .pointer (some ⟨g, off + 6, none⟩), .int .i64 t, .pointer (some ⟨g, off, none⟩), .pointer (some ⟨g, off, none⟩), .pointer (some ⟨g, off, none⟩), .pointer (some ⟨g, off, none⟩), t15, t16, t17, t18, t19, t20, t21, t22, t23, t24, t25, t26, t27, t28, t29, t30, t31, t32], d⟩ W0
    refine wpAny_ready (rs := [9]) (by kernel_rfl) (by simp) (AllReady.cons rfl (fun K hK => ?_) AllReady.nil)
    rw [if_pos (by kernel_rfl)]
    unfold Oper.wp
    rw [ld3 (W := W0) (t := 14) rfl rfl KC.c0, Oper.upon_value]
    refine hK _ _ ?_
    clear hK K
    show wpAny _ _ _ _ _ #[true, true, true, true, true, true, true, true, true, true, false, false] ⟨#[.pointer (some ⟨g, off, none⟩), .string s, t2, t3, t4, t5, .string s, .pointer (some ⟨g, off, none⟩), .pointer (some ⟨g, off, none⟩), .pointer (some ⟨g, off + 6, none⟩), .int .i64 t, .pointer (some ⟨g, off, none⟩), .pointer (some ⟨g, off, none⟩), .pointer (some ⟨g, off, none⟩), .pointer (some ⟨g, off, none⟩), .int .i64 (f : Int), t16, t17, t18, t19, t20, t21, t22, t23, t24, t25, t26, t27, t28, t29, t30, t31, t32], d⟩ W0
    refine wpAny_ready (rs := [10]) (by kernel_rfl) (by simp) (AllReady.cons rfl (fun K hK => ?_) AllReady.nil)
    rw [if_pos (by kernel_rfl)]
    unfold Oper.wp
    rw [cl58 (t := 6) (u := 10) (x := 15) rfl rfl rfl rfl, Oper.upon_enter]
    refine (FB).mono ?_
    rintro e w9 ⟨rfl, rfl⟩
    refine hK _ _ ?_
    clear hK K
    show wpAny _ _ _ _ _ #[true, true, true, true, true, true, true, true, true, true, true, false] ⟨#[.pointer (some ⟨g, off, none⟩), .string s, t2, t3, t4, t5, .string s, .pointer (some ⟨g, off, none⟩), .pointer (some ⟨g, off, none⟩), .pointer (some ⟨g, off + 6, none⟩), .int .i64 t, .pointer (some ⟨g, off, none⟩), .pointer (some ⟨g, off, none⟩), .pointer (some ⟨g, off, none⟩), .pointer (some ⟨g, off, none⟩), .int .i64 (f : Int), .int .i64 (a : Int), t17, t18, t19, t20, t21, t22, t23, t24, t25, t26, t27, t28, t29, t30, t31, t32], d⟩ W0
    refine wpAny_take (i := 11) (v := .int .i64 (a : Int)) rfl (by kernel_rfl) (by kernel_rfl) (by kernel_rfl) (fun _ _ _ q => hQ _ _ _ _ _ q) (Or.inl ⟨by kernel_rfl, fun w => mv (t := 16) (Or.inr rfl) rfl⟩) ?_
    show wpAny _ _ _ _ _ #[true, true, true, true, true, true, true, true, true, true, true, true] ⟨#[.pointer (some ⟨g, off, none⟩), .string s, t2, t3, t4, .int .i64 (a : Int), .string s, .pointer (some ⟨g, off, none⟩), .pointer (some ⟨g, off, none⟩), .pointer (some ⟨g, off + 6, none⟩), .int .i64 t, .pointer (some ⟨g, off, none⟩), .pointer (some ⟨g, off, none⟩), .pointer (some ⟨g, off, none⟩), .pointer (some ⟨g, off, none⟩), .int .i64 (f : Int), .int .i64 (a : Int), t17, t18, t19, t20, t21, t22, t23, t24, t25, t26, t27, t28, t29, t30, t31, t32], d⟩ W0
    refine wpAny_done (by kernel_rfl) ?_ _
    exact h _ _ _ _ _ _ _ _ _ _ _
  · skip
    rw [if_pos (by kernel_rfl)]
    unfold Oper.wp
    rw [ld3 (W := W0) (t := 14) rfl rfl KC.c0, Oper.upon_value]
    refine hK _ _ ?_
    clear hK K
    show wpAny _ _ _ _ _ #[true, true, true, true, false, true, true, true, true, true, false, false] ⟨#[.pointer (some ⟨g, off, none⟩), .string s, t2, t3, t4, t5, .string s, .pointer (some ⟨g, off, none⟩), .pointer (some ⟨g, off, none⟩), .pointer (some ⟨g, off + 6, none⟩), t10, .pointer (some ⟨g, off, none⟩), .pointer (some ⟨g, off, none⟩), .pointer (some ⟨g, off, none⟩), .pointer (some ⟨g, off, none⟩), .int .i64 (f : Int), t16, t17, t18, t19, t20, t21, t22, t23, t24, t25, t26, t27, t28, t29, t30, t31, t32], d⟩ W0
    refine wpAny_ready (rs := [4]) (by kernel_rfl) (by simp) (AllReady.cons rfl (fun K hK => ?_) AllReady.nil)
    rw [if_pos (by kernel_rfl)]
    unfold Oper.wp
    rw [ld3 (W := W0) (t := 9) rfl rfl KC.c6, Oper.upon_value]
    refine hK _ _ ?_
    clear hK K
    show wpAny _ _ _ _ _ #[true, true, true, true, true, true, true, true, true, true, false, false] ⟨#[.pointer (some ⟨g, off, none⟩), .string s, t2, t3, t4, t5, .string s, .pointer (some ⟨g, off, none⟩), .pointer (some ⟨g, off, none⟩), .pointer (some ⟨g, off + 6, none⟩), .int .i64 t, .pointer (some ⟨g, off, none⟩), .pointer (some ⟨g, off, none⟩), .pointer (some ⟨g, off, none⟩), .pointer (some ⟨g, off, none⟩), .int .i64 (f : Int), t16, t17, t18, t19, t20, t21, t22, t23, t24, t25, t26, t27, t28, t29, t30, t31, t32], d⟩ W0
    refine wpAny_ready (rs := [10]) (by kernel_rfl) (by simp) (AllReady.cons rfl (fun K hK => ?_) AllReady.nil)
    rw [if_pos (by kernel_rfl)]
    unfold Oper.wp
    rw [cl58 (t := 6) (u := 10) (x := 15) rfl rfl rfl rfl, Oper.upon_enter]
    refine (FB).mono ?_
    rintro e w9 ⟨rfl, rfl⟩
    refine hK _ _ ?_
    clear hK K
    show wpAny _ _ _ _ _ #[true, true, true, true, true, true, true, true, true, true, true, false] ⟨#[.pointer (some ⟨g, off, none⟩), .string s, t2, t3, t4, t5, .string s, .pointer (some ⟨g, off, none⟩), .pointer (some ⟨g, off, none⟩), .pointer (some ⟨g, off + 6, none⟩), .int .i64 t, .pointer (some ⟨g, off, none⟩), .pointer (some ⟨g, off, none⟩), .pointer (some ⟨g, off, none⟩), .pointer (some ⟨g, off, none⟩), .int .i64 (f : Int), .int .i64 (a : Int), t17, t18, t19, t20, t21, t22, t23, t24, t25, t26, t27, t28, t29, t30, t31, t32], d⟩ W0
    refine wpAny_take (i := 11) (v := .int .i64 (a : Int)) rfl (by kernel_rfl) (by kernel_rfl) (by kernel_rfl) (fun _ _ _ q => hQ _ _ _ _ _ q) (Or.inl ⟨by kernel_rfl, fun w => mv (t := 16) (Or.inr rfl) rfl⟩) ?_
    show wpAny _ _ _ _ _ #[true, true, true, true, true, true, true, true, true, true, true, true] ⟨#[.pointer (some ⟨g, off, none⟩), .string s, t2, t3, t4, .int .i64 (a : Int), .string s, .pointer (some ⟨g, off, none⟩), .pointer (some ⟨g, off, none⟩), .pointer (some ⟨g, off + 6, none⟩), .int .i64 t, .pointer (some ⟨g, off, none⟩), .pointer (some ⟨g, off, none⟩), .pointer (some ⟨g, off, none⟩), .pointer (some ⟨g, off, none⟩), .int .i64 (f : Int), .int .i64 (a : Int), t17, t18, t19, t20, t21, t22, t23, t24, t25, t26, t27, t28, t29, t30, t31, t32], d⟩ W0
    refine wpAny_done (by kernel_rfl) ?_ _
    exact h _ _ _ _ _ _ _ _ _ _ _
set_option maxHeartbeats 3200000 in
theorem b44_2 {Q : Exit → Act → World → Prop} {W : World} {g off f c m a r : Nat} {ef ec : Int} {b : Bool} {s : ByteArray} {t : Int} {t2 t3 t4 t6 t7 t8 t9 t10 t11 t12 t13 t14 t15 t16 t17 t18 t19 t20 t21 t22 t23 t24 t25 t26 t27 t28 t29 t30 t31 t32 : Value} {d : List Deferred}
    (hQ : ∀ (ch : _) (a : Act) (dd : Tmp) (v : Value) (w : World), Q (.panic ch) (a.put (some dd) v) w → Q (.panic ch) a w)
    (KC : KcAt W.drew g off (f : Int) (c : Int) ef ec m b t)
    (hm : m < 65536) (hc : 1 ≤ c ∧ c ≤ 2147483647)
    (FU : Calls Tryz.prog 107 #[.string s, .int .i64 (a : Int), .bool (bB m), .int .i64 ((c - 1 : Nat) : Int)] W.drew (RetS W.drew (.int .i64 (r : Int))))
    (h : ∀ (v17 v18 v19 v20 v21 v22 v23 v24 v25 v26 v27 v28 v29 v30 v31 v32 : Value), Q .normal ⟨#[.pointer (some ⟨g, off, none⟩), .string s, t2, t3, .int .i64 (r : Int), .int .i64 (a : Int), t6, t7, t8, t9, t10, t11, t12, t13, t14, t15, t16, v17, v18, v19, v20, v21, v22, v23, v24, v25, v26, v27, v28, v29, v30, v31, v32], d⟩ W.drew) :
    (fstC (sndC (sndC (Tryz.f83.body.getD .skip)))).wp Tryz.prog Q ⟨#[.pointer (some ⟨g, off, none⟩), .string s, t2, t3, t4, .int .i64 (a : Int), t6, t7, t8, t9, t10, t11, t12, t13, t14, t15, t16, t17, t18, t19, t20, t21, t22, t23, t24, t25, t26, t27, t28, t29, t30, t31, t32], d⟩ W := by
  show (Code.region 2 _ true).wp _ _ _ _
  refine wp_region_any (by kernel_rfl) ?_
  show wpAny _ _ _ _ _ _ _ W.drew
  generalize W.drew = W0 at *
  refine wpAny_take (i := 0) (v := .string s) rfl (by kernel_rfl) (by kernel_rfl) (by kernel_rfl) (fun _ _ _ q => hQ _ _ _ _ _ q) (Or.inl ⟨by kernel_rfl, fun w => mv (t := 1) (Or.inl rfl) rfl⟩) ?_
  show wpAny _ _ _ _ _ #[true, false, false, false, false, false, false, false, false, false, false, false, false, false, false, false, false] ⟨#[.pointer (some ⟨g, off, none⟩), .string s, t2, t3, t4, .int .i64 (a : Int), t6, t7, t8, t9, t10, t11, t12, t13, t14, t15, t16, .string s, t18, t19, t20, t21, t22, t23, t24, t25, t26, t27, t28, t29, t30, t31, t32], d⟩ W0
  refine wpAny_take (i := 1) (v := .int .i64 (a : Int)) rfl (by kernel_rfl) (by kernel_rfl) (by kernel_rfl) (fun _ _ _ q => hQ _ _ _ _ _ q) (Or.inl ⟨by kernel_rfl, fun w => mv (t := 5) (Or.inl rfl) rfl⟩) ?_
  show wpAny _ _ _ _ _ #[true, true, false, false, false, false, false, false, false, false, false, false, false, false, false, false, false] ⟨#[.pointer (some ⟨g, off, none⟩), .string s, t2, t3, t4, .int .i64 (a : Int), t6, t7, t8, t9, t10, t11, t12, t13, t14, t15, t16, .string s, .int .i64 (a : Int), t19, t20, t21, t22, t23, t24, t25, t26, t27, t28, t29, t30, t31, t32], d⟩ W0
  refine wpAny_take (i := 2) (v := .pointer (some ⟨g, off, none⟩)) rfl (by kernel_rfl) (by kernel_rfl) (by kernel_rfl) (fun _ _ _ q => hQ _ _ _ _ _ q) (Or.inl ⟨by kernel_rfl, fun w => mv (t := 0) (Or.inl rfl) rfl⟩) ?_
  show wpAny _ _ _ _ _ #[true, true, true, false, false, false, false, false, false, false, false, false, false, false, false, false, false] ⟨#[.pointer (some ⟨g, off, none⟩), .string s, t2, t3, t4, .int .i64 (a : Int), t6, t7, t8, t9, t10, t11, t12, t13, t14, t15, t16, .string s, .int .i64 (a : Int), .pointer (some ⟨g, off, none⟩), t20, t21, t22, t23, t24, t25, t26, t27, t28, t29, t30, t31, t32], d⟩ W0
  refine wpAny_take (i := 3) (v := .pointer (some ⟨g, off, none⟩)) rfl (by kernel_rfl) (by kernel_rfl) (by kernel_rfl) (fun _ _ _ q => hQ _ _ _ _ _ q) (Or.inl ⟨by kernel_rfl, fun w => nck (t := 19) rfl rfl⟩) ?_
  show wpAny _ _ _ _ _ #[true, true, true, true, false, false, false, false, false, false, false, false, false, false, false, false, false] ⟨#[.pointer (some ⟨g, off, none⟩), .string s, t2, t3, t4, .int .i64 (a : Int), t6, t7, t8, t9, t10, t11, t12, t13, t14, t15, t16, .string s, .int .i64 (a : Int), .pointer (some ⟨g, off, none⟩), .pointer (some ⟨g, off, none⟩), t21, t22, t23, t24, t25, t26, t27, t28, t29, t30, t31, t32], d⟩ W0
  refine wpAny_take (i := 4) (v := .pointer (some ⟨g, off, none⟩)) rfl (by kernel_rfl) (by kernel_rfl) (by kernel_rfl) (fun _ _ _ q => hQ _ _ _ _ _ q) (Or.inl ⟨by kernel_rfl, fun w => fa65_0 (t := 20) rfl rfl⟩) ?_
  show wpAny _ _ _ _ _ #[true, true, true, true, true, false, false, false, false, false, false, false, false, false, false, false, false] ⟨#[.pointer (some ⟨g, off, none⟩), .string s, t2, t3, t4, .int .i64 (a : Int), t6, t7, t8, t9, t10, t11, t12, t13, t14, t15, t16, .string s, .int .i64 (a : Int), .pointer (some ⟨g, off, none⟩), .pointer (some ⟨g, off, none⟩), .pointer (some ⟨g, off, none⟩), t22, t23, t24, t25, t26, t27, t28, t29, t30, t31, t32], d⟩ W0
  refine wpAny_take (i := 5) (v := .pointer (some ⟨g, off + 4, none⟩)) rfl (by kernel_rfl) (by kernel_rfl) (by kernel_rfl) (fun _ _ _ q => hQ _ _ _ _ _ q) (Or.inl ⟨by kernel_rfl, fun w => fa35_4 (t := 21) rfl rfl⟩) ?_
  show wpAny _ _ _ _ _ #[true, true, true, true, true, true, false, false, false, false, false, false, false, false, false, false, false] ⟨#[.pointer (some ⟨g, off, none⟩), .string s, t2, t3, t4, .int .i64 (a : Int), t6, t7, t8, t9, t10, t11, t12, t13, t14, t15, t16, .string s, .int .i64 (a : Int), .pointer (some ⟨g, off, none⟩), .pointer (some ⟨g, off, none⟩), .pointer (some ⟨g, off, none⟩), .pointer (some ⟨g, off + 4, none⟩), t23, t24, t25, t26, t27, t28, t29, t30, t31, t32], d⟩ W0
  refine wpAny_take (i := 9) (v := .pointer (some ⟨g, off, none⟩)) rfl (by kernel_rfl) (by kernel_rfl) (by kernel_rfl) (fun _ _ _ q => hQ _ _ _ _ _ q) (Or.inl ⟨by kernel_rfl, fun w => mv (t := 0) (Or.inl rfl) rfl⟩) ?_
  show wpAny _ _ _ _ _ #[true, true, true, true, true, true, false, false, false, true, false, false, false, false, false, false, false] ⟨#[.pointer (some ⟨g, off, none⟩), .string s, t2, t3, t4, .int .i64 (a : Int), t6, t7, t8, t9, t10, t11, t12, t13, t14, t15, t16, .string s, .int .i64 (a : Int), .pointer (some ⟨g, off, none⟩), .pointer (some ⟨g, off, none⟩), .pointer (some ⟨g, off, none⟩), .pointer (some ⟨g, off + 4, none⟩), t23, t24, t25, .pointer (some ⟨g, off, none⟩), t27, t28, t29, t30, t31, t32], d⟩ W0
  refine wpAny_take (i := 10) (v := .pointer (some ⟨g, off, none⟩)) rfl (by kernel_rfl) (by kernel_rfl) (by kernel_rfl) (fun _ _ _ q => hQ _ _ _ _ _ q) (Or.inl ⟨by kernel_rfl, fun w => nck (t := 26) rfl rfl⟩) ?_
  show wpAny _ _ _ _ _ #[true, true, true, true, true, true, false, false, false, true, true, false, false, false, false, false, false] ⟨#[.pointer (some ⟨g, off, none⟩), .string s, t2, t3, t4, .int .i64 (a : Int), t6, t7, t8, t9, t10, t11, t12, t13, t14, t15, t16, .string s, .int .i64 (a : Int), .pointer (some ⟨g, off, none⟩), .pointer (some ⟨g, off, none⟩), .pointer (some ⟨g, off, none⟩), .pointer (some ⟨g, off + 4, none⟩), t23, t24, t25, .pointer (some ⟨g, off, none⟩), .pointer (some ⟨g, off, none⟩), t28, t29, t30, t31, t32], d⟩ W0
  refine wpAny_take (i := 11) (v := .pointer (some ⟨g, off, none⟩)) rfl (by kernel_rfl) (by kernel_rfl) (by kernel_rfl) (fun _ _ _ q => hQ _ _ _ _ _ q) (Or.inl ⟨by kernel_rfl, fun w => fa65_0 (t := 27) rfl rfl⟩) ?_
  show wpAny _ _ _ _ _ #[true, true, true, true, true, true, false, false, false, true, true, true, false, false, false, false, false] ⟨#[.pointer (some ⟨g, off, none⟩), .string s, t2, t3, t4, .int .i64 (a : Int), t6, t7, t8, t9, t10, t11, t12, t13, t14, t15, t16, .string s, .int .i64 (a : Int), .pointer (some ⟨g, off, none⟩), .pointer (some ⟨g, off, none⟩), .pointer (some ⟨g, off, none⟩), .pointer (some ⟨g, off + 4, none⟩), t23, t24, t25, .pointer (some ⟨g, off, none⟩), .pointer (some ⟨g, off, none⟩), .pointer (some ⟨g, off, none⟩), t29, t30, t31, t32], d⟩ W0
  refine wpAny_take (i := 12) (v := .pointer (some ⟨g, off + 1, none⟩)) rfl (by kernel_rfl) (by kernel_rfl) (by kernel_rfl) (fun _ _ _ q => hQ _ _ _ _ _ q) (Or.inl ⟨by kernel_rfl, fun w => fa35_1 (t := 28) rfl rfl⟩) ?_
  show wpAny _ _ _ _ _ #[true, true, true, true, true, true, false, false, false, true, true, true, true, false, false, false, false] ⟨#[.pointer (some ⟨g, off, none⟩), .string s, t2, t3, t4, .int .i64 (a : Int), t6, t7, t8, t9, t10, t11, t12, t13, t14, t15, t16, .string s, .int .i64 (a : Int), .pointer (some ⟨g, off, none⟩), .pointer (some ⟨g, off, none⟩), .pointer (some ⟨g, off, none⟩), .pointer (some ⟨g, off + 4, none⟩), t23, t24, t25, .pointer (some ⟨g, off, none⟩), .pointer (some ⟨g, off, none⟩), .pointer (some ⟨g, off, none⟩), .pointer (some ⟨g, off + 1, none⟩), t30, t31, t32], d⟩ W0
  refine wpAny_ready (rs := [6, 13]) (by kernel_rfl) (by simp) (AllReady.cons rfl (fun K hK => ?_) (AllReady.cons rfl (fun K hK => ?_) AllReady.nil))
  · skip
    rw [if_pos (by kernel_rfl)]
    unfold Oper.wp
    rw [ld24 (W := W0) (t := 22) rfl rfl KC.c4, Oper.upon_value]
    refine hK _ _ ?_
    clear hK K
    show wpAny _ _ _ _ _ #[true, true, true, true, true, true, true, false, false, true, true, true, true, false, false, false, false] ⟨#[.pointer (some ⟨g, off, none⟩), .string s, t2, t3, t4, .int .i64 (a : Int), t6, t7, t8, t9, t10, t11, t12, t13, t14, t15, t16, .string s, .int .i64 (a : Int), .pointer (some ⟨g, off, none⟩), .pointer (some ⟨g, off, none⟩), .pointer (some ⟨g, off, none⟩), .pointer (some ⟨g, off + 4, none⟩), .int .u16 (m : Int), t24, t25, .pointer (some ⟨g, off, none⟩), .pointer (some ⟨g, off, none⟩), .pointer (some ⟨g, off, none⟩), .pointer (some ⟨g, off + 1, none⟩), t30, t31, t32], d⟩ W0
    refine wpAny_take (i := 7) (v := .int .u16 ((m &&& 1 : Nat) : Int)) rfl (by kernel_rfl) (by kernel_rfl) (by kernel_rfl) (fun _ _ _ q => hQ _ _ _ _ _ q) (Or.inl ⟨by kernel_rfl, fun w => and1 (t := 23) rfl rfl hm⟩) ?_
    show wpAny _ _ _ _ _ #[true, true, true, true, true, true, true, true, false, true, true, true, true, false, false, false, false] ⟨#[.pointer (some ⟨g, off, none⟩), .string s, t2, t3, t4, .int .i64 (a : Int), t6, t7, t8, t9, t10, t11, t12, t13, t14, t15, t16, .string s, .int .i64 (a : Int), .pointer (some ⟨g, off, none⟩), .pointer (some ⟨g, off, none⟩), .pointer (some ⟨g, off, none⟩), .pointer (some ⟨g, off + 4, none⟩), .int .u16 (m : Int), .int .u16 ((m &&& 1 : Nat) : Int), t25, .pointer (some ⟨g, off, none⟩), .pointer (some ⟨g, off, none⟩), .pointer (some ⟨g, off, none⟩), .pointer (some ⟨g, off + 1, none⟩), t30, t31, t32], d⟩ W0
    refine wpAny_take (i := 8) (v := .bool (bB m)) rfl (by kernel_rfl) (by kernel_rfl) (by kernel_rfl) (fun _ _ _ q => hQ _ _ _ _ _ q) (Or.inl ⟨by kernel_rfl, fun w => ne24 (t := 24) rfl rfl⟩) ?_
    show wpAny _ _ _ _ _ #[true, true, true, true, true, true, true, true, true, true, true, true, true, false, false, false, false] ⟨#[.pointer (some ⟨g, off, none⟩), .string s, t2, t3, t4, .int .i64 (a : Int), t6, t7, t8, t9, t10, t11, t12, t13, t14, t15, t16, .string s, .int .i64 (a : Int), .pointer (some ⟨g, off, none⟩), .pointer (some ⟨g, off, none⟩), .pointer (some ⟨g, off, none⟩), .pointer (some ⟨g, off + 4, none⟩), .int .u16 (m : Int), .int .u16 ((m &&& 1 : Nat) : Int), .bool (bB m), .pointer (some ⟨g, off, none⟩), .pointer (some ⟨g, off, none⟩), .pointer (some ⟨g, off, none⟩), .pointer (some ⟨g, off + 1, none⟩), t30, t31, t32], d⟩ W0
    refine wpAny_ready (rs := [13]) (by kernel_rfl) (by simp) (AllReady.cons rfl (fun K hK => ?_) AllReady.nil)
    rw [if_pos (by kernel_rfl)]
    unfold Oper.wp
    rw [ld3 (W := W0) (t := 29) rfl rfl KC.c1, Oper.upon_value]
    refine hK _ _ ?_
    clear hK K
    show wpAny _ _ _ _ _ #[true, true, true, true, true, true, true, true, true, true, true, true, true, true, false, false, false] ⟨#[.pointer (some ⟨g, off, none⟩), .string s, t2, t3, t4, .int .i64 (a : Int), t6, t7, t8, t9, t10, t11, t12, t13, t14, t15, t16, .string s, .int .i64 (a : Int), .pointer (some ⟨g, off, none⟩), .pointer (some ⟨g, off, none⟩), .pointer (some ⟨g, off, none⟩), .pointer (some ⟨g, off + 4, none⟩), .int .u16 (m : Int), .int .u16 ((m &&& 1 : Nat) : Int), .bool (bB m), .pointer (some ⟨g, off, none⟩), .pointer (some ⟨g, off, none⟩), .pointer (some ⟨g, off, none⟩), .pointer (some ⟨g, off + 1, none⟩), .int .i64 (c : Int), t31, t32], d⟩ W0
    refine wpAny_take (i := 14) (v := .int .i64 ((c - 1 : Nat) : Int)) rfl (by kernel_rfl) (by kernel_rfl) (by kernel_rfl) (fun _ _ _ q => hQ _ _ _ _ _ q) (Or.inl ⟨by kernel_rfl, fun w => sub1 (t := 30) rfl rfl hc⟩) ?_
    show wpAny _ _ _ _ _ #[true, true, true, true, true, true, true, true, true, true, true, true, true, true, true, false, false] ⟨#[.pointer (some ⟨g, off, none⟩), .string s, t2, t3, t4, .int .i64 (a : Int), t6, t7, t8, t9, t10, t11, t12, t13, t14, t15, t16, .string s, .int .i64 (a : Int), .pointer (some ⟨g, off, none⟩), .pointer (some ⟨g, off, none⟩), .pointer (some ⟨g, off, none⟩), .pointer (some ⟨g, off + 4, none⟩), .int .u16 (m : Int), .int .u16 ((m &&& 1 : Nat) : Int), .bool (bB m), .pointer (some ⟨g, off, none⟩), .pointer (some ⟨g, off, none⟩), .pointer (some ⟨g, off, none⟩), .pointer (some ⟨g, off + 1, none⟩), .int .i64 (c : Int), .int .i64 ((c - 1 : Nat) : Int), t32], d⟩ W0
    refine wpAny_ready (rs := [15]) (by kernel_rfl) (by simp) (AllReady.cons rfl (fun K hK => ?_) AllReady.nil)
    rw [if_pos (by kernel_rfl)]
    unfold Oper.wp
    rw [cl59 (t := 17) (u := 18) (x := 25) (y := 31) rfl rfl rfl rfl rfl, Oper.upon_enter]
    refine (FU).mono ?_
    rintro e w9 ⟨rfl, rfl⟩
    refine hK _ _ ?_
    clear hK K
    show wpAny _ _ _ _ _ #[true, true, true, true, true, true, true, true, true, true, true, true, true, true, true, true, false] ⟨#[.pointer (some ⟨g, off, none⟩), .string s, t2, t3, t4, .int .i64 (a : Int), t6, t7, t8, t9, t10, t11, t12, t13, t14, t15, t16, .string s, .int .i64 (a : Int), .pointer (some ⟨g, off, none⟩), .pointer (some ⟨g, off, none⟩), .pointer (some ⟨g, off, none⟩), .pointer (some ⟨g, off + 4, none⟩), .int .u16 (m : Int), .int .u16 ((m &&& 1 : Nat) : Int), .bool (bB m), .pointer (some ⟨g, off, none⟩), .pointer (some ⟨g, off, none⟩), .pointer (some ⟨g, off, none⟩), .pointer (some ⟨g, off + 1, none⟩), .int .i64 (c : Int), .int .i64 ((c - 1 : Nat) : Int), .int .i64 (r : Int)], d⟩ W0
    refine wpAny_take (i := 16) (v := .int .i64 (r : Int)) rfl (by kernel_rfl) (by kernel_rfl) (by kernel_rfl) (fun _ _ _ q => hQ _ _ _ _ _ q) (Or.inl ⟨by kernel_rfl, fun w => mv (t := 32) (Or.inr rfl) rfl⟩) ?_
    show wpAny _ _ _ _ _ #[true, true, true, true, true, true, true, true, true, true, true, true, true, true, true, true, true] ⟨#[.pointer (some ⟨g, off, none⟩), .string s, t2, t3, .int .i64 (r : Int), .int .i64 (a : Int), t6, t7, t8, t9, t10, t11, t12, t13, t14, t15, t16, .string s, .int .i64 (a : Int), .pointer (some ⟨g, off, none⟩), .pointer (some ⟨g, off, none⟩), .pointer (some ⟨g, off, none⟩), .pointer (some ⟨g, off + 4, none⟩), .int .u16 (m : Int), .int .u16 ((m &&& 1 : Nat) : Int), .bool (bB m), .pointer (some ⟨g, off, none⟩), .pointer (some ⟨g, off, none⟩), .pointer (some ⟨g, off, none⟩), .pointer (some ⟨g, off + 1, none⟩), .int .i64 (c : Int), .int .i64 ((c - 1 : Nat) : Int), .int .i64 (r : Int)], d⟩ W0
    refine wpAny_done (by kernel_rfl) ?_ _
    exact h _ _ _ _ _ _ _ _ _ _ _ _ _ _ _ _
  · skip
    rw [if_pos (by kernel_rfl)]
    unfold Oper.wp
    rw [ld3 (W := W0) (t := 29) rfl rfl KC.c1, Oper.upon_value]
    refine hK _ _ ?_
    clear hK K
    show wpAny _ _ _ _ _ #[true, true, true, true, true, true, false, false, false, true, true, true, true, true, false, false, false] ⟨#[.pointer (some ⟨g, off, none⟩), .string s, t2, t3, t4, .int .i64 (a : Int), t6, t7, t8, t9, t10, t11, t12, t13, t14, t15, t16, .string s, .int .i64 (a : Int), .pointer (some ⟨g, off, none⟩), .pointer (some ⟨g, off, none⟩), .pointer (some ⟨g, off, none⟩), .pointer (some ⟨g, off + 4, none⟩), t23, t24, t25, .pointer (some ⟨g, off, none⟩), .pointer (some ⟨g, off, none⟩), .pointer (some ⟨g, off, none⟩), .pointer (some ⟨g, off + 1, none⟩), .int .i64 (c : Int), t31, t32], d⟩ W0
    refine wpAny_take (i := 14) (v := .int .i64 ((c - 1 : Nat) : Int)) rfl (by kernel_rfl) (by kernel_rfl) (by kernel_rfl) (fun _ _ _ q => hQ _ _ _ _ _ q) (Or.inl ⟨by kernel_rfl, fun w => sub1 (t := 30) rfl rfl hc⟩) ?_
    show wpAny _ _ _ _ _ #[true, true, true, true, true, true, false, false, false, true, true, true, true, true, true, false, false] ⟨#[.pointer (some ⟨g, off, none⟩), .string s, t2, t3, t4, .int .i64 (a : Int), t6, t7, t8, t9, t10, t11, t12, t13, t14, t15, t16, .string s, .int .i64 (a : Int), .pointer (some ⟨g, off, none⟩), .pointer (some ⟨g, off, none⟩), .pointer (some ⟨g, off, none⟩), .pointer (some ⟨g, off + 4, none⟩), t23, t24, t25, .pointer (some ⟨g, off, none⟩), .pointer (some ⟨g, off, none⟩), .pointer (some ⟨g, off, none⟩), .pointer (some ⟨g, off + 1, none⟩), .int .i64 (c : Int), .int .i64 ((c - 1 : Nat) : Int), t32], d⟩ W0
    refine wpAny_ready (rs := [6]) (by kernel_rfl) (by simp) (AllReady.cons rfl (fun K hK => ?_) AllReady.nil)
    rw [if_pos (by kernel_rfl)]
    unfold Oper.wp
    rw [ld24 (W := W0) (t := 22) rfl rfl KC.c4, Oper.upon_value]
    refine hK _ _ ?_
    clear hK K
    show wpAny _ _ _ _ _ #[true, true, true, true, true, true, true, false, false, true, true, true, true, true, true, false, false] ⟨#[.pointer (some ⟨g, off, none⟩), .string s, t2, t3, t4, .int .i64 (a : Int), t6, t7, t8, t9, t10, t11, t12, t13, t14, t15, t16, .string s, .int .i64 (a : Int), .pointer (some ⟨g, off, none⟩), .pointer (some ⟨g, off, none⟩), .pointer (some ⟨g, off, none⟩), .pointer (some ⟨g, off + 4, none⟩), .int .u16 (m : Int), t24, t25, .pointer (some ⟨g, off, none⟩), .pointer (some ⟨g, off, none⟩), .pointer (some ⟨g, off, none⟩), .pointer (some ⟨g, off + 1, none⟩), .int .i64 (c : Int), .int .i64 ((c - 1 : Nat) : Int), t32], d⟩ W0
    refine wpAny_take (i := 7) (v := .int .u16 ((m &&& 1 : Nat) : Int)) rfl (by kernel_rfl) (by kernel_rfl) (by kernel_rfl) (fun _ _ _ q => hQ _ _ _ _ _ q) (Or.inl ⟨by kernel_rfl, fun w => and1 (t := 23) rfl rfl hm⟩) ?_
    show wpAny _ _ _ _ _ #[true, true, true, true, true, true, true, true, false, true, true, true, true, true, true, false, false] ⟨#[.pointer (some ⟨g, off, none⟩), .string s, t2, t3, t4, .int .i64 (a : Int), t6, t7, t8, t9, t10, t11, t12, t13, t14, t15, t16, .string s, .int .i64 (a : Int), .pointer (some ⟨g, off, none⟩), .pointer (some ⟨g, off, none⟩), .pointer (some ⟨g, off, none⟩), .pointer (some ⟨g, off + 4, none⟩), .int .u16 (m : Int), .int .u16 ((m &&& 1 : Nat) : Int), t25, .pointer (some ⟨g, off, none⟩), .pointer (some ⟨g, off, none⟩), .pointer (some ⟨g, off, none⟩), .pointer (some ⟨g, off + 1, none⟩), .int .i64 (c : Int), .int .i64 ((c - 1 : Nat) : Int), t32], d⟩ W0
    refine wpAny_take (i := 8) (v := .bool (bB m)) rfl (by kernel_rfl) (by kernel_rfl) (by kernel_rfl) (fun _ _ _ q => hQ _ _ _ _ _ q) (Or.inl ⟨by kernel_rfl, fun w => ne24 (t := 24) rfl rfl⟩) ?_
    show wpAny _ _ _ _ _ #[true, true, true, true, true, true, true, true, true, true, true, true, true, true, true, false, false] ⟨#[.pointer (some ⟨g, off, none⟩), .string s, t2, t3, t4, .int .i64 (a : Int), t6, t7, t8, t9, t10, t11, t12, t13, t14, t15, t16, .string s, .int .i64 (a : Int), .pointer (some ⟨g, off, none⟩), .pointer (some ⟨g, off, none⟩), .pointer (some ⟨g, off, none⟩), .pointer (some ⟨g, off + 4, none⟩), .int .u16 (m : Int), .int .u16 ((m &&& 1 : Nat) : Int), .bool (bB m), .pointer (some ⟨g, off, none⟩), .pointer (some ⟨g, off, none⟩), .pointer (some ⟨g, off, none⟩), .pointer (some ⟨g, off + 1, none⟩), .int .i64 (c : Int), .int .i64 ((c - 1 : Nat) : Int), t32], d⟩ W0
    refine wpAny_ready (rs := [15]) (by kernel_rfl) (by simp) (AllReady.cons rfl (fun K hK => ?_) AllReady.nil)
    rw [if_pos (by kernel_rfl)]
    unfold Oper.wp
    rw [cl59 (t := 17) (u := 18) (x := 25) (y := 31) rfl rfl rfl rfl rfl, Oper.upon_enter]
    refine (FU).mono ?_
    rintro e w9 ⟨rfl, rfl⟩
    refine hK _ _ ?_
    clear hK K
    show wpAny _ _ _ _ _ #[true, true, true, true, true, true, true, true, true, true, true, true, true, true, true, true, false] ⟨#[.pointer (some ⟨g, off, none⟩), .string s, t2, t3, t4, .int .i64 (a : Int), t6, t7, t8, t9, t10, t11, t12, t13, t14, t15, t16, .string s, .int .i64 (a : Int), .pointer (some ⟨g, off, none⟩), .pointer (some ⟨g, off, none⟩), .pointer (some ⟨g, off, none⟩), .pointer (some ⟨g, off + 4, none⟩), .int .u16 (m : Int), .int .u16 ((m &&& 1 : Nat) : Int), .bool (bB m), .pointer (some ⟨g, off, none⟩), .pointer (some ⟨g, off, none⟩), .pointer (some ⟨g, off, none⟩), .pointer (some ⟨g, off + 1, none⟩), .int .i64 (c : Int), .int .i64 ((c - 1 : Nat) : Int), .int .i64 (r : Int)], d⟩ W0
    refine wpAny_take (i := 16) (v := .int .i64 (r : Int)) rfl (by kernel_rfl) (by kernel_rfl) (by kernel_rfl) (fun _ _ _ q => hQ _ _ _ _ _ q) (Or.inl ⟨by kernel_rfl, fun w => mv (t := 32) (Or.inr rfl) rfl⟩) ?_
    show wpAny _ _ _ _ _ #[true, true, true, true, true, true, true, true, true, true, true, true, true, true, true, true, true] ⟨#[.pointer (some ⟨g, off, none⟩), .string s, t2, t3, .int .i64 (r : Int), .int .i64 (a : Int), t6, t7, t8, t9, t10, t11, t12, t13, t14, t15, t16, .string s, .int .i64 (a : Int), .pointer (some ⟨g, off, none⟩), .pointer (some ⟨g, off, none⟩), .pointer (some ⟨g, off, none⟩), .pointer (some ⟨g, off + 4, none⟩), .int .u16 (m : Int), .int .u16 ((m &&& 1 : Nat) : Int), .bool (bB m), .pointer (some ⟨g, off, none⟩), .pointer (some ⟨g, off, none⟩), .pointer (some ⟨g, off, none⟩), .pointer (some ⟨g, off + 1, none⟩), .int .i64 (c : Int), .int .i64 ((c - 1 : Nat) : Int), .int .i64 (r : Int)], d⟩ W0
    refine wpAny_done (by kernel_rfl) ?_ _
    exact h _ _ _ _ _ _ _ _ _ _ _ _ _ _ _ _
set_option maxHeartbeats 3200000 in
theorem e45_3 {Q : Exit → Act → World → Prop} {W : World} {g off ef a : Nat} {f c ec : Int} {m : Nat} {b : Bool} {s : ByteArray} {t : Int} {t2 t3 t4 t5 t6 t7 t8 t9 t10 t11 t12 t13 t14 t15 t16 t17 t18 t19 t20 t21 t22 t23 t24 t25 t26 t27 t28 t29 t30 t31 t32 t33 t34 t35 t36 t37 t38 t39 t40 t41 t42 t43 t44 t45 t46 t47 t48 t49 t50 : Value} {d : List Deferred}
    (hQ : ∀ (ch : _) (a : Act) (dd : Tmp) (v : Value) (w : World), Q (.panic ch) (a.put (some dd) v) w → Q (.panic ch) a w)
    (KC : KcAt W.drew g off f c (ef : Int) ec m b t)
    (FB : Calls Tryz.prog 106 #[.string s, .int .i64 t, .int .i64 (ef : Int)] W.drew (RetS W.drew (.int .i64 (a : Int))))
    (h : ∀ (v14 v15 v16 v17 v18 v19 v20 v21 v22 v23 v24 : Value), Q .normal ⟨#[.pointer (some ⟨g, off, none⟩), .string s, t2, t3, t4, .int .i64 (a : Int), t6, t7, t8, t9, t10, t11, t12, t13, v14, v15, v16, v17, v18, v19, v20, v21, v22, v23, v24, t25, t26, t27, t28, t29, t30, t31, t32, t33, t34, t35, t36, t37, t38, t39, t40, t41, t42, t43, t44, t45, t46, t47, t48, t49, t50], d⟩ W.drew) :
    (fstC (sndC (sndC (Tryz.f84.body.getD .skip)))).wp Tryz.prog Q ⟨#[.pointer (some ⟨g, off, none⟩), .string s, t2, t3, t4, t5, t6, t7, t8, t9, t10, t11, t12, t13, t14, t15, t16, t17, t18, t19, t20, t21, t22, t23, t24, t25, t26, t27, t28, t29, t30, t31, t32, t33, t34, t35, t36, t37, t38, t39, t40, t41, t42, t43, t44, t45, t46, t47, t48, t49, t50], d⟩ W := by
  show (Code.region 3 _ true).wp _ _ _ _
  refine wp_region_any (by kernel_rfl) ?_
  show wpAny _ _ _ _ _ _ _ W.drew
  generalize W.drew = W0 at *
  refine wpAny_take (i := 0) (v := .string s) rfl (by kernel_rfl) (by kernel_rfl) (by kernel_rfl) (fun _ _ _ q => hQ _ _ _ _ _ q) (Or.inl ⟨by kernel_rfl, fun w => mv (t := 1) (Or.inl rfl) rfl⟩) ?_
  show wpAny _ _ _ _ _ #[true, false, false, false, false, false, false, false, false, false, false, false] ⟨#[.pointer (some ⟨g, off, none⟩), .string s, t2, t3, t4, t5, t6, t7, t8, t9, t10, t11, t12, t13, .string s, t15, t16, t17, t18, t19, t20, t21, t22, t23, t24, t25, t26, t27, t28, t29, t30, t31, t32, t33, t34, t35, t36, t37, t38, t39, t40, t41, t42, t43, t44, t45, t46, t47, t48, t49, t50], d⟩ W0
  refine wpAny_take (i := 1) (v := .pointer (some ⟨g, off, none⟩)) rfl (by kernel_rfl) (by kernel_rfl) (by kernel_rfl) (fun _ _ _ q => hQ _ _ _ _ _ q) (Or.inl ⟨by kernel_rfl, fun w => mv (t := 0) (Or.inl rfl) rfl⟩) ?_
  show wpAny _ _ _ _ _ #[true, true, false, false, false, false, false, false, false, false, false, false] ⟨#[.pointer (some ⟨g, off, none⟩), .string s, t2, t3, t4, t5, t6, t7, t8, t9, t10, t11, t12, t13, .string s, .pointer (some ⟨g, off, none⟩), t16, t17, t18, t19, t20, t21, t22, t23, t24, t25, t26, t27, t28, t29, t30, t31, t32, t33, t34, t35, t36, t37, t38, t39, t40, t41, t42, t43, t44, t45, t46, t47, t48, t49, t50], d⟩ W0
  refine wpAny_take (i := 2) (v := .pointer (some ⟨g, off, none⟩)) rfl (by kernel_rfl) (by kernel_rfl) (by kernel_rfl) (fun _ _ _ q => hQ _ _ _ _ _ q) (Or.inl ⟨by kernel_rfl, fun w => nck (t := 15) rfl rfl⟩) ?_
  show wpAny _ _ _ _ _ #[true, true, true, false, false, false, false, false, false, false, false, false] ⟨#[.pointer (some ⟨g, off, none⟩), .string s, t2, t3, t4, t5, t6, t7, t8, t9, t10, t11, t12, t13, .string s, .pointer (some ⟨g, off, none⟩), .pointer (some ⟨g, off, none⟩), t17, t18, t19, t20, t21, t22, t23, t24, t25, t26, t27, t28, t29, t30, t31, t32, t33, t34, t35, t36, t37, t38, t39, t40, t41, t42, t43, t44, t45, t46, t47, t48, t49, t50], d⟩ W0
  refine wpAny_take (i := 3) (v := .pointer (some ⟨g, off + 6, none⟩)) rfl (by kernel_rfl) (by kernel_rfl) (by kernel_rfl) (fun _ _ _ q => hQ _ _ _ _ _ q) (Or.inl ⟨by kernel_rfl, fun w => fa65_1 (t := 16) rfl rfl⟩) ?_
  show wpAny _ _ _ _ _ #[true, true, true, true, false, false, false, false, false, false, false, false] ⟨#[.pointer (some ⟨g, off, none⟩), .string s, t2, t3, t4, t5, t6, t7, t8, t9, t10, t11, t12, t13, .string s, .pointer (some ⟨g, off, none⟩), .pointer (some ⟨g, off, none⟩), .pointer (some ⟨g, off + 6, none⟩), t18, t19, t20, t21, t22, t23, t24, t25, t26, t27, t28, t29, t30, t31, t32, t33, t34, t35, t36, t37, t38, t39, t40, t41, t42, t43, t44, t45, t46, t47, t48, t49, t50], d⟩ W0
  refine wpAny_take (i := 5) (v := .pointer (some ⟨g, off, none⟩)) rfl (by kernel_rfl) (by kernel_rfl) (by kernel_rfl) (fun _ _ _ q => hQ _ _ _ _ _ q) (Or.inl ⟨by kernel_rfl, fun w => mv (t := 0) (Or.inl rfl) rfl⟩) ?_
  show wpAny _ _ _ _ _ #[true, true, true, true, false, true, false, false, false, false, false, false] ⟨#[.pointer (some ⟨g, off, none⟩), .string s, t2, t3, t4, t5, t6, t7, t8, t9, t10, t11, t12, t13, .string s, .pointer (some ⟨g, off, none⟩), .pointer (some ⟨g, off, none⟩), .pointer (some ⟨g, off + 6, none⟩), t18, .pointer (some ⟨g, off, none⟩), t20, t21, t22, t23, t24, t25, t26, t27, t28, t29, t30, t31, t32, t33, t34, t35, t36, t37, t38, t39, t40, t41, t42, t43, t44, t45, t46, t47, t48, t49, t50], d⟩ W0
  refine wpAny_take (i := 6) (v := .pointer (some ⟨g, off, none⟩)) rfl (by kernel_rfl) (by kernel_rfl) (by kernel_rfl) (fun _ _ _ q => hQ _ _ _ _ _ q) (Or.inl ⟨by kernel_rfl, fun w => nck (t := 19) rfl rfl⟩) ?_
  show wpAny _ _ _ _ _ #[true, true, true, true, false, true, true, false, false, false, false, false] ⟨#[.pointer (some ⟨g, off, none⟩), .string s, t2, t3, t4, t5, t6, t7, t8, t9, t10, t11, t12, t13, .string s, .pointer (some ⟨g, off, none⟩), .pointer (some ⟨g, off, none⟩), .pointer (some ⟨g, off + 6, none⟩), t18, .pointer (some ⟨g, off, none⟩), .pointer (some ⟨g, off, none⟩), t21, t22, t23, t24, t25, t26, t27, t28, t29, t30, t31, t32, t33, t34, t35, t36, t37, t38, t39, t40, t41, t42, t43, t44, t45, t46, t47, t48, t49, t50], d⟩ W0
  refine wpAny_take (i := 7) (v := .pointer (some ⟨g, off, none⟩)) rfl (by kernel_rfl) (by kernel_rfl) (by kernel_rfl) (fun _ _ _ q => hQ _ _ _ _ _ q) (Or.inl ⟨by kernel_rfl, fun w => fa65_0 (t := 20) rfl rfl⟩) ?_
  show wpAny _ _ _ _ _ #[true, true, true, true, false, true, true, true, false, false, false, false] ⟨#[.pointer (some ⟨g, off, none⟩), .string s, t2, t3, t4, t5, t6, t7, t8, t9, t10, t11, t12, t13, .string s, .pointer (some ⟨g, off, none⟩), .pointer (some ⟨g, off, none⟩), .pointer (some ⟨g, off + 6, none⟩), t18, .pointer (some ⟨g, off, none⟩), .pointer (some ⟨g, off, none⟩), .pointer (some ⟨g, off, none⟩), t22, t23, t24, t25, t26, t27, t28, t29, t30, t31, t32, t33, t34, t35, t36, t37, t38, t39, t40, t41, t42, t43, t44, t45, t46, t47, t48, t49, t50], d⟩ W0
  refine wpAny_take (i := 8) (v := .pointer (some ⟨g, off + 2, none⟩)) rfl (by kernel_rfl) (by kernel_rfl) (by kernel_rfl) (fun _ _ _ q => hQ _ _ _ _ _ q) (Or.inl ⟨by kernel_rfl, fun w => fa35_2 (t := 21) rfl rfl⟩) ?_
  show wpAny _ _ _ _ _ #[true, true, true, true, false, true, true, true, true, false, false, false] ⟨#[.pointer (some ⟨g, off, none⟩), .string s, t2, t3, t4, t5, t6, t7, t8, t9, t10, t11, t12, t13, .string s, .pointer (some ⟨g, off, none⟩), .pointer (some ⟨g, off, none⟩), .pointer (some ⟨g, off + 6, none⟩), t18, .pointer (some ⟨g, off, none⟩), .pointer (some ⟨g, off, none⟩), .pointer (some ⟨g, off, none⟩), .pointer (some ⟨g, off + 2, none⟩), t23, t24, t25, t26, t27, t28, t29, t30, t31, t32, t33, t34, t35, t36, t37, t38, t39, t40, t41, t42, t43, t44, t45, t46, t47, t48, t49, t50], d⟩ W0
  refine wpAny_ready (rs := [4, 9]) (by kernel_rfl) (by simp) (AllReady.cons rfl (fun K hK => ?_) (AllReady.cons rfl (fun K hK => ?_) AllReady.nil))
  · skip
    rw [if_pos (by kernel_rfl)]
    unfold Oper.wp
    rw [ld3 (W := W0) (t := 17) rfl rfl KC.c6, Oper.upon_value]
    refine hK _ _ ?_
    clear hK K
    show wpAny _ _ _ _ _ #[true, true, true, true, true, true, true, true, true, false, false, false] ⟨#[.pointer (some ⟨g, off, none⟩), .string s, t2, t3, t4, t5, t6, t7, t8, t9, t10, t11, t12, t13, .string s, .pointer (some ⟨g, off, none⟩), .pointer (some ⟨g, off, none⟩), .pointer (some ⟨g, off + 6, none⟩), .int .i64 t, .pointer (some ⟨g, off, none⟩), .pointer (some ⟨g, off, none⟩), .pointer (some ⟨g, off, none⟩), .pointer (some ⟨g, off + 2, none⟩), t23, t24, t25, t26, t27, t28, t29, t30, t31, t32, t33, t34, t35, t36, t37, t38, t39, t40, t41, t42, t43, t44, t45, t46, t47, t48, t49, t50], d⟩ W0
    refine wpAny_ready (rs := [9]) (by kernel_rfl) (by simp) (AllReady.cons rfl (fun K hK => ?_) AllReady.nil)
    rw [if_pos (by kernel_rfl)]
    unfold Oper.wp
    rw [ld3 (W := W0) (t := 22) rfl rfl KC.c2, Oper.upon_value]
    refine hK _ _ ?_
    clear hK K
    show wpAny _ _ _ _ _ #[true, true, true, true, true, true, true, true, true, true, false, false] ⟨#[.pointer (some ⟨g, off, none⟩), .string s, t2, t3, t4, t5, t6, t7, t8, t9, t10, t11, t12, t13, .string s, .pointer (some ⟨g, off, none⟩), .pointer (some ⟨g, off, none⟩), .pointer (some ⟨g, off + 6, none⟩), .int .i64 t, .pointer (some ⟨g, off, none⟩), .pointer (some ⟨g, off, none⟩), .pointer (some ⟨g, off, none⟩), .pointer (some ⟨g, off + 2, none⟩), .int .i64 (ef : Int), t24, t25, t26, t27, t28, t29, t30, t31, t32, t33, t34, t35, t36, t37, t38, t39, t40, t41, t42, t43, t44, t45, t46, t47, t48, t49, t50], d⟩ W0
    refine wpAny_ready (rs := [10]) (by kernel_rfl) (by simp) (AllReady.cons rfl (fun K hK => ?_) AllReady.nil)
    rw [if_pos (by kernel_rfl)]
    unfold Oper.wp
    rw [cl58 (t := 14) (u := 18) (x := 23) rfl rfl rfl rfl, Oper.upon_enter]
    refine (FB).mono ?_
    rintro e w9 ⟨rfl, rfl⟩
    refine hK _ _ ?_
    clear hK K
    show wpAny _ _ _ _ _ #[true, true, true, true, true, true, true, true, true, true, true, false] ⟨#[.pointer (some ⟨g, off, none⟩), .string s, t2, t3, t4, t5, t6, t7, t8, t9, t10, t11, t12, t13, .string s, .pointer (some ⟨g, off, none⟩), .pointer (some ⟨g, off, none⟩), .pointer (some ⟨g, off + 6, none⟩), .int .i64 t, .pointer (some ⟨g, off, none⟩), .pointer (some ⟨g, off, none⟩), .pointer (some ⟨g, off, none⟩), .pointer (some ⟨g, off + 2, none⟩), .int .i64 (ef : Int), .int .i64 (a : Int), t25, t26, t27, t28, t29, t30, t31, t32, t33, t34, t35, t36, t37, t38, t39, t40, t41, t42, t43, t44, t45, t46, t47, t48, t49, t50], d⟩ W0
    refine wpAny_take (i := 11) (v := .int .i64 (a : Int)) rfl (by kernel_rfl) (by kernel_rfl) (by kernel_rfl) (fun _ _ _ q => hQ _ _ _ _ _ q) (Or.inl ⟨by kernel_rfl, fun w => mv (t := 24) (Or.inr rfl) rfl⟩) ?_
    show wpAny _ _ _ _ _ #[true, true, true, true, true, true, true, true, true, true, true, true] ⟨#[.pointer (some ⟨g, off, none⟩), .string s, t2, t3, t4, .int .i64 (a : Int), t6, t7, t8, t9, t10, t11, t12, t13, .string s, .pointer (some ⟨g, off, none⟩), .pointer (some ⟨g, off, none⟩), .pointer (some ⟨g, off + 6, none⟩), .int .i64 t, .pointer (some ⟨g, off, none⟩), .pointer (some ⟨g, off, none⟩), .pointer (some ⟨g, off, none⟩), .pointer (some ⟨g, off + 2, none⟩), .int .i64 (ef : Int), .int .i64 (a : Int), t25, t26, t27, t28, t29, t30, t31, t32, t33, t34, t35, t36, t37, t38, t39, t40, t41, t42, t43, t44, t45, t46, t47, t48, t49, t50], d⟩ W0
    refine wpAny_done (by kernel_rfl) ?_ _
    exact h _ _ _ _ _ _ _ _ _ _ _
  · skip
    rw [if_pos (by kernel_rfl)]
    unfold Oper.wp
    rw [ld3 (W := W0) (t := 22) rfl rfl KC.c2, Oper.upon_value]
    refine hK _ _ ?_
    clear hK K
    show wpAny _ _ _ _ _ #[true, true, true, true, false, true, true, true, true, true, false, false] ⟨#[.pointer (some ⟨g, off, none⟩), .string s, t2, t3, t4, t5, t6, t7, t8, t9, t10, t11, t12, t13, .string s, .pointer (some ⟨g, off, none⟩), .pointer (some ⟨g, off, none⟩), .pointer (some ⟨g, off + 6, none⟩), t18, .pointer (some ⟨g, off, none⟩), .pointer (some ⟨g, off, none⟩), .pointer (some ⟨g, off, none⟩), .pointer (some ⟨g, off + 2, none⟩), .int .i64 (ef : Int), t24, t25, t26, t27, t28, t29, t30, t31, t32, t33, t34, t35, t36, t37, t38, t39, t40, t41, t42, t43, t44, t45, t46, t47, t48, t49, t50], d⟩ W0
    refine wpAny_ready (rs := [4]) (by kernel_rfl) (by simp) (AllReady.cons rfl (fun K hK => ?_) AllReady.nil)
    rw [if_pos (by kernel_rfl)]
    unfold Oper.wp
    rw [ld3 (W := W0) (t := 17) rfl rfl KC.c6, Oper.upon_value]
    refine hK _ _ ?_
    clear hK K
    show wpAny _ _ _ _ _ #[true, true, true, true, true, true, true, true, true, true, false, false] ⟨#[.pointer (some ⟨g, off, none⟩), .string s, t2, t3, t4, t5, t6, t7, t8, t9, t10, t11, t12, t13, .string s, .pointer (some ⟨g, off, none⟩), .pointer (some ⟨g, off, none⟩), .pointer (some ⟨g, off + 6, none⟩), .int .i64 t, .pointer (some ⟨g, off, none⟩), .pointer (some ⟨g, off, none⟩), .pointer (some ⟨g, off, none⟩), .pointer (some ⟨g, off + 2, none⟩), .int .i64 (ef : Int), t24, t25, t26, t27, t28, t29, t30, t31, t32, t33, t34, t35, t36, t37, t38, t39, t40, t41, t42, t43, t44, t45, t46, t47, t48, t49, t50], d⟩ W0
    refine wpAny_ready (rs := [10]) (by kernel_rfl) (by simp) (AllReady.cons rfl (fun K hK => ?_) AllReady.nil)
    rw [if_pos (by kernel_rfl)]
    unfold Oper.wp
    rw [cl58 (t := 14) (u := 18) (x := 23) rfl rfl rfl rfl, Oper.upon_enter]
    refine (FB).mono ?_
    rintro e w9 ⟨rfl, rfl⟩
    refine hK _ _ ?_
    clear hK K
    show wpAny _ _ _ _ _ #[true, true, true, true, true, true, true, true, true, true, true, false] ⟨#[.pointer (some ⟨g, off, none⟩), .string s, t2, t3, t4, t5, t6, t7, t8, t9, t10, t11, t12, t13, .string s, .pointer (some ⟨g, off, none⟩), .pointer (some ⟨g, off, none⟩), .pointer (some ⟨g, off + 6, none⟩), .int .i64 t, .pointer (some ⟨g, off, none⟩), .pointer (some ⟨g, off, none⟩), .pointer (some ⟨g, off, none⟩), .pointer (some ⟨g, off + 2, none⟩), .int .i64 (ef : Int), .int .i64 (a : Int), t25, t26, t27, t28, t29, t30, t31, t32, t33, t34, t35, t36, t37, t38, t39, t40, t41, t42, t43, t44, t45, t46, t47, t48, t49, t50], d⟩ W0
    refine wpAny_take (i := 11) (v := .int .i64 (a : Int)) rfl (by kernel_rfl) (by kernel_rfl) (by kernel_rfl) (fun _ _ _ q => hQ _ _ _ _ _ q) (Or.inl ⟨by kernel_rfl, fun w => mv (t := 24) (Or.inr rfl) rfl⟩) ?_
    show wpAny _ _ _ _ _ #[true, true, true, true, true, true, true, true, true, true, true, true] ⟨#[.pointer (some ⟨g, off, none⟩), .string s, t2, t3, t4, .int .i64 (a : Int), t6, t7, t8, t9, t10, t11, t12, t13, .string s, .pointer (some ⟨g, off, none⟩), .pointer (some ⟨g, off, none⟩), .pointer (some ⟨g, off + 6, none⟩), .int .i64 t, .pointer (some ⟨g, off, none⟩), .pointer (some ⟨g, off, none⟩), .pointer (some ⟨g, off, none⟩), .pointer (some ⟨g, off + 2, none⟩), .int .i64 (ef : Int), .int .i64 (a : Int), t25, t26, t27, t28, t29, t30, t31, t32, t33, t34, t35, t36, t37, t38, t39, t40, t41, t42, t43, t44, t45, t46, t47, t48, t49, t50], d⟩ W0
    refine wpAny_done (by kernel_rfl) ?_ _
    exact h _ _ _ _ _ _ _ _ _ _ _
set_option maxHeartbeats 3200000 in
theorem e45_6 {Q : Exit → Act → World → Prop} {W : World} {g off ec a r : Nat} {f c ef : Int} {m : Nat} {b : Bool} {s : ByteArray} {t : Int} {t2 t3 t4 t6 t7 t8 t9 t10 t11 t12 t13 t14 t15 t16 t17 t18 t19 t20 t21 t22 t23 t24 t25 t26 t27 t28 t29 t30 t31 t32 t33 t34 t35 t36 t37 t38 t39 t40 t41 t42 t43 t44 t45 t46 t47 t48 t49 t50 : Value} {d : List Deferred}
    (hQ : ∀ (ch : _) (a : Act) (dd : Tmp) (v : Value) (w : World), Q (.panic ch) (a.put (some dd) v) w → Q (.panic ch) a w)
    (KC : KcAt W.drew g off f c ef (ec : Int) m b t)
    (FU : Calls Tryz.prog 107 #[.string s, .int .i64 (a : Int), .bool b, .int .i64 (ec : Int)] W.drew (RetS W.drew (.int .i64 (r : Int))))
    (h : ∀ (v38 v39 v40 v41 v42 v43 v44 v45 v46 v47 v48 v49 v50 : Value), Q .normal ⟨#[.pointer (some ⟨g, off, none⟩), .string s, t2, t3, .int .i64 (r : Int), .int .i64 (a : Int), t6, t7, t8, t9, t10, t11, t12, t13, t14, t15, t16, t17, t18, t19, t20, t21, t22, t23, t24, t25, t26, t27, t28, t29, t30, t31, t32, t33, t34, t35, t36, t37, v38, v39, v40, v41, v42, v43, v44, v45, v46, v47, v48, v49, v50], d⟩ W.drew) :
    (fstC (sndC (sndC (sndC (sndC (Tryz.f84.body.getD .skip)))))).wp Tryz.prog Q ⟨#[.pointer (some ⟨g, off, none⟩), .string s, t2, t3, t4, .int .i64 (a : Int), t6, t7, t8, t9, t10, t11, t12, t13, t14, t15, t16, t17, t18, t19, t20, t21, t22, t23, t24, t25, t26, t27, t28, t29, t30, t31, t32, t33, t34, t35, t36, t37, t38, t39, t40, t41, t42, t43, t44, t45, t46, t47, t48, t49, t50], d⟩ W := by
  show (Code.region 6 _ true).wp _ _ _ _
  refine wp_region_any (by kernel_rfl) ?_
  show wpAny _ _ _ _ _ _ _ W.drew
  generalize W.drew = W0 at *
  refine wpAny_take (i := 0) (v := .string s) rfl (by kernel_rfl) (by kernel_rfl) (by kernel_rfl) (fun _ _ _ q => hQ _ _ _ _ _ q) (Or.inl ⟨by kernel_rfl, fun w => mv (t := 1) (Or.inl rfl) rfl⟩) ?_
  show wpAny _ _ _ _ _ #[true, false, false, false, false, false, false, false, false, false, false, false, false, false] ⟨#[.pointer (some ⟨g, off, none⟩), .string s, t2, t3, t4, .int .i64 (a : Int), t6, t7, t8, t9, t10, t11, t12, t13, t14, t15, t16, t17, t18, t19, t20, t21, t22, t23, t24, t25, t26, t27, t28, t29, t30, t31, t32, t33, t34, t35, t36, t37, .string s, t39, t40, t41, t42, t43, t44, t45, t46, t47, t48, t49, t50], d⟩ W0
  refine wpAny_take (i := 1) (v := .int .i64 (a : Int)) rfl (by kernel_rfl) (by kernel_rfl) (by kernel_rfl) (fun _ _ _ q => hQ _ _ _ _ _ q) (Or.inl ⟨by kernel_rfl, fun w => mv (t := 5) (Or.inl rfl) rfl⟩) ?_
  show wpAny _ _ _ _ _ #[true, true, false, false, false, false, false, false, false, false, false, false, false, false] ⟨#[.pointer (some ⟨g, off, none⟩), .string s, t2, t3, t4, .int .i64 (a : Int), t6, t7, t8, t9, t10, t11, t12, t13, t14, t15, t16, t17, t18, t19, t20, t21, t22, t23, t24, t25, t26, t27, t28, t29, t30, t31, t32, t33, t34, t35, t36, t37, .string s, .int .i64 (a : Int), t40, t41, t42, t43, t44, t45, t46, t47, t48, t49, t50], d⟩ W0
  refine wpAny_take (i := 2) (v := .pointer (some ⟨g, off, none⟩)) rfl (by kernel_rfl) (by kernel_rfl) (by kernel_rfl) (fun _ _ _ q => hQ _ _ _ _ _ q) (Or.inl ⟨by kernel_rfl, fun w => mv (t := 0) (Or.inl rfl) rfl⟩) ?_
  show wpAny _ _ _ _ _ #[true, true, true, false, false, false, false, false, false, false, false, false, false, false] ⟨#[.pointer (some ⟨g, off, none⟩), .string s, t2, t3, t4, .int .i64 (a : Int), t6, t7, t8, t9, t10, t11, t12, t13, t14, t15, t16, t17, t18, t19, t20, t21, t22, t23, t24, t25, t26, t27, t28, t29, t30, t31, t32, t33, t34, t35, t36, t37, .string s, .int .i64 (a : Int), .pointer (some ⟨g, off, none⟩), t41, t42, t43, t44, t45, t46, t47, t48, t49, t50], d⟩ W0
  refine wpAny_take (i := 3) (v := .pointer (some ⟨g, off, none⟩)) rfl (by kernel_rfl) (by kernel_rfl) (by kernel_rfl) (fun _ _ _ q => hQ _ _ _ _ _ q) (Or.inl ⟨by kernel_rfl, fun w => nck (t := 40) rfl rfl⟩) ?_
  show wpAny _ _ _ _ _ #[true, true, true, true, false, false, false, false, false, false, false, false, false, false] ⟨#[.pointer (some ⟨g, off, none⟩), .string s, t2, t3, t4, .int .i64 (a : Int), t6, t7, t8, t9, t10, t11, t12, t13, t14, t15, t16, t17, t18, t19, t20, t21, t22, t23, t24, t25, t26, t27, t28, t29, t30, t31, t32, t33, t34, t35, t36, t37, .string s, .int .i64 (a : Int), .pointer (some ⟨g, off, none⟩), .pointer (some ⟨g, off, none⟩), t42, t43, t44, t45, t46, t47, t48, t49, t50], d⟩ W0
  refine wpAny_take (i := 4) (v := .pointer (some ⟨g, off, none⟩)) rfl (by kernel_rfl) (by kernel_rfl) (by kernel_rfl) (fun _ _ _ q => hQ _ _ _ _ _ q) (Or.inl ⟨by kernel_rfl, fun w => fa65_0 (t := 41) rfl rfl⟩) ?_
  show wpAny _ _ _ _ _ #[true, true, true, true, true, false, false, false, false, false, false, false, false, false] ⟨#[.pointer (some ⟨g, off, none⟩), .string s, t2, t3, t4, .int .i64 (a : Int), t6, t7, t8, t9, t10, t11, t12, t13, t14, t15, t16, t17, t18, t19, t20, t21, t22, t23, t24, t25, t26, t27, t28, t29, t30, t31, t32, t33, t34, t35, t36, t37, .string s, .int .i64 (a : Int), .pointer (some ⟨g, off, none⟩), .pointer (some ⟨g, off, none⟩), .pointer (some ⟨g, off, none⟩), t43, t44, t45, t46, t47, t48, t49, t50], d⟩ W0
  refine wpAny_take (i := 5) (v := .pointer (some ⟨g, off + 5, none⟩)) rfl (by kernel_rfl) (by kernel_rfl) (by kernel_rfl) (fun _ _ _ q => hQ _ _ _ _ _ q) (Or.inl ⟨by kernel_rfl, fun w => fa35_5 (t := 42) rfl rfl⟩) ?_
  show wpAny _ _ _ _ _ #[true, true, true, true, true, true, false, false, false, false, false, false, false, false] ⟨#[.pointer (some ⟨g, off, none⟩), .string s, t2, t3, t4, .int .i64 (a : Int), t6, t7, t8, t9, t10, t11, t12, t13, t14, t15, t16, t17, t18, t19, t20, t21, t22, t23, t24, t25, t26, t27, t28, t29, t30, t31, t32, t33, t34, t35, t36, t37, .string s, .int .i64 (a : Int), .pointer (some ⟨g, off, none⟩), .pointer (some ⟨g, off, none⟩), .pointer (some ⟨g, off, none⟩), .pointer (some ⟨g, off + 5, none⟩), t44, t45, t46, t47, t48, t49, t50], d⟩ W0
  refine wpAny_take (i := 7) (v := .pointer (some ⟨g, off, none⟩)) rfl (by kernel_rfl) (by kernel_rfl) (by kernel_rfl) (fun _ _ _ q => hQ _ _ _ _ _ q) (Or.inl ⟨by kernel_rfl, fun w => mv (t := 0) (Or.inl rfl) rfl⟩) ?_
  show wpAny _ _ _ _ _ #[true, true, true, true, true, true, false, true, false, false, false, false, false, false] ⟨#[.pointer (some ⟨g, off, none⟩), .string s, t2, t3, t4, .int .i64 (a : Int), t6, t7, t8, t9, t10, t11, t12, t13, t14, t15, t16, t17, t18, t19, t20, t21, t22, t23, t24, t25, t26, t27, t28, t29, t30, t31, t32, t33, t34, t35, t36, t37, .string s, .int .i64 (a : Int), .pointer (some ⟨g, off, none⟩), .pointer (some ⟨g, off, none⟩), .pointer (some ⟨g, off, none⟩), .pointer (some ⟨g, off + 5, none⟩), t44, .pointer (some ⟨g, off, none⟩), t46, t47, t48, t49, t50], d⟩ W0
  refine wpAny_take (i := 8) (v := .pointer (some ⟨g, off, none⟩)) rfl (by kernel_rfl) (by kernel_rfl) (by kernel_rfl) (fun _ _ _ q => hQ _ _ _ _ _ q) (Or.inl ⟨by kernel_rfl, fun w => nck (t := 45) rfl rfl⟩) ?_
  show wpAny _ _ _ _ _ #[true, true, true, true, true, true, false, true, true, false, false, false, false, false] ⟨#[.pointer (some ⟨g, off, none⟩), .string s, t2, t3, t4, .int .i64 (a : Int), t6, t7, t8, t9, t10, t11, t12, t13, t14, t15, t16, t17, t18, t19, t20, t21, t22, t23, t24, t25, t26, t27, t28, t29, t30, t31, t32, t33, t34, t35, t36, t37, .string s, .int .i64 (a : Int), .pointer (some ⟨g, off, none⟩), .pointer (some ⟨g, off, none⟩), .pointer (some ⟨g, off, none⟩), .pointer (some ⟨g, off + 5, none⟩), t44, .pointer (some ⟨g, off, none⟩), .pointer (some ⟨g, off, none⟩), t47, t48, t49, t50], d⟩ W0
  refine wpAny_take (i := 9) (v := .pointer (some ⟨g, off, none⟩)) rfl (by kernel_rfl) (by kernel_rfl) (by kernel_rfl) (fun _ _ _ q => hQ _ _ _ _ _ q) (Or.inl ⟨by kernel_rfl, fun w => fa65_0 (t := 46) rfl rfl⟩) ?_
  show wpAny _ _ _ _ _ #[true, true, true, true, true, true, false, true, true, true, false, false, false, false] ⟨#[.pointer (some ⟨g, off, none⟩), .string s, t2, t3, t4, .int .i64 (a : Int), t6, t7, t8, t9, t10, t11, t12, t13, t14, t15, t16, t17, t18, t19, t20, t21, t22, t23, t24, t25, t26, t27, t28, t29, t30, t31, t32, t33, t34, t35, t36, t37, .string s, .int .i64 (a : Int), .pointer (some ⟨g, off, none⟩), .pointer (some ⟨g, off, none⟩), .pointer (some ⟨g, off, none⟩), .pointer (some ⟨g, off + 5, none⟩), t44, .pointer (some ⟨g, off, none⟩), .pointer (some ⟨g, off, none⟩), .pointer (some ⟨g, off, none⟩), t48, t49, t50], d⟩ W0
  refine wpAny_take (i := 10) (v := .pointer (some ⟨g, off + 3, none⟩)) rfl (by kernel_rfl) (by kernel_rfl) (by kernel_rfl) (fun _ _ _ q => hQ _ _ _ _ _ q) (Or.inl ⟨by kernel_rfl, fun w => fa35_3 (t := 47) rfl rfl⟩) ?_
  show wpAny _ _ _ _ _ #[true, true, true, true, true, true, false, true, true, true, true, false, false, false] ⟨#[.pointer (some ⟨g, off, none⟩), .string s, t2, t3, t4, .int .i64 (a : Int), t6, t7, t8, t9, t10, t11, t12, t13, t14, t15, t16, t17, t18, t19, t20, t21, t22, t23, t24, t25, t26, t27, t28, t29, t30, t31, t32, t33, t34, t35, t36, t37, .string s, .int .i64 (a : Int), .pointer (some ⟨g, off, none⟩), .pointer (some ⟨g, off, none⟩), .pointer (some ⟨g, off, none⟩), .pointer (some ⟨g, off + 5, none⟩), t44, .pointer (some ⟨g, off, none⟩), .pointer (some ⟨g, off, none⟩), .pointer (some ⟨g, off, none⟩), .pointer (some ⟨g, off + 3, none⟩), t49, t50], d⟩ W0
  refine wpAny_ready (rs := [6, 11]) (by kernel_rfl) (by simp) (AllReady.cons rfl (fun K hK => ?_) (AllReady.cons rfl (fun K hK => ?_) AllReady.nil))
  · skip
    rw [if_pos (by kernel_rfl)]
    unfold Oper.wp
    rw [ld4 (W := W0) (t := 43) rfl rfl KC.c5, Oper.upon_value]
    refine hK _ _ ?_
    clear hK K
    show wpAny _ _ _ _ _ #[true, true, true, true, true, true, true, true, true, true, true, false, false, false] ⟨#[.pointer (some ⟨g, off, none⟩), .string s, t2, t3, t4, .int .i64 (a : Int), t6, t7, t8, t9, t10, t11, t12, t13, t14, t15, t16, t17, t18, t19, t20, t21, t22, t23, t24, t25, t26, t27, t28, t29, t30, t31, t32, t33, t34, t35, t36, t37, .string s, .int .i64 (a : Int), .pointer (some ⟨g, off, none⟩), .pointer (some ⟨g, off, none⟩), .pointer (some ⟨g, off, none⟩), .pointer (some ⟨g, off + 5, none⟩), .bool b, .pointer (some ⟨g, off, none⟩), .pointer (some ⟨g, off, none⟩), .pointer (some ⟨g, off, none⟩), .pointer (some ⟨g, off + 3, none⟩), t49, t50], d⟩ W0
    refine wpAny_ready (rs := [11]) (by kernel_rfl) (by simp) (AllReady.cons rfl (fun K hK => ?_) AllReady.nil)
    rw [if_pos (by kernel_rfl)]
    unfold Oper.wp
    rw [ld3 (W := W0) (t := 48) rfl rfl KC.c3, Oper.upon_value]
    refine hK _ _ ?_
    clear hK K
    show wpAny _ _ _ _ _ #[true, true, true, true, true, true, true, true, true, true, true, true, false, false] ⟨#[.pointer (some ⟨g, off, none⟩), .string s, t2, t3, t4, .int .i64 (a : Int), t6, t7, t8, t9, t10, t11, t12, t13, t14, t15, t16, t17, t18, t19, t20, t21, t22, t23, t24, t25, t26, t27, t28, t29, t30, t31, t32, t33, t34, t35, t36, t37, .string s, .int .i64 (a : Int), .pointer (some ⟨g, off, none⟩), .pointer (some ⟨g, off, none⟩), .pointer (some ⟨g, off, none⟩), .pointer (some ⟨g, off + 5, none⟩), .bool b, .pointer (some ⟨g, off, none⟩), .pointer (some ⟨g, off, none⟩), .pointer (some ⟨g, off, none⟩), .pointer (some ⟨g, off + 3, none⟩), .int .i64 (ec : Int), t50], d⟩ W0
    refine wpAny_ready (rs := [12]) (by kernel_rfl) (by simp) (AllReady.cons rfl (fun K hK => ?_) AllReady.nil)
    rw [if_pos (by kernel_rfl)]
    unfold Oper.wp
    rw [cl59 (t := 38) (u := 39) (x := 44) (y := 49) rfl rfl rfl rfl rfl, Oper.upon_enter]
    refine (FU).mono ?_
    rintro e w9 ⟨rfl, rfl⟩
    refine hK _ _ ?_
    clear hK K
    show wpAny _ _ _ _ _ #[true, true, true, true, true, true, true, true, true, true, true, true, true, false] ⟨#[.pointer (some ⟨g, off, none⟩), .string s, t2, t3, t4, .int .i64 (a : Int), t6, t7, t8, t9, t10, t11, t12, t13, t14, t15, t16, t17, t18, t19, t20, t21, t22, t23, t24, t25, t26, t27, t28, t29, t30, t31, t32, t33, t34, t35, t36, t37, .string s, .int .i64 (a : Int), .pointer (some ⟨g, off, none⟩), .pointer (some ⟨g, off, none⟩), .pointer (some ⟨g, off, none⟩), .pointer (some ⟨g, off + 5, none⟩), .bool b, .pointer (some ⟨g, off, none⟩), .pointer (some ⟨g, off, none⟩), .pointer (some ⟨g, off, none⟩), .pointer (some ⟨g, off + 3, none⟩), .int .i64 (ec : Int), .int .i64 (r : Int)], d⟩ W0
    refine wpAny_take (i := 13) (v := .int .i64 (r : Int)) rfl (by kernel_rfl) (by kernel_rfl) (by kernel_rfl) (fun _ _ _ q => hQ _ _ _ _ _ q) (Or.inl ⟨by kernel_rfl, fun w => mv (t := 50) (Or.inr rfl) rfl⟩) ?_
    show wpAny _ _ _ _ _ #[true, true, true, true, true, true, true, true, true, true, true, true, true, true] ⟨#[.pointer (some ⟨g, off, none⟩), .string s, t2, t3, .int .i64 (r : Int), .int .i64 (a : Int), t6, t7, t8, t9, t10, t11, t12, t13, t14, t15, t16, t17, t18, t19, t20, t21, t22, t23, t24, t25, t26, t27, t28, t29, t30, t31, t32, t33, t34, t35, t36, t37, .string s, .int .i64 (a : Int), .pointer (some ⟨g, off, none⟩), .pointer (some ⟨g, off, none⟩), .pointer (some ⟨g, off, none⟩), .pointer (some ⟨g, off + 5, none⟩), .bool b, .pointer (some ⟨g, off, none⟩), .pointer (some ⟨g, off, none⟩), .pointer (some ⟨g, off, none⟩), .pointer (some ⟨g, off + 3, none⟩), .int .i64 (ec : Int), .int .i64 (r : Int)], d⟩ W0
    refine wpAny_done (by kernel_rfl) ?_ _
    exact h _ _ _ _ _ _ _ _ _ _ _ _ _
  · skip
    rw [if_pos (by kernel_rfl)]
    unfold Oper.wp
    rw [ld3 (W := W0) (t := 48) rfl rfl KC.c3, Oper.upon_value]
    refine hK _ _ ?_
    clear hK K
    show wpAny _ _ _ _ _ #[true, true, true, true, true, true, false, true, true, true, true, true, false, false] ⟨#[.pointer (some ⟨g, off, none⟩), .string s, t2, t3, t4, .int .i64 (a : Int), t6, t7, t8, t9, t10, t11, t12, t13, t14, t15, t16, t17, t18, t19, t20, t21, t22, t23, t24, t25, t26, t27, t28, t29, t30, t31, t32, t33, t34, t35, t36, t37, .string s, .int .i64 (a : Int), .pointer (some ⟨g, off, none⟩), .pointer (some ⟨g, off, none⟩), .pointer (some ⟨g, off, none⟩), .pointer (some ⟨g, off + 5, none⟩), t44, .pointer (some ⟨g, off, none⟩), .pointer (some ⟨g, off, none⟩), .pointer (some ⟨g, off, none⟩), .pointer (some ⟨g, off + 3, none⟩), .int .i64 (ec : Int), t50], d⟩ W0
    refine wpAny_ready (rs := [6]) (by kernel_rfl) (by simp) (AllReady.cons rfl (fun K hK => ?_) AllReady.nil)
    rw [if_pos (by kernel_rfl)]
    unfold Oper.wp
    rw [ld4 (W := W0) (t := 43) rfl rfl KC.c5, Oper.upon_value]
    refine hK _ _ ?_
    clear hK K
    show wpAny _ _ _ _ _ #[true, true, true, true, true, true, true, true, true, true, true, true, false, false] ⟨#[.pointer (some ⟨g, off, none⟩), .string s, t2, t3, t4, .int .i64 (a : Int), t6, t7, t8, t9, t10, t11, t12, t13, t14, t15, t16, t17, t18, t19, t20, t21, t22, t23, t24, t25, t26, t27, t28, t29, t30, t31, t32, t33, t34, t35, t36, t37, .string s, .int .i64 (a : Int), .pointer (some ⟨g, off, none⟩), .pointer (some ⟨g, off, none⟩), .pointer (some ⟨g, off, none⟩), .pointer (some ⟨g, off + 5, none⟩), .bool b, .pointer (some ⟨g, off, none⟩), .pointer (some ⟨g, off, none⟩), .pointer (some ⟨g, off, none⟩), .pointer (some ⟨g, off + 3, none⟩), .int .i64 (ec : Int), t50], d⟩ W0
    refine wpAny_ready (rs := [12]) (by kernel_rfl) (by simp) (AllReady.cons rfl (fun K hK => ?_) AllReady.nil)
    rw [if_pos (by kernel_rfl)]
    unfold Oper.wp
    rw [cl59 (t := 38) (u := 39) (x := 44) (y := 49) rfl rfl rfl rfl rfl, Oper.upon_enter]
    refine (FU).mono ?_
    rintro e w9 ⟨rfl, rfl⟩
    refine hK _ _ ?_
    clear hK K
    show wpAny _ _ _ _ _ #[true, true, true, true, true, true, true, true, true, true, true, true, true, false] ⟨#[.pointer (some ⟨g, off, none⟩), .string s, t2, t3, t4, .int .i64 (a : Int), t6, t7, t8, t9, t10, t11, t12, t13, t14, t15, t16, t17, t18, t19, t20, t21, t22, t23, t24, t25, t26, t27, t28, t29, t30, t31, t32, t33, t34, t35, t36, t37, .string s, .int .i64 (a : Int), .pointer (some ⟨g, off, none⟩), .pointer (some ⟨g, off, none⟩), .pointer (some ⟨g, off, none⟩), .pointer (some ⟨g, off + 5, none⟩), .bool b, .pointer (some ⟨g, off, none⟩), .pointer (some ⟨g, off, none⟩), .pointer (some ⟨g, off, none⟩), .pointer (some ⟨g, off + 3, none⟩), .int .i64 (ec : Int), .int .i64 (r : Int)], d⟩ W0
    refine wpAny_take (i := 13) (v := .int .i64 (r : Int)) rfl (by kernel_rfl) (by kernel_rfl) (by kernel_rfl) (fun _ _ _ q => hQ _ _ _ _ _ q) (Or.inl ⟨by kernel_rfl, fun w => mv (t := 50) (Or.inr rfl) rfl⟩) ?_
    show wpAny _ _ _ _ _ #[true, true, true, true, true, true, true, true, true, true, true, true, true, true] ⟨#[.pointer (some ⟨g, off, none⟩), .string s, t2, t3, .int .i64 (r : Int), .int .i64 (a : Int), t6, t7, t8, t9, t10, t11, t12, t13, t14, t15, t16, t17, t18, t19, t20, t21, t22, t23, t24, t25, t26, t27, t28, t29, t30, t31, t32, t33, t34, t35, t36, t37, .string s, .int .i64 (a : Int), .pointer (some ⟨g, off, none⟩), .pointer (some ⟨g, off, none⟩), .pointer (some ⟨g, off, none⟩), .pointer (some ⟨g, off + 5, none⟩), .bool b, .pointer (some ⟨g, off, none⟩), .pointer (some ⟨g, off, none⟩), .pointer (some ⟨g, off, none⟩), .pointer (some ⟨g, off + 3, none⟩), .int .i64 (ec : Int), .int .i64 (r : Int)], d⟩ W0
    refine wpAny_done (by kernel_rfl) ?_ _
    exact h _ _ _ _ _ _ _ _ _ _ _ _ _
end Go.Proofs.YtnpnccjeapejdaaGreatDoor
