/- The region of the program's entryOf that reads one number and appends it: it draws its order: three orders. -/
import Derived.Test.YtlbekgcfafofdaaDoorRg
namespace Go.Proofs.YtlbekgcfafofdaaDoor
open Go.RowKit
set_option maxRecDepth 100000

def cnC : Code → Code
  | .cond _ a _ => a
  | c => c
def lpC : Code → Code
  | .loop c => c
  | c => c
def blC : Code → Code
  | .block _ c => c
  | c => c
/-- The region. -/
noncomputable def r21C : Code := blC (fstC (sndC (sndC (lpC (blC (sndC (cnC (sndC (fstC (sndC (sndC (sndC (sndC (sndC (sndC (sndC (sndC (sndC (sndC (sndC (Tryd.f43.body.getD .skip)))))))))))))))))))))
theorem OwnIB.kp {w w' : World} {B : Nat} {v : Value} {l : List Int} {S : Nat → Prop} (h : OwnIB w B v l) (k : Kp w w' S) (hn : ∀ x, B ≤ x → ¬ S x) : OwnIB w' B v l := by
  refine ⟨⟨h.1.1, ?_⟩, Nat.le_trans h.2 k.size⟩
  rcases h.1.2 with hn' | ⟨g, cap, cur, hv, hb, hgg, rest⟩
  · exact .inl hn'
  · exact .inr ⟨g, cap, cur, hv, hb, (k.block g (lt_of_heap hgg) (hn g hb)).trans hgg, rest⟩
section
variable {o : Oper} {a : Act} {W : World} {t s : Nat}
theorem fa7 {c : Nat} (ho : o.op = .fieldAddr 27 (.tmp t) 7) (ha : a.tmps.getD t undef = .pointer (some ⟨c, 0, none⟩)) : (execOp a.eval o).run Tryd.prog W = .ok (.value (.pointer (some ⟨c, 7, none⟩))) W := by
  have ha' := gd ha
  generalize a.eval = ρ at *
  simp [execOp, ho, ha', go_sem]
theorem ld25 {p : Nat} {v : Value} (ho : o.op = .load 25 (.tmp t)) (ha : a.tmps.getD t undef = .pointer (some ⟨p, 7, none⟩)) (h : W.cell? ⟨p, 7, none⟩ = some v) : (execOp a.eval o).run Tryd.prog W = .ok (.value v) W := by
  have ha' := gd ha
  generalize a.eval = ρ at *
  simp [execOp, ho, ha', go_sem, h]
theorem cl51 {v : Value} (ho : o.op = .call { callee := .value (.func 51), args := #[.tmp t, .const (.int .i64 4)], argTypes := #[82, 3] }) (ha : a.tmps.getD t undef = v) : (execOp a.eval o).run Tryd.prog W = .ok (.enter 51 #[v, .int .i64 4]) W := by
  have ha' := gd ha
  have hf : a.eval (.func 51) = .func (.func 51) #[] #[] := rfl
  have hc : a.eval (.const (.int .i64 4)) = .int .i64 4 := rfl
  generalize a.eval = ρ at *
  simp [execOp, ho, ha', hf, hc, go_sem]
theorem bs1 {z : Int} (ho : o.op = .buildSlice 25 1 #[(0, .tmp t)]) (ha : a.tmps.getD t undef = .int .i64 z) : (execOp a.eval o).run Tryd.prog W = .ok (.value (.slice (some ⟨W.heap.size, 0, none⟩) 1 1)) (W.alloc (.cells #[.int .i64 z] 3)) := by
  have ha' := gd ha
  generalize a.eval = ρ at *
  simp [execOp, ho, ha', go_sem]
theorem st25 {p m cp : Nat} {sa : Option Addr} {v0 : Value} (h : W.cell? ⟨p, 7, none⟩ = some v0) (f : W.frozen? ⟨p, 7, none⟩ = false) (ho : o.op = .store 25 (.tmp t) (.tmp s)) (ha : a.tmps.getD t undef = .pointer (some ⟨p, 7, none⟩)) (hs : a.tmps.getD s undef = .slice sa m cp) :
    (execOp a.eval o).run Tryd.prog W = .ok .skip (W.setCell ⟨p, 7, none⟩ (.slice sa m cp)) := by
  have ha' := gd ha
  have hs' := gd hs
  generalize a.eval = ρ at *
  simp [execOp, ho, ha', hs', go_sem, h, f]
end
set_option maxHeartbeats 3200000 in
theorem reg21 {Q : Exit → Act → World → Prop} {W w : World} {b : List UInt8} {q p : Nat} {t0 t1 t2 t3 t6 t7 t8 t9 t10 t11 t12 t13 t14 t15 t16 t17 t18 t19 t20 t21 t22 t23 t24 t25 t26 t27 t28 t29 t30 t31 t32 t33 t34 t35 t36 t37 t38 t39 t40 t41 t42 t43 t44 t45 t46 t47 t48 t49 t50 t51 t52 t53 t54 t55 t56 t57 t58 t59 t60 t61 t62 t63 t64 t65 t66 t67 t68 t69 t70 t71 t72 t73 u v a0 a1 a2 a3 a4 a5 a6 : Value} {l : List Int} {d : List Deferred}
    (hQ : ∀ (ch : _) (a : Act) (dd : Tmp) (v : Value) (w : World), Q (.panic ch) (a.put (some dd) v) w → Q (.panic ch) a w)
    (hE : EoAt w b q [a0, a1, a2, a3, a4, a5, a6, u] v p W) (OB : OwnIB W (p + 1) u l) (hl : l.length ≤ 1000)
    (h : ∀ (v53 v54 v55 v56 v57 v58 u' v' : Value) (W' : World), EoAt w b (q + 4) [a0, a1, a2, a3, a4, a5, a6, u'] v' p W' → OwnIB W' (p + 1) u' (l ++ [(valB (seg b q 4) : Int)]) → Q .normal ⟨#[t0, t1, t2, t3, .pointer (some ⟨w.heap.size + 1, 0, none⟩), .pointer (some ⟨p, 0, none⟩), t6, t7, t8, t9, t10, t11, t12, t13, t14, t15, t16, t17, t18, t19, t20, t21, t22, t23, t24, t25, t26, t27, t28, t29, t30, t31, t32, t33, t34, t35, t36, t37, t38, t39, t40, t41, t42, t43, t44, t45, t46, t47, t48, t49, t50, t51, t52, v53, v54, v55, v56, v57, v58, t59, t60, t61, t62, t63, t64, t65, t66, t67, t68, t69, t70, t71, t72, t73], d⟩ W') :
    r21C.wp Tryd.prog Q ⟨#[t0, t1, t2, t3, .pointer (some ⟨w.heap.size + 1, 0, none⟩), .pointer (some ⟨p, 0, none⟩), t6, t7, t8, t9, t10, t11, t12, t13, t14, t15, t16, t17, t18, t19, t20, t21, t22, t23, t24, t25, t26, t27, t28, t29, t30, t31, t32, t33, t34, t35, t36, t37, t38, t39, t40, t41, t42, t43, t44, t45, t46, t47, t48, t49, t50, t51, t52, t53, t54, t55, t56, t57, t58, t59, t60, t61, t62, t63, t64, t65, t66, t67, t68, t69, t70, t71, t72, t73], d⟩ W := by
  show (Code.region 21 _ true).wp _ _ _ _
  refine wp_region_any (by kernel_rfl) ?_
  have E0 := hE.drew
  have O0 := OB.below (below_drewN W 1)
  change OwnIB W.drew _ _ _ at O0
  show wpAny _ _ _ _ _ _ _ W.drew
  clear hE OB
  generalize W.drew = W0 at *
  have NQ := countq_ok (n := 4) (by omega) E0.c
  have hz : valB (seg b q 4) ≤ 4294967295 := by have := valB_lt4 (seg_le b q 4); omega
  rw [iw_small (show valB (seg b q 4) ≤ 9223372036854775807 by omega)] at NQ
  generalize valB (seg b q 4) = z at *
  refine wpAny_take (i := 0) (v := .pointer (some ⟨p, 7, none⟩)) rfl (by kernel_rfl) (by kernel_rfl) (by kernel_rfl) (fun _ _ _ q => hQ _ _ _ _ _ q) (Or.inl ⟨by kernel_rfl, fun w => fa7 (t := 5) rfl rfl⟩) ?_
  show wpAny _ _ _ _ _ #[true, false, false, false, false, false, false] ⟨#[t0, t1, t2, t3, .pointer (some ⟨w.heap.size + 1, 0, none⟩), .pointer (some ⟨p, 0, none⟩), t6, t7, t8, t9, t10, t11, t12, t13, t14, t15, t16, t17, t18, t19, t20, t21, t22, t23, t24, t25, t26, t27, t28, t29, t30, t31, t32, t33, t34, t35, t36, t37, t38, t39, t40, t41, t42, t43, t44, t45, t46, t47, t48, t49, t50, t51, t52, .pointer (some ⟨p, 7, none⟩), t54, t55, t56, t57, t58, t59, t60, t61, t62, t63, t64, t65, t66, t67, t68, t69, t70, t71, t72, t73], d⟩ W0
  refine wpAny_ready (rs := [1, 2]) (by kernel_rfl) (by simp) (AllReady.cons rfl (fun K hK => ?_) (AllReady.cons rfl (fun K hK => ?_) AllReady.nil))
  · skip
    rw [if_pos (by kernel_rfl)]
    unfold Oper.wp
    rw [ld25 (W := W0) (t := 53) rfl rfl (E0.x.cell 7 _ rfl), Oper.upon_value]
    refine hK _ _ ?_
    clear hK K
    show wpAny _ _ _ _ _ #[true, true, false, false, false, false, false] ⟨#[t0, t1, t2, t3, .pointer (some ⟨w.heap.size + 1, 0, none⟩), .pointer (some ⟨p, 0, none⟩), t6, t7, t8, t9, t10, t11, t12, t13, t14, t15, t16, t17, t18, t19, t20, t21, t22, t23, t24, t25, t26, t27, t28, t29, t30, t31, t32, t33, t34, t35, t36, t37, t38, t39, t40, t41, t42, t43, t44, t45, t46, t47, t48, t49, t50, t51, t52, .pointer (some ⟨p, 7, none⟩), u, t55, t56, t57, t58, t59, t60, t61, t62, t63, t64, t65, t66, t67, t68, t69, t70, t71, t72, t73], d⟩ W0
    refine wpAny_ready (rs := [2]) (by kernel_rfl) (by simp) (AllReady.cons rfl (fun K hK => ?_) AllReady.nil)
    rw [if_pos (by kernel_rfl)]
    unfold Oper.wp
    rw [cl51 (t := 4) rfl rfl, Oper.upon_enter]
    refine NQ.mono ?_
    rintro e W1 ⟨rfl, v', cq, kq⟩
    have E1 := E0.cut cq kq
    have O1 := O0.kp kq (by intro x hx e; have := E0.hp; omega)
    refine hK _ _ ?_
    clear hK K
    show wpAny _ _ _ _ _ #[true, true, true, false, false, false, false] ⟨#[t0, t1, t2, t3, .pointer (some ⟨w.heap.size + 1, 0, none⟩), .pointer (some ⟨p, 0, none⟩), t6, t7, t8, t9, t10, t11, t12, t13, t14, t15, t16, t17, t18, t19, t20, t21, t22, t23, t24, t25, t26, t27, t28, t29, t30, t31, t32, t33, t34, t35, t36, t37, t38, t39, t40, t41, t42, t43, t44, t45, t46, t47, t48, t49, t50, t51, t52, .pointer (some ⟨p, 7, none⟩), u, .int .i64 (z : Int), t56, t57, t58, t59, t60, t61, t62, t63, t64, t65, t66, t67, t68, t69, t70, t71, t72, t73], d⟩ W1
    refine wpAny_ready (rs := [3]) (by kernel_rfl) (by simp) (AllReady.cons rfl (fun K hK => ?_) AllReady.nil)
    rw [if_pos (by kernel_rfl)]
    unfold Oper.wp
    rw [bs1 (t := 55) rfl rfl, Oper.upon_value]
    have E2 := E1.below (below_alloc W1 (.cells #[.int .i64 (z : Int)] 3))
    have O2 := O1.below (below_alloc W1 (.cells #[.int .i64 (z : Int)] 3))
    refine hK _ _ ?_
    clear hK K
    show wpAny _ _ _ _ _ #[true, true, true, true, false, false, false] ⟨#[t0, t1, t2, t3, .pointer (some ⟨w.heap.size + 1, 0, none⟩), .pointer (some ⟨p, 0, none⟩), t6, t7, t8, t9, t10, t11, t12, t13, t14, t15, t16, t17, t18, t19, t20, t21, t22, t23, t24, t25, t26, t27, t28, t29, t30, t31, t32, t33, t34, t35, t36, t37, t38, t39, t40, t41, t42, t43, t44, t45, t46, t47, t48, t49, t50, t51, t52, .pointer (some ⟨p, 7, none⟩), u, .int .i64 (z : Int), .slice (some ⟨W1.heap.size, 0, none⟩) 1 1, t57, t58, t59, t60, t61, t62, t63, t64, t65, t66, t67, t68, t69, t70, t71, t72, t73], d⟩ (W1.alloc (.cells #[.int .i64 (z : Int)] 3))
    refine wpAny_ready (rs := [4]) (by kernel_rfl) (by simp) (AllReady.cons rfl (fun K hK => ?_) AllReady.nil)
    rw [if_pos (by kernel_rfl)]
    obtain ⟨i0, hi, hz0, hz1, hz2⟩ := info_parts info3
    refine wp_append_lies _ (.tmp 54) (.tmp 56) 25 rfl (p + 1) 3 i0 (.int .i64 0) 1 8 Tryd.underlying25 hi hz0 hz1 hz2 rfl (by decide) u l.length (iV l) rfl O2.1 ⟨W1.heap.size, 0, none⟩ 1 1 [.int .i64 (z : Int)] rfl rfl (cell_one_new _ _ _) (fun y hy => by simp only [List.mem_singleton] at hy; subst hy; rfl) (by omega) (by unfold maxLen; omega) (by omega) O2.2 _ rfl ?_
    intro g cap W3 h1 h2 _ _
    have b3 := O2.grown h2
    have E3 := E2.up b3
    have O3 : OwnIB W3 (p + 1) (.slice (some ⟨g, 0, none⟩) (l.length + 1) cap) (l ++ [(z : Int)]) := ⟨by rw [List.length_append, iV_app]; exact h1, Nat.le_trans O2.2 h2.size⟩
    refine hK _ _ ?_
    clear hK K
    show wpAny _ _ _ _ _ #[true, true, true, true, true, false, false] ⟨#[t0, t1, t2, t3, .pointer (some ⟨w.heap.size + 1, 0, none⟩), .pointer (some ⟨p, 0, none⟩), t6, t7, t8, t9, t10, t11, t12, t13, t14, t15, t16, t17, t18, t19, t20, t21, t22, t23, t24, t25, t26, t27, t28, t29, t30, t31, t32, t33, t34, t35, t36, t37, t38, t39, t40, t41, t42, t43, t44, t45, t46, t47, t48, t49, t50, t51, t52, .pointer (some ⟨p, 7, none⟩), u, .int .i64 (z : Int), .slice (some ⟨W1.heap.size, 0, none⟩) 1 1, .slice (some ⟨g, 0, none⟩) (l.length + 1) cap, t58, t59, t60, t61, t62, t63, t64, t65, t66, t67, t68, t69, t70, t71, t72, t73], d⟩ W3
    refine wpAny_take (i := 5) (v := .pointer (some ⟨p, 7, none⟩)) rfl (by kernel_rfl) (by kernel_rfl) (by kernel_rfl) (fun _ _ _ q => hQ _ _ _ _ _ q) (Or.inl ⟨by kernel_rfl, fun w => fa7 (t := 5) rfl rfl⟩) ?_
    show wpAny _ _ _ _ _ #[true, true, true, true, true, true, false] ⟨#[t0, t1, t2, t3, .pointer (some ⟨w.heap.size + 1, 0, none⟩), .pointer (some ⟨p, 0, none⟩), t6, t7, t8, t9, t10, t11, t12, t13, t14, t15, t16, t17, t18, t19, t20, t21, t22, t23, t24, t25, t26, t27, t28, t29, t30, t31, t32, t33, t34, t35, t36, t37, t38, t39, t40, t41, t42, t43, t44, t45, t46, t47, t48, t49, t50, t51, t52, .pointer (some ⟨p, 7, none⟩), u, .int .i64 (z : Int), .slice (some ⟨W1.heap.size, 0, none⟩) 1 1, .slice (some ⟨g, 0, none⟩) (l.length + 1) cap, .pointer (some ⟨p, 7, none⟩), t59, t60, t61, t62, t63, t64, t65, t66, t67, t68, t69, t70, t71, t72, t73], d⟩ W3
    refine wpAny_ready (rs := [6]) (by kernel_rfl) (by simp) (AllReady.cons rfl (fun K hK => ?_) AllReady.nil)
    rw [if_pos (by kernel_rfl)]
    unfold Oper.wp
    rw [st25 (W := W3) (t := 58) (s := 57) (E3.x.cell 7 _ rfl) (E3.x.free 7) rfl rfl rfl, Oper.upon_skip]
    have E4 := E3.put 7 (.slice (some ⟨g, 0, none⟩) (l.length + 1) cap) (by simp)
    have O4 := O3.setLow (Nat.lt_succ_self p) 7 (.slice (some ⟨g, 0, none⟩) (l.length + 1) cap)
    refine hK _ _ ?_
    clear hK K
    show wpAny _ _ _ _ _ #[true, true, true, true, true, true, true] ⟨#[t0, t1, t2, t3, .pointer (some ⟨w.heap.size + 1, 0, none⟩), .pointer (some ⟨p, 0, none⟩), t6, t7, t8, t9, t10, t11, t12, t13, t14, t15, t16, t17, t18, t19, t20, t21, t22, t23, t24, t25, t26, t27, t28, t29, t30, t31, t32, t33, t34, t35, t36, t37, t38, t39, t40, t41, t42, t43, t44, t45, t46, t47, t48, t49, t50, t51, t52, .pointer (some ⟨p, 7, none⟩), u, .int .i64 (z : Int), .slice (some ⟨W1.heap.size, 0, none⟩) 1 1, .slice (some ⟨g, 0, none⟩) (l.length + 1) cap, .pointer (some ⟨p, 7, none⟩), t59, t60, t61, t62, t63, t64, t65, t66, t67, t68, t69, t70, t71, t72, t73], d⟩ _
    refine wpAny_done (by kernel_rfl) ?_ _
    exact h _ _ _ _ _ _ _ _ _ E4 O4
  · skip
    rw [if_pos (by kernel_rfl)]
    unfold Oper.wp
    rw [cl51 (t := 4) rfl rfl, Oper.upon_enter]
    refine NQ.mono ?_
    rintro e W1 ⟨rfl, v', cq, kq⟩
    have E1 := E0.cut cq kq
    have O1 := O0.kp kq (by intro x hx e; have := E0.hp; omega)
    refine hK _ _ ?_
    clear hK K
    show wpAny _ _ _ _ _ #[true, false, true, false, false, false, false] ⟨#[t0, t1, t2, t3, .pointer (some ⟨w.heap.size + 1, 0, none⟩), .pointer (some ⟨p, 0, none⟩), t6, t7, t8, t9, t10, t11, t12, t13, t14, t15, t16, t17, t18, t19, t20, t21, t22, t23, t24, t25, t26, t27, t28, t29, t30, t31, t32, t33, t34, t35, t36, t37, t38, t39, t40, t41, t42, t43, t44, t45, t46, t47, t48, t49, t50, t51, t52, .pointer (some ⟨p, 7, none⟩), t54, .int .i64 (z : Int), t56, t57, t58, t59, t60, t61, t62, t63, t64, t65, t66, t67, t68, t69, t70, t71, t72, t73], d⟩ W1
    refine wpAny_ready (rs := [1, 3]) (by kernel_rfl) (by simp) (AllReady.cons rfl (fun K hK => ?_) (AllReady.cons rfl (fun K hK => ?_) AllReady.nil))
    · skip
      rw [if_pos (by kernel_rfl)]
      unfold Oper.wp
      rw [ld25 (W := W1) (t := 53) rfl rfl (E1.x.cell 7 _ rfl), Oper.upon_value]
      refine hK _ _ ?_
      clear hK K
      show wpAny _ _ _ _ _ #[true, true, true, false, false, false, false] ⟨#[t0, t1, t2, t3, .pointer (some ⟨w.heap.size + 1, 0, none⟩), .pointer (some ⟨p, 0, none⟩), t6, t7, t8, t9, t10, t11, t12, t13, t14, t15, t16, t17, t18, t19, t20, t21, t22, t23, t24, t25, t26, t27, t28, t29, t30, t31, t32, t33, t34, t35, t36, t37, t38, t39, t40, t41, t42, t43, t44, t45, t46, t47, t48, t49, t50, t51, t52, .pointer (some ⟨p, 7, none⟩), u, .int .i64 (z : Int), t56, t57, t58, t59, t60, t61, t62, t63, t64, t65, t66, t67, t68, t69, t70, t71, t72, t73], d⟩ W1
      refine wpAny_ready (rs := [3]) (by kernel_rfl) (by simp) (AllReady.cons rfl (fun K hK => ?_) AllReady.nil)
      rw [if_pos (by kernel_rfl)]
      unfold Oper.wp
      rw [bs1 (t := 55) rfl rfl, Oper.upon_value]
      have E2 := E1.below (below_alloc W1 (.cells #[.int .i64 (z : Int)] 3))
      have O2 := O1.below (below_alloc W1 (.cells #[.int .i64 (z : Int)] 3))
      refine hK _ _ ?_
      clear hK K
      show wpAny _ _ _ _ _ #[true, true, true, true, false, false, false] ⟨#[t0, t1, t2, t3, .pointer (some ⟨w.heap.size + 1, 0, none⟩), .pointer (some ⟨p, 0, none⟩), t6, t7, t8, t9, t10, t11, t12, t13, t14, t15, t16, t17, t18, t19, t20, t21, t22, t23, t24, t25, t26, t27, t28, t29, t30, t31, t32, t33, t34, t35, t36, t37, t38, t39, t40, t41, t42, t43, t44, t45, t46, t47, t48, t49, t50, t51, t52, .pointer (some ⟨p, 7, none⟩), u, .int .i64 (z : Int), .slice (some ⟨W1.heap.size, 0, none⟩) 1 1, t57, t58, t59, t60, t61, t62, t63, t64, t65, t66, t67, t68, t69, t70, t71, t72, t73], d⟩ (W1.alloc (.cells #[.int .i64 (z : Int)] 3))
      refine wpAny_ready (rs := [4]) (by kernel_rfl) (by simp) (AllReady.cons rfl (fun K hK => ?_) AllReady.nil)
      rw [if_pos (by kernel_rfl)]
      obtain ⟨i0, hi, hz0, hz1, hz2⟩ := info_parts info3
      refine wp_append_lies _ (.tmp 54) (.tmp 56) 25 rfl (p + 1) 3 i0 (.int .i64 0) 1 8 Tryd.underlying25 hi hz0 hz1 hz2 rfl (by decide) u l.length (iV l) rfl O2.1 ⟨W1.heap.size, 0, none⟩ 1 1 [.int .i64 (z : Int)] rfl rfl (cell_one_new _ _ _) (fun y hy => by simp only [List.mem_singleton] at hy; subst hy; rfl) (by omega) (by unfold maxLen; omega) (by omega) O2.2 _ rfl ?_
      intro g cap W3 h1 h2 _ _
      have b3 := O2.grown h2
      have E3 := E2.up b3
      have O3 : OwnIB W3 (p + 1) (.slice (some ⟨g, 0, none⟩) (l.length + 1) cap) (l ++ [(z : Int)]) := ⟨by rw [List.length_append, iV_app]; exact h1, Nat.le_trans O2.2 h2.size⟩
      refine hK _ _ ?_
      clear hK K
      show wpAny _ _ _ _ _ #[true, true, true, true, true, false, false] ⟨#[t0, t1, t2, t3, .pointer (some ⟨w.heap.size + 1, 0, none⟩), .pointer (some ⟨p, 0, none⟩), t6, t7, t8, t9, t10, t11, t12, t13, t14, t15, t16, t17, t18, t19, t20, t21, t22, t23, t24, t25, t26, t27, t28, t29, t30, t31, t32, t33, t34, t35, t36, t37, t38, t39, t40, t41, t42, t43, t44, t45, t46, t47, t48, t49, t50, t51, t52, .pointer (some ⟨p, 7, none⟩), u, .int .i64 (z : Int), .slice (some ⟨W1.heap.size, 0, none⟩) 1 1, .slice (some ⟨g, 0, none⟩) (l.length + 1) cap, t58, t59, t60, t61, t62, t63, t64, t65, t66, t67, t68, t69, t70, t71, t72, t73], d⟩ W3
      refine wpAny_take (i := 5) (v := .pointer (some ⟨p, 7, none⟩)) rfl (by kernel_rfl) (by kernel_rfl) (by kernel_rfl) (fun _ _ _ q => hQ _ _ _ _ _ q) (Or.inl ⟨by kernel_rfl, fun w => fa7 (t := 5) rfl rfl⟩) ?_
      show wpAny _ _ _ _ _ #[true, true, true, true, true, true, false] ⟨#[t0, t1, t2, t3, .pointer (some ⟨w.heap.size + 1, 0, none⟩), .pointer (some ⟨p, 0, none⟩), t6, t7, t8, t9, t10, t11, t12, t13, t14, t15, t16, t17, t18, t19, t20, t21, t22, t23, t24, t25, t26, t27, t28, t29, t30, t31, t32, t33, t34, t35, t36, t37, t38, t39, t40, t41, t42, t43, t44, t45, t46, t47, t48, t49, t50, t51, t52, .pointer (some ⟨p, 7, none⟩), u, .int .i64 (z : Int), .slice (some ⟨W1.heap.size, 0, none⟩) 1 1, .slice (some ⟨g, 0, none⟩) (l.length + 1) cap, .pointer (some ⟨p, 7, none⟩), t59, t60, t61, t62, t63, t64, t65, t66, t67, t68, t69, t70, t71, t72, t73], d⟩ W3
      refine wpAny_ready (rs := [6]) (by kernel_rfl) (by simp) (AllReady.cons rfl (fun K hK => ?_) AllReady.nil)
      rw [if_pos (by kernel_rfl)]
      unfold Oper.wp
      rw [st25 (W := W3) (t := 58) (s := 57) (E3.x.cell 7 _ rfl) (E3.x.free 7) rfl rfl rfl, Oper.upon_skip]
      have E4 := E3.put 7 (.slice (some ⟨g, 0, none⟩) (l.length + 1) cap) (by simp)
      have O4 := O3.setLow (Nat.lt_succ_self p) 7 (.slice (some ⟨g, 0, none⟩) (l.length + 1) cap)
      refine hK _ _ ?_
      clear hK K
      show wpAny _ _ _ _ _ #[true, true, true, true, true, true, true] ⟨#[t0, t1, t2, t3, .pointer (some ⟨w.heap.size + 1, 0, none⟩), .pointer (some ⟨p, 0, none⟩), t6, t7, t8, t9, t10, t11, t12, t13, t14, t15, t16, t17, t18, t19, t20, t21, t22, t23, t24, t25, t26, t27, t28, t29, t30, t31, t32, t33, t34, t35, t36, t37, t38, t39, t40, t41, t42, t43, t44, t45, t46, t47, t48, t49, t50, t51, t52, .pointer (some ⟨p, 7, none⟩), u, .int .i64 (z : Int), .slice (some ⟨W1.heap.size, 0, none⟩) 1 1, .slice (some ⟨g, 0, none⟩) (l.length + 1) cap, .pointer (some ⟨p, 7, none⟩), t59, t60, t61, t62, t63, t64, t65, t66, t67, t68, t69, t70, t71, t72, t73], d⟩ _
      refine wpAny_done (by kernel_rfl) ?_ _
      exact h _ _ _ _ _ _ _ _ _ E4 O4
    · skip
      rw [if_pos (by kernel_rfl)]
      unfold Oper.wp
      rw [bs1 (t := 55) rfl rfl, Oper.upon_value]
      have E2 := E1.below (below_alloc W1 (.cells #[.int .i64 (z : Int)] 3))
      have O2 := O1.below (below_alloc W1 (.cells #[.int .i64 (z : Int)] 3))
      refine hK _ _ ?_
      clear hK K
      show wpAny _ _ _ _ _ #[true, false, true, true, false, false, false] ⟨#[t0, t1, t2, t3, .pointer (some ⟨w.heap.size + 1, 0, none⟩), .pointer (some ⟨p, 0, none⟩), t6, t7, t8, t9, t10, t11, t12, t13, t14, t15, t16, t17, t18, t19, t20, t21, t22, t23, t24, t25, t26, t27, t28, t29, t30, t31, t32, t33, t34, t35, t36, t37, t38, t39, t40, t41, t42, t43, t44, t45, t46, t47, t48, t49, t50, t51, t52, .pointer (some ⟨p, 7, none⟩), t54, .int .i64 (z : Int), .slice (some ⟨W1.heap.size, 0, none⟩) 1 1, t57, t58, t59, t60, t61, t62, t63, t64, t65, t66, t67, t68, t69, t70, t71, t72, t73], d⟩ (W1.alloc (.cells #[.int .i64 (z : Int)] 3))
      refine wpAny_ready (rs := [1]) (by kernel_rfl) (by simp) (AllReady.cons rfl (fun K hK => ?_) AllReady.nil)
      rw [if_pos (by kernel_rfl)]
      unfold Oper.wp
      rw [ld25 (W := (W1.alloc (.cells #[.int .i64 (z : Int)] 3))) (t := 53) rfl rfl (E2.x.cell 7 _ rfl), Oper.upon_value]
      refine hK _ _ ?_
      clear hK K
      show wpAny _ _ _ _ _ #[true, true, true, true, false, false, false] ⟨#[t0, t1, t2, t3, .pointer (some ⟨w.heap.size + 1, 0, none⟩), .pointer (some ⟨p, 0, none⟩), t6, t7, t8, t9, t10, t11, t12, t13, t14, t15, t16, t17, t18, t19, t20, t21, t22, t23, t24, t25, t26, t27, t28, t29, t30, t31, t32, t33, t34, t35, t36, t37, t38, t39, t40, t41, t42, t43, t44, t45, t46, t47, t48, t49, t50, t51, t52, .pointer (some ⟨p, 7, none⟩), u, .int .i64 (z : Int), .slice (some ⟨W1.heap.size, 0, none⟩) 1 1, t57, t58, t59, t60, t61, t62, t63, t64, t65, t66, t67, t68, t69, t70, t71, t72, t73], d⟩ (W1.alloc (.cells #[.int .i64 (z : Int)] 3))
      refine wpAny_ready (rs := [4]) (by kernel_rfl) (by simp) (AllReady.cons rfl (fun K hK => ?_) AllReady.nil)
      rw [if_pos (by kernel_rfl)]
      obtain ⟨i0, hi, hz0, hz1, hz2⟩ := info_parts info3
      refine wp_append_lies _ (.tmp 54) (.tmp 56) 25 rfl (p + 1) 3 i0 (.int .i64 0) 1 8 Tryd.underlying25 hi hz0 hz1 hz2 rfl (by decide) u l.length (iV l) rfl O2.1 ⟨W1.heap.size, 0, none⟩ 1 1 [.int .i64 (z : Int)] rfl rfl (cell_one_new _ _ _) (fun y hy => by simp only [List.mem_singleton] at hy; subst hy; rfl) (by omega) (by unfold maxLen; omega) (by omega) O2.2 _ rfl ?_
      intro g cap W3 h1 h2 _ _
      have b3 := O2.grown h2
      have E3 := E2.up b3
      have O3 : OwnIB W3 (p + 1) (.slice (some ⟨g, 0, none⟩) (l.length + 1) cap) (l ++ [(z : Int)]) := ⟨by rw [List.length_append, iV_app]; exact h1, Nat.le_trans O2.2 h2.size⟩
      refine hK _ _ ?_
      clear hK K
      show wpAny _ _ _ _ _ #[true, true, true, true, true, false, false] ⟨#[t0, t1, t2, t3, .pointer (some ⟨w.heap.size + 1, 0, none⟩), .pointer (some ⟨p, 0, none⟩), t6, t7, t8, t9, t10, t11, t12, t13, t14, t15, t16, t17, t18, t19, t20, t21, t22, t23, t24, t25, t26, t27, t28, t29, t30, t31, t32, t33, t34, t35, t36, t37, t38, t39, t40, t41, t42, t43, t44, t45, t46, t47, t48, t49, t50, t51, t52, .pointer (some ⟨p, 7, none⟩), u, .int .i64 (z : Int), .slice (some ⟨W1.heap.size, 0, none⟩) 1 1, .slice (some ⟨g, 0, none⟩) (l.length + 1) cap, t58, t59, t60, t61, t62, t63, t64, t65, t66, t67, t68, t69, t70, t71, t72, t73], d⟩ W3
      refine wpAny_take (i := 5) (v := .pointer (some ⟨p, 7, none⟩)) rfl (by kernel_rfl) (by kernel_rfl) (by kernel_rfl) (fun _ _ _ q => hQ _ _ _ _ _ q) (Or.inl ⟨by kernel_rfl, fun w => fa7 (t := 5) rfl rfl⟩) ?_
      show wpAny _ _ _ _ _ #[true, true, true, true, true, true, false] ⟨#[t0, t1, t2, t3, .pointer (some ⟨w.heap.size + 1, 0, none⟩), .pointer (some ⟨p, 0, none⟩), t6, t7, t8, t9, t10, t11, t12, t13, t14, t15, t16, t17, t18, t19, t20, t21, t22, t23, t24, t25, t26, t27, t28, t29, t30, t31, t32, t33, t34, t35, t36, t37, t38, t39, t40, t41, t42, t43, t44, t45, t46, t47, t48, t49, t50, t51, t52, .pointer (some ⟨p, 7, none⟩), u, .int .i64 (z : Int), .slice (some ⟨W1.heap.size, 0, none⟩) 1 1, .slice (some ⟨g, 0, none⟩) (l.length + 1) cap, .pointer (some ⟨p, 7, none⟩), t59, t60, t61, t62, t63, t64, t65, t66, t67, t68, t69, t70, t71, t72, t73], d⟩ W3
      refine wpAny_ready (rs := [6]) (by kernel_rfl) (by simp) (AllReady.cons rfl (fun K hK => ?_) AllReady.nil)
      rw [if_pos (by kernel_rfl)]
      unfold Oper.wp
      rw [st25 (W := W3) (t := 58) (s := 57) (E3.x.cell 7 _ rfl) (E3.x.free 7) rfl rfl rfl, Oper.upon_skip]
      have E4 := E3.put 7 (.slice (some ⟨g, 0, none⟩) (l.length + 1) cap) (by simp)
      have O4 := O3.setLow (Nat.lt_succ_self p) 7 (.slice (some ⟨g, 0, none⟩) (l.length + 1) cap)
      refine hK _ _ ?_
      clear hK K
      show wpAny _ _ _ _ _ #[true, true, true, true, true, true, true] ⟨#[t0, t1, t2, t3, .pointer (some ⟨w.heap.size + 1, 0, none⟩), .pointer (some ⟨p, 0, none⟩), t6, t7, t8, t9, t10, t11, t12, t13, t14, t15, t16, t17, t18, t19, t20, t21, t22, t23, t24, t25, t26, t27, t28, t29, t30, t31, t32, t33, t34, t35, t36, t37, t38, t39, t40, t41, t42, t43, t44, t45, t46, t47, t48, t49, t50, t51, t52, .pointer (some ⟨p, 7, none⟩), u, .int .i64 (z : Int), .slice (some ⟨W1.heap.size, 0, none⟩) 1 1, .slice (some ⟨g, 0, none⟩) (l.length + 1) cap, .pointer (some ⟨p, 7, none⟩), t59, t60, t61, t62, t63, t64, t65, t66, t67, t68, t69, t70, t71, t72, t73], d⟩ _
      refine wpAny_done (by kernel_rfl) ?_ _
      exact h _ _ _ _ _ _ _ _ _ E4 O4
/-- The loop: k numbers are read. -/
def EoIn (w : World) (b : List UInt8) (q : Nat) (a0 a1 a2 a3 a4 a5 a6 : Value) (p m : Nat) (i : Value) (wr : World) : Prop :=
  ∃ k : Nat, k ≤ m ∧ i = .int .i64 (k : Int) ∧ ∃ u v, EoAt w b (q + 4 * k) [a0, a1, a2, a3, a4, a5, a6, u] v p wr ∧ OwnIB wr (p + 1) u (chunks k (b.drop q))
end Go.Proofs.YtlbekgcfafofdaaDoor
