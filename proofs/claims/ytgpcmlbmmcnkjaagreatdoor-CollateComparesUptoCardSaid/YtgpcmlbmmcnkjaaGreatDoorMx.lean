/- The answer's Span: its region that draws an order. -/
import Derived.Test.YtgpcmlbmmcnkjaaGreatDoorMe
namespace Go.Proofs.YtgpcmlbmmcnkjaaGreatDoor
open Go.RowKit
set_option maxRecDepth 100000

section
variable {o : Oper} {a : Act} {W : World} {t u x y : Nat}
theorem cl29 {v0 : Value} (ho : o.op = .call { callee := .value (.func 29), args := #[.tmp t, .const (.int .i64 1)], argTypes := #[24, 3] }) (h0 : a.tmps.getD t undef = v0) : (execOp a.eval o).run Tryz.prog W = .ok (.enter 29 #[v0, .int .i64 1]) W := by
  have h0' := gd h0
  have hc : a.eval (.const (.int .i64 1)) = .int .i64 1 := rfl
  have hf : a.eval (.func 29) = .func (.func 29) #[] #[] := rfl
  generalize a.eval = ρ at *
  simp [execOp, ho, h0', hc, hf, go_sem]
theorem cl32 {v0 v1 v2 v3 : Value} (ho : o.op = .call { callee := .value (.func 32), args := #[.tmp t, .tmp u, .tmp x, .tmp y], argTypes := #[9, 68, 3, 4] }) (h0 : a.tmps.getD t undef = v0) (h1 : a.tmps.getD u undef = v1) (h2 : a.tmps.getD x undef = v2) (h3 : a.tmps.getD y undef = v3) : (execOp a.eval o).run Tryz.prog W = .ok (.enter 32 #[v0, v1, v2, v3]) W := by
  have h0' := gd h0
  have h1' := gd h1
  have h2' := gd h2
  have h3' := gd h3
  have hf : a.eval (.func 32) = .func (.func 32) #[] #[] := rfl
  generalize a.eval = ρ at *
  simp [execOp, ho, h0', h1', h2', h3', hf, go_sem]
end
set_option maxHeartbeats 3200000 in
theorem m17_2 {Q : Exit → Act → World → Prop} {W : World} {g f m r : Nat} {bb : Bool} {s : ByteArray} {v : Value} {t1 t2 t3 t5 t6 t8 t9 t10 t11 t12 t13 t14 t15 t16 t17 t18 t19 t20 t21 t22 t23 t24 t25 t26 t27 t28 t29 t30 t31 t32 t33 t34 t35 t36 t37 t38 t39 t40 t41 t42 t43 t44 t45 t46 t47 t48 t49 t50 t51 t52 t53 t54 t55 t56 t57 t58 t59 t60 t61 t62 t63 t64 t65 t66 t67 t68 t69 t70 t71 t72 t73 t74 t75 t76 t77 t78 t79 t80 t81 t82 t83 t84 t85 t86 t87 t88 t89 t90 t91 t92 t93 t94 : Value} {d : List Deferred}
    (hQ : ∀ (ch : _) (a : Act) (dd : Tmp) (v : Value) (w : World), Q (.panic ch) (a.put (some dd) v) w → Q (.panic ch) a w)
    (k0 : W.drew.cell? ⟨g, 0, none⟩ = some (.int .i64 (f : Int)))
    (k4 : W.drew.cell? ⟨g, 4, none⟩ = some (.int .u16 (m : Int)))
    (HA : Calls Tryz.prog 29 #[.int .u16 (m : Int), .int .i64 1] W.drew (RetV W.drew (.bool bb)))
    (BE : Calls Tryz.prog 32 #[.string s, v, .int .i64 (f : Int), .bool bb] W.drew (RetS W.drew (.int .i64 (r : Int))))
    (h : ∀ (v13 v14 v15 v16 v17 v18 v19 v20 : Value), Q .normal ⟨#[.string s, t1, t2, t3, .pointer (some ⟨g, 0, none⟩), t5, t6, v, .int .i64 (r : Int), t9, t10, t11, t12, v13, v14, v15, v16, v17, v18, v19, v20, t21, t22, t23, t24, t25, t26, t27, t28, t29, t30, t31, t32, t33, t34, t35, t36, t37, t38, t39, t40, t41, t42, t43, t44, t45, t46, t47, t48, t49, t50, t51, t52, t53, t54, t55, t56, t57, t58, t59, t60, t61, t62, t63, t64, t65, t66, t67, t68, t69, t70, t71, t72, t73, t74, t75, t76, t77, t78, t79, t80, t81, t82, t83, t84, t85, t86, t87, t88, t89, t90, t91, t92, t93, t94], d⟩ W.drew) :
    (fstC (sndC (sndC (Tryz.f17.body.getD .skip)))).wp Tryz.prog Q ⟨#[.string s, t1, t2, t3, .pointer (some ⟨g, 0, none⟩), t5, t6, v, t8, t9, t10, t11, t12, t13, t14, t15, t16, t17, t18, t19, t20, t21, t22, t23, t24, t25, t26, t27, t28, t29, t30, t31, t32, t33, t34, t35, t36, t37, t38, t39, t40, t41, t42, t43, t44, t45, t46, t47, t48, t49, t50, t51, t52, t53, t54, t55, t56, t57, t58, t59, t60, t61, t62, t63, t64, t65, t66, t67, t68, t69, t70, t71, t72, t73, t74, t75, t76, t77, t78, t79, t80, t81, t82, t83, t84, t85, t86, t87, t88, t89, t90, t91, t92, t93, t94], d⟩ W := by
  show (Code.region 2 _ true).wp _ _ _ _
  refine wp_region_any (by kernel_rfl) ?_
  show wpAny _ _ _ _ _ _ _ W.drew
  generalize W.drew = W0 at *
  refine wpAny_take (i := 0) (v := .string s) rfl (by kernel_rfl) (by kernel_rfl) (by kernel_rfl) (fun _ _ _ q => hQ _ _ _ _ _ q) (Or.inl ⟨by kernel_rfl, fun w => mv (t := 0) (Or.inl rfl) rfl⟩) ?_
  show wpAny _ _ _ _ _ #[true, false, false, false, false, false, false, false, false] ⟨#[.string s, t1, t2, t3, .pointer (some ⟨g, 0, none⟩), t5, t6, v, t8, t9, t10, t11, t12, .string s, t14, t15, t16, t17, t18, t19, t20, t21, t22, t23, t24, t25, t26, t27, t28, t29, t30, t31, t32, t33, t34, t35, t36, t37, t38, t39, t40, t41, t42, t43, t44, t45, t46, t47, t48, t49, t50, t51, t52, t53, t54, t55, t56, t57, t58, t59, t60, t61, t62, t63, t64, t65, t66, t67, t68, t69, t70, t71, t72, t73, t74, t75, t76, t77, t78, t79, t80, t81, t82, t83, t84, t85, t86, t87, t88, t89, t90, t91, t92, t93, t94], d⟩ W0
  refine wpAny_take (i := 1) (v := v) rfl (by kernel_rfl) (by kernel_rfl) (by kernel_rfl) (fun _ _ _ q => hQ _ _ _ _ _ q) (Or.inl ⟨by kernel_rfl, fun w => mv (t := 7) (Or.inl rfl) rfl⟩) ?_
  show wpAny _ _ _ _ _ #[true, true, false, false, false, false, false, false, false] ⟨#[.string s, t1, t2, t3, .pointer (some ⟨g, 0, none⟩), t5, t6, v, t8, t9, t10, t11, t12, .string s, v, t15, t16, t17, t18, t19, t20, t21, t22, t23, t24, t25, t26, t27, t28, t29, t30, t31, t32, t33, t34, t35, t36, t37, t38, t39, t40, t41, t42, t43, t44, t45, t46, t47, t48, t49, t50, t51, t52, t53, t54, t55, t56, t57, t58, t59, t60, t61, t62, t63, t64, t65, t66, t67, t68, t69, t70, t71, t72, t73, t74, t75, t76, t77, t78, t79, t80, t81, t82, t83, t84, t85, t86, t87, t88, t89, t90, t91, t92, t93, t94], d⟩ W0
  refine wpAny_take (i := 2) (v := .pointer (some ⟨g, 0, none⟩)) rfl (by kernel_rfl) (by kernel_rfl) (by kernel_rfl) (fun _ _ _ q => hQ _ _ _ _ _ q) (Or.inl ⟨by kernel_rfl, fun w => fa35_0 (off := 0) (t := 4) rfl rfl⟩) ?_
  show wpAny _ _ _ _ _ #[true, true, true, false, false, false, false, false, false] ⟨#[.string s, t1, t2, t3, .pointer (some ⟨g, 0, none⟩), t5, t6, v, t8, t9, t10, t11, t12, .string s, v, .pointer (some ⟨g, 0, none⟩), t16, t17, t18, t19, t20, t21, t22, t23, t24, t25, t26, t27, t28, t29, t30, t31, t32, t33, t34, t35, t36, t37, t38, t39, t40, t41, t42, t43, t44, t45, t46, t47, t48, t49, t50, t51, t52, t53, t54, t55, t56, t57, t58, t59, t60, t61, t62, t63, t64, t65, t66, t67, t68, t69, t70, t71, t72, t73, t74, t75, t76, t77, t78, t79, t80, t81, t82, t83, t84, t85, t86, t87, t88, t89, t90, t91, t92, t93, t94], d⟩ W0
  refine wpAny_take (i := 4) (v := .pointer (some ⟨g, 4, none⟩)) rfl (by kernel_rfl) (by kernel_rfl) (by kernel_rfl) (fun _ _ _ q => hQ _ _ _ _ _ q) (Or.inl ⟨by kernel_rfl, fun w => fa35_4 (off := 0) (t := 4) rfl rfl⟩) ?_
  show wpAny _ _ _ _ _ #[true, true, true, false, true, false, false, false, false] ⟨#[.string s, t1, t2, t3, .pointer (some ⟨g, 0, none⟩), t5, t6, v, t8, t9, t10, t11, t12, .string s, v, .pointer (some ⟨g, 0, none⟩), t16, .pointer (some ⟨g, 4, none⟩), t18, t19, t20, t21, t22, t23, t24, t25, t26, t27, t28, t29, t30, t31, t32, t33, t34, t35, t36, t37, t38, t39, t40, t41, t42, t43, t44, t45, t46, t47, t48, t49, t50, t51, t52, t53, t54, t55, t56, t57, t58, t59, t60, t61, t62, t63, t64, t65, t66, t67, t68, t69, t70, t71, t72, t73, t74, t75, t76, t77, t78, t79, t80, t81, t82, t83, t84, t85, t86, t87, t88, t89, t90, t91, t92, t93, t94], d⟩ W0
  refine wpAny_ready (rs := [3, 5]) (by kernel_rfl) (by simp) (AllReady.cons rfl (fun K hK => ?_) (AllReady.cons rfl (fun K hK => ?_) AllReady.nil))
  · skip
    rw [if_pos (by kernel_rfl)]
    unfold Oper.wp
    rw [ld3 (W := W0) (t := 15) rfl rfl k0, Oper.upon_value]
    refine hK _ _ ?_
    clear hK K
    show wpAny _ _ _ _ _ #[true, true, true, true, true, false, false, false, false] ⟨#[.string s, t1, t2, t3, .pointer (some ⟨g, 0, none⟩), t5, t6, v, t8, t9, t10, t11, t12, .string s, v, .pointer (some ⟨g, 0, none⟩), .int .i64 (f : Int), .pointer (some ⟨g, 4, none⟩), t18, t19, t20, t21, t22, t23, t24, t25, t26, t27, t28, t29, t30, t31, t32, t33, t34, t35, t36, t37, t38, t39, t40, t41, t42, t43, t44, t45, t46, t47, t48, t49, t50, t51, t52, t53, t54, t55, t56, t57, t58, t59, t60, t61, t62, t63, t64, t65, t66, t67, t68, t69, t70, t71, t72, t73, t74, t75, t76, t77, t78, t79, t80, t81, t82, t83, t84, t85, t86, t87, t88, t89, t90, t91, t92, t93, t94], d⟩ W0
    refine wpAny_ready (rs := [5]) (by kernel_rfl) (by simp) (AllReady.cons rfl (fun K hK => ?_) AllReady.nil)
    rw [if_pos (by kernel_rfl)]
    unfold Oper.wp
    rw [ld24 (W := W0) (t := 17) rfl rfl k4, Oper.upon_value]
    refine hK _ _ ?_
    clear hK K
    show wpAny _ _ _ _ _ #[true, true, true, true, true, true, false, false, false] ⟨#[.string s, t1, t2, t3, .pointer (some ⟨g, 0, none⟩), t5, t6, v, t8, t9, t10, t11, t12, .string s, v, .pointer (some ⟨g, 0, none⟩), .int .i64 (f : Int), .pointer (some ⟨g, 4, none⟩), .int .u16 (m : Int), t19, t20, t21, t22, t23, t24, t25, t26, t27, t28, t29, t30, t31, t32, t33, t34, t35, t36, t37, t38, t39, t40, t41, t42, t43, t44, t45, t46, t47, t48, t49, t50, t51, t52, t53, t54, t55, t56, t57, t58, t59, t60, t61, t62, t63, t64, t65, t66, t67, t68, t69, t70, t71, t72, t73, t74, t75, t76, t77, t78, t79, t80, t81, t82, t83, t84, t85, t86, t87, t88, t89, t90, t91, t92, t93, t94], d⟩ W0
    refine wpAny_ready (rs := [6]) (by kernel_rfl) (by simp) (AllReady.cons rfl (fun K hK => ?_) AllReady.nil)
    rw [if_pos (by kernel_rfl)]
    unfold Oper.wp
    rw [cl29 (t := 18) rfl rfl, Oper.upon_enter]
    refine (HA).mono ?_
    rintro e w9 ⟨rfl, rfl⟩
    refine hK _ _ ?_
    clear hK K
    show wpAny _ _ _ _ _ #[true, true, true, true, true, true, true, false, false] ⟨#[.string s, t1, t2, t3, .pointer (some ⟨g, 0, none⟩), t5, t6, v, t8, t9, t10, t11, t12, .string s, v, .pointer (some ⟨g, 0, none⟩), .int .i64 (f : Int), .pointer (some ⟨g, 4, none⟩), .int .u16 (m : Int), .bool bb, t20, t21, t22, t23, t24, t25, t26, t27, t28, t29, t30, t31, t32, t33, t34, t35, t36, t37, t38, t39, t40, t41, t42, t43, t44, t45, t46, t47, t48, t49, t50, t51, t52, t53, t54, t55, t56, t57, t58, t59, t60, t61, t62, t63, t64, t65, t66, t67, t68, t69, t70, t71, t72, t73, t74, t75, t76, t77, t78, t79, t80, t81, t82, t83, t84, t85, t86, t87, t88, t89, t90, t91, t92, t93, t94], d⟩ W0
    refine wpAny_ready (rs := [7]) (by kernel_rfl) (by simp) (AllReady.cons rfl (fun K hK => ?_) AllReady.nil)
    rw [if_pos (by kernel_rfl)]
    unfold Oper.wp
    rw [cl32 (t := 13) (u := 14) (x := 16) (y := 19) rfl rfl rfl rfl rfl, Oper.upon_enter]
    refine (BE).mono ?_
    rintro e w9 ⟨rfl, rfl⟩
    refine hK _ _ ?_
    clear hK K
    show wpAny _ _ _ _ _ #[true, true, true, true, true, true, true, true, false] ⟨#[.string s, t1, t2, t3, .pointer (some ⟨g, 0, none⟩), t5, t6, v, t8, t9, t10, t11, t12, .string s, v, .pointer (some ⟨g, 0, none⟩), .int .i64 (f : Int), .pointer (some ⟨g, 4, none⟩), .int .u16 (m : Int), .bool bb, .int .i64 (r : Int), t21, t22, t23, t24, t25, t26, t27, t28, t29, t30, t31, t32, t33, t34, t35, t36, t37, t38, t39, t40, t41, t42, t43, t44, t45, t46, t47, t48, t49, t50, t51, t52, t53, t54, t55, t56, t57, t58, t59, t60, t61, t62, t63, t64, t65, t66, t67, t68, t69, t70, t71, t72, t73, t74, t75, t76, t77, t78, t79, t80, t81, t82, t83, t84, t85, t86, t87, t88, t89, t90, t91, t92, t93, t94], d⟩ W0
    refine wpAny_take (i := 8) (v := .int .i64 (r : Int)) rfl (by kernel_rfl) (by kernel_rfl) (by kernel_rfl) (fun _ _ _ q => hQ _ _ _ _ _ q) (Or.inl ⟨by kernel_rfl, fun w => mv (t := 20) (Or.inr rfl) rfl⟩) ?_
    show wpAny _ _ _ _ _ #[true, true, true, true, true, true, true, true, true] ⟨#[.string s, t1, t2, t3, .pointer (some ⟨g, 0, none⟩), t5, t6, v, .int .i64 (r : Int), t9, t10, t11, t12, .string s, v, .pointer (some ⟨g, 0, none⟩), .int .i64 (f : Int), .pointer (some ⟨g, 4, none⟩), .int .u16 (m : Int), .bool bb, .int .i64 (r : Int), t21, t22, t23, t24, t25, t26, t27, t28, t29, t30, t31, t32, t33, t34, t35, t36, t37, t38, t39, t40, t41, t42, t43, t44, t45, t46, t47, t48, t49, t50, t51, t52, t53, t54, t55, t56, t57, t58, t59, t60, t61, t62, t63, t64, t65, t66, t67, t68, t69, t70, t71, t72, t73, t74, t75, t76, t77, t78, t79, t80, t81, t82, t83, t84, t85, t86, t87, t88, t89, t90, t91, t92, t93, t94], d⟩ W0
    refine wpAny_done (by kernel_rfl) ?_ _
    exact h _ _ _ _ _ _ _ _
  · skip
    rw [if_pos (by kernel_rfl)]
    unfold Oper.wp
    rw [ld24 (W := W0) (t := 17) rfl rfl k4, Oper.upon_value]
    refine hK _ _ ?_
    clear hK K
    show wpAny _ _ _ _ _ #[true, true, true, false, true, true, false, false, false] ⟨#[.string s, t1, t2, t3, .pointer (some ⟨g, 0, none⟩), t5, t6, v, t8, t9, t10, t11, t12, .string s, v, .pointer (some ⟨g, 0, none⟩), t16, .pointer (some ⟨g, 4, none⟩), .int .u16 (m : Int), t19, t20, t21, t22, t23, t24, t25, t26, t27, t28, t29, t30, t31, t32, t33, t34, t35, t36, t37, t38, t39, t40, t41, t42, t43, t44, t45, t46, t47, t48, t49, t50, t51, t52, t53, t54, t55, t56, t57, t58, t59, t60, t61, t62, t63, t64, t65, t66, t67, t68, t69, t70, t71, t72, t73, t74, t75, t76, t77, t78, t79, t80, t81, t82, t83, t84, t85, t86, t87, t88, t89, t90, t91, t92, t93, t94], d⟩ W0
    refine wpAny_ready (rs := [3, 6]) (by kernel_rfl) (by simp) (AllReady.cons rfl (fun K hK => ?_) (AllReady.cons rfl (fun K hK => ?_) AllReady.nil))
    · skip
      rw [if_pos (by kernel_rfl)]
      unfold Oper.wp
      rw [ld3 (W := W0) (t := 15) rfl rfl k0, Oper.upon_value]
      refine hK _ _ ?_
      clear hK K
      show wpAny _ _ _ _ _ #[true, true, true, true, true, true, false, false, false] ⟨#[.string s, t1, t2, t3, .pointer (some ⟨g, 0, none⟩), t5, t6, v, t8, t9, t10, t11, t12, .string s, v, .pointer (some ⟨g, 0, none⟩), .int .i64 (f : Int), .pointer (some ⟨g, 4, none⟩), .int .u16 (m : Int), t19, t20, t21, t22, t23, t24, t25, t26, t27, t28, t29, t30, t31, t32, t33, t34, t35, t36, t37, t38, t39, t40, t41, t42, t43, t44, t45, t46, t47, t48, t49, t50, t51, t52, t53, t54, t55, t56, t57, t58, t59, t60, t61, t62, t63, t64, t65, t66, t67, t68, t69, t70, t71, t72, t73, t74, t75, t76, t77, t78, t79, t80, t81, t82, t83, t84, t85, t86, t87, t88, t89, t90, t91, t92, t93, t94], d⟩ W0
      refine wpAny_ready (rs := [6]) (by kernel_rfl) (by simp) (AllReady.cons rfl (fun K hK => ?_) AllReady.nil)
      rw [if_pos (by kernel_rfl)]
      unfold Oper.wp
      rw [cl29 (t := 18) rfl rfl, Oper.upon_enter]
      refine (HA).mono ?_
      rintro e w9 ⟨rfl, rfl⟩
      refine hK _ _ ?_
      clear hK K
      show wpAny _ _ _ _ _ #[true, true, true, true, true, true, true, false, false] ⟨#[.string s, t1, t2, t3, .pointer (some ⟨g, 0, none⟩), t5, t6, v, t8, t9, t10, t11, t12, .string s, v, .pointer (some ⟨g, 0, none⟩), .int .i64 (f : Int), .pointer (some ⟨g, 4, none⟩), .int .u16 (m : Int), .bool bb, t20, t21, t22, t23, t24, t25, t26, t27, t28, t29, t30, t31, t32, t33, t34, t35, t36, t37, t38, t39, t40, t41, t42, t43, t44, t45, t46, t47, t48, t49, t50, t51, t52, t53, t54, t55, t56, t57, t58, t59, t60, t61, t62, t63, t64, t65, t66, t67, t68, t69, t70, t71, t72, t73, t74, t75, t76, t77, t78, t79, t80, t81, t82, t83, t84, t85, t86, t87, t88, t89, t90, t91, t92, t93, t94], d⟩ W0
      refine wpAny_ready (rs := [7]) (by kernel_rfl) (by simp) (AllReady.cons rfl (fun K hK => ?_) AllReady.nil)
      rw [if_pos (by kernel_rfl)]
      unfold Oper.wp
      rw [cl32 (t := 13) (u := 14) (x := 16) (y := 19) rfl rfl rfl rfl rfl, Oper.upon_enter]
      refine (BE).mono ?_
      rintro e w9 ⟨rfl, rfl⟩
      refine hK _ _ ?_
      clear hK K
      show wpAny _ _ _ _ _ #[true, true, true, true, true, true, true, true, false] ⟨#[.string s, t1, t2, t3, .pointer (some ⟨g, 0, none⟩), t5, t6, v, t8, t9, t10, t11, t12, .string s, v, .pointer (some ⟨g, 0, none⟩), .int .i64 (f : Int), .pointer (some ⟨g, 4, none⟩), .int .u16 (m : Int), .bool bb, .int .i64 (r : Int), t21, t22, t23, t24, t25, t26, t27, t28, t29, t30, t31, t32, t33, t34, t35, t36, t37, t38, t39, t40, t41, t42, t43, t44, t45, t46, t47, t48, t49, t50, t51, t52, t53, t54, t55, t56, t57, t58, t59, t60, t61, t62, t63, t64, t65, t66, t67, t68, t69, t70, t71, t72, t73, t74, t75, t76, t77, t78, t79, t80, t81, t82, t83, t84, t85, t86, t87, t88, t89, t90, t91, t92, t93, t94], d⟩ W0
      refine wpAny_take (i := 8) (v := .int .i64 (r : Int)) rfl (by kernel_rfl) (by kernel_rfl) (by kernel_rfl) (fun _ _ _ q => hQ _ _ _ _ _ q) (Or.inl ⟨by kernel_rfl, fun w => mv (t := 20) (Or.inr rfl) rfl⟩) ?_
      show wpAny _ _ _ _ _ #[true, true, true, true, true, true, true, true, true] ⟨#[.string s, t1, t2, t3, .pointer (some ⟨g, 0, none⟩), t5, t6, v, .int .i64 (r : Int), t9, t10, t11, t12, .string s, v, .pointer (some ⟨g, 0, none⟩), .int .i64 (f : Int), .pointer (some ⟨g, 4, none⟩), .int .u16 (m : Int), .bool bb, .int .i64 (r : Int), t21, t22, t23, t24, t25, t26, t27, t28, t29, t30, t31, t32, t33, t34, t35, t36, t37, t38, t39, t40, t41, t42, t43, t44, t45, t46, t47, t48, t49, t50, t51, t52, t53, t54, t55, t56, t57, t58, t59, t60, t61, t62, t63, t64, t65, t66, t67, t68, t69, t70, t71, t72, t73, t74, t75, t76, t77, t78, t79, t80, t81, t82, t83, t84, t85, t86, t87, t88, t89, t90, t91, t92, t93, t94], d⟩ W0
      refine wpAny_done (by kernel_rfl) ?_ _
      exact h _ _ _ _ _ _ _ _
    · skip
      rw [if_pos (by kernel_rfl)]
      unfold Oper.wp
      rw [cl29 (t := 18) rfl rfl, Oper.upon_enter]
      refine (HA).mono ?_
      rintro e w9 ⟨rfl, rfl⟩
      refine hK _ _ ?_
      clear hK K
      show wpAny _ _ _ _ _ #[true, true, true, false, true, true, true, false, false] ⟨#[.string s, t1, t2, t3, .pointer (some ⟨g, 0, none⟩), t5, t6, v, t8, t9, t10, t11, t12, .string s, v, .pointer (some ⟨g, 0, none⟩), t16, .pointer (some ⟨g, 4, none⟩), .int .u16 (m : Int), .bool bb, t20, t21, t22, t23, t24, t25, t26, t27, t28, t29, t30, t31, t32, t33, t34, t35, t36, t37, t38, t39, t40, t41, t42, t43, t44, t45, t46, t47, t48, t49, t50, t51, t52, t53, t54, t55, t56, t57, t58, t59, t60, t61, t62, t63, t64, t65, t66, t67, t68, t69, t70, t71, t72, t73, t74, t75, t76, t77, t78, t79, t80, t81, t82, t83, t84, t85, t86, t87, t88, t89, t90, t91, t92, t93, t94], d⟩ W0
      refine wpAny_ready (rs := [3]) (by kernel_rfl) (by simp) (AllReady.cons rfl (fun K hK => ?_) AllReady.nil)
      rw [if_pos (by kernel_rfl)]
      unfold Oper.wp
      rw [ld3 (W := W0) (t := 15) rfl rfl k0, Oper.upon_value]
      refine hK _ _ ?_
      clear hK K
      show wpAny _ _ _ _ _ #[true, true, true, true, true, true, true, false, false] ⟨#[.string s, t1, t2, t3, .pointer (some ⟨g, 0, none⟩), t5, t6, v, t8, t9, t10, t11, t12, .string s, v, .pointer (some ⟨g, 0, none⟩), .int .i64 (f : Int), .pointer (some ⟨g, 4, none⟩), .int .u16 (m : Int), .bool bb, t20, t21, t22, t23, t24, t25, t26, t27, t28, t29, t30, t31, t32, t33, t34, t35, t36, t37, t38, t39, t40, t41, t42, t43, t44, t45, t46, t47, t48, t49, t50, t51, t52, t53, t54, t55, t56, t57, t58, t59, t60, t61, t62, t63, t64, t65, t66, t67, t68, t69, t70, t71, t72, t73, t74, t75, t76, t77, t78, t79, t80, t81, t82, t83, t84, t85, t86, t87, t88, t89, t90, t91, t92, t93, t94], d⟩ W0
      refine wpAny_ready (rs := [7]) (by kernel_rfl) (by simp) (AllReady.cons rfl (fun K hK => ?_) AllReady.nil)
      rw [if_pos (by kernel_rfl)]
      unfold Oper.wp
      rw [cl32 (t := 13) (u := 14) (x := 16) (y := 19) rfl rfl rfl rfl rfl, Oper.upon_enter]
      refine (BE).mono ?_
      rintro e w9 ⟨rfl, rfl⟩
      refine hK _ _ ?_
      clear hK K
      show wpAny _ _ _ _ _ #[true, true, true, true, true, true, true, true, false] ⟨#[.string s, t1, t2, t3, .pointer (some ⟨g, 0, none⟩), t5, t6, v, t8, t9, t10, t11, t12, .string s, v, .pointer (some ⟨g, 0, none⟩), .int .i64 (f : Int), .pointer (some ⟨g, 4, none⟩), .int .u16 (m : Int), .bool bb, .int .i64 (r : Int), t21, t22, t23, t24, t25, t26, t27, t28, t29, t30, t31, t32, t33, t34, t35, t36, t37, t38, t39, t40, t41, t42, t43, t44, t45, t46, t47, t48, t49, t50, t51, t52, t53, t54, t55, t56, t57, t58, t59, t60, t61, t62, t63, t64, t65, t66, t67, t68, t69, t70, t71, t72, t73, t74, t75, t76, t77, t78, t79, t80, t81, t82, t83, t84, t85, t86, t87, t88, t89, t90, t91, t92, t93, t94], d⟩ W0
      refine wpAny_take (i := 8) (v := .int .i64 (r : Int)) rfl (by kernel_rfl) (by kernel_rfl) (by kernel_rfl) (fun _ _ _ q => hQ _ _ _ _ _ q) (Or.inl ⟨by kernel_rfl, fun w => mv (t := 20) (Or.inr rfl) rfl⟩) ?_
      show wpAny _ _ _ _ _ #[true, true, true, true, true, true, true, true, true] ⟨#[.string s, t1, t2, t3, .pointer (some ⟨g, 0, none⟩), t5, t6, v, .int .i64 (r : Int), t9, t10, t11, t12, .string s, v, .pointer (some ⟨g, 0, none⟩), .int .i64 (f : Int), .pointer (some ⟨g, 4, none⟩), .int .u16 (m : Int), .bool bb, .int .i64 (r : Int), t21, t22, t23, t24, t25, t26, t27, t28, t29, t30, t31, t32, t33, t34, t35, t36, t37, t38, t39, t40, t41, t42, t43, t44, t45, t46, t47, t48, t49, t50, t51, t52, t53, t54, t55, t56, t57, t58, t59, t60, t61, t62, t63, t64, t65, t66, t67, t68, t69, t70, t71, t72, t73, t74, t75, t76, t77, t78, t79, t80, t81, t82, t83, t84, t85, t86, t87, t88, t89, t90, t91, t92, t93, t94], d⟩ W0
      refine wpAny_done (by kernel_rfl) ?_ _
      exact h _ _ _ _ _ _ _ _
end Go.Proofs.YtgpcmlbmmcnkjaaGreatDoor
