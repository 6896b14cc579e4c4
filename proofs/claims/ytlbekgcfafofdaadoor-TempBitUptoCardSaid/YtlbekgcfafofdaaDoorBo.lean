/- Bodies of entries. -/
import Derived.Test.YtlbekgcfafofdaaDoorLy
namespace Go.Proofs.YtlbekgcfafofdaaDoor
open Go.RowKit
set_option maxRecDepth 100000

theorem OwnB.drew {w : World} {B : Nat} {v : Value} {l : List UInt8} (h : OwnB w B v l) : OwnB w.drew B v l := h
theorem OwnB.lit (w : World) (B : Nat) (l : List UInt8) (hB : B ≤ w.heap.size) (hl : l.length ≤ 140737488355328) : OwnB (w.alloc (.cells (byV l).toArray 5)) B (.slice (some ⟨w.heap.size, 0, none⟩) l.length l.length) l :=
  ⟨by have := World.ownsRow_lit (base := B) (e := 5) (size := 1) w (byV l).toArray l.length hB (by unfold maxLen; omega) (by simp [byV]); simpa using this, by simp; omega⟩
/-- A body under way: the entry's box, and what has been laid. -/
def BoIn (w : World) (cs : List Value) (v : Value) (l : List UInt8) (wr : World) : Prop := CellsAt wr w.heap.size cs ∧ OwnB wr (w.heap.size + 1) v l ∧ Below w.heap.size w wr
theorem BoIn.step {w : World} {cs : List Value} {v v' : Value} {l l' : List UInt8} {wr w' : World} (h : BoIn w cs v l wr) (o : OwnB w' (w.heap.size + 1) v' l') (b : Below (w.heap.size + 1) wr w') : BoIn w cs v' l' w' :=
  ⟨h.1.keep b (Nat.lt_succ_self _), o, h.2.2.trans (b.mono (Nat.le_succ _))⟩
theorem BoIn.drew {w : World} {cs : List Value} {v : Value} {l : List UInt8} {wr : World} (h : BoIn w cs v l wr) : BoIn w cs v l wr.drew :=
  ⟨h.1.step (below_drewN wr 1), h.2.1.drew, h.2.2.trans (bdrewB (Below.refl _ _) 1)⟩
theorem BoIn.first {w : World} {cs : List Value} {wx : World} {x : Int} {c : UInt8} (h : CellsAt wx w.heap.size cs) (b : Below w.heap.size w wx) (hx : x = (c.toNat : Int)) : BoIn w cs (.slice (some ⟨wx.heap.size, 0, none⟩) 1 1) [c] (wx.alloc (.cells #[.int .u8 x] 5)).drew := by
  subst hx
  have hlt := h.lt
  refine ⟨(h.alloc _).step (below_drewN _ 1), (OwnB.lit wx (w.heap.size + 1) [c] hlt (by simp)).drew, ?_⟩
  exact (b.trans ((below_alloc wx _).mono b.size)).trans (bdrewB (Below.refl _ _) 1)
theorem OwnB.base {w : World} {B B' : Nat} {v : Value} {l : List UInt8} (h : OwnB w B v l) (hB : B' ≤ B) : OwnB w B' v l := by
  refine ⟨⟨h.1.1, ?_⟩, Nat.le_trans hB h.2⟩
  rcases h.1.2 with hn | ⟨g, cap, cur, hv, hb, hgg, rest⟩
  · exact .inl hn
  · exact .inr ⟨g, cap, cur, hv, Nat.le_trans hB hb, hgg, rest⟩
theorem BoIn.ret {w : World} {cs : List Value} {v : Value} {l : List UInt8} {wr : World} (h : BoIn w cs v l wr) : RetOwn w.heap.size w l (.returned v) wr :=
  ⟨v, rfl, h.2.1.base (Nat.le_succ _), h.2.2, KeepB.below h.2.2⟩
theorem len_be {l : List UInt8} {m k n : Nat} (h : l.length ≤ m) : (l ++ be k n).length ≤ m + k := by rw [List.length_append, be_len]; omega
def InRel (w : World) (cs : List Value) (L : List UInt8) (inn : List Int) (v i : Value) (wr : World) : Prop := ∃ j : Nat, j ≤ inn.length ∧ i = .int .i64 j ∧ BoIn w cs v (L ++ bodyIn (inn.take j)) wr
/-- A text is appended at a step of a region that draws its order. -/
theorem step_apps {w : World} {ops : Array Oper} {o : Oper} {a : Act} {K : Act → World → Prop} {Q : Exit → Act → World → Prop} {E : Prop} (hgd : o.guard = none) (s x : Operand)
    (ho : o.op = .call { callee := .builtin .append, args := #[s, x], argTypes := #[29, 9] })
    (B : Nat) (v : Value) (l : List UInt8) (hs : a.eval s = v) (hown : OwnB w B v l) (t : ByteArray)
    (hx : a.eval x = .string t) (hlen : l.length + t.size ≤ 140737488355328)
    (h : ∀ v' w', OwnB w' B v' (l ++ t.data.toList) → Below B w w' → KeepB w w' → K (a.put o.dst v') w') :
    if Region.wanted o (yielded ops a.tmps) = true then Oper.wp Tryd.prog o a w K Q else E := by
  have hw : Region.wanted o (yielded ops a.tmps) = true := by simp [Region.wanted, hgd]
  rw [if_pos hw]
  obtain ⟨i0, hi, hz0, hz1, hz2⟩ := info_parts info5
  have hB := hown.2
  obtain ⟨v', w', hr, h2, h3, h4⟩ := Lib.run_append_own_string (P := Tryd.prog) w B 29 9 o.type 5 i0 Tryd.underlying29 Tryd.underlying9 hi hz0 hz1 hz2 v l.length (byV l) hown.1 t (by unfold maxLen; omega) (by omega) hB
  unfold Oper.wp execOp
  simp only [ho, resolve, invoke, builtin, Sem.run_bind, Sem.run_pure, Result.andThen_ok, List.map_toArray, List.map_cons, List.map_nil, hs, hx, hr]
  have hsz := h3.size
  refine h v' w' ⟨?_, Nat.le_trans hB hsz⟩ (hown.grown h3) (hown.keeps h3)
  rw [List.length_append, byV_app, ← Lib.size_eq]; exact h2
set_option maxHeartbeats 3200000 in
theorem body1_ok (w : World) (pr : Nat) (hpr : pr < 18446744073709551616) (a : Option Addr) (c : Nat) (T : Tabs w) (R : List UInt8) (hR : R = [1] ++ be 8 pr) : Calls Tryd.prog 21 #[.agg #[.int .u8 1, .int .u64 (pr : Int), .string ⟨#[]⟩, .int .i64 0, .int .i64 0, .int .i64 0, .int .u32 0, .slice a 0 c]] w (RetOwn w.heap.size w R) := by
  have HR := Lib.hid hR
  clear hR
  have EB := Lib.hid (show CellsAt (w.alloc (.cells #[.int .u8 1, .int .u64 (pr : Int), .string ⟨#[]⟩, .int .i64 0, .int .i64 0, .int .i64 0, .int .u32 0, .slice a 0 c] 27)) w.heap.size [.int .u8 1, .int .u64 (pr : Int), .string ⟨#[]⟩, .int .i64 0, .int .i64 0, .int .i64 0, .int .u32 0, .slice a 0 c] from CellsAt.new w _ 27)
  have BE := Lib.hid (show Below w.heap.size w (w.alloc (.cells #[.int .u8 1, .int .u64 (pr : Int), .string ⟨#[]⟩, .int .i64 0, .int .i64 0, .int .i64 0, .int .u32 0, .slice a 0 c] 27)) from below_alloc w _)
  have cu := ((T.below BE.out).use 1 (by decide)).trans (show some (Value.int .u8 ((usesN 1 : Nat) : Int)) = some (.int .u8 1) from rfl)
  have U1 := Lib.hid (fun W => show Calls Tryd.prog 32 #[.int .u8 1, .int .u8 1] W (Same W (.bool true)) from has_ok 1 1 (by decide) (by decide) W)
  have U2 := Lib.hid (fun W => show Calls Tryd.prog 32 #[.int .u8 1, .int .u8 2] W (Same W (.bool false)) from has_ok 1 2 (by decide) (by decide) W)
  have U4 := Lib.hid (fun W => show Calls Tryd.prog 32 #[.int .u8 1, .int .u8 4] W (Same W (.bool false)) from has_ok 1 4 (by decide) (by decide) W)
  have U8 := Lib.hid (fun W => show Calls Tryd.prog 32 #[.int .u8 1, .int .u8 8] W (Same W (.bool false)) from has_ok 1 8 (by decide) (by decide) W)
  have U16 := Lib.hid (fun W => show Calls Tryd.prog 32 #[.int .u8 1, .int .u8 16] W (Same W (.bool false)) from has_ok 1 16 (by decide) (by decide) W)
  have U32 := Lib.hid (fun W => show Calls Tryd.prog 32 #[.int .u8 1, .int .u8 32] W (Same W (.bool false)) from has_ok 1 32 (by decide) (by decide) W)
  have U64 := Lib.hid (fun W => show Calls Tryd.prog 32 #[.int .u8 1, .int .u8 64] W (Same W (.bool false)) from has_ok 1 64 (by decide) (by decide) W)
  clear T
  go_enter Tryd.func21, Tryd.ntmps21
  go_upto_region 1 with fail
  generalize (w.alloc (.cells #[.int .u8 1, .int .u64 (pr : Int), .string ⟨#[]⟩, .int .i64 0, .int .i64 0, .int .i64 0, .int .u32 0, .slice a 0 c] 27)) = wx at *
  have c0 := EB.out.cell 0 _ rfl
  go_region_held3 (fun W => W.cell? ⟨w.heap.size, 0, none⟩ = some (.int .u8 1) ∧ W.cell? ⟨0, 1, none⟩ = some (.int .u8 1)) (go_keep) (fail)
  have BO := Lib.hid (BoIn.first (x := 1) (c := 1) EB.out BE.out rfl)
  clear EB BE c0 cu
  generalize (wx.alloc (.cells #[.int .u8 1] 5)).drew = w0 at *
  generalize hv0 : (Value.slice (some ⟨wx.heap.size, 0, none⟩) 1 1) = v0 at *
  clear hv0
  have hl0 : ([1] : List UInt8).length ≤ 1 := by decide
  go_wp2_with fail
  refine (U1.out w0).mono ?_
  rintro e w' ⟨rfl, rfl⟩
  have cc := BO.out.1.cell 1 _ rfl
  go_wp2_with fail
  refine (lay_ok (w.heap.size + 1) v0 _ pr 8 (by omega) (by decide) w0 BO.out.2.1 (by omega)).mono ?_
  rintro e w1 ⟨v1, rfl, q1, q2, q3⟩
  have hl1 := len_be (k := 8) (n := pr) hl0
  have BO1 := Lib.hid (BO.out.step q1 q2)
  clear q1 q2 q3 cc BO hl0
  obtain ⟨L1, hL1⟩ : ∃ L, L = ([1] ++ be 8 pr) := ⟨_, rfl⟩
  rw [← hL1] at BO1 hl1
  have HL1 := Lib.hid hL1
  clear hL1
  go_wp2_with fail
  refine (U2.out w1).mono ?_
  rintro e w' ⟨rfl, rfl⟩
  go_wp2_with fail
  refine (U4.out w1).mono ?_
  rintro e w' ⟨rfl, rfl⟩
  go_wp2_with fail
  refine (U8.out w1).mono ?_
  rintro e w' ⟨rfl, rfl⟩
  go_wp2_with fail
  refine (U16.out w1).mono ?_
  rintro e w' ⟨rfl, rfl⟩
  go_wp2_with fail
  refine (U32.out w1).mono ?_
  rintro e w' ⟨rfl, rfl⟩
  go_wp2_with fail
  refine (U64.out w1).mono ?_
  rintro e w' ⟨rfl, rfl⟩
  go_wp2_with fail
  go_ret
  have RT := BO1.out.ret
  rw [show R = L1 from by rw [HR.out, HL1.out]]
  exact RT
set_option maxHeartbeats 3200000 in
theorem body2_ok (w : World) (s : ByteArray) (hs1 : 1 ≤ s.size) (hs2 : s.size ≤ 64) (a : Option Addr) (c : Nat) (T : Tabs w) (R : List UInt8) (hR : R = [2] ++ be 1 s.size ++ s.data.toList) : Calls Tryd.prog 21 #[.agg #[.int .u8 2, .int .u64 0, .string s, .int .i64 0, .int .i64 0, .int .i64 0, .int .u32 0, .slice a 0 c]] w (RetOwn w.heap.size w R) := by
  have HR := Lib.hid hR
  clear hR
  have EB := Lib.hid (show CellsAt (w.alloc (.cells #[.int .u8 2, .int .u64 0, .string s, .int .i64 0, .int .i64 0, .int .i64 0, .int .u32 0, .slice a 0 c] 27)) w.heap.size [.int .u8 2, .int .u64 0, .string s, .int .i64 0, .int .i64 0, .int .i64 0, .int .u32 0, .slice a 0 c] from CellsAt.new w _ 27)
  have BE := Lib.hid (show Below w.heap.size w (w.alloc (.cells #[.int .u8 2, .int .u64 0, .string s, .int .i64 0, .int .i64 0, .int .i64 0, .int .u32 0, .slice a 0 c] 27)) from below_alloc w _)
  have cu := ((T.below BE.out).use 2 (by decide)).trans (show some (Value.int .u8 ((usesN 2 : Nat) : Int)) = some (.int .u8 2) from rfl)
  have U1 := Lib.hid (fun W => show Calls Tryd.prog 32 #[.int .u8 2, .int .u8 1] W (Same W (.bool false)) from has_ok 2 1 (by decide) (by decide) W)
  have U2 := Lib.hid (fun W => show Calls Tryd.prog 32 #[.int .u8 2, .int .u8 2] W (Same W (.bool true)) from has_ok 2 2 (by decide) (by decide) W)
  have U4 := Lib.hid (fun W => show Calls Tryd.prog 32 #[.int .u8 2, .int .u8 4] W (Same W (.bool false)) from has_ok 2 4 (by decide) (by decide) W)
  have U8 := Lib.hid (fun W => show Calls Tryd.prog 32 #[.int .u8 2, .int .u8 8] W (Same W (.bool false)) from has_ok 2 8 (by decide) (by decide) W)
  have U16 := Lib.hid (fun W => show Calls Tryd.prog 32 #[.int .u8 2, .int .u8 16] W (Same W (.bool false)) from has_ok 2 16 (by decide) (by decide) W)
  have U32 := Lib.hid (fun W => show Calls Tryd.prog 32 #[.int .u8 2, .int .u8 32] W (Same W (.bool false)) from has_ok 2 32 (by decide) (by decide) W)
  have U64 := Lib.hid (fun W => show Calls Tryd.prog 32 #[.int .u8 2, .int .u8 64] W (Same W (.bool false)) from has_ok 2 64 (by decide) (by decide) W)
  clear T
  have s64 : (s.size : Int) ≤ 64 := by omega
  go_enter Tryd.func21, Tryd.ntmps21
  go_upto_region 1 with fail
  generalize (w.alloc (.cells #[.int .u8 2, .int .u64 0, .string s, .int .i64 0, .int .i64 0, .int .i64 0, .int .u32 0, .slice a 0 c] 27)) = wx at *
  have c0 := EB.out.cell 0 _ rfl
  go_region_held3 (fun W => W.cell? ⟨w.heap.size, 0, none⟩ = some (.int .u8 2) ∧ W.cell? ⟨0, 2, none⟩ = some (.int .u8 2)) (go_keep) (fail)
  have BO := Lib.hid (BoIn.first (x := 2) (c := 2) EB.out BE.out rfl)
  clear EB BE c0 cu
  generalize (wx.alloc (.cells #[.int .u8 2] 5)).drew = w0 at *
  generalize hv0 : (Value.slice (some ⟨wx.heap.size, 0, none⟩) 1 1) = v0 at *
  clear hv0
  have hl0 : ([2] : List UInt8).length ≤ 1 := by decide
  go_wp2_with fail
  refine (U1.out w0).mono ?_
  rintro e w' ⟨rfl, rfl⟩
  go_wp2_with fail
  refine (U2.out w0).mono ?_
  rintro e w' ⟨rfl, rfl⟩
  go_upto_region 5 with fail
  have cc := BO.out.1.cell 2 _ rfl
  have LAY := Lib.hid (show Calls Tryd.prog 23 #[v0, .int .u64 (s.size : Int), .int .i64 1] w0.drew (RetOwn (w.heap.size + 1) w0.drew ([2] ++ be 1 s.size)) from lay_ok (w.heap.size + 1) v0 _ s.size 1 (by omega) (by decide) w0.drew BO.out.2.1.drew (by omega))
  have KP := Lib.hid (fun (W : World) (q : Below (w.heap.size + 1) w0.drew W) => ((bcell q).1 w.heap.size 2 (Nat.lt_succ_self _)).trans cc)
  have HLL := Lib.hid (show ([2] ++ be 1 s.size).length + s.size ≤ 140737488355328 by rw [List.length_append, be_len]; omega)
  have w64 : IntKind.u64.wrap (s.size : Int) = (s.size : Int) := by unfold IntKind.wrap; simp [IntKind.bits, IntKind.signed]; omega
  have DW := Lib.hid (BoIn.drew BO.out)
  go_region_held3 (fun W => W.cell? ⟨w.heap.size, 2, none⟩ = some (.string s))
    (first | go_keep | (exact KP.out _ (by assumption)) | (exact (bcell (by assumption)).1 w.heap.size 2 (Nat.lt_succ_self _) |>.trans (by assumption)))
    (first | (go_simp; go_at_call 23; (with_reducible refine LAY.out.mono ?_); rintro e wl ⟨vl, rfl, q1, q2, q3⟩) | (refine step_apps (by rfl) _ _ (by rfl) (w.heap.size + 1) vl ([2] ++ be 1 s.size) (by rfl) q1 s (by rfl) HLL.out ?_; intro va wa p1 p2 p3))
  have hl1 : ([2] ++ be 1 s.size ++ s.data.toList).length ≤ 66 := by have := len_be (k := 1) (n := s.size) hl0; rw [List.length_append, ← Lib.size_eq]; omega
  have BO1 := Lib.hid ((DW.out.step q1 q2).step p1 p2)
  generalize wa = w1 at *
  generalize va = v1 at *
  clear q1 q2 q3 p1 p2 p3 cc LAY KP HLL w64 DW BO hl0
  obtain ⟨L1, hL1⟩ : ∃ L, L = [2] ++ be 1 s.size ++ s.data.toList := ⟨_, rfl⟩
  rw [← hL1] at BO1 hl1
  have HL1 := Lib.hid hL1
  clear hL1
  go_wp2_with fail
  refine (U4.out w1).mono ?_
  rintro e w' ⟨rfl, rfl⟩
  go_wp2_with fail
  refine (U8.out w1).mono ?_
  rintro e w' ⟨rfl, rfl⟩
  go_wp2_with fail
  refine (U16.out w1).mono ?_
  rintro e w' ⟨rfl, rfl⟩
  go_wp2_with fail
  refine (U32.out w1).mono ?_
  rintro e w' ⟨rfl, rfl⟩
  go_wp2_with fail
  refine (U64.out w1).mono ?_
  rintro e w' ⟨rfl, rfl⟩
  go_wp2_with fail
  go_ret
  have RT := BO1.out.ret
  rw [show R = L1 from by rw [HR.out, HL1.out]]
  exact RT
set_option maxHeartbeats 3200000 in
theorem body3_ok (w : World) (s : ByteArray) (hs1 : 1 ≤ s.size) (hs2 : s.size ≤ 64) (ru : Nat) (hru : ru ≤ 131071) (re : Nat) (hre : re ≤ 1099511627776) (li : Nat) (hli : li ≤ 1099511627776) (su : Nat) (hsu : su < 4294967296) (a : Option Addr) (c : Nat) (T : Tabs w) (R : List UInt8) (hR : R = [3] ++ be 1 s.size ++ s.data.toList ++ be 4 ru ++ be 8 re ++ be 8 li ++ be 4 su) : Calls Tryd.prog 21 #[.agg #[.int .u8 3, .int .u64 0, .string s, .int .i64 (ru : Int), .int .i64 (re : Int), .int .i64 (li : Int), .int .u32 (su : Int), .slice a 0 c]] w (RetOwn w.heap.size w R) := by
  have HR := Lib.hid hR
  clear hR
  have EB := Lib.hid (show CellsAt (w.alloc (.cells #[.int .u8 3, .int .u64 0, .string s, .int .i64 (ru : Int), .int .i64 (re : Int), .int .i64 (li : Int), .int .u32 (su : Int), .slice a 0 c] 27)) w.heap.size [.int .u8 3, .int .u64 0, .string s, .int .i64 (ru : Int), .int .i64 (re : Int), .int .i64 (li : Int), .int .u32 (su : Int), .slice a 0 c] from CellsAt.new w _ 27)
  have BE := Lib.hid (show Below w.heap.size w (w.alloc (.cells #[.int .u8 3, .int .u64 0, .string s, .int .i64 (ru : Int), .int .i64 (re : Int), .int .i64 (li : Int), .int .u32 (su : Int), .slice a 0 c] 27)) from below_alloc w _)
  have cu := ((T.below BE.out).use 3 (by decide)).trans (show some (Value.int .u8 ((usesN 3 : Nat) : Int)) = some (.int .u8 62) from rfl)
  have U1 := Lib.hid (fun W => show Calls Tryd.prog 32 #[.int .u8 62, .int .u8 1] W (Same W (.bool false)) from has_ok 62 1 (by decide) (by decide) W)
  have U2 := Lib.hid (fun W => show Calls Tryd.prog 32 #[.int .u8 62, .int .u8 2] W (Same W (.bool true)) from has_ok 62 2 (by decide) (by decide) W)
  have U4 := Lib.hid (fun W => show Calls Tryd.prog 32 #[.int .u8 62, .int .u8 4] W (Same W (.bool true)) from has_ok 62 4 (by decide) (by decide) W)
  have U8 := Lib.hid (fun W => show Calls Tryd.prog 32 #[.int .u8 62, .int .u8 8] W (Same W (.bool true)) from has_ok 62 8 (by decide) (by decide) W)
  have U16 := Lib.hid (fun W => show Calls Tryd.prog 32 #[.int .u8 62, .int .u8 16] W (Same W (.bool true)) from has_ok 62 16 (by decide) (by decide) W)
  have U32 := Lib.hid (fun W => show Calls Tryd.prog 32 #[.int .u8 62, .int .u8 32] W (Same W (.bool true)) from has_ok 62 32 (by decide) (by decide) W)
  have U64 := Lib.hid (fun W => show Calls Tryd.prog 32 #[.int .u8 62, .int .u8 64] W (Same W (.bool false)) from has_ok 62 64 (by decide) (by decide) W)
  clear T
  have s64 : (s.size : Int) ≤ 64 := by omega
  go_enter Tryd.func21, Tryd.ntmps21
  go_upto_region 1 with fail
  generalize (w.alloc (.cells #[.int .u8 3, .int .u64 0, .string s, .int .i64 (ru : Int), .int .i64 (re : Int), .int .i64 (li : Int), .int .u32 (su : Int), .slice a 0 c] 27)) = wx at *
  have c0 := EB.out.cell 0 _ rfl
  go_region_held3 (fun W => W.cell? ⟨w.heap.size, 0, none⟩ = some (.int .u8 3) ∧ W.cell? ⟨0, 3, none⟩ = some (.int .u8 62)) (go_keep) (fail)
  have BO := Lib.hid (BoIn.first (x := 3) (c := 3) EB.out BE.out rfl)
  clear EB BE c0 cu
  generalize (wx.alloc (.cells #[.int .u8 3] 5)).drew = w0 at *
  generalize hv0 : (Value.slice (some ⟨wx.heap.size, 0, none⟩) 1 1) = v0 at *
  clear hv0
  have hl0 : ([3] : List UInt8).length ≤ 1 := by decide
  go_wp2_with fail
  refine (U1.out w0).mono ?_
  rintro e w' ⟨rfl, rfl⟩
  go_wp2_with fail
  refine (U2.out w0).mono ?_
  rintro e w' ⟨rfl, rfl⟩
  go_upto_region 5 with fail
  have cc := BO.out.1.cell 2 _ rfl
  have LAY := Lib.hid (show Calls Tryd.prog 23 #[v0, .int .u64 (s.size : Int), .int .i64 1] w0.drew (RetOwn (w.heap.size + 1) w0.drew ([3] ++ be 1 s.size)) from lay_ok (w.heap.size + 1) v0 _ s.size 1 (by omega) (by decide) w0.drew BO.out.2.1.drew (by omega))
  have KP := Lib.hid (fun (W : World) (q : Below (w.heap.size + 1) w0.drew W) => ((bcell q).1 w.heap.size 2 (Nat.lt_succ_self _)).trans cc)
  have HLL := Lib.hid (show ([3] ++ be 1 s.size).length + s.size ≤ 140737488355328 by rw [List.length_append, be_len]; omega)
  have w64 : IntKind.u64.wrap (s.size : Int) = (s.size : Int) := by unfold IntKind.wrap; simp [IntKind.bits, IntKind.signed]; omega
  have DW := Lib.hid (BoIn.drew BO.out)
  go_region_held3 (fun W => W.cell? ⟨w.heap.size, 2, none⟩ = some (.string s))
    (first | go_keep | (exact KP.out _ (by assumption)) | (exact (bcell (by assumption)).1 w.heap.size 2 (Nat.lt_succ_self _) |>.trans (by assumption)))
    (first | (go_simp; go_at_call 23; (with_reducible refine LAY.out.mono ?_); rintro e wl ⟨vl, rfl, q1, q2, q3⟩) | (refine step_apps (by rfl) _ _ (by rfl) (w.heap.size + 1) vl ([3] ++ be 1 s.size) (by rfl) q1 s (by rfl) HLL.out ?_; intro va wa p1 p2 p3))
  have hl1 : ([3] ++ be 1 s.size ++ s.data.toList).length ≤ 66 := by have := len_be (k := 1) (n := s.size) hl0; rw [List.length_append, ← Lib.size_eq]; omega
  have BO1 := Lib.hid ((DW.out.step q1 q2).step p1 p2)
  generalize wa = w1 at *
  generalize va = v1 at *
  clear q1 q2 q3 p1 p2 p3 cc LAY KP HLL w64 DW BO hl0
  obtain ⟨L1, hL1⟩ : ∃ L, L = [3] ++ be 1 s.size ++ s.data.toList := ⟨_, rfl⟩
  rw [← hL1] at BO1 hl1
  have HL1 := Lib.hid hL1
  clear hL1
  go_wp2_with fail
  refine (U4.out w1).mono ?_
  rintro e w' ⟨rfl, rfl⟩
  have cc := BO1.out.1.cell 3 _ rfl
  go_wp2_with fail
  refine (lay_ok (w.heap.size + 1) v1 _ ru 4 (by omega) (by decide) w1 BO1.out.2.1 (by omega)).mono ?_
  rintro e w2 ⟨v2, rfl, q1, q2, q3⟩
  have hl2 := len_be (k := 4) (n := ru) hl1
  have BO2 := Lib.hid (BO1.out.step q1 q2)
  clear q1 q2 q3 cc BO1 hl1
  obtain ⟨L2, hL2⟩ : ∃ L, L = L1 ++ be 4 ru := ⟨_, rfl⟩
  rw [← hL2] at BO2 hl2
  have HL2 := Lib.hid hL2
  clear hL2
  go_wp2_with fail
  refine (U8.out w2).mono ?_
  rintro e w' ⟨rfl, rfl⟩
  have cc := BO2.out.1.cell 4 _ rfl
  go_wp2_with fail
  refine (lay_ok (w.heap.size + 1) v2 _ re 8 (by omega) (by decide) w2 BO2.out.2.1 (by omega)).mono ?_
  rintro e w3 ⟨v3, rfl, q1, q2, q3⟩
  have hl3 := len_be (k := 8) (n := re) hl2
  have BO3 := Lib.hid (BO2.out.step q1 q2)
  clear q1 q2 q3 cc BO2 hl2
  obtain ⟨L3, hL3⟩ : ∃ L, L = L2 ++ be 8 re := ⟨_, rfl⟩
  rw [← hL3] at BO3 hl3
  have HL3 := Lib.hid hL3
  clear hL3
  go_wp2_with fail
  refine (U16.out w3).mono ?_
  rintro e w' ⟨rfl, rfl⟩
  have cc := BO3.out.1.cell 5 _ rfl
  go_wp2_with fail
  refine (lay_ok (w.heap.size + 1) v3 _ li 8 (by omega) (by decide) w3 BO3.out.2.1 (by omega)).mono ?_
  rintro e w4 ⟨v4, rfl, q1, q2, q3⟩
  have hl4 := len_be (k := 8) (n := li) hl3
  have BO4 := Lib.hid (BO3.out.step q1 q2)
  clear q1 q2 q3 cc BO3 hl3
  obtain ⟨L4, hL4⟩ : ∃ L, L = L3 ++ be 8 li := ⟨_, rfl⟩
  rw [← hL4] at BO4 hl4
  have HL4 := Lib.hid hL4
  clear hL4
  go_wp2_with fail
  refine (U32.out w4).mono ?_
  rintro e w' ⟨rfl, rfl⟩
  have cc := BO4.out.1.cell 6 _ rfl
  go_wp2_with fail
  refine (lay_ok (w.heap.size + 1) v4 _ su 4 (by omega) (by decide) w4 BO4.out.2.1 (by omega)).mono ?_
  rintro e w5 ⟨v5, rfl, q1, q2, q3⟩
  have hl5 := len_be (k := 4) (n := su) hl4
  have BO5 := Lib.hid (BO4.out.step q1 q2)
  clear q1 q2 q3 cc BO4 hl4
  obtain ⟨L5, hL5⟩ : ∃ L, L = L4 ++ be 4 su := ⟨_, rfl⟩
  rw [← hL5] at BO5 hl5
  have HL5 := Lib.hid hL5
  clear hL5
  go_wp2_with fail
  refine (U64.out w5).mono ?_
  rintro e w' ⟨rfl, rfl⟩
  go_wp2_with fail
  go_ret
  have RT := BO5.out.ret
  rw [show R = L5 from by rw [HR.out, HL5.out, HL4.out, HL3.out, HL2.out, HL1.out]]
  exact RT
set_option maxHeartbeats 3200000 in
theorem body4_ok (w : World) (a : Option Addr) (c : Nat) (T : Tabs w) (R : List UInt8) (hR : R = [4]) : Calls Tryd.prog 21 #[.agg #[.int .u8 4, .int .u64 0, .string ⟨#[]⟩, .int .i64 0, .int .i64 0, .int .i64 0, .int .u32 0, .slice a 0 c]] w (RetOwn w.heap.size w R) := by
  have HR := Lib.hid hR
  clear hR
  have EB := Lib.hid (show CellsAt (w.alloc (.cells #[.int .u8 4, .int .u64 0, .string ⟨#[]⟩, .int .i64 0, .int .i64 0, .int .i64 0, .int .u32 0, .slice a 0 c] 27)) w.heap.size [.int .u8 4, .int .u64 0, .string ⟨#[]⟩, .int .i64 0, .int .i64 0, .int .i64 0, .int .u32 0, .slice a 0 c] from CellsAt.new w _ 27)
  have BE := Lib.hid (show Below w.heap.size w (w.alloc (.cells #[.int .u8 4, .int .u64 0, .string ⟨#[]⟩, .int .i64 0, .int .i64 0, .int .i64 0, .int .u32 0, .slice a 0 c] 27)) from below_alloc w _)
  have cu := ((T.below BE.out).use 4 (by decide)).trans (show some (Value.int .u8 ((usesN 4 : Nat) : Int)) = some (.int .u8 0) from rfl)
  have U1 := Lib.hid (fun W => show Calls Tryd.prog 32 #[.int .u8 0, .int .u8 1] W (Same W (.bool false)) from has_ok 0 1 (by decide) (by decide) W)
  have U2 := Lib.hid (fun W => show Calls Tryd.prog 32 #[.int .u8 0, .int .u8 2] W (Same W (.bool false)) from has_ok 0 2 (by decide) (by decide) W)
  have U4 := Lib.hid (fun W => show Calls Tryd.prog 32 #[.int .u8 0, .int .u8 4] W (Same W (.bool false)) from has_ok 0 4 (by decide) (by decide) W)
  have U8 := Lib.hid (fun W => show Calls Tryd.prog 32 #[.int .u8 0, .int .u8 8] W (Same W (.bool false)) from has_ok 0 8 (by decide) (by decide) W)
  have U16 := Lib.hid (fun W => show Calls Tryd.prog 32 #[.int .u8 0, .int .u8 16] W (Same W (.bool false)) from has_ok 0 16 (by decide) (by decide) W)
  have U32 := Lib.hid (fun W => show Calls Tryd.prog 32 #[.int .u8 0, .int .u8 32] W (Same W (.bool false)) from has_ok 0 32 (by decide) (by decide) W)
  have U64 := Lib.hid (fun W => show Calls Tryd.prog 32 #[.int .u8 0, .int .u8 64] W (Same W (.bool false)) from has_ok 0 64 (by decide) (by decide) W)
  clear T
  go_enter Tryd.func21, Tryd.ntmps21
  go_upto_region 1 with fail
  generalize (w.alloc (.cells #[.int .u8 4, .int .u64 0, .string ⟨#[]⟩, .int .i64 0, .int .i64 0, .int .i64 0, .int .u32 0, .slice a 0 c] 27)) = wx at *
  have c0 := EB.out.cell 0 _ rfl
  go_region_held3 (fun W => W.cell? ⟨w.heap.size, 0, none⟩ = some (.int .u8 4) ∧ W.cell? ⟨0, 4, none⟩ = some (.int .u8 0)) (go_keep) (fail)
  have BO := Lib.hid (BoIn.first (x := 4) (c := 4) EB.out BE.out rfl)
  clear EB BE c0 cu
  generalize (wx.alloc (.cells #[.int .u8 4] 5)).drew = w0 at *
  generalize hv0 : (Value.slice (some ⟨wx.heap.size, 0, none⟩) 1 1) = v0 at *
  clear hv0
  have hl0 : ([4] : List UInt8).length ≤ 1 := by decide
  go_wp2_with fail
  refine (U1.out w0).mono ?_
  rintro e w' ⟨rfl, rfl⟩
  go_wp2_with fail
  refine (U2.out w0).mono ?_
  rintro e w' ⟨rfl, rfl⟩
  go_wp2_with fail
  refine (U4.out w0).mono ?_
  rintro e w' ⟨rfl, rfl⟩
  go_wp2_with fail
  refine (U8.out w0).mono ?_
  rintro e w' ⟨rfl, rfl⟩
  go_wp2_with fail
  refine (U16.out w0).mono ?_
  rintro e w' ⟨rfl, rfl⟩
  go_wp2_with fail
  refine (U32.out w0).mono ?_
  rintro e w' ⟨rfl, rfl⟩
  go_wp2_with fail
  refine (U64.out w0).mono ?_
  rintro e w' ⟨rfl, rfl⟩
  go_wp2_with fail
  go_ret
  have RT := BO.out.ret
  rw [show R = [4] from by rw [HR.out]]
  exact RT
set_option maxHeartbeats 3200000 in
theorem body5_ok (w : World) (b off c : Nat) (s : ByteArray) (hs1 : 1 ≤ s.size) (hs2 : s.size ≤ 64) (ru : Nat) (hru : ru ≤ 131071) (re : Nat) (hre : re ≤ 1099511627776) (su : Nat) (hsu : su < 4294967296) (inn : List Int) (hi1 : 1 ≤ inn.length) (hi2 : inn.length ≤ 64) (hin : ∀ x ∈ inn, 0 ≤ x ∧ x ≤ 131071) (hb : b < w.heap.size) (hc : ∀ (j : Nat) (hj : j < inn.length), w.cell? ⟨b, off + j, none⟩ = some (.int .i64 inn[j])) (T : Tabs w) (R : List UInt8) (hR : R = [5] ++ be 1 s.size ++ s.data.toList ++ be 4 ru ++ be 8 re ++ be 4 su ++ be 1 inn.length ++ bodyIn inn) : Calls Tryd.prog 21 #[.agg #[.int .u8 5, .int .u64 0, .string s, .int .i64 (ru : Int), .int .i64 (re : Int), .int .i64 0, .int .u32 (su : Int), .slice (some ⟨b, off, none⟩) inn.length c]] w (RetOwn w.heap.size w R) := by
  have HR := Lib.hid hR
  clear hR
  have EB := Lib.hid (show CellsAt (w.alloc (.cells #[.int .u8 5, .int .u64 0, .string s, .int .i64 (ru : Int), .int .i64 (re : Int), .int .i64 0, .int .u32 (su : Int), .slice (some ⟨b, off, none⟩) inn.length c] 27)) w.heap.size [.int .u8 5, .int .u64 0, .string s, .int .i64 (ru : Int), .int .i64 (re : Int), .int .i64 0, .int .u32 (su : Int), .slice (some ⟨b, off, none⟩) inn.length c] from CellsAt.new w _ 27)
  have BE := Lib.hid (show Below w.heap.size w (w.alloc (.cells #[.int .u8 5, .int .u64 0, .string s, .int .i64 (ru : Int), .int .i64 (re : Int), .int .i64 0, .int .u32 (su : Int), .slice (some ⟨b, off, none⟩) inn.length c] 27)) from below_alloc w _)
  have cu := ((T.below BE.out).use 5 (by decide)).trans (show some (Value.int .u8 ((usesN 5 : Nat) : Int)) = some (.int .u8 110) from rfl)
  have U1 := Lib.hid (fun W => show Calls Tryd.prog 32 #[.int .u8 110, .int .u8 1] W (Same W (.bool false)) from has_ok 110 1 (by decide) (by decide) W)
  have U2 := Lib.hid (fun W => show Calls Tryd.prog 32 #[.int .u8 110, .int .u8 2] W (Same W (.bool true)) from has_ok 110 2 (by decide) (by decide) W)
  have U4 := Lib.hid (fun W => show Calls Tryd.prog 32 #[.int .u8 110, .int .u8 4] W (Same W (.bool true)) from has_ok 110 4 (by decide) (by decide) W)
  have U8 := Lib.hid (fun W => show Calls Tryd.prog 32 #[.int .u8 110, .int .u8 8] W (Same W (.bool true)) from has_ok 110 8 (by decide) (by decide) W)
  have U16 := Lib.hid (fun W => show Calls Tryd.prog 32 #[.int .u8 110, .int .u8 16] W (Same W (.bool false)) from has_ok 110 16 (by decide) (by decide) W)
  have U32 := Lib.hid (fun W => show Calls Tryd.prog 32 #[.int .u8 110, .int .u8 32] W (Same W (.bool true)) from has_ok 110 32 (by decide) (by decide) W)
  have U64 := Lib.hid (fun W => show Calls Tryd.prog 32 #[.int .u8 110, .int .u8 64] W (Same W (.bool true)) from has_ok 110 64 (by decide) (by decide) W)
  clear T
  have s64 : (s.size : Int) ≤ 64 := by omega
  have HB := Lib.hid hb
  have HC := Lib.hid hc
  have HIN := Lib.hid hin
  clear hb hc hin
  go_enter Tryd.func21, Tryd.ntmps21
  go_upto_region 1 with fail
  generalize (w.alloc (.cells #[.int .u8 5, .int .u64 0, .string s, .int .i64 (ru : Int), .int .i64 (re : Int), .int .i64 0, .int .u32 (su : Int), .slice (some ⟨b, off, none⟩) inn.length c] 27)) = wx at *
  have c0 := EB.out.cell 0 _ rfl
  go_region_held3 (fun W => W.cell? ⟨w.heap.size, 0, none⟩ = some (.int .u8 5) ∧ W.cell? ⟨0, 5, none⟩ = some (.int .u8 110)) (go_keep) (fail)
  have BO := Lib.hid (BoIn.first (x := 5) (c := 5) EB.out BE.out rfl)
  clear EB BE c0 cu
  generalize (wx.alloc (.cells #[.int .u8 5] 5)).drew = w0 at *
  generalize hv0 : (Value.slice (some ⟨wx.heap.size, 0, none⟩) 1 1) = v0 at *
  clear hv0
  have hl0 : ([5] : List UInt8).length ≤ 1 := by decide
  go_wp2_with fail
  refine (U1.out w0).mono ?_
  rintro e w' ⟨rfl, rfl⟩
  go_wp2_with fail
  refine (U2.out w0).mono ?_
  rintro e w' ⟨rfl, rfl⟩
  go_upto_region 5 with fail
  have cc := BO.out.1.cell 2 _ rfl
  have LAY := Lib.hid (show Calls Tryd.prog 23 #[v0, .int .u64 (s.size : Int), .int .i64 1] w0.drew (RetOwn (w.heap.size + 1) w0.drew ([5] ++ be 1 s.size)) from lay_ok (w.heap.size + 1) v0 _ s.size 1 (by omega) (by decide) w0.drew BO.out.2.1.drew (by omega))
  have KP := Lib.hid (fun (W : World) (q : Below (w.heap.size + 1) w0.drew W) => ((bcell q).1 w.heap.size 2 (Nat.lt_succ_self _)).trans cc)
  have HLL := Lib.hid (show ([5] ++ be 1 s.size).length + s.size ≤ 140737488355328 by rw [List.length_append, be_len]; omega)
  have w64 : IntKind.u64.wrap (s.size : Int) = (s.size : Int) := by unfold IntKind.wrap; simp [IntKind.bits, IntKind.signed]; omega
  have DW := Lib.hid (BoIn.drew BO.out)
  go_region_held3 (fun W => W.cell? ⟨w.heap.size, 2, none⟩ = some (.string s))
    (first | go_keep | (exact KP.out _ (by assumption)) | (exact (bcell (by assumption)).1 w.heap.size 2 (Nat.lt_succ_self _) |>.trans (by assumption)))
    (first | (go_simp; go_at_call 23; (with_reducible refine LAY.out.mono ?_); rintro e wl ⟨vl, rfl, q1, q2, q3⟩) | (refine step_apps (by rfl) _ _ (by rfl) (w.heap.size + 1) vl ([5] ++ be 1 s.size) (by rfl) q1 s (by rfl) HLL.out ?_; intro va wa p1 p2 p3))
  have hl1 : ([5] ++ be 1 s.size ++ s.data.toList).length ≤ 66 := by have := len_be (k := 1) (n := s.size) hl0; rw [List.length_append, ← Lib.size_eq]; omega
  have BO1 := Lib.hid ((DW.out.step q1 q2).step p1 p2)
  generalize wa = w1 at *
  generalize va = v1 at *
  clear q1 q2 q3 p1 p2 p3 cc LAY KP HLL w64 DW BO hl0
  obtain ⟨L1, hL1⟩ : ∃ L, L = [5] ++ be 1 s.size ++ s.data.toList := ⟨_, rfl⟩
  rw [← hL1] at BO1 hl1
  have HL1 := Lib.hid hL1
  clear hL1
  go_wp2_with fail
  refine (U4.out w1).mono ?_
  rintro e w' ⟨rfl, rfl⟩
  have cc := BO1.out.1.cell 3 _ rfl
  go_wp2_with fail
  refine (lay_ok (w.heap.size + 1) v1 _ ru 4 (by omega) (by decide) w1 BO1.out.2.1 (by omega)).mono ?_
  rintro e w2 ⟨v2, rfl, q1, q2, q3⟩
  have hl2 := len_be (k := 4) (n := ru) hl1
  have BO2 := Lib.hid (BO1.out.step q1 q2)
  clear q1 q2 q3 cc BO1 hl1
  obtain ⟨L2, hL2⟩ : ∃ L, L = L1 ++ be 4 ru := ⟨_, rfl⟩
  rw [← hL2] at BO2 hl2
  have HL2 := Lib.hid hL2
  clear hL2
  go_wp2_with fail
  refine (U8.out w2).mono ?_
  rintro e w' ⟨rfl, rfl⟩
  have cc := BO2.out.1.cell 4 _ rfl
  go_wp2_with fail
  refine (lay_ok (w.heap.size + 1) v2 _ re 8 (by omega) (by decide) w2 BO2.out.2.1 (by omega)).mono ?_
  rintro e w3 ⟨v3, rfl, q1, q2, q3⟩
  have hl3 := len_be (k := 8) (n := re) hl2
  have BO3 := Lib.hid (BO2.out.step q1 q2)
  clear q1 q2 q3 cc BO2 hl2
  obtain ⟨L3, hL3⟩ : ∃ L, L = L2 ++ be 8 re := ⟨_, rfl⟩
  rw [← hL3] at BO3 hl3
  have HL3 := Lib.hid hL3
  clear hL3
  go_wp2_with fail
  refine (U16.out w3).mono ?_
  rintro e w' ⟨rfl, rfl⟩
  go_wp2_with fail
  refine (U32.out w3).mono ?_
  rintro e w' ⟨rfl, rfl⟩
  have cc := BO3.out.1.cell 6 _ rfl
  go_wp2_with fail
  refine (lay_ok (w.heap.size + 1) v3 _ su 4 (by omega) (by decide) w3 BO3.out.2.1 (by omega)).mono ?_
  rintro e w4 ⟨v4, rfl, q1, q2, q3⟩
  have hl4 := len_be (k := 4) (n := su) hl3
  have BO4 := Lib.hid (BO3.out.step q1 q2)
  clear q1 q2 q3 cc BO3 hl3
  obtain ⟨L4, hL4⟩ : ∃ L, L = L3 ++ be 4 su := ⟨_, rfl⟩
  rw [← hL4] at BO4 hl4
  have HL4 := Lib.hid hL4
  clear hL4
  go_wp2_with fail
  refine (U64.out w4).mono ?_
  rintro e w' ⟨rfl, rfl⟩
  have cc := BO4.out.1.cell 7 _ rfl
  go_wp2_with fail
  refine (lay_ok (w.heap.size + 1) v4 _ inn.length 1 (by omega) (by decide) w4 BO4.out.2.1 (by omega)).mono ?_
  rintro e w5 ⟨v5, rfl, q1, q2, q3⟩
  have hl5 := len_be (k := 1) (n := inn.length) hl4
  have BO5 := Lib.hid (BO4.out.step q1 q2)
  clear q1 q2 q3 cc BO4 hl4
  obtain ⟨L5, hL5⟩ : ∃ L, L = L4 ++ be 1 inn.length := ⟨_, rfl⟩
  rw [← hL5] at BO5 hl5
  have HL5 := Lib.hid hL5
  clear hL5
  have cc := BO5.out.1.cell 7 _ rfl
  go_wp2_with fail
  clear cc
  have HLL := Lib.hid hl5
  clear hl5
  go_loopw [3, 70] (fun x i wr => InRel w [.int .u8 5, .int .u64 0, .string s, .int .i64 (ru : Int), .int .i64 (re : Int), .int .i64 0, .int .u32 (su : Int), .slice (some ⟨b, off, none⟩) inn.length c] L5 inn x i wr) (fun _ i _ => inn.length - (intOf i).toNat)
  case atStart => exact ⟨0, Nat.zero_le _, rfl, by simpa [bodyIn] using BO5.out⟩
  case round =>
    clear BO5
    obtain ⟨j, hj, rfl, h1⟩ := hrel
    have O1 := Lib.hid h1
    clear h1
    by_cases hlt : j < inn.length
    · have hx := (bcell O1.out.2.2).1 b (off + j) HB.out |>.trans (HC.out j hlt)
      have hr := HIN.out inn[j] (List.getElem_mem hlt)
      have SN := Lib.hid (show inn.take (j + 1) = inn.take j ++ [inn[j]] from List.take_succ_eq_append_getElem hlt)
      generalize inn[j] = y at *
      obtain ⟨m, rfl⟩ : ∃ m : Nat, y = m := ⟨y.toNat, by omega⟩
      have SB := Lib.hid (show L5 ++ bodyIn (inn.take (j + 1)) = (L5 ++ bodyIn (inn.take j)) ++ be 4 m from by rw [SN.out, bodyIn_app, ← List.append_assoc]; simp [bodyIn])
      have HQ : (L5 ++ bodyIn (inn.take j)).length ≤ 400 := by have := HLL.out; rw [List.length_append, bodyIn_len, List.length_take]; omega
      generalize L5 ++ bodyIn (inn.take j) = Q at *
      have HJ := Lib.hid (show j + 1 ≤ inn.length from hlt)
      go_wp2_with fail
      refine (lay_ok (w.heap.size + 1) _ Q m 4 (by omega) (by decide) wr O1.out.2.1 (by omega)).mono ?_
      rintro e w9 ⟨v9, rfl, q1, q2, q3⟩
      have KEY := Lib.hid (show InRel w [.int .u8 5, .int .u64 0, .string s, .int .i64 (ru : Int), .int .i64 (re : Int), .int .i64 0, .int .u32 (su : Int), .slice (some ⟨b, off, none⟩) inn.length c] L5 inn v9 (.int .i64 ((j : Int) + 1)) w9 from ⟨j + 1, HJ.out, by go_num, by rw [SB.out]; exact O1.out.step q1 q2⟩)
      clear q1 q2 q3 hx SB
      go_wp2_with fail
      exact ⟨KEY.out, by simp [intOf]; omega⟩
    · have ek : inn.take j = inn := List.take_of_length_le (by omega)
      have EK := Lib.hid ek
      clear ek
      go_wp2_with fail
      go_ret
      have RT := O1.out.ret
      rw [EK.out] at RT
      rw [show R = L5 ++ bodyIn inn from by rw [HR.out, HL5.out, HL4.out, HL3.out, HL2.out, HL1.out]]
      exact RT
set_option maxHeartbeats 3200000 in
theorem body6_ok (w : World) (a : Option Addr) (c : Nat) (T : Tabs w) (R : List UInt8) (hR : R = [6]) : Calls Tryd.prog 21 #[.agg #[.int .u8 6, .int .u64 0, .string ⟨#[]⟩, .int .i64 0, .int .i64 0, .int .i64 0, .int .u32 0, .slice a 0 c]] w (RetOwn w.heap.size w R) := by
  have HR := Lib.hid hR
  clear hR
  have EB := Lib.hid (show CellsAt (w.alloc (.cells #[.int .u8 6, .int .u64 0, .string ⟨#[]⟩, .int .i64 0, .int .i64 0, .int .i64 0, .int .u32 0, .slice a 0 c] 27)) w.heap.size [.int .u8 6, .int .u64 0, .string ⟨#[]⟩, .int .i64 0, .int .i64 0, .int .i64 0, .int .u32 0, .slice a 0 c] from CellsAt.new w _ 27)
  have BE := Lib.hid (show Below w.heap.size w (w.alloc (.cells #[.int .u8 6, .int .u64 0, .string ⟨#[]⟩, .int .i64 0, .int .i64 0, .int .i64 0, .int .u32 0, .slice a 0 c] 27)) from below_alloc w _)
  have cu := ((T.below BE.out).use 6 (by decide)).trans (show some (Value.int .u8 ((usesN 6 : Nat) : Int)) = some (.int .u8 0) from rfl)
  have U1 := Lib.hid (fun W => show Calls Tryd.prog 32 #[.int .u8 0, .int .u8 1] W (Same W (.bool false)) from has_ok 0 1 (by decide) (by decide) W)
  have U2 := Lib.hid (fun W => show Calls Tryd.prog 32 #[.int .u8 0, .int .u8 2] W (Same W (.bool false)) from has_ok 0 2 (by decide) (by decide) W)
  have U4 := Lib.hid (fun W => show Calls Tryd.prog 32 #[.int .u8 0, .int .u8 4] W (Same W (.bool false)) from has_ok 0 4 (by decide) (by decide) W)
  have U8 := Lib.hid (fun W => show Calls Tryd.prog 32 #[.int .u8 0, .int .u8 8] W (Same W (.bool false)) from has_ok 0 8 (by decide) (by decide) W)
  have U16 := Lib.hid (fun W => show Calls Tryd.prog 32 #[.int .u8 0, .int .u8 16] W (Same W (.bool false)) from has_ok 0 16 (by decide) (by decide) W)
  have U32 := Lib.hid (fun W => show Calls Tryd.prog 32 #[.int .u8 0, .int .u8 32] W (Same W (.bool false)) from has_ok 0 32 (by decide) (by decide) W)
  have U64 := Lib.hid (fun W => show Calls Tryd.prog 32 #[.int .u8 0, .int .u8 64] W (Same W (.bool false)) from has_ok 0 64 (by decide) (by decide) W)
  clear T
  go_enter Tryd.func21, Tryd.ntmps21
  go_upto_region 1 with fail
  generalize (w.alloc (.cells #[.int .u8 6, .int .u64 0, .string ⟨#[]⟩, .int .i64 0, .int .i64 0, .int .i64 0, .int .u32 0, .slice a 0 c] 27)) = wx at *
  have c0 := EB.out.cell 0 _ rfl
  go_region_held3 (fun W => W.cell? ⟨w.heap.size, 0, none⟩ = some (.int .u8 6) ∧ W.cell? ⟨0, 6, none⟩ = some (.int .u8 0)) (go_keep) (fail)
  have BO := Lib.hid (BoIn.first (x := 6) (c := 6) EB.out BE.out rfl)
  clear EB BE c0 cu
  generalize (wx.alloc (.cells #[.int .u8 6] 5)).drew = w0 at *
  generalize hv0 : (Value.slice (some ⟨wx.heap.size, 0, none⟩) 1 1) = v0 at *
  clear hv0
  have hl0 : ([6] : List UInt8).length ≤ 1 := by decide
  go_wp2_with fail
  refine (U1.out w0).mono ?_
  rintro e w' ⟨rfl, rfl⟩
  go_wp2_with fail
  refine (U2.out w0).mono ?_
  rintro e w' ⟨rfl, rfl⟩
  go_wp2_with fail
  refine (U4.out w0).mono ?_
  rintro e w' ⟨rfl, rfl⟩
  go_wp2_with fail
  refine (U8.out w0).mono ?_
  rintro e w' ⟨rfl, rfl⟩
  go_wp2_with fail
  refine (U16.out w0).mono ?_
  rintro e w' ⟨rfl, rfl⟩
  go_wp2_with fail
  refine (U32.out w0).mono ?_
  rintro e w' ⟨rfl, rfl⟩
  go_wp2_with fail
  refine (U64.out w0).mono ?_
  rintro e w' ⟨rfl, rfl⟩
  go_wp2_with fail
  go_ret
  have RT := BO.out.ret
  rw [show R = [6] from by rw [HR.out]]
  exact RT
end Go.Proofs.YtlbekgcfafofdaaDoor
