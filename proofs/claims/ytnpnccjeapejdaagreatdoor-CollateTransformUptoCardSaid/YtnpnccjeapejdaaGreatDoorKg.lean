/- The key of an order, of any key: keyOf. -/
import Derived.Test.YtnpnccjeapejdaaGreatDoorFi
import Derived.Test.YtnpnccjeapejdaaGreatDoorKf
namespace Go.Proofs.YtnpnccjeapejdaaGreatDoor
open Go.RowKit

set_option maxRecDepth 100000
def kk (f c ef ec : Int) (m : Nat) (b : Bool) (t : Int) (lt : Nat) (fo : Bool) (fv : Value) : List Value := [.int .i64 f, .int .i64 c, .int .i64 ef, .int .i64 ec, .int .u16 (m : Int), .bool b, .int .i64 t, .int .u8 (lt : Int), .bool fo, fv]
/-- What a key compares with: turned or not (x), a kind, a filter. -/
def KeyH (w : World) (B x kd lt : Nat) (fo : Bool) (fv : Value) : Prop :=
  (x = 0 ∧ CmpAt w B kd lt fo fv) ∨ (x ≠ 0 ∧ ∃ g, CmpAt w B kd lt fo g ∧ TurnAt w B g fv)
theorem KeyH.step {w w' : World} {B x kd lt : Nat} {fo : Bool} {fv : Value} (h : KeyH w B x kd lt fo fv) (b : Below w.heap.size w w') : KeyH w' B x kd lt fo fv := by
  rcases h with ⟨h0, h⟩ | ⟨h0, g, h, q, u, v, hq⟩
  · exact Or.inl ⟨h0, h.step b⟩
  · exact Or.inr ⟨h0, g, h.step b, q, u, v, hq.step b⟩
theorem KeyH.other {w : World} {B x kd lt : Nat} {fo : Bool} {fv : Value} (h : KeyH w B x kd lt fo fv) {c : Nat} (hc : c < B) (j : Nat) (y : Value) : KeyH (w.setCell ⟨c, j, none⟩ y) B x kd lt fo fv := by
  rcases h with ⟨h0, h⟩ | ⟨h0, g, h, q, u, v, hq⟩
  · exact Or.inl ⟨h0, h.other hc j y⟩
  · exact Or.inr ⟨h0, g, h.other hc j y, q, u, v, hq.other (by omega) j y⟩
theorem KeyH.mono {w : World} {B C x kd lt : Nat} {fo : Bool} {fv : Value} (h : KeyH w B x kd lt fo fv) (hc : C ≤ B) : KeyH w C x kd lt fo fv := by
  rcases h with ⟨h0, h⟩ | ⟨h0, g, h, q, u, v, hq⟩
  · exact Or.inl ⟨h0, h.mono hc⟩
  · exact Or.inr ⟨h0, g, h.mono hc, q, by omega, v, hq⟩
theorem KeyH.ten {w : World} {B x kd lt : Nat} {fo : Bool} {fv : Value} (h : KeyH w B x kd lt fo fv) {c : Nat} (hc : c < B) (x0 x1 x2 x3 x4 x5 x6 x7 x8 x9 : Value) : KeyH ((((((((((w.setCell ⟨c, 0, none⟩ x0).setCell ⟨c, 1, none⟩ x1).setCell ⟨c, 2, none⟩ x2).setCell ⟨c, 3, none⟩ x3).setCell ⟨c, 4, none⟩ x4).setCell ⟨c, 5, none⟩ x5).setCell ⟨c, 6, none⟩ x6).setCell ⟨c, 7, none⟩ x7).setCell ⟨c, 8, none⟩ x8).setCell ⟨c, 9, none⟩ x9) B x kd lt fo fv := (((((((((h.other hc 0 x0).other hc 1 x1).other hc 2 x2).other hc 3 x3).other hc 4 x4).other hc 5 x5).other hc 6 x6).other hc 7 x7).other hc 8 x8).other hc 9 x9
/-- Within keyOf: the argument's block, the answer's, the key's. -/
structure KgIn (w x : World) (K : Nat) (A Z : List Value) : Prop where
  arg : CellsAt x w.heap.size A
  res : CellsAt x (w.heap.size + 1) z10
  key : CellsAt x K Z
  lo : w.heap.size + 1 < K
  below : Below w.heap.size w x
theorem KgIn.step {w x x2 : World} {K : Nat} {A Z : List Value} (h : KgIn w x K A Z) (b : Below x.drew.heap.size x.drew x2) : KgIn w x2 K A Z :=
  ⟨(drewC h.arg).step b, (drewC h.res).step b, (drewC h.key).step b, h.lo, (drewB h.below).trans (b.mono (drewB h.below).size)⟩
theorem KgIn.fin {w x : World} {K : Nat} {f c ef ec : Int} {m : Nat} {b : Bool} {t : Int} {lt : Nat} {fo : Bool} {g : Value} {A : List Value} (h : KgIn w x K A (kk f c ef ec m b t lt fo g)) (v : Value) : KgIn w (x.setCell ⟨K, 9, none⟩ v) K A (kk f c ef ec m b t lt fo v) :=
  have hl := h.lo
  ⟨h.arg.other (by omega) 9 _, h.res.other (by omega) 9 _, h.key.set 9 _ (by simp [kk]), h.lo, h.below.setCell (p := ⟨K, 9, none⟩) (by show w.heap.size ≤ K; omega) _⟩
theorem KgIn.on {w x y : World} {K : Nat} {A Z : List Value} (h : KgIn w x K A Z) (hb : Below x.heap.size x y) : KgIn w y K A Z := ⟨h.arg.step hb, h.res.step hb, h.key.step hb, h.lo, h.below.trans (hb.mono h.below.size)⟩
theorem KgIn.turn {w x y : World} {K : Nat} {f c ef ec : Int} {m : Nat} {b : Bool} {t : Int} {lt : Nat} {fo : Bool} {g : Value} {A : List Value} (h : KgIn w x K A (kk f c ef ec m b t lt fo g)) (hb : Below x.heap.size x y) (v : Value) : KgIn w (y.setCell ⟨K, 9, none⟩ v) K A (kk f c ef ec m b t lt fo v) :=
  KgIn.fin ⟨h.arg.step hb, h.res.step hb, h.key.step hb, h.lo, h.below.trans (hb.mono h.below.size)⟩ v
def RetKy (w : World) (f c ef ec : Int) (m : Nat) (b : Bool) (t : Int) (x kd lt : Nat) (fo : Bool) (e : Ending) (w' : World) : Prop :=
  ∃ fv, e = .returned (.agg #[.int .i64 f, .int .i64 c, .int .i64 ef, .int .i64 ec, .int .u16 (m : Int), .bool b, .int .i64 t, .int .u8 (lt : Int), .bool fo, fv]) ∧ KeyH w' w.heap.size x kd lt fo fv ∧ Below w.heap.size w w'
set_option maxHeartbeats 6400000 in
theorem keyOf_g (f c ef ec : Int) (m : Nat) (b : Bool) (t : Int) (x5 kd lt : Nat) (fo : Bool) (w : World)
    (FI : Hid (∀ w, Calls Tryz.prog 48 #[.int .u16 (m : Int)] w (RetBk w (.agg #[.int .u8 (lt : Int), .bool fo]))))
    (KI : Hid (∀ w, Calls Tryz.prog 33 #[.int .u16 (m : Int)] w (RetV w (.int .u16 (kd : Int)))))
    (CO : Hid (∀ w, Calls Tryz.prog 49 #[.int .u16 (kd : Int), .agg #[.int .u8 (lt : Int), .bool fo]] w (RetCmp w kd lt fo)))
    (b512 : bits BinOp.and IntKind.u16 (m : Int) 512 = (x5 : Int)) :
    Calls Tryz.prog 32 #[.agg #[.int .i64 f, .int .i64 c, .int .i64 ef, .int .i64 ec, .int .u16 (m : Int), .bool b], .int .i64 t] w (RetKy w f c ef ec m b t x5 kd lt fo) := by
  go_enter Tryz.func32, Tryz.ntmps32
  go_wp2_with fail
  have A0 := (CellsAt.new w (kI f c ef ec m b) 54).alloc (.cells z10.toArray 59)
  have B0 := ((Below.refl w.heap.size w).alloc (Nat.le_refl _) (.cells (kI f c ef ec m b).toArray 54)).alloc (by simp) (.cells z10.toArray 59)
  have Z0 := CellsAt.new (w.alloc (.cells (kI f c ef ec m b).toArray 54)) z10 59
  rw [show (w.alloc (.cells (kI f c ef ec m b).toArray 54)).heap.size = w.heap.size + 1 by simp] at Z0
  unfold kI z10 at A0 B0 Z0
  generalize World.alloc (World.alloc w _) _ = W0 at *
  have HB := Lib.hid B0
  have HA := Lib.hid A0
  have HZ := Lib.hid Z0
  clear A0 B0 Z0
  have r0 := HA.out.cell 0 _ rfl
  have r1 := HA.out.cell 1 _ rfl
  have r2 := HA.out.cell 2 _ rfl
  have r3 := HA.out.cell 3 _ rfl
  have r4 := HA.out.cell 4 _ rfl
  have r5 := HA.out.cell 5 _ rfl
  have hw0 := HA.out.lt
  have hne : ¬ W0.heap.size = w.heap.size := by omega
  have hne2 : ¬ w.heap.size = W0.heap.size := by omega
  go_region_held3 (fun w' => w'.cell? ⟨w.heap.size, 0, none⟩ = some (.int .i64 f) ∧ w'.cell? ⟨w.heap.size, 1, none⟩ = some (.int .i64 c) ∧ w'.cell? ⟨w.heap.size, 2, none⟩ = some (.int .i64 ef) ∧ w'.cell? ⟨w.heap.size, 3, none⟩ = some (.int .i64 ec) ∧ w'.cell? ⟨w.heap.size, 4, none⟩ = some (.int .u16 (m : Int)) ∧ w'.cell? ⟨w.heap.size, 5, none⟩ = some (.bool b))
    (first | go_keep)
    ((first | (go_at_call 48; refine (FI.out W0.drew).mono ?_; rintro e w1 ⟨rfl, hb⟩; have HA1 := Lib.hid (show CellsAt w1 w.heap.size (kI f c ef ec m b) from (drewC HA.out).step hb); have HZ1 := Lib.hid (show CellsAt w1 (w.heap.size + 1) z10 from (drewC HZ.out).step hb); have HB1 := Lib.hid (show Below w.heap.size w w1 from (drewB HB.out).trans (hb.mono (drewB HB.out).size)); clear hb; have q0 := HA1.out.cell 0 _ rfl; have q1 := HA1.out.cell 1 _ rfl; have q2 := HA1.out.cell 2 _ rfl; have q3 := HA1.out.cell 3 _ rfl; have q4 := HA1.out.cell 4 _ rfl; have q5 := HA1.out.cell 5 _ rfl; have hl1 := HA1.out.lt) | (go_at_call 48; refine (FI.out (W0.alloc (.cells z10.toArray 59)).drew).mono ?_; rintro e w1 ⟨rfl, hb⟩; have HA1 := Lib.hid (show CellsAt w1 w.heap.size (kI f c ef ec m b) from (drewC (HA.out.alloc (.cells z10.toArray 59))).step hb); have HZ1 := Lib.hid (show CellsAt w1 (w.heap.size + 1) z10 from (drewC (HZ.out.alloc (.cells z10.toArray 59))).step hb); have HB1 := Lib.hid (show Below w.heap.size w w1 from (drewB (HB.out.alloc HB.out.size (.cells z10.toArray 59))).trans (hb.mono (drewB (HB.out.alloc HB.out.size (.cells z10.toArray 59))).size)); have HN1 := Lib.hid (show CellsAt w1 W0.heap.size z10 from (drewC (CellsAt.new W0 z10 59)).step hb); clear hb; have q0 := HA1.out.cell 0 _ rfl; have q1 := HA1.out.cell 1 _ rfl; have q2 := HA1.out.cell 2 _ rfl; have q3 := HA1.out.cell 3 _ rfl; have q4 := HA1.out.cell 4 _ rfl; have q5 := HA1.out.cell 5 _ rfl; have n0 := HN1.out.cell 0 _ rfl; have m0 := HN1.out.free 0; have n1 := HN1.out.cell 1 _ rfl; have m1 := HN1.out.free 1; have n2 := HN1.out.cell 2 _ rfl; have m2 := HN1.out.free 2; have n3 := HN1.out.cell 3 _ rfl; have m3 := HN1.out.free 3; have n4 := HN1.out.cell 4 _ rfl; have m4 := HN1.out.free 4; have n5 := HN1.out.cell 5 _ rfl; have m5 := HN1.out.free 5; have n6 := HN1.out.cell 6 _ rfl; have m6 := HN1.out.free 6; have n7 := HN1.out.cell 7 _ rfl; have m7 := HN1.out.free 7; have n8 := HN1.out.cell 8 _ rfl; have m8 := HN1.out.free 8; have n9 := HN1.out.cell 9 _ rfl; have m9 := HN1.out.free 9; have hln := HN1.out.lt; have hl1 := HA1.out.lt)))
  · have K1 := Lib.hid (show KgIn w (w1.alloc (.cells #[.int .i64 f, .int .i64 c, .int .i64 ef, .int .i64 ec, .int .u16 (m : Int), .bool b, .int .i64 t, .int .u8 (lt : Int), .bool fo, .nilFunc] 59)) w1.heap.size (kI f c ef ec m b) (kk f c ef ec m b t lt fo .nilFunc) from ⟨HA1.out.alloc _, HZ1.out.alloc _, CellsAt.new w1 (kk f c ef ec m b t lt fo .nilFunc) 59, HZ1.out.lt, HB1.out.alloc HB1.out.size _⟩)
    generalize hx : w1.alloc (.cells #[.int .i64 f, .int .i64 c, .int .i64 ef, .int .i64 ec, .int .u16 (m : Int), .bool b, .int .i64 t, .int .u8 (lt : Int), .bool fo, .nilFunc] 59) = x at K1 ⊢
    generalize hK : w1.heap.size = K at K1 ⊢
    clear q0 q1 q2 q3 q4 q5 r0 r1 r2 r3 r4 r5 hx hK HB HA HZ HA1 HZ1 HB1 hl1 hw0 hne hne2
    have c0 := K1.out.arg.cell 4 _ rfl
    have c1 := K1.out.key.cell 7 _ rfl
    have c2 := K1.out.key.cell 8 _ rfl
    have c3 := K1.out.key.cell 9 _ rfl
    have f3 := K1.out.key.free 9
    have lK := K1.out.lo
    have ne1 : ¬ w.heap.size = K := by omega
    have ne2 : ¬ K = w.heap.size := by omega
    have lx := K1.out.key.lt
    have c0d : x.drew.cell? ⟨w.heap.size, 4, none⟩ = some (.int .u16 (m : Int)) := c0
    have c1d : x.drew.cell? ⟨K, 7, none⟩ = some (.int .u8 (lt : Int)) := c1
    have c2d : x.drew.cell? ⟨K, 8, none⟩ = some (.bool fo) := c2
    go_wp2_with fail
    go_region_held3 (fun w' => w'.cell? ⟨w.heap.size, 4, none⟩ = some (.int .u16 (m : Int)) ∧ w'.cell? ⟨K, 7, none⟩ = some (.int .u8 (lt : Int)) ∧ w'.cell? ⟨K, 8, none⟩ = some (.bool fo))
      (first | go_keep)
      ((first | (go_at_call 33; refine (KI.out _).mono ?_; rintro e w2 ⟨rfl, rfl⟩) | (go_at_call 49; refine (CO.out _).mono ?_; rintro e w2 ⟨fv, rfl, hc, hb⟩; obtain ⟨n, bs, cs, rfl⟩ := hc.shape; have HC := Lib.hid hc; clear hc; have K2 := Lib.hid (KgIn.step K1.out hb); clear hb; have d0 := K2.out.arg.cell 4 _ rfl; have d1 := K2.out.key.cell 7 _ rfl; have d2 := K2.out.key.cell 8 _ rfl; have d3 := K2.out.key.cell 9 _ rfl; have g3 := K2.out.key.free 9; have ly := K2.out.key.lt; have d1s : (w2.setCell ⟨K, 9, none⟩ (.func (.func n) bs cs)).cell? ⟨K, 7, none⟩ = some (.int .u8 (lt : Int)) := (World.cell?_setCell_other _ _ _ _ (by simp)).trans d1; have d2s : (w2.setCell ⟨K, 9, none⟩ (.func (.func n) bs cs)).cell? ⟨K, 8, none⟩ = some (.bool fo) := (World.cell?_setCell_other _ _ _ _ (by simp)).trans d2)))
    have lt0 := K2.out.lo
    have YC := Lib.hid ((HC.out.mono (show K + 1 ≤ x.drew.heap.size from lx)).other (Nat.lt_succ_self K) 9 (.func (.func n) bs cs))
    have Y := Lib.hid (K2.out.fin (.func (.func n) bs cs))
    clear d0 d1 d2 d3 g3 ly d1s d2s K2 K1 c0 c1 c2 c3 f3 c0d c1d c2d lx HC
    generalize w2.setCell ⟨K, 9, none⟩ (.func (.func n) bs cs) = y at Y YC ⊢
    by_cases hx0 : x5 = 0
    · have n5 : ((x5 : Int) != 0) = false := by rw [bne_eq_false_iff_eq]; omega
      have KY := Lib.hid (show KeyH y (K + 1) x5 kd lt fo (.func (.func n) bs cs) from Or.inl ⟨hx0, YC.out⟩)
      clear hx0
      have d4 := Y.out.arg.cell 4 _ rfl
      have k0 := Y.out.key.cell 0 _ rfl
      have k1 := Y.out.key.cell 1 _ rfl
      have k2 := Y.out.key.cell 2 _ rfl
      have k3 := Y.out.key.cell 3 _ rfl
      have k4 := Y.out.key.cell 4 _ rfl
      have k5 := Y.out.key.cell 5 _ rfl
      have k6 := Y.out.key.cell 6 _ rfl
      have k7 := Y.out.key.cell 7 _ rfl
      have k8 := Y.out.key.cell 8 _ rfl
      have k9 := Y.out.key.cell 9 _ rfl
      have r0 := Y.out.res.cell 0 _ rfl
      have s0 := Y.out.res.free 0
      have r1 := Y.out.res.cell 1 _ rfl
      have s1 := Y.out.res.free 1
      have r2 := Y.out.res.cell 2 _ rfl
      have s2 := Y.out.res.free 2
      have r3 := Y.out.res.cell 3 _ rfl
      have s3 := Y.out.res.free 3
      have r4 := Y.out.res.cell 4 _ rfl
      have s4 := Y.out.res.free 4
      have r5 := Y.out.res.cell 5 _ rfl
      have s5 := Y.out.res.free 5
      have r6 := Y.out.res.cell 6 _ rfl
      have s6 := Y.out.res.free 6
      have r7 := Y.out.res.cell 7 _ rfl
      have s7 := Y.out.res.free 7
      have r8 := Y.out.res.cell 8 _ rfl
      have s8 := Y.out.res.free 8
      have r9 := Y.out.res.cell 9 _ rfl
      have s9 := Y.out.res.free 9
      have lr := Y.out.res.lt
      have ne3 : ¬ w.heap.size + 1 = K := by omega
      have ne4 : ¬ K = w.heap.size + 1 := by omega
      have Q := Y.out.res.ten rfl (.int .i64 f) (.int .i64 c) (.int .i64 ef) (.int .i64 ec) (.int .u16 (m : Int)) (.bool b) (.int .i64 t) (.int .u8 (lt : Int)) (.bool fo) (.func (.func n) bs cs)
      have e0 := Q.cell 0 _ rfl
      have e1 := Q.cell 1 _ rfl
      have e2 := Q.cell 2 _ rfl
      have e3 := Q.cell 3 _ rfl
      have e4 := Q.cell 4 _ rfl
      have e5 := Q.cell 5 _ rfl
      have e6 := Q.cell 6 _ rfl
      have e7 := Q.cell 7 _ rfl
      have e8 := Q.cell 8 _ rfl
      have e9 := Q.cell 9 _ rfl
      have HQ := Lib.hid (below_ten Y.out.below (Nat.le_succ _) (.int .i64 f) (.int .i64 c) (.int .i64 ef) (.int .i64 ec) (.int .u16 (m : Int)) (.bool b) (.int .i64 t) (.int .u8 (lt : Int)) (.bool fo) (.func (.func n) bs cs))
      have HK := Lib.hid ((KY.out.ten (show w.heap.size + 1 < K + 1 by omega) (.int .i64 f) (.int .i64 c) (.int .i64 ef) (.int .i64 ec) (.int .u16 (m : Int)) (.bool b) (.int .i64 t) (.int .u8 (lt : Int)) (.bool fo) (.func (.func n) bs cs)).mono (show w.heap.size ≤ K + 1 by omega))
      clear Q
      go_wp2_with fail
      exact bodyPost_ret (v := .agg #[.int .i64 f, .int .i64 c, .int .i64 ef, .int .i64 ec, .int .u16 (m : Int), .bool b, .int .i64 t, .int .u8 (lt : Int), .bool fo, .func (.func n) bs cs]) (by simp [results, Tryz.results32, go_sem, e0, e1, e2, e3, e4, e5, e6, e7, e8, e9]) rfl ⟨_, rfl, HK.out, HQ.out⟩
    · have n5 : ((x5 : Int) != 0) = true := by rw [bne_iff_ne]; omega
      have d4 := Y.out.arg.cell 4 _ rfl
      have k9 := Y.out.key.cell 9 _ rfl
      have HX := Lib.hid hx0
      clear hx0
      go_wp2_with fail
      refine (turned_ok n bs cs _).mono ?_
      rintro e z1 ⟨fv, rfl, ⟨tb, htb, rfl, htc⟩, hb⟩
      have ZC := Lib.hid ((YC.out.step hb).other (Nat.lt_succ_self K) 9 (.func (.func 82) #[] #[.pointer (some ⟨tb, 0, none⟩)]))
      have KY := Lib.hid (show KeyH (z1.setCell ⟨K, 9, none⟩ (.func (.func 82) #[] #[.pointer (some ⟨tb, 0, none⟩)])) (K + 1) x5 kd lt fo (.func (.func 82) #[] #[.pointer (some ⟨tb, 0, none⟩)]) from Or.inr ⟨HX.out, _, ZC.out, tb, (show K + 1 ≤ tb by have := Y.out.key.lt; omega), rfl, htc.other (by have := Y.out.key.lt; omega) 9 _⟩)
      have Z := Lib.hid (Y.out.on hb)
      have Y2 := Lib.hid (Y.out.turn hb (.func (.func 82) #[] #[.pointer (some ⟨tb, 0, none⟩)]))
      clear Y YC ZC HX htb htc hb d4 k9
      have k0 := Z.out.key.cell 0 _ rfl
      have k1 := Z.out.key.cell 1 _ rfl
      have k2 := Z.out.key.cell 2 _ rfl
      have k3 := Z.out.key.cell 3 _ rfl
      have k4 := Z.out.key.cell 4 _ rfl
      have k5 := Z.out.key.cell 5 _ rfl
      have k6 := Z.out.key.cell 6 _ rfl
      have k7 := Z.out.key.cell 7 _ rfl
      have k8 := Z.out.key.cell 8 _ rfl
      have k9 := Z.out.key.cell 9 _ rfl
      have r0 := Z.out.res.cell 0 _ rfl
      have s0 := Z.out.res.free 0
      have r1 := Z.out.res.cell 1 _ rfl
      have s1 := Z.out.res.free 1
      have r2 := Z.out.res.cell 2 _ rfl
      have s2 := Z.out.res.free 2
      have r3 := Z.out.res.cell 3 _ rfl
      have s3 := Z.out.res.free 3
      have r4 := Z.out.res.cell 4 _ rfl
      have s4 := Z.out.res.free 4
      have r5 := Z.out.res.cell 5 _ rfl
      have s5 := Z.out.res.free 5
      have r6 := Z.out.res.cell 6 _ rfl
      have s6 := Z.out.res.free 6
      have r7 := Z.out.res.cell 7 _ rfl
      have s7 := Z.out.res.free 7
      have r8 := Z.out.res.cell 8 _ rfl
      have s8 := Z.out.res.free 8
      have r9 := Z.out.res.cell 9 _ rfl
      have s9 := Z.out.res.free 9
      have p9 := Z.out.key.free 9
      have l9 := Z.out.key.lt
      have lr := Z.out.res.lt
      have ne3 : ¬ w.heap.size + 1 = K := by omega
      have ne4 : ¬ K = w.heap.size + 1 := by omega
      have Q := Y2.out.res.ten rfl (.int .i64 f) (.int .i64 c) (.int .i64 ef) (.int .i64 ec) (.int .u16 (m : Int)) (.bool b) (.int .i64 t) (.int .u8 (lt : Int)) (.bool fo) (.func (.func 82) #[] #[.pointer (some ⟨tb, 0, none⟩)])
      have e0 := Q.cell 0 _ rfl
      have e1 := Q.cell 1 _ rfl
      have e2 := Q.cell 2 _ rfl
      have e3 := Q.cell 3 _ rfl
      have e4 := Q.cell 4 _ rfl
      have e5 := Q.cell 5 _ rfl
      have e6 := Q.cell 6 _ rfl
      have e7 := Q.cell 7 _ rfl
      have e8 := Q.cell 8 _ rfl
      have e9 := Q.cell 9 _ rfl
      have HQ := Lib.hid (below_ten Y2.out.below (Nat.le_succ _) (.int .i64 f) (.int .i64 c) (.int .i64 ef) (.int .i64 ec) (.int .u16 (m : Int)) (.bool b) (.int .i64 t) (.int .u8 (lt : Int)) (.bool fo) (.func (.func 82) #[] #[.pointer (some ⟨tb, 0, none⟩)]))
      have HK := Lib.hid ((KY.out.ten (show w.heap.size + 1 < K + 1 by omega) (.int .i64 f) (.int .i64 c) (.int .i64 ef) (.int .i64 ec) (.int .u16 (m : Int)) (.bool b) (.int .i64 t) (.int .u8 (lt : Int)) (.bool fo) (.func (.func 82) #[] #[.pointer (some ⟨tb, 0, none⟩)])).mono (show w.heap.size ≤ K + 1 by omega))
      clear Q
      go_wp2_with fail
      exact bodyPost_ret (v := .agg #[.int .i64 f, .int .i64 c, .int .i64 ef, .int .i64 ec, .int .u16 (m : Int), .bool b, .int .i64 t, .int .u8 (lt : Int), .bool fo, .func (.func 82) #[] #[.pointer (some ⟨tb, 0, none⟩)]]) (by simp [results, Tryz.results32, go_sem, e0, e1, e2, e3, e4, e5, e6, e7, e8, e9]) rfl ⟨_, rfl, HK.out, HQ.out⟩
  · have K1 := Lib.hid (show KgIn w ((((((((((w1.setCell ⟨W0.heap.size, 0, none⟩ (.int .i64 f)).setCell ⟨W0.heap.size, 1, none⟩ (.int .i64 c)).setCell ⟨W0.heap.size, 2, none⟩ (.int .i64 ef)).setCell ⟨W0.heap.size, 3, none⟩ (.int .i64 ec)).setCell ⟨W0.heap.size, 4, none⟩ (.int .u16 (m : Int))).setCell ⟨W0.heap.size, 5, none⟩ (.bool b)).setCell ⟨W0.heap.size, 6, none⟩ (.int .i64 t)).setCell ⟨W0.heap.size, 7, none⟩ (.int .u8 (lt : Int))).setCell ⟨W0.heap.size, 8, none⟩ (.bool fo)).setCell ⟨W0.heap.size, 9, none⟩ (.nilFunc)) W0.heap.size (kI f c ef ec m b) (kk f c ef ec m b t lt fo .nilFunc) from ⟨HA1.out.tenOther (by omega) (.int .i64 f) (.int .i64 c) (.int .i64 ef) (.int .i64 ec) (.int .u16 (m : Int)) (.bool b) (.int .i64 t) (.int .u8 (lt : Int)) (.bool fo) .nilFunc, HZ1.out.tenOther (by have := HZ.out.lt; omega) (.int .i64 f) (.int .i64 c) (.int .i64 ef) (.int .i64 ec) (.int .u16 (m : Int)) (.bool b) (.int .i64 t) (.int .u8 (lt : Int)) (.bool fo) .nilFunc, HN1.out.ten rfl (.int .i64 f) (.int .i64 c) (.int .i64 ef) (.int .i64 ec) (.int .u16 (m : Int)) (.bool b) (.int .i64 t) (.int .u8 (lt : Int)) (.bool fo) .nilFunc, HZ.out.lt, below_ten HB1.out (by omega) (.int .i64 f) (.int .i64 c) (.int .i64 ef) (.int .i64 ec) (.int .u16 (m : Int)) (.bool b) (.int .i64 t) (.int .u8 (lt : Int)) (.bool fo) .nilFunc⟩)
    generalize hx : ((((((((((w1.setCell ⟨W0.heap.size, 0, none⟩ (.int .i64 f)).setCell ⟨W0.heap.size, 1, none⟩ (.int .i64 c)).setCell ⟨W0.heap.size, 2, none⟩ (.int .i64 ef)).setCell ⟨W0.heap.size, 3, none⟩ (.int .i64 ec)).setCell ⟨W0.heap.size, 4, none⟩ (.int .u16 (m : Int))).setCell ⟨W0.heap.size, 5, none⟩ (.bool b)).setCell ⟨W0.heap.size, 6, none⟩ (.int .i64 t)).setCell ⟨W0.heap.size, 7, none⟩ (.int .u8 (lt : Int))).setCell ⟨W0.heap.size, 8, none⟩ (.bool fo)).setCell ⟨W0.heap.size, 9, none⟩ (.nilFunc)) = x at K1 ⊢
    generalize hK : W0.heap.size = K at K1 ⊢
    clear q0 q1 q2 q3 q4 q5 r0 r1 r2 r3 r4 r5 hx hK HB HA HZ HA1 HZ1 HB1 hl1 hw0 hne hne2 n0 m0 n1 m1 n2 m2 n3 m3 n4 m4 n5 m5 n6 m6 n7 m7 n8 m8 n9 m9 HN1 hln
    have c0 := K1.out.arg.cell 4 _ rfl
    have c1 := K1.out.key.cell 7 _ rfl
    have c2 := K1.out.key.cell 8 _ rfl
    have c3 := K1.out.key.cell 9 _ rfl
    have f3 := K1.out.key.free 9
    have lK := K1.out.lo
    have ne1 : ¬ w.heap.size = K := by omega
    have ne2 : ¬ K = w.heap.size := by omega
    have lx := K1.out.key.lt
    have c0d : x.drew.cell? ⟨w.heap.size, 4, none⟩ = some (.int .u16 (m : Int)) := c0
    have c1d : x.drew.cell? ⟨K, 7, none⟩ = some (.int .u8 (lt : Int)) := c1
    have c2d : x.drew.cell? ⟨K, 8, none⟩ = some (.bool fo) := c2
    go_wp2_with fail
    go_region_held3 (fun w' => w'.cell? ⟨w.heap.size, 4, none⟩ = some (.int .u16 (m : Int)) ∧ w'.cell? ⟨K, 7, none⟩ = some (.int .u8 (lt : Int)) ∧ w'.cell? ⟨K, 8, none⟩ = some (.bool fo))
      (first | go_keep)
      ((first | (go_at_call 33; refine (KI.out _).mono ?_; rintro e w2 ⟨rfl, rfl⟩) | (go_at_call 49; refine (CO.out _).mono ?_; rintro e w2 ⟨fv, rfl, hc, hb⟩; obtain ⟨n, bs, cs, rfl⟩ := hc.shape; have HC := Lib.hid hc; clear hc; have K2 := Lib.hid (KgIn.step K1.out hb); clear hb; have d0 := K2.out.arg.cell 4 _ rfl; have d1 := K2.out.key.cell 7 _ rfl; have d2 := K2.out.key.cell 8 _ rfl; have d3 := K2.out.key.cell 9 _ rfl; have g3 := K2.out.key.free 9; have ly := K2.out.key.lt; have d1s : (w2.setCell ⟨K, 9, none⟩ (.func (.func n) bs cs)).cell? ⟨K, 7, none⟩ = some (.int .u8 (lt : Int)) := (World.cell?_setCell_other _ _ _ _ (by simp)).trans d1; have d2s : (w2.setCell ⟨K, 9, none⟩ (.func (.func n) bs cs)).cell? ⟨K, 8, none⟩ = some (.bool fo) := (World.cell?_setCell_other _ _ _ _ (by simp)).trans d2)))
    have lt0 := K2.out.lo
    have YC := Lib.hid ((HC.out.mono (show K + 1 ≤ x.drew.heap.size from lx)).other (Nat.lt_succ_self K) 9 (.func (.func n) bs cs))
    have Y := Lib.hid (K2.out.fin (.func (.func n) bs cs))
    clear d0 d1 d2 d3 g3 ly d1s d2s K2 K1 c0 c1 c2 c3 f3 c0d c1d c2d lx HC
    generalize w2.setCell ⟨K, 9, none⟩ (.func (.func n) bs cs) = y at Y YC ⊢
    by_cases hx0 : x5 = 0
    · have n5 : ((x5 : Int) != 0) = false := by rw [bne_eq_false_iff_eq]; omega
      have KY := Lib.hid (show KeyH y (K + 1) x5 kd lt fo (.func (.func n) bs cs) from Or.inl ⟨hx0, YC.out⟩)
      clear hx0
      have d4 := Y.out.arg.cell 4 _ rfl
      have k0 := Y.out.key.cell 0 _ rfl
      have k1 := Y.out.key.cell 1 _ rfl
      have k2 := Y.out.key.cell 2 _ rfl
      have k3 := Y.out.key.cell 3 _ rfl
      have k4 := Y.out.key.cell 4 _ rfl
      have k5 := Y.out.key.cell 5 _ rfl
      have k6 := Y.out.key.cell 6 _ rfl
      have k7 := Y.out.key.cell 7 _ rfl
      have k8 := Y.out.key.cell 8 _ rfl
      have k9 := Y.out.key.cell 9 _ rfl
      have r0 := Y.out.res.cell 0 _ rfl
      have s0 := Y.out.res.free 0
      have r1 := Y.out.res.cell 1 _ rfl
      have s1 := Y.out.res.free 1
      have r2 := Y.out.res.cell 2 _ rfl
      have s2 := Y.out.res.free 2
      have r3 := Y.out.res.cell 3 _ rfl
      have s3 := Y.out.res.free 3
      have r4 := Y.out.res.cell 4 _ rfl
      have s4 := Y.out.res.free 4
      have r5 := Y.out.res.cell 5 _ rfl
      have s5 := Y.out.res.free 5
      have r6 := Y.out.res.cell 6 _ rfl
      have s6 := Y.out.res.free 6
      have r7 := Y.out.res.cell 7 _ rfl
      have s7 := Y.out.res.free 7
      have r8 := Y.out.res.cell 8 _ rfl
      have s8 := Y.out.res.free 8
      have r9 := Y.out.res.cell 9 _ rfl
      have s9 := Y.out.res.free 9
      have lr := Y.out.res.lt
      have ne3 : ¬ w.heap.size + 1 = K := by omega
      have ne4 : ¬ K = w.heap.size + 1 := by omega
      have Q := Y.out.res.ten rfl (.int .i64 f) (.int .i64 c) (.int .i64 ef) (.int .i64 ec) (.int .u16 (m : Int)) (.bool b) (.int .i64 t) (.int .u8 (lt : Int)) (.bool fo) (.func (.func n) bs cs)
      have e0 := Q.cell 0 _ rfl
      have e1 := Q.cell 1 _ rfl
      have e2 := Q.cell 2 _ rfl
      have e3 := Q.cell 3 _ rfl
      have e4 := Q.cell 4 _ rfl
      have e5 := Q.cell 5 _ rfl
      have e6 := Q.cell 6 _ rfl
      have e7 := Q.cell 7 _ rfl
      have e8 := Q.cell 8 _ rfl
      have e9 := Q.cell 9 _ rfl
      have HQ := Lib.hid (below_ten Y.out.below (Nat.le_succ _) (.int .i64 f) (.int .i64 c) (.int .i64 ef) (.int .i64 ec) (.int .u16 (m : Int)) (.bool b) (.int .i64 t) (.int .u8 (lt : Int)) (.bool fo) (.func (.func n) bs cs))
      have HK := Lib.hid ((KY.out.ten (show w.heap.size + 1 < K + 1 by omega) (.int .i64 f) (.int .i64 c) (.int .i64 ef) (.int .i64 ec) (.int .u16 (m : Int)) (.bool b) (.int .i64 t) (.int .u8 (lt : Int)) (.bool fo) (.func (.func n) bs cs)).mono (show w.heap.size ≤ K + 1 by omega))
      clear Q
      go_wp2_with fail
      exact bodyPost_ret (v := .agg #[.int .i64 f, .int .i64 c, .int .i64 ef, .int .i64 ec, .int .u16 (m : Int), .bool b, .int .i64 t, .int .u8 (lt : Int), .bool fo, .func (.func n) bs cs]) (by simp [results, Tryz.results32, go_sem, e0, e1, e2, e3, e4, e5, e6, e7, e8, e9]) rfl ⟨_, rfl, HK.out, HQ.out⟩
    · have n5 : ((x5 : Int) != 0) = true := by rw [bne_iff_ne]; omega
      have d4 := Y.out.arg.cell 4 _ rfl
      have k9 := Y.out.key.cell 9 _ rfl
      have HX := Lib.hid hx0
      clear hx0
      go_wp2_with fail
      refine (turned_ok n bs cs _).mono ?_
      rintro e z1 ⟨fv, rfl, ⟨tb, htb, rfl, htc⟩, hb⟩
      have ZC := Lib.hid ((YC.out.step hb).other (Nat.lt_succ_self K) 9 (.func (.func 82) #[] #[.pointer (some ⟨tb, 0, none⟩)]))
      have KY := Lib.hid (show KeyH (z1.setCell ⟨K, 9, none⟩ (.func (.func 82) #[] #[.pointer (some ⟨tb, 0, none⟩)])) (K + 1) x5 kd lt fo (.func (.func 82) #[] #[.pointer (some ⟨tb, 0, none⟩)]) from Or.inr ⟨HX.out, _, ZC.out, tb, (show K + 1 ≤ tb by have := Y.out.key.lt; omega), rfl, htc.other (by have := Y.out.key.lt; omega) 9 _⟩)
      have Z := Lib.hid (Y.out.on hb)
      have Y2 := Lib.hid (Y.out.turn hb (.func (.func 82) #[] #[.pointer (some ⟨tb, 0, none⟩)]))
      clear Y YC ZC HX htb htc hb d4 k9
      have k0 := Z.out.key.cell 0 _ rfl
      have k1 := Z.out.key.cell 1 _ rfl
      have k2 := Z.out.key.cell 2 _ rfl
      have k3 := Z.out.key.cell 3 _ rfl
      have k4 := Z.out.key.cell 4 _ rfl
      have k5 := Z.out.key.cell 5 _ rfl
      have k6 := Z.out.key.cell 6 _ rfl
      have k7 := Z.out.key.cell 7 _ rfl
      have k8 := Z.out.key.cell 8 _ rfl
      have k9 := Z.out.key.cell 9 _ rfl
      have r0 := Z.out.res.cell 0 _ rfl
      have s0 := Z.out.res.free 0
      have r1 := Z.out.res.cell 1 _ rfl
      have s1 := Z.out.res.free 1
      have r2 := Z.out.res.cell 2 _ rfl
      have s2 := Z.out.res.free 2
      have r3 := Z.out.res.cell 3 _ rfl
      have s3 := Z.out.res.free 3
      have r4 := Z.out.res.cell 4 _ rfl
      have s4 := Z.out.res.free 4
      have r5 := Z.out.res.cell 5 _ rfl
      have s5 := Z.out.res.free 5
      have r6 := Z.out.res.cell 6 _ rfl
      have s6 := Z.out.res.free 6
      have r7 := Z.out.res.cell 7 _ rfl
      have s7 := Z.out.res.free 7
      have r8 := Z.out.res.cell 8 _ rfl
      have s8 := Z.out.res.free 8
      have r9 := Z.out.res.cell 9 _ rfl
      have s9 := Z.out.res.free 9
      have p9 := Z.out.key.free 9
      have l9 := Z.out.key.lt
      have lr := Z.out.res.lt
      have ne3 : ¬ w.heap.size + 1 = K := by omega
      have ne4 : ¬ K = w.heap.size + 1 := by omega
      have Q := Y2.out.res.ten rfl (.int .i64 f) (.int .i64 c) (.int .i64 ef) (.int .i64 ec) (.int .u16 (m : Int)) (.bool b) (.int .i64 t) (.int .u8 (lt : Int)) (.bool fo) (.func (.func 82) #[] #[.pointer (some ⟨tb, 0, none⟩)])
      have e0 := Q.cell 0 _ rfl
      have e1 := Q.cell 1 _ rfl
      have e2 := Q.cell 2 _ rfl
      have e3 := Q.cell 3 _ rfl
      have e4 := Q.cell 4 _ rfl
      have e5 := Q.cell 5 _ rfl
      have e6 := Q.cell 6 _ rfl
      have e7 := Q.cell 7 _ rfl
      have e8 := Q.cell 8 _ rfl
      have e9 := Q.cell 9 _ rfl
      have HQ := Lib.hid (below_ten Y2.out.below (Nat.le_succ _) (.int .i64 f) (.int .i64 c) (.int .i64 ef) (.int .i64 ec) (.int .u16 (m : Int)) (.bool b) (.int .i64 t) (.int .u8 (lt : Int)) (.bool fo) (.func (.func 82) #[] #[.pointer (some ⟨tb, 0, none⟩)]))
      have HK := Lib.hid ((KY.out.ten (show w.heap.size + 1 < K + 1 by omega) (.int .i64 f) (.int .i64 c) (.int .i64 ef) (.int .i64 ec) (.int .u16 (m : Int)) (.bool b) (.int .i64 t) (.int .u8 (lt : Int)) (.bool fo) (.func (.func 82) #[] #[.pointer (some ⟨tb, 0, none⟩)])).mono (show w.heap.size ≤ K + 1 by omega))
      clear Q
      go_wp2_with fail
      exact bodyPost_ret (v := .agg #[.int .i64 f, .int .i64 c, .int .i64 ef, .int .i64 ec, .int .u16 (m : Int), .bool b, .int .i64 t, .int .u8 (lt : Int), .bool fo, .func (.func 82) #[] #[.pointer (some ⟨tb, 0, none⟩)]]) (by simp [results, Tryz.results32, go_sem, e0, e1, e2, e3, e4, e5, e6, e7, e8, e9]) rfl ⟨_, rfl, HK.out, HQ.out⟩
/-- What keyOf makes of a key. -/
theorem keyOf_ok (K : KeyL) (t : Int) (hm : K.m < 65536) (w : World) :
    Calls Tryz.prog 32 #[.agg #[.int .i64 K.f, .int .i64 K.c, .int .i64 K.ef, .int .i64 K.ec, .int .u16 (K.m : Int), .bool K.b], .int .i64 t] w (RetKy w K.f K.c K.ef K.ec K.m K.b t (K.m &&& 512) (K.m &&& 496) (letsS K.m) (foldS K.m)) :=
  keyOf_g _ _ _ _ _ _ _ _ _ _ _ _ (Lib.hid (fun w => filter_ok K.m hm w)) (Lib.hid (fun w => kind_ok K.m hm w)) (Lib.hid (fun w => comparison_ok _ _ _ w)) (and_nat K.m 512 hm (by omega))
end Go.Proofs.YtnpnccjeapejdaaGreatDoor
