/- The table of texts, as the program makes it; textOf. -/
import Derived.Test.YtlohgcdonenmeaaDoorDe
import Derived.Maps.OwnOps
import Derived.Maps.OwnSet
namespace Go.Proofs.YtlohgcdonenmeaaDoor
open Go.RowKit Go.Maps
set_option maxRecDepth 100000

/-- The errors that have a text. -/
def tx : List (Int × List UInt8) := [(3, [100, 101, 118, 105, 99, 101, 32, 101, 114, 114, 111, 114]), (4, [110, 111, 32, 112, 111, 119, 101, 114]), (5, [105, 110, 116, 101, 114, 114, 117, 112, 116, 101, 100]), (10, [98, 97, 100, 32, 110, 97, 109, 101]), (11, [102, 105, 108, 101, 32, 101, 120, 105, 115, 116, 115]), (12, [110, 111, 32, 115, 117, 99, 104, 32, 102, 105, 108, 101]), (13, [102, 105, 108, 101, 32, 105, 115, 32, 111, 112, 101, 110]), (14, [116, 111, 111, 32, 109, 97, 110, 121, 32, 102, 105, 108, 101, 115]), (15, [116, 111, 111, 32, 109, 97, 110, 121, 32, 111, 112, 101, 110, 32, 102, 105, 108, 101, 115]), (18, [110, 111, 32, 115, 112, 97, 99, 101, 32, 108, 101, 102, 116]), (22, [108, 105, 110, 101, 32, 116, 111, 111, 32, 108, 111, 110, 103]), (40, [117, 110, 107, 110, 111, 119, 110, 32, 111, 112, 116, 105, 111, 110]), (41, [111, 112, 116, 105, 111, 110, 32, 110, 101, 101, 100, 115, 32, 97, 32, 118, 97, 108, 117, 101]), (42, [111, 112, 116, 105, 111, 110, 32, 116, 97, 107, 101, 115, 32, 110, 111, 32, 118, 97, 108, 117, 101]), (43, [98, 97, 100, 32, 107, 101, 121]), (44, [98, 97, 100, 32, 110, 117, 109, 98, 101, 114]), (45, [98, 97, 100, 32, 102, 105, 101, 108, 100, 32, 115, 101, 112, 97, 114, 97, 116, 111, 114]), (46, [111, 112, 116, 105, 111, 110, 115, 32, 100, 111, 32, 110, 111, 116, 32, 103, 111, 32, 116, 111, 103, 101, 116, 104, 101, 114]), (47, [97, 109, 98, 105, 103, 117, 111, 117, 115, 32, 111, 112, 116, 105, 111, 110]), (48, [109, 111, 100, 105, 102, 105, 101, 114, 115, 32, 100, 111, 32, 110, 111, 116, 32, 103, 111, 32, 116, 111, 103, 101, 116, 104, 101, 114]), (49, [98, 97, 100, 32, 111, 112, 101, 114, 97, 110, 100]), (71, [116, 101, 109, 112, 111, 114, 97, 114, 121, 32, 102, 105, 108, 101, 32, 116, 111, 114, 110]), (72, [116, 101, 109, 112, 111, 114, 97, 114, 121, 32, 102, 105, 108, 101, 32, 115, 112, 111, 105, 108, 116]), (111, [110, 111, 32, 102, 114, 101, 101, 32, 110, 97, 109, 101]), (112, [98, 97, 100, 32, 99, 104, 101, 99, 107, 112, 111, 105, 110, 116]), (113, [99, 104, 101, 99, 107, 112, 111, 105, 110, 116, 32, 111, 102, 32, 97, 110, 111, 116, 104, 101, 114, 32, 106, 111, 98])]
def heldR : Value → Option (DataW Value × List MemPlace) := fun v => some (.held v, [])
theorem wpList_insert_own {H : Type} {P : Program} (w : World) {ops : Array Oper} {rest : List Oper} {o : Oper} {a : Act} {Q : Exit → Act → World → Prop}
    (hg : o.guard = none) (m x v : Operand) (t : TypeId) (hop : o.op = Op.insert t m x v)
    (k e : TypeId) (K : Keyed P k) (ht : P.underlying t = some (.map k e)) (R : Value → Option (DataW H × List MemPlace)) (b n : Nat) (D : DataW H)
    (hm : a.eval m = .map (some b)) (hown : w.ownsMap P k R b n D) (hn : n < maxLen) (key val : Value) (kl : Lit) (hx : a.eval x = key) (hv : a.eval v = val) (hkey : keyOf P k key = some kl)
    (d : DataW H) (ps : List MemPlace) (hval : R val = some (d, ps)) (D' : DataW H) (hD : D.put kl d = D')
    (hK : ∀ w', w'.ownsMap P k R b (n + 1) D' → w.grownBy w' (some b) → wpList P ops Q rest (a.put o.dst undef) w') :
    wpList P ops Q (o :: rest) a w := by
  refine wpList_plain hg fun K' hK' => ?_
  obtain ⟨w', hrun, r1, r2⟩ := hown.update K ht hn hkey hval
  unfold Oper.wp
  simp [execOp, hop, hm, hx, hv, hrun, Result.andThen]
  exact hK' _ _ (hK w' (hD ▸ r1) r2)
theorem K26 : Keyed Tryd.prog 26 := int_keyed Tryd.underlying26
def txE (p : Int × List UInt8) : Lit × DataW Value := (.int .i64 p.1, .held (.agg #[.string (bs p.2)]))
def txD (n : Nat) : DataW Value := .map ((tx.take n).map txE)
theorem below_map {w w' : World} {B b : Nat} (g : w.grownBy w' (some b)) (hb : B ≤ b) (hB : B ≤ w.heap.size) : Below B w w' :=
  (Below.refl B w).grown g hB (fun k hk => by cases hk; exact hb)
set_option maxHeartbeats 4000000 in
theorem texts_ok (w : World) : Calls Tryd.prog 19 #[] w fun e w' => e = .returned (.map (some w.heap.size)) ∧ w'.ownsMap Tryd.prog 26 heldR w.heap.size 26 (txD 26) ∧ Below w.heap.size w w' := by
  have hmm := @run_makeMap Tryd.prog
  have own0 : (w.alloc (.map #[] 0)).ownsMap Tryd.prog 26 heldR w.heap.size 0 (txD 0) := World.ownsMap_made _ _ _ _
  have H0 := Lib.hid own0
  have B0 := Lib.hid (below_alloc w (.map #[] 0))
  clear own0
  go_enter Tryd.func19, Tryd.ntmps19
  go_wp2_with (guard_target =~ wpList _ _ _ (⟨none, Op.insert 47 _ _ _, _, _, _, _⟩ :: _) _ _; refine wpList_insert_own _ rfl _ _ _ 47 rfl 26 45 K26 Tryd.underlying47 heldR w.heap.size 0 (txD 0) rfl H0.out (by decide) _ _ (.int .i64 3) rfl rfl rfl _ [] rfl (txD 1) (by kernel_rfl) ?_)
  intro w1 o g
  have B1 := Lib.hid (B0.out.trans (below_map g (Nat.le_refl _) B0.out.size))
  have H1 := Lib.hid o
  clear o g H0 B0
  clear hmm
  go_wp2_with (guard_target =~ wpList _ _ _ (⟨none, Op.insert 47 _ _ _, _, _, _, _⟩ :: _) _ _; refine wpList_insert_own _ rfl _ _ _ 47 rfl 26 45 K26 Tryd.underlying47 heldR w.heap.size 1 (txD 1) rfl H1.out (by decide) _ _ (.int .i64 4) rfl rfl rfl _ [] rfl (txD 2) (by kernel_rfl) ?_)
  intro w2 o g
  have B2 := Lib.hid (B1.out.trans (below_map g (Nat.le_refl _) B1.out.size))
  have H2 := Lib.hid o
  clear o g H1 B1
  go_wp2_with (guard_target =~ wpList _ _ _ (⟨none, Op.insert 47 _ _ _, _, _, _, _⟩ :: _) _ _; refine wpList_insert_own _ rfl _ _ _ 47 rfl 26 45 K26 Tryd.underlying47 heldR w.heap.size 2 (txD 2) rfl H2.out (by decide) _ _ (.int .i64 5) rfl rfl rfl _ [] rfl (txD 3) (by kernel_rfl) ?_)
  intro w3 o g
  have B3 := Lib.hid (B2.out.trans (below_map g (Nat.le_refl _) B2.out.size))
  have H3 := Lib.hid o
  clear o g H2 B2
  go_wp2_with (guard_target =~ wpList _ _ _ (⟨none, Op.insert 47 _ _ _, _, _, _, _⟩ :: _) _ _; refine wpList_insert_own _ rfl _ _ _ 47 rfl 26 45 K26 Tryd.underlying47 heldR w.heap.size 3 (txD 3) rfl H3.out (by decide) _ _ (.int .i64 10) rfl rfl rfl _ [] rfl (txD 4) (by kernel_rfl) ?_)
  intro w4 o g
  have B4 := Lib.hid (B3.out.trans (below_map g (Nat.le_refl _) B3.out.size))
  have H4 := Lib.hid o
  clear o g H3 B3
  go_wp2_with (guard_target =~ wpList _ _ _ (⟨none, Op.insert 47 _ _ _, _, _, _, _⟩ :: _) _ _; refine wpList_insert_own _ rfl _ _ _ 47 rfl 26 45 K26 Tryd.underlying47 heldR w.heap.size 4 (txD 4) rfl H4.out (by decide) _ _ (.int .i64 11) rfl rfl rfl _ [] rfl (txD 5) (by kernel_rfl) ?_)
  intro w5 o g
  have B5 := Lib.hid (B4.out.trans (below_map g (Nat.le_refl _) B4.out.size))
  have H5 := Lib.hid o
  clear o g H4 B4
  go_wp2_with (guard_target =~ wpList _ _ _ (⟨none, Op.insert 47 _ _ _, _, _, _, _⟩ :: _) _ _; refine wpList_insert_own _ rfl _ _ _ 47 rfl 26 45 K26 Tryd.underlying47 heldR w.heap.size 5 (txD 5) rfl H5.out (by decide) _ _ (.int .i64 12) rfl rfl rfl _ [] rfl (txD 6) (by kernel_rfl) ?_)
  intro w6 o g
  have B6 := Lib.hid (B5.out.trans (below_map g (Nat.le_refl _) B5.out.size))
  have H6 := Lib.hid o
  clear o g H5 B5
  go_wp2_with (guard_target =~ wpList _ _ _ (⟨none, Op.insert 47 _ _ _, _, _, _, _⟩ :: _) _ _; refine wpList_insert_own _ rfl _ _ _ 47 rfl 26 45 K26 Tryd.underlying47 heldR w.heap.size 6 (txD 6) rfl H6.out (by decide) _ _ (.int .i64 13) rfl rfl rfl _ [] rfl (txD 7) (by kernel_rfl) ?_)
  intro w7 o g
  have B7 := Lib.hid (B6.out.trans (below_map g (Nat.le_refl _) B6.out.size))
  have H7 := Lib.hid o
  clear o g H6 B6
  go_wp2_with (guard_target =~ wpList _ _ _ (⟨none, Op.insert 47 _ _ _, _, _, _, _⟩ :: _) _ _; refine wpList_insert_own _ rfl _ _ _ 47 rfl 26 45 K26 Tryd.underlying47 heldR w.heap.size 7 (txD 7) rfl H7.out (by decide) _ _ (.int .i64 14) rfl rfl rfl _ [] rfl (txD 8) (by kernel_rfl) ?_)
  intro w8 o g
  have B8 := Lib.hid (B7.out.trans (below_map g (Nat.le_refl _) B7.out.size))
  have H8 := Lib.hid o
  clear o g H7 B7
  go_wp2_with (guard_target =~ wpList _ _ _ (⟨none, Op.insert 47 _ _ _, _, _, _, _⟩ :: _) _ _; refine wpList_insert_own _ rfl _ _ _ 47 rfl 26 45 K26 Tryd.underlying47 heldR w.heap.size 8 (txD 8) rfl H8.out (by decide) _ _ (.int .i64 15) rfl rfl rfl _ [] rfl (txD 9) (by kernel_rfl) ?_)
  intro w9 o g
  have B9 := Lib.hid (B8.out.trans (below_map g (Nat.le_refl _) B8.out.size))
  have H9 := Lib.hid o
  clear o g H8 B8
  go_wp2_with (guard_target =~ wpList _ _ _ (⟨none, Op.insert 47 _ _ _, _, _, _, _⟩ :: _) _ _; refine wpList_insert_own _ rfl _ _ _ 47 rfl 26 45 K26 Tryd.underlying47 heldR w.heap.size 9 (txD 9) rfl H9.out (by decide) _ _ (.int .i64 18) rfl rfl rfl _ [] rfl (txD 10) (by kernel_rfl) ?_)
  intro w10 o g
  have B10 := Lib.hid (B9.out.trans (below_map g (Nat.le_refl _) B9.out.size))
  have H10 := Lib.hid o
  clear o g H9 B9
  go_wp2_with (guard_target =~ wpList _ _ _ (⟨none, Op.insert 47 _ _ _, _, _, _, _⟩ :: _) _ _; refine wpList_insert_own _ rfl _ _ _ 47 rfl 26 45 K26 Tryd.underlying47 heldR w.heap.size 10 (txD 10) rfl H10.out (by decide) _ _ (.int .i64 22) rfl rfl rfl _ [] rfl (txD 11) (by kernel_rfl) ?_)
  intro w11 o g
  have B11 := Lib.hid (B10.out.trans (below_map g (Nat.le_refl _) B10.out.size))
  have H11 := Lib.hid o
  clear o g H10 B10
  go_wp2_with (guard_target =~ wpList _ _ _ (⟨none, Op.insert 47 _ _ _, _, _, _, _⟩ :: _) _ _; refine wpList_insert_own _ rfl _ _ _ 47 rfl 26 45 K26 Tryd.underlying47 heldR w.heap.size 11 (txD 11) rfl H11.out (by decide) _ _ (.int .i64 40) rfl rfl rfl _ [] rfl (txD 12) (by kernel_rfl) ?_)
  intro w12 o g
  have B12 := Lib.hid (B11.out.trans (below_map g (Nat.le_refl _) B11.out.size))
  have H12 := Lib.hid o
  clear o g H11 B11
  go_wp2_with (guard_target =~ wpList _ _ _ (⟨none, Op.insert 47 _ _ _, _, _, _, _⟩ :: _) _ _; refine wpList_insert_own _ rfl _ _ _ 47 rfl 26 45 K26 Tryd.underlying47 heldR w.heap.size 12 (txD 12) rfl H12.out (by decide) _ _ (.int .i64 41) rfl rfl rfl _ [] rfl (txD 13) (by kernel_rfl) ?_)
  intro w13 o g
  have B13 := Lib.hid (B12.out.trans (below_map g (Nat.le_refl _) B12.out.size))
  have H13 := Lib.hid o
  clear o g H12 B12
  go_wp2_with (guard_target =~ wpList _ _ _ (⟨none, Op.insert 47 _ _ _, _, _, _, _⟩ :: _) _ _; refine wpList_insert_own _ rfl _ _ _ 47 rfl 26 45 K26 Tryd.underlying47 heldR w.heap.size 13 (txD 13) rfl H13.out (by decide) _ _ (.int .i64 42) rfl rfl rfl _ [] rfl (txD 14) (by kernel_rfl) ?_)
  intro w14 o g
  have B14 := Lib.hid (B13.out.trans (below_map g (Nat.le_refl _) B13.out.size))
  have H14 := Lib.hid o
  clear o g H13 B13
  go_wp2_with (guard_target =~ wpList _ _ _ (⟨none, Op.insert 47 _ _ _, _, _, _, _⟩ :: _) _ _; refine wpList_insert_own _ rfl _ _ _ 47 rfl 26 45 K26 Tryd.underlying47 heldR w.heap.size 14 (txD 14) rfl H14.out (by decide) _ _ (.int .i64 43) rfl rfl rfl _ [] rfl (txD 15) (by kernel_rfl) ?_)
  intro w15 o g
  have B15 := Lib.hid (B14.out.trans (below_map g (Nat.le_refl _) B14.out.size))
  have H15 := Lib.hid o
  clear o g H14 B14
  go_wp2_with (guard_target =~ wpList _ _ _ (⟨none, Op.insert 47 _ _ _, _, _, _, _⟩ :: _) _ _; refine wpList_insert_own _ rfl _ _ _ 47 rfl 26 45 K26 Tryd.underlying47 heldR w.heap.size 15 (txD 15) rfl H15.out (by decide) _ _ (.int .i64 44) rfl rfl rfl _ [] rfl (txD 16) (by kernel_rfl) ?_)
  intro w16 o g
  have B16 := Lib.hid (B15.out.trans (below_map g (Nat.le_refl _) B15.out.size))
  have H16 := Lib.hid o
  clear o g H15 B15
  go_wp2_with (guard_target =~ wpList _ _ _ (⟨none, Op.insert 47 _ _ _, _, _, _, _⟩ :: _) _ _; refine wpList_insert_own _ rfl _ _ _ 47 rfl 26 45 K26 Tryd.underlying47 heldR w.heap.size 16 (txD 16) rfl H16.out (by decide) _ _ (.int .i64 45) rfl rfl rfl _ [] rfl (txD 17) (by kernel_rfl) ?_)
  intro w17 o g
  have B17 := Lib.hid (B16.out.trans (below_map g (Nat.le_refl _) B16.out.size))
  have H17 := Lib.hid o
  clear o g H16 B16
  go_wp2_with (guard_target =~ wpList _ _ _ (⟨none, Op.insert 47 _ _ _, _, _, _, _⟩ :: _) _ _; refine wpList_insert_own _ rfl _ _ _ 47 rfl 26 45 K26 Tryd.underlying47 heldR w.heap.size 17 (txD 17) rfl H17.out (by decide) _ _ (.int .i64 46) rfl rfl rfl _ [] rfl (txD 18) (by kernel_rfl) ?_)
  intro w18 o g
  have B18 := Lib.hid (B17.out.trans (below_map g (Nat.le_refl _) B17.out.size))
  have H18 := Lib.hid o
  clear o g H17 B17
  go_wp2_with (guard_target =~ wpList _ _ _ (⟨none, Op.insert 47 _ _ _, _, _, _, _⟩ :: _) _ _; refine wpList_insert_own _ rfl _ _ _ 47 rfl 26 45 K26 Tryd.underlying47 heldR w.heap.size 18 (txD 18) rfl H18.out (by decide) _ _ (.int .i64 47) rfl rfl rfl _ [] rfl (txD 19) (by kernel_rfl) ?_)
  intro w19 o g
  have B19 := Lib.hid (B18.out.trans (below_map g (Nat.le_refl _) B18.out.size))
  have H19 := Lib.hid o
  clear o g H18 B18
  go_wp2_with (guard_target =~ wpList _ _ _ (⟨none, Op.insert 47 _ _ _, _, _, _, _⟩ :: _) _ _; refine wpList_insert_own _ rfl _ _ _ 47 rfl 26 45 K26 Tryd.underlying47 heldR w.heap.size 19 (txD 19) rfl H19.out (by decide) _ _ (.int .i64 48) rfl rfl rfl _ [] rfl (txD 20) (by kernel_rfl) ?_)
  intro w20 o g
  have B20 := Lib.hid (B19.out.trans (below_map g (Nat.le_refl _) B19.out.size))
  have H20 := Lib.hid o
  clear o g H19 B19
  go_wp2_with (guard_target =~ wpList _ _ _ (⟨none, Op.insert 47 _ _ _, _, _, _, _⟩ :: _) _ _; refine wpList_insert_own _ rfl _ _ _ 47 rfl 26 45 K26 Tryd.underlying47 heldR w.heap.size 20 (txD 20) rfl H20.out (by decide) _ _ (.int .i64 49) rfl rfl rfl _ [] rfl (txD 21) (by kernel_rfl) ?_)
  intro w21 o g
  have B21 := Lib.hid (B20.out.trans (below_map g (Nat.le_refl _) B20.out.size))
  have H21 := Lib.hid o
  clear o g H20 B20
  go_wp2_with (guard_target =~ wpList _ _ _ (⟨none, Op.insert 47 _ _ _, _, _, _, _⟩ :: _) _ _; refine wpList_insert_own _ rfl _ _ _ 47 rfl 26 45 K26 Tryd.underlying47 heldR w.heap.size 21 (txD 21) rfl H21.out (by decide) _ _ (.int .i64 71) rfl rfl rfl _ [] rfl (txD 22) (by kernel_rfl) ?_)
  intro w22 o g
  have B22 := Lib.hid (B21.out.trans (below_map g (Nat.le_refl _) B21.out.size))
  have H22 := Lib.hid o
  clear o g H21 B21
  go_wp2_with (guard_target =~ wpList _ _ _ (⟨none, Op.insert 47 _ _ _, _, _, _, _⟩ :: _) _ _; refine wpList_insert_own _ rfl _ _ _ 47 rfl 26 45 K26 Tryd.underlying47 heldR w.heap.size 22 (txD 22) rfl H22.out (by decide) _ _ (.int .i64 72) rfl rfl rfl _ [] rfl (txD 23) (by kernel_rfl) ?_)
  intro w23 o g
  have B23 := Lib.hid (B22.out.trans (below_map g (Nat.le_refl _) B22.out.size))
  have H23 := Lib.hid o
  clear o g H22 B22
  go_wp2_with (guard_target =~ wpList _ _ _ (⟨none, Op.insert 47 _ _ _, _, _, _, _⟩ :: _) _ _; refine wpList_insert_own _ rfl _ _ _ 47 rfl 26 45 K26 Tryd.underlying47 heldR w.heap.size 23 (txD 23) rfl H23.out (by decide) _ _ (.int .i64 111) rfl rfl rfl _ [] rfl (txD 24) (by kernel_rfl) ?_)
  intro w24 o g
  have B24 := Lib.hid (B23.out.trans (below_map g (Nat.le_refl _) B23.out.size))
  have H24 := Lib.hid o
  clear o g H23 B23
  go_wp2_with (guard_target =~ wpList _ _ _ (⟨none, Op.insert 47 _ _ _, _, _, _, _⟩ :: _) _ _; refine wpList_insert_own _ rfl _ _ _ 47 rfl 26 45 K26 Tryd.underlying47 heldR w.heap.size 24 (txD 24) rfl H24.out (by decide) _ _ (.int .i64 112) rfl rfl rfl _ [] rfl (txD 25) (by kernel_rfl) ?_)
  intro w25 o g
  have B25 := Lib.hid (B24.out.trans (below_map g (Nat.le_refl _) B24.out.size))
  have H25 := Lib.hid o
  clear o g H24 B24
  go_wp2_with (guard_target =~ wpList _ _ _ (⟨none, Op.insert 47 _ _ _, _, _, _, _⟩ :: _) _ _; refine wpList_insert_own _ rfl _ _ _ 47 rfl 26 45 K26 Tryd.underlying47 heldR w.heap.size 25 (txD 25) rfl H25.out (by decide) _ _ (.int .i64 113) rfl rfl rfl _ [] rfl (txD 26) (by kernel_rfl) ?_)
  intro w26 o g
  have B26 := Lib.hid (B25.out.trans (below_map g (Nat.le_refl _) B25.out.size))
  have H26 := Lib.hid o
  clear o g H25 B25
  go_wp2_with fail
  go_ret
  exact ⟨rfl, H26.out, B26.out⟩
end Go.Proofs.YtlohgcdonenmeaaDoor
