/- CollateWhole: the walk. -/
import Derived.Test.YtgpcmlbmmcnkjaaGreatDoorTk
namespace Go.Proofs.YtgpcmlbmmcnkjaaGreatDoor
open Go.RowKit
set_option maxRecDepth 100000
def K11 (m : Nat) : KeyL := ⟨1, 1, 0, 0, m, false⟩
theorem opt_len (o : Opt) (kv fv : Value) : (optC o kv fv).length = 18 := rfl
theorem opt_ld (o : Opt) (kv fv : Value) : (Tryz.prog.info? 28).map (·.size) = some (optC o kv fv).length := by kernel_rfl
theorem opt_ld2 (o : Opt) (kv fv : Value) : (Tryz.prog.info? 28).map (·.size) = some (optC o kv fv).toArray.size := by kernel_rfl
theorem opt_one (o : Opt) (a b : Option Addr) (n c m d : Nat) : (optC o (.slice a n c) (.slice b m d)).toArray.all (·.oneCell') = true := by simp [optC, Value.oneCell']
/-- What stands: the options' blocks. -/
structure WhAt (w W : World) (b0 : Nat) (C : List Value) : Prop where
  c : CellsAt W b0 C
  bel : Below w.heap.size w W
theorem WhAt.step {w W W' : World} {b0 : Nat} {C : List Value} (h : WhAt w W b0 C) (b : Below W.heap.size W W') : WhAt w W' b0 C := ⟨h.c.step b, h.bel.trans (b.mono h.bel.size)⟩

set_option maxHeartbeats 12800000 in
theorem whole_g (dd : Bool) (o : Opt) (ak : Option Addr) (kn kc' : Nat) (fa : Option Addr) (fn fc : Nat) (a b : ByteArray) (x n z : Int) (w : World)
    (M1 : Hid (∀ W, Below w.heap.size w W → Calls Tryz.prog 10 #[optV o (.slice none 0 0) (.slice fa fn fc)] W (RetC dd a b x z W)))
    (M2 : Hid (∀ W g, Below w.heap.size w W → CellsAt W g (kc (K11 0)) → Calls Tryz.prog 10 #[optV o (.slice (some ⟨g, 0, none⟩) 1 1) (.slice fa fn fc)] W (RetC dd a b x z W)))
    (M3 : Hid (∀ W g, Below w.heap.size w W → CellsAt W g (kc (K11 o.mods)) → Calls Tryz.prog 10 #[optV o (.slice (some ⟨g, 0, none⟩) 1 1) (.slice fa fn fc)] W (RetC dd a b x z W)))
    (M4 : Hid (∀ W, Below w.heap.size w W → Calls Tryz.prog 10 #[.agg (cM 0).toArray] W (RetC true a b n n W)))
    (hn : -1 ≤ n ∧ n ≤ 1) (he : (a.toList == b.toList) = decide (n = 0)) (hl : Op.bytesLess a.toList b.toList = decide (n = -1)) :
    Calls Tryz.prog 4 #[optV o (.slice ak kn kc') (.slice fa fn fc), .string a, .string b] w (RetBk w (.bool true)) := by
  have A0 := Lib.hid (CellsAt.new w (optC o (.slice ak kn kc') (.slice fa fn fc)) 28)
  have B0 := Lib.hid ((Below.refl w.heap.size w).alloc (Nat.le_refl _) (Obj.cells (optC o (.slice ak kn kc') (.slice fa fn fc)).toArray 28))
  have S1 := Lib.hid (show WhAt w (w.alloc (Obj.cells ((optC o (.slice ak kn kc') (.slice fa fn fc)).set 0 (.slice none 0 0)).toArray 28)) w.heap.size (optC o (.slice none 0 0) (.slice fa fn fc)) from ⟨CellsAt.new w ((optC o (.slice ak kn kc') (.slice fa fn fc)).set 0 (.slice none 0 0)) 28, (Below.refl w.heap.size w).alloc (Nat.le_refl _) _⟩)
  have c0 := A0.out.cell 0 _ rfl
  have f0 := A0.out.free 0
  have HN := Lib.hid hn
  have HE := Lib.hid he
  have HL := Lib.hid hl
  clear hn he hl B0
  unfold optV at M1 M2 M3 ⊢
  go_enter Tryz.func4, Tryz.ntmps4
  go_upto_region 2 with fail
  generalize w.alloc (Obj.cells ((optC o (.slice ak kn kc') (.slice fa fn fc)).set 0 (.slice none 0 0)).toArray 28) = x1 at *
  clear c0 f0 A0
  have R1 := Lib.hid S1.out.c.range
  go_wp2_with first
    | (guard_target =~ wpList _ _ _ (⟨some _, Op.load 28 _, _, _, _, _⟩ :: _) _ _; go_must (refine wpList_load_mid rfl 28 _ rfl w.heap.size 0 rfl (optC o (.slice none 0 0) (.slice fa fn fc)) _ R1.out Tryz.underlying28 rfl (opt_ld _ _ _) ?_))
  refine (M1.out _ S1.out.bel).mono ?_
  rintro e w2 ⟨b2, hd1⟩
  have S2 := Lib.hid (S1.out.step b2)
  clear b2 M1 R1 S1
  obtain ⟨cp1, he1, H1⟩ : ∃ cp1, e = .returned (.tuple #[.pointer cp1, .bool true]) ∧ Hid ((dd = false ∧ cp1 = none) ∨ (dd = true ∧ ∃ P, cp1 = some ⟨P, 0, none⟩ ∧ ∀ W2, Below w2.heap.size w2 W2 → Calls Tryz.prog 11 #[.pointer (some ⟨P, 0, none⟩), .string a, .string b] W2 (RetBk W2 (.int .i64 x)))) := by
    rcases hd1 with ⟨q, rfl⟩ | ⟨q, P, rfl, CC⟩
    · exact ⟨none, rfl, Lib.hid (Or.inl ⟨q, rfl⟩)⟩
    · exact ⟨_, rfl, Lib.hid (Or.inr ⟨q, P, rfl, fun W2 b => (CC W2 b).1⟩)⟩
  subst he1
  clear hd1
  have R2 := Lib.hid S2.out.c.range
  have T2 := Lib.hid (cp_there w2 (optC o (.slice none 0 0) (.slice fa fn fc)) (opt_len _ _ _))
  have N3 := Lib.hid (cp_new w2 (optC o (.slice none 0 0) (.slice fa fn fc)) (opt_len _ _ _))
  have D3 := Lib.hid (cp_bel w2 (optC o (.slice none 0 0) (.slice fa fn fc)))
  have Z3 := Lib.hid (cp_size w2 (optC o (.slice none 0 0) (.slice fa fn fc)))
  unfold cpW at N3 D3 Z3
  go_upto_region 4 with first
    | (guard_target =~ wpList _ _ _ (⟨some _, Op.load 28 _, _, _, _, _⟩ :: _) _ _; go_must (refine wpList_load_mid rfl 28 _ rfl w.heap.size 0 rfl (optC o (.slice none 0 0) (.slice fa fn fc)) _ R2.out Tryz.underlying28 rfl (opt_ld _ _ _) ?_))
    | (guard_target =~ wpList _ _ _ (⟨none, Op.store 28 _ _, _, _, _, _⟩ :: _) _ _; go_must (refine wpList_store_mid rfl 28 _ _ rfl w2.heap.size 0 (optC o (.slice none 0 0) (.slice fa fn fc)).toArray rfl rfl T2.out (opt_ld2 _ _ _) (opt_one _ _ _ _ _ _ _) ?_; rw [List.toList_toArray]))
  generalize World.setCells (w2.alloc _) _ _ _ = x3 at *
  clear T2 R2
  have S2l := Lib.hid S2.out.c.lt
  have S3 := Lib.hid (S2.out.step D3.out)
  have G1 := Lib.hid (D3.out)
  clear S2
  have B0z := Lib.hid (Nat.le_refl w.heap.size)
  have P3 := Lib.hid (show w.heap.size < w2.heap.size from S2l.out)
  have hlp3 : w2.heap.size < x3.heap.size := N3.out.lt
  have hne3 : w2.heap.size ≠ w.heap.size := by have := P3.out; have := B0z.out; omega
  have KR3 := Lib.hid (show CellsAt ((World.setCell x3 ⟨w2.heap.size, 0, none⟩ (.slice (some ⟨x3.heap.size, 0, none⟩) 1 1)).alloc (.cells #[.int .i64 1, .int .i64 1, .int .i64 0, .int .i64 0, .int .u16 0, .bool false] 35)) x3.heap.size [.int .i64 1, .int .i64 1, .int .i64 0, .int .i64 0, .int .u16 0, .bool false] from ky_row x3 w2.heap.size [.int .i64 1, .int .i64 1, .int .i64 0, .int .i64 0, .int .u16 0, .bool false])
  have KO3 := Lib.hid (show CellsAt ((World.setCell x3 ⟨w2.heap.size, 0, none⟩ (.slice (some ⟨x3.heap.size, 0, none⟩) 1 1)).alloc (.cells #[.int .i64 1, .int .i64 1, .int .i64 0, .int .i64 0, .int .u16 0, .bool false] 35)) w2.heap.size (optC o (.slice (some ⟨x3.heap.size, 0, none⟩) 1 1) (.slice fa fn fc)) from ky_opt [.int .i64 1, .int .i64 1, .int .i64 0, .int .i64 0, .int .u16 0, .bool false] N3.out (by rw [opt_len]; omega))
  have KB3 := Lib.hid (show Below w2.heap.size x3 ((World.setCell x3 ⟨w2.heap.size, 0, none⟩ (.slice (some ⟨x3.heap.size, 0, none⟩) 1 1)).alloc (.cells #[.int .i64 1, .int .i64 1, .int .i64 0, .int .i64 0, .int .u16 0, .bool false] 35)) from ky_bel x3 w2.heap.size w2.heap.size [.int .i64 1, .int .i64 1, .int .i64 0, .int .i64 0, .int .u16 0, .bool false] (Nat.le_refl _) (Nat.le_of_lt hlp3))
  have KC3 := Lib.hid (show CellsAt ((World.setCell x3 ⟨w2.heap.size, 0, none⟩ (.slice (some ⟨x3.heap.size, 0, none⟩) 1 1)).alloc (.cells #[.int .i64 1, .int .i64 1, .int .i64 0, .int .i64 0, .int .u16 0, .bool false] 35)) w.heap.size (optC o (.slice none 0 0) (.slice fa fn fc)) from ky_other [.int .i64 1, .int .i64 1, .int .i64 0, .int .i64 0, .int .u16 0, .bool false] S3.out.c hne3)
  have S4 := Lib.hid (show WhAt w ((World.setCell x3 ⟨w2.heap.size, 0, none⟩ (.slice (some ⟨x3.heap.size, 0, none⟩) 1 1)).alloc (.cells #[.int .i64 1, .int .i64 1, .int .i64 0, .int .i64 0, .int .u16 0, .bool false] 35)) w.heap.size (optC o (.slice none 0 0) (.slice fa fn fc)) from ⟨KC3.out, S3.out.bel.trans (KB3.out.mono (Nat.le_of_lt P3.out))⟩)
  have G4 := Lib.hid (G1.out.trans KB3.out)
  have g0 := N3.out.cell 0 _ rfl
  have gf := N3.out.free 0
  have hl3 := N3.out.lt
  go_upto_region 5 with fail
  generalize ((World.setCell x3 ⟨w2.heap.size, 0, none⟩ (.slice (some ⟨x3.heap.size, 0, none⟩) 1 1)).alloc (.cells #[.int .i64 1, .int .i64 1, .int .i64 0, .int .i64 0, .int .u16 0, .bool false] 35)) = x4 at *
  obtain ⟨g3, hg3⟩ : ∃ g3, g3 = x3.heap.size := ⟨_, rfl⟩
  rw [← hg3] at KO3 KR3
  have L4 := Lib.hid (show w2.heap.size < x4.heap.size from KO3.out.lt)
  clear hg3 g0 gf hl3 hlp3 N3 S3 KC3 D3 Z3 KB3 S2l
  have R4 := Lib.hid KO3.out.range
  go_wp2_with first
    | (guard_target =~ wpList _ _ _ (⟨some _, Op.load 28 _, _, _, _, _⟩ :: _) _ _; go_must (refine wpList_load_mid rfl 28 _ rfl w2.heap.size 0 rfl (optC o (.slice (some ⟨g3, 0, none⟩) 1 1) (.slice fa fn fc)) _ R4.out Tryz.underlying28 rfl (opt_ld _ _ _) ?_))
  refine (M2.out _ g3 S4.out.bel KR3.out).mono ?_
  rintro e w5 ⟨bb, hd1⟩
  have S5m := Lib.hid (S4.out.step bb)
  have BB5 := Lib.hid bb
  clear bb M2 R4
  obtain ⟨cp5, he1, H5⟩ : ∃ cp5, e = .returned (.tuple #[.pointer cp5, .bool true]) ∧ Hid ((dd = false ∧ cp5 = none) ∨ (dd = true ∧ ∃ P, cp5 = some ⟨P, 0, none⟩ ∧ ∀ W2, Below w5.heap.size w5 W2 → Calls Tryz.prog 11 #[.pointer (some ⟨P, 0, none⟩), .string a, .string b] W2 (RetBk W2 (.int .i64 x)))) := by
    rcases hd1 with ⟨q, rfl⟩ | ⟨q, P, rfl, CC⟩
    · exact ⟨none, rfl, Lib.hid (Or.inl ⟨q, rfl⟩)⟩
    · exact ⟨_, rfl, Lib.hid (Or.inr ⟨q, P, rfl, fun W2 b => (CC W2 b).1⟩)⟩
  subst he1
  clear hd1
  have N5 := Lib.hid (KO3.out.step BB5.out)
  have P6 := Lib.hid (show w.heap.size < w5.heap.size from Nat.lt_of_lt_of_le P3.out (Nat.le_of_lt N5.out.lt))
  have G5 := Lib.hid (G4.out.trans (BB5.out.mono G4.out.size))
  have R5 := Lib.hid N5.out.range
  have T5 := Lib.hid (cp_there w5 (optC o (.slice (some ⟨g3, 0, none⟩) 1 1) (.slice fa fn fc)) (opt_len _ _ _))
  have N6 := Lib.hid (cp_new w5 (optC o (.slice (some ⟨g3, 0, none⟩) 1 1) (.slice fa fn fc)) (opt_len _ _ _))
  have D6 := Lib.hid (cp_bel w5 (optC o (.slice (some ⟨g3, 0, none⟩) 1 1) (.slice fa fn fc)))
  unfold cpW at N6 D6
  clear KO3 KR3 S4 L4
  go_upto_region 7 with first
    | (guard_target =~ wpList _ _ _ (⟨some _, Op.load 28 _, _, _, _, _⟩ :: _) _ _; go_must (refine wpList_load_mid rfl 28 _ rfl w2.heap.size 0 rfl (optC o (.slice (some ⟨g3, 0, none⟩) 1 1) (.slice fa fn fc)) _ R5.out Tryz.underlying28 rfl (opt_ld _ _ _) ?_))
    | (guard_target =~ wpList _ _ _ (⟨none, Op.store 28 _ _, _, _, _, _⟩ :: _) _ _; go_must (refine wpList_store_mid rfl 28 _ _ rfl w5.heap.size 0 (optC o (.slice (some ⟨g3, 0, none⟩) 1 1) (.slice fa fn fc)).toArray rfl rfl T5.out (opt_ld2 _ _ _) (opt_one _ _ _ _ _ _ _) ?_; rw [List.toList_toArray]))
  generalize World.setCells (w5.alloc _) _ _ _ = x6 at *
  clear T5 R5 N5
  have S6 := Lib.hid (S5m.out.step D6.out)
  clear S5m
  have hlp6 : w5.heap.size < x6.heap.size := N6.out.lt
  have hne6 : w5.heap.size ≠ w.heap.size := by have := P6.out; have := B0z.out; omega
  have KR6 := Lib.hid (show CellsAt ((World.setCell x6 ⟨w5.heap.size, 0, none⟩ (.slice (some ⟨x6.heap.size, 0, none⟩) 1 1)).alloc (.cells #[.int .i64 1, .int .i64 1, .int .i64 0, .int .i64 0, .int .u16 (o.mods : Int), .bool false] 35)) x6.heap.size [.int .i64 1, .int .i64 1, .int .i64 0, .int .i64 0, .int .u16 (o.mods : Int), .bool false] from ky_row x6 w5.heap.size [.int .i64 1, .int .i64 1, .int .i64 0, .int .i64 0, .int .u16 (o.mods : Int), .bool false])
  have KO6 := Lib.hid (show CellsAt ((World.setCell x6 ⟨w5.heap.size, 0, none⟩ (.slice (some ⟨x6.heap.size, 0, none⟩) 1 1)).alloc (.cells #[.int .i64 1, .int .i64 1, .int .i64 0, .int .i64 0, .int .u16 (o.mods : Int), .bool false] 35)) w5.heap.size (optC o (.slice (some ⟨x6.heap.size, 0, none⟩) 1 1) (.slice fa fn fc)) from ky_opt [.int .i64 1, .int .i64 1, .int .i64 0, .int .i64 0, .int .u16 (o.mods : Int), .bool false] N6.out (by rw [opt_len]; omega))
  have KB6 := Lib.hid (show Below w5.heap.size x6 ((World.setCell x6 ⟨w5.heap.size, 0, none⟩ (.slice (some ⟨x6.heap.size, 0, none⟩) 1 1)).alloc (.cells #[.int .i64 1, .int .i64 1, .int .i64 0, .int .i64 0, .int .u16 (o.mods : Int), .bool false] 35)) from ky_bel x6 w5.heap.size w5.heap.size [.int .i64 1, .int .i64 1, .int .i64 0, .int .i64 0, .int .u16 (o.mods : Int), .bool false] (Nat.le_refl _) (Nat.le_of_lt hlp6))
  have KC6 := Lib.hid (show CellsAt ((World.setCell x6 ⟨w5.heap.size, 0, none⟩ (.slice (some ⟨x6.heap.size, 0, none⟩) 1 1)).alloc (.cells #[.int .i64 1, .int .i64 1, .int .i64 0, .int .i64 0, .int .u16 (o.mods : Int), .bool false] 35)) w.heap.size (optC o (.slice none 0 0) (.slice fa fn fc)) from ky_other [.int .i64 1, .int .i64 1, .int .i64 0, .int .i64 0, .int .u16 (o.mods : Int), .bool false] S6.out.c hne6)
  have S7 := Lib.hid (show WhAt w ((World.setCell x6 ⟨w5.heap.size, 0, none⟩ (.slice (some ⟨x6.heap.size, 0, none⟩) 1 1)).alloc (.cells #[.int .i64 1, .int .i64 1, .int .i64 0, .int .i64 0, .int .u16 (o.mods : Int), .bool false] 35)) w.heap.size (optC o (.slice none 0 0) (.slice fa fn fc)) from ⟨KC6.out, S6.out.bel.trans (KB6.out.mono (Nat.le_of_lt P6.out))⟩)
  have G7 := Lib.hid (D6.out.trans KB6.out)
  have g0 := N6.out.cell 0 _ rfl
  have gf := N6.out.free 0
  have hl6 := N6.out.lt
  have c1 := S6.out.c.cell 1 _ rfl
  go_upto_region 8 with fail
  generalize ((World.setCell x6 ⟨w5.heap.size, 0, none⟩ (.slice (some ⟨x6.heap.size, 0, none⟩) 1 1)).alloc (.cells #[.int .i64 1, .int .i64 1, .int .i64 0, .int .i64 0, .int .u16 (o.mods : Int), .bool false] 35)) = x7 at *
  obtain ⟨g6, hg6⟩ : ∃ g6, g6 = x6.heap.size := ⟨_, rfl⟩
  rw [← hg6] at KO6 KR6
  clear hg6 g0 gf hl6 hlp6 N6 S6 KC6 D6 c1 KB6
  have R7 := Lib.hid KO6.out.range
  go_wp2_with first
    | (guard_target =~ wpList _ _ _ (⟨some _, Op.load 28 _, _, _, _, _⟩ :: _) _ _; go_must (refine wpList_load_mid rfl 28 _ rfl w5.heap.size 0 rfl (optC o (.slice (some ⟨g6, 0, none⟩) 1 1) (.slice fa fn fc)) _ R7.out Tryz.underlying28 rfl (opt_ld _ _ _) ?_))
  refine (M3.out _ g6 S7.out.bel KR6.out).mono ?_
  rintro e w8 ⟨bb, hd1⟩
  have S8m := Lib.hid (S7.out.step bb)
  have BB8 := Lib.hid bb
  clear bb M3 R7
  obtain ⟨cp8, he1, H8⟩ : ∃ cp8, e = .returned (.tuple #[.pointer cp8, .bool true]) ∧ Hid ((dd = false ∧ cp8 = none) ∨ (dd = true ∧ ∃ P, cp8 = some ⟨P, 0, none⟩ ∧ ∀ W2, Below w8.heap.size w8 W2 → Calls Tryz.prog 11 #[.pointer (some ⟨P, 0, none⟩), .string a, .string b] W2 (RetBk W2 (.int .i64 x)))) := by
    rcases hd1 with ⟨q, rfl⟩ | ⟨q, P, rfl, CC⟩
    · exact ⟨none, rfl, Lib.hid (Or.inl ⟨q, rfl⟩)⟩
    · exact ⟨_, rfl, Lib.hid (Or.inr ⟨q, P, rfl, fun W2 b => (CC W2 b).1⟩)⟩
  subst he1
  clear hd1
  have E1 := Lib.hid ((G5.out.trans (G7.out.mono G5.out.size)).trans (BB8.out.mono (G5.out.trans (G7.out.mono G5.out.size)).size))
  have E2 := Lib.hid (G7.out.trans (BB8.out.mono G7.out.size))
  have BW := Lib.hid S8m.out.bel
  clear G5 G7 BB8 S8m G1 G4 BB5 KO6 KR6 S7 P3 P6 B0z
  cases dd with
  | false =>
    obtain rfl : cp1 = none := by rcases H1.out with h | h; exact h.2; cases h.1
    obtain rfl : cp5 = none := by rcases H5.out with h | h; exact h.2; cases h.1
    obtain rfl : cp8 = none := by rcases H8.out with h | h; exact h.2; cases h.1
    clear H1 H5 H8 M4 HN HE HL E1 E2
    go_wp2_with fail
    go_ret
    exact ⟨rfl, BW.out⟩
  | true =>
    obtain ⟨P1, rfl, q1⟩ : ∃ P, cp1 = some ⟨P, 0, none⟩ ∧ Hid (∀ W2, Below w2.heap.size w2 W2 → Calls Tryz.prog 11 #[.pointer (some ⟨P, 0, none⟩), .string a, .string b] W2 (RetBk W2 (.int .i64 x))) := by
      rcases H1.out with h | ⟨_, P, h, k⟩
      · cases h.1
      · exact ⟨P, h, Lib.hid k⟩
    obtain ⟨P5, rfl, q5⟩ : ∃ P, cp5 = some ⟨P, 0, none⟩ ∧ Hid (∀ W2, Below w5.heap.size w5 W2 → Calls Tryz.prog 11 #[.pointer (some ⟨P, 0, none⟩), .string a, .string b] W2 (RetBk W2 (.int .i64 x))) := by
      rcases H5.out with h | ⟨_, P, h, k⟩
      · cases h.1
      · exact ⟨P, h, Lib.hid k⟩
    obtain ⟨P8, rfl, q8⟩ : ∃ P, cp8 = some ⟨P, 0, none⟩ ∧ Hid (∀ W2, Below w8.heap.size w8 W2 → Calls Tryz.prog 11 #[.pointer (some ⟨P, 0, none⟩), .string a, .string b] W2 (RetBk W2 (.int .i64 x))) := by
      rcases H8.out with h | ⟨_, P, h, k⟩
      · cases h.1
      · exact ⟨P, h, Lib.hid k⟩
    clear H1 H5 H8
    go_wp2_with fail
    refine (q1.out _ E1.out).mono ?_
    rintro e v1 ⟨rfl, b1⟩
    have F1 := Lib.hid b1
    clear b1
    go_wp2_with fail
    refine (q5.out _ (E2.out.trans (F1.out.mono E2.out.size))).mono ?_
    rintro e v2 ⟨rfl, b2⟩
    have F2 := Lib.hid (F1.out.trans (b2.mono F1.out.size))
    clear b2
    go_wp2_with fail
    refine (q8.out _ F2.out).mono ?_
    rintro e v3 ⟨rfl, b3⟩
    have F3 := Lib.hid (F2.out.trans (b3.mono F2.out.size))
    clear b3 q1 q5 q8 F1 F2 E1 E2
    have BV := Lib.hid (BW.out.trans (F3.out.mono BW.out.size))
    have T9 := Lib.hid (cp_there v3 (cM 0) rfl)
    have N9 := Lib.hid (cp_new v3 (cM 0) rfl)
    have D9 := Lib.hid (cp_bel v3 (cM 0))
    unfold cpW at N9 D9
    clear F3 BW
    go_upto_region 17 with first
      | (guard_target =~ wpList _ _ _ (⟨none, Op.store 28 _ _, _, _, _, _⟩ :: _) _ _; go_must (refine wpList_store_mid rfl 28 _ _ rfl v3.heap.size 0 (cM 0).toArray rfl rfl T9.out cM_sz cM_one ?_; rw [List.toList_toArray]))
    generalize World.setCells (v3.alloc _) _ _ _ = x9 at *
    have BX := Lib.hid (BV.out.trans (D9.out.mono BV.out.size))
    clear T9 D9 BV
    have R9 := Lib.hid N9.out.range
    go_wp2_with first
      | (guard_target =~ wpList _ _ _ (⟨some _, Op.load 28 _, _, _, _, _⟩ :: _) _ _; go_must (refine wpList_load_mid rfl 28 _ rfl v3.heap.size 0 rfl (cM 0) _ R9.out Tryz.underlying28 rfl (cM_len _) ?_))
    refine (M4.out _ BX.out).mono ?_
    rintro e w10 ⟨bb, hd1⟩
    have BY := Lib.hid (BX.out.trans (bb.mono BX.out.size))
    clear bb M4 R9 N9 BX
    obtain ⟨P9, he9, q9⟩ : ∃ P, e = .returned (.tuple #[.pointer (some ⟨P, 0, none⟩), .bool true]) ∧ Hid (∀ W2, Below w10.heap.size w10 W2 → Calls Tryz.prog 11 #[.pointer (some ⟨P, 0, none⟩), .string a, .string b] W2 (RetBk W2 (.int .i64 n)) ∧ Calls Tryz.prog 12 #[.pointer (some ⟨P, 0, none⟩), .string a, .string b] W2 (RetBk W2 (.int .i64 n))) := by
      rcases hd1 with ⟨q, _⟩ | ⟨_, P, h, k⟩
      · cases q
      · exact ⟨P, h, Lib.hid k⟩
    subst he9
    clear hd1
    go_wp2_with fail
    refine (q9.out _ (Below.refl _ _)).1.mono ?_
    rintro e v4 ⟨rfl, b4⟩
    go_wp2_with fail
    refine (q9.out _ b4).2.mono ?_
    rintro e v5 ⟨rfl, b5⟩
    have BZ := Lib.hid ((BY.out.trans (b4.mono BY.out.size)).trans (b5.mono (BY.out.trans (b4.mono BY.out.size)).size))
    clear b4 b5 BY q9
    have he := HE.out
    have hl := HL.out
    have hn := HN.out
    have h3 : n = -1 ∨ n = 0 ∨ n = 1 := by omega
    clear HE HL HN hn
    rcases h3 with rfl | rfl | rfl
    · have e1 : (a.toList == b.toList) = false := by rw [he]; decide
      have e2 : Op.bytesLess a.toList b.toList = true := by rw [hl]; decide
      clear he hl
      go_wp2_with fail
      go_ret
      exact ⟨rfl, BZ.out⟩
    · have e1 : (a.toList == b.toList) = true := by rw [he]; decide
      have e2 : Op.bytesLess a.toList b.toList = false := by rw [hl]; decide
      clear he hl
      go_wp2_with fail
      go_ret
      exact ⟨rfl, BZ.out⟩
    · have e1 : (a.toList == b.toList) = false := by rw [he]; decide
      have e2 : Op.bytesLess a.toList b.toList = false := by rw [hl]; decide
      clear he hl
      go_wp2_with fail
      go_ret
      exact ⟨rfl, BZ.out⟩
end Go.Proofs.YtgpcmlbmmcnkjaaGreatDoor
