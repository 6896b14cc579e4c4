/- CollateCompares, with the contracts laid in. -/
import Derived.Test.YtgpcmlbmmcnkjaaGreatDoorFxB
import Derived.Test.YtgpcmlbmmcnkjaaGreatDoorSq
import Derived.Test.YtgpcmlbmmcnkjaaGreatDoorGm
import Derived.Test.YtgpcmlbmmcnkjaaGreatDoorFxC
import Derived.Test.YtgpcmlbmmcnkjaaGreatDoorTk
import Derived.Test.YtgpcmlbmmcnkjaaGreatDoorNumRefK
namespace Go.Proofs.YtgpcmlbmmcnkjaaGreatDoor
section
open Go.RowKit
set_option maxRecDepth 100000
def keyZ (h5 : Bool) (z : Int) : Int := if h5 then - z else z
def keyY (h2 : Bool) (zm zb : Int) : Int := if h2 then zm else zb
set_option maxHeartbeats 6400000 in
theorem bykey_txt (a b xa xb : ByteArray) (f c ef ec t : Int) (m : Nat) (bb h2 h5 : Bool) (zb zm : Int) (w : World) (r1 : -1 ≤ zb ∧ zb ≤ 1) (r2 : -1 ≤ zm ∧ zm ≤ 1)
    (H240 : Hid (∀ W, Calls Tryz.prog 29 #[.int .u16 (m : Int), .int .i64 240] W (RetV W (.bool false))))
    (H256 : Hid (∀ W, Calls Tryz.prog 29 #[.int .u16 (m : Int), .int .i64 256] W (RetV W (.bool h2))))
    (H512 : Hid (∀ W, Calls Tryz.prog 29 #[.int .u16 (m : Int), .int .i64 512] W (RetV W (.bool h5))))
    (FA : Hid (∀ W, Calls Tryz.prog 21 #[.string a, .agg #[.int .i64 f, .int .i64 c, .int .i64 ef, .int .i64 ec, .int .u16 (m : Int), .bool bb], .int .i64 t] W (RetBk W (.string xa))))
    (FB : Hid (∀ W, Calls Tryz.prog 21 #[.string b, .agg #[.int .i64 f, .int .i64 c, .int .i64 ef, .int .i64 ec, .int .u16 (m : Int), .bool bb], .int .i64 t] W (RetBk W (.string xb))))
    (BW : Hid (∀ W, Calls Tryz.prog 37 #[.string xa, .string xb] W (RetBk W (.int .i64 zb))))
    (NM : Hid (∀ W, Below w.heap.size w W → Calls Tryz.prog 50 #[.int .i64 256, .string xa, .string xb] W (RetBk W (.int .i64 zm)))) :
    Calls Tryz.prog 36 #[.string a, .string b, .agg #[.int .i64 f, .int .i64 c, .int .i64 ef, .int .i64 ec, .int .u16 (m : Int), .bool bb], .int .i64 t] w (RetBk w (.int .i64 (keyZ h5 (keyY h2 zm zb)))) := by
  have A0 := Lib.hid (CellsAt.new w [.int .i64 f, .int .i64 c, .int .i64 ef, .int .i64 ec, .int .u16 (m : Int), .bool bb] 35)
  have B0 := Lib.hid ((Below.refl w.heap.size w).alloc (Nat.le_refl _) (Obj.cells #[.int .i64 f, .int .i64 c, .int .i64 ef, .int .i64 ec, .int .u16 (m : Int), .bool bb] 35))
  have a0 := A0.out.cell 0 _ rfl
  have a1 := A0.out.cell 1 _ rfl
  have a2 := A0.out.cell 2 _ rfl
  have a3 := A0.out.cell 3 _ rfl
  have a4 := A0.out.cell 4 _ rfl
  have a5 := A0.out.cell 5 _ rfl
  have e1 := Lib.hid (show wrap64 (- zb) = - zb by unfold wrap64; omega)
  have e2 := Lib.hid (show wrap64 (- zm) = - zm by unfold wrap64; omega)
  clear r1 r2
  go_enter Tryz.func36, Tryz.ntmps36
  go_upto_region 1 with fail
  generalize hX : w.alloc (Obj.cells #[.int .i64 f, .int .i64 c, .int .i64 ef, .int .i64 ec, .int .u16 (m : Int), .bool bb] 35) = x at *
  clear hX
  go_wp2_with fail
  refine (H240.out _).mono ?_
  rintro e w1 ⟨rfl, rfl⟩
  go_wp2_with fail
  refine (FA.out _).mono ?_
  rintro e w1 ⟨rfl, b1⟩
  have A1 := Lib.hid (A0.out.step b1)
  have B1 := Lib.hid (B0.out.trans (b1.mono B0.out.size))
  clear a0 a1 a2 a3 a4 a5 b1 A0 B0
  have a0 := A1.out.cell 0 _ rfl
  have a1 := A1.out.cell 1 _ rfl
  have a2 := A1.out.cell 2 _ rfl
  have a3 := A1.out.cell 3 _ rfl
  have a4 := A1.out.cell 4 _ rfl
  have a5 := A1.out.cell 5 _ rfl
  go_wp2_with fail
  refine (FB.out _).mono ?_
  rintro e w2 ⟨rfl, b2⟩
  have A2 := Lib.hid (A1.out.step b2)
  have B2 := Lib.hid (B1.out.trans (b2.mono B1.out.size))
  clear a0 a1 a2 a3 a4 a5 b2 A1 B1
  go_wp2_with fail
  refine (BW.out _).mono ?_
  rintro e w3 ⟨rfl, b3⟩
  have A3 := Lib.hid (A2.out.step b3)
  have B3 := Lib.hid (B2.out.trans (b3.mono B2.out.size))
  have a4 := A3.out.cell 4 _ rfl
  clear b3 A2 B2
  go_wp2_with fail
  refine (H256.out _).mono ?_
  rintro e w4 ⟨rfl, rfl⟩
  cases h2 with
  | false =>
    go_wp2_with fail
    refine (H512.out _).mono ?_
    rintro e w5 ⟨rfl, rfl⟩
    cases h5 with
    | false =>
      go_wp2_with fail
      go_ret
      exact ⟨rfl, B3.out⟩
    | true =>
      go_wp2_with fail
      go_ret
      exact ⟨congrArg (fun v => Ending.returned (Value.int .i64 v)) e1.out, B3.out⟩
  | true =>
    clear a4
    go_wp2_with fail
    refine (NM.out _ B3.out).mono ?_
    rintro e w5 ⟨rfl, b5⟩
    have A5 := Lib.hid (A3.out.step b5)
    have B5 := Lib.hid (B3.out.trans (b5.mono B3.out.size))
    have a4 := A5.out.cell 4 _ rfl
    clear b5
    go_wp2_with fail
    refine (H512.out _).mono ?_
    rintro e w6 ⟨rfl, rfl⟩
    cases h5 with
    | false =>
      go_wp2_with fail
      go_ret
      exact ⟨rfl, B5.out⟩
    | true =>
      go_wp2_with fail
      go_ret
      exact ⟨congrArg (fun v => Ending.returned (Value.int .i64 v)) e2.out, B5.out⟩
set_option maxHeartbeats 6400000 in
theorem bykey_num (a b : ByteArray) (f c ef ec t : Int) (m : Nat) (bb h5 : Bool) (zn : Int) (pa qa pb qb : Nat) (w : World) (hm : m < 65536) (r1 : -1 ≤ zn ∧ zn ≤ 1) (hpa : pa ≤ qa) (hqa : qa ≤ a.size) (hpb : pb ≤ qb) (hqb : qb ≤ b.size)
    (H240 : Hid (∀ W, Calls Tryz.prog 29 #[.int .u16 (m : Int), .int .i64 240] W (RetV W (.bool true))))
    (H512 : Hid (∀ W, Calls Tryz.prog 29 #[.int .u16 (m : Int), .int .i64 512] W (RetV W (.bool h5))))
    (FA : Hid (∀ W, Calls Tryz.prog 17 #[.string a, .agg #[.int .i64 f, .int .i64 c, .int .i64 ef, .int .i64 ec, .int .u16 (m : Int), .bool bb], .int .i64 t] W (RetBk W (.agg #[.int .i64 (pa : Int), .int .i64 (qa : Int)]))))
    (FB : Hid (∀ W, Calls Tryz.prog 17 #[.string b, .agg #[.int .i64 f, .int .i64 c, .int .i64 ef, .int .i64 ec, .int .u16 (m : Int), .bool bb], .int .i64 t] W (RetBk W (.agg #[.int .i64 (pb : Int), .int .i64 (qb : Int)]))))
    (NM : Hid (∀ W, Below w.heap.size w W → Calls Tryz.prog 50 #[.int .i64 ((m &&& 240 : Nat) : Int), .string (a.extract pa qa), .string (b.extract pb qb)] W (RetBk W (.int .i64 zn)))) :
    Calls Tryz.prog 36 #[.string a, .string b, .agg #[.int .i64 f, .int .i64 c, .int .i64 ef, .int .i64 ec, .int .u16 (m : Int), .bool bb], .int .i64 t] w (RetBk w (.int .i64 (keyZ h5 zn))) := by
  have A0 := Lib.hid (CellsAt.new w [.int .i64 f, .int .i64 c, .int .i64 ef, .int .i64 ec, .int .u16 (m : Int), .bool bb] 35)
  have B0 := Lib.hid ((Below.refl w.heap.size w).alloc (Nat.le_refl _) (Obj.cells #[.int .i64 f, .int .i64 c, .int .i64 ef, .int .i64 ec, .int .u16 (m : Int), .bool bb] 35))
  have a0 := A0.out.cell 0 _ rfl
  have a1 := A0.out.cell 1 _ rfl
  have a2 := A0.out.cell 2 _ rfl
  have a3 := A0.out.cell 3 _ rfl
  have a4 := A0.out.cell 4 _ rfl
  have a5 := A0.out.cell 5 _ rfl
  have e1 := Lib.hid (show wrap64 (- zn) = - zn by unfold wrap64; omega)
  have e4 : bits BinOp.and IntKind.i64 (m : Int) 240 = ((m &&& 240 : Nat) : Int) := i64_and_nat m 240 hm (by omega)
  have e5 : IntKind.i64.wrap (m : Int) = (m : Int) := by rw [IntKind.wrap_i64]; omega
  clear r1 hm
  generalize m &&& 240 = kd at *
  go_enter Tryz.func36, Tryz.ntmps36
  go_upto_region 1 with fail
  generalize hX : w.alloc (Obj.cells #[.int .i64 f, .int .i64 c, .int .i64 ef, .int .i64 ec, .int .u16 (m : Int), .bool bb] 35) = x at *
  clear hX
  go_wp2_with fail
  refine (H240.out _).mono ?_
  rintro e w1 ⟨rfl, rfl⟩
  go_wp2_with fail
  refine (FA.out _).mono ?_
  rintro e w1 ⟨rfl, b1⟩
  have N1 := Lib.hid (show w.heap.size < w1.heap.size from Nat.lt_of_lt_of_le A0.out.lt b1.size)
  have A1 := Lib.hid ((A0.out.step b1).step ((Below.refl w1.heap.size w1).alloc (Nat.le_refl _) (.cells #[.int .i64 (pa : Int), .int .i64 (qa : Int)] 41)))
  have B1 := Lib.hid ((B0.out.trans (b1.mono B0.out.size)).alloc (Nat.le_trans B0.out.size b1.size) (.cells #[.int .i64 (pa : Int), .int .i64 (qa : Int)] 41))
  have P1 := Lib.hid (CellsAt.new w1 [.int .i64 (pa : Int), .int .i64 (qa : Int)] 41)
  clear a0 a1 a2 a3 a4 a5 b1 A0 B0
  go_upto_region 4 with fail
  generalize hX : w1.alloc (Obj.cells #[.int .i64 (pa : Int), .int .i64 (qa : Int)] 41) = x1 at *
  clear hX
  generalize w1.heap.size = g1 at *
  have a0 := A1.out.cell 0 _ rfl
  have a1 := A1.out.cell 1 _ rfl
  have a2 := A1.out.cell 2 _ rfl
  have a3 := A1.out.cell 3 _ rfl
  have a4 := A1.out.cell 4 _ rfl
  have a5 := A1.out.cell 5 _ rfl
  go_wp2_with fail
  refine (FB.out _).mono ?_
  rintro e w2 ⟨rfl, b2⟩
  have A2 := Lib.hid ((A1.out.step b2).step ((Below.refl w2.heap.size w2).alloc (Nat.le_refl _) (.cells #[.int .i64 (pb : Int), .int .i64 (qb : Int)] 41)))
  have B2 := Lib.hid ((B1.out.trans (b2.mono B1.out.size)).alloc (Nat.le_trans B1.out.size b2.size) (.cells #[.int .i64 (pb : Int), .int .i64 (qb : Int)] 41))
  have P2 := Lib.hid ((P1.out.step b2).step ((Below.refl w2.heap.size w2).alloc (Nat.le_refl _) (.cells #[.int .i64 (pb : Int), .int .i64 (qb : Int)] 41)))
  have Q2 := Lib.hid (CellsAt.new w2 [.int .i64 (pb : Int), .int .i64 (qb : Int)] 41)
  clear a0 a1 a2 a3 a4 a5 b2 A1 B1 P1
  go_upto_region 5 with fail
  generalize hX : w2.alloc (Obj.cells #[.int .i64 (pb : Int), .int .i64 (qb : Int)] 41) = x2 at *
  clear hX
  generalize w2.heap.size = g2 at *
  have a4 := A2.out.cell 4 _ rfl
  go_upto_region 6 with fail
  have D := B2.out.trans (((Below.refl x2.heap.size x2).drew).mono B2.out.size)
  have DD := Lib.hid ((Below.refl x2.heap.size x2).drew)
  have p0 := P2.out.cell 0 _ rfl
  have p1 := P2.out.cell 1 _ rfl
  have q0 := Q2.out.cell 0 _ rfl
  have q1 := Q2.out.cell 1 _ rfl
  go_region_held3 (fun w' => w'.cell? ⟨g1, 0, none⟩ = some (.int .i64 (pa : Int)) ∧ w'.cell? ⟨g1, 1, none⟩ = some (.int .i64 (qa : Int)) ∧ w'.cell? ⟨g2, 0, none⟩ = some (.int .i64 (pb : Int)) ∧ w'.cell? ⟨g2, 1, none⟩ = some (.int .i64 (qb : Int)))
    (first | go_keep)
    ((first
      | (go_at_call 50; ((with_reducible refine (NM.out _ D).mono ?_); rintro ee w10 ⟨rfl, hbb⟩; have b10 := DD.out.trans (hbb.mono DD.out.size); have pp := P2.out.step b10; have qq := Q2.out.step b10; have p0 := pp.cell 0 _ rfl; have p1 := pp.cell 1 _ rfl; have q0 := qq.cell 0 _ rfl; have q1 := qq.cell 1 _ rfl))))
  all_goals
    have B5 := Lib.hid (B2.out.trans (b10.mono B2.out.size))
    have a4 := (A2.out.step b10).cell 4 _ rfl
    clear pp qq p0 p1 q0 q1 b10 hbb
    go_wp2_with fail
    refine (H512.out _).mono ?_
    rintro e w6 ⟨rfl, rfl⟩
    cases h5 with
    | false =>
      go_wp2_with fail
      go_ret
      exact ⟨rfl, B5.out⟩
    | true =>
      go_wp2_with fail
      go_ret
      exact ⟨congrArg (fun v => Ending.returned (Value.int .i64 v)) e1.out, B5.out⟩
end
section
section
open Go.RowKit
set_option maxRecDepth 100000
def RetOC (dd : Prop) (W : World) (a b : ByteArray) (z v : Int) (e : Ending) (w' : World) : Prop :=
  ∃ cp, e = .returned (.tuple #[.pointer cp, .bool true]) ∧ Below W.heap.size W w' ∧ (cp = none ∨ dd ∧ ∃ P, cp = some ⟨P, 0, none⟩ ∧ ∀ W' : World, Below w'.heap.size w' W' → Tabs W' →
    Calls Tryz.prog 12 #[.pointer (some ⟨P, 0, none⟩), .string a, .string b] W' (RetBk W' (.int .i64 z)) ∧ Calls Tryz.prog 11 #[.pointer (some ⟨P, 0, none⟩), .string a, .string b] W' (RetBk W' (.int .i64 v)))
set_option maxHeartbeats 6400000 in
theorem compares_g (dd : Prop) (o : Opt) (ka : Option Addr) (kn kcp : Nat) (fa : Option Addr) (fn fc : Nat) (a b : ByteArray) (z v : Int) (w : World) (T : Tabs w)
    (ORD : ∀ W : World, Below w.heap.size w W → Calls Tryz.prog 13 #[optV o (.slice ka kn kcp) (.slice fa fn fc)] W (RetOC dd W a b z v))
    (MK : dd → ∀ W : World, Below w.heap.size w W → Calls Tryz.prog 22 #[optV o (.slice ka kn kcp) (.slice fa fn fc), .string a, .string b] W (RetBk W (.int .i64 z)))
    (MC : dd → ∀ W : World, Below w.heap.size w W → Calls Tryz.prog 23 #[optV o (.slice ka kn kcp) (.slice fa fn fc), .string a, .string b] W (RetBk W (.int .i64 v))) :
    Calls Tryz.prog 9 #[optV o (.slice ka kn kcp) (.slice fa fn fc), .string a, .string b] w (RetBk w (.bool true)) := by
  obtain ⟨C, hC⟩ : ∃ C, C = optC o (.slice ka kn kcp) (.slice fa fn fc) := ⟨_, rfl⟩
  have A0 := Lib.hid (CellsAt.new w C 28)
  have B0 := Lib.hid ((Below.refl w.heap.size w).alloc (Nat.le_refl _) (Obj.cells C.toArray 28))
  have R0 := Lib.hid A0.out.range
  have LD := Lib.hid (show (Tryz.prog.info? 28).map (·.size) = some C.length by rw [hC]; exact optC_lenS _ _ _)
  have HT := Lib.hid T
  have HO := Lib.hid ORD
  have HK := Lib.hid MK
  have HM := Lib.hid MC
  clear T ORD MK MC
  unfold optV at HO HK HM ⊢
  rw [← hC] at HO HK HM ⊢
  clear hC
  go_enter Tryz.func9, Tryz.ntmps9
  go_upto_region 1 with fail
  generalize hX : w.alloc (Obj.cells C.toArray 28) = x at *
  clear hX
  go_wp2_with first
    | (guard_target =~ wpList _ _ _ (⟨some _, Op.load 28 _, _, _, _, _⟩ :: _) _ _; go_must (refine wpList_load_mid rfl 28 _ rfl w.heap.size 0 rfl C _ R0.out Tryz.underlying28 rfl LD.out ?_))
    | (go_at_call 13; refine (HO.out _ B0.out).mono ?_)
  rintro e w1 ⟨cp, rfl, b1, hcase⟩
  have B1 := Lib.hid (B0.out.trans (b1.mono B0.out.size))
  have A1 := Lib.hid (A0.out.step b1)
  clear b1 B0 A0 R0 HO
  rcases hcase with rfl | ⟨hd, P, rfl, OS⟩
  · go_wp2_with fail
    go_ret
    exact ⟨rfl, B1.out⟩
  · have HOS := Lib.hid OS
    have HKd := Lib.hid (HK.out hd)
    have HMd := Lib.hid (HM.out hd)
    clear HK HM hd OS
    go_wp2_with fail
    refine ((HOS.out _ (Below.refl _ _) (HT.out.below B1.out)).1).mono ?_
    rintro e w2 ⟨rfl, b2⟩
    have B2 := Lib.hid (B1.out.trans (b2.mono B1.out.size))
    have A2 := Lib.hid (A1.out.step b2)
    have b2' := Lib.hid b2
    clear b2
    go_wp2_with fail
    refine ((HOS.out _ b2'.out (HT.out.below B2.out)).2).mono ?_
    rintro e w3 ⟨rfl, b3⟩
    have B3 := Lib.hid (B2.out.trans (b3.mono B2.out.size))
    have A3 := Lib.hid (A2.out.step b3)
    have R3 := Lib.hid A3.out.range
    clear b3 A1 A2 b2'
    go_wp2_with first
      | (guard_target =~ wpList _ _ _ (⟨some _, Op.load 28 _, _, _, _, _⟩ :: _) _ _; go_must (refine wpList_load_mid rfl 28 _ rfl w.heap.size 0 rfl C _ R3.out Tryz.underlying28 rfl LD.out ?_))
      | (go_at_call 22; refine (HKd.out _ B3.out).mono ?_)
    rintro e w4 ⟨rfl, b4⟩
    have B4 := Lib.hid (B3.out.trans (b4.mono B3.out.size))
    have A4 := Lib.hid (A3.out.step b4)
    have R4 := Lib.hid A4.out.range
    clear b4 R3 A3
    go_wp2_with first
      | (guard_target =~ wpList _ _ _ (⟨some _, Op.load 28 _, _, _, _, _⟩ :: _) _ _; go_must (refine wpList_load_mid rfl 28 _ rfl w.heap.size 0 rfl C _ R4.out Tryz.underlying28 rfl LD.out ?_))
      | (go_at_call 23; refine (HMd.out _ B4.out).mono ?_)
    rintro e w5 ⟨rfl, b5⟩
    have B5 := Lib.hid (B4.out.trans (b5.mono B4.out.size))
    clear b5
    go_wp2_with fail
    go_ret
    refine ⟨?_, B5.out⟩
    simp
end
section
section
open Go.RowKit
set_option maxRecDepth 100000
set_option maxHeartbeats 6400000 in
theorem mcompare_g (o : Opt) (ka : Option Addr) (kn kcp : Nat) (fa : Option Addr) (fn fc : Nat) (a b : ByteArray) (z : Int) (w : World) (hmm : o.mods < 65536) (ha : a.size ≤ 140737488351232) (hb : b.size ≤ 140737488351232)
    (KY : ∀ W : World, Below w.heap.size w W → Calls Tryz.prog 22 #[optV o (.slice ka kn kcp) (.slice fa fn fc), .string a, .string b] W (RetBk W (.int .i64 z))) :
    Calls Tryz.prog 23 #[optV o (.slice ka kn kcp) (.slice fa fn fc), .string a, .string b] w (RetBk w (.int .i64 (cmpV z (!o.stable && !o.unique) (!decide (o.mods &&& 512 = 0)) a.data.toList b.data.toList))) := by
  obtain ⟨C, hC⟩ : ∃ C, C = optC o (.slice ka kn kcp) (.slice fa fn fc) := ⟨_, rfl⟩
  have HC := Lib.hid hC
  have A0 := Lib.hid (CellsAt.new w C 28)
  have B0 := Lib.hid ((Below.refl w.heap.size w).alloc (Nat.le_refl _) (Obj.cells C.toArray 28))
  have R0 := Lib.hid A0.out.range
  have LD := Lib.hid (show (Tryz.prog.info? 28).map (·.size) = some C.length by rw [hC]; exact optC_lenS _ _ _)
  have HE := Lib.hid KY
  have BW := Lib.hid (fun W => bytewise_ok a b W ha hb)
  have HS := Lib.hid (fun W => has_ok o.mods 512 hmm (by omega) W)
  have HN := Lib.hid (cb_neg a.data.toList b.data.toList)
  have HR := Lib.hid (cb_rng a.data.toList b.data.toList)
  clear KY ha hb hmm
  unfold optV at HE ⊢
  rw [← hC] at HE ⊢
  have hst : C[3]? = some (.bool o.stable) := by rw [hC]; rfl
  have hun : C[4]? = some (.bool o.unique) := by rw [hC]; rfl
  have hmo : C[1]? = some (.int .u16 (o.mods : Int)) := by rw [hC]; rfl
  have I3 := Lib.hid hst
  have I4 := Lib.hid hun
  have I1 := Lib.hid hmo
  clear hC hst hun hmo
  generalize o.mods &&& 512 = mb at *
  generalize o.stable = st at *
  generalize o.unique = un at *
  generalize hcb : Lib.compareBytes a.data.toList b.data.toList = cb at *
  have CB := Lib.hid hcb
  clear hcb
  go_enter Tryz.func23, Tryz.ntmps23
  go_upto_region 1 with fail
  generalize hX : w.alloc (Obj.cells C.toArray 28) = x at *
  clear hX
  go_wp2_with first
    | (guard_target =~ wpList _ _ _ (⟨some _, Op.load 28 _, _, _, _, _⟩ :: _) _ _; go_must (refine wpList_load_mid rfl 28 _ rfl w.heap.size 0 rfl C _ R0.out Tryz.underlying28 rfl LD.out ?_))
    | (go_at_call 22; refine (HE.out _ B0.out).mono ?_)
  rintro e w1 ⟨rfl, b1⟩
  have A1 := Lib.hid (A0.out.step b1)
  have B1 := Lib.hid (B0.out.trans (b1.mono B0.out.size))
  have s3 := A1.out.cell 3 _ I3.out
  have s4 := A1.out.cell 4 _ I4.out
  clear b1 A0 B0 R0 LD HE
  by_cases hz : z = 0
  · subst hz
    cases st with
    | true =>
      go_wp2_with fail
      go_ret
      exact ⟨rfl, B1.out⟩
    | false =>
      cases un with
      | true =>
        go_wp2_with fail
        go_ret
        exact ⟨rfl, B1.out⟩
      | false =>
        go_wp2_with fail
        refine (BW.out _).mono ?_
        rintro e w2 ⟨rfl, b2⟩
        have A2 := Lib.hid (A1.out.step b2)
        have B2 := Lib.hid (B1.out.trans (b2.mono B1.out.size))
        have s1 := A2.out.cell 1 _ I1.out
        clear b2 s3 s4 A1
        go_wp2_with fail
        refine (HS.out _).mono ?_
        rintro e w3 ⟨rfl, rfl⟩
        by_cases hm : mb = 0
        · have E := Lib.hid (show cmpV 0 (!false && !false) (!decide (mb = 0)) a.data.toList b.data.toList = cb by rw [decide_eq_true hm]; exact CB.out)
          rw [decide_eq_true hm]
          clear hm
          go_wp2_with fail
          go_ret
          exact ⟨by rw [E.out]; rfl, B2.out⟩
        · have E := Lib.hid (show cmpV 0 (!false && !false) (!decide (mb = 0)) a.data.toList b.data.toList = - cb by rw [decide_eq_false hm]; exact HN.out)
          have e2 : wrap64 (- cb) = - cb := by have := HR.out; unfold wrap64; omega
          rw [decide_eq_false hm]
          clear hm
          go_wp2_with fail
          go_ret
          exact ⟨by rw [E.out]; exact congrArg (fun v => Ending.returned (Value.int .i64 v)) e2, B2.out⟩
  · have n0 : (z != 0) = true := by rw [bne_iff_ne]; exact hz
    have E := Lib.hid (show cmpV z (!st && !un) (!decide (mb = 0)) a.data.toList b.data.toList = z by unfold cmpV; rw [if_neg hz])
    clear hz
    go_wp2_with fail
    go_ret
    exact ⟨by rw [E.out]; rfl, B1.out⟩
end
section
section
open Go.RowKit
set_option maxRecDepth 100000
def MkRel (w w4 : World) (C : List Value) (g : Nat) (L : List KeyL) (z : Nat → Int) (i : Value) (wr : World) : Prop :=
  ∃ k : Nat, k ≤ L.length ∧ i = .int .i64 (k : Int) ∧ firstN z L.length 0 = firstN z (L.length - k) k ∧ SpsAt w w4 wr C g L
set_option maxHeartbeats 6400000 in
theorem mkeys_g (o : Opt) (L : List KeyL) (ka : Option Addr) (kn kcp : Nat) (fa : Option Addr) (fn fc : Nat) (a b : ByteArray) (z : Nat → Int) (w : World) (hL : L.length ≤ 1099511627776)
    (EFF : ∀ W : World, Below w.heap.size w W → Calls Tryz.prog 14 #[optV o (.slice ka kn kcp) (.slice fa fn fc)] W (RetKeys W L))
    (BK : ∀ (j : Nat) (hj : j < L.length) (W : World), Below w.heap.size w W → Calls Tryz.prog 36 #[.string a, .string b, .agg (kc L[j]).toArray, .int .i64 o.tab] W (RetBk W (.int .i64 (z j)))) :
    Calls Tryz.prog 22 #[optV o (.slice ka kn kcp) (.slice fa fn fc), .string a, .string b] w (RetBk w (.int .i64 (firstN z L.length 0))) := by
  obtain ⟨C, hC⟩ : ∃ C, C = optC o (.slice ka kn kcp) (.slice fa fn fc) := ⟨_, rfl⟩
  have HC := Lib.hid hC
  have A0 := Lib.hid (CellsAt.new w C 28)
  have B0 := Lib.hid ((Below.refl w.heap.size w).alloc (Nat.le_refl _) (Obj.cells C.toArray 28))
  have R0 := Lib.hid A0.out.range
  have LD := Lib.hid (show (Tryz.prog.info? 28).map (·.size) = some C.length by rw [hC]; exact optC_lenS _ _ _)
  have HLL := Lib.hid hL
  have HE := Lib.hid EFF
  have HM := Lib.hid BK
  clear hL EFF BK
  unfold optV at HE ⊢
  rw [← hC] at HE ⊢
  clear hC
  go_enter Tryz.func22, Tryz.ntmps22
  go_upto_region 1 with fail
  generalize hX : w.alloc (Obj.cells C.toArray 28) = x at *
  clear hX
  go_wp2_with first
    | (guard_target =~ wpList _ _ _ (⟨some _, Op.load 28 _, _, _, _, _⟩ :: _) _ _; go_must (refine wpList_load_mid rfl 28 _ rfl w.heap.size 0 rfl C _ R0.out Tryz.underlying28 rfl LD.out ?_))
    | (go_at_call 14; refine (HE.out _ B0.out).mono ?_)
  rintro e w5 ⟨g, cl, rfl, hg5, hg6, hr5, b5⟩
  have S5 : SpsAt w x w5 C g L := ⟨A0.out.step b5, hr5, hg6, b5, B0.out.trans (b5.mono B0.out.size)⟩
  have HR := Lib.hid (show MkRel w x C g L z (.int .i64 0) w5 from ⟨0, Nat.zero_le _, rfl, rfl, S5⟩)
  clear S5 hg5 hg6 hr5 b5 R0 A0 HE LD
  go_wp2_with fail
  go_loopw [8] (fun i wr => MkRel w x C g L z i wr) (fun i _ => L.length - (intOf i).toNat)
  case atStart => exact HR.out
  case round =>
    obtain ⟨k, hk, rfl, heq, hs⟩ := hrel
    have HQ := Lib.hid heq
    have HS := Lib.hid hs
    clear heq hs HR
    by_cases h : k < L.length
    · have t0 : decide (k < L.length) = true := decide_eq_true h
      obtain ⟨m, hm⟩ : ∃ m, L.length - k = m + 1 := ⟨L.length - k - 1, by omega⟩
      have HF := Lib.hid (show firstN z L.length 0 = (if z k = 0 then firstN z (L.length - (k + 1)) (k + 1) else z k) by rw [HQ.out, hm, show L.length - (k + 1) = m by omega]; rfl)
      have HK := Lib.hid (show ∀ W, SpsAt w x W C g L → RgAt w W g k L[k] o.tab from fun W q => q.rg HC.out k h)
      have hM := Lib.hid (show ∀ W, Below w.heap.size w W → Calls Tryz.prog 36 #[.string a, .string b, .agg #[.int .i64 L[k].f, .int .i64 L[k].c, .int .i64 L[k].ef, .int .i64 L[k].ec, .int .u16 (L[k].m : Int), .bool L[k].b], .int .i64 o.tab] W (RetBk W (.int .i64 (z k))) from fun W q => HM.out k h W q)
      clear HQ hm
      generalize L[k] = K at *
      generalize z k = zk at *
      go_upto_region 5 with fail
      have D9 := Lib.hid ((Below.refl wr.heap.size wr).drew)
      have q9 := HK.out _ HS.out
      have c2 := q9.tab
      have k0 := q9.k0
      have k1 := q9.k1
      have k2 := q9.k2
      have k3 := q9.k3
      have k4 := q9.k4
      have k5 := q9.k5
      clear q9
      go_region_held3 (fun w' => w'.cell? ⟨w.heap.size, 2, none⟩ = some (.int .i64 o.tab) ∧ w'.cell? ⟨g, k * 6, none⟩ = some (.int .i64 K.f) ∧ w'.cell? ⟨g, k * 6 + 1, none⟩ = some (.int .i64 K.c) ∧ w'.cell? ⟨g, k * 6 + 2, none⟩ = some (.int .i64 K.ef) ∧ w'.cell? ⟨g, k * 6 + 3, none⟩ = some (.int .i64 K.ec) ∧ w'.cell? ⟨g, k * 6 + 4, none⟩ = some (.int .u16 (K.m : Int)) ∧ w'.cell? ⟨g, k * 6 + 5, none⟩ = some (.bool K.b))
        (first | go_keep)
        ((first
          | (go_at_call 36; ((with_reducible refine (hM.out _ (HS.out.step D9.out).bel).mono ?_); rintro ee w10 ⟨rfl, hbb⟩; have b10 := D9.out.trans (hbb.mono D9.out.size); have s10 := HS.out.step b10; have q10 := HK.out _ s10; have c2 := q10.tab; have k0 := q10.k0; have k1 := q10.k1; have k2 := q10.k2; have k3 := q10.k3; have k4 := q10.k4; have k5 := q10.k5))))
      all_goals
        have SA := Lib.hid s10
        clear q10 s10 b10 hbb c2 k0 k1 k2 k3 k4 k5
        by_cases hz : zk = 0
        · subst hz
          rw [if_pos rfl] at HF
          have e1 : wrap64 ((k : Int) + 1) = ((k + 1 : Nat) : Int) := by have := HLL.out; unfold wrap64; omega
          go_wp2_with fail
          rw [e1]
          refine ⟨⟨k + 1, h, rfl, HF.out, SA.out⟩, ?_⟩
          have e5 : ∀ m : Nat, (intOf (.int .i64 (m : Int))).toNat = m := fun m => by show ((m : Int)).toNat = m; exact Int.toNat_natCast m
          rw [e5, e5]
          omega
        · have n0 : (zk != 0) = true := by rw [bne_iff_ne]; exact hz
          rw [if_neg hz] at HF
          go_wp2_with fail
          go_ret
          exact ⟨by rw [HF.out]; rfl, SA.out.bel⟩
    · have t0 : decide (k < L.length) = false := decide_eq_false h
      have hkn : L.length - k = 0 := by omega
      rw [hkn] at HQ
      clear hkn
      go_wp2_with fail
      go_ret
      exact ⟨by rw [HQ.out]; rfl, HS.out.bel⟩
end
section
open Go.RowKit
open Num (IsCmp)
set_option maxRecDepth 100000
theorem ordC_ok (o : Opt) (ks : List KeyL) (kv fv : Value) (a b : ByteArray) (W : World) (hmm : o.mods < 65536) (hm : ∀ k ∈ ks, k.m < 65536) (hk : SlAt W W.heap.size kv 6 ks.length (ksV ks)) (hkl : ks.length ≤ 1048576) (ha : a.size ≤ 1048576) (hb : b.size ≤ 1048576) (T : Tbs W) :
    Calls Tryz.prog 13 #[optV o kv fv] W (RetOC (docS ks o.mods o.tab = true) W a b (kyS (tabO o.tab) (effL ks o.mods o.tab) a b) (cpS (!o.stable && !o.unique) (!decide (o.mods &&& 512 = 0)) (tabO o.tab) (effL ks o.mods o.tab) a b)) := by
  cases hd : docS ks o.mods o.tab with
  | false =>
    refine (ordered_out o ks kv fv W hmm hm hk hd).mono ?_
    rintro e w' ⟨rfl, hb'⟩
    exact ⟨none, rfl, hb', Or.inl rfl⟩
  | true =>
    refine (ordered_in o ks kv fv W hmm hm hk hd).mono ?_
    rintro e w' ⟨W0, P, R, g, kv', fv', v, D, rfl, hD, hb0, hN⟩
    obtain ⟨oo, ht⟩ := docS_tab hd
    have EN : Nats (D.map Prod.fst) := by rw [hD]; exact eff_nats hd
    have hl : D.length = (effL ks o.mods o.tab).length := by rw [← hD, List.length_map]
    have hle : D.length ≤ 1099511627776 := by have := eff_lenT ks o.mods o.tab; omega
    have h0 : 0 < D.length := by rw [hl]; exact List.length_pos_iff.2 (eff_ne ks o.mods o.tab)
    obtain ⟨gg, cap, K⟩ := hN.ordK h0
    rw [tabO_of ht, ← hD]
    rw [ht] at K
    have B := hb0.trans (hN.bel.mono hb0.size)
    exact ⟨_, rfl, B, Or.inr ⟨rfl, P, rfl, fun W2 b2 _ => ⟨(K.step b2).keys EN hle a b ha hb ((T.below B).below b2), (K.step b2).compare EN hle a b ha hb ((T.below B).below b2)⟩⟩⟩
def kdP (m : Nat) : Bool := !togS m || (if m &&& 240 = 0 then (if m &&& 256 = 0 then m &&& 496 == 0 else m &&& 496 == 256) else (m &&& 496 == m &&& 240) && !(m &&& 496 == 0) && !(m &&& 496 == 256))
theorem kd_all : ∀ m : Fin 1024, kdP m.val = true := by decide +kernel
theorem key_zK (m : Nat) (x y : List UInt8) (z : Int) (h : z = zB m x y) : keyZ (!decide (m &&& 512 = 0)) z = zK m x y := by
  unfold keyZ zK
  by_cases h5 : m &&& 512 = 0
  · rw [if_pos h5, if_neg (by simp [h5])]
    exact h
  · rw [if_neg h5, if_pos (by simp [h5]), h]
    exact ((zB_is m).anti x y).symm
theorem bykey_ok {L : List KeyL} {oo : Option UInt8} (EN : Nats L) (j : Nat) (hj : j < L.length) (a b : ByteArray) (ha : a.size ≤ 1048576) (hb : b.size ≤ 1048576) (hm : L[j].m < 1024) (ht : togS L[j].m = true) (W : World) :
    Calls Tryz.prog 36 #[.string a, .string b, .agg (kc L[j]).toArray, .int .i64 (tabI oo)] W (RetBk W (.int .i64 (zK L[j].m (cutL a oo L j).data.toList (cutL b oo L j).data.toList))) := by
  have hm2 : L[j].m < 65536 := by omega
  have KD := kd_all ⟨L[j].m, hm⟩
  unfold kdP at KD
  simp only [ht, Bool.not_true, Bool.false_or] at KD
  have sz : ∀ s : ByteArray, s.size ≤ 1048576 → (flL s oo L j).size ≤ 1048576 := fun s hs => by
    rw [flL_at hj]
    rw [bs_size]
    have h1 := filt_len (letsS L[j].m) (foldS L[j].m) (cutL s oo L j).data.toList
    have h2 := cutL_size s oo L j hs
    rw [Lib.size_eq] at h2
    exact Nat.le_trans h1 h2
  have fl : ∀ s : ByteArray, (flL s oo L j).data.toList = filtS (letsS L[j].m) (foldS L[j].m) (cutL s oo L j).data.toList := fun s => by
    rw [flL_at hj, bs_list]
    rfl
  by_cases h240 : L[j].m &&& 240 = 0
  · rw [if_pos h240] at KD
    have e1 := bykey_txt a b (flL a oo L j) (flL b oo L j) L[j].f L[j].c L[j].ef L[j].ec (tabI oo) L[j].m L[j].b (!decide (L[j].m &&& 256 = 0)) (!decide (L[j].m &&& 512 = 0))
      (Lib.compareBytes (flL a oo L j).data.toList (flL b oo L j).data.toList) (Num.cmpS 256 (flL a oo L j).data.toList (flL b oo L j).data.toList) W (cb_rng _ _) ⟨(Num.cmpS_is 256).lo _ _, (Num.cmpS_is 256).hi _ _⟩
      (Lib.hid fun W2 => by have := has_ok L[j].m 240 hm2 (by omega) W2; rw [h240] at this; exact this)
      (Lib.hid fun W2 => has_ok L[j].m 256 hm2 (by omega) W2) (Lib.hid fun W2 => has_ok L[j].m 512 hm2 (by omega) W2)
      (Lib.hid fun W2 => mfilter_at EN a oo ha j hj W2) (Lib.hid fun W2 => mfilter_at EN b oo hb j hj W2)
      (Lib.hid fun W2 => bytewise_ok _ _ W2 (by have := sz a ha; omega) (by have := sz b hb; omega))
      (Lib.hid fun W2 _ => Num.compareR_ok 256 _ _ W2 (sz a ha) (sz b hb))
    rw [fl a, fl b, key_zK L[j].m (cutL a oo L j).data.toList (cutL b oo L j).data.toList _ (by
      unfold keyY zB
      by_cases h256 : L[j].m &&& 256 = 0
      · rw [if_pos h256] at KD
        have k0 : L[j].m &&& 496 = 0 := by simpa using KD
        rw [if_neg (by simp [h256]), if_pos k0]
      · rw [if_neg h256] at KD
        have k0 : L[j].m &&& 496 = 256 := by simpa using KD
        rw [if_pos (by simp [h256]), if_neg (by omega), if_pos k0])] at e1
    exact e1
  · rw [if_neg h240] at KD
    have k1 : L[j].m &&& 496 = L[j].m &&& 240 ∧ ¬ L[j].m &&& 496 = 0 ∧ ¬ L[j].m &&& 496 = 256 := by simpa [Bool.and_eq_true, and_assoc] using KD
    have hle : ∀ s : ByteArray, (spL s oo L j).1 ≤ (spL s oo L j).2 ∧ (spL s oo L j).2 ≤ s.size := fun s => by rw [spL_at hj]; exact spanP_le s oo _ _ _ _ _ _
    have e1 := bykey_num a b L[j].f L[j].c L[j].ef L[j].ec (tabI oo) L[j].m L[j].b (!decide (L[j].m &&& 512 = 0)) (Num.cmpS (L[j].m &&& 240) (cutL a oo L j).data.toList (cutL b oo L j).data.toList)
      (spL a oo L j).1 (spL a oo L j).2 (spL b oo L j).1 (spL b oo L j).2 W hm2 ⟨(Num.cmpS_is _).lo _ _, (Num.cmpS_is _).hi _ _⟩ (hle a).1 (hle a).2 (hle b).1 (hle b).2
      (Lib.hid fun W2 => by have := has_ok L[j].m 240 hm2 (by omega) W2; rw [decide_eq_false h240] at this; exact this)
      (Lib.hid fun W2 => has_ok L[j].m 512 hm2 (by omega) W2)
      (Lib.hid fun W2 => mspan_at EN a oo ha j hj W2) (Lib.hid fun W2 => mspan_at EN b oo hb j hj W2)
      (Lib.hid fun W2 _ => Num.compareR_ok (L[j].m &&& 240) (cutL a oo L j) (cutL b oo L j) W2 (cutL_size a oo L j ha) (cutL_size b oo L j hb))
    rw [key_zK L[j].m (cutL a oo L j).data.toList (cutL b oo L j).data.toList _ (by
      unfold zB
      rw [if_neg k1.2.1, if_neg k1.2.2, k1.1])] at e1
    exact e1
theorem compares_ok (o : Opt) (ks : List KeyL) (ka : Option Addr) (kcp : Nat) (fa : Option Addr) (fn fc : Nat) (a b : ByteArray) (w : World) (hmm : o.mods < 65536) (hm : ∀ k ∈ ks, k.m < 65536) (hk : SlAt w w.heap.size (.slice ka ks.length kcp) 6 ks.length (ksV ks)) (hkl : ks.length ≤ 1048576)
    (ha : a.size ≤ 1048576) (hb : b.size ≤ 1048576) (T : Tbs w) :
    Calls Tryz.prog 9 #[optV o (.slice ka ks.length kcp) (.slice fa fn fc), .string a, .string b] w (RetBk w (.bool true)) := by
  have EFF : ∀ W : World, Below w.heap.size w W → Calls Tryz.prog 14 #[optV o (.slice ka ks.length kcp) (.slice fa fn fc)] W (RetKeys W (effL ks o.mods o.tab)) := fun W b => by
    have := mref_ok o ks (.slice ka ks.length kcp) (.slice fa fn fc) W ((hk.keep b (Nat.le_refl _)).mono b.size) (by omega) hmm
    have e : (dflt ks).map (own o) = effL ks o.mods o.tab := by unfold effL; exact List.map_congr_left (fun k _ => own_o3 o k)
    rw [e] at this
    exact this
  have MK : docS ks o.mods o.tab = true → ∀ W : World, Below w.heap.size w W → Calls Tryz.prog 22 #[optV o (.slice ka ks.length kcp) (.slice fa fn fc), .string a, .string b] W (RetBk W (.int .i64 (kyS (tabO o.tab) (effL ks o.mods o.tab) a b))) := fun hd W bb => by
    obtain ⟨oo, ht⟩ := docS_tab hd
    have EN : Nats (effL ks o.mods o.tab) := eff_nats hd
    have hL : (effL ks o.mods o.tab).length ≤ 1099511627776 := by have := eff_lenT ks o.mods o.tab; omega
    have h2 := hd
    unfold docS at h2
    simp only [Bool.and_eq_true, decide_eq_true_eq] at h2
    have hm1 := eff_m (t := o.tab) h2.2.2.1 h2.2.2.2.1
    have htg := h2.2.2.2.2
    rw [List.all_eq_true] at htg
    rw [tabO_of ht]
    have := mkeys_g o (effL ks o.mods o.tab) ka ks.length kcp fa fn fc a b (fun i => zK (mL (effL ks o.mods o.tab) i) (cutL a oo (effL ks o.mods o.tab) i).data.toList (cutL b oo (effL ks o.mods o.tab) i).data.toList) W hL
      (fun W2 b2 => EFF W2 (bb.trans (b2.mono bb.size))) (fun j hj W2 b2 => by
        show Calls Tryz.prog 36 _ W2 (RetBk W2 (.int .i64 (zK (mL (effL ks o.mods o.tab) j) _ _)))
        rw [mL_at hj, ht]
        rw [ht] at hj
        have q := bykey_ok (oo := oo) EN j (by rw [ht]; exact hj) a b ha hb (hm1 _ (List.getElem_mem _)) (htg _ (List.getElem_mem _)) W2
        simp only [ht] at q
        exact q)
    exact this
  refine compares_g (docS ks o.mods o.tab = true) o ka ks.length kcp fa fn fc a b _ _ w T.cls (fun W bb => ordC_ok o ks _ _ a b W hmm hm ((hk.keep bb (Nat.le_refl _)).mono bb.size) hkl ha hb (T.below bb)) MK (fun hd W bb => ?_)
  exact mcompare_g o ka ks.length kcp fa fn fc a b _ W hmm (by omega) (by omega) (fun W2 b2 => MK hd W2 (bb.trans (b2.mono bb.size)))
end
end
end
end
end Go.Proofs.YtgpcmlbmmcnkjaaGreatDoor
