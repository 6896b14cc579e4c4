/- keyspec.clash and Check of options that say keys, modifiers and a separator. -/
import Derived.Test.YtnpnccjeapejdaaGreatDoorCk
namespace Go.Proofs.YtnpnccjeapejdaaGreatDoor
section
section
section
section
section
section
open Go.RowKit

set_option maxRecDepth 100000
/-- Options that say keys, modifiers and a separator. -/
def oC (v : Value) (m : Nat) (t : Int) : List Value := [v, .int .u16 (m : Int), .int .i64 t, .bool false, .bool false, .bool false, .bool false, .int .u8 0, .string ⟨#[]⟩, .bool false, .int .i64 0, .int .i64 0, .int .i64 0, .int .i64 0, .string ⟨#[]⟩, .bool false, .string ⟨#[]⟩, .slice none 0 0]
/-- Does each field hold? -/
def fhS (ks : List KeyL) (m : Nat) (t : Int) : Bool := decide (ks.length ≤ 16) && (ks.all hb && (decide (m < 1024) && decide (-1 ≤ t ∧ t ≤ 255)))
theorem sl_shape {w : World} {B : Nat} {v : Value} {size n : Nat} {xs : List Value} (h : SlAt w B v size n xs) : ∃ ao c, v = .slice ao n c := by
  rcases h.2 with ⟨h | ⟨ad, c, h⟩, h0⟩ | ⟨b, off, c, h, _⟩
  · exact ⟨none, 0, by rw [h, h0]⟩
  · exact ⟨some ad, c, by rw [h, h0]⟩
  · exact ⟨_, c, h⟩
end
section
open Go.RowKit

set_option maxRecDepth 100000
attribute [local go_sem] undef
set_option maxHeartbeats 3200000 in
theorem fields_b1 (ks : List KeyL) (m : Nat) (t : Int) (ao : Option Addr) (c : Nat) (w : World) (t1 : decide ((ks.length : Int) ≤ 16) = true) (C : Hid (Calls Tryz.prog 69 #[Value.slice ao ks.length c, Value.func (Fn.func 70) #[] #[]] (w.alloc (Obj.cells (oC (Value.slice ao ks.length c) m t).toArray 28)) (RetBk (w.alloc (Obj.cells (oC (Value.slice ao ks.length c) m t).toArray 28)) (Value.bool true)))) :
    Calls Tryz.prog 46 #[.agg #[.slice ao ks.length c, .int .u16 (m : Int), .int .i64 t, .bool false, .bool false, .bool false, .bool false, .int .u8 0, .string ⟨#[]⟩, .bool false, .int .i64 0, .int .i64 0, .int .i64 0, .int .i64 0, .string ⟨#[]⟩, .bool false, .string ⟨#[]⟩, .slice none 0 0]] w (RetBk w (.bool false)) := by
  have B0 := Lib.hid ((Below.refl w.heap.size w).alloc (Nat.le_refl _) (.cells (oC (.slice ao ks.length c) m t).toArray 28))
  go_enter Tryz.func46, Tryz.ntmps46
  go_wp2_with fail
  refine C.out.mono ?_
  rintro e w1 ⟨rfl, hb1⟩
  have B1 := Lib.hid (B0.out.trans (hb1.mono (by simp)))
  clear hb1 B0 C
  go_wp2_with fail
  go_ret
  exact ⟨rfl, B1.out⟩
set_option maxHeartbeats 3200000 in
theorem fields_b4 (ks : List KeyL) (m : Nat) (t : Int) (ao : Option Addr) (c : Nat) (w : World) (t1 : decide ((ks.length : Int) ≤ 16) = false) :
    Calls Tryz.prog 46 #[.agg #[.slice ao ks.length c, .int .u16 (m : Int), .int .i64 t, .bool false, .bool false, .bool false, .bool false, .int .u8 0, .string ⟨#[]⟩, .bool false, .int .i64 0, .int .i64 0, .int .i64 0, .int .i64 0, .string ⟨#[]⟩, .bool false, .string ⟨#[]⟩, .slice none 0 0]] w (RetBk w (.bool false)) := by
  have B0 := Lib.hid ((Below.refl w.heap.size w).alloc (Nat.le_refl _) (.cells (oC (.slice ao ks.length c) m t).toArray 28))
  go_enter Tryz.func46, Tryz.ntmps46
  go_wp2_with fail
  go_ret
  exact ⟨rfl, B0.out⟩
end
end
section
open Go.RowKit

set_option maxRecDepth 100000
attribute [local go_sem] undef
set_option maxHeartbeats 3200000 in
theorem fields_b2 (ks : List KeyL) (m : Nat) (t : Int) (ao : Option Addr) (c : Nat) (w : World) (t1 : decide ((ks.length : Int) ≤ 16) = true) (C : Hid (Calls Tryz.prog 69 #[Value.slice ao ks.length c, Value.func (Fn.func 70) #[] #[]] (w.alloc (Obj.cells (oC (Value.slice ao ks.length c) m t).toArray 28)) (RetBk (w.alloc (Obj.cells (oC (Value.slice ao ks.length c) m t).toArray 28)) (Value.bool false)))) (d : Nat) (e2 : bits BinOp.andNot IntKind.u16 (m : Int) 1023 = (d : Int)) (e3 : ((d : Int) == 0) = false) :
    Calls Tryz.prog 46 #[.agg #[.slice ao ks.length c, .int .u16 (m : Int), .int .i64 t, .bool false, .bool false, .bool false, .bool false, .int .u8 0, .string ⟨#[]⟩, .bool false, .int .i64 0, .int .i64 0, .int .i64 0, .int .i64 0, .string ⟨#[]⟩, .bool false, .string ⟨#[]⟩, .slice none 0 0]] w (RetBk w (.bool false)) := by
  have A0 := Lib.hid (CellsAt.new w (oC (.slice ao ks.length c) m t) 28)
  have B0 := Lib.hid ((Below.refl w.heap.size w).alloc (Nat.le_refl _) (.cells (oC (.slice ao ks.length c) m t).toArray 28))
  go_enter Tryz.func46, Tryz.ntmps46
  go_wp2_with fail
  refine C.out.mono ?_
  rintro e w1 ⟨rfl, hb1⟩
  have A1 := Lib.hid (A0.out.step hb1)
  have B1 := Lib.hid (B0.out.trans (hb1.mono (by simp)))
  clear hb1 A0 B0 C
  have a1 := A1.out.cell 1 _ rfl
  go_wp2_with fail
  go_ret
  exact ⟨rfl, B1.out⟩
end
end
section
open Go.RowKit

set_option maxRecDepth 100000
attribute [local go_sem] undef
set_option maxHeartbeats 3200000 in
theorem fields_b3 (ks : List KeyL) (m : Nat) (t : Int) (ao : Option Addr) (c : Nat) (w : World) (t1 : decide ((ks.length : Int) ≤ 16) = true) (C : Hid (Calls Tryz.prog 69 #[Value.slice ao ks.length c, Value.func (Fn.func 70) #[] #[]] (w.alloc (Obj.cells (oC (Value.slice ao ks.length c) m t).toArray 28)) (RetBk (w.alloc (Obj.cells (oC (Value.slice ao ks.length c) m t).toArray 28)) (Value.bool false)))) (e2 : bits BinOp.andNot IntKind.u16 (m : Int) 1023 = 0) (T : Hid (∀ w, Calls Tryz.prog 72 #[.int .i64 t, .int .i64 (-1), .int .i64 255] w (RetV w (.bool false)))) :
    Calls Tryz.prog 46 #[.agg #[.slice ao ks.length c, .int .u16 (m : Int), .int .i64 t, .bool false, .bool false, .bool false, .bool false, .int .u8 0, .string ⟨#[]⟩, .bool false, .int .i64 0, .int .i64 0, .int .i64 0, .int .i64 0, .string ⟨#[]⟩, .bool false, .string ⟨#[]⟩, .slice none 0 0]] w (RetBk w (.bool false)) := by
  have A0 := Lib.hid (CellsAt.new w (oC (.slice ao ks.length c) m t) 28)
  have B0 := Lib.hid ((Below.refl w.heap.size w).alloc (Nat.le_refl _) (.cells (oC (.slice ao ks.length c) m t).toArray 28))
  go_enter Tryz.func46, Tryz.ntmps46
  go_wp2_with fail
  refine C.out.mono ?_
  rintro e w1 ⟨rfl, hb1⟩
  have A1 := Lib.hid (A0.out.step hb1)
  have B1 := Lib.hid (B0.out.trans (hb1.mono (by simp)))
  clear hb1 A0 B0 C
  have a1 := A1.out.cell 1 _ rfl
  have a2 := A1.out.cell 2 _ rfl
  go_wp2_with (go_at_call 72; refine (T.out _).mono ?_; rintro e w' ⟨rfl, rfl⟩)
  go_ret
  exact ⟨rfl, B1.out⟩
end
end
section
open Go.RowKit

set_option maxRecDepth 100000
set_option maxHeartbeats 16000000 in
theorem fields_b0 (ks : List KeyL) (m : Nat) (t : Int) (ao : Option Addr) (c : Nat) (w : World) (t1 : decide ((ks.length : Int) ≤ 16) = true) (C : Hid (Calls Tryz.prog 69 #[Value.slice ao ks.length c, Value.func (Fn.func 70) #[] #[]] (w.alloc (Obj.cells (oC (Value.slice ao ks.length c) m t).toArray 28)) (RetBk (w.alloc (Obj.cells (oC (Value.slice ao ks.length c) m t).toArray 28)) (Value.bool false)))) (e2 : bits BinOp.andNot IntKind.u16 (m : Int) 1023 = 0) (T : Hid (∀ w, Calls Tryz.prog 72 #[.int .i64 t, .int .i64 (-1), .int .i64 255] w (RetV w (.bool true)))) :
    Calls Tryz.prog 46 #[.agg #[.slice ao ks.length c, .int .u16 (m : Int), .int .i64 t, .bool false, .bool false, .bool false, .bool false, .int .u8 0, .string ⟨#[]⟩, .bool false, .int .i64 0, .int .i64 0, .int .i64 0, .int .i64 0, .string ⟨#[]⟩, .bool false, .string ⟨#[]⟩, .slice none 0 0]] w (RetBk w (.bool true)) := by
  have A0 := Lib.hid (CellsAt.new w (oC (.slice ao ks.length c) m t) 28)
  have B0 := Lib.hid ((Below.refl w.heap.size w).alloc (Nat.le_refl _) (.cells (oC (.slice ao ks.length c) m t).toArray 28))
  go_enter Tryz.func46, Tryz.ntmps46
  go_wp2_with fail
  refine C.out.mono ?_
  rintro e w1 ⟨rfl, hb1⟩
  have A1 := Lib.hid (A0.out.step hb1)
  have B1 := Lib.hid (B0.out.trans (hb1.mono (by simp)))
  clear hb1 A0 B0 C
  have a1 := A1.out.cell 1 _ rfl
  have a2 := A1.out.cell 2 _ rfl
  have a7 := A1.out.cell 7 _ rfl
  have a8 := A1.out.cell 8 _ rfl
  have a9 := A1.out.cell 9 _ rfl
  have a10 := A1.out.cell 10 _ rfl
  have a11 := A1.out.cell 11 _ rfl
  have a12 := A1.out.cell 12 _ rfl
  have a13 := A1.out.cell 13 _ rfl
  have a14 := A1.out.cell 14 _ rfl
  have a15 := A1.out.cell 15 _ rfl
  have a16 := A1.out.cell 16 _ rfl
  have a17 := A1.out.cell 17 _ rfl
  go_wp2_with (first
    | (go_at_call 74; refine (contains_nilS _ _).mono ?_; rintro e w' ⟨rfl, rfl⟩)
    | (go_at_call 72; refine (within_true _ _ _ (by decide) (by decide) _).mono ?_; rintro e w' ⟨rfl, rfl⟩)
    | (go_at_call 72; refine (T.out _).mono ?_; rintro e w' ⟨rfl, rfl⟩))
  go_ret
  exact ⟨rfl, B1.out⟩
end
end
section
open Go.RowKit

theorem fields_ok (ks : List KeyL) (v : Value) (m : Nat) (t : Int) (w : World) (hmm : m < 65536) (hm : ∀ k ∈ ks, k.m < 65536) (hv : SlAt w w.heap.size v 6 ks.length (ksV ks)) :
    Calls Tryz.prog 46 #[.agg #[v, .int .u16 (m : Int), .int .i64 t, .bool false, .bool false, .bool false, .bool false, .int .u8 0, .string ⟨#[]⟩, .bool false, .int .i64 0, .int .i64 0, .int .i64 0, .int .i64 0, .string ⟨#[]⟩, .bool false, .string ⟨#[]⟩, .slice none 0 0]] w (RetBk w (.bool (fhS ks m t))) := by
  obtain ⟨ao, c, rfl⟩ := sl_shape hv
  by_cases h1 : ks.length ≤ 16
  · have t1 : decide ((ks.length : Int) ≤ 16) = true := by rw [decide_eq_true_eq]; omega
    have B0 := (Below.refl w.heap.size w).alloc (Nat.le_refl _) (.cells (oC (.slice ao ks.length c) m t).toArray 28)
    have C := Lib.hid (contains_ok ks (.slice ao ks.length c) (w.alloc (.cells (oC (.slice ao ks.length c) m t).toArray 28)) hm h1 ((hv.keep B0 (Nat.le_refl _)).mono (by simp)))
    have HF : fhS ks m t = (ks.all hb && (decide (m < 1024) && decide (-1 ≤ t ∧ t ≤ 255))) := by unfold fhS; rw [decide_eq_true h1]; rfl
    rw [HF]
    cases hx : ks.all hb
    · rw [hx] at C
      exact fields_b1 ks m t ao c w t1 C
    · rw [hx] at C
      by_cases h2 : m < 1024
      · have e2 : bits BinOp.andNot IntKind.u16 (m : Int) 1023 = 0 := clr_low ⟨m, h2⟩
        rw [decide_eq_true h2]
        by_cases h3 : -1 ≤ t ∧ t ≤ 255
        · rw [decide_eq_true h3]
          exact fields_b0 ks m t ao c w t1 C e2 (Lib.hid (fun w => within_t t (-1) 255 h3.1 h3.2 w))
        · rw [decide_eq_false h3]
          exact fields_b3 ks m t ao c w t1 C e2 (Lib.hid (fun w => within_f t (-1) 255 h3 w))
      · obtain ⟨d, e2, e3⟩ := clr_big m hmm h2
        rw [decide_eq_false h2]
        exact fields_b2 ks m t ao c w t1 C d e2 e3
  · have HF : fhS ks m t = false := by unfold fhS; rw [decide_eq_false h1]; rfl
    rw [HF]
    exact fields_b4 ks m t ao c w (by rw [decide_eq_false_iff_not]; omega)
end
end
section
open Go.RowKit

set_option maxRecDepth 100000
attribute [local go_sem] undef
def o3 (m : Nat) (t : Int) : Opt := ⟨m, t, false, false, false, false, 0, ⟨#[]⟩, false, 0, 0, 0, 0, ⟨#[]⟩, false, ⟨#[]⟩⟩
/-- The keys that count. -/
def effL (ks : List KeyL) (m : Nat) (t : Int) : List KeyL := (dflt ks).map (own (o3 m t))
theorem eff_ok (o : Opt) (ks : List KeyL) (kv fv : Value) (w : World) (hk : SlAt w w.heap.size kv 6 ks.length (ksV ks)) (hl : ks.length ≤ 16) :
    Calls Tryz.prog 31 #[optV o kv fv] w (RetKeys w ((dflt ks).map (own o))) := by
  cases ks with
  | nil => exact eff_nil o kv fv w hk
  | cons a r => exact eff_some o (a :: r) kv fv w hk (by omega) (by simp)
/-- Under way in clash. -/
structure ClIn (w : World) (g : Nat) (v : Value) (m : Nat) (t : Int) (L : List KeyL) (wr : World) : Prop where
  opt : CellsAt wr w.heap.size (oC v m t)
  row : wr.rangeAt g 0 (ksV L)
  hi : g < wr.heap.size
  bel : Below w.heap.size w wr
theorem ClIn.step {w wr w2 : World} {g : Nat} {v : Value} {m : Nat} {t : Int} {L : List KeyL} (h : ClIn w g v m t L wr) (b : Below wr.heap.size wr w2) : ClIn w g v m t L w2 :=
  ⟨h.opt.step b, range_below h.row b h.hi, Nat.lt_of_lt_of_le h.hi b.size, h.bel.trans (b.mono h.bel.size)⟩
def ClR (w : World) (g : Nat) (v : Value) (m : Nat) (t : Int) (L : List KeyL) (i : Value) (wr : World) : Prop :=
  ∃ k : Nat, k ≤ L.length ∧ i = .int .i64 k ∧ (L.take k).all (fun x => togS x.m) = true ∧ ClIn w g v m t L wr
def clE (L : List KeyL) : Int := if L.all (fun x => togS x.m) = true then 0 else 48
theorem oC_load (v : Value) (m : Nat) (t : Int) : (Tryz.prog.info? 28).map (·.size) = some (oC v m t).length := by kernel_rfl
set_option maxHeartbeats 3200000 in
theorem clash_ok (ks : List KeyL) (v : Value) (m : Nat) (t : Int) (w : World) (hl : ks.length ≤ 16) (hm : ∀ k ∈ effL ks m t, k.m < 1024) (hv : SlAt w w.heap.size v 6 ks.length (ksV ks)) :
    Calls Tryz.prog 47 #[.agg #[v, .int .u16 (m : Int), .int .i64 t, .bool false, .bool false, .bool false, .bool false, .int .u8 0, .string ⟨#[]⟩, .bool false, .int .i64 0, .int .i64 0, .int .i64 0, .int .i64 0, .string ⟨#[]⟩, .bool false, .string ⟨#[]⟩, .slice none 0 0]] w (RetBk w (.int .i64 (clE (effL ks m t)))) := by
  obtain ⟨ao, c, rfl⟩ := sl_shape hv
  have A0 := Lib.hid (CellsAt.new w (oC (.slice ao ks.length c) m t) 28)
  have R0 := Lib.hid (A0.out.range)
  have B0 := Lib.hid ((Below.refl w.heap.size w).alloc (Nat.le_refl _) (.cells (oC (.slice ao ks.length c) m t).toArray 28))
  have E := Lib.hid (eff_ok (o3 m t) ks (.slice ao ks.length c) (.slice none 0 0) (w.alloc (.cells (oC (.slice ao ks.length c) m t).toArray 28)) ((hv.keep B0.out (Nat.le_refl _)).mono (by simp)) hl)
  change Hid (Calls Tryz.prog 31 _ _ (RetKeys _ (effL ks m t))) at E
  have hL : (effL ks m t).length ≤ 16 := by
    unfold effL dflt
    rw [List.length_map]
    split
    · decide
    · exact hl
  generalize effL ks m t = L at E hm hL ⊢
  have HM := Lib.hid hm
  clear hv hm
  go_enter Tryz.func47, Tryz.ntmps47
  go_wp2_with first
    | (guard_target =~ wpList _ _ _ (⟨some _, Op.load 28 _, _, _, _, _⟩ :: _) _ _; go_must (refine wpList_load_mid rfl 28 _ rfl w.heap.size 0 rfl (oC (.slice ao ks.length c) m t) _ R0.out Tryz.underlying28 rfl (oC_load _ _ _) ?_))
  refine E.out.mono ?_
  rintro e w1 ⟨g, cc, he, h1, h2, h3, h4⟩
  obtain rfl : e = .returned (.slice (some ⟨g, 0, none⟩) L.length cc) := he
  have I1 := Lib.hid (show ClIn w g (.slice ao ks.length c) m t L w1 from ⟨A0.out.step h4, h3, h2, B0.out.trans (h4.mono (by simp))⟩)
  clear h1 h2 h3 h4 A0 R0 B0 E
  go_wp2_with fail
  go_loopw [9] (fun i wr => ClR w g (.slice ao ks.length c) m t L i wr) (fun i _ => L.length - (intOf i).toNat)
  case atStart => exact ⟨0, by omega, rfl, rfl, I1.out⟩
  case round =>
    obtain ⟨k, hk, rfl, hal, hI⟩ := hrel
    have HAL := Lib.hid hal
    have HI := Lib.hid hI
    clear hal hI I1
    by_cases hlt : k < L.length
    · have d1 : decide ((k : Int) < (L.length : Int)) = true := by simpa using hlt
      have A := ks_row HI.out.row k hlt
      have T := Lib.hid (fun w => tog_ok L[k].m (HM.out _ (List.getElem_mem hlt)) w)
      have HT := Lib.hid (show (L.take (k + 1)).all (fun x => togS x.m) = togS L[k].m by
        rw [List.take_succ_eq_append_getElem hlt, List.all_append, HAL.out]; simp)
      have HN := Lib.hid (show togS L[k].m = false → clE L = 48 from fun e => by
        unfold clE
        rw [if_neg]
        rw [Bool.not_eq_true, List.all_eq_false]; exact ⟨_, List.getElem_mem hlt, by rw [e]; decide⟩)
      generalize L[k] = K at A T HT HN
      generalize togS K.m = x at T HT HN
      have a0 := A 0 _ rfl
      have a1 := A 1 _ rfl
      have a2 := A 2 _ rfl
      have a3 := A 3 _ rfl
      have a4 := A 4 _ rfl
      have a5 := A 5 _ rfl
      rw [Nat.add_zero] at a0
      clear A
      obtain ⟨Kf, Kc, Ke, Kd, Km, Kb⟩ := K
      have I2 := Lib.hid (HI.out.step ((Below.refl _ _).alloc (Nat.le_refl _) (.cells (kc ⟨Kf, Kc, Ke, Kd, Km, Kb⟩).toArray 54)))
      cases x
      · go_wp2_with fail
        refine (T.out _).mono ?_
        rintro e w2 ⟨rfl, rfl⟩
        go_wp2_with fail
        go_ret
        exact ⟨by rw [HN.out trivial]; rfl, I2.out.bel⟩
      · go_wp2_with fail
        refine (T.out _).mono ?_
        rintro e w2 ⟨rfl, rfl⟩
        go_wp2_with fail
        refine ⟨⟨k + 1, by omega, by simp, HT.out, I2.out⟩, ?_⟩
        simp [intOf]; omega
    · have hke : k = L.length := by omega
      have d1 : decide ((k : Int) < (L.length : Int)) = false := by simp; omega
      have HE := Lib.hid (show clE L = 0 by
        have := HAL.out
        rw [hke, List.take_length] at this
        unfold clE; rw [if_pos this])
      have a6 := HI.out.opt.cell 6 _ rfl
      have a7 := HI.out.opt.cell 7 _ rfl
      have a9 := HI.out.opt.cell 9 _ rfl
      have a16 := HI.out.opt.cell 16 _ rfl
      have a17 := HI.out.opt.cell 17 _ rfl
      go_wp2_with fail
      go_ret
      exact ⟨by rw [HE.out]; rfl, HI.out.bel⟩
/-- May these options be? -/
def chS (ks : List KeyL) (m : Nat) (t : Int) : Bool := fhS ks m t && (effL ks m t).all (fun x => togS x.m)
def chE (ks : List KeyL) (m : Nat) (t : Int) : Int := if chS ks m t = true then 0 else 46
set_option maxHeartbeats 3200000 in
theorem check_ok (ks : List KeyL) (v : Value) (m : Nat) (t : Int) (w : World) (hmm : m < 65536) (hm : ∀ k ∈ ks, k.m < 65536) (hv : SlAt w w.heap.size v 6 ks.length (ksV ks)) :
    Calls Tryz.prog 30 #[.agg #[v, .int .u16 (m : Int), .int .i64 t, .bool false, .bool false, .bool false, .bool false, .int .u8 0, .string ⟨#[]⟩, .bool false, .int .i64 0, .int .i64 0, .int .i64 0, .int .i64 0, .string ⟨#[]⟩, .bool false, .string ⟨#[]⟩, .slice none 0 0]] w (RetBk w (.int .i64 (chE ks m t))) := by
  obtain ⟨ao, c, rfl⟩ := sl_shape hv
  have A0 := Lib.hid (CellsAt.new w (oC (.slice ao ks.length c) m t) 28)
  have R0 := Lib.hid (A0.out.range)
  have B0 := Lib.hid ((Below.refl w.heap.size w).alloc (Nat.le_refl _) (.cells (oC (.slice ao ks.length c) m t).toArray 28))
  have V0 := Lib.hid ((hv.keep B0.out (Nat.le_refl _)).mono (show w.heap.size ≤ (w.alloc (.cells (oC (.slice ao ks.length c) m t).toArray 28)).heap.size by simp))
  have F := Lib.hid (fields_ok ks (.slice ao ks.length c) m t (w.alloc (.cells (oC (.slice ao ks.length c) m t).toArray 28)) hmm hm V0.out)
  cases hf : fhS ks m t
  · have HE := Lib.hid (show chE ks m t = 46 by unfold chE chS; rw [hf]; rfl)
    rw [hf] at F
    clear hf hv hm hmm
    go_enter Tryz.func30, Tryz.ntmps30
    go_wp2_with first
      | (guard_target =~ wpList _ _ _ (⟨some _, Op.load 28 _, _, _, _, _⟩ :: _) _ _; go_must (refine wpList_load_mid rfl 28 _ rfl w.heap.size 0 rfl (oC (.slice ao ks.length c) m t) _ R0.out Tryz.underlying28 rfl (oC_load _ _ _) ?_))
    refine F.out.mono ?_
    rintro e w1 ⟨rfl, h4⟩
    have B1 := Lib.hid (B0.out.trans (h4.mono (by simp)))
    clear h4 A0 R0 B0 V0 F
    go_wp2_with fail
    go_ret
    exact ⟨by rw [HE.out]; rfl, B1.out⟩
  · have hh := hf
    unfold fhS at hh
    simp only [Bool.and_eq_true, decide_eq_true_eq] at hh
    obtain ⟨h1, h2, h3, h5⟩ := hh
    have hmk : ∀ k ∈ effL ks m t, k.m < 1024 := fun k hk => by
      unfold effL at hk
      obtain ⟨k0, hk0, rfl⟩ := List.mem_map.1 hk
      have hk1 : k0.m < 1024 := by
        unfold dflt at hk0
        split at hk0
        · rw [List.mem_singleton] at hk0; subst hk0; decide
        · exact ((hb_iff _).1 (List.all_eq_true.1 h2 _ hk0)).m1
      unfold own
      split
      · exact h3
      · exact hk1
    have C := Lib.hid (fun w1 (hv1 : SlAt w1 w1.heap.size (.slice ao ks.length c) 6 ks.length (ksV ks)) => clash_ok ks (.slice ao ks.length c) m t w1 h1 hmk hv1)
    have HE := Lib.hid (show chE ks m t = if (effL ks m t).all (fun x => togS x.m) = true then 0 else 46 by unfold chE chS; rw [hf]; rfl)
    rw [hf] at F
    clear hf hv hm hmm h1 h2 h3 h5 hmk
    generalize effL ks m t = L at C HE
    go_enter Tryz.func30, Tryz.ntmps30
    go_wp2_with first
      | (guard_target =~ wpList _ _ _ (⟨some _, Op.load 28 _, _, _, _, _⟩ :: _) _ _; go_must (refine wpList_load_mid rfl 28 _ rfl w.heap.size 0 rfl (oC (.slice ao ks.length c) m t) _ R0.out Tryz.underlying28 rfl (oC_load _ _ _) ?_))
    refine F.out.mono ?_
    rintro e w1 ⟨rfl, h4⟩
    have A1 := Lib.hid (A0.out.step h4)
    have R1 := Lib.hid (A1.out.range)
    have B1 := Lib.hid (B0.out.trans (h4.mono (by simp)))
    have C1 := Lib.hid (C.out w1 ((V0.out.keep h4 (Nat.le_refl _)).mono h4.size))
    clear h4 A0 R0 B0 V0 C F
    cases hx : L.all (fun x => togS x.m)
    · have e48 : clE L = 48 := by unfold clE; rw [hx]; rfl
      have HX := Lib.hid (show chE ks m t = 46 by rw [HE.out, hx]; rfl)
      rw [e48] at C1
      clear hx e48 HE
      go_wp2_with first
        | (guard_target =~ wpList _ _ _ (⟨some _, Op.load 28 _, _, _, _, _⟩ :: _) _ _; go_must (refine wpList_load_mid_g rfl 28 _ rfl w.heap.size 0 rfl (oC (.slice ao ks.length c) m t) _ R1.out Tryz.underlying28 rfl (oC_load _ _ _) ?_))
      refine C1.out.mono ?_
      rintro e w2 ⟨rfl, h4⟩
      have B2 := Lib.hid (B1.out.trans (h4.mono B1.out.size))
      clear h4 A1 R1 B1
      go_wp2_with fail
      go_ret
      exact ⟨by rw [HX.out]; rfl, B2.out⟩
    · have e48 : clE L = 0 := by unfold clE; rw [hx]; rfl
      have HX := Lib.hid (show chE ks m t = 0 by rw [HE.out, hx]; rfl)
      rw [e48] at C1
      clear hx e48 HE
      go_wp2_with first
        | (guard_target =~ wpList _ _ _ (⟨some _, Op.load 28 _, _, _, _, _⟩ :: _) _ _; go_must (refine wpList_load_mid_g rfl 28 _ rfl w.heap.size 0 rfl (oC (.slice ao ks.length c) m t) _ R1.out Tryz.underlying28 rfl (oC_load _ _ _) ?_))
      refine C1.out.mono ?_
      rintro e w2 ⟨rfl, h4⟩
      have B2 := Lib.hid (B1.out.trans (h4.mono B1.out.size))
      clear h4 A1 R1 B1
      go_wp2_with fail
      go_ret
      exact ⟨by rw [HX.out]; rfl, B2.out⟩
end
end Go.Proofs.YtnpnccjeapejdaaGreatDoor
