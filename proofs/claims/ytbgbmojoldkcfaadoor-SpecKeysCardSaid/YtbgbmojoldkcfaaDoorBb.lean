/- byBeginning. -/
import Derived.Test.YtbgbmojoldkcfaaDoorBn
namespace Go.Proofs.YtbgbmojoldkcfaaDoor
open Go.RowKit

def row4 (f : Bs) (l : Int) (wa : Bool) (lo : ByteArray) : List Value := [.string (bs f), .int .u8 l, .bool wa, .string lo]
structure BbIn (w : World) (F : Nat) (s : Bs) (k : Nat) (f : Bs) (l : Int) (wa : Bool) (lo : ByteArray) (wr : World) : Prop where
  res : CellsAt wr w.heap.size zero4
  found : CellsAt wr F (row4 f l wa lo)
  far : w.heap.size < F
  eq : fS s f (oNames.drop k) = fS s [] oNames
  below : Below w.heap.size w wr
theorem CellsAt.fourOther {w : World} {b c : Nat} {vs : List Value} (h : CellsAt w b vs) (hc : c ≠ b) (x0 x1 x2 x3 : Value) : CellsAt ((((w.setCell ⟨c, 0, none⟩ x0).setCell ⟨c, 1, none⟩ x1).setCell ⟨c, 2, none⟩ x2).setCell ⟨c, 3, none⟩ x3) b vs := by
  have one : ∀ {w : World} (_ : CellsAt w b vs) (j : Nat) (x : Value), CellsAt (w.setCell ⟨c, j, none⟩ x) b vs := fun h j x =>
    ⟨by simpa using h.lt, fun i v hv => by rw [World.cell?_setCell_other _ _ _ _ (fun e => hc (congrArg Addr.block e))]; exact h.cell i v hv, fun i => by rw [World.frozen?_setCell]; exact h.free i⟩
  exact one (one (one (one h 0 x0) 1 x1) 2 x2) 3 x3
theorem empty_yes {f : Bs} (h : f = []) : (bs f).toList.isEmpty = true := by rw [Lib.toList_data, bs_list, h]; rfl
theorem empty_no {f : Bs} (h : f ≠ []) : (bs f).toList.isEmpty = false := by rw [Lib.toList_data, bs_list, List.isEmpty_eq_false_iff]; exact h

set_option maxRecDepth 100000
set_option maxHeartbeats 1600000 in
theorem byBeg_yes (s : ByteArray) (w : World) (T : Tabs w) (h : s.data.toList ∈ oNames) : Calls Tryd.prog 17 #[.string s] w (RetOpt w s.data.toList (.int .i64 0)) := by
  have A0 := Lib.hid (CellsAt.new w zero4 47)
  have B0 := Lib.hid ((Below.refl w.heap.size w).alloc (Nat.le_refl _) (Obj.cells zero4.toArray 47))
  have C := Lib.hid (byName_ok s _ (T.below B0.out))
  have HM := Lib.hid h
  clear h T
  go_enter Tryd.func17, Tryd.ntmps17
  go_wp2_with fail
  refine C.out.mono ?_
  rintro e w1 (⟨_, l, wa, lo, rfl, hb⟩ | ⟨hn, _⟩)
  · have A1 := A0.out.step hb
    have B1 := Lib.hid (B0.out.trans (hb.mono (by simp)))
    clear hb
    have HA1 := Lib.hid A1
    have a0 := A1.cell 0 _ rfl
    have a1 := A1.cell 1 _ rfl
    have a2 := A1.cell 2 _ rfl
    have a3 := A1.cell 3 _ rfl
    have f0 := A1.free 0
    have f1 := A1.free 1
    have f2 := A1.free 2
    have f3 := A1.free 3
    have hl := A1.lt
    clear A1
    go_wp2_with fail
    have R := (HA1.out.four rfl (.string (bs s.data.toList)) (.int .u8 l) (.bool wa) (.string lo)).alloc (.cells #[.string (bs s.data.toList), .int .u8 l, .bool wa, .string lo] 47)
    have R0 := R.cell 0 _ rfl
    have R1 := R.cell 1 _ rfl
    have R2 := R.cell 2 _ rfl
    have R3 := R.cell 3 _ rfl
    have BB := (below_four B1.out (Nat.le_refl _) (.string (bs s.data.toList)) (.int .u8 l) (.bool wa) (.string lo)).alloc (by simpa using B1.out.size) (.cells #[.string (bs s.data.toList), .int .u8 l, .bool wa, .string lo] 47)
    exact bodyPost_ret (v := .tuple #[.agg #[.string (bs s.data.toList), .int .u8 l, .bool wa, .string lo], .int .i64 0]) (by simp [results, Tryd.results17, go_sem, R0, R1, R2, R3]) rfl ⟨_, _, _, rfl, BB⟩
  · exact absurd HM.out hn

set_option maxHeartbeats 1600000 in
theorem byBeg_empty (w : World) (T : Tabs w) : Calls Tryd.prog 17 #[.string ⟨#[]⟩] w (RetOpt w [] (.int .i64 40)) := by
  have A0 := Lib.hid (CellsAt.new w zero4 47)
  have B0 := Lib.hid ((Below.refl w.heap.size w).alloc (Nat.le_refl _) (Obj.cells zero4.toArray 47))
  have C := Lib.hid (byName_ok ⟨#[]⟩ _ (T.below B0.out))
  have HM := Lib.hid (show (⟨#[]⟩ : ByteArray).data.toList ∉ oNames from fun h => names_full ((names_same _).1 h))
  clear T
  go_enter Tryd.func17, Tryd.ntmps17
  go_wp2_with fail
  refine C.out.mono ?_
  rintro e w1 (⟨hy, _⟩ | ⟨_, l, wa, lo, rfl, hb⟩)
  · exact absurd hy HM.out
  · have A1 := A0.out.step hb
    have B1 := Lib.hid (B0.out.trans (hb.mono (by simp)))
    clear hb
    have HA1 := Lib.hid A1
    have a0 := A1.cell 0 _ rfl
    have a1 := A1.cell 1 _ rfl
    have a2 := A1.cell 2 _ rfl
    have a3 := A1.cell 3 _ rfl
    have f0 := A1.free 0
    have f1 := A1.free 1
    have f2 := A1.free 2
    have f3 := A1.free 3
    have hl := A1.lt
    clear A1
    go_wp2_with fail
    have R := (HA1.out.four rfl (.string ⟨#[]⟩) (.int .u8 0) (.bool false) (.string ⟨#[]⟩)).alloc (.cells #[.string (bs []), .int .u8 l, .bool wa, .string lo] 47)
    have R0 := R.cell 0 _ rfl
    have R1 := R.cell 1 _ rfl
    have R2 := R.cell 2 _ rfl
    have R3 := R.cell 3 _ rfl
    have BB := (below_four B1.out (Nat.le_refl _) (.string ⟨#[]⟩) (.int .u8 0) (.bool false) (.string ⟨#[]⟩)).alloc (by simpa using B1.out.size) (.cells #[.string (bs []), .int .u8 l, .bool wa, .string lo] 47)
    exact bodyPost_ret (v := .tuple #[.agg #[.string ⟨#[]⟩, .int .u8 0, .bool false, .string ⟨#[]⟩], .int .i64 40]) (by simp [results, Tryd.results17, go_sem, R0, R1, R2, R3]) rfl ⟨_, _, _, rfl, BB⟩

def RetP (w : World) (p : Bs × Int) (e : Ending) (w' : World) : Prop := RetOpt w p.1 (.int .i64 p.2) e w'
set_option maxHeartbeats 3200000 in
theorem byBeg_no (s : ByteArray) (w : World) (T : Tabs w) (h : s.data.toList ∉ oNames) (h0 : s.data.toList ≠ []) : Calls Tryd.prog 17 #[.string s] w (RetP w (fS s.data.toList [] oNames)) := by
  have A0 := Lib.hid (CellsAt.new w zero4 47)
  have B0 := Lib.hid ((Below.refl w.heap.size w).alloc (Nat.le_refl _) (Obj.cells zero4.toArray 47))
  have HT := Lib.hid (T.below B0.out)
  have C := Lib.hid (byName_ok s _ HT.out)
  have HM := Lib.hid h
  have se : s.toList.isEmpty = false := by rw [Lib.toList_data, List.isEmpty_eq_false_iff]; exact h0
  clear h T h0
  go_enter Tryd.func17, Tryd.ntmps17
  go_wp2_with fail
  refine C.out.mono ?_
  rintro e w1 (⟨hy, _⟩ | ⟨_, l0, wa0, lo0, rfl, hb⟩)
  · exact absurd hy HM.out
  · have A1 := Lib.hid (A0.out.step hb)
    have B1 := Lib.hid (B0.out.trans (hb.mono (by simp)))
    have hl1 := A1.out.lt
    have Bz := ((Below.refl w1.heap.size w1).alloc (Nat.le_refl _) (.cells #[.string (bs []), .int .u8 l0, .bool wa0, .string lo0] 47)).alloc (by simp) (Obj.cells zero4.toArray 47)
    obtain ⟨t0, fr0, hm⟩ := ((HT.out.below hb).below Bz).options
    have HMM := Lib.hid hm
    have NF := CellsAt.new (w1.alloc (.cells #[.string (bs []), .int .u8 l0, .bool wa0, .string lo0] 47)) zero4 47
    rw [show (w1.alloc (.cells #[.string (bs []), .int .u8 l0, .bool wa0, .string lo0] 47)).heap.size = w1.heap.size + 1 by simp] at NF
    have IN := Lib.hid (show BbIn w (w1.heap.size + 1) s.data.toList 0 [] 0 false ⟨#[]⟩ ((w1.alloc (.cells #[.string (bs []), .int .u8 l0, .bool wa0, .string lo0] 47)).alloc (Obj.cells zero4.toArray 47)) from ⟨A1.out.step Bz, NF, by omega, rfl, B1.out.trans (Bz.mono B1.out.size)⟩)
    clear hb Bz hm NF
    go_wp2_with (refine wpList_load_row rfl _ _ rfl 1 rfl t0 cOptions fr0 _ HMM.out Tryd.underlying82 rfl infoOpts ?_)
    go_loopw [20] (fun i wr => ∃ (k : Nat) (f : Bs) (l : Int) (wa : Bool) (lo : ByteArray), k ≤ 27 ∧ i = .int .i64 k ∧ BbIn w (w1.heap.size + 1) s.data.toList k f l wa lo wr) (fun i _ => 27 - (intOf i).toNat)
    case atStart => exact ⟨0, [], 0, false, ⟨#[]⟩, by omega, rfl, IN.out⟩
    case round =>
      obtain ⟨k, f, fl, fw, flo, hk, rfl, hI⟩ := hrel
      have HI := Lib.hid hI
      clear hI IN
      have hlw := HI.out.res.lt
      have hlF := HI.out.found.lt
      have b0 := HI.out.found.cell 0 _ rfl
      have b1 := HI.out.found.cell 1 _ rfl
      have b2 := HI.out.found.cell 2 _ rfl
      have b3 := HI.out.found.cell 3 _ rfl
      have g0 := HI.out.found.free 0
      have g1 := HI.out.found.free 1
      have g2 := HI.out.found.free 2
      have g3 := HI.out.found.free 3
      have a0 := HI.out.res.cell 0 _ rfl
      have a1 := HI.out.res.cell 1 _ rfl
      have a2 := HI.out.res.cell 2 _ rfl
      have a3 := HI.out.res.cell 3 _ rfl
      have f0 := HI.out.res.free 0
      have f1 := HI.out.res.free 1
      have f2 := HI.out.res.free 2
      have f3 := HI.out.res.free 3
      by_cases hlt : k < 27
      · have t1 : decide ((k : Int) < 27) = true := by simp only [decide_eq_true_eq]; omega
        have hx := index_opts k hlt
        have hd := oNames_drop k hlt
        have hnm : nmO k = (optL.getD k ([], 0, false, [])).1 := rfl
        generalize optL.getD k ([], 0, false, []) = p at *
        obtain ⟨nm, l, wa, lo⟩ := p
        simp only at hnm
        rw [hnm] at hd
        replace hx : ∀ w, (Instr.index 82 (.agg cOptions) (.int .i64 k)).run Tryd.prog w = .ok (.agg #[.string (bs nm), .int .u8 (l : Int), .bool wa, .string (bs lo)]) w := hx
        have hq := HI.out.eq
        rw [hd, fS] at hq
        have HP := Lib.hid (fun w => Tryd.strings_HasPrefix (bs nm) s w)
        rw [bs_list] at HP
        clear hd hnm
        cases hp : Lib.hasPrefix nm s.data.toList with
        | false =>
          rw [hp] at hq
          have HQ := Lib.hid (show fS s.data.toList f (oNames.drop (k + 1)) = fS s.data.toList [] oNames from hq)
          have HPP := Lib.hid hp
          clear hq hp
          go_wp2_with fail
          refine (HP.out _).mono ?_
          rintro e w' ⟨rfl, rfl⟩
          rw [HPP.out]
          go_wp2_with fail
          exact ⟨⟨k + 1, f, fl, fw, flo, by omega, by go_num, HI.out.res.alloc _, HI.out.found.alloc _, HI.out.far, HQ.out, HI.out.below.alloc HI.out.below.size _⟩, by simp [intOf]; omega⟩
        | true =>
          rw [hp] at hq
          have HPP := Lib.hid hp
          clear hp
          by_cases hf : f = []
          · have u1 := empty_yes hf
            rw [if_pos rfl, if_pos hf] at hq
            have HQ := Lib.hid hq
            clear hq hf
            go_wp2_with fail
            refine (HP.out _).mono ?_
            rintro e w' ⟨rfl, rfl⟩
            rw [HPP.out]
            go_wp2_with fail
            have hfar := HI.out.far
            exact ⟨⟨k + 1, nm, l, wa, bs lo, by omega, by go_num, (HI.out.res.fourOther (by omega) _ _ _ _).alloc _, (HI.out.found.four rfl _ _ _ _).alloc _, HI.out.far, HQ.out, (below_four HI.out.below (by omega) _ _ _ _).alloc (by simpa using HI.out.below.size) _⟩, by simp [intOf]; omega⟩
          · have u1 := empty_no hf
            rw [if_pos rfl, if_neg hf] at hq
            by_cases he : f = nm
            · have u2 : ((bs f).toList == (bs nm).toList) = true := by rw [he]; simp
              rw [if_pos he] at hq
              have HQ := Lib.hid hq
              clear hq hf he
              go_wp2_with fail
              refine (HP.out _).mono ?_
              rintro e w' ⟨rfl, rfl⟩
              rw [HPP.out]
              go_wp2_with fail
              exact ⟨⟨k + 1, f, fl, fw, flo, by omega, by go_num, HI.out.res.alloc _, HI.out.found.alloc _, HI.out.far, HQ.out, HI.out.below.alloc HI.out.below.size _⟩, by simp [intOf]; omega⟩
            · have u2 : ((bs f).toList == (bs nm).toList) = false := by
                rw [beq_eq_false_iff_ne, Lib.toList_data, Lib.toList_data, bs_list, bs_list]; exact he
              rw [if_neg he] at hq
              have HQ := Lib.hid hq
              clear hq hf he
              go_wp2_with fail
              refine (HP.out _).mono ?_
              rintro e w' ⟨rfl, rfl⟩
              rw [HPP.out]
              go_wp2_with fail
              have R := (HI.out.res.four rfl (.string ⟨#[]⟩) (.int .u8 0) (.bool false) (.string ⟨#[]⟩)).alloc (.cells #[.string (bs nm), .int .u8 (l : Int), .bool wa, .string (bs lo)] 47)
              have R0 := R.cell 0 _ rfl
              have R1 := R.cell 1 _ rfl
              have R2 := R.cell 2 _ rfl
              have R3 := R.cell 3 _ rfl
              have BB := (below_four HI.out.below (Nat.le_refl _) (.string ⟨#[]⟩) (.int .u8 0) (.bool false) (.string ⟨#[]⟩)).alloc (by simpa using HI.out.below.size) (.cells #[.string (bs nm), .int .u8 (l : Int), .bool wa, .string (bs lo)] 47)
              refine bodyPost_ret (v := .tuple #[.agg #[.string ⟨#[]⟩, .int .u8 0, .bool false, .string ⟨#[]⟩], .int .i64 47]) (by simp [results, Tryd.results17, go_sem, R0, R1, R2, R3]) rfl ?_
              rw [← HQ.out]
              exact ⟨_, _, _, rfl, BB⟩
      · have t1 : decide ((k : Int) < 27) = false := by simp only [decide_eq_false_iff_not]; omega
        have hk27 : k = 27 := by omega
        subst hk27
        have hq := HI.out.eq
        rw [show oNames.drop 27 = [] from rfl, fS] at hq
        by_cases hf : f = []
        · have u1 := empty_yes hf
          rw [if_pos hf] at hq
          have HQ := Lib.hid hq
          clear hq hf
          go_wp2_with fail
          have R := HI.out.res.four rfl (.string ⟨#[]⟩) (.int .u8 0) (.bool false) (.string ⟨#[]⟩)
          have R0 := R.cell 0 _ rfl
          have R1 := R.cell 1 _ rfl
          have R2 := R.cell 2 _ rfl
          have R3 := R.cell 3 _ rfl
          refine bodyPost_ret (v := .tuple #[.agg #[.string ⟨#[]⟩, .int .u8 0, .bool false, .string ⟨#[]⟩], .int .i64 40]) (by simp [results, Tryd.results17, go_sem, R0, R1, R2, R3]) rfl ?_
          rw [← HQ.out]
          exact ⟨_, _, _, rfl, below_four HI.out.below (Nat.le_refl _) _ _ _ _⟩
        · have u1 := empty_no hf
          rw [if_neg hf] at hq
          have HQ := Lib.hid hq
          clear hq hf
          go_wp2_with fail
          have R := HI.out.res.four rfl (.string (bs f)) (.int .u8 fl) (.bool fw) (.string flo)
          have R0 := R.cell 0 _ rfl
          have R1 := R.cell 1 _ rfl
          have R2 := R.cell 2 _ rfl
          have R3 := R.cell 3 _ rfl
          refine bodyPost_ret (v := .tuple #[.agg #[.string (bs f), .int .u8 fl, .bool fw, .string flo], .int .i64 0]) (by simp [results, Tryd.results17, go_sem, R0, R1, R2, R3]) rfl ?_
          rw [← HQ.out]
          exact ⟨_, _, _, rfl, below_four HI.out.below (Nat.le_refl _) _ _ _ _⟩
theorem byBeg_ok (s : ByteArray) (w : World) (T : Tabs w) : Calls Tryd.prog 17 #[.string s] w (RetP w (progLong s.data.toList)) := by
  unfold progLong
  by_cases h : s.data.toList ∈ oNames
  · rw [if_pos h]
    exact byBeg_yes s w T h
  · rw [if_neg h]
    by_cases h0 : s.data.toList = []
    · rw [if_pos h0]
      have e : s = ⟨#[]⟩ := by
        obtain ⟨⟨l⟩⟩ := s
        cases h0
        rfl
      subst e
      exact byBeg_empty w T
    · rw [if_neg h0]
      exact byBeg_no s w T h h0
end Go.Proofs.YtbgbmojoldkcfaaDoor
