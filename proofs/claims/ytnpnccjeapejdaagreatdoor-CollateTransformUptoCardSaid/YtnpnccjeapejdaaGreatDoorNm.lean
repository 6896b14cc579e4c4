/- collate.New: the order of options that may be. -/
import Derived.Test.YtnpnccjeapejdaaGreatDoorNl
import Derived.Test.YtnpnccjeapejdaaGreatDoorNw
import Derived.Test.YtnpnccjeapejdaaGreatDoorRc
namespace Go.Proofs.YtnpnccjeapejdaaGreatDoor
open Go.RowKit
set_option maxRecDepth 100000

theorem optC_load2 (o : Opt) (kv fv : Value) : (Tryz.prog.info? 28).map (·.size) = some (optC o kv fv).length := by kernel_rfl
/-- The order that New gives. -/
def RetOrd (w : World) (o : Opt) (L : List KeyL) (e : Ending) (w' : World) : Prop :=
  ∃ P R g kv fv v D, e = .returned (.tuple #[.pointer (some ⟨P, 0, none⟩), .int .i64 0]) ∧ D.map Prod.fst = L ∧ NlIn w w' R P g o kv fv (!o.stable && !o.unique) (!decide (o.mods &&& 512 = 0)) L v D
set_option maxHeartbeats 6400000 in
theorem new_in (o : Opt) (ks : List KeyL) (kv fv : Value) (w : World) (hmm : o.mods < 65536) (hm : ∀ k ∈ ks, k.m < 65536) (hk : SlAt w w.heap.size kv 6 ks.length (ksV ks)) (hd : docS ks o.mods o.tab = true) :
    Calls Tryz.prog 17 #[optV o kv fv] w (RetOrd w o (effL ks o.mods o.tab)) := by
  obtain ⟨ak, ck, rfl⟩ := sl_shape hk
  have A0 := Lib.hid (CellsAt.new w (optC o (.slice ak ks.length ck) fv) 28)
  have B0 := Lib.hid ((Below.refl w.heap.size w).alloc (Nat.le_refl _) (Obj.cells (optC o (.slice ak ks.length ck) fv).toArray 28))
  have hl16 : ks.length ≤ 16 := by
    unfold docS at hd
    simp only [Bool.and_eq_true, decide_eq_true_eq] at hd
    exact hd.1
  have hCE : chE ks o.mods o.tab = 0 := by unfold chE; rw [chS_doc, hd]; rfl
  have CH := Lib.hid (fun (W : World) (b : Below w.heap.size w W) => check_ok ks (.slice ak ks.length ck) o.mods o.tab W hmm hm ((hk.keep b (Nat.le_refl _)).mono b.size))
  rw [hCE] at CH
  have EF := Lib.hid (fun (W : World) (b : Below w.heap.size w W) => eff_ok o ks (.slice ak ks.length ck) fv W ((hk.keep b (Nat.le_refl _)).mono b.size) hl16)
  change Hid (∀ W, Below w.heap.size w W → Calls Tryz.prog 31 #[optV o (.slice ak ks.length ck) fv] W (RetKeys W (effL ks o.mods o.tab))) at EF
  have HLM := Lib.hid (show ∀ k ∈ effL ks o.mods o.tab, k.m < 65536 from by
    unfold docS at hd
    simp only [Bool.and_eq_true, decide_eq_true_eq] at hd
    intro k hk'
    have := eff_m hd.2.2.1 hd.2.2.2.1 k hk'
    omega)
  have hLl : (effL ks o.mods o.tab).length ≤ 16 := by
    unfold effL dflt
    rw [List.length_map]
    split
    · decide
    · exact hl16
  generalize effL ks o.mods o.tab = L at EF HLM hLl ⊢
  have b512 : bits BinOp.and IntKind.u16 (o.mods : Int) 512 = ((o.mods &&& 512 : Nat) : Int) := and_nat o.mods 512 hmm (by omega)
  have nb : (((o.mods &&& 512 : Nat) : Int) != 0) = !decide (o.mods &&& 512 = 0) := by rw [Bool.eq_iff_iff]; simp
  unfold RetOrd
  generalize (!decide (o.mods &&& 512 = 0)) = b2 at nb ⊢
  generalize o.mods &&& 512 = m5 at b512 nb
  unfold optV
  unfold optC
  have a0 := A0.out.cell 0 _ rfl
  have a1 := A0.out.cell 1 _ rfl
  have a2 := A0.out.cell 2 _ rfl
  unfold optC at a0 a1 a2
  clear hk hm hd hCE hl16
  go_enter Tryz.func17, Tryz.ntmps17
  go_wp2_with fail
  refine (CH.out _ B0.out).mono ?_
  rintro e w1 ⟨rfl, h4⟩
  have A1 := Lib.hid (A0.out.step h4)
  have B1 := Lib.hid (B0.out.trans (h4.mono (by simp)))
  clear h4 A0 B0 a0 a1 a2 CH
  have a1 := A1.out.cell 1 _ rfl
  have a3 := A1.out.cell 3 _ rfl
  have a4 := A1.out.cell 4 _ rfl
  cases hs : o.stable
  all_goals
    rw [hs] at a3
    have R1 := Lib.hid ((A1.out.alloc (.cells [Value.slice none 0 0, .bool (!o.stable && !o.unique), .bool b2].toArray 62)).range)
    rw [hs] at R1
    simp only [Bool.not_true, Bool.not_false, Bool.true_and, Bool.false_and] at R1
    go_wp2_with first
      | (guard_target =~ wpList _ _ _ (⟨some _, Op.load 28 _, _, _, _, _⟩ :: _) _ _; go_must (refine wpList_load_mid rfl 28 _ rfl w.heap.size 0 rfl (optC o (.slice ak ks.length ck) fv) _ R1.out Tryz.underlying28 rfl (optC_load2 _ _ _) ?_))
    have C2 := Lib.hid (CellsAt.new w1 [.slice none 0 0, .bool (!o.stable && !o.unique), .bool b2] 62)
    have A2 := Lib.hid (A1.out.alloc (.cells [Value.slice none 0 0, .bool (!o.stable && !o.unique), .bool b2].toArray 62))
    have B2 := Lib.hid (B1.out.alloc B1.out.size (.cells [Value.slice none 0 0, .bool (!o.stable && !o.unique), .bool b2].toArray 62))
    have L2 := Lib.hid (A1.out.lt)
    have hsz : (w1.alloc (.cells [Value.slice none 0 0, .bool (!o.stable && !o.unique), .bool b2].toArray 62)).heap.size = w1.heap.size + 1 := by simp
    rw [hs] at C2 A2 B2 hsz
    simp only [Bool.not_true, Bool.not_false, Bool.true_and, Bool.false_and] at C2 A2 B2 hsz
    clear A1 B1 R1 a1 a3 a4
    refine (EF.out _ B2.out).mono ?_
    rintro e w3 ⟨g, c, he, h1, h2, h3, h4⟩
    obtain rfl : e = .returned (.slice (some ⟨g, 0, none⟩) L.length c) := he
    have N0 := Lib.hid (show NlIn w w3 w3.heap.size w1.heap.size g o (.slice ak ks.length ck) fv _ b2 L (.slice none 0 0) [] from
      ⟨A2.out.step h4, C2.out.step h4, h3, World.ownsRow_nil _ _ _ _, L2.out, (C2.out.step h4).lt, by have := h1; rw [hsz] at this; omega, h2, Nat.le_refl _, (fun p hp => by simp at hp), B2.out.trans (h4.mono B2.out.size)⟩)
    clear h1 h2 h3 h4 A2 B2 C2 L2 hsz EF
    generalize hP : w1.heap.size = P at N0 ⊢
    generalize hR : w3.heap.size = R at N0 ⊢
    clear hP hR
    have N1 := Lib.hid (show NlIn w w3 R P g o (.slice ak ks.length ck) fv (!o.stable && !o.unique) b2 L (.slice none 0 0) [] by rw [hs]; exact N0.out)
    clear N0
    go_wp2_with fail
    go_loopw [33] (fun i wr => ∃ (k : Nat) (v : Value) (D : List (KeyL × Value)), k ≤ L.length ∧ i = .int .i64 k ∧ D.map Prod.fst = L.take k ∧ NlIn w wr R P g o (.slice ak ks.length ck) fv (!o.stable && !o.unique) b2 L v D) (fun i _ => L.length - (intOf i).toNat)
    case atStart => exact ⟨0, _, _, by omega, rfl, rfl, N1.out⟩
    case round =>
      obtain ⟨k, v, D, hk, rfl, hD, hI⟩ := hrel
      have HD := Lib.hid hD
      have HI := Lib.hid hI
      clear hD hI N1
      by_cases hlt : k < L.length
      · have e1 : decide ((k : Int) < (L.length : Int)) = true := by simpa using hlt
        have A := ks_row HI.out.eff k hlt
        have hKm := Lib.hid (HLM.out _ (List.getElem_mem hlt))
        have HT := Lib.hid (show ∀ f : Value, (D ++ [((L[k], f) : KeyL × Value)]).map Prod.fst = L.take (k + 1) from fun f => by rw [List.map_append, HD.out, List.take_succ_eq_append_getElem hlt]; rfl)
        have hDl : D.length = k := by have := congrArg List.length HD.out; rw [List.length_map, List.length_take] at this; omega
        generalize L[k] = K at A hKm HT
        have a0 := A 0 _ rfl
        have a1 := A 1 _ rfl
        have a2 := A 2 _ rfl
        have a3 := A 3 _ rfl
        have a4 := A 4 _ rfl
        have a5 := A 5 _ rfl
        rw [Nat.add_zero] at a0
        clear A HD
        go_wp2_with fail
        have N3 := Lib.hid (HI.out.alloc (.cells (kc K).toArray 54))
        have KC := Lib.hid (CellsAt.new wr (kc K) 54)
        have hT := HI.out.hi
        change Hid (NlIn w (wr.alloc (.cells #[.int .i64 K.f, .int .i64 K.c, .int .i64 K.ef, .int .i64 K.ec, .int .u16 (K.m : Int), .bool K.b] 54)) R P g o (.slice ak ks.length ck) fv (!o.stable && !o.unique) b2 L v D) at N3
        change Hid (CellsAt (wr.alloc (.cells #[.int .i64 K.f, .int .i64 K.c, .int .i64 K.ef, .int .i64 K.ec, .int .u16 (K.m : Int), .bool K.b] 54)) wr.heap.size (kc K)) at KC
        generalize hx : wr.alloc (.cells #[.int .i64 K.f, .int .i64 K.c, .int .i64 K.ef, .int .i64 K.ec, .int .u16 (K.m : Int), .bool K.b] 54) = x at N3 KC ⊢
        generalize hTT : wr.heap.size = T at hT KC ⊢
        clear hx hTT a0 a1 a2 a3 a4 a5 HI
        have lo := N3.out.lo
        have mi := N3.out.mid
        have ne1 : ¬ P = T := by omega
        have ne2 : ¬ T = P := by omega
        have ne3 : ¬ P = w.heap.size := by omega
        have ne4 : ¬ w.heap.size = P := by omega
        obtain ⟨i0, hi0, hz0, hz1, hz2⟩ := info_parts info65k
        have Hi0 := Lib.hid hi0
        have Hz0 := Lib.hid hz0
        have Hz1 := Lib.hid hz1
        have Hz2 := Lib.hid hz2
        clear hi0 hz0 hz1 hz2
        have xd := Lib.hid N3.out.drew
        have ap := N3.out.ord.cell 0 _ rfl
        have ao := N3.out.opt.cell 2 _ rfl
        have a0 := KC.out.cell 0 _ rfl
        have a1 := KC.out.cell 1 _ rfl
        have a2 := KC.out.cell 2 _ rfl
        have a3 := KC.out.cell 3 _ rfl
        have a4 := KC.out.cell 4 _ rfl
        have a5 := KC.out.cell 5 _ rfl
        have hl16 : (D.length + 1) * 64 ≤ 140737488355328 := by omega
        have hl16b : D.length + 1 ≤ maxLen := by unfold maxLen; omega
        go_region_law
          ((first
            | (go_simp; go_at_call 32; refine (keyOf_ok K o.tab hKm.out x.drew).mono ?_; rintro e w4 ⟨ff, rfl, hkh, hb⟩; have N4 := Lib.hid (xd.out.step hb); have HK4 := Lib.hid (xd.out.key hkh); have ho1 := Lib.hid hkh.one; have hp4 := N4.out.ord.lt; have hr4 := N4.out.hi; clear hb hkh; have bp := N4.out.ord.cell 0 _ rfl)
            | (refine step_append_lies _ (by rfl) _ _ _ (by rfl) R 59 i0 _ 10 64 Tryz.underlying60 Hi0.out Hz0.out Hz1.out Hz2.out rfl (by omega) v D.length (kysV o.tab D) (by rfl) (N4.out.alloc _).row ⟨w4.heap.size, 0, none⟩ 1 1 (kyC o.tab K ff) (by rfl) (by rfl) (World.news_of_block (heap_alloc_new w4 _)) (kyC_one ho1.out) (by omega) hl16b hl16 (by simp; omega) (w4.heap.size + 1) (by simp) ?_; intro gg cap w5 hown5 hgrow5 hat5 hlt5; have O5 := (N4.out.alloc _).grown hgrow5; have cp := O5.cell 0 _ rfl; have fp := O5.free 0; have hp5 := O5.lt; have N5 := Lib.hid ((N4.out.alloc _).next (KeyF.step HK4.out ((Below.refl _ _).alloc (Nat.le_refl _) _)) hgrow5 (by simpa using hat5) hlt5 hown5); clear O5 hown5 hgrow5 hat5)))
        all_goals
          clear bp ap ao a0 a1 a2 a3 a4 a5 hlt5 cp fp hp5
          rw [hDl] at N5
          generalize w5.setCell ⟨P, 0, none⟩ (.slice (some ⟨gg, 0, none⟩) (k + 1) cap) = y at N5 ⊢
          go_wp2_with fail
          refine ⟨⟨k + 1, _, _, by omega, by simp, HT.out _, N5.out⟩, ?_⟩
          simp [intOf]
          omega
      · have hke : k = L.length := by omega
        subst hke
        have e1 : decide ((L.length : Int) < (L.length : Int)) = false := by simp
        have FIN := Lib.hid (show ∃ P' R' g' kv' fv' v' D', (Ending.returned (Value.tuple #[Value.pointer (some ⟨P, 0, none⟩), .int .i64 0])) = .returned (.tuple #[.pointer (some ⟨P', 0, none⟩), .int .i64 0]) ∧ D'.map Prod.fst = L ∧ NlIn w wr R' P' g' o kv' fv' (!o.stable && !o.unique) b2 L v' D' from ⟨P, R, g, _, _, v, D, rfl, by rw [HD.out, List.take_length], HI.out⟩)
        clear HI HD
        go_wp2_with fail
        go_ret2
        exact FIN.out

end Go.Proofs.YtnpnccjeapejdaaGreatDoor
