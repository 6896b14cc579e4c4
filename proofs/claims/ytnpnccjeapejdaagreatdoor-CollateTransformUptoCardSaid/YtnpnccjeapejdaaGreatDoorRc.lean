/- The answer's Check. -/
import Derived.Test.YtnpnccjeapejdaaGreatDoorRe
import Derived.Test.YtnpnccjeapejdaaGreatDoorSq
namespace Go.Proofs.YtnpnccjeapejdaaGreatDoor
open Go.RowKit
set_option maxRecDepth 100000

theorem optC_load (o : Opt) (kv fv : Value) : (Tryz.prog.info? 28).map (·.size) = some (optC o kv fv).length := by kernel_rfl
def dcE (ks : List KeyL) (m : Nat) (t : Int) : Int := if docS ks m t = true then 0 else 50
structure CkIn (w : World) (o : Opt) (kv fv : Value) (wr : World) : Prop where
  opt : CellsAt wr w.heap.size (optC o kv fv)
  bel : Below w.heap.size w wr
theorem CkIn.step {w wr w2 : World} {o : Opt} {kv fv : Value} (h : CkIn w o kv fv wr) (b : Below wr.heap.size wr w2) : CkIn w o kv fv w2 := ⟨h.opt.step b, h.bel.trans (b.mono h.bel.size)⟩
structure CkIn2 (w : World) (g : Nat) (L : List KeyL) (wr : World) : Prop where
  row : wr.rangeAt g 0 (ksV L)
  hi : g < wr.heap.size
  bel : Below w.heap.size w wr
theorem dc_no {ks : List KeyL} {m : Nat} {t : Int} (h : docS ks m t = false) : dcE ks m t = 50 := by unfold dcE; rw [h]; rfl
theorem shK_m {k : KeyL} (h : shK k = true) : k.m < 1024 := by
  unfold shK shB at h
  simp only [Bool.and_eq_true, decide_eq_true_eq] at h
  omega
theorem eff_m {ks : List KeyL} {m : Nat} {t : Int} (hm : m < 1024) (h : ks.all shK = true) : ∀ k ∈ effL ks m t, k.m < 1024 := by
  intro k hk
  unfold effL at hk
  rw [List.mem_map] at hk
  obtain ⟨a, ha, rfl⟩ := hk
  have : a.m < 1024 := by
    unfold dflt at ha
    split at ha
    · rw [List.mem_singleton] at ha; subst ha; decide
    · exact shK_m (List.all_eq_true.1 h a ha)
  unfold own
  split
  · unfold turn; exact hm
  · exact this
set_option maxHeartbeats 3200000 in
/-- Where it stops at once. -/
theorem mcheck_out (o : Opt) (ao : Option Addr) (n c : Nat) (fv : Value) (w : World) (hmm : o.mods < 65536) (h : ¬ (n ≤ 16 ∧ -1 ≤ o.tab ∧ o.tab ≤ 255 ∧ o.mods < 1024)) :
    Calls Tryz.prog 16 #[optV o (.slice ao n c) fv] w (RetBk w (.int .i64 50)) := by
  have A0 := Lib.hid (CellsAt.new w (optC o (.slice ao n c) fv) 28)
  have B0 := Lib.hid ((Below.refl w.heap.size w).alloc (Nat.le_refl _) (Obj.cells (optC o (.slice ao n c) fv).toArray 28))
  have cv : IntKind.i64.wrap (o.mods : Int) = (o.mods : Int) := by simp [IntKind.wrap, IntKind.bits, IntKind.signed]; omega
  unfold optV optC
  have a0 := A0.out.cell 0 _ rfl
  have a1 := A0.out.cell 1 _ rfl
  have a2 := A0.out.cell 2 _ rfl
  unfold optC at a0 a1 a2
  by_cases h1 : n ≤ 16
  · have d1 : decide ((16 : Int) < (n : Int)) = false := by rw [decide_eq_false_iff_not]; omega
    by_cases h2 : -1 ≤ o.tab
    · have d2 : decide (o.tab < -1) = false := by rw [decide_eq_false_iff_not]; omega
      by_cases h3 : o.tab ≤ 255
      · have d3 : decide ((255 : Int) < o.tab) = false := by rw [decide_eq_false_iff_not]; omega
        have d4 : decide ((1024 : Int) ≤ (o.mods : Int)) = true := by rw [decide_eq_true_eq]; omega
        clear h h1 h2 h3 A0
        go_enter Tryz.func16, Tryz.ntmps16
        go_wp2_with fail
        go_ret
        exact ⟨rfl, B0.out⟩
      · have d3 : decide ((255 : Int) < o.tab) = true := by rw [decide_eq_true_eq]; omega
        clear h h1 h2 h3 A0
        go_enter Tryz.func16, Tryz.ntmps16
        go_wp2_with fail
        go_ret
        exact ⟨rfl, B0.out⟩
    · have d2 : decide (o.tab < -1) = true := by rw [decide_eq_true_eq]; omega
      clear h h1 h2 A0
      go_enter Tryz.func16, Tryz.ntmps16
      go_wp2_with fail
      go_ret
      exact ⟨rfl, B0.out⟩
  · have d1 : decide ((16 : Int) < (n : Int)) = true := by rw [decide_eq_true_eq]; omega
    clear h h1 A0
    go_enter Tryz.func16, Tryz.ntmps16
    go_wp2_with fail
    go_ret
    exact ⟨rfl, B0.out⟩
set_option maxHeartbeats 6400000 in
theorem mcheck_in (o : Opt) (ks : List KeyL) (ao : Option Addr) (c : Nat) (fv : Value) (w : World) (hmm : o.mods < 65536) (hm : ∀ k ∈ ks, k.m < 65536) (hk : SlAt w w.heap.size (.slice ao ks.length c) 6 ks.length (ksV ks))
    (h1 : ks.length ≤ 16) (h2 : -1 ≤ o.tab) (h3 : o.tab ≤ 255) (h4 : o.mods < 1024) :
    Calls Tryz.prog 16 #[optV o (.slice ao ks.length c) fv] w (RetBk w (.int .i64 (dcE ks o.mods o.tab))) := by
  have A0 := Lib.hid (CellsAt.new w (optC o (.slice ao ks.length c) fv) 28)
  have B0 := Lib.hid ((Below.refl w.heap.size w).alloc (Nat.le_refl _) (Obj.cells (optC o (.slice ao ks.length c) fv).toArray 28))
  have cv : IntKind.i64.wrap (o.mods : Int) = (o.mods : Int) := by simp [IntKind.wrap, IntKind.bits, IntKind.signed]; omega
  have d1 : decide ((16 : Int) < (ks.length : Int)) = false := by rw [decide_eq_false_iff_not]; omega
  have d2 : decide (o.tab < -1) = false := by rw [decide_eq_false_iff_not]; omega
  have d3 : decide ((255 : Int) < o.tab) = false := by rw [decide_eq_false_iff_not]; omega
  have d4 : decide ((1024 : Int) ≤ (o.mods : Int)) = false := by rw [decide_eq_false_iff_not]; omega
  have HDS := Lib.hid (show docS ks o.mods o.tab = (ks.all shK && (effL ks o.mods o.tab).all (fun x => togS x.m)) by
    unfold docS; rw [decide_eq_true h1, decide_eq_true (And.intro h2 h3), decide_eq_true h4]; simp)
  have EF := Lib.hid (fun (W : World) (b : Below w.heap.size w W) => mref_ok o ks (.slice ao ks.length c) fv W ((hk.keep b (Nat.le_refl _)).mono b.size) (by omega) hmm)
  have HEM := Lib.hid (fun h => eff_m (ks := ks) (t := o.tab) h4 h)
  have HM := Lib.hid hm
  have HK := Lib.hid hk
  clear hm hk h2 h3 h4
  have st := Lib.hid (show CkIn w o (.slice ao ks.length c) fv (w.alloc (Obj.cells (optC o (.slice ao ks.length c) fv).toArray 28)) from ⟨A0.out, B0.out⟩)
  unfold optV
  unfold optC
  have a0 := A0.out.cell 0 _ rfl
  have a1 := A0.out.cell 1 _ rfl
  have a2 := A0.out.cell 2 _ rfl
  unfold optC at a0 a1 a2
  clear A0 B0
  go_enter Tryz.func16, Tryz.ntmps16
  go_wp2_with fail
  clear a0 a1 a2 cv d1 d2 d3 d4
  go_loopw [3] (fun i wr => ∃ k : Nat, k ≤ ks.length ∧ i = .int .i64 k ∧ (ks.take k).all shK = true ∧ CkIn w o (.slice ao ks.length c) fv wr) (fun i _ => ks.length - (intOf i).toNat)
  case atStart => exact ⟨0, by omega, rfl, rfl, st.out⟩
  case round =>
    obtain ⟨k, hk, rfl, hal, hI⟩ := hrel
    have HAL := Lib.hid hal
    have HI := Lib.hid hI
    clear hal hI st
    by_cases hlt : k < ks.length
    · have e1 : decide ((k : Int) < (ks.length : Int)) = true := by simpa using hlt
      obtain ⟨b, off, hao, hb, hrow⟩ : ∃ b off, ao = some ⟨b, off, none⟩ ∧ b < w.heap.size ∧ ∀ j u, (ksV ks)[j]? = some u → w.cell? ⟨b, off + j, none⟩ = some u := by
        rcases HK.out.2 with ⟨_, h0⟩ | ⟨b, off, c', hv, hb, hc⟩
        · omega
        · cases hv; exact ⟨b, off, rfl, hb, hc⟩
      subst hao
      have A := ks_at (fun j u hu => (HI.out.bel.cell (p := ⟨b, off + j, none⟩) hb).trans (hrow j u hu)) k hlt
      have SH := Lib.hid (fun W => shaped_ok ks[k].f ks[k].c ks[k].ef ks[k].ec ks[k].m ks[k].b (HM.out _ (List.getElem_mem hlt)) W)
      have HT := Lib.hid (show (ks.take (k + 1)).all shK = shK ks[k] by
        rw [List.take_succ_eq_append_getElem hlt, List.all_append, HAL.out]; simp)
      have HN := Lib.hid (show shK ks[k] = false → dcE ks o.mods o.tab = 50 from fun e => dc_no (by
        rw [HDS.out, show ks.all shK = false by rw [List.all_eq_false]; exact ⟨_, List.getElem_mem hlt, by rw [e]; decide⟩]; rfl))
      change Hid (∀ W, Calls Tryz.prog 27 _ W (RetBk W (.bool (shK ks[k])))) at SH
      have o0 := HI.out.opt.cell 0 _ rfl
      generalize ks[k] = K at A SH HT HN
      generalize shK K = x at SH HT HN
      have a0 := A 0 _ rfl
      have a1 := A 1 _ rfl
      have a2 := A 2 _ rfl
      have a3 := A 3 _ rfl
      have a4 := A 4 _ rfl
      have a5 := A 5 _ rfl
      rw [Nat.add_zero] at a0
      clear A
      go_wp2_with fail
      refine (SH.out _).mono ?_
      rintro e w2 ⟨rfl, hb2⟩
      have HI2 := Lib.hid (HI.out.step hb2)
      clear hb2 HI a0 a1 a2 a3 a4 a5 o0
      cases x
      · go_wp2_with fail
        go_ret
        exact ⟨by rw [HN.out trivial]; rfl, HI2.out.bel⟩
      · go_wp2_with fail
        refine ⟨⟨k + 1, by omega, by simp, HT.out, HI2.out⟩, ?_⟩
        simp [intOf]; omega
    · have hke : k = ks.length := by omega
      subst hke
      have e1 : decide ((ks.length : Int) < (ks.length : Int)) = false := by simp
      have hall : ks.all shK = true := by have := HAL.out; rwa [List.take_length] at this
      have o0 := HI.out.opt.cell 0 _ rfl
      have R0 := Lib.hid HI.out.opt.range
      have E := EF.out wr HI.out.bel
      rw [show (dflt ks).map (own o) = effL ks o.mods o.tab from rfl] at E
      have HL := HEM.out hall
      have hds : docS ks o.mods o.tab = (effL ks o.mods o.tab).all (fun x => togS x.m) := by rw [HDS.out, hall]; rfl
      have HD := Lib.hid (show dcE ks o.mods o.tab = if (effL ks o.mods o.tab).all (fun x => togS x.m) = true then 0 else 50 by unfold dcE; rw [hds])
      have hll : (effL ks o.mods o.tab).length ≤ 16 := by
        unfold effL dflt
        rw [List.length_map]
        split
        · decide
        · exact h1
      generalize effL ks o.mods o.tab = L at E HL HD hll
      have HLM := Lib.hid HL
      have EE := Lib.hid E
      clear hall hds HL HEM EF HDS HAL HM HK E
      have BW := Lib.hid HI.out.bel
      go_wp2_with first
        | (guard_target =~ wpList _ _ _ (⟨some _, Op.load 28 _, _, _, _, _⟩ :: _) _ _; go_must (refine wpList_load_mid rfl 28 _ rfl w.heap.size 0 rfl (optC o (.slice ao ks.length c) fv) _ R0.out Tryz.underlying28 rfl (optC_load _ _ _) ?_))
      refine EE.out.mono ?_
      rintro e w2 ⟨g, cc, he, g1, g2, g3, g4⟩
      obtain rfl : e = .returned (.slice (some ⟨g, 0, none⟩) L.length cc) := he
      have st2 := Lib.hid (show CkIn2 w g L w2 from ⟨g3, g2, BW.out.trans (g4.mono BW.out.size)⟩)
      clear g1 g2 g3 g4 EE BW R0 o0 HI
      go_wp2_with fail
      go_loopw [6] (fun i wr => ∃ k : Nat, k ≤ L.length ∧ i = .int .i64 k ∧ (L.take k).all (fun x => togS x.m) = true ∧ CkIn2 w g L wr) (fun i _ => L.length - (intOf i).toNat)
      case atStart => exact ⟨0, by omega, rfl, rfl, st2.out⟩
      case round =>
        obtain ⟨k, hk, rfl, hal, hI⟩ := hrel
        have HAL := Lib.hid hal
        have HI := Lib.hid hI
        clear hal hI st2
        by_cases hlt : k < L.length
        · have d1 : decide ((k : Int) < (L.length : Int)) = true := by simpa using hlt
          have A := ks_row HI.out.row k hlt
          have T := Lib.hid (fun w => goTog_ok L[k].m (HLM.out _ (List.getElem_mem hlt)) w)
          have HT := Lib.hid (show (L.take (k + 1)).all (fun x => togS x.m) = togS L[k].m by
            rw [List.take_succ_eq_append_getElem hlt, List.all_append, HAL.out]; simp)
          have HN := Lib.hid (show togS L[k].m = false → dcE ks o.mods o.tab = 50 from fun e => by
            rw [HD.out, if_neg]
            rw [Bool.not_eq_true, List.all_eq_false]; exact ⟨_, List.getElem_mem hlt, by rw [e]; decide⟩)
          generalize L[k] = K at A T HT HN
          generalize togS K.m = x at T HT HN
          have a4 := A 4 _ rfl
          clear A
          obtain ⟨Kf, Kc, Ke, Kd, Km, Kb⟩ := K
          cases x
          · go_wp2_with fail
            refine (T.out _).mono ?_
            rintro e w3 ⟨rfl, rfl⟩
            go_wp2_with fail
            go_ret
            exact ⟨by rw [HN.out trivial]; rfl, HI.out.bel⟩
          · go_wp2_with fail
            refine (T.out _).mono ?_
            rintro e w3 ⟨rfl, rfl⟩
            go_wp2_with fail
            refine ⟨⟨k + 1, by omega, by simp, HT.out, HI.out⟩, ?_⟩
            simp [intOf]; omega
        · have hke : k = L.length := by omega
          subst hke
          have d1 : decide ((L.length : Int) < (L.length : Int)) = false := by simp
          have HE := Lib.hid (show dcE ks o.mods o.tab = 0 by
            have := HAL.out
            rw [List.take_length] at this
            rw [HD.out, if_pos this])
          go_wp2_with fail
          go_ret
          exact ⟨by rw [HE.out]; rfl, HI.out.bel⟩
theorem mcheck_ok (o : Opt) (ks : List KeyL) (kv fv : Value) (w : World) (hmm : o.mods < 65536) (hm : ∀ k ∈ ks, k.m < 65536) (hk : SlAt w w.heap.size kv 6 ks.length (ksV ks)) :
    Calls Tryz.prog 16 #[optV o kv fv] w (RetBk w (.int .i64 (dcE ks o.mods o.tab))) := by
  obtain ⟨ao, c, rfl⟩ := sl_shape hk
  by_cases h : ks.length ≤ 16 ∧ -1 ≤ o.tab ∧ o.tab ≤ 255 ∧ o.mods < 1024
  · exact mcheck_in o ks ao c fv w hmm hm hk h.1 h.2.1 h.2.2.1 h.2.2.2
  · rw [dc_no (by
      unfold docS
      rw [Bool.eq_false_iff]
      intro e
      simp only [Bool.and_eq_true, decide_eq_true_eq] at e
      omega)]
    exact mcheck_out o ao _ c fv w hmm h
end Go.Proofs.YtnpnccjeapejdaaGreatDoor
