/- The answer's Effective. -/
import Derived.Test.YtnpnccjeapejdaaGreatDoorMe
import Derived.Test.YtnpnccjeapejdaaGreatDoorNil
import Derived.Laws.AppendOwn
namespace Go.Proofs.YtnpnccjeapejdaaGreatDoor
open Go.RowKit

theorem ks_at {w : World} {b off : Nat} {ks : List KeyL} (h : ∀ j u, (ksV ks)[j]? = some u → w.cell? ⟨b, off + j, none⟩ = some u) (k : Nat) (hk : k < ks.length) : ∀ j u, (kc ks[k])[j]? = some u → w.cell? ⟨b, off + k * 6 + j, none⟩ = some u := fun j u hu => by
  have hj : j < 6 := (List.getElem?_eq_some_iff.1 hu).1
  rw [Nat.add_assoc]
  exact h (k * 6 + j) u (by rw [ksV_at ks k hk j hj]; exact hu)
theorem cell_new (w : World) (b : Nat) (hb : w.heap.size = b) (vs : List Value) (t : TypeId) : ∀ j x, vs[j]? = some x → (w.alloc (.cells vs.toArray t)).cell? ((⟨b, 0, none⟩ : Addr).add j) = some x := fun j x hx => by
  subst hb
  rw [add_plain, Nat.zero_add]
  exact (CellsAt.new w vs t).cell j x hx
theorem ksV_snoc (ks : List KeyL) (k : KeyL) : ksV (ks ++ [k]) = ksV ks ++ kc k := by simp [ksV]
structure SomeRel (w : World) (o : Opt) (kv fv : Value) (ks : List KeyL) (k : Nat) (l : Value) (wr : World) : Prop where
  row : wr.ownsRow (w.heap.size + 1) 54 6 l k (ksV ((ks.map (own o)).take k))
  opt : CellsAt wr w.heap.size (optC o kv fv)
  below : Below w.heap.size w wr
theorem take_own (o : Opt) (ks : List KeyL) (k : Nat) (h : k < ks.length) : (ks.map (own o)).take (k + 1) = (ks.map (own o)).take k ++ [own o ks[k]] := by
  rw [← List.map_take, ← List.map_take, List.take_succ_eq_append_getElem h, List.map_append]; rfl
theorem SomeRel.next {w : World} {o : Opt} {kv fv : Value} {ks : List KeyL} {k : Nat} {l v' : Value} {wr w1 : World} {a b : Obj} (h : SomeRel w o kv fv ks k l wr) (hk : k < ks.length) (hg : ((wr.alloc a).alloc b).grownBy w1 l.ownBlock) (hown : w1.ownsRow (w.heap.size + 1) 54 6 v' (k + 1) (ksV ((ks.map (own o)).take k) ++ kc (own o ks[k]))) : SomeRel w o kv fv ks (k + 1) v' w1 := by
  have hb : Below (w.heap.size + 1) wr w1 := by
    have h1 : Below (w.heap.size + 1) wr ((wr.alloc a).alloc b) := ((Below.refl _ _).alloc h.opt.lt a).alloc (by have := h.opt.lt; simp; omega) b
    have hl := h.opt.lt
    exact ⟨hg.os.trans h1.os, hg.tape.trans h1.tape, hg.output.trans h1.output, Nat.le_trans h1.size hg.size, fun j hj => (hg.block j (by simp; omega) (fun hv => by have := (h.row.lt j hv.symm).1; omega)).trans (h1.block j hj)⟩
  refine ⟨?_, h.opt.keep hb (by omega), h.below.trans (hb.mono (by omega))⟩
  rw [take_own o ks k hk, ksV_snoc]
  exact hown

set_option maxRecDepth 100000
set_option maxHeartbeats 800000 in
theorem mref_some (o : Opt) (ks : List KeyL) (fv : Value) (b off c : Nat) (w : World) (hb : b < w.heap.size) (hc : ∀ j u, (ksV ks)[j]? = some u → w.cell? ⟨b, off + j, none⟩ = some u) (hne : ks.length ≠ 0) (hkl : ks.length * 40 ≤ 140737488355328) (hmm : o.mods < 65536) :
    Calls Tryz.prog 28 #[optV o (.slice (some ⟨b, off, none⟩) ks.length c) fv] w (RetKeys w (ks.map (own o))) := by
  have HS := Lib.hid (show ∀ W : World, Calls Tryz.prog 45 #[.int .u16 (o.mods : Int), .int .i64 1] W (RetV W (.bool (!decide (o.mods &&& 1 = 0)))) from fun W => has_ok o.mods 1 hmm (by omega) W)
  have hb1 : bits BinOp.and IntKind.u16 (o.mods : Int) 1 = ((o.mods &&& 1 : Nat) : Int) := and_nat o.mods 1 hmm (by omega)
  have hmb : (!decide (o.mods &&& 1 = 0)) = modB o.mods := by
    unfold modB
    rw [hb1, Bool.eq_iff_iff]; simp; omega
  rw [hmb] at HS
  clear hb1 hmb
  have HC := Lib.hid hc
  have HN := Lib.hid hne
  have t0 : ((ks.length : Int) == 0) = false := by simp only [beq_eq_false_iff_ne, ne_eq]; omega
  have t0' : decide ((ks.length : Int) = 0) = false := by simp only [decide_eq_false_iff_not]; omega
  clear hc hne
  unfold optV optC
  have A0 := Lib.hid (CellsAt.new w (optC o (.slice (some ⟨b, off, none⟩) ks.length c) fv) 28)
  have B0 := Lib.hid ((Below.refl w.heap.size w).alloc (Nat.le_refl _) (Obj.cells (optC o (.slice (some ⟨b, off, none⟩) ks.length c) fv).toArray 28))
  have a0 := A0.out.cell 0 _ rfl
  have a1 := A0.out.cell 1 _ rfl
  unfold optC at a0 a1
  go_enter Tryz.func28, Tryz.ntmps28
  go_wp2_with fail
  go_loopw [3, 4] (fun l i wr => ∃ k : Nat, k ≤ ks.length ∧ i = .int .i64 k ∧ SomeRel w o (.slice (some ⟨b, off, none⟩) ks.length c) fv ks k l wr) (fun _ i _ => ks.length - (match i with | .int _ z => z.toNat | _ => 0))
  case atStart => exact ⟨0, by omega, rfl, World.ownsRow_nil _ _ _ _, A0.out, B0.out⟩
  case round =>
    obtain ⟨k, hk, rfl, hR⟩ := hrel
    have HR := Lib.hid hR
    clear hR A0 B0 a0 a1
    obtain ⟨i0, hi, hz0, hz1, hz2⟩ := info_parts infoK
    have Hi := Lib.hid hi
    have Hz0 := Lib.hid hz0
    have Hz1 := Lib.hid hz1
    have Hz2 := Lib.hid hz2
    clear hi hz0 hz1 hz2
    by_cases h1 : k < ks.length
    · have t1 : decide ((k : Int) < (ks.length : Int)) = true := by simpa using h1
      have o0 := HR.out.opt.cell 0 _ rfl
      have o1 := HR.out.opt.cell 1 _ rfl
      have hlw := HR.out.opt.lt
      have A := ks_at (fun j u hu => (HR.out.below.cell (p := ⟨b, off + j, none⟩) hb).trans (HC.out j u hu)) k h1
      have HN2 := Lib.hid (fun (v' : Value) (w1 : World) (a b : Obj) => HR.out.next (v' := v') (w1 := w1) (a := a) (b := b) h1)
      generalize hK : ks[k] = K at *
      clear hK
      have a0 := A 0 _ rfl
      have a1 := A 1 _ rfl
      have a2 := A 2 _ rfl
      have a3 := A 3 _ rfl
      have a4 := A 4 _ rfl
      have a5 := A 5 _ rfl
      rw [Nat.add_zero] at a0
      clear A
      obtain ⟨Kf, Kc, Ke, Kd, Km, Kb⟩ := K
      by_cases hm : Km = 0
      · subst hm
        cases Kb
        · have E : kc (own o ⟨Kf, Kc, Ke, Kd, 0, false⟩) = [.int .i64 Kf, .int .i64 Kc, .int .i64 Ke, .int .i64 Kd, .int .u16 o.mods, .bool (modB o.mods)] := by unfold own; rw [if_pos ⟨rfl, rfl⟩]; rfl
          have HN3 := Lib.hid (fun v' w1 a b h1 h2 => HN2.out v' w1 a b h1 (E ▸ h2))
          clear E HN2
          go_wp2_with fail
          refine (HS.out _).mono ?_
          rintro e w' ⟨rfl, rfl⟩
          go_wp2_with (at_builtin; refine wpList_append_own _ rfl _ _ 22 rfl (w.heap.size + 1) 54 i0 _ 6 40 Tryz.underlying22 Hi.out Hz0.out Hz1.out Hz2.out rfl (by decide) _ _ _ rfl ((HR.out.row.alloc _).alloc _) ⟨wr.heap.size + 1, 0, none⟩ 1 1 [.int .i64 Kf, .int .i64 Kc, .int .i64 Ke, .int .i64 Kd, .int .u16 o.mods, .bool (modB o.mods)] rfl rfl (cell_new _ _ (by simp) _ _) (fun u hu => by simp at hu; rcases hu with rfl | rfl | rfl | rfl | rfl | rfl <;> rfl) (by unfold maxLen; omega) (by omega) (by simp; omega) ?_)
          intro v' w1 hown' hgrow _
          have hn := Lib.hid (HN3.out v' w1 _ _ hgrow hown')
          clear hown' hgrow
          go_wp2_with fail
          refine ⟨⟨k + 1, by omega, by simp, hn.out⟩, ?_⟩
          simp; omega
        · have E : kc (own o ⟨Kf, Kc, Ke, Kd, 0, true⟩) = [.int .i64 Kf, .int .i64 Kc, .int .i64 Ke, .int .i64 Kd, .int .u16 (0 : Nat), .bool true] := by unfold own; rw [if_neg (by simp)]; rfl
          have HN3 := Lib.hid (fun v' w1 a b h1 h2 => HN2.out v' w1 a b h1 (E ▸ h2))
          clear E HN2
          go_wp2_with (at_builtin; refine wpList_append_own _ rfl _ _ 22 rfl (w.heap.size + 1) 54 i0 _ 6 40 Tryz.underlying22 Hi.out Hz0.out Hz1.out Hz2.out rfl (by decide) _ _ _ rfl ((HR.out.row.alloc _).alloc _) ⟨wr.heap.size + 1, 0, none⟩ 1 1 [.int .i64 Kf, .int .i64 Kc, .int .i64 Ke, .int .i64 Kd, .int .u16 (0 : Nat), .bool true] rfl rfl (cell_new _ _ (by simp) _ _) (fun u hu => by simp at hu; rcases hu with rfl | rfl | rfl | rfl | rfl | rfl <;> rfl) (by unfold maxLen; omega) (by omega) (by simp; omega) ?_)
          intro v' w1 hown' hgrow _
          have hn := Lib.hid (HN3.out v' w1 _ _ hgrow hown')
          clear hown' hgrow
          go_wp2_with fail
          refine ⟨⟨k + 1, by omega, by simp, hn.out⟩, ?_⟩
          simp; omega
      · have t2 : decide (Km = 0) = false := by simpa using hm
        have hm2 := hm
        have E : kc (own o ⟨Kf, Kc, Ke, Kd, Km, Kb⟩) = [.int .i64 Kf, .int .i64 Kc, .int .i64 Ke, .int .i64 Kd, .int .u16 Km, .bool Kb] := by unfold own; rw [if_neg (fun h => hm2 h.1)]; rfl
        have HN3 := Lib.hid (fun v' w1 a b h1 h2 => HN2.out v' w1 a b h1 (E ▸ h2))
        clear E HN2 hm2
        go_wp2_with (at_builtin; refine wpList_append_own _ rfl _ _ 22 rfl (w.heap.size + 1) 54 i0 _ 6 40 Tryz.underlying22 Hi.out Hz0.out Hz1.out Hz2.out rfl (by decide) _ _ _ rfl ((HR.out.row.alloc _).alloc _) ⟨wr.heap.size + 1, 0, none⟩ 1 1 [.int .i64 Kf, .int .i64 Kc, .int .i64 Ke, .int .i64 Kd, .int .u16 Km, .bool Kb] rfl rfl (cell_new _ _ (by simp) _ _) (fun u hu => by simp at hu; rcases hu with rfl | rfl | rfl | rfl | rfl | rfl <;> rfl) (by unfold maxLen; omega) (by omega) (by simp; omega) ?_)
        intro v' w1 hown' hgrow _
        have hn := Lib.hid (HN3.out v' w1 _ _ hgrow hown')
        clear hown' hgrow
        go_wp2_with fail
        refine ⟨⟨k + 1, by omega, by simp, hn.out⟩, ?_⟩
        simp; omega
    · have t1 : decide ((k : Int) < (ks.length : Int)) = false := by simpa using h1
      have e : k = ks.length := by omega
      subst e
      have o0 := HR.out.opt.cell 0 _ rfl
      have hr := HR.out.row
      rw [List.take_of_length_le (by simp)] at hr
      have hbw := Lib.hid HR.out.below
      obtain ⟨g, cc, rfl, hg1, hg2, hg3, _⟩ := own_row hr HN.out
      have HG := Lib.hid (And.intro hg1 (And.intro hg2 hg3))
      clear hr hg1 hg2 hg3 HR
      go_wp2_with fail
      go_ret
      exact ⟨g, cc, by rw [List.length_map]; rfl, by have := HG.out.1; omega, HG.out.2.1, HG.out.2.2, hbw.out⟩
set_option maxHeartbeats 800000 in
theorem mref_nil (o : Opt) (kv fv : Value) (w : World) (hk : SlAt w w.heap.size kv 6 0 (ksV [])) (hmm : o.mods < 65536) :
    Calls Tryz.prog 28 #[optV o kv fv] w (RetKeys w ([k1].map (own o))) := by
  have hkv : ∃ a c, kv = .slice a 0 c := by
    rcases hk.2 with ⟨rfl | ⟨ad, c, rfl⟩, _⟩ | ⟨b, off, c, rfl, _⟩
    · exact ⟨_, _, rfl⟩
    · exact ⟨_, _, rfl⟩
    · exact ⟨_, _, rfl⟩
  obtain ⟨ak, ck, rfl⟩ := hkv
  clear hk
  have HS := Lib.hid (show ∀ W : World, Calls Tryz.prog 45 #[.int .u16 (o.mods : Int), .int .i64 1] W (RetV W (.bool (!decide (o.mods &&& 1 = 0)))) from fun W => has_ok o.mods 1 hmm (by omega) W)
  have hb1 : bits BinOp.and IntKind.u16 (o.mods : Int) 1 = ((o.mods &&& 1 : Nat) : Int) := and_nat o.mods 1 hmm (by omega)
  have hmb : (!decide (o.mods &&& 1 = 0)) = modB o.mods := by
    unfold modB
    rw [hb1, Bool.eq_iff_iff]; simp; omega
  rw [hmb] at HS
  clear hb1 hmb
  unfold optV optC
  have A0 := Lib.hid (CellsAt.new w (optC o (.slice ak 0 ck) fv) 28)
  have B0 := Lib.hid ((Below.refl w.heap.size w).alloc (Nat.le_refl _) (Obj.cells (optC o (.slice ak 0 ck) fv).toArray 28))
  have a0 := A0.out.cell 0 _ rfl
  have a1 := A0.out.cell 1 _ rfl
  unfold optC at a0 a1
  have sz : (w.alloc (Obj.cells (optC o (.slice ak 0 ck) fv).toArray 28)).heap.size = w.heap.size + 1 := by simp
  unfold optC at A0 B0 sz
  obtain ⟨i0, hi, hz0, hz1, hz2⟩ := info_parts infoK
  have Hi := Lib.hid hi
  have Hz0 := Lib.hid hz0
  have Hz1 := Lib.hid hz1
  have Hz2 := Lib.hid hz2
  clear hi hz0 hz1 hz2
  go_enter Tryz.func28, Tryz.ntmps28
  go_wp2_with fail
  refine wp_loop_rounds 1 ?_
  rw [rounds_succ]
  go_wp2_with fail
  refine (HS.out _).mono ?_
  rintro e w' ⟨rfl, rfl⟩
  generalize World.alloc w _ = W0 at *
  go_wp2_with (at_builtin; refine wpList_append_own _ rfl _ _ 22 rfl (w.heap.size + 1) 54 i0 _ 6 40 Tryz.underlying22 Hi.out Hz0.out Hz1.out Hz2.out rfl (by decide) _ _ [] rfl (World.ownsRow_nil _ _ _ _) ⟨w.heap.size + 1, 0, none⟩ 1 1 [.int .i64 1, .int .i64 1, .int .i64 0, .int .i64 0, .int .u16 o.mods, .bool (modB o.mods)] rfl rfl (cell_new _ _ sz _ _) (fun u hu => by simp at hu; rcases hu with rfl | rfl | rfl | rfl <;> rfl) (by unfold maxLen; omega) (by omega) (by simp; omega) ?_)
  intro v' w1 hown' hgrow _
  have he : [k1].map (own o) = [turn k1 o.mods (modB o.mods)] := by simp [own, k1]
  obtain ⟨g, cc, rfl, hg1, hg2, hg3, _⟩ := own_row hown' (by omega)
  have b1 : Below W0.heap.size W0 w1 := by
    have h1 : Below W0.heap.size W0 (W0.alloc (Obj.cells #[.int .i64 1, .int .i64 1, .int .i64 0, .int .i64 0, .int .u16 o.mods, .bool (modB o.mods)] 54)) := (Below.refl _ _).alloc (Nat.le_refl _) _
    exact ⟨hgrow.os.trans h1.os, hgrow.tape.trans h1.tape, hgrow.output.trans h1.output, Nat.le_trans h1.size hgrow.size, fun j hj => (hgrow.block j (by simp; omega) (fun hv => by simp [Value.ownBlock] at hv)).trans (h1.block j hj)⟩
  have HG := Lib.hid (show RetKeys w [turn k1 o.mods (modB o.mods)] (.returned (.slice (some ⟨g, 0, none⟩) 1 cc)) w1 from ⟨g, cc, rfl, by omega, hg2, hg3, B0.out.trans (b1.mono B0.out.size)⟩)
  clear hown' hgrow hg1 hg2 hg3 b1
  go_wp2_with fail
  go_ret
  rw [he]
  exact HG.out
theorem mref_ok (o : Opt) (ks : List KeyL) (kv fv : Value) (w : World) (hk : SlAt w w.heap.size kv 6 ks.length (ksV ks)) (hkl : ks.length * 40 ≤ 140737488355328) (hmm : o.mods < 65536) :
    Calls Tryz.prog 28 #[optV o kv fv] w (RetKeys w ((dflt ks).map (own o))) := by
  unfold dflt
  by_cases h : ks = []
  · subst h
    rw [if_pos rfl]
    exact mref_nil o kv fv w hk hmm
  · rw [if_neg h]
    have hne : ks.length ≠ 0 := fun e => h (List.eq_nil_of_length_eq_zero e)
    rcases hk.2 with ⟨_, h0⟩ | ⟨b, off, c, rfl, hb, hc⟩
    · exact absurd h0 hne
    · exact mref_some o ks fv b off c w hb hc hne hkl hmm
end Go.Proofs.YtnpnccjeapejdaaGreatDoor
