/- Steps of their own, in new blocks. -/
import Derived.Test.YthajgfldjjgkiaaTw
namespace Go.Proofs.Ythajgfldjjgkiaa
open Go.RowKit
set_option maxRecDepth 100000

/-- Steps that lie in blocks from B on. -/
def StNew (w : World) (B : Nat) (v : Value) (ss : List Stp) : Prop := ∃ f, SlAt w v ss.length (sV f (outs ss) ss.length) ∧ (∀ b, v.ownBlock = some b → B ≤ b) ∧ ∀ i (hi : i < ss.length), SlI w (f i) ss[i].inn ∧ ∀ b, (f i).ownBlock = some b → B ≤ b
theorem StNew.st {w : World} {B : Nat} {v : Value} {ss : List Stp} (h : StNew w B v ss) : StAt w v ss := by
  obtain ⟨f, h1, _, h3⟩ := h
  exact ⟨f, h1, fun i hi => (h3 i hi).1⟩
theorem StNew.kp {w w' : World} {B : Nat} {v : Value} {ss : List Stp} {S : Nat → Prop} (h : StNew w B v ss) (k : Kp w w' S) (hn : ∀ b, B ≤ b → ¬ S b) : StNew w' B v ss := by
  obtain ⟨f, h1, h2, h3⟩ := h
  exact ⟨f, h1.kp k (fun b e => hn b (h2 b e)), h2, fun i hi => ⟨SlAt.kp (h3 i hi).1 k (fun b e => hn b ((h3 i hi).2 b e)), (h3 i hi).2⟩⟩
theorem StNew.below {w w' : World} {B : Nat} {v : Value} {ss : List Stp} (h : StNew w B v ss) (k : Below w.heap.size w w') : StNew w' B v ss := h.kp (Kp.of (fun _ => False) k) (fun _ _ => id)
theorem StOwn.kp {w w' : World} {B : Nat} {v : Value} {ss : List Stp} {g : Nat} {gi : Nat → Nat} {S : Nat → Prop} (h : StOwn w B v ss g gi) (k : Kp w w' S) (hn : ∀ b, B ≤ b → ¬ S b) : StOwn w' B v ss g gi :=
  ⟨h.val, h.row.kp k (hn _ h.ge), h.ge, fun i hi => ⟨(h.each i hi).1.kp k (hn _ (h.each i hi).2), (h.each i hi).2⟩, h.inj⟩
def TxR (w : World) (ss : List Stp) (v3 v4 : Value) (wr : World) : Prop := ∃ (i : Nat) (vl : Value) (f : Nat → Value), vl = v3 ∧ v4 = .int .i64 (i : Int) ∧ i ≤ ss.length ∧ OwnS wr vl f (outs ss) i ∧ (∀ j (h : j < ss.length), j < i → OwnI wr (f j) ss[j].inn ∧ ∀ b, (f j).ownBlock = some b → w.heap.size ≤ b) ∧ Below w.heap.size w wr ∧ ∀ b, vl.ownBlock = some b → w.heap.size ≤ b
def TwinN (w : World) (ss : List Stp) (e : Ending) (w' : World) : Prop := ∃ v, e = .returned v ∧ StNew w' w.heap.size v ss ∧ Below w.heap.size w w'
set_option maxHeartbeats 8000000 in
theorem twin_new {w : World} {vs : Value} {ss : List Stp} (hs : StAt w vs ss) (hl : ss.length ≤ 1000000) (hi : ∀ s ∈ ss, s.inn.length ≤ 17592186044416) :
    Calls Try.prog 12 #[vs] w (TwinN w ss) := by
  have HS := Lib.hid hs
  have HI := Lib.hid hi
  obtain ⟨sa, sc, rfl, hsc, hsc2⟩ := hs.form
  clear hs hi
  have ST := Lib.hid (show TxR w ss (.slice none 0 0) (.int .i64 0) w from ⟨0, _, fun _ => .slice none 0 0, rfl, rfl, Nat.zero_le _, OwnS.nil _ _ _, (fun j _ h => absurd h (by omega)), Below.refl _ _, (fun b hb => by cases hb)⟩)
  go_enter Try.func12, Try.ntmps12
  go_wp2_with fail
  go_loopw [3, 4] (fun v3 v4 wr => TxR w ss v3 v4 wr) (fun _ v4 _ => ss.length - (intOf v4).toNat)
  case atStart => exact ST.out
  case round =>
    clear ST
    obtain ⟨i, vl, f, rfl, rfl, hk, hown, hins, hbel, hge⟩ := hrel
    have OW := Lib.hid hown
    have INS := Lib.hid hins
    have BE := Lib.hid hbel
    have GE := Lib.hid hge
    obtain ⟨la, lc, rfl⟩ := hown.form
    clear hown hins hbel hge
    by_cases hlt : i < ss.length
    · have t1 : decide ((i : Int) < (ss.length : Int)) = true := decide_eq_true (by omega)
      have t1n : decide (i < ss.length) = true := decide_eq_true hlt
      have ik : (i : Int) < (ss.length : Int) := by omega
      have ik0 : (0 : Int) ≤ (i : Int) := by omega
      obtain ⟨b1, o1, c1, f1, e1', _, l1, g1⟩ := (HS.out.below BE.out).get (by rintro rfl; exact absurd hlt (Nat.not_lt_zero _))
      injection e1' with e1' _ e3'
      subst e1' e3'
      obtain ⟨q1, q2, q3⟩ := g1 i hlt
      rw [← Nat.add_assoc] at q2
      obtain ⟨xa, xc, hx, xc1, xc2⟩ := q3.form
      rw [hx] at q1 q3
      have X3 := Lib.hid (show SlI wr (.slice xa ss[i].inn.length xc) ss[i].inn from q3)
      have XL := Lib.hid (HI.out _ (List.getElem_mem hlt))
      have OE : outs ss i = ss[i].out := by simp [outs, hlt]
      have FIN := Lib.hid (fun (wa wb wc : World) (vi : Value) (g c : Nat) (k1 : Below wr.heap.size wr wa) (oi : OwnI wa vi ss[i].inn) (nv : ∀ b, vi.ownBlock = some b → wr.heap.size ≤ b) (k2 : Below wa.heap.size wa wb) (os : OwnS wc (.slice (some ⟨g, 0, none⟩) (i + 1) c) (updF f i vi) (updF (outs ss) i ss[i].out) (i + 1)) (k3 : Kp wb wc (fun k => (Value.slice la i lc).ownBlock = some k)) (q : (Value.slice la i lc).ownBlock = some g ∨ g = wb.heap.size) =>
        show TxR w ss (.slice (some ⟨g, 0, none⟩) (i + 1) c) (.int .i64 ((i : Int) + 1)) wc from by
          have e : updF (outs ss) i ss[i].out = outs ss := by
            funext y; unfold updF; by_cases e : y = i
            · rw [if_pos e, e, OE]
            · rw [if_neg e]
          rw [e] at os
          have kb := k1.trans (k2.mono k1.size)
          have owb := OW.out.below kb
          have sw := BE.out.size
          refine ⟨i + 1, _, updF f i vi, rfl, by congr 1, hlt, os, fun j hj hji => ?_, (BE.out.trans (kb.mono sw)).trans (k3.below (Nat.le_trans sw kb.size) (fun x e => GE.out x e)), fun b hb => ?_⟩
          · have nb : ∀ {u : Value} {l : List Int}, OwnI wb u l → ∀ b, u.ownBlock = some b → ¬ (Value.slice la i lc).ownBlock = some b := fun ou b hb e => own_ne owb ou e hb rfl
            by_cases ej : j = i
            · subst ej
              rw [updF_same]
              exact ⟨(oi.below k2).kp k3 (nb (oi.below k2)), fun b hb => Nat.le_trans sw (nv b hb)⟩
            · rw [updF_other _ _ _ _ ej]
              have oj := (INS.out j hj (by omega)).1.below kb
              exact ⟨oj.kp k3 (nb oj), (INS.out j hj (by omega)).2⟩
          · injection hb with hb
            subst hb
            rcases q with q | q
            · exact GE.out _ q
            · simp only; have := kb.size; omega)
      clear g1 hx q3 OE
      generalize hO : ss[i].out = xo at *
      clear hO
      generalize hX : ss[i].inn = xi at *
      clear hX
      have ME := Lib.hid (show ss.length - ((i : Int) + 1).toNat < ss.length - (i : Int).toNat by omega)
      by_cases hn : xi = []
      · subst hn
        cases xa with
        | none =>
          have hc0 : xc = 0 := by
            obtain ⟨a', c', e, _, _, h0, _⟩ := X3.out
            injection e with e1 _ e3
            rw [e3]; exact h0 e1.symm
          subst hc0
          obtain ⟨i0, hi0, _, _, _⟩ := info_parts info3
          go_upto_region 7 with (at_builtin; refine wpList_append_own_none rfl _ _ 22 rfl 0 3 i0 1 Try.underlying22 hi0 (.slice none 0 0) 0 [] rfl (World.ownsRow_nil _ _ _ _) rfl ?_)
          have BN := Lib.hid (BlkAt.new wr [.slice none 0 0, .int .i64 xo] 46)
          have BA := Lib.hid (below_alloc wr (.cells #[.slice none 0 0, .int .i64 xo] 46))
          go_wp2_with (at_builtin; refine wp_apS rfl _ _ rfl (.slice la i lc) f (outs ss) i rfl (OW.out.below BA.out) wr.heap.size rfl (.slice none 0 0) xo rfl BN.out (by omega) ?_; intro g4 c4 w4 s41 s42 s43)
          have F := Lib.hid (FIN.out wr (wr.alloc (.cells #[.slice none 0 0, .int .i64 xo] 46)) w4 (.slice none 0 0) g4 c4 (Below.refl _ _) (OwnI.nil wr) (fun b hb => by cases hb) BA.out s41 s42 s43)
          clear s41 s42 s43
          go_wp2_with fail
          exact ⟨F.out, ME.out⟩
        | some ad =>
          go_upto_region 7 with (at_builtin; refine wp_ap0 rfl _ _ rfl rfl ad xc rfl ?_; intro wa ka)
          have KA := Lib.hid ka
          have q2' := ((bcell ka).1 b1 _ l1).trans q2
          have l1' := Nat.lt_of_lt_of_le l1 ka.size
          clear q1 q2 l1 ka
          have BN := Lib.hid (BlkAt.new wa [.slice none 0 0, .int .i64 xo] 46)
          have BA := Lib.hid (below_alloc wa (.cells #[.slice none 0 0, .int .i64 xo] 46))
          go_wp2_with (at_builtin; refine wp_apS rfl _ _ rfl (.slice la i lc) f (outs ss) i rfl ((OW.out.below KA.out).below BA.out) wa.heap.size rfl (.slice none 0 0) xo rfl BN.out (by omega) ?_; intro g4 c4 w4 s41 s42 s43)
          have F := Lib.hid (FIN.out wa (wa.alloc (.cells #[.slice none 0 0, .int .i64 xo] 46)) w4 (.slice none 0 0) g4 c4 KA.out (OwnI.nil wa) (fun b hb => by cases hb) BA.out s41 s42 s43)
          clear s41 s42 s43
          go_wp2_with fail
          exact ⟨F.out, ME.out⟩
      · obtain ⟨xb, xo', xc', e5, _, l5, g5⟩ := X3.out.get hn
        injection e5 with e5 _ e6
        subst e5 e6
        have G5 := Lib.hid g5
        have hp : 0 < xi.length := List.length_pos_iff.2 hn
        have hxl : ([] : List Int).length + xi.length ≤ 17592186044416 := by have := XL.out; simp; omega
        clear g5 hn
        go_upto_region 7 with (at_builtin; refine wp_apI rfl _ _ rfl (.slice none 0 0) [] rfl (OwnI.nil wr) ⟨xb, xo', none⟩ xi.length xc xi rfl rfl hp (fun j hj => by rw [add_plain]; exact G5.out j hj) hxl ?_; intro g6 c6 wa s61 s62 s63)
        have KA := Lib.hid (show Below wr.heap.size wr wa from s62.below (Nat.le_refl _) (fun x e => by cases e))
        have O6 := Lib.hid (show OwnI wa (.slice (some ⟨g6, 0, none⟩) xi.length c6) xi from by simpa using s61)
        have N6 := Lib.hid (show ∀ b, (Value.slice (some ⟨g6, 0, none⟩) xi.length c6).ownBlock = some b → wr.heap.size ≤ b from fun b hb => by
          injection hb with hb
          subst hb
          rcases s63 with q | q
          · cases q
          · simp only; omega)
        have q2' := ((bcell KA.out).1 b1 _ l1).trans q2
        have l1' := Nat.lt_of_lt_of_le l1 KA.out.size
        clear q1 q2 l1 s61 s62 s63 hxl hp
        have BN := Lib.hid (BlkAt.new wa [.slice (some ⟨g6, 0, none⟩) xi.length c6, .int .i64 xo] 46)
        have BA := Lib.hid (below_alloc wa (.cells #[.slice (some ⟨g6, 0, none⟩) xi.length c6, .int .i64 xo] 46))
        go_wp2_with (at_builtin; refine wp_apS rfl _ _ rfl (.slice la i lc) f (outs ss) i rfl ((OW.out.below KA.out).below BA.out) wa.heap.size rfl (.slice (some ⟨g6, 0, none⟩) xi.length c6) xo rfl BN.out (by omega) ?_; intro g4 c4 w4 s41 s42 s43)
        have F := Lib.hid (FIN.out wa (wa.alloc (.cells #[.slice (some ⟨g6, 0, none⟩) xi.length c6, .int .i64 xo] 46)) w4 (.slice (some ⟨g6, 0, none⟩) xi.length c6) g4 c4 KA.out O6.out N6.out BA.out s41 s42 s43)
        clear s41 s42 s43
        go_wp2_with fail
        exact ⟨F.out, ME.out⟩
    · have t1 : decide ((i : Int) < (ss.length : Int)) = false := decide_eq_false (by omega)
      have t1n : decide (i < ss.length) = false := decide_eq_false hlt
      have hie : i = ss.length := by omega
      subst hie
      have F := Lib.hid (show TwinN w ss (.returned (.slice la ss.length lc)) wr from ⟨_, rfl, ⟨f, OW.out.sl, GE.out, fun j hj => ⟨(INS.out j hj hj).1.sl, (INS.out j hj hj).2⟩⟩, BE.out⟩)
      go_wp2_with fail
      go_ret
      exact F.out
end Go.Proofs.Ythajgfldjjgkiaa
