/- The order's Span. -/
import Derived.Test.YtgpcmlbmmcnkjaaGreatDoorNm
namespace Go.Proofs.YtgpcmlbmmcnkjaaGreatDoor
section
open Go.RowKit
set_option maxRecDepth 100000
set_option maxHeartbeats 3200000 in
theorem new_out (o : Opt) (ks : List KeyL) (kv fv : Value) (w : World) (hmm : o.mods < 65536) (hm : ∀ k ∈ ks, k.m < 65536) (hk : SlAt w w.heap.size kv 6 ks.length (ksV ks)) (hd : docS ks o.mods o.tab = false) :
    Calls Tryz.prog 25 #[optV o kv fv] w (RetBk w (.tuple #[.pointer none, .int .i64 50])) := by
  obtain ⟨ak, ck, rfl⟩ := sl_shape hk
  have A0 := Lib.hid (CellsAt.new w (optC o (.slice ak ks.length ck) fv) 28)
  have B0 := Lib.hid ((Below.refl w.heap.size w).alloc (Nat.le_refl _) (Obj.cells (optC o (.slice ak ks.length ck) fv).toArray 28))
  have hCE : chE ks o.mods o.tab = 46 := by unfold chE; rw [chS_doc, hd]; rfl
  have CH := Lib.hid (fun (W : World) (b : Below w.heap.size w W) => check_ok ks (.slice ak ks.length ck) o.mods o.tab W hmm hm ((hk.keep b (Nat.le_refl _)).mono b.size))
  rw [hCE] at CH
  unfold optV
  unfold optC
  have a0 := A0.out.cell 0 _ rfl
  have a1 := A0.out.cell 1 _ rfl
  have a2 := A0.out.cell 2 _ rfl
  unfold optC at a0 a1 a2
  clear hk hm hd hCE
  go_enter Tryz.func25, Tryz.ntmps25
  go_wp2_with fail
  refine (CH.out _ B0.out).mono ?_
  rintro e w1 ⟨rfl, h4⟩
  have B1 := Lib.hid (B0.out.trans (h4.mono (by simp)))
  clear h4 A0 B0 a0 a1 a2 CH
  go_wp2_with fail
  go_ret2
  exact ⟨rfl, B1.out⟩
end
section
open Go.RowKit
set_option maxRecDepth 100000
theorem num_ok (x : Int) (w : World) : Calls Tryz.prog 26 #[.int .i64 x] w (RetV w (.int .i64 x)) := by
  go_enter Tryz.func26, Tryz.ntmps26
  go_wp2_with fail
  go_ret
  exact ⟨rfl, rfl⟩
theorem kysV_at (t : Int) : ∀ (D : List (KeyL × Value)) (i : Nat) (hi : i < D.length) (j : Nat), j < 10 → (kysV t D)[i * 10 + j]? = (kyC t D[i].1 D[i].2)[j]?
  | [], i, hi, _, _ => by simp at hi
  | p :: D, 0, _, j, hj => by
    have e : kysV t (p :: D) = kyC t p.1 p.2 ++ kysV t D := by simp [kysV]
    rw [e, List.getElem?_append_left (by simp [kyC]; omega), Nat.zero_mul, Nat.zero_add]
    rfl
  | p :: D, i + 1, hi, j, hj => by
    have e : kysV t (p :: D) = kyC t p.1 p.2 ++ kysV t D := by simp [kysV]
    have hl : (kyC t p.1 p.2).length = 10 := rfl
    rw [e, List.getElem?_append_right (by rw [hl]; omega), hl, show (i + 1) * 10 + j - 10 = i * 10 + j by omega]
    exact kysV_at t D i (by simpa using hi) j hj
set_option maxHeartbeats 3200000 in
theorem ordered_in (o : Opt) (ks : List KeyL) (kv fv : Value) (w : World) (hmm : o.mods < 65536) (hm : ∀ k ∈ ks, k.m < 65536) (hk : SlAt w w.heap.size kv 6 ks.length (ksV ks)) (hd : docS ks o.mods o.tab = true) :
    Calls Tryz.prog 13 #[optV o kv fv] w (fun e w' => ∃ W0 P R g kv' fv' v D, e = .returned (.tuple #[.pointer (some ⟨P, 0, none⟩), .bool true]) ∧ D.map Prod.fst = effL ks o.mods o.tab ∧ Below w.heap.size w W0 ∧ NlIn W0 w' R P g o kv' fv' (!o.stable && !o.unique) (!decide (o.mods &&& 512 = 0)) (effL ks o.mods o.tab) v D) := by
  have A0 := Lib.hid (CellsAt.new w (optC o kv fv) 28)
  have B0 := Lib.hid ((Below.refl w.heap.size w).alloc (Nat.le_refl _) (Obj.cells (optC o kv fv).toArray 28))
  have R0 := Lib.hid A0.out.range
  have hDE : dcE ks o.mods o.tab = 0 := by unfold dcE; rw [hd]; rfl
  have NW := Lib.hid (fun (W : World) (b : Below w.heap.size w W) => new_in o ks kv fv W hmm hm ((hk.keep b (Nat.le_refl _)).mono b.size) hd)
  have CH := Lib.hid (fun (W : World) (b : Below w.heap.size w W) => mcheck_ok o ks kv fv W hmm hm ((hk.keep b (Nat.le_refl _)).mono b.size))
  rw [hDE] at CH
  unfold optV at NW CH ⊢
  clear hk hm hd hDE
  go_enter Tryz.func13, Tryz.ntmps13
  go_wp2_with first
    | (guard_target =~ wpList _ _ _ (⟨some _, Op.load 28 _, _, _, _, _⟩ :: _) _ _; go_must (refine wpList_load_mid rfl 28 _ rfl w.heap.size 0 rfl (optC o kv fv) _ R0.out Tryz.underlying28 rfl (optC_load2 _ _ _) ?_))
  refine (NW.out _ B0.out).mono ?_
  rintro e w1 ⟨P, R, g, kv', fv', v, D, rfl, hD, N⟩
  have A1 := Lib.hid (A0.out.step N.bel)
  have R1 := Lib.hid A1.out.range
  have B1 := Lib.hid (B0.out.trans (N.bel.mono B0.out.size))
  have HN := Lib.hid N
  have HD := Lib.hid hD
  clear N hD NW R0 A0
  go_wp2_with first
    | (guard_target =~ wpList _ _ _ (⟨some _, Op.load 28 _, _, _, _, _⟩ :: _) _ _; go_must (refine wpList_load_mid rfl 28 _ rfl w.heap.size 0 rfl (optC o kv fv) _ R1.out Tryz.underlying28 rfl (optC_load2 _ _ _) ?_))
  refine (CH.out _ B1.out).mono ?_
  rintro e w2 ⟨rfl, b2⟩
  have HN2 := Lib.hid (HN.out.step b2)
  clear b2 HN A1 R1 B1 CH
  go_wp2_with fail
  refine (num_ok 0 w2).mono ?_
  rintro e w3 ⟨rfl, rfl⟩
  go_wp2_with fail
  go_ret2
  exact ⟨_, P, R, g, kv', fv', v, D, rfl, HD.out, B0.out, HN2.out⟩
end
end Go.Proofs.YtgpcmlbmmcnkjaaGreatDoor
