/- The law's ordered, of options that may not be. -/
import Derived.Test.YtgpcmlbmmcnkjaaGreatDoorOs
namespace Go.Proofs.YtgpcmlbmmcnkjaaGreatDoor
open Go.RowKit
set_option maxRecDepth 100000
set_option maxHeartbeats 3200000 in
theorem ordered_out (o : Opt) (ks : List KeyL) (kv fv : Value) (w : World) (hmm : o.mods < 65536) (hm : ∀ k ∈ ks, k.m < 65536) (hk : SlAt w w.heap.size kv 6 ks.length (ksV ks)) (hd : docS ks o.mods o.tab = false) :
    Calls Tryz.prog 13 #[optV o kv fv] w (RetBk w (.tuple #[.pointer none, .bool true])) := by
  have A0 := Lib.hid (CellsAt.new w (optC o kv fv) 28)
  have B0 := Lib.hid ((Below.refl w.heap.size w).alloc (Nat.le_refl _) (Obj.cells (optC o kv fv).toArray 28))
  have R0 := Lib.hid A0.out.range
  have NW := Lib.hid (fun (W : World) (b : Below w.heap.size w W) => new_out o ks kv fv W hmm hm ((hk.keep b (Nat.le_refl _)).mono b.size) hd)
  have CH := Lib.hid (fun (W : World) (b : Below w.heap.size w W) => mcheck_ok o ks kv fv W hmm hm ((hk.keep b (Nat.le_refl _)).mono b.size))
  rw [dc_no hd] at CH
  unfold optV at NW CH ⊢
  clear hk hm hd
  go_enter Tryz.func13, Tryz.ntmps13
  go_wp2_with first
    | (guard_target =~ wpList _ _ _ (⟨some _, Op.load 28 _, _, _, _, _⟩ :: _) _ _; go_must (refine wpList_load_mid rfl 28 _ rfl w.heap.size 0 rfl (optC o kv fv) _ R0.out Tryz.underlying28 rfl (optC_load2 _ _ _) ?_))
  refine (NW.out _ B0.out).mono ?_
  rintro e w1 ⟨rfl, b1⟩
  have A1 := Lib.hid (A0.out.step b1)
  have R1 := Lib.hid A1.out.range
  have B1 := Lib.hid (B0.out.trans (b1.mono B0.out.size))
  clear b1 NW R0 A0
  go_wp2_with first
    | (guard_target =~ wpList _ _ _ (⟨some _, Op.load 28 _, _, _, _, _⟩ :: _) _ _; go_must (refine wpList_load_mid rfl 28 _ rfl w.heap.size 0 rfl (optC o kv fv) _ R1.out Tryz.underlying28 rfl (optC_load2 _ _ _) ?_))
  refine (CH.out _ B1.out).mono ?_
  rintro e w2 ⟨rfl, b2⟩
  have B2 := Lib.hid (B1.out.trans (b2.mono B1.out.size))
  clear b2 A1 R1 B1 CH
  go_wp2_with fail
  refine (num_ok 50 w2).mono ?_
  rintro e w3 ⟨rfl, rfl⟩
  go_wp2_with fail
  go_ret2
  exact ⟨rfl, B2.out⟩
end Go.Proofs.YtgpcmlbmmcnkjaaGreatDoor
