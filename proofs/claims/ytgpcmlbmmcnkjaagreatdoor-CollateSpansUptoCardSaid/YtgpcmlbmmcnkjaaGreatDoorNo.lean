/- New of options that may not be; the law's ordered. -/
import Derived.Test.YtgpcmlbmmcnkjaaGreatDoorNm
namespace Go.Proofs.YtgpcmlbmmcnkjaaGreatDoor
open Go.RowKit
set_option maxRecDepth 100000
set_option maxHeartbeats 3200000 in
theorem new_out (o : Opt) (ks : List KeyL) (kv fv : Value) (w : World) (hmm : o.mods < 65536) (hm : ∀ k ∈ ks, k.m < 65536) (hk : SlAt w w.heap.size kv 6 ks.length (ksV ks)) (hd : docS ks o.mods o.tab = false) :
    Calls Tryz.prog 25 #[optV o kv fv] w (RetBk w (.tuple #[.pointer none, .int .i64 50])) := by
  obtain ⟨ak, ck, rfl⟩ := sl_shape hk
  have A0 := Lib.hid (CellsAt.new w (optC o (.slice ak ks.length ck) fv) 28)
  have B0 := Lib.hid ((Below.refl w.heap.size w).alloc (Nat.le_refl _) (Obj.cells (optC o (.slice ak ks.length ck) fv).toArray 28))
  have hCE : chE ks o.mods o.tab = 46 := by unfold chE; rw [chS_doc, hd]; rfl
  have CH := Lib.hid (fun (W : World) (b : Below w.heap.size w W) => check_ok ks (.slice ak ks.length ck) o.mods o.tab W hmm hm ((hk.keep b (Nat.le_refl _)).mono b.size))
  rw [hCE] at CH
  unfold optV
  unfold optC
  have a0 := A0.out.cell 0 _ rfl
  have a1 := A0.out.cell 1 _ rfl
  have a2 := A0.out.cell 2 _ rfl
  unfold optC at a0 a1 a2
  clear hk hm hd hCE
  go_enter Tryz.func25, Tryz.ntmps25
  go_wp2_with fail
  refine (CH.out _ B0.out).mono ?_
  rintro e w1 ⟨rfl, h4⟩
  have B1 := Lib.hid (B0.out.trans (h4.mono (by simp)))
  clear h4 A0 B0 a0 a1 a2 CH
  go_wp2_with fail
  go_ret2
  exact ⟨rfl, B1.out⟩
end Go.Proofs.YtgpcmlbmmcnkjaaGreatDoor
