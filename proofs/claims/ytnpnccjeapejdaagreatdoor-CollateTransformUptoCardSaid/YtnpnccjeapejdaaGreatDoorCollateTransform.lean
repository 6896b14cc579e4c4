/- CollateTransform: of every options that may be, and every two lines, what Transform gives of them is ordered bytewise as Compare orders the lines, and is no longer than the document says. For every input whose bulk is at most 1048576 (the Upto form); the tables of numeral, collate and unicode/utf8 are as the program's text lays them. -/
import Derived.Test.YtnpnccjeapejdaaGreatDoorOpT
import Derived.Test.YtnpnccjeapejdaaGreatDoorVf
import Derived.Test.YtnpnccjeapejdaaGreatDoorBulk
import Derived.Test.YtnpnccjeapejdaaGreatDoorTie
import Derived.Test.YtnpnccjeapejdaaGreatDoorCards
import Derived.WalkKit
import Derived.ProofKit
import Derived.OpenShut
import Derived.ChangeOld
import Derived.Below
import Derived.SizedLaws
import Derived.LaidMore
import Derived.Lay
import Derived.SevenTiedAt
import Derived.Stop.Joined
import Derived.Carry
import Derived.Deep.DeepHandedRow
import Derived.Lib.LaidTab
namespace Go.Proofs.YtnpnccjeapejdaaGreatDoor
open Go.ChangeShapes Go.WideShapes Go.ChangeAt Go.RowKit

theorem collateTransform_reads (os : Os) {H : Type} (enc : TypeId × Value → H) : ∃ places, DataW.whole enc Tryz.prog ((World.laidAll Tryz.prog os Rows.collateTransformUptoRow.laid).forCall (fun _ _ => 0) ⟨#[], #[.agg #[.slice none 0 0, .int .u16 0, .int .i64 0, .bool false, .bool false, .bool false, .bool false, .int .u8 0, .string .empty, .bool false, .int .i64 0, .int .i64 0, .int .i64 0, .int .i64 0, .string .empty, .bool false, .string .empty, .slice none 0 0], .string .empty, .string .empty], []⟩).memory Tryz.f3.params.toList Rows.collateTransformSpec.vars false (#[.agg #[.slice none 0 0, .int .u16 0, .int .i64 0, .bool false, .bool false, .bool false, .bool false, .int .u8 0, .string .empty, .bool false, .int .i64 0, .int .i64 0, .int .i64 0, .int .i64 0, .string .empty, .bool false, .string .empty, .slice none 0 0], .string .empty, .string .empty] : Array Value).toList 8 = some ([.agg [.nil, .lit (.int .u16 0), .lit (.int .i64 0), .lit (.bool false), .lit (.bool false), .lit (.bool false), .lit (.bool false), .lit (.int .u8 0), .lit (.string []), .lit (.bool false), .lit (.int .i64 0), .lit (.int .i64 0), .lit (.int .i64 0), .lit (.int .i64 0), .lit (.string []), .lit (.bool false), .lit (.string []), .nil], .lit (.string []), .lit (.string [])], [], places) :=
  ⟨[], by kernel_rfl⟩

set_option maxRecDepth 100000 in
theorem collateTransformLifted (os : Os) (started : os.Started) (H : Type) (enc : TypeId × Value → H) (F : Stop.Interp) :
    ReturnsInHanded {} Tryz.checked os 3 .any ((Rows.OpenSpec.upto Rows.collateTransformSpec).preRow enc Tryz.prog Tryz.f3 Rows.collateTransformUptoRow.domain false Rows.collateTransformUptoRow.laid) (((Rows.OpenSpec.upto Rows.collateTransformSpec).at F).post enc Tryz.prog Tryz.f3 false true false false) := by
  obtain ⟨places, hx⟩ := collateTransform_reads os enc
  refine returnsInHanded_of_row (C := Tryz.checked) (s := Rows.OpenSpec.upto Rows.collateTransformSpec) drOwn started (by kernel_rfl) Tryz.func3
    (witness_row_at (enc := enc) (C := Tryz.checked) false (World.laidAll Tryz.prog os Rows.collateTransformUptoRow.laid) #[.agg #[.slice none 0 0, .int .u16 0, .int .i64 0, .bool false, .bool false, .bool false, .bool false, .int .u8 0, .string .empty, .bool false, .int .i64 0, .int .i64 0, .int .i64 0, .int .i64 0, .string .empty, .bool false, .string .empty, .slice none 0 0], .string .empty, .string .empty] (World.laidAll_os _ _ _) (by kernel_rfl) (by kernel_rfl) (by kernel_rfl)
      (OpenSpec.preRow_of_cond 8 hx (by kernel_rfl) (fun k hk => by cases hk; kernel_rfl) (by kernel_rfl) (by rw [MakeChecks.laidMetH_plain _ _ _ (by kernel_rfl)]; exact laidMet_laidAll _ (by kernel_rfl) (by kernel_rfl)))) ?_
  intro W base args ds gs before hval0 hW _ hcond _ hL _ _
  have hval : ∀ (j : Nat) t v, Tryz.f3.params[j]? = some t → args[j]? = some v → Value.okWide Tryz.prog W .any base t v := hval0
  have hW' := hW
  obtain ⟨p, q, hA0, hV, rfl, hfz, hnd⟩ := hW
  have hA : DataW.TrodAll enc Tryz.prog W 0 (fun _ => true) true Tryz.f3.params.toList args.toList ds p := hA0
  rw [Tryz.params3] at hA hval
  obtain ⟨v0, vs0, d0, ds0, p0, q0, hargs, rfl, rfl, h0, r0⟩ := trodAll_cons hA
  obtain ⟨v1, vs1, d1, ds1, p1, q1, rfl, rfl, rfl, h1, r1⟩ := trodAll_cons r0
  obtain ⟨v2, vs2, d2, ds2, p2, q2, rfl, rfl, rfl, h2, r2⟩ := trodAll_cons r1
  obtain ⟨rfl, rfl, rfl⟩ := trodAll_nil r2
  obtain rfl : args = #[v0, v1, v2] := by cases args; simp_all
  obtain ⟨rfl, rfl⟩ := trodVars_none hV
  have hb := bulks.bound (hcond _ rfl)
  rw [List.append_nil] at hb
  have k0 := h0
  have lt0 : ∀ x ∈ p0, x.block < W.heap.size := by obtain ⟨m, hm⟩ := k0; exact DataW.trod_lt m _ _ _ hm
  obtain ⟨o, ka, kcp, ks, fa, fcp, l, parts, rfl, rfl, hmm, hkm, hk, hf, hkn, hfn⟩ := open_opt (hval 0 28 v0 rfl rfl) h0
  obtain ⟨a1, rfl, rfl, rfl, w1⟩ := Go.ChangeMaps.open_string Tryz.underlying9 (hval 1 9 v1 rfl rfl) h1
  obtain ⟨a2, rfl, rfl, rfl, w2⟩ := Go.ChangeMaps.open_string Tryz.underlying9 (hval 2 9 v2 rfl rfl) h2
  have hs1 : a1.size ≤ 1048576 := by
    have h2 := bulks.part_le (show DataW.lit (.string a1.data.toList) ∈ [DataW.agg (H := H) parts, .lit (.string a1.data.toList), .lit (.string a2.data.toList)] by simp)
    rw [bulks.string_eq] at h2
    rw [Lib.size_eq]
    omega
  have hs2 : a2.size ≤ 1048576 := by
    have h2 := bulks.part_le (show DataW.lit (.string a2.data.toList) ∈ [DataW.agg (H := H) parts, .lit (.string a1.data.toList), .lit (.string a2.data.toList)] by simp)
    rw [bulks.string_eq] at h2
    rw [Lib.size_eq]
    omega
  have hks : ks.length ≤ 1048576 := by
    rcases hkn with rfl | ⟨elems, spare, hp, hl⟩
    · simp
    · have h2 := bulks.part_le (show DataW.agg (H := H) parts ∈ [DataW.agg (H := H) parts, .lit (.string a1.data.toList), .lit (.string a2.data.toList)] by simp)
      have h3 := bulks.part_le (List.mem_of_getElem? hp)
      have h4 := bulks.slice_le elems spare
      have h5 : Rows.uptoBulk (DataW.agg (H := H) parts) = Rows.uptoBulkAll parts + 1 := by simp [Rows.uptoBulk]
      omega
  have hd := transforms_ok o ks (.slice ka ks.length kcp) (.slice fa l.length fcp) a1 a2 W hmm hkm hk hks hs1 hs2 (tbs_of hL)
  clear hA0 hval0
  refine (hd).mono fun e W' ⟨he, bel⟩ => ?_
  subst he
  exact ⟨_, rfl, _, _, _, [], _, [], hW', trodAll_mk1 (shut_bool Tryz.underlying4 _), (trodAll_cons_mk (Below.trod drOut (by kernel_rfl) (of_decide_eq_true (by kernel_rfl)) k0 bel lt0) (trodAll_cons_mk (Go.ChangeMaps.shut_string Tryz.underlying9 w1) (trodAll_cons_mk (Go.ChangeMaps.shut_string Tryz.underlying9 w2) trodAll_mk0))), rfl, bel.frame _, fun h => by cases h⟩

theorem collateTransform_row : Rows.CollateTransformUptoSaid :=
  OpenClaim.holds_of_cond 3 Tryz.f3 rfl rfl rfl rfl rfl rfl rfl ⟨rfl, rfl, rfl, rfl, rfl⟩ rfl rfl rfl rfl rfl (by kernel_rfl) Tryz.func3 (by kernel_rfl)
    (of_decide_eq_true (by kernel_rfl)) (by unfold Func.isWrapper; first | (rw [if_pos (by decide +kernel)]; kernel_rfl) | (rw [if_neg (by decide +kernel)]; exact ⟨rfl, rfl⟩))
    (fun os started H enc _ F => by rw [OpenClaim.pre_eq_preRow]; exact collateTransformLifted os started H enc F)
theorem collateTransform_holds : Rows.CollateTransformUptoCardSaid :=
  Claim7.holds_tied_plain_at .later [] _ _ _ _ collateTransform_row (fun _ h => by cases h) (by kernel_rfl) (fun _ h => by cases h) collateTransformUpto_row_tie rfl ⟨rfl, rfl⟩ (by kernel_rfl) rfl
    (fun f fn hf hfn => by
      obtain rfl : f = 3 := Option.some.inj ((show Tryz.prog.funcNamed "mill/milllaw5.CollateTransform" = some 3 by kernel_rfl).symm.trans hf) |>.symm
      obtain rfl : fn = Tryz.f3 := (Option.some.inj (Tryz.func3.symm.trans hfn)).symm
      exact ⟨by kernel_rfl, fun j t ht => by
        rw [Tryz.params3] at ht
        have hm : t ∈ ([28, 9, 9] : List Nat) := by simpa using Array.mem_of_getElem? ht
        have hall : (([28, 9, 9] : List Nat).all fun u => !Tryz.prog.wantsStandIn u) = true := by kernel_rfl
        exact (show Tryz.prog.wantsStandIn t = false by simpa using List.all_eq_true.1 hall t hm)⟩)
    (by kernel_rfl)
end Go.Proofs.YtnpnccjeapejdaaGreatDoor
