/- SpecEffective: the keys of every options, with what they inherit, are those that the document's own function gives, and the options are as they were. For every input; nothing is asked beside what the row itself says. -/
import Derived.Test.YtbgbmojoldkcfaaRows
import Derived.Test.YtbgbmojoldkcfaaOpenO
import Derived.WalkKit
import Derived.ProofKit
import Derived.OpenShut
import Derived.ChangeOld
import Derived.Below
import Derived.Deep.Matrix
import Derived.SizedLaws
import Derived.Carry
namespace Go.Proofs.Ytbgbmojoldkcfaa
open Go.ChangeShapes Go.WideShapes Go.ChangeAt Go.RowKit Go.Deep

theorem seOwn : ownKnob Try.prog.godebug = none := by kernel_rfl
theorem seLaidOut : laidOutB Try.prog = true := by kernel_rfl
theorem bytes35 : Try.prog.bytesOf 35 = 40 := by kernel_rfl
theorem bytes9 : Try.prog.bytesOf 9 = 16 := by kernel_rfl
theorem part_sized {H : Type} {parts : List (DataW H)} (h : (DataW.weightsEach Try.prog [28] [.agg parts]).all (· ≤ reachBytes) = true) {j : Nat} {t e : TypeId} {elems spare : List (DataW H)}
    (ht : [22, 24, 3, 4, 4, 4, 4, 25, 9, 4, 3, 3, 3, 3, 9, 4, 9, 26][j]? = some t) (hd : parts[j]? = some (.slice elems spare)) (hu : Try.prog.underlying t = some (.slice e)) : (elems.length + spare.length) * Try.prog.bytesOf e ≤ reachBytes := by
  have h1 : DataW.weightsEach Try.prog [28] [.agg parts] = DataW.weightsEach Try.prog [22, 24, 3, 4, 4, 4, 4, 25, 9, 4, 3, 3, 3, 3, 9, 4, 9, 26] parts := by
    simp only [DataW.weightsEach, DataW.weights, Try.underlying28, List.append_nil]
    rfl
  rw [h1] at h
  exact sized_slice h ht hd hu

set_option maxRecDepth 100000 in
theorem seLifted (os : Os) (started : os.Started) (H : Type) (enc : TypeId × Value → H) :
    ReturnsInHanded {} Try.checked os 3 .any (Rows.specEffectiveSpec.pre6 enc Try.prog Try.f3 Rows.specEffectiveRow.domain false) (Rows.specEffectiveSpec.post enc Try.prog Try.f3 false true false false) := by
  refine returnsInHanded_of_change_sized (C := Try.checked) seOwn started (by kernel_rfl) Try.func3
    (ChangeSpec.witness6 (enc := enc) (C := Try.checked) false ⟨#[], #[.agg #[.slice none 0 0, .int .u16 0, .int .i64 0, .bool false, .bool false, .bool false, .bool false, .int .u8 0, .string .empty, .bool false, .int .i64 0, .int .i64 0, .int .i64 0, .int .i64 0, .string .empty, .bool false, .string .empty, .slice none 0 0]], []⟩ 8 (by kernel_rfl) (by kernel_rfl) (by kernel_rfl) (by kernel_rfl)) ?_
  intro W base args ds gs before hval0 hW _ hreach _
  have hval : ∀ (j : Nat) t v, Try.f3.params[j]? = some t → args[j]? = some v → Value.okWide Try.prog W .any base t v := hval0
  have hW' := hW
  obtain ⟨p, q, hA0, hV, rfl, hfz, hnd⟩ := hW
  have hA : DataW.TrodAll enc Try.prog W 0 (fun _ => true) true Try.f3.params.toList args.toList ds p := hA0
  rw [Try.params3] at hA hval hreach
  obtain ⟨v0, vs0, d0, ds0, p0, q0, hargs, rfl, rfl, h0, r0⟩ := trodAll_cons hA
  obtain ⟨rfl, rfl, rfl⟩ := trodAll_nil r0
  obtain rfl : args = #[v0] := by cases args; simp_all
  obtain ⟨rfl, rfl⟩ := trodVars_none hV
  have k0 := h0
  have lt0 : ∀ x ∈ p0, x.block < W.heap.size := by obtain ⟨m, hm⟩ := k0; exact DataW.trod_lt m _ _ _ hm
  obtain ⟨o, ka, kcp, ks, fa, fcp, l, parts, rfl, rfl, hk, hl, hkn, hln⟩ := open_opt (hval 0 28 v0 rfl rfl) h0
  have hr : (DataW.weightsEach Try.prog [28] [DataW.agg parts]).all (· ≤ reachBytes) = true := hreach
  have hkl : ks.length * 40 ≤ 140737488355328 := by
    rcases hkn with rfl | ⟨e, s, h1, h2⟩
    · simp
    · have := part_sized hr (j := 0) rfl h1 Try.underlying22
      rw [bytes35, h2, Nat.add_mul] at this
      unfold reachBytes at this
      omega
  have hfl : l.length * 16 ≤ 140737488355328 := by
    rcases hln with rfl | ⟨e, s, h1, h2⟩
    · simp
    · have := part_sized hr (j := 17) rfl h1 Try.underlying26
      rw [bytes9, h2, Nat.add_mul] at this
      unfold reachBytes at this
      omega
  clear hA0 hval0 hreach hr
  refine (effective_law o ks l ka fa kcp fcp W hk hl hkl hfl).mono fun e W' ⟨he, bel⟩ => ?_
  subst he
  exact ⟨_, rfl, _, _, _, [], _, [], hW', trodAll_mk1 (shut_bool Try.underlying4 _), (trodAll_cons_mk (Below.trod seLaidOut (by kernel_rfl) (of_decide_eq_true (by kernel_rfl)) k0 bel lt0) trodAll_mk0), rfl, bel.frame _, fun h => by cases h⟩

theorem specEffective_holds : Rows.SpecEffectiveSaid :=
  OpenClaim.holds_of_wide 3 Try.f3 rfl rfl rfl rfl rfl rfl rfl ⟨rfl, rfl, rfl, rfl, rfl⟩ rfl rfl rfl rfl rfl (by kernel_rfl) Try.func3 (by kernel_rfl)
    (of_decide_eq_true (by kernel_rfl)) (by unfold Func.isWrapper; first | (rw [if_pos (by decide +kernel)]; kernel_rfl) | (rw [if_neg (by decide +kernel)]; exact ⟨rfl, rfl⟩))
    (fun os started H enc _ => seLifted os started H enc)
end Go.Proofs.Ytbgbmojoldkcfaa
