/- LineThrough: whatever the buffer's size and however short the reads, the lines of a file are those that one cuts by hand. For every input. -/
import Derived.Test.YtolnojhepakaoaaRows
import Derived.Test.YtolnojhepakaoaaThrL
import Derived.WalkKit
import Derived.ProofKit
import Derived.OpenShut
import Derived.ChangeOld
import Derived.Below
import Derived.Deep.Matrix
import Derived.SizedLaws
import Derived.Carry
namespace Go.Proofs.Ytolnojhepakaoaa
open Go.ChangeShapes Go.WideShapes Go.ChangeAt Go.RowKit Go.Deep

theorem ltOwn : ownKnob Try.prog.godebug = none := by kernel_rfl
theorem ltLaidOut : laidOutB Try.prog = true := by kernel_rfl
theorem ltBytes3 : Try.checked.prog.bytesOf 3 = 8 := by kernel_rfl
theorem below_of_keeps {w w' : World} (h : Keeps [] w w') : Below w.heap.size w w' := ⟨h.os, h.tape, h.output, h.size, fun k hk => h.block k hk (by simp)⟩
theorem add_plain {b o : Nat} (j : Nat) : (⟨b, o, none⟩ : Addr).add j = ⟨b, o + j, none⟩ := by unfold Addr.add; split <;> simp_all
theorem byte_wf {n : Int} (h : (Lit.int .u8 n).wf = true) : InByte n := by
  have h2 : (decide (IntKind.u8.min ≤ n) && decide (n ≤ IntKind.u8.max)) = true := h
  rw [Bool.and_eq_true, decide_eq_true_iff, decide_eq_true_iff] at h2
  exact h2
set_option maxRecDepth 100000 in
theorem ltLifted (os : Os) (started : os.Started) (H : Type) (enc : TypeId × Value → H) :
    ReturnsInHanded {} Try.checked os 6 .any (Rows.lineThroughSpec.pre6 enc Try.prog Try.f6 Rows.lineThroughRow.domain false) (Rows.lineThroughSpec.post enc Try.prog Try.f6 false true false false) := by
  refine returnsInHanded_of_change_sized (C := Try.checked) ltOwn started (by kernel_rfl) Try.func6
    (ChangeSpec.witness6 (enc := enc) (C := Try.checked) false ⟨#[], #[.slice none 0 0, .int .i64 0, .int .u8 0, .slice none 0 0], []⟩ 8 (by kernel_rfl) (by kernel_rfl) (by kernel_rfl) (by kernel_rfl)) ?_
  intro W base args ds gs before hval0 hW _ hreach _
  have hval : ∀ (j : Nat) t v, Try.f6.params[j]? = some t → args[j]? = some v → Value.okWide Try.prog W .any base t v := hval0
  have hW' := hW
  obtain ⟨p, q, hA0, hV, rfl, hfz, hnd⟩ := hW
  have hA : DataW.TrodAll enc Try.prog W 0 (fun _ => true) true Try.f6.params.toList args.toList ds p := hA0
  rw [Try.params6] at hA hval
  obtain ⟨v0, vs0, d0, ds0, p0, q0, hargs, rfl, rfl, h0, r0⟩ := trodAll_cons hA
  obtain ⟨v1, vs1, d1, ds1, p1, q1, rfl, rfl, rfl, h1, r1⟩ := trodAll_cons r0
  obtain ⟨v2, vs2, d2, ds2, p2, q2, rfl, rfl, rfl, h2, r2⟩ := trodAll_cons r1
  obtain ⟨v3, vs3, d3, ds3, p3, q3, rfl, rfl, rfl, h3, r3⟩ := trodAll_cons r2
  obtain ⟨rfl, rfl, rfl⟩ := trodAll_nil r3
  obtain rfl : args = #[v0, v1, v2, v3] := by cases args; simp_all
  obtain ⟨rfl, rfl⟩ := trodVars_none hV
  obtain ⟨a0, len0, cap0, rfl⟩ := okWide_slice Try.underlying22 (hval 0 22 v0 rfl rfl)
  obtain ⟨a1, rfl, rfl, rfl, w1⟩ := open_int Try.underlying3 (hval 1 3 v1 rfl rfl) h1
  obtain ⟨a2, rfl, rfl, rfl, w2⟩ := open_int Try.underlying5 (hval 2 5 v2 rfl rfl) h2
  obtain ⟨a3, len3, cap3, rfl⟩ := okWide_slice Try.underlying35 (hval 3 35 v3 rfl rfl)
  have k0 := h0
  have k3 := h3
  have lt0 : ∀ x ∈ p0, x.block < W.heap.size := by obtain ⟨m, hm⟩ := k0; exact DataW.trod_lt m _ _ _ hm
  have lt3 : ∀ x ∈ p3, x.block < W.heap.size := by obtain ⟨m, hm⟩ := k3; exact DataW.trod_lt m _ _ _ hm
  have i0 : ∃ zs, DataAt W a0 len0 cap0 zs ∧ zs.length = len0 ∧ (∀ z ∈ zs, InByte z) ∧ len0 ≤ 9223372036854775807 := by
    obtain ⟨fuel, hf⟩ := h0
    rcases open_ints Try.underlying22 Try.underlying5 (by kernel_rfl) hf with ⟨hcs, _⟩ | ⟨x, l, c, zs, hcs, _, hl, hm, hz, hx, hcell, hwf⟩
    · simp [Value.cells] at hcs
      obtain ⟨rfl, rfl, rfl⟩ := hcs
      exact ⟨[], .inl ⟨rfl, rfl⟩, rfl, (fun z hz => by cases hz), by omega⟩
    · simp [Value.cells] at hcs
      obtain ⟨rfl, rfl, rfl⟩ := hcs
      have hzc : zs.length = cap0 := by simpa using hz
      have hby : ∀ z ∈ zs.take len0, InByte z := fun z hz2 => by
        exact byte_wf (hwf z (List.mem_of_mem_take hz2))
      obtain ⟨pb, po, spot⟩ := x
      refine ⟨zs.take len0, ?_, by simp; omega, hby, Nat.le_trans hl hm⟩
      rcases Nat.eq_zero_or_pos len0 with h | h
      · exact .inl ⟨h, by rw [h]; rfl⟩
      · have hc0 := hcell 0 (by omega)
        have hspot : spot = none := by simpa [Addr.add] using World.cell?_spot hc0
        subst hspot
        refine .inr ⟨pb, po, rfl, hl, ⟨by simp; omega, fun j hj => ?_, hby⟩⟩
        have h1 := hcell j (by omega)
        rw [add_plain] at h1
        rw [h1]
        congr 2
        simp [List.getD, hj]
  have i3 : (len3 = 0 ∨ ∃ (sb so : Nat) (z : Nat → Int), a3 = some ⟨sb, so, none⟩ ∧ ∀ j, j < len3 → W.cell? ⟨sb, so + j, none⟩ = some (.int .i64 (z j))) ∧ len3 ≤ 4611686018427387904 := by
    obtain ⟨fuel, hf⟩ := h3
    rcases open_ints Try.underlying35 Try.underlying3 (by kernel_rfl) hf with ⟨hcs, _⟩ | ⟨x, l, c, zs, hcs, _, hl, hm, hz, hx, hcell, hwf⟩
    · simp [Value.cells] at hcs
      obtain ⟨rfl, rfl, rfl⟩ := hcs
      exact ⟨.inl rfl, by omega⟩
    · simp [Value.cells] at hcs
      obtain ⟨rfl, rfl, rfl⟩ := hcs
      have hd2 := congrArg Prod.fst hx
      simp only at hd2
      have hsz := sized_slice hreach (j := 3) (t := 35) (e := 3) (by rw [Try.params6]; rfl) (by rw [hd2]; rfl) Try.underlying35
      have hrb : reachBytes = 140737488351232 := rfl
      have hzc : zs.length = cap3 := by simpa using hz
      rw [ltBytes3, hrb] at hsz
      simp [lits] at hsz
      refine ⟨?_, by omega⟩
      rcases Nat.eq_zero_or_pos len3 with h | h
      · exact .inl h
      · right
        obtain ⟨sb, so, spot⟩ := x
        have hc0 := hcell 0 (by omega)
        have hspot : spot = none := by simpa [Addr.add] using World.cell?_spot hc0
        subst hspot
        refine ⟨sb, so, fun j => zs.getD j 0, rfl, fun j hj => ?_⟩
        have h1 := hcell j (by omega)
        rw [add_plain] at h1
        exact h1
  obtain ⟨zs, j1, j2, j3, j4⟩ := i0
  have main : Calls Try.prog 6 #[.slice a0 len0 cap0, .int .i64 a1, .int .u8 a2, .slice a3 len3 cap3] W (RetThr W) := by
    by_cases hw : why a1 a2 = 0
    · by_cases hN : len0 ≤ 4096
      · exact thr_law a1 a2 j1 j2 j3 hw hN (by unfold why at hw; split at hw <;> omega) (byte_wf w2) i3.1 i3.2
      · exact thr_no a1 a2 (.inr (by omega)) j4
    · exact thr_no a1 a2 (.inl hw) j4
  clear hA0 hval0
  refine main.mono fun e W' ⟨he, hk⟩ => ?_
  subst he
  have bel := below_of_keeps hk
  exact ⟨_, rfl, _, _, _, [], _, [], hW', trodAll_mk1 (shut_bool Try.underlying4 _), (trodAll_cons_mk (Below.trod ltLaidOut (by kernel_rfl) (of_decide_eq_true (by kernel_rfl)) k0 bel lt0) (trodAll_cons_mk (shut_int Try.underlying3 w1) (trodAll_cons_mk (shut_int Try.underlying5 w2) (trodAll_cons_mk (Below.trod ltLaidOut (by kernel_rfl) (of_decide_eq_true (by kernel_rfl)) k3 bel lt3) trodAll_mk0)))), rfl, bel.frame _, fun h => by cases h⟩

theorem lineThrough_holds : Rows.LineThroughSaid :=
  OpenClaim.holds_of_wide 6 Try.f6 rfl rfl rfl rfl rfl rfl rfl ⟨rfl, rfl, rfl, rfl, rfl⟩ rfl rfl rfl rfl rfl (by kernel_rfl) Try.func6 (by kernel_rfl)
    (of_decide_eq_true (by kernel_rfl)) (by unfold Func.isWrapper; first | (rw [if_pos (by decide +kernel)]; kernel_rfl) | (rw [if_neg (by decide +kernel)]; exact ⟨rfl, rfl⟩))
    (fun os started H enc _ => ltLifted os started H enc)
end Go.Proofs.Ytolnojhepakaoaa
