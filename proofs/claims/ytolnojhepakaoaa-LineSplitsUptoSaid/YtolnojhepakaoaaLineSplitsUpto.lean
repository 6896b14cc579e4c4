/- LineSplits, in the form up to a bulk of 1048576: every Split and Join gives what the document says; what was handed in is as it was, spare room too. The condition: the arguments together hold at most 1048576 values and letters (beyond it the lines together may be longer than Go lets a slice be). -/
import Derived.Test.YtolnojhepakaoaaRows
import Derived.Test.YtolnojhepakaoaaBulk
import Derived.Test.YtolnojhepakaoaaLineSplits
import Derived.WalkKit
import Derived.ProofKit
import Derived.OpenShut
import Derived.JoinedCond
import Derived.ChangeOld
import Derived.Below
import Derived.Deep.Matrix
import Derived.SliceStrings
import Derived.Carry
namespace Go.Proofs.Ytolnojhepakaoaa
open Go.ChangeShapes Go.WideShapes Go.ChangeAt Go.RowKit Go.Deep

theorem lsOwn : ownKnob Try.prog.godebug = none := by kernel_rfl
theorem lsLaidOut : laidOutB Try.prog = true := by kernel_rfl

theorem below_of_keeps {w w' : World} (h : Keeps [] w w') : Below w.heap.size w w' := ⟨h.os, h.tape, h.output, h.size, fun k hk => h.block k hk (by simp)⟩
theorem add_plain {b o : Nat} (j : Nat) : (⟨b, o, none⟩ : Addr).add j = ⟨b, o + j, none⟩ := by unfold Addr.add; split <;> simp_all

theorem byte_wf {n : Int} (h : (Lit.int .u8 n).wf = true) : InByte n := by
  have h2 : (decide (IntKind.u8.min ≤ n) && decide (n ≤ IntKind.u8.max)) = true := h
  rw [Bool.and_eq_true, decide_eq_true_iff, decide_eq_true_iff] at h2
  exact h2

theorem strs_bulk {H : Type} (l : List ByteArray) : ∀ k, k ≤ l.length → Rows.uptoBulkAll (H := H) (strs (l.take k)) = totS (fun i => l.getD i ByteArray.empty) k
  | 0, _ => by simp [strs, Rows.uptoBulkAll, totS]
  | k + 1, h => by
    have ih := strs_bulk (H := H) l k (by omega)
    have hk : k < l.length := by omega
    have e : l.take (k + 1) = l.take k ++ [l[k]] := by rw [List.take_succ_eq_append_getElem hk]
    have e2 : l.getD k ByteArray.empty = l[k] := by simp [List.getD, hk]
    rw [e]
    unfold strs at ih ⊢
    rw [List.map_append, bulks.append, ih]
    show _ + Rows.uptoBulkAll [DataW.lit (Lit.string l[k].data.toList)] = totS _ k + ((l.getD k ByteArray.empty).size + 1)
    rw [e2]
    simp only [Rows.uptoBulkAll, bulks.string_eq, Array.length_toList]
    rfl

set_option maxRecDepth 100000 in
theorem lsContract (H : Type) (enc : TypeId × Value → H) (W : World) (base : Nat) (args : Array Value) (ds gs : List (DataW H)) (before : List MemPlace)
    (hval0 : ∀ (j : Nat) t v, Try.f3.params[j]? = some t → args[j]? = some v → Value.okWide Try.prog W .any base t v)
    (hW : DataW.Whole enc Try.prog Try.f3.params.toList Rows.lineSplitsSpec.vars false W args.toList ds gs before) (hk : Rows.uptoSmall H (ds ++ gs) = true) :
    Calls Try.prog 3 args W fun e W' => ∃ v, e = .returned v ∧ Rows.lineSplitsSpec.post enc Try.prog Try.f3 false true false false W args v W' := by
  have hval := hval0
  have hW' := hW
  obtain ⟨p, q, hA0, hV, rfl, hfz, hnd⟩ := hW
  have hA : DataW.TrodAll enc Try.prog W 0 (fun _ => true) true Try.f3.params.toList args.toList ds p := hA0
  rw [Try.params3] at hA hval
  obtain ⟨v0, vs0, d0, ds0, p0, q0, hargs, rfl, rfl, h0, r0⟩ := trodAll_cons hA
  obtain ⟨v1, vs1, d1, ds1, p1, q1, rfl, rfl, rfl, h1, r1⟩ := trodAll_cons r0
  obtain ⟨v2, vs2, d2, ds2, p2, q2, rfl, rfl, rfl, h2, r2⟩ := trodAll_cons r1
  obtain ⟨rfl, rfl, rfl⟩ := trodAll_nil r2
  obtain rfl : args = #[v0, v1, v2] := by cases args; simp_all
  obtain ⟨rfl, rfl⟩ := trodVars_none hV
  have hb := bulks.bound hk
  rw [List.append_nil] at hb
  simp only [Rows.uptoBulkAll] at hb
  obtain ⟨a0, len0, cap0, rfl⟩ := okWide_slice Try.underlying22 (hval 0 22 v0 rfl rfl)
  obtain ⟨a1, len1, cap1, rfl⟩ := okWide_slice Try.underlying23 (hval 1 23 v1 rfl rfl)
  obtain ⟨a2, rfl, rfl, rfl, w2⟩ := open_int Try.underlying5 (hval 2 5 v2 rfl rfl) h2
  have k0 := h0
  have k1 := h1
  have lt0 : ∀ x ∈ p0, x.block < W.heap.size := by obtain ⟨m, hm⟩ := k0; exact DataW.trod_lt m _ _ _ hm
  have lt1 : ∀ x ∈ p1, x.block < W.heap.size := by obtain ⟨m, hm⟩ := k1; exact DataW.trod_lt m _ _ _ hm
  have i0 : ∃ zs, DataAt W a0 len0 cap0 zs ∧ zs.length = len0 ∧ (∀ z ∈ zs, InByte z) ∧ len0 ≤ 1048576 := by
    obtain ⟨fuel, hf⟩ := h0
    rcases open_ints Try.underlying22 Try.underlying5 (by kernel_rfl) hf with ⟨hcs, _⟩ | ⟨x, l, c, zs, hcs, _, hl, hm, hz, hx, hcell, hwf⟩
    · simp [Value.cells] at hcs
      obtain ⟨rfl, rfl, rfl⟩ := hcs
      exact ⟨[], .inl ⟨rfl, rfl⟩, rfl, (fun z hz => by cases hz), by omega⟩
    · simp [Value.cells] at hcs
      obtain ⟨rfl, rfl, rfl⟩ := hcs
      have hd0 := congrArg Prod.fst hx
      simp only at hd0
      have hzc : zs.length = cap0 := by simpa using hz
      have hb0 := bulks.slice_le (H := H) (lits .u8 (zs.take len0)) (lits .u8 (zs.drop len0))
      rw [← hd0] at hb0
      have hln : (lits (H := H) .u8 (zs.take len0)).length = len0 := by simp [lits]; omega
      have hby : ∀ z ∈ zs.take len0, InByte z := fun z hz2 => by
        exact byte_wf (hwf z (List.mem_of_mem_take hz2))
      obtain ⟨pb, po, spot⟩ := x
      refine ⟨zs.take len0, ?_, by simp; omega, hby, by omega⟩
      rcases Nat.eq_zero_or_pos len0 with h | h
      · exact .inl ⟨h, by rw [h]; rfl⟩
      · have hc0 := hcell 0 (by omega)
        have hspot : spot = none := by simpa [Addr.add] using World.cell?_spot hc0
        subst hspot
        refine .inr ⟨pb, po, rfl, hl, by simp; omega, fun j hj => ?_, hby⟩
        have h9 := hcell j (by omega)
        rw [add_plain] at h9
        rw [h9]
        simp [List.getD, hj]
  have i1 : ∃ ss, LinesAt W a1 len1 ss ∧ totS ss len1 ≤ 1048576 ∧ len1 ≤ 1048576 := by
    obtain ⟨fuel, hf⟩ := h1
    rcases open_strings Try.underlying23 Try.underlying9 (by kernel_rfl) hf with ⟨hcs, _⟩ | ⟨x, l, c, ss, hcs, _, hl, hm, hz, hx, hcell, _⟩
    · simp [Value.cells] at hcs
      obtain ⟨rfl, rfl, rfl⟩ := hcs
      exact ⟨fun _ => ByteArray.empty, .inl rfl, by simp [totS], by omega⟩
    · simp [Value.cells] at hcs
      obtain ⟨rfl, rfl, rfl⟩ := hcs
      have hd1 := congrArg Prod.fst hx
      simp only at hd1
      have hzc : ss.length = cap1 := by simpa using hz
      have hb1 := bulks.slice_le (H := H) (strs (ss.take len1)) (strs (ss.drop len1))
      have hb2 := bulks.slice_elems (H := H) (strs (ss.take len1)) (strs (ss.drop len1))
      rw [← hd1] at hb1 hb2
      have hb3 := bulks.append (H := H) (strs (ss.take len1)) (strs (ss.drop len1))
      have hln : (strs (H := H) (ss.take len1)).length = len1 := by simp [strs]; omega
      have hst := strs_bulk (H := H) ss len1 (by omega)
      refine ⟨fun i => ss.getD i ByteArray.empty, ?_, by omega, by omega⟩
      rcases Nat.eq_zero_or_pos len1 with h | h
      · exact .inl h
      · obtain ⟨pb, po, spot⟩ := x
        have hc0 := hcell 0 (by omega)
        have hspot : spot = none := by simpa [Addr.add] using World.cell?_spot hc0
        subst hspot
        refine .inr ⟨pb, po, rfl, fun i hi => ?_⟩
        have h9 := hcell i (by omega)
        rw [add_plain] at h9
        exact h9
  obtain ⟨zs, i0, hzl, hzb, hN⟩ := i0
  obtain ⟨ss, i1, hT, hM⟩ := i1
  have hs : InByte a2 := byte_wf w2
  clear hA0 hval0 hb
  refine (lineSplits_any a0 len0 cap0 zs a1 len1 cap1 ss a2 W i0 hzl hzb i1 hs (by omega) (by omega) (by omega)).mono fun e W' ⟨he, hkp⟩ => ?_
  subst he
  have bel := below_of_keeps hkp
  exact ⟨_, rfl, _, _, _, [], _, [], hW', trodAll_mk1 (shut_bool Try.underlying4 _), (trodAll_cons_mk (Below.trod lsLaidOut (by kernel_rfl) (of_decide_eq_true (by kernel_rfl)) k0 bel lt0) (trodAll_cons_mk (Below.trod lsLaidOut (by kernel_rfl) (of_decide_eq_true (by kernel_rfl)) k1 bel lt1) (trodAll_cons_mk (shut_int Try.underlying5 w2) trodAll_mk0))), rfl, bel.frame _, fun h => by cases h⟩

set_option maxRecDepth 100000 in
theorem lsLifted (os : Os) (started : os.Started) (H : Type) (enc : TypeId × Value → H) (F : Stop.Interp) :
    ReturnsInHanded {} Try.checked os 3 .any ((Rows.OpenSpec.upto Rows.lineSplitsSpec).pre6 enc Try.prog Try.f3 Rows.lineSplitsUptoRow.domain false) (((Rows.OpenSpec.upto Rows.lineSplitsSpec).at F).post enc Try.prog Try.f3 false true false false) := by
  refine returnsInHanded_of_cond (C := Try.checked) (s := Rows.OpenSpec.upto Rows.lineSplitsSpec) (k := Rows.uptoSmall) rfl lsOwn started (by kernel_rfl) Try.func3
    (OpenSpec.witness (enc := enc) (C := Try.checked) (s := Rows.OpenSpec.upto Rows.lineSplitsSpec) (k := Rows.uptoSmall) rfl false ⟨#[], #[.slice none 0 0, .slice none 0 0, .int .u8 0], []⟩ 8 (by kernel_rfl) (by kernel_rfl) (by kernel_rfl)
      (x := ([.nil, .nil, .lit (.int .u8 0)], [], [])) (by kernel_rfl) rfl (by kernel_rfl)) ?_
  intro W base args ds gs before hval hW _ hk _
  exact lsContract H enc W base args ds gs before hval hW hk

theorem lineSplits_holds : Rows.LineSplitsUptoSaid :=
  OpenClaim.holds_of_cond 3 Try.f3 rfl rfl rfl rfl rfl rfl rfl ⟨rfl, rfl, rfl, rfl, rfl⟩ rfl rfl rfl rfl rfl (by kernel_rfl) Try.func3 (by kernel_rfl)
    (of_decide_eq_true (by kernel_rfl)) (by unfold Func.isWrapper; first | (rw [if_pos (by decide +kernel)]; kernel_rfl) | (rw [if_neg (by decide +kernel)]; exact ⟨rfl, rfl⟩))
    (fun os started H enc _ F => lsLifted os started H enc F)
end Go.Proofs.Ytolnojhepakaoaa
