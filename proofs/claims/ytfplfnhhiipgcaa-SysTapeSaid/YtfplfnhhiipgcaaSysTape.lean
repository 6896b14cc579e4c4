/- SysTape: whatever pieces are written to a file, by one File or by two one behind the other, are read back, whatever the sizes of the Reads and however short they are; this is what Look tells, and Used counts just these bytes. For every input; nothing is asked beside what the row itself says. -/
import Derived.Test.YtfplfnhhiipgcaaRows
import Derived.Test.YtfplfnhhiipgcaaTapeWalks
import Derived.WalkKit
import Derived.ProofKit
import Derived.OpenShut
import Derived.ChangeOld
import Derived.Below
import Derived.Deep.Matrix
import Derived.SizedLaws
namespace Go.Proofs.Ytfplfnhhiipgcaa
open Go.ChangeShapes Go.WideShapes Go.ChangeAt Go.RowKit Go.Deep

theorem tapeOwn : ownKnob Try.prog.godebug = none := by kernel_rfl
theorem tapeLaidOut : laidOutB Try.prog = true := by kernel_rfl
theorem tapeBytes36 : Try.prog.bytesOf 36 = 24 := by kernel_rfl
theorem tapeBytes5 : Try.prog.bytesOf 5 = 1 := by kernel_rfl
theorem tapeBytes3 : Try.prog.bytesOf 3 = 8 := by kernel_rfl

/-- What the walk is told of the pieces. -/
def IsPieces (w : World) (a : Option Addr) (N : Nat) : Prop :=
  N = 0 ∨ ∃ (pb po : Nat) (A : Nat → Option Addr) (L Cc : Nat → Nat) (X : Nat → List Int), a = some ⟨pb, po, none⟩ ∧ N ≤ 5864062014805 ∧ ∀ i, i < N → w.cell? ⟨pb, po + i, none⟩ = some (.slice (A i) (L i) (Cc i)) ∧ PieceAt w (A i) (L i) (Cc i) (X i)
/-- What the walk is told of the list of short reads. -/
def IsShorts (w : World) (a : Option Addr) (n : Nat) : Prop :=
  n = 0 ∨ ∃ (sb so : Nat) (z : Nat → Int), a = some ⟨sb, so, none⟩ ∧ n ≤ 4611686018427387904 ∧ ∀ j, j < n → w.cell? ⟨sb, so + j, none⟩ = some (.int .i64 (z j))

theorem tape_any (a0 : Option Addr) (N C : Nat) (half : Int) (a2 : Option Addr) (n c : Nat) (most : Int) (w : World) (h0 : IsPieces w a0 N) (h2 : IsShorts w a2 n) :
    Calls Try.prog 3 #[.slice a0 N C, .int .i64 half, .slice a2 n c, .int .i64 most] w fun e w' => e = .returned (.bool true) ∧ Keeps [] w w' := by
  rcases h0 with rfl | ⟨pb, po, A, L, Cc, X, rfl, hN, hp⟩
  · rcases h2 with rfl | ⟨sb, so, z, rfl, hn, hs⟩
    · exact tape_none_nil a0 C c a2 half most w
    · exact tape_none a0 C sb so n c half most z w hs hn
  · rcases h2 with rfl | ⟨sb, so, z, rfl, hn, hs⟩
    · exact tape_some_nil pb po N C c a2 A L Cc X half most w hN hp
    · exact tape_some pb po N C sb so n c A L Cc X half most z w hN hp hs hn

theorem below_of_keeps {w w' : World} (h : Keeps [] w w') : Below w.heap.size w w' := ⟨h.os, h.tape, h.output, h.size, fun k hk => h.block k hk (by simp)⟩
theorem add_plain {b o : Nat} (j : Nat) : (⟨b, o, none⟩ : Addr).add j = ⟨b, o + j, none⟩ := by unfold Addr.add; split <;> simp_all

/-- The pieces' own lengths, out of the form's reach. -/
theorem weights_elem {H : Type} {P : Program} {e : TypeId} : ∀ {l : List (DataW H)} {d : DataW H}, d ∈ l → ∀ m ∈ d.weights P e, m ∈ DataW.weightsAll P e l
  | x :: r, d, hd, m, hm => by
    simp only [DataW.weightsAll, List.mem_append]
    rcases List.mem_cons.1 hd with rfl | h
    · exact .inl hm
    · exact .inr (weights_elem h m hm)

set_option maxRecDepth 100000 in
theorem tapeLifted (os : Os) (started : os.Started) (H : Type) (enc : TypeId × Value → H) :
    ReturnsInHanded {} Try.checked os 3 .any (Rows.sysTapeSpec.pre6 enc Try.prog Try.f3 Rows.sysTapeRow.domain false) (Rows.sysTapeSpec.post enc Try.prog Try.f3 false true false false) := by
  refine returnsInHanded_of_change_sized (C := Try.checked) tapeOwn started (by kernel_rfl) Try.func3
    (ChangeSpec.witness6 (enc := enc) (C := Try.checked) false ⟨#[], #[.slice none 0 0, .int .i64 0, .slice none 0 0, .int .i64 0], []⟩ 8 (by kernel_rfl) (by kernel_rfl) (by kernel_rfl) (by kernel_rfl)) ?_
  intro W base args ds gs before hval0 hW hcnd hreach _
  have hval : ∀ (j : Nat) t v, Try.f3.params[j]? = some t → args[j]? = some v → Value.okWide Try.prog W .any base t v := hval0
  have hW' := hW
  obtain ⟨p, q, hA0, hV, rfl, hfz, hnd⟩ := hW
  have hA : DataW.TrodAll enc Try.prog W 0 (fun _ => true) true Try.f3.params.toList args.toList ds p := hA0
  rw [Try.params3] at hA hval
  obtain ⟨v0, vs0, d0, ds0, p0, q0, hargs, rfl, rfl, h0, r0⟩ := trodAll_cons hA
  obtain ⟨v1, vs1, d1, ds1, p1, q1, rfl, rfl, rfl, h1, r1⟩ := trodAll_cons r0
  obtain ⟨v2, vs2, d2, ds2, p2, q2, rfl, rfl, rfl, h2, r2⟩ := trodAll_cons r1
  obtain ⟨v3, vs3, d3, ds3, p3, q3, rfl, rfl, rfl, h3, r3⟩ := trodAll_cons r2
  obtain ⟨rfl, rfl, rfl⟩ := trodAll_nil r3
  obtain rfl : args = #[v0, v1, v2, v3] := by cases args; simp_all
  obtain ⟨rfl, rfl⟩ := trodVars_none hV
  obtain ⟨a0, len0, cap0, rfl⟩ := okWide_slice Try.underlying22 (hval 0 22 v0 rfl rfl)
  obtain ⟨a1, rfl, rfl, rfl, w1⟩ := open_int Try.underlying3 (hval 1 3 v1 rfl rfl) h1
  obtain ⟨a2, len2, cap2, rfl⟩ := okWide_slice Try.underlying23 (hval 2 23 v2 rfl rfl)
  obtain ⟨a3, rfl, rfl, rfl, w3⟩ := open_int Try.underlying3 (hval 3 3 v3 rfl rfl) h3
  have k0 := h0
  have k2 := h2
  have lt0 : ∀ x ∈ p0, x.block < W.heap.size := by obtain ⟨m, hm⟩ := k0; exact DataW.trod_lt m _ _ _ hm
  have lt2 : ∀ x ∈ p2, x.block < W.heap.size := by obtain ⟨m, hm⟩ := k2; exact DataW.trod_lt m _ _ _ hm
  have i0 : IsPieces W a0 len0 := by
    obtain ⟨fuel, hf⟩ := h0
    rcases open_int_rows Try.underlying22 Try.underlying36 Try.underlying5 (by kernel_rfl) (by kernel_rfl) hf with ⟨hcs, _⟩ | ⟨x, l, c, A, L, C, Z, hcs, _, hl, hm, hx, hrows⟩
    · simp [Value.cells] at hcs
      obtain ⟨rfl, rfl, rfl⟩ := hcs
      exact .inl rfl
    · simp [Value.cells] at hcs
      obtain ⟨rfl, rfl, rfl⟩ := hcs
      rcases Nat.eq_zero_or_pos len0 with h | h
      · exact .inl h
      · right
        have hd0 := congrArg Prod.fst hx
        simp only at hd0
        have hsz := sized_slice hreach (j := 0) (t := 22) (e := 36) (by rw [Try.params3]; rfl) (by rw [hd0]; rfl) Try.underlying22
        have hinner : ∀ r, r < len0 → C r ≤ reachBytes := fun r hr => by
          obtain ⟨_, _, _, hZ, _, hnone, _⟩ := hrows r (by omega)
          cases hA' : A r with
          | none => rw [hnone hA']; exact Nat.zero_le _
          | some a' =>
            have hin : (intRow (H := H) .u8 (A r) (L r) (Z r)) ∈ (List.range len0).map (fun r => intRow (H := H) .u8 (A r) (L r) (Z r)) := List.mem_map.2 ⟨r, List.mem_range.2 hr, rfl⟩
            have hw : C r ∈ (intRow (H := H) .u8 (A r) (L r) (Z r)).weights Try.prog 36 := by
              rw [hA']
              simp only [intRow, DataW.weights, Try.underlying36]
              refine List.mem_cons.2 (.inl ?_)
              rw [tapeBytes5, Nat.mul_one]
              simp [lits, hZ]
              omega
            have h1 := weights_elem hin _ hw
            have h2 : C r ∈ d0.weights Try.prog 22 := by
              rw [hd0]
              simp only [DataW.weights, Try.underlying22]
              exact List.mem_cons.2 (.inr (List.mem_append.2 (.inl h1)))
            have h3 := List.all_eq_true.1 hreach _ (DataW.weights_mem_each (j := 0) (t := 22) (d := d0) (by rw [Try.params3]; rfl) rfl _ h2)
            simpa using h3
        have hrb : reachBytes = 140737488351232 := rfl
        have hb36 : Try.checked.prog.bytesOf 36 = 24 := tapeBytes36
        rw [hb36, hrb] at hsz
        simp only [List.length_map, List.length_range] at hsz
        obtain ⟨pb, po, spot⟩ := x
        have hc0 := (hrows 0 (by omega)).1
        have hspot : spot = none := by simpa [Addr.add] using World.cell?_spot hc0
        subst hspot
        refine ⟨pb, po, A, L, C, fun r => (Z r).take (L r), rfl, by omega, fun r hr => ?_⟩
        obtain ⟨g1, g2, g3, g4, _, g6, g7⟩ := hrows r (by omega)
        rw [add_plain] at g1
        have g8 := hinner r hr
        rw [hrb] at g8
        refine ⟨g1, g2, by omega, by simp; omega, g6, fun a' ha' j hj => ?_⟩
        have g9 := (g7 a' ha').2 j (by omega)
        rw [g9]
        simp [List.getD, hj]
  have i2 : IsShorts W a2 len2 := by
    obtain ⟨fuel, hf⟩ := h2
    rcases open_ints Try.underlying23 Try.underlying3 (by kernel_rfl) hf with ⟨hcs, _⟩ | ⟨x, l, c, zs, hcs, _, hl, hm, hz, hx, hcell, _⟩
    · simp [Value.cells] at hcs
      obtain ⟨rfl, rfl, rfl⟩ := hcs
      exact .inl rfl
    · simp [Value.cells] at hcs
      obtain ⟨rfl, rfl, rfl⟩ := hcs
      rcases Nat.eq_zero_or_pos len2 with h | h
      · exact .inl h
      · right
        have hd2 := congrArg Prod.fst hx
        simp only at hd2
        have hsz := sized_slice hreach (j := 2) (t := 23) (e := 3) (by rw [Try.params3]; rfl) (by rw [hd2]; rfl) Try.underlying23
        have hrb : reachBytes = 140737488351232 := rfl
        have hb3 : Try.checked.prog.bytesOf 3 = 8 := tapeBytes3
        have hzc : zs.length = cap2 := by simpa using hz
        rw [hb3, hrb] at hsz
        simp [lits] at hsz
        obtain ⟨sb, so, spot⟩ := x
        have hc0 := hcell 0 (by omega)
        have hspot : spot = none := by simpa [Addr.add] using World.cell?_spot hc0
        subst hspot
        refine ⟨sb, so, fun j => zs.getD j 0, rfl, by omega, fun j hj => ?_⟩
        have h1 := hcell j (by omega)
        rw [add_plain] at h1
        exact h1
  clear hA0 hval0
  refine (tape_any a0 len0 cap0 a1 a2 len2 cap2 a3 W i0 i2).mono fun e W' ⟨he, hk⟩ => ?_
  subst he
  have bel := below_of_keeps hk
  exact ⟨_, rfl, _, _, _, [], _, [], hW', trodAll_mk1 (shut_bool Try.underlying4 _), (trodAll_cons_mk (Below.trod tapeLaidOut (by kernel_rfl) (of_decide_eq_true (by kernel_rfl)) k0 bel lt0) (trodAll_cons_mk (shut_int Try.underlying3 w1) (trodAll_cons_mk (Below.trod tapeLaidOut (by kernel_rfl) (of_decide_eq_true (by kernel_rfl)) k2 bel lt2) (trodAll_cons_mk (shut_int Try.underlying3 w3) trodAll_mk0)))), rfl, bel.frame _, fun h => by cases h⟩

theorem tapeOver : Rows.sysTapeRow.holds Try.pinned (OpenSpec.ofChange Rows.sysTapeSpec) :=
  OpenClaim.holds_of_wide 3 Try.f3 rfl rfl rfl rfl rfl rfl rfl ⟨rfl, rfl, rfl, rfl, rfl⟩ rfl rfl rfl rfl rfl (by kernel_rfl) Try.func3 (by kernel_rfl)
    (of_decide_eq_true (by kernel_rfl)) (by unfold Func.isWrapper; first | (rw [if_pos (by decide +kernel)]; kernel_rfl) | (rw [if_neg (by decide +kernel)]; exact ⟨rfl, rfl⟩))
    (fun os started H enc _ => tapeLifted os started H enc)

theorem sysTape_holds : Rows.SysTapeSaid := tapeOver
end Go.Proofs.Ytfplfnhhiipgcaa
