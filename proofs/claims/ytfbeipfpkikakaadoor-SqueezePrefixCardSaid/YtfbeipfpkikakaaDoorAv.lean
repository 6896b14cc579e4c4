/- Forty bytes 97: what is counted, which lengths, how many bits. No walk. Forty bytes 97: their counts are such as Lengths takes; a body unpacked. No walk. -/
import Derived.Test.YtfbeipfpkikakaaDoorFi
import Derived.Test.YtfbeipfpkikakaaDoorUn
namespace Go.Proofs.YtfbeipfpkikakaaDoor
section
open Go.RowKit

set_option maxRecDepth 100000
def aL : List UInt8 := List.replicate 40 97
def aS0 : List Suf := List.replicate 40 (97, 0, 0)
def aS1 : List Suf := [(97, 0, 0), (266, 4, 12), (272, 0, 0)]
theorem aS0_eq : symsR aL 0 [] ++ lits aL (posR 0 []) (aL.length - posR 0 []) = aS0 := by kernel_rfl
theorem aS1_eq : symsR aL 0 [⟨1, 1, 39⟩] ++ lits aL (posR 0 [⟨1, 1, 39⟩]) (aL.length - posR 0 [⟨1, 1, 39⟩]) = aS1 := by kernel_rfl
theorem com00 : comN (partL (cntS aS0) 0 272) = [97] := by kernel_rfl
theorem com01 : comN (partL (cntS aS0) 272 30) = [] := by kernel_rfl
theorem com10 : comN (partL (cntS aS1) 0 272) = [97, 266] := by kernel_rfl
theorem com11 : comN (partL (cntS aS1) 272 30) = [0] := by kernel_rfl
def aF0 : Nat → Nat := fun j => if j = 97 then 1 else 0
def aF1 : Nat → Nat := fun j => if j = 97 then 1 else if j = 266 then 1 else if j = 272 then 1 else 0
theorem ch2 : (List.range 15).map (chF [1, 1]) = [2, 0, 0, 0, 0, 0, 0, 0, 0, 0, 0, 0, 0, 0, 0] := by kernel_rfl
theorem ch0 : (List.range 15).map (chF []) = [0, 0, 0, 0, 0, 0, 0, 0, 0, 0, 0, 0, 0, 0, 0] := by kernel_rfl
theorem lvs10 : lvsN (partL (cntS aS1) 0 272) = [1, 1] := by unfold lvsN; rw [com10]; kernel_rfl
theorem lvs01 : lvsN (partL (cntS aS0) 272 30) = [] := by unfold lvsN; rw [com01]; rfl
theorem lnK_all (cs : List Nat) (k : Nat) (s : Nat) : lnK cs k s = ((List.range k).map fun i => ((comN cs).take (chF (lvsN cs) i)).count s).sum := by
  induction k with
  | zero => rfl
  | succ k ih =>
    rw [List.range_succ, List.map_append, List.sum_append, ← ih]
    simp [lnK]
theorem map_ch {L : List Nat} {r : List Nat} (h : (List.range 15).map (chF L) = r) (f : Nat → Nat) : ((List.range 15).map fun i => f (chF L i)) = r.map f := by
  rw [← h, List.map_map]; rfl
theorem len00 : lensN (partL (cntS aS0) 0 272) = upd (fun _ => 0) 97 1 := by unfold lensN; rw [com00]; rfl
theorem len11 : lensN (partL (cntS aS1) 272 30) = upd (fun _ => 0) 0 1 := by unfold lensN; rw [com11]; rfl
theorem len01 : lensN (partL (cntS aS0) 272 30) = fun _ => 0 := by
  unfold lensN
  rw [if_neg (by rw [com01]; decide)]
  funext s
  rw [lnK_all, lvs01, com01, map_ch ch0 fun t => (List.take t []).count s]
  simp
theorem len10 : lensN (partL (cntS aS1) 0 272) = fun s => [97, 266].count s := by
  unfold lensN
  rw [if_neg (by rw [com10]; decide)]
  funext s
  rw [lnK_all, lvs10, com10, map_ch ch2 fun t => (List.take t [97, 266]).count s]
  simp
theorem best0 : bestN (cntS aS0) = aF0 := by
  unfold bestN
  rw [len00, len01]
  funext j
  unfold overF upd aF0
  dsimp only
  (repeat' split) <;> first | rfl | omega
theorem best1 : bestN (cntS aS1) = aF1 := by
  unfold bestN
  rw [len10, len11]
  funext j
  unfold overF upd aF1
  dsimp only
  simp only [List.count_cons, List.count_nil, beq_iff_eq]
  (repeat' split) <;> first | rfl | omega
theorem bits0 : bitsN aS0 aF0 = 208 := by kernel_rfl
theorem bits1 : bitsN aS1 aF1 = 199 := by kernel_rfl
theorem aF0_lt (j : Nat) : aF0 j < 16 := by unfold aF0; split <;> omega
theorem aF1_lt (j : Nat) : aF1 j < 16 := by unfold aF1; (repeat' split) <;> omega
theorem aF1_code : isCode (cnt (partL aF1 0 272)) = true := by kernel_rfl
def aBody : List UInt8 := bodyB aF1 aS1
theorem aBody_len : aBody.length = 25 := by kernel_rfl
end

section
open Go.RowKit

set_option maxRecDepth 100000
def lvOk (L : List Nat) (n : Nat) : Bool := (List.range 15).all fun i => decide ((lvN L i).length ≤ 5000) && (lvN L i).all (fun p => decide (p.1 ≤ 1152921504606846976)) && decide (takeN L i ≤ (lvN L i).length) && decide (chF L i ≤ n)
theorem lvOk2 : lvOk [1, 1] 2 = true := by kernel_rfl
theorem lvOk0 : lvOk [] 0 = true := by kernel_rfl
theorem lvOk_use {L : List Nat} {n : Nat} (h : lvOk L n = true) (i : Nat) (hi : i < 15) : ((lvN L i).length ≤ 5000 ∧ (∀ p ∈ lvN L i, p.1 ≤ 1152921504606846976) ∧ takeN L i ≤ (lvN L i).length) ∧ chF L i ≤ n := by
  unfold lvOk at h
  have := List.all_eq_true.1 h i (List.mem_range.2 hi)
  simp only [Bool.and_eq_true, decide_eq_true_eq, List.all_eq_true] at this
  exact ⟨⟨this.1.1.1, this.1.1.2, this.1.2⟩, this.2⟩
theorem cnt_small (S : List Suf) (h : S.length ≤ 1000000) (o n : Nat) : ∀ c ∈ partL (cntS S) o n, c ≤ 1099511627776 := by
  intro c hc
  unfold partL at hc
  obtain ⟨j, _, rfl⟩ := List.mem_map.1 hc
  have := cntS_le S (o + j)
  omega
theorem ok_one {cs : List Nat} {x : Nat} (h : comN cs = [x]) (hx : x < cs.length) (hn : cs.length ≤ 512) (hc : ∀ c ∈ cs, c ≤ 1099511627776) : LenOk cs :=
  ⟨hn, hc, by rw [h]; exact ⟨fun y hy => by rw [List.mem_singleton.1 hy]; exact hx, fun j hj => by simp at hj⟩, by rw [h]; simp, fun e => absurd (by rw [h]; rfl) e, fun e => absurd (by rw [h]; rfl) e⟩
theorem ok_many {cs : List Nat} {xs L : List Nat} (h : comN cs = xs) (hL : lvsN cs = L) (ho : InOrder cs xs) (hl : xs.length ≤ 19) (hn : cs.length ≤ 512) (hc : ∀ c ∈ cs, c ≤ 1099511627776) (hk : lvOk L xs.length = true) : LenOk cs :=
  ⟨hn, hc, by rw [h]; exact ho, by rw [h]; exact hl, fun _ i hi => by rw [hL]; exact (lvOk_use hk i hi).1, fun _ i hi => by rw [hL, h]; exact (lvOk_use hk i hi).2⟩
theorem ok00 : LenOk (partL (cntS aS0) 0 272) := ok_one com00 (by rw [partL_len]; omega) (by rw [partL_len]; omega) (cnt_small aS0 (by decide) _ _)
theorem ok11 : LenOk (partL (cntS aS1) 272 30) := ok_one com11 (by rw [partL_len]; omega) (by rw [partL_len]; omega) (cnt_small aS1 (by decide) _ _)
theorem ok01 : LenOk (partL (cntS aS0) 272 30) := ok_many com01 lvs01 ⟨fun y hy => (by cases hy), fun j hj => (by simp at hj)⟩ (by decide) (by rw [partL_len]; omega) (cnt_small aS0 (by decide) _ _) lvOk0
theorem ok10 : LenOk (partL (cntS aS1) 0 272) := ok_many com10 lvs10 ⟨fun y hy => (by
    rw [partL_len]
    simp at hy
    omega), fun j hj => (by
    have : j = 0 := by simp at hj; omega
    subst this
    have e : decide ((partL (cntS aS1) 0 272).getD 97 0 ≤ (partL (cntS aS1) 0 272).getD 266 0) = true := by kernel_rfl
    exact of_decide_eq_true e)⟩ (by decide) (by rw [partL_len]; omega) (cnt_small aS1 (by decide) _ _) lvOk2
theorem sufOk1 : SufOk (lenS 39) ∧ SufOk (distS 1) := by
  constructor
  · have e : lenS 39 = (266, 4, 12) := by kernel_rfl
    rw [e]; exact ⟨by decide, by decide, by decide⟩
  · have e : distS 1 = (272, 0, 0) := by kernel_rfl
    rw [e]; exact ⟨by decide, by decide, by decide⟩
theorem aReps0 : RepsOk aL 0 [] := Nat.zero_le _
theorem aReps1 : RepsOk aL 0 [⟨1, 1, 39⟩] := ⟨by decide, by decide, by decide, ⟨by decide, by decide, by decide, by decide, sufOk1.1, sufOk1.2⟩, (show 1 + 39 ≤ aL.length by decide)⟩
/-! The body, unpacked. -/
theorem aDone : doneK aBody 0 24 = 302 := by kernel_rfl
theorem aCode1 : isCode (cnt (firstL aBody 0 24)) = true := by kernel_rfl
theorem aCode2 : isCode (cnt (secondL aBody 0 24)) = true := by kernel_rfl
def aD1 : Dcd := dcd1 aBody 0 24
def aD2 : Dcd := dcd2 aBody 0 24
def symbOk (l : List UInt8) (D : Dcd) (a s i : Nat) : Bool :=
  decide ((aheadN l a : Int) < D.en 1) && decide (a + 1 ≤ 8 * l.length) && decide (D.sh 1 + ((aheadN l a / 2 ^ (15 - 1) : Nat) : Int) = i) && decide (i < 272) && decide (s = D.sy i) && decide (-100000 ≤ D.sh 1) && decide (D.sh 1 ≤ 100000) && decide (s < 65536)
theorem symb_of {l : List UInt8} {D : Dcd} {a s i : Nat} (h : symbOk l D a s i = true) : Symb l D a 1 s := by
  unfold symbOk at h
  simp only [Bool.and_eq_true, decide_eq_true_eq] at h
  obtain ⟨⟨⟨⟨⟨⟨⟨h1, h2⟩, h3⟩, h4⟩, h5⟩, h6⟩, h7⟩, h8⟩ := h
  exact ⟨by omega, fun j a b => by omega, h1, h2, ⟨i, h3, h4, h5⟩, ⟨h6, h7⟩, h8⟩
theorem aSy1 : symbOk aBody aD1 192 97 0 = true := by kernel_rfl
theorem aSy2 : symbOk aBody aD1 193 266 1 = true := by kernel_rfl
theorem aSy3 : symbOk aBody aD2 198 0 0 = true := by kernel_rfl
theorem aN1 : 39 = basesN.getD 10 0 + aheadN aBody (193 + 1) / 2 ^ (15 - lbits 10) := by kernel_rfl
theorem aN2 : 1 = dbase 0 + aheadN aBody (193 + 1 + lbits 10 + 1) / 2 ^ (15 - dbits 0) := by kernel_rfl
theorem aB : backs [97] 1 39 = aL := by kernel_rfl
theorem lb10 : lbits 10 = 4 := by kernel_rfl
theorem db0 : dbits 0 = 0 := by kernel_rfl
theorem aDec : Dec aBody aD1 aD2 40 (8 * 24) [] 199 aL := by
  refine .lit (m := 1) (s := 97) (by decide) (symb_of aSy1) (by decide) ?_
  have e : ([] : List UInt8) ++ [UInt8.ofNat 97] = [97] := rfl
  rw [e]
  refine .back (m := 1) (k := 10) (m2 := 1) (t := 0) (n := 39) (d := 1) (by decide) (symb_of aSy2) (by decide) aN1 (by rw [lb10, aBody_len]; decide) (by rw [lb10]; exact symb_of aSy3) (by decide) aN2 (by rw [lb10, db0, aBody_len]; decide) (by decide) (by decide) (by decide) ?_
  rw [aB, lb10, db0]
  exact .done (by kernel_rfl)
theorem aEnd : 8 * aBody.length - 199 < 8 := by rw [aBody_len]; decide
theorem aZero : aheadN aBody 199 = 0 := by kernel_rfl
end
end Go.Proofs.YtfbeipfpkikakaaDoor
