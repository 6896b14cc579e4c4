/- The program's firstEntry. -/
import Derived.Test.YtlbekgcfafofdaaDoorRi
namespace Go.Proofs.YtlbekgcfafofdaaDoor
open Go.RowKit
set_option maxRecDepth 100000

def zE : Ent := ⟨0, 0, [], 0, 0, 0, 0, []⟩
def feL (b : List UInt8) : Nat := valB (seg b 5 2)
def feB (b : List UInt8) : List UInt8 := seg b 11 (feL b)
/-- What is wrong with the first entry of these bytes, as the program tells it. -/
def feE (b : List UInt8) (n : Nat) : Nat :=
  if b.length = 0 then 0 else if valB (b.take 1) ≠ 229 then 112 else if b.length < 11 then 71
  else if valB (seg b 7 4) ≠ sumN (b.take 7) then 112 else if valB (seg b 1 4) ≠ n then 112
  else if b.length < 15 + feL b then 71
  else if valB (seg b (11 + feL b) 4) ≠ sumN (feB b) then 112 else if okE (feB b) = false then 112 else if decide ((parX (feB b)).k = 1) ≠ decide (n = 0) then 112 else 0
def feG (b : List UInt8) (n : Nat) : Bool := decide (b.length ≠ 0) && decide (feE b n = 0)
def feX (b : List UInt8) (n : Nat) : Ent := if feG b n then parX (feB b) else zE
def feN (b : List UInt8) (n : Nat) : Nat := if feG b n then 15 + feL b else 0
def FeP (w : World) (b : List UInt8) (n : Nat) (e : Ending) (w' : World) : Prop :=
  ∃ u, e = .returned (.tuple #[eA (feX b n) u, .int .i64 (feN b n : Nat), .int .i64 (feE b n : Nat)]) ∧ OwnIB w' w.heap.size u (feX b n).inn ∧ Below w.heap.size w w'
theorem fe_zero {w w1 : World} {b : List UInt8} {n er : Nat} (he : feE b n = er) (hg : b.length = 0 ∨ er ≠ 0) (B : Below w.heap.size w w1) :
    FeP w b n (.returned (.tuple #[.agg #[.int .u8 0, .int .u64 0, .string ⟨#[]⟩, .int .i64 0, .int .i64 0, .int .i64 0, .int .u32 0, .slice none 0 0], .int .i64 0, .int .i64 (er : Int)])) w1 := by
  have g : feG b n = false := by
    unfold feG
    rcases hg with h | h
    · simp [h]
    · rw [he]; simp [h]
  have hX : feX b n = zE := by unfold feX; rw [g]; rfl
  have hN : feN b n = 0 := by unfold feN; rw [g]; rfl
  exact ⟨.slice none 0 0, by rw [hX, hN, he]; rfl, by rw [hX]; exact OwnIB.nil _ _ B.size, B⟩
theorem fe_good {w w1 : World} {b : List UInt8} {n L : Nat} {X : Ent} {u : Value} {y : Int} (hL : feL b = L) (hX : parX (feB b) = X) (h0 : ¬ b.length = 0) (he : feE b n = 0) (hy : y = 15 + (L : Int)) (O : OwnIB w1 w.heap.size u X.inn) (B : Below w.heap.size w w1) :
    FeP w b n (.returned (.tuple #[eA X u, .int .i64 y, .int .i64 0])) w1 := by
  have g : feG b n = true := by unfold feG; rw [he]; simp [h0]
  have hX' : feX b n = X := by unfold feX; rw [g]; exact hX
  have hN : feN b n = 15 + L := by unfold feN; rw [g, hL]; rfl
  exact ⟨u, by rw [hX', hN, he, hy]; rfl, by rw [hX']; exact O, B⟩
theorem ent_end28 {K : Ending → World → Prop} {a : Act} {W : World} {p : Nat} {x0 x1 x2 x3 x4 x5 x6 x7 y z : Value} (ha : a.tmps.getD 4 undef = .pointer (some ⟨p, 0, none⟩)) (hy : a.tmps.getD 5 undef = y) (hz : a.tmps.getD 6 undef = z) (hd : a.defers = []) (h : CellsAt W p [x0, x1, x2, x3, x4, x5, x6, x7]) (hK : K (.returned (.tuple #[.agg #[x0, x1, x2, x3, x4, x5, x6, x7], y, z])) W) : bodyPost Tryd.prog Tryd.f28 K Exit.ret a W := by
  have ha2 : a.tmps[4]?.getD undef = .pointer (some ⟨p, 0, none⟩) := by simpa using ha
  have hy2 : a.tmps[5]?.getD undef = y := by simpa using hy
  have hz2 : a.tmps[6]?.getD undef = z := by simpa using hz
  have e0 := h.cell 0 _ rfl
  have e1 := h.cell 1 _ rfl
  have e2 := h.cell 2 _ rfl
  have e3 := h.cell 3 _ rfl
  have e4 := h.cell 4 _ rfl
  have e5 := h.cell 5 _ rfl
  have e6 := h.cell 6 _ rfl
  have e7 := h.cell 7 _ rfl
  exact bodyPost_ret (v := .tuple #[.agg #[x0, x1, x2, x3, x4, x5, x6, x7], y, z]) (by simp [results, Tryd.results28, go_sem, ha2, hy2, hz2, e0, e1, e2, e3, e4, e5, e6, e7]) hd hK
theorem valB_one (y : UInt8) : valB [y] = y.toNat := by simp [valB]
theorem SlC.seg {w : World} {bb off m c : Nat} {l : List UInt8} (h : SlC w (.slice (some ⟨bb, off, none⟩) m c) l) (lo n : Nat) (hn : lo + n ≤ l.length) (hc : lo < c) : SlC w (.slice (some ⟨bb, off + lo, none⟩) n (c - lo)) (seg l lo n) := by
  have h1 := h.drop lo (by omega)
  unfold dropV at h1
  rw [if_neg (show ¬ c = lo by omega)] at h1
  exact h1.take n (by rw [List.length_drop]; omega)
theorem SlC.lens {w : World} {bb off m c : Nat} {l : List UInt8} (h : SlC w (.slice (some ⟨bb, off, none⟩) m c) l) : m = l.length ∧ m ≤ c ∧ c ≤ 9223372036854775807 ∧ bb < w.heap.size ∧ ∀ j u, l[j]? = some u → w.cell? ⟨bb, off + j, none⟩ = some (.int .u8 u.toNat) := by
  rcases h with ⟨h, _⟩ | ⟨b', off', c', hv, h1, h2, h3, h4⟩
  · cases h
  · injection hv with e1 e2 e3
    injection e1 with e1
    injection e1 with e4 e5
    subst e2 e3 e4 e5
    exact ⟨rfl, h1, h2, h3, h4⟩
set_option maxHeartbeats 2400000 in
theorem first_ok (w : World) (v0 : Value) (b : List UInt8) (n : Nat) (h0 : SlC w v0 b) (hbl : b.length ≤ 140737488355328) (hn : n < 9223372036854775808) (T : Tabs w) : Calls Tryd.prog 28 #[v0, .int .i64 (n : Int)] w (FeP w b n) := by
  have R1 := CellsAt.new w Z8 27
  have B1 : Below w.heap.size w (w.alloc (.cells Z8.toArray 27)) := (inferInstance : Gr w _).h
  have S1 := h0.below B1
  have T1 := T.below B1
  have HBL := Lib.hid hbl
  have HN := Lib.hid hn
  clear hbl hn T h0
  obtain ⟨a0, m0, n0, hv0⟩ : ∃ a m n, v0 = .slice a m n := by rcases S1 with ⟨h, _⟩ | ⟨bb, off, c, h, _⟩ <;> exact ⟨_, _, _, h⟩
  subst hv0
  go_enter Tryd.func28, Tryd.ntmps28
  go_upto_region 1 with fail
  change CellsAt (w.alloc (.cells #[.int .u8 0, .int .u64 0, .string ⟨#[]⟩, .int .i64 0, .int .i64 0, .int .i64 0, .int .u32 0, .slice none 0 0] 27)) _ _ at R1
  change Below _ w (w.alloc (.cells #[.int .u8 0, .int .u64 0, .string ⟨#[]⟩, .int .i64 0, .int .i64 0, .int .i64 0, .int .u32 0, .slice none 0 0] 27)) at B1
  change SlC (w.alloc (.cells #[.int .u8 0, .int .u64 0, .string ⟨#[]⟩, .int .i64 0, .int .i64 0, .int .i64 0, .int .u32 0, .slice none 0 0] 27)) _ _ at S1
  change Tabs (w.alloc (.cells #[.int .u8 0, .int .u64 0, .string ⟨#[]⟩, .int .i64 0, .int .i64 0, .int .i64 0, .int .u32 0, .slice none 0 0] 27)) at T1
  generalize w.alloc (.cells #[.int .u8 0, .int .u64 0, .string ⟨#[]⟩, .int .i64 0, .int .i64 0, .int .i64 0, .int .u32 0, .slice none 0 0] 27) = w1 at *
  have r0 := R1.cell 0 _ rfl
  have f0 := R1.free 0
  have r1 := R1.cell 1 _ rfl
  have f1 := R1.free 1
  have r2 := R1.cell 2 _ rfl
  have f2 := R1.free 2
  have r3 := R1.cell 3 _ rfl
  have f3 := R1.free 3
  have r4 := R1.cell 4 _ rfl
  have f4 := R1.free 4
  have r5 := R1.cell 5 _ rfl
  have f5 := R1.free 5
  have r6 := R1.cell 6 _ rfl
  have f6 := R1.free 6
  have r7 := R1.cell 7 _ rfl
  have f7 := R1.free 7
  have ES := Lib.hid (R1.set8 (.int .u8 0) (.int .u64 0) (.string ⟨#[]⟩) (.int .i64 0) (.int .i64 0) (.int .i64 0) (.int .u32 0) (.slice none 0 0))
  have BS := Lib.hid (below_set8 B1 (Nat.le_refl _) (.int .u8 0) (.int .u64 0) (.string ⟨#[]⟩) (.int .i64 0) (.int .i64 0) (.int .i64 0) (.int .u32 0) (.slice none 0 0))
  have HR := Lib.hid R1
  have HB := Lib.hid B1
  have HT := Lib.hid T1
  clear R1 B1 T1
  by_cases hb0 : b.length = 0
  · obtain rfl : m0 = 0 := by rcases S1 with ⟨h, _⟩ | ⟨bb, off, c, h, _⟩ <;> injection h with _ h2 _ <;> omega
    have HB0 := Lib.hid hb0
    clear S1 hb0
    go_wp2_with fail
    refine ent_end28 (y := .int .i64 0) (z := .int .i64 0) rfl rfl rfl rfl ES.out ?_
    exact fe_zero (er := 0) (by unfold feE; rw [if_pos HB0.out]) (Or.inl HB0.out) BS.out
  · obtain ⟨bb, off, rfl⟩ : ∃ bb off, a0 = some ⟨bb, off, none⟩ := by
      rcases S1 with ⟨_, h⟩ | ⟨bb, off, c, h, _⟩
      · exact absurd (by rw [h]; rfl) hb0
      · injection h with h1 _ _; exact ⟨bb, off, h1⟩
    obtain ⟨hm0, hmc, hc63, hblk, hcell⟩ := S1.lens
    obtain ⟨x, hx0, hx1⟩ : ∃ x : Nat, valB (b.take 1) = x ∧ w1.cell? ⟨bb, off, none⟩ = some (.int .u8 (x : Int)) := by
      cases b with
      | nil => exact absurd rfl hb0
      | cons y l => exact ⟨y.toNat, by simp [valB_one], by have := hcell 0 y rfl; simpa using this⟩
    have HX0 := Lib.hid hx0
    have HC := Lib.hid S1
    clear S1 hx0 hcell
    have hpos : (0 : Int) < (m0 : Int) := by omega
    have hmb := Lib.hid hm0
    have hb0' : ¬ m0 = 0 := by omega
    have HB0 := Lib.hid hb0
    clear hb0 hm0
    by_cases hx : x = 229
    · skip
      have HX : Hid (valB (b.take 1) = 229) := Lib.hid (HX0.out.trans hx)
      subst hx
      clear HX0
      by_cases h11 : m0 < 11
      · have H11 := Lib.hid h11
        go_wp2_with fail
        refine ent_end28 (y := .int .i64 0) (z := .int .i64 71) rfl rfl rfl rfl ES.out ?_
        exact fe_zero (er := 71) (by unfold feE; rw [if_neg HB0.out, if_neg (by rw [HX.out]; omega), if_pos (by have := hmb.out; have := H11.out; omega)]) (Or.inr (by omega)) BS.out
      · have h11' : 11 ≤ m0 := by omega
        have I11 : (11 : Int) ≤ (m0 : Int) := by omega
        clear h11
        have N1 := number_ok _ _ w1.drew (by rw [seg_len (by have := hmb.out; omega)]; omega) ((HC.out.drew).seg 7 4 (by have := hmb.out; omega) (by omega)).sl
        have SU := sum_ok _ _ w1.drew (by rw [List.length_take]; have := HBL.out; omega) ((HC.out.drew).take 7 (by have := hmb.out; omega)).sl (HT.out.below (below_drewN w1 1))
        have N2 := number_ok _ _ w1.drew (by rw [seg_len (by have := hmb.out; omega)]; omega) ((HC.out.drew).seg 1 4 (by have := hmb.out; omega) (by omega)).sl
        have hs := sumN_lt (b.take 7)
        go_upto_region 7 with fail
        rename_i KK hKK
        by_cases hsum : valB (seg b 7 4) = sumN (b.take 7)
        · by_cases hnum : valB (seg b 1 4) = n
          · refine reg7_e (fun _ _ _ _ _ h => h) h11' hmc hs HN.out hsum N1 SU N2 ?_
            intro v29 v30 v31 v32 v33 v34 v35 v36 v37 v38 v39 v40 v41 v42 v43 v44
            refine hKK _ _ ?_
            rw [show decide (valB (seg b 1 4) ≠ n) = false from decide_eq_false (by simpa using hnum)]
            have R2 : CellsAt w1.drew w.heap.size Z8 := HR.out.step (below_drewN w1 1)
            have B2 : Below w.heap.size w w1.drew := HB.out.trans (bdrewB (Below.refl _ _) 1)
            have C2 : SlC w1.drew _ b := HC.out
            have T2 : Tabs w1.drew := HT.out.below (below_drewN w1 1)
            clear r0 f0
            clear r1 f1
            clear r2 f2
            clear r3 f3
            clear r4 f4
            clear r5 f5
            clear r6 f6
            clear r7 f7
            clear hx1 HR HB HC HT ES BS hblk N1 SU N2
            generalize w1.drew = w2 at *
            have r0 := R2.cell 0 _ rfl
            have f0 := R2.free 0
            have r1 := R2.cell 1 _ rfl
            have f1 := R2.free 1
            have r2 := R2.cell 2 _ rfl
            have f2 := R2.free 2
            have r3 := R2.cell 3 _ rfl
            have f3 := R2.free 3
            have r4 := R2.cell 4 _ rfl
            have f4 := R2.free 4
            have r5 := R2.cell 5 _ rfl
            have f5 := R2.free 5
            have r6 := R2.cell 6 _ rfl
            have f6 := R2.free 6
            have r7 := R2.cell 7 _ rfl
            have f7 := R2.free 7
            have ES := Lib.hid (R2.set8 (.int .u8 0) (.int .u64 0) (.string ⟨#[]⟩) (.int .i64 0) (.int .i64 0) (.int .i64 0) (.int .u32 0) (.slice none 0 0))
            have BS := Lib.hid (below_set8 B2 (Nat.le_refl _) (.int .u8 0) (.int .u64 0) (.string ⟨#[]⟩) (.int .i64 0) (.int .i64 0) (.int .i64 0) (.int .u32 0) (.slice none 0 0))
            have HS := Lib.hid hsum
            have HU := Lib.hid hnum
            clear hsum hnum hs
            have NL := Lib.hid (number_ok _ _ w2 (by rw [seg_len (by have := hmb.out; omega)]; omega) (C2.seg 5 2 (by have := hmb.out; omega) (by omega)).sl)
            have hL : valB (seg b 5 2) < 65536 := by have h1 := valB_lt (seg b 5 2); rw [seg_len (by have := hmb.out; omega)] at h1; omega
            obtain ⟨L, hLv⟩ : ∃ L, L = valB (seg b 5 2) := ⟨_, rfl⟩
            rw [← hLv] at NL hL
            have HL : Hid (feL b = L) := Lib.hid hLv.symm
            clear hLv
            have L1 : (L : Int) ≤ 65535 := by omega
            have C5 : (7 : Int) ≤ (n0 : Int) := by omega
            have HC := Lib.hid C2
            have HT := Lib.hid T2
            have HR := Lib.hid R2
            have HB := Lib.hid B2
            clear C2 T2 R2 B2
            go_upto_region 9 with fail
            go_upto_region 10 with (first | (go_at_call 42; refine NL.out.mono ?_; rintro e w9 ⟨rfl, rfl⟩))
            clear NL
            by_cases h15 : m0 < 15 + L
            · have i15 : (m0 : Int) < 15 + (L : Int) := by omega
              have H15 := Lib.hid h15
              clear h15 hL
              go_wp2_with fail
              refine ent_end28 (y := .int .i64 0) (z := .int .i64 71) rfl rfl rfl rfl ES.out ?_
              exact fe_zero (er := 71) (by unfold feE; rw [if_neg HB0.out, if_neg (by rw [HX.out]; omega), if_neg (by have := hmb.out; omega), if_neg (by simpa using HS.out), if_neg (by simpa using HU.out), if_pos (by rw [HL.out]; have := hmb.out; have := H15.out; omega)]) (Or.inr (by omega)) BS.out
            · have i15 : 15 + (L : Int) ≤ (m0 : Int) := by omega
              clear h15
              have C11 : (11 : Int) + (L : Int) ≤ (n0 : Int) := by omega
              have C12 : (0 : Int) ≤ (L : Int) := by omega
              have C13 : ¬ n0 = 11 := by omega
              go_upto_region 13 with fail
              clear r0 f0
              clear r1 f1
              clear r2 f2
              clear r3 f3
              clear r4 f4
              clear r5 f5
              clear r6 f6
              clear r7 f7
              clear ES BS hKK
              have EO := Lib.hid (fun (ln cp : Nat) (h1 : ln = L) (h2 : cp = n0 - 11) => entryOf_ok w2 (.slice (some ⟨bb, off + 11, none⟩) ln cp) (seg b 11 L) (by rw [h1, h2]; exact HC.out.seg 11 L (by have := hmb.out; omega) (by omega)) (by have := HBL.out; have := seg_le b 11 L; omega) HT.out)
              have HFB : Hid (feB b = seg b 11 L) := Lib.hid (by unfold feB; rw [HL.out])
              generalize hXX : parX (seg b 11 L) = X at *
              have EO2 : ∀ ln cp : Nat, ln = L → cp = n0 - 11 → Calls Tryd.prog 43 #[.slice (some ⟨bb, off + 11, none⟩) ln cp] w2 (fun e w' => ∃ u, e = .returned (.tuple #[eA X u, .bool (okE (seg b 11 L))]) ∧ OwnIB w' w2.heap.size u X.inn ∧ Below w2.heap.size w2 w') := by rw [← hXX]; exact EO.out
              clear EO
              have EO := Lib.hid EO2
              clear EO2
              have HXX := Lib.hid hXX
              clear hXX
              obtain ⟨k, pr, nm, ru, re, li, su, inn⟩ := X
              generalize hok : okE (seg b 11 L) = okv at *
              have HOK := Lib.hid hok
              clear hok
              go_wp2_with fail
              with_reducible refine (EO.out _ _ (by omega) (by omega)).mono ?_
              rintro e w3 ⟨u, rfl, OI, B3⟩
              clear EO
              obtain ⟨ua, un, uc, rfl⟩ : ∃ a n c, u = .slice a n c := by obtain ⟨a, c, h, _⟩ := OI.sl.form; exact ⟨_, _, _, h⟩
              obtain ⟨s, hs⟩ : ∃ s, s = bs nm := ⟨_, rfl⟩
              unfold eA
              simp only
              rw [← hs]
              have HSS := Lib.hid hs
              clear hs
              have P4 : CellsAt (w3.alloc (.cells #[.int .u8 (k : Int), .int .u64 (pr : Int), .string s, .int .i64 ru, .int .i64 re, .int .i64 li, .int .u32 (su : Int), .slice ua un uc] 27)) w3.heap.size [.int .u8 (k : Int), .int .u64 (pr : Int), .string s, .int .i64 ru, .int .i64 re, .int .i64 li, .int .u32 (su : Int), .slice ua un uc] := CellsAt.new w3 [.int .u8 (k : Int), .int .u64 (pr : Int), .string s, .int .i64 ru, .int .i64 re, .int .i64 li, .int .u32 (su : Int), .slice ua un uc] 27
              have R4 : CellsAt (w3.alloc (.cells #[.int .u8 (k : Int), .int .u64 (pr : Int), .string s, .int .i64 ru, .int .i64 re, .int .i64 li, .int .u32 (su : Int), .slice ua un uc] 27)) w.heap.size Z8 := (HR.out.step B3).alloc _
              have C4 : SlC (w3.alloc (.cells #[.int .u8 (k : Int), .int .u64 (pr : Int), .string s, .int .i64 ru, .int .i64 re, .int .i64 li, .int .u32 (su : Int), .slice ua un uc] 27)) (.slice (some ⟨bb, off, none⟩) m0 n0) b := (HC.out.below B3).below (below_alloc w3 _)
              have T4 : Tabs (w3.alloc (.cells #[.int .u8 (k : Int), .int .u64 (pr : Int), .string s, .int .i64 ru, .int .i64 re, .int .i64 li, .int .u32 (su : Int), .slice ua un uc] 27)) := (HT.out.below B3).below (below_alloc w3 _)
              have B4 : Below w.heap.size w (w3.alloc (.cells #[.int .u8 (k : Int), .int .u64 (pr : Int), .string s, .int .i64 ru, .int .i64 re, .int .i64 li, .int .u32 (su : Int), .slice ua un uc] 27)) := (HB.out.trans (B3.mono HB.out.size)).trans ((below_alloc w3 _).mono (HB.out.trans (B3.mono HB.out.size)).size)
              have O4 : OwnIB (w3.alloc (.cells #[.int .u8 (k : Int), .int .u64 (pr : Int), .string s, .int .i64 ru, .int .i64 re, .int .i64 li, .int .u32 (su : Int), .slice ua un uc] 27)) w2.heap.size (.slice ua un uc) inn := OI.below (below_alloc w3 _)
              have hwp : w.heap.size < w3.heap.size := Nat.lt_of_lt_of_le HR.out.lt B3.size
              have hw2 : w.heap.size < w2.heap.size := HR.out.lt
              have HP := Lib.hid P4
              have HR4 := Lib.hid R4
              have HC4 := Lib.hid C4
              have HT4 := Lib.hid T4
              have HB4 := Lib.hid B4
              have HO4 := Lib.hid O4
              have HWP := Lib.hid hwp
              have HW2 := Lib.hid hw2
              clear P4 R4 C4 T4 B4 O4 hwp hw2 HR HC HT HB OI B3
              go_upto_region 14 with fail
              generalize (w3.alloc (.cells #[.int .u8 (k : Int), .int .u64 (pr : Int), .string s, .int .i64 ru, .int .i64 re, .int .i64 li, .int .u32 (su : Int), .slice ua un uc] 27)) = w4 at *
              generalize w3.heap.size = p at *
              have x0 := HP.out.cell 0 _ rfl
              have x1 := HP.out.cell 1 _ rfl
              have x2 := HP.out.cell 2 _ rfl
              have x3 := HP.out.cell 3 _ rfl
              have x4 := HP.out.cell 4 _ rfl
              have x5 := HP.out.cell 5 _ rfl
              have x6 := HP.out.cell 6 _ rfl
              have x7 := HP.out.cell 7 _ rfl
              have C15 : (15 : Int) + (L : Int) ≤ (n0 : Int) := by omega
              have C16 : ¬ n0 = 11 + L := by omega
              have N4 := number_ok _ _ w4 (by rw [seg_len (by have := hmb.out; omega)]; omega) (HC4.out.seg (11 + L) 4 (by have := hmb.out; omega) (by omega)).sl
              have S4 := sum_ok _ _ w4 (by have := HBL.out; have := seg_le b 11 L; omega) (HC4.out.seg 11 L (by have := hmb.out; omega) (by omega)).sl HT4.out
              have hsx : sumN (seg b 11 L) ≤ 4294967295 := by have := sumN_lt (seg b 11 L); omega
              obtain ⟨sx, hsv⟩ : ∃ sx, sx = sumN (seg b 11 L) := ⟨_, rfl⟩
              obtain ⟨nx, hnv⟩ : ∃ nx, nx = valB (seg b (11 + L) 4) := ⟨_, rfl⟩
              rw [← hsv] at S4 hsx
              rw [← hnv] at N4
              have HSV := Lib.hid hsv
              have HNV := Lib.hid hnv
              clear hsv hnv
              have HN4 := Lib.hid N4
              have HS4 := Lib.hid S4
              clear N4 S4
              have ix : (sx : Int) ≤ 4294967295 := by omega
              have r0 := HR4.out.cell 0 _ rfl
              have f0 := HR4.out.free 0
              have r1 := HR4.out.cell 1 _ rfl
              have f1 := HR4.out.free 1
              have r2 := HR4.out.cell 2 _ rfl
              have f2 := HR4.out.free 2
              have r3 := HR4.out.cell 3 _ rfl
              have f3 := HR4.out.free 3
              have r4 := HR4.out.cell 4 _ rfl
              have f4 := HR4.out.free 4
              have r5 := HR4.out.cell 5 _ rfl
              have f5 := HR4.out.free 5
              have r6 := HR4.out.cell 6 _ rfl
              have f6 := HR4.out.free 6
              have r7 := HR4.out.cell 7 _ rfl
              have f7 := HR4.out.free 7
              have ES := Lib.hid (HR4.out.set8 (.int .u8 0) (.int .u64 0) (.string ⟨#[]⟩) (.int .i64 0) (.int .i64 0) (.int .i64 0) (.int .u32 0) (.slice none 0 0))
              have BS := Lib.hid (below_set8 HB4.out (Nat.le_refl _) (.int .u8 0) (.int .u64 0) (.string ⟨#[]⟩) (.int .i64 0) (.int .i64 0) (.int .i64 0) (.int .u32 0) (.slice none 0 0))
              by_cases hbad : nx = sx
              · have HBAD := Lib.hid hbad
                subst hbad
                have hv1 : ¬ valB (seg b (11 + feL b) 4) ≠ sumN (feB b) := by rw [HFB.out, HL.out, ← HSV.out, ← HNV.out]; simp
                have HV1 := Lib.hid hv1
                clear hv1 HBAD
                cases okv with
                | false =>
                  go_wp2_with fail
                  with_reducible refine HN4.out.mono ?_
                  rintro e w9 ⟨rfl, rfl⟩
                  go_wp2_with fail
                  with_reducible refine HS4.out.mono ?_
                  rintro e w9 ⟨rfl, rfl⟩
                  go_wp2_with fail
                  refine ent_end28 (y := .int .i64 0) (z := .int .i64 112) rfl rfl rfl rfl ES.out ?_
                  exact fe_zero (er := 112) (by unfold feE; rw [if_neg HB0.out, if_neg (by rw [HX.out]; omega), if_neg (by have := hmb.out; omega), if_neg (by simpa using HS.out), if_neg (by simpa using HU.out), if_neg (by rw [HL.out]; have := hmb.out; omega), if_neg HV1.out, if_pos (by rw [HFB.out]; exact HOK.out)]) (Or.inr (by omega)) BS.out
                | true =>
                  have hv2 : ¬ okE (feB b) = false := by rw [HFB.out, HOK.out]; simp
                  have HV2 := Lib.hid hv2
                  clear hv2
                  have hv3 : (decide ((parX (feB b)).k = 1) ≠ decide (n = 0)) = (decide (k = 1) ≠ decide (n = 0)) := by rw [HFB.out, HXX.out]
                  have HV3 := Lib.hid hv3
                  clear hv3
                  by_cases hk1 : k = 1
                  · by_cases hn0 : n = 0
                    · have HQ : Hid (¬ (decide (k = 1) ≠ decide (n = 0))) := Lib.hid (by rw [decide_eq_true hk1, decide_eq_true hn0]; simp)
                      have g1 : ((k : Int) == 1) = true := by simp; omega
                      have g2 : ((n : Int) == 0) = true := by simp; omega
                      clear hk1 hn0
                      go_wp2_with fail
                      with_reducible refine HN4.out.mono ?_
                      rintro e w9 ⟨rfl, rfl⟩
                      go_wp2_with fail
                      with_reducible refine HS4.out.mono ?_
                      rintro e w9 ⟨rfl, rfl⟩
                      clear ES BS
                      have ES := Lib.hid (HR4.out.set8 (.int .u8 (k : Int)) (.int .u64 (pr : Int)) (.string s) (.int .i64 ru) (.int .i64 re) (.int .i64 li) (.int .u32 (su : Int)) (.slice ua un uc))
                      have BS := Lib.hid (below_set8 HB4.out (Nat.le_refl _) (.int .u8 (k : Int)) (.int .u64 (pr : Int)) (.string s) (.int .i64 ru) (.int .i64 re) (.int .i64 li) (.int .u32 (su : Int)) (.slice ua un uc))
                      have OS := Lib.hid ((HO4.out.setLow8 HW2.out (.int .u8 (k : Int)) (.int .u64 (pr : Int)) (.string s) (.int .i64 ru) (.int .i64 re) (.int .i64 li) (.int .u32 (su : Int)) (.slice ua un uc)).base (Nat.le_of_lt HW2.out))
                      go_wp2_with fail
                      refine ent_end28 rfl rfl rfl rfl ES.out ?_
                      have es := ES.out
                      have bs' := BS.out
                      have os := OS.out
                      clear ES BS OS
                      have hss := HSS.out
                      subst hss
                      exact fe_good (X := ⟨k, pr, nm, ru, re, li, su, inn⟩) HL.out (by rw [HFB.out]; exact HXX.out) HB0.out (by unfold feE; rw [if_neg HB0.out, if_neg (by rw [HX.out]; omega), if_neg (by have := hmb.out; omega), if_neg (by simpa using HS.out), if_neg (by simpa using HU.out), if_neg (by rw [HL.out]; have := hmb.out; omega), if_neg HV1.out, if_neg HV2.out, if_neg (by rw [HV3.out]; exact HQ.out)]) (by omega) os bs'
                    · have HQ : Hid (decide (k = 1) ≠ decide (n = 0)) := Lib.hid (by rw [decide_eq_true hk1, decide_eq_false hn0]; simp)
                      have g1 : ((k : Int) == 1) = true := by simp; omega
                      have g2 : ((n : Int) == 0) = false := by simp; omega
                      clear hk1 hn0
                      go_wp2_with fail
                      with_reducible refine HN4.out.mono ?_
                      rintro e w9 ⟨rfl, rfl⟩
                      go_wp2_with fail
                      with_reducible refine HS4.out.mono ?_
                      rintro e w9 ⟨rfl, rfl⟩
                      go_wp2_with fail
                      refine ent_end28 (y := .int .i64 0) (z := .int .i64 112) rfl rfl rfl rfl ES.out ?_
                      exact fe_zero (er := 112) (by unfold feE; rw [if_neg HB0.out, if_neg (by rw [HX.out]; omega), if_neg (by have := hmb.out; omega), if_neg (by simpa using HS.out), if_neg (by simpa using HU.out), if_neg (by rw [HL.out]; have := hmb.out; omega), if_neg HV1.out, if_neg HV2.out, if_pos (by rw [HV3.out]; exact HQ.out)]) (Or.inr (by omega)) BS.out
                  · by_cases hn0 : n = 0
                    · have HQ : Hid (decide (k = 1) ≠ decide (n = 0)) := Lib.hid (by rw [decide_eq_false hk1, decide_eq_true hn0]; simp)
                      have g1 : ((k : Int) == 1) = false := by simp; omega
                      have g2 : ((n : Int) == 0) = true := by simp; omega
                      clear hk1 hn0
                      go_wp2_with fail
                      with_reducible refine HN4.out.mono ?_
                      rintro e w9 ⟨rfl, rfl⟩
                      go_wp2_with fail
                      with_reducible refine HS4.out.mono ?_
                      rintro e w9 ⟨rfl, rfl⟩
                      go_wp2_with fail
                      refine ent_end28 (y := .int .i64 0) (z := .int .i64 112) rfl rfl rfl rfl ES.out ?_
                      exact fe_zero (er := 112) (by unfold feE; rw [if_neg HB0.out, if_neg (by rw [HX.out]; omega), if_neg (by have := hmb.out; omega), if_neg (by simpa using HS.out), if_neg (by simpa using HU.out), if_neg (by rw [HL.out]; have := hmb.out; omega), if_neg HV1.out, if_neg HV2.out, if_pos (by rw [HV3.out]; exact HQ.out)]) (Or.inr (by omega)) BS.out
                    · have HQ : Hid (¬ (decide (k = 1) ≠ decide (n = 0))) := Lib.hid (by rw [decide_eq_false hk1, decide_eq_false hn0]; simp)
                      have g1 : ((k : Int) == 1) = false := by simp; omega
                      have g2 : ((n : Int) == 0) = false := by simp; omega
                      clear hk1 hn0
                      go_wp2_with fail
                      with_reducible refine HN4.out.mono ?_
                      rintro e w9 ⟨rfl, rfl⟩
                      go_wp2_with fail
                      with_reducible refine HS4.out.mono ?_
                      rintro e w9 ⟨rfl, rfl⟩
                      clear ES BS
                      have ES := Lib.hid (HR4.out.set8 (.int .u8 (k : Int)) (.int .u64 (pr : Int)) (.string s) (.int .i64 ru) (.int .i64 re) (.int .i64 li) (.int .u32 (su : Int)) (.slice ua un uc))
                      have BS := Lib.hid (below_set8 HB4.out (Nat.le_refl _) (.int .u8 (k : Int)) (.int .u64 (pr : Int)) (.string s) (.int .i64 ru) (.int .i64 re) (.int .i64 li) (.int .u32 (su : Int)) (.slice ua un uc))
                      have OS := Lib.hid ((HO4.out.setLow8 HW2.out (.int .u8 (k : Int)) (.int .u64 (pr : Int)) (.string s) (.int .i64 ru) (.int .i64 re) (.int .i64 li) (.int .u32 (su : Int)) (.slice ua un uc)).base (Nat.le_of_lt HW2.out))
                      go_wp2_with fail
                      refine ent_end28 rfl rfl rfl rfl ES.out ?_
                      have es := ES.out
                      have bs' := BS.out
                      have os := OS.out
                      clear ES BS OS
                      have hss := HSS.out
                      subst hss
                      exact fe_good (X := ⟨k, pr, nm, ru, re, li, su, inn⟩) HL.out (by rw [HFB.out]; exact HXX.out) HB0.out (by unfold feE; rw [if_neg HB0.out, if_neg (by rw [HX.out]; omega), if_neg (by have := hmb.out; omega), if_neg (by simpa using HS.out), if_neg (by simpa using HU.out), if_neg (by rw [HL.out]; have := hmb.out; omega), if_neg HV1.out, if_neg HV2.out, if_neg (by rw [HV3.out]; exact HQ.out)]) (by omega) os bs'
              · have p1 : ((nx : Int) != (sx : Int)) = true := by simp; omega
                have p2 : ((nx : Int) == (sx : Int)) = false := by simp; omega
                have p3 : ¬ (nx : Int) = (sx : Int) := by omega
                have hv1 : valB (seg b (11 + feL b) 4) ≠ sumN (feB b) := by rw [HFB.out, HL.out, ← HSV.out, ← HNV.out]; exact hbad
                have HV1 := Lib.hid hv1
                clear hv1 hbad
                go_wp2_with fail
                with_reducible refine HN4.out.mono ?_
                rintro e w9 ⟨rfl, rfl⟩
                go_wp2_with fail
                with_reducible refine HS4.out.mono ?_
                rintro e w9 ⟨rfl, rfl⟩
                go_wp2_with fail
                refine ent_end28 (y := .int .i64 0) (z := .int .i64 112) rfl rfl rfl rfl ES.out ?_
                exact fe_zero (er := 112) (by unfold feE; rw [if_neg HB0.out, if_neg (by rw [HX.out]; omega), if_neg (by have := hmb.out; omega), if_neg (by simpa using HS.out), if_neg (by simpa using HU.out), if_neg (by rw [HL.out]; have := hmb.out; omega), if_pos HV1.out]) (Or.inr (by omega)) BS.out
          · refine reg7_e (fun _ _ _ _ _ h => h) h11' hmc hs HN.out hsum N1 SU N2 ?_
            intro v29 v30 v31 v32 v33 v34 v35 v36 v37 v38 v39 v40 v41 v42 v43 v44
            refine hKK _ _ ?_
            rw [show decide (valB (seg b 1 4) ≠ n) = true from decide_eq_true (by simpa using hnum)]
            have R2 : CellsAt w1.drew w.heap.size Z8 := HR.out.step (below_drewN w1 1)
            have B2 : Below w.heap.size w w1.drew := HB.out.trans (bdrewB (Below.refl _ _) 1)
            have C2 : SlC w1.drew _ b := HC.out
            have T2 : Tabs w1.drew := HT.out.below (below_drewN w1 1)
            clear r0 f0
            clear r1 f1
            clear r2 f2
            clear r3 f3
            clear r4 f4
            clear r5 f5
            clear r6 f6
            clear r7 f7
            clear hx1 HR HB HC HT ES BS hblk N1 SU N2
            generalize w1.drew = w2 at *
            have r0 := R2.cell 0 _ rfl
            have f0 := R2.free 0
            have r1 := R2.cell 1 _ rfl
            have f1 := R2.free 1
            have r2 := R2.cell 2 _ rfl
            have f2 := R2.free 2
            have r3 := R2.cell 3 _ rfl
            have f3 := R2.free 3
            have r4 := R2.cell 4 _ rfl
            have f4 := R2.free 4
            have r5 := R2.cell 5 _ rfl
            have f5 := R2.free 5
            have r6 := R2.cell 6 _ rfl
            have f6 := R2.free 6
            have r7 := R2.cell 7 _ rfl
            have f7 := R2.free 7
            have ES := Lib.hid (R2.set8 (.int .u8 0) (.int .u64 0) (.string ⟨#[]⟩) (.int .i64 0) (.int .i64 0) (.int .i64 0) (.int .u32 0) (.slice none 0 0))
            have BS := Lib.hid (below_set8 B2 (Nat.le_refl _) (.int .u8 0) (.int .u64 0) (.string ⟨#[]⟩) (.int .i64 0) (.int .i64 0) (.int .i64 0) (.int .u32 0) (.slice none 0 0))
            have HS := Lib.hid hsum
            have HU := Lib.hid hnum
            clear hsum hnum hs
            go_wp2_with fail
            refine ent_end28 (y := .int .i64 0) (z := .int .i64 112) rfl rfl rfl rfl ES.out ?_
            exact fe_zero (er := 112) (by unfold feE; rw [if_neg HB0.out, if_neg (by rw [HX.out]; omega), if_neg (by have := hmb.out; omega), if_neg (by simpa using HS.out), if_pos HU.out]) (Or.inr (by omega)) BS.out
        · refine reg7_t (z := 0) (fun _ _ _ _ _ h => h) h11' hmc hs HN.out hsum N1 SU ?_
          intro v29 v30 v31 v32 v33 v34 v35 v36 v37 v38 v39 v40 v41 v42 v43 v44
          refine hKK _ _ ?_
          have R2 : CellsAt w1.drew w.heap.size Z8 := HR.out.step (below_drewN w1 1)
          have B2 : Below w.heap.size w w1.drew := HB.out.trans (bdrewB (Below.refl _ _) 1)
          have C2 : SlC w1.drew _ b := HC.out
          have T2 : Tabs w1.drew := HT.out.below (below_drewN w1 1)
          clear r0 f0
          clear r1 f1
          clear r2 f2
          clear r3 f3
          clear r4 f4
          clear r5 f5
          clear r6 f6
          clear r7 f7
          clear hx1 HR HB HC HT ES BS hblk N1 SU N2
          generalize w1.drew = w2 at *
          have r0 := R2.cell 0 _ rfl
          have f0 := R2.free 0
          have r1 := R2.cell 1 _ rfl
          have f1 := R2.free 1
          have r2 := R2.cell 2 _ rfl
          have f2 := R2.free 2
          have r3 := R2.cell 3 _ rfl
          have f3 := R2.free 3
          have r4 := R2.cell 4 _ rfl
          have f4 := R2.free 4
          have r5 := R2.cell 5 _ rfl
          have f5 := R2.free 5
          have r6 := R2.cell 6 _ rfl
          have f6 := R2.free 6
          have r7 := R2.cell 7 _ rfl
          have f7 := R2.free 7
          have ES := Lib.hid (R2.set8 (.int .u8 0) (.int .u64 0) (.string ⟨#[]⟩) (.int .i64 0) (.int .i64 0) (.int .i64 0) (.int .u32 0) (.slice none 0 0))
          have BS := Lib.hid (below_set8 B2 (Nat.le_refl _) (.int .u8 0) (.int .u64 0) (.string ⟨#[]⟩) (.int .i64 0) (.int .i64 0) (.int .i64 0) (.int .u32 0) (.slice none 0 0))
          have HS := Lib.hid hsum
          clear hsum hs
          go_wp2_with fail
          refine ent_end28 (y := .int .i64 0) (z := .int .i64 112) rfl rfl rfl rfl ES.out ?_
          exact fe_zero (er := 112) (by unfold feE; rw [if_neg HB0.out, if_neg (by rw [HX.out]; omega), if_neg (by have := hmb.out; omega), if_pos HS.out]) (Or.inr (by omega)) BS.out
    · have q1 : ((x : Int) != 229) = true := by simp; omega
      have q2 : decide ((x : Int) = 229) = false := decide_eq_false (by omega)
      have q3 : ¬ (x : Int) = 229 := by omega
      have HX := Lib.hid hx
      go_wp2_with fail
      refine ent_end28 (y := .int .i64 0) (z := .int .i64 112) rfl rfl rfl rfl ES.out ?_
      exact fe_zero (er := 112) (by unfold feE; rw [if_neg HB0.out, if_pos (by rw [HX0.out]; exact HX.out)]) (Or.inr (by omega)) BS.out
end Go.Proofs.YtlbekgcfafofdaaDoor
