/- The program's Decode. -/
import Derived.Test.YtlbekgcfafofdaaDoorOe
namespace Go.Proofs.YtlbekgcfafofdaaDoor
open Go.RowKit
set_option maxRecDepth 100000

theorem decS_enough (b : List UInt8) (n : Nat) : ∀ d : Nat, decS (b.length + 1 + d) b n = decS (b.length + 1) b n
  | 0 => rfl
  | d + 1 => (decS_more (b.length + 1 + d) b n (by omega)).trans (decS_enough b n d)
def decC (b : List UInt8) (n : Nat) : List Ent × Nat × Nat := decS (b.length + 1) b n
theorem decC_zero {b : List UInt8} {n : Nat} (h : feN b n = 0) : decC b n = ([], 0, feE b n) := by
  unfold decC; rw [decS, if_pos h]
theorem decC_more {b : List UInt8} {n : Nat} (h : ¬ feN b n = 0) : decC b n = (feX b n :: (decC (b.drop (feN b n)) (n + 1)).1, feN b n + (decC (b.drop (feN b n)) (n + 1)).2.1, (decC (b.drop (feN b n)) (n + 1)).2.2) := by
  unfold decC
  rw [decS, if_neg h]
  have hle := feN_le b n
  have e : b.length = (b.drop (feN b n)).length + 1 + (feN b n - 1) := by rw [List.length_drop]; omega
  have k := decS_enough (b.drop (feN b n)) (n + 1) (feN b n - 1)
  rw [← e] at k
  rw [k]
theorem feN_num {b : List UInt8} {n : Nat} (h : ¬ feN b n = 0) : n < 4294967296 := by
  have g : feG b n = true := by
    cases hg : feG b n with
    | true => rfl
    | false => exact absurd ((feN_zero b n).2 hg) h
  unfold feG at g
  simp only [Bool.and_eq_true, decide_eq_true_eq] at g
  obtain ⟨h0, h⟩ := g
  unfold feE at h
  by_cases h1 : valB (b.take 1) ≠ 229
  · rw [if_neg h0, if_pos h1] at h; omega
  by_cases h2 : b.length < 11
  · rw [if_neg h0, if_neg h1, if_pos h2] at h; omega
  by_cases h3 : valB (seg b 7 4) ≠ sumN (b.take 7)
  · rw [if_neg h0, if_neg h1, if_neg h2, if_pos h3] at h; omega
  by_cases h4 : valB (seg b 1 4) ≠ n
  · rw [if_neg h0, if_neg h1, if_neg h2, if_neg h3, if_pos h4] at h; omega
  have := valB_lt4 (seg_le b 1 4)
  omega
def DeP (w : World) (b : List UInt8) (e : Ending) (w' : World) : Prop :=
  ∃ v us, e = .returned (.tuple #[v, .int .i64 ((decC b 0).2.1 : Nat), .int .i64 ((decC b 0).2.2 : Nat)]) ∧ OwnEs w' w.heap.size v (decC b 0).1 us ∧ Below w.heap.size w w'
def DeRel (w : World) (b : List UInt8) (v i : Value) (wr : World) : Prop :=
  ∃ (l : List Ent) (us : List Value) (p : Nat) (va : Option Addr) (vc : Nat), v = .slice va l.length vc ∧ i = .int .i64 (p : Int) ∧ p ≤ b.length ∧ l.length ≤ p ∧ OwnEs wr w.heap.size (.slice va l.length vc) l us ∧ Below w.heap.size w wr ∧ decC b 0 = (l ++ (decC (b.drop p) l.length).1, p + (decC (b.drop p) l.length).2.1, (decC (b.drop p) l.length).2.2)
set_option maxHeartbeats 1600000 in
theorem decode_some (w : World) (bb off m0 n0 : Nat) (b : List UInt8) (h0 : SlC w (.slice (some ⟨bb, off, none⟩) m0 n0) b) (hbl : b.length ≤ 140737488355328) (T : Tabs w) : Calls Tryd.prog 16 #[.slice (some ⟨bb, off, none⟩) m0 n0] w (DeP w b) := by
  obtain ⟨hm0, hmc, hc63, _, _⟩ := h0.lens
  have HM0 := Lib.hid hm0
  have HC := Lib.hid h0
  have HT0 := Lib.hid T
  have HBL := Lib.hid hbl
  clear hm0 h0 T hbl
  go_enter Tryd.func16, Tryd.ntmps16
  go_wp2_with fail
  go_loopw [5, 6] (fun x i wr => DeRel w b x i wr) (fun _ i _ => b.length - (intOf i).toNat)
  case atStart => exact ⟨[], [], 0, none, 0, rfl, rfl, Nat.zero_le _, Nat.le_refl _, OwnEs.nil _ _ (Nat.le_refl _), Below.refl _ _, by simp⟩
  case round =>
    obtain ⟨l, us, p, va, vc, rfl, rfl, hp, hl, OE, BW, HI⟩ := hrel
    have ip : (p : Int) ≤ (m0 : Int) := by have := HM0.out; omega
    have ic : (m0 : Int) ≤ (n0 : Int) := by omega
    have HP := Lib.hid hp
    have HL := Lib.hid hl
    have HOE := Lib.hid OE
    have HBW := Lib.hid BW
    have HHI := Lib.hid HI
    have HT := Lib.hid (HT0.out.below BW)
    have CW := Lib.hid (HC.out.below BW)
    clear hp hl OE BW HI
    by_cases hcap : n0 = p
    · subst hcap
      have SD := CW.out.drop n0 HP.out
      unfold dropV at SD
      rw [if_pos rfl, Nat.sub_self, Nat.sub_eq_zero_of_le hmc] at SD
      have HSD := Lib.hid SD
      clear SD
      have FE := Lib.hid (first_ok wr (.slice (some ⟨bb, off, none⟩) 0 0) (b.drop n0) l.length (HSD.out) (by rw [List.length_drop]; have := HBL.out; omega) (by have := HBL.out; have := HP.out; have := HL.out; omega) HT.out)
      go_wp2_with fail
      with_reducible refine FE.out.mono ?_
      rintro e w3 ⟨u, rfl, OI, B3⟩
      clear FE
      obtain ⟨ua, un, uc, rfl⟩ : ∃ a n c, u = .slice a n c := by obtain ⟨a, c, h, _⟩ := OI.sl.form; exact ⟨_, _, _, h⟩
      generalize hX : feX (b.drop n0) l.length = X at *
      generalize hN : feN (b.drop n0) l.length = N at *
      generalize hE : feE (b.drop n0) l.length = E at *
      have HX := Lib.hid hX
      have HN := Lib.hid hN
      have HE := Lib.hid hE
      clear hX hN hE
      obtain ⟨k, pr, nm, ru, re, li, su, inn⟩ := X
      obtain ⟨s, hs⟩ : ∃ s, s = bs nm := ⟨_, rfl⟩
      unfold eA
      simp only
      rw [← hs]
      have HSS := Lib.hid hs
      clear hs
      have P4 : CellsAt (w3.alloc (.cells #[.int .u8 (k : Int), .int .u64 (pr : Int), .string s, .int .i64 ru, .int .i64 re, .int .i64 li, .int .u32 (su : Int), .slice ua un uc] 27)) w3.heap.size [.int .u8 (k : Int), .int .u64 (pr : Int), .string s, .int .i64 ru, .int .i64 re, .int .i64 li, .int .u32 (su : Int), .slice ua un uc] := CellsAt.new w3 [.int .u8 (k : Int), .int .u64 (pr : Int), .string s, .int .i64 ru, .int .i64 re, .int .i64 li, .int .u32 (su : Int), .slice ua un uc] 27
      have OE4 : OwnEs (w3.alloc (.cells #[.int .u8 (k : Int), .int .u64 (pr : Int), .string s, .int .i64 ru, .int .i64 re, .int .i64 li, .int .u32 (su : Int), .slice ua un uc] 27)) w.heap.size (.slice va l.length vc) l us := (HOE.out.below B3).below (below_alloc w3 _)
      have B4 : Below w.heap.size w (w3.alloc (.cells #[.int .u8 (k : Int), .int .u64 (pr : Int), .string s, .int .i64 ru, .int .i64 re, .int .i64 li, .int .u32 (su : Int), .slice ua un uc] 27)) := (HBW.out.trans (B3.mono HBW.out.size)).trans ((below_alloc w3 _).mono (HBW.out.trans (B3.mono HBW.out.size)).size)
      have OI4 : OwnIB (w3.alloc (.cells #[.int .u8 (k : Int), .int .u64 (pr : Int), .string s, .int .i64 ru, .int .i64 re, .int .i64 li, .int .u32 (su : Int), .slice ua un uc] 27)) w.heap.size (.slice ua un uc) inn := (OI.below (below_alloc w3 _)).base HBW.out.size
      have HP4 := Lib.hid P4
      have HOE4 := Lib.hid OE4
      have HB4 := Lib.hid B4
      have HOI4 := Lib.hid OI4
      clear P4 OE4 B4 OI4 HOE HBW OI B3 HT CW HSD
      go_upto_region 4 with fail
      generalize (w3.alloc (.cells #[.int .u8 (k : Int), .int .u64 (pr : Int), .string s, .int .i64 ru, .int .i64 re, .int .i64 li, .int .u32 (su : Int), .slice ua un uc] 27)) = w4 at *
      generalize w3.heap.size = q at *
      by_cases hz : N = 0
      · have hd := decC_zero (HN.out.trans hz)
        have hi := HHI.out
        rw [hd, HE.out] at hi
        simp only [List.append_nil, Nat.add_zero] at hi
        have HI2 := Lib.hid hi
        clear hi hd
        have hzi : ((N : Int) == 0) = true := by simp; omega
        go_wp2_with fail
        go_ret3
        exact ⟨_, us, by rw [HI2.out]; rfl, by rw [HI2.out]; exact HOE4.out, HB4.out⟩
      · have hzi : ((N : Int) == 0) = false := by simp; omega
        have hd := decC_more (show ¬ feN (b.drop n0) l.length = 0 by rw [HN.out]; exact hz)
        have HNM := Lib.hid (feN_num (show ¬ feN (b.drop n0) l.length = 0 by rw [HN.out]; exact hz))
        rw [HN.out, HX.out, List.drop_drop] at hd
        have hNl : N ≤ b.length - n0 := by have := feN_le (b.drop n0) l.length; rw [HN.out, List.length_drop] at this; exact this
        have HD := Lib.hid hd
        have HNL := Lib.hid hNl
        have HNZ := Lib.hid hz
        clear hd hNl hz
        have x0 := HP4.out.cell 0 _ rfl
        have x1 := HP4.out.cell 1 _ rfl
        have x2 := HP4.out.cell 2 _ rfl
        have x3 := HP4.out.cell 3 _ rfl
        have x4 := HP4.out.cell 4 _ rfl
        have x5 := HP4.out.cell 5 _ rfl
        have x6 := HP4.out.cell 6 _ rfl
        have x7 := HP4.out.cell 7 _ rfl
        have P5 : CellsAt (w4.alloc (.cells #[.int .u8 (k : Int), .int .u64 (pr : Int), .string s, .int .i64 ru, .int .i64 re, .int .i64 li, .int .u32 (su : Int), .slice ua un uc] 27)) w4.heap.size (entV ⟨k, pr, nm, ru, re, li, su, inn⟩ (.slice ua un uc)) := by unfold entV; simp only; rw [← HSS.out]; exact CellsAt.new w4 [.int .u8 (k : Int), .int .u64 (pr : Int), .string s, .int .i64 ru, .int .i64 re, .int .i64 li, .int .u32 (su : Int), .slice ua un uc] 27
        have OE5 := Lib.hid (HOE4.out.below (below_alloc w4 (.cells #[.int .u8 (k : Int), .int .u64 (pr : Int), .string s, .int .i64 ru, .int .i64 re, .int .i64 li, .int .u32 (su : Int), .slice ua un uc] 27)))
        have OI5 := Lib.hid (HOI4.out.below (below_alloc w4 (.cells #[.int .u8 (k : Int), .int .u64 (pr : Int), .string s, .int .i64 ru, .int .i64 re, .int .i64 li, .int .u32 (su : Int), .slice ua un uc] 27)))
        have HP5 := Lib.hid P5
        clear P5
        have iN : (N : Int) ≤ 140737488355328 := by have := HNL.out; have := HBL.out; omega
        have iP : (n0 : Int) ≤ 140737488355328 := by have := HP.out; have := HBL.out; omega
        go_upto_region 6 with fail
        go_wp2_with (at_builtin; go_loud (refine wp_apE rfl _ _ rfl w.heap.size _ l us rfl OE5.out w4.heap.size ⟨k, pr, nm, ru, re, li, su, inn⟩ _ rfl HP5.out rfl OI5.out (by have := HNM.out; omega) ?_))
        intro v6 w6 OE6 B6 _
        have B46 : Below w.heap.size w w6 := (HB4.out.trans ((below_alloc w4 (.cells #[.int .u8 (k : Int), .int .u64 (pr : Int), .string s, .int .i64 ru, .int .i64 re, .int .i64 li, .int .u32 (su : Int), .slice ua un uc] 27)).mono HB4.out.size)).trans B6
        obtain ⟨va6, vc6, rfl⟩ : ∃ a c, v6 = .slice a (l.length + 1) c := by
          have ho := OE6.own.2
          rw [List.length_append, List.length_singleton] at ho
          rcases ho with ⟨hn, h⟩ | ⟨g, cap, cur, hv, _⟩
          · omega
          · exact ⟨_, _, hv⟩
        have KEY := Lib.hid (show DeRel w b (.slice va6 (l.length + 1) vc6) (.int .i64 ((n0 : Int) + (N : Int))) w6 from ⟨l ++ [⟨k, pr, nm, ru, re, li, su, inn⟩], us ++ [.slice ua un uc], n0 + N, va6, vc6, by simp, by simp, by have := HP.out; have := HNL.out; omega, by have := HL.out; have := HNZ.out; simp; omega, by simpa using OE6, B46, by have hi := HHI.out; rw [HD.out] at hi; rw [hi]; simp [Nat.add_assoc]⟩)
        clear OE6 B6 B46
        go_wp2_with fail
        refine ⟨?_, by simp [intOf]; have := HP.out; have := HNL.out; have := HNZ.out; omega⟩
        repeat (refine Exists.intro _ ?_)
        first | exact ⟨rfl, KEY.out⟩ | exact ⟨KEY.out, rfl⟩ | exact KEY.out
    · have SD := CW.out.drop p HP.out
      unfold dropV at SD
      rw [if_neg hcap] at SD
      have HSD := Lib.hid SD
      clear SD
      have FE := Lib.hid (first_ok wr (.slice (some ⟨bb, off + p, none⟩) (m0 - p) (n0 - p)) (b.drop p) l.length (HSD.out) (by rw [List.length_drop]; have := HBL.out; omega) (by have := HBL.out; have := HP.out; have := HL.out; omega) HT.out)
      go_wp2_with fail
      with_reducible refine FE.out.mono ?_
      rintro e w3 ⟨u, rfl, OI, B3⟩
      clear FE
      obtain ⟨ua, un, uc, rfl⟩ : ∃ a n c, u = .slice a n c := by obtain ⟨a, c, h, _⟩ := OI.sl.form; exact ⟨_, _, _, h⟩
      generalize hX : feX (b.drop p) l.length = X at *
      generalize hN : feN (b.drop p) l.length = N at *
      generalize hE : feE (b.drop p) l.length = E at *
      have HX := Lib.hid hX
      have HN := Lib.hid hN
      have HE := Lib.hid hE
      clear hX hN hE
      obtain ⟨k, pr, nm, ru, re, li, su, inn⟩ := X
      obtain ⟨s, hs⟩ : ∃ s, s = bs nm := ⟨_, rfl⟩
      unfold eA
      simp only
      rw [← hs]
      have HSS := Lib.hid hs
      clear hs
      have P4 : CellsAt (w3.alloc (.cells #[.int .u8 (k : Int), .int .u64 (pr : Int), .string s, .int .i64 ru, .int .i64 re, .int .i64 li, .int .u32 (su : Int), .slice ua un uc] 27)) w3.heap.size [.int .u8 (k : Int), .int .u64 (pr : Int), .string s, .int .i64 ru, .int .i64 re, .int .i64 li, .int .u32 (su : Int), .slice ua un uc] := CellsAt.new w3 [.int .u8 (k : Int), .int .u64 (pr : Int), .string s, .int .i64 ru, .int .i64 re, .int .i64 li, .int .u32 (su : Int), .slice ua un uc] 27
      have OE4 : OwnEs (w3.alloc (.cells #[.int .u8 (k : Int), .int .u64 (pr : Int), .string s, .int .i64 ru, .int .i64 re, .int .i64 li, .int .u32 (su : Int), .slice ua un uc] 27)) w.heap.size (.slice va l.length vc) l us := (HOE.out.below B3).below (below_alloc w3 _)
      have B4 : Below w.heap.size w (w3.alloc (.cells #[.int .u8 (k : Int), .int .u64 (pr : Int), .string s, .int .i64 ru, .int .i64 re, .int .i64 li, .int .u32 (su : Int), .slice ua un uc] 27)) := (HBW.out.trans (B3.mono HBW.out.size)).trans ((below_alloc w3 _).mono (HBW.out.trans (B3.mono HBW.out.size)).size)
      have OI4 : OwnIB (w3.alloc (.cells #[.int .u8 (k : Int), .int .u64 (pr : Int), .string s, .int .i64 ru, .int .i64 re, .int .i64 li, .int .u32 (su : Int), .slice ua un uc] 27)) w.heap.size (.slice ua un uc) inn := (OI.below (below_alloc w3 _)).base HBW.out.size
      have HP4 := Lib.hid P4
      have HOE4 := Lib.hid OE4
      have HB4 := Lib.hid B4
      have HOI4 := Lib.hid OI4
      clear P4 OE4 B4 OI4 HOE HBW OI B3 HT CW HSD
      go_upto_region 4 with fail
      generalize (w3.alloc (.cells #[.int .u8 (k : Int), .int .u64 (pr : Int), .string s, .int .i64 ru, .int .i64 re, .int .i64 li, .int .u32 (su : Int), .slice ua un uc] 27)) = w4 at *
      generalize w3.heap.size = q at *
      by_cases hz : N = 0
      · have hd := decC_zero (HN.out.trans hz)
        have hi := HHI.out
        rw [hd, HE.out] at hi
        simp only [List.append_nil, Nat.add_zero] at hi
        have HI2 := Lib.hid hi
        clear hi hd
        have hzi : ((N : Int) == 0) = true := by simp; omega
        go_wp2_with fail
        go_ret3
        exact ⟨_, us, by rw [HI2.out]; rfl, by rw [HI2.out]; exact HOE4.out, HB4.out⟩
      · have hzi : ((N : Int) == 0) = false := by simp; omega
        have hd := decC_more (show ¬ feN (b.drop p) l.length = 0 by rw [HN.out]; exact hz)
        have HNM := Lib.hid (feN_num (show ¬ feN (b.drop p) l.length = 0 by rw [HN.out]; exact hz))
        rw [HN.out, HX.out, List.drop_drop] at hd
        have hNl : N ≤ b.length - p := by have := feN_le (b.drop p) l.length; rw [HN.out, List.length_drop] at this; exact this
        have HD := Lib.hid hd
        have HNL := Lib.hid hNl
        have HNZ := Lib.hid hz
        clear hd hNl hz
        have x0 := HP4.out.cell 0 _ rfl
        have x1 := HP4.out.cell 1 _ rfl
        have x2 := HP4.out.cell 2 _ rfl
        have x3 := HP4.out.cell 3 _ rfl
        have x4 := HP4.out.cell 4 _ rfl
        have x5 := HP4.out.cell 5 _ rfl
        have x6 := HP4.out.cell 6 _ rfl
        have x7 := HP4.out.cell 7 _ rfl
        have P5 : CellsAt (w4.alloc (.cells #[.int .u8 (k : Int), .int .u64 (pr : Int), .string s, .int .i64 ru, .int .i64 re, .int .i64 li, .int .u32 (su : Int), .slice ua un uc] 27)) w4.heap.size (entV ⟨k, pr, nm, ru, re, li, su, inn⟩ (.slice ua un uc)) := by unfold entV; simp only; rw [← HSS.out]; exact CellsAt.new w4 [.int .u8 (k : Int), .int .u64 (pr : Int), .string s, .int .i64 ru, .int .i64 re, .int .i64 li, .int .u32 (su : Int), .slice ua un uc] 27
        have OE5 := Lib.hid (HOE4.out.below (below_alloc w4 (.cells #[.int .u8 (k : Int), .int .u64 (pr : Int), .string s, .int .i64 ru, .int .i64 re, .int .i64 li, .int .u32 (su : Int), .slice ua un uc] 27)))
        have OI5 := Lib.hid (HOI4.out.below (below_alloc w4 (.cells #[.int .u8 (k : Int), .int .u64 (pr : Int), .string s, .int .i64 ru, .int .i64 re, .int .i64 li, .int .u32 (su : Int), .slice ua un uc] 27)))
        have HP5 := Lib.hid P5
        clear P5
        have iN : (N : Int) ≤ 140737488355328 := by have := HNL.out; have := HBL.out; omega
        have iP : (p : Int) ≤ 140737488355328 := by have := HP.out; have := HBL.out; omega
        go_upto_region 6 with fail
        go_wp2_with (at_builtin; go_loud (refine wp_apE rfl _ _ rfl w.heap.size _ l us rfl OE5.out w4.heap.size ⟨k, pr, nm, ru, re, li, su, inn⟩ _ rfl HP5.out rfl OI5.out (by have := HNM.out; omega) ?_))
        intro v6 w6 OE6 B6 _
        have B46 : Below w.heap.size w w6 := (HB4.out.trans ((below_alloc w4 (.cells #[.int .u8 (k : Int), .int .u64 (pr : Int), .string s, .int .i64 ru, .int .i64 re, .int .i64 li, .int .u32 (su : Int), .slice ua un uc] 27)).mono HB4.out.size)).trans B6
        obtain ⟨va6, vc6, rfl⟩ : ∃ a c, v6 = .slice a (l.length + 1) c := by
          have ho := OE6.own.2
          rw [List.length_append, List.length_singleton] at ho
          rcases ho with ⟨hn, h⟩ | ⟨g, cap, cur, hv, _⟩
          · omega
          · exact ⟨_, _, hv⟩
        have KEY := Lib.hid (show DeRel w b (.slice va6 (l.length + 1) vc6) (.int .i64 ((p : Int) + (N : Int))) w6 from ⟨l ++ [⟨k, pr, nm, ru, re, li, su, inn⟩], us ++ [.slice ua un uc], p + N, va6, vc6, by simp, by simp, by have := HP.out; have := HNL.out; omega, by have := HL.out; have := HNZ.out; simp; omega, by simpa using OE6, B46, by have hi := HHI.out; rw [HD.out] at hi; rw [hi]; simp [Nat.add_assoc]⟩)
        clear OE6 B6 B46
        go_wp2_with fail
        refine ⟨?_, by simp [intOf]; have := HP.out; have := HNL.out; have := HNZ.out; omega⟩
        repeat (refine Exists.intro _ ?_)
        first | exact ⟨rfl, KEY.out⟩ | exact ⟨KEY.out, rfl⟩ | exact KEY.out
set_option maxHeartbeats 1600000 in
theorem decode_none (w : World) (b : List UInt8) (hb : b = []) (T : Tabs w) : Calls Tryd.prog 16 #[.slice none 0 0] w (DeP w b) := by
  have HT0 := Lib.hid T
  have HB := Lib.hid hb
  have hbl : b.length ≤ 140737488355328 := by rw [hb]; simp
  have HBL := Lib.hid hbl
  clear T hbl hb
  go_enter Tryd.func16, Tryd.ntmps16
  go_wp2_with fail
  go_loopw [5, 6] (fun x i wr => DeRel w b x i wr) (fun _ i _ => b.length - (intOf i).toNat)
  case atStart => exact ⟨[], [], 0, none, 0, rfl, rfl, Nat.zero_le _, Nat.le_refl _, OwnEs.nil _ _ (Nat.le_refl _), Below.refl _ _, by simp⟩
  case round =>
    obtain ⟨l, us, p, va, vc, rfl, rfl, hp, hl, OE, BW, HI⟩ := hrel
    obtain rfl : p = 0 := by rw [HB.out] at hp; simpa using hp
    have HP := Lib.hid hp
    have HL := Lib.hid hl
    have HOE := Lib.hid OE
    have HBW := Lib.hid BW
    have HHI := Lib.hid HI
    have HT := Lib.hid (HT0.out.below BW)
    have CW := HT
    have HSD := HT
    clear hp hl OE BW HI
    have FE := Lib.hid (first_ok wr (.slice none 0 0) (b.drop 0) l.length (Or.inl ⟨rfl, by rw [HB.out]; rfl⟩) (by rw [List.length_drop]; have := HBL.out; omega) (by have := HBL.out; have := HP.out; have := HL.out; omega) HT.out)
    go_wp2_with fail
    with_reducible refine FE.out.mono ?_
    rintro e w3 ⟨u, rfl, OI, B3⟩
    clear FE
    obtain ⟨ua, un, uc, rfl⟩ : ∃ a n c, u = .slice a n c := by obtain ⟨a, c, h, _⟩ := OI.sl.form; exact ⟨_, _, _, h⟩
    generalize hX : feX (b.drop 0) l.length = X at *
    generalize hN : feN (b.drop 0) l.length = N at *
    generalize hE : feE (b.drop 0) l.length = E at *
    have HX := Lib.hid hX
    have HN := Lib.hid hN
    have HE := Lib.hid hE
    clear hX hN hE
    obtain ⟨k, pr, nm, ru, re, li, su, inn⟩ := X
    obtain ⟨s, hs⟩ : ∃ s, s = bs nm := ⟨_, rfl⟩
    unfold eA
    simp only
    rw [← hs]
    have HSS := Lib.hid hs
    clear hs
    have P4 : CellsAt (w3.alloc (.cells #[.int .u8 (k : Int), .int .u64 (pr : Int), .string s, .int .i64 ru, .int .i64 re, .int .i64 li, .int .u32 (su : Int), .slice ua un uc] 27)) w3.heap.size [.int .u8 (k : Int), .int .u64 (pr : Int), .string s, .int .i64 ru, .int .i64 re, .int .i64 li, .int .u32 (su : Int), .slice ua un uc] := CellsAt.new w3 [.int .u8 (k : Int), .int .u64 (pr : Int), .string s, .int .i64 ru, .int .i64 re, .int .i64 li, .int .u32 (su : Int), .slice ua un uc] 27
    have OE4 : OwnEs (w3.alloc (.cells #[.int .u8 (k : Int), .int .u64 (pr : Int), .string s, .int .i64 ru, .int .i64 re, .int .i64 li, .int .u32 (su : Int), .slice ua un uc] 27)) w.heap.size (.slice va l.length vc) l us := (HOE.out.below B3).below (below_alloc w3 _)
    have B4 : Below w.heap.size w (w3.alloc (.cells #[.int .u8 (k : Int), .int .u64 (pr : Int), .string s, .int .i64 ru, .int .i64 re, .int .i64 li, .int .u32 (su : Int), .slice ua un uc] 27)) := (HBW.out.trans (B3.mono HBW.out.size)).trans ((below_alloc w3 _).mono (HBW.out.trans (B3.mono HBW.out.size)).size)
    have OI4 : OwnIB (w3.alloc (.cells #[.int .u8 (k : Int), .int .u64 (pr : Int), .string s, .int .i64 ru, .int .i64 re, .int .i64 li, .int .u32 (su : Int), .slice ua un uc] 27)) w.heap.size (.slice ua un uc) inn := (OI.below (below_alloc w3 _)).base HBW.out.size
    have HP4 := Lib.hid P4
    have HOE4 := Lib.hid OE4
    have HB4 := Lib.hid B4
    have HOI4 := Lib.hid OI4
    clear P4 OE4 B4 OI4 HOE HBW OI B3 HT CW HSD
    go_upto_region 4 with fail
    generalize (w3.alloc (.cells #[.int .u8 (k : Int), .int .u64 (pr : Int), .string s, .int .i64 ru, .int .i64 re, .int .i64 li, .int .u32 (su : Int), .slice ua un uc] 27)) = w4 at *
    generalize w3.heap.size = q at *
    have hz : N = 0 := by have := feN_le (b.drop 0) l.length; rw [HN.out, HB.out] at this; simpa using this
    have hd := decC_zero (HN.out.trans hz)
    have hi := HHI.out
    rw [hd, HE.out] at hi
    simp only [List.append_nil, Nat.add_zero] at hi
    have HI2 := Lib.hid hi
    clear hi hd
    have hzi : ((N : Int) == 0) = true := by simp; omega
    go_wp2_with fail
    go_ret3
    exact ⟨_, us, by rw [HI2.out]; rfl, by rw [HI2.out]; exact HOE4.out, HB4.out⟩
theorem decode_ok (w : World) (v : Value) (b : List UInt8) (h : SlC w v b) (hbl : b.length ≤ 140737488355328) (T : Tabs w) : Calls Tryd.prog 16 #[v] w (DeP w b) := by
  rcases h with ⟨rfl, hb⟩ | ⟨bb, off, c, rfl, h1⟩
  · exact decode_none w b hb T
  · exact decode_some w bb off _ c b (Or.inr ⟨bb, off, c, rfl, h1⟩) hbl T
end Go.Proofs.YtlbekgcfafofdaaDoor
