/- May an entry be? The document's MayBe. -/
import Derived.Test.YtlbekgcfafofdaaDoorDm
namespace Go.Proofs.YtlbekgcfafofdaaDoor
open Go.RowKit
set_option maxRecDepth 100000


set_option maxHeartbeats 6400000 in
theorem dmay5_raw (w : World) (pr : Nat) (s : ByteArray) (hs : s.size ≤ 140737488355328) (ru re li : Int) (su : Nat) (ua : Option Addr) (n uc : Nat) (M sm cl : Bool) (r1 : Bool) (hr1 : decide (ru < 0) = r1) (r2 : Bool) (hr2 : decide (131071 < ru) = r2) (r3 : Bool) (hr3 : decide (re < 0) = r3) (r4 : Bool) (hr4 : decide (1099511627776 < re) = r4) (r5 : Bool) (hr5 : decide (li < 0) = r5) (r6 : Bool) (hr6 : decide (1099511627776 < li) = r6) (b off : Nat) (l : List Int) (hl : n = l.length) (hl2 : l.length ≤ 17592186044416) (hn0 : l = [] ∨ (ua = some ⟨b, off, none⟩ ∧ b < w.heap.size ∧ ∀ (j : Nat) (hj : j < l.length), w.cell? ⟨b, off + j, none⟩ = some (.int .i64 l[j]))) (run : Bool) (hrun : runsUp (-1) l = run) (hM : M = (sm && (cl && (!r1 && (!r2 && (!r3 && (!r4 && (!r5 && (!r6 && (run && (decide (1 ≤ n) && decide (n ≤ 64)))))))))))) (hcl : cleanB s 64 = cl)
    (x : Ent) (BA : ∀ W, Below w.heap.size w W → Calls Tryd.prog 37 #[.agg #[.int .u8 5, .int .u64 pr, .string s, .int .i64 ru, .int .i64 re, .int .i64 li, .int .u32 su, .slice ua n uc]] W (RetE W x)) (SA : ∀ W v, SlI W v x.inn → Below w.heap.size w W → Calls Tryd.prog 13 #[.agg #[.int .u8 5, .int .u64 pr, .string s, .int .i64 ru, .int .i64 re, .int .i64 li, .int .u32 su, .slice ua n uc], eA x v] W (RetBelow W (.bool sm))) :
    Calls Tryd.prog 25 #[.agg #[.int .u8 5, .int .u64 pr, .string s, .int .i64 ru, .int .i64 re, .int .i64 li, .int .u32 su, .slice ua n uc]] w (RetBelow w (.bool M)) := by
  have HM := Lib.hid hM
  have HBA := Lib.hid BA
  have HSA := Lib.hid SA
  clear hM BA SA
  have CL := Lib.hid (fun W => dclean_ok s 64 W hs)
  rw [hcl] at CL
  clear hcl
  have HR := Lib.hid hrun
  have HL2 := Lib.hid hl2
  have HN := Lib.hid hn0
  have HLn := Lib.hid hl
  clear hrun hl2 hn0 hl
  have EB := CellsAt.new w [.int .u8 5, .int .u64 pr, .string s, .int .i64 ru, .int .i64 re, .int .i64 li, .int .u32 su, .slice ua n uc] 27
  have BE := below_alloc w (.cells #[.int .u8 5, .int .u64 pr, .string s, .int .i64 ru, .int .i64 re, .int .i64 li, .int .u32 su, .slice ua n uc] 27)
  have hz : (w.alloc (.cells #[.int .u8 5, .int .u64 pr, .string s, .int .i64 ru, .int .i64 re, .int .i64 li, .int .u32 su, .slice ua n uc] 27)).heap.size = w.heap.size + 1 := by simp
  go_enter Tryd.func25, Tryd.ntmps25
  go_upto_region 1 with fail
  change CellsAt (w.alloc (.cells #[.int .u8 5, .int .u64 pr, .string s, .int .i64 ru, .int .i64 re, .int .i64 li, .int .u32 su, .slice ua n uc] 27)) _ _ at EB
  generalize w.alloc (.cells #[.int .u8 5, .int .u64 pr, .string s, .int .i64 ru, .int .i64 re, .int .i64 li, .int .u32 su, .slice ua n uc] 27) = w1 at *
  have T1 : Stp w w1 := ⟨BE⟩
  have HZ := Lib.hid hz
  clear hz BE
  have c0 := EB.cell 0 _ rfl
  have c1 := EB.cell 1 _ rfl
  have c2 := EB.cell 2 _ rfl
  have c3 := EB.cell 3 _ rfl
  have c4 := EB.cell 4 _ rfl
  have c5 := EB.cell 5 _ rfl
  have c6 := EB.cell 6 _ rfl
  have c7 := EB.cell 7 _ rfl
  go_wp2_with fail
  refine (HBA.out w1 (inferInstance : Gr w w1).h).mono ?_
  rintro e w2 ⟨v2, rfl, s2, b2⟩
  have T2 : Stp w1 w2 := ⟨b2⟩
  have E2 : CellsAt w2 w.heap.size _ := EB.gr
  clear c0
  clear c1
  clear c2
  clear c3
  clear c4
  clear c5
  clear c6
  clear c7
  clear EB
  have c0 := E2.cell 0 _ rfl
  have c1 := E2.cell 1 _ rfl
  have c2 := E2.cell 2 _ rfl
  have c3 := E2.cell 3 _ rfl
  have c4 := E2.cell 4 _ rfl
  have c5 := E2.cell 5 _ rfl
  have c6 := E2.cell 6 _ rfl
  have c7 := E2.cell 7 _ rfl
  obtain ⟨va, vc, hv2, _⟩ := s2.form
  subst hv2
  have EX := CellsAt.new w2 [.int .u8 (x.k : Int), .int .u64 (x.pr : Int), .string (bs x.nm), .int .i64 x.ru, .int .i64 x.re, .int .i64 x.li, .int .u32 (x.su : Int), .slice va x.inn.length vc] 27
  have S3 : SlI (w2.alloc (.cells #[.int .u8 (x.k : Int), .int .u64 (x.pr : Int), .string (bs x.nm), .int .i64 x.ru, .int .i64 x.re, .int .i64 x.li, .int .u32 (x.su : Int), .slice va x.inn.length vc] 27)) _ x.inn := s2.below (below_alloc w2 _)
  have E3 : CellsAt (w2.alloc (.cells #[.int .u8 (x.k : Int), .int .u64 (x.pr : Int), .string (bs x.nm), .int .i64 x.ru, .int .i64 x.re, .int .i64 x.li, .int .u32 (x.su : Int), .slice va x.inn.length vc] 27)) w.heap.size _ := E2.gr
  have X3 := Lib.hid (HSA.out _ _ S3 (inferInstance : Gr w _).h)
  clear S3 s2 b2
  clear HSA HBA
  go_upto_region 3 with fail
  change CellsAt (w2.alloc (.cells #[.int .u8 (x.k : Int), .int .u64 (x.pr : Int), .string (bs x.nm), .int .i64 x.ru, .int .i64 x.re, .int .i64 x.li, .int .u32 (x.su : Int), .slice va x.inn.length vc] 27)) _ _ at EX
  have T3 : Stp w2 (w2.alloc (.cells #[.int .u8 (x.k : Int), .int .u64 (x.pr : Int), .string (bs x.nm), .int .i64 x.ru, .int .i64 x.re, .int .i64 x.li, .int .u32 (x.su : Int), .slice va x.inn.length vc] 27)) := inferInstance
  clear c0
  clear c1
  clear c2
  clear c3
  clear c4
  clear c5
  clear c6
  clear c7
  generalize w2.alloc (.cells #[.int .u8 (x.k : Int), .int .u64 (x.pr : Int), .string (bs x.nm), .int .i64 x.ru, .int .i64 x.re, .int .i64 x.li, .int .u32 (x.su : Int), .slice va x.inn.length vc] 27) = w3 at *
  have c0 := E3.cell 0 _ rfl
  have c1 := E3.cell 1 _ rfl
  have c2 := E3.cell 2 _ rfl
  have c3 := E3.cell 3 _ rfl
  have c4 := E3.cell 4 _ rfl
  have c5 := E3.cell 5 _ rfl
  have c6 := E3.cell 6 _ rfl
  have c7 := E3.cell 7 _ rfl
  have x0 := EX.cell 0 _ rfl
  have x1 := EX.cell 1 _ rfl
  have x2 := EX.cell 2 _ rfl
  have x3 := EX.cell 3 _ rfl
  have x4 := EX.cell 4 _ rfl
  have x5 := EX.cell 5 _ rfl
  have x6 := EX.cell 6 _ rfl
  have x7 := EX.cell 7 _ rfl
  clear EX
  go_wp2_with fail
  refine X3.out.mono ?_
  rintro e w4 ⟨rfl, b4⟩
  have T4 : Stp w3 w4 := ⟨b4⟩
  clear c0 x0
  clear c1 x1
  clear c2 x2
  clear c3 x3
  clear c4 x4
  clear c5 x5
  clear c6 x6
  clear c7 x7
  have E4 : CellsAt w4 w.heap.size _ := E3.gr
  have c0 := E4.cell 0 _ rfl
  have c1 := E4.cell 1 _ rfl
  have c2 := E4.cell 2 _ rfl
  have c3 := E4.cell 3 _ rfl
  have c4 := E4.cell 4 _ rfl
  have c5 := E4.cell 5 _ rfl
  have c6 := E4.cell 6 _ rfl
  have c7 := E4.cell 7 _ rfl
  have G4 := (inferInstance : Gr w w4).h
  have FIN := Lib.hid (fun (y : Nat) (q : Bool) (hq : M = q) {e : Ending} (he : e = .returned (.bool q)) => show RetBelow w (.bool M) e (w4.drewN y) from ⟨by rw [he, hq], G4.trans (bdrewB (Below.refl _ _) y)⟩)
  have HG4 := Lib.hid G4
  clear X3 E3 T4 T3 T2 T1 b4 G4 E2
  cases sm with
  | false =>
    go_wp2_with fail
    go_ret
    exact FIN.out 0 false (by rw [HM.out]; first | rfl | simp) rfl
  | true =>
  go_wp2_with fail
  refine (CL.out w4).mono ?_
  rintro e w5 ⟨rfl, rfl⟩
  cases cl with
  | false =>
    go_wp2_with fail
    go_ret
    exact FIN.out 0 false (by rw [HM.out]; first | rfl | simp) rfl
  | true =>
  cases r1 with
  | true =>
    go_wp2_with fail
    go_ret
    exact FIN.out 0 false (by rw [HM.out]; first | rfl | simp) rfl
  | false =>
  cases r2 with
  | true =>
    go_wp2_with fail
    go_ret
    exact FIN.out 0 false (by rw [HM.out]; first | rfl | simp) rfl
  | false =>
  cases r3 with
  | true =>
    go_wp2_with fail
    go_ret
    exact FIN.out 0 false (by rw [HM.out]; first | rfl | simp) rfl
  | false =>
  cases r4 with
  | true =>
    go_wp2_with fail
    go_ret
    exact FIN.out 0 false (by rw [HM.out]; first | rfl | simp) rfl
  | false =>
  cases r5 with
  | true =>
    go_wp2_with fail
    go_ret
    exact FIN.out 0 false (by rw [HM.out]; first | rfl | simp) rfl
  | false =>
  cases r6 with
  | true =>
    go_wp2_with fail
    go_ret
    exact FIN.out 0 false (by rw [HM.out]; first | rfl | simp) rfl
  | false =>
  have n0 : n ≤ 17592186044416 := by rw [HLn.out]; exact HL2.out
  have n1 : (n : Int) ≤ 17592186044416 := by omega
  go_wp2_with fail
  go_loopw [7] (fun i wr => DmRel w4 l i wr) (fun i _ => n - (intOf i).toNat)
  case atStart => exact ⟨0, Nat.zero_le _, rfl, rfl, 0, rfl⟩
  case round =>
    obtain ⟨j, hj, hr, rfl, y, rfl⟩ := hrel
    have HRj := Lib.hid hr
    clear hr
    rw [← HLn.out] at hj
    have FI2 := Lib.hid (fun (y' : Nat) (q : Bool) (hq : M = q) {e : Ending} (he : e = .returned (.bool q)) => show RetBelow w (.bool M) e ((w4.drewN y).drewN y') from ⟨by rw [he, hq], HG4.out.trans (bdrewB (bdrewB (Below.refl _ _) y) y')⟩)
    by_cases hlt : j < n
    · have hltl : j < l.length := by rw [← HLn.out]; exact hlt
      obtain ⟨hua, hbw, hcell⟩ := HN.out.resolve_left (by rintro rfl; simp at hltl)
      have HC := Lib.hid (fun (i : Nat) (hi : i < l.length) => ((bcell HG4.out).1 b (off + i) hbw).trans (hcell i hi))
      clear hcell hbw
      subst hua
      have cj := HC.out j hltl
      have e1 : l.take (j + 1) = l.take j ++ [l[j]] := List.take_succ_eq_append_getElem hltl
      have e3 : runsUp (-1) (l.take (j + 1)) = (decide (lastL (-1) (l.take j) < l[j]) && decide (l[j] ≤ 131071)) := by rw [e1, runs_app, HRj.out]; simp [runsUp]
      have e4 : runsUp (-1) (l.take (j + 1)) = false → run = false := by
        intro h
        rw [← HR.out, ← List.take_append_drop (j + 1) l, runs_app, h, Bool.false_and]
      have E3 := Lib.hid e3
      have E4 := Lib.hid e4
      clear e3 e4 e1
      by_cases hj0 : j = 0
      · subst hj0
        have hp : lastL (-1) (l.take 0) = -1 := rfl
        rw [hp] at E3
        clear hp
        have cj0 := cj
        rw [Nat.add_zero] at cj0
        generalize l[0] = z at *
        by_cases z1 : z < 0
        · have d1 : decide (z < 0) = true := decide_eq_true z1
          have hf : run = false := E4.out (by rw [E3.out, decide_eq_false (by omega)]; rfl)
          have HMF := Lib.hid (show M = false by rw [HM.out, hf]; rfl)
          clear z1 hf
          go_wp2_with fail
          go_quiet (fail)
          go_wp2_with fail
          go_ret
          exact FI2.out _ false HMF.out rfl
        · have d1 : decide (z < 0) = false := decide_eq_false z1
          by_cases z2 : 131071 < z
          · have d2 : decide (131071 < z) = true := decide_eq_true z2
            have hf : run = false := E4.out (by rw [E3.out, decide_eq_false (show ¬ z ≤ 131071 by omega)]; simp)
            have HMF := Lib.hid (show M = false by rw [HM.out, hf]; rfl)
            clear z1 z2 hf
            go_wp2_with fail
            go_quiet (fail)
            go_wp2_with fail
            go_ret
            exact FI2.out _ false HMF.out rfl
          · have d2 : decide (131071 < z) = false := decide_eq_false z2
            have KEY := Lib.hid (fun (y' : Nat) => show DmRel w4 l (.int .i64 1) (w4.drewN y') from ⟨1, hltl, by rw [E3.out, decide_eq_true (show (-1 : Int) < z by omega), decide_eq_true (show z ≤ 131071 by omega)]; rfl, rfl, y', rfl⟩)
            clear z1 z2
            go_wp2_with fail
            go_quiet (fail)
            go_wp2_with fail
            exact ⟨KEY.out _, by simp [intOf]; omega⟩
      · obtain ⟨i, rfl⟩ : ∃ i, j = i + 1 := ⟨j - 1, by omega⟩
        have hil : i < l.length := by omega
        have hp : lastL (-1) (l.take (i + 1)) = l[i] := by rw [List.take_succ_eq_append_getElem hil, lastL_snoc]
        have ci := HC.out i hil
        rw [hp] at E3
        have hp0 : -1 < l[i] := (runs_mem _ _ HRj.out l[i] (by rw [List.mem_take_iff_getElem]; exact ⟨i, by omega, rfl⟩)).1
        clear hp
        generalize hz : l[i + 1] = z at *
        generalize hpp : l[i] = p at *
        clear hz hpp
        have hJ : ((i + 1 : Nat) : Int) = (i : Int) + 1 := by omega
        have w1 : IntKind.i64.wrap ((i : Int) + 1 - 1) = (i : Int) := by unfold IntKind.wrap; simp [IntKind.bits, IntKind.signed]; omega
        have dj : decide (0 < ((i + 1 : Nat) : Int)) = true := decide_eq_true (by omega)
        have djn : decide (0 < i + 1) = true := decide_eq_true (by omega)
        have jp : 0 < i + 1 := by omega
        generalize hjj : i + 1 = j at *
        have w2 : IntKind.i64.wrap ((j : Int) - 1) = (i : Int) := by unfold IntKind.wrap; simp [IntKind.bits, IntKind.signed]; omega
        have w3 : (j : Int) - 1 = (i : Int) := by omega
        clear hJ w1 hj0 hjj hil
        by_cases z1 : z < 0
        · have d1 : decide (z < 0) = true := decide_eq_true z1
          have hf : run = false := E4.out (by rw [E3.out, decide_eq_false (by omega)]; rfl)
          have HMF := Lib.hid (show M = false by rw [HM.out, hf]; rfl)
          clear z1 hf
          go_wp2_with fail
          go_quiet (fail)
          go_wp2_with fail
          go_ret
          exact FI2.out _ false HMF.out rfl
        · have d1 : decide (z < 0) = false := decide_eq_false z1
          by_cases z2 : 131071 < z
          · have d2 : decide (131071 < z) = true := decide_eq_true z2
            have hf : run = false := E4.out (by rw [E3.out, decide_eq_false (show ¬ z ≤ 131071 by omega)]; simp)
            have HMF := Lib.hid (show M = false by rw [HM.out, hf]; rfl)
            clear z1 z2 hf
            go_wp2_with fail
            go_quiet (fail)
            go_wp2_with fail
            go_ret
            exact FI2.out _ false HMF.out rfl
          · have d2 : decide (131071 < z) = false := decide_eq_false z2
            by_cases z3 : z ≤ p
            · have d3 : decide (z ≤ p) = true := decide_eq_true z3
              have hf : run = false := E4.out (by rw [E3.out, decide_eq_false (by omega)]; rfl)
              have HMF := Lib.hid (show M = false by rw [HM.out, hf]; rfl)
              clear z1 z2 z3 hf
              go_wp2_with fail
              go_quiet (fail)
              go_wp2_with fail
              go_ret
              exact FI2.out _ false HMF.out rfl
            · have d3 : decide (z ≤ p) = false := decide_eq_false z3
              have KEY := Lib.hid (fun (y' : Nat) => show DmRel w4 l (.int .i64 ((j : Int) + 1)) (w4.drewN y') from ⟨j + 1, hltl, by rw [E3.out, decide_eq_true (show p < z by omega), decide_eq_true (show z ≤ 131071 by omega)]; rfl, by go_num, y', rfl⟩)
              clear z1 z2 z3
              go_wp2_with fail
              go_quiet (fail)
              go_wp2_with fail
              exact ⟨KEY.out _, by simp [intOf]; omega⟩
    · have hrt : run = true := by
        have h := HRj.out
        rw [List.take_of_length_le (by rw [← HLn.out]; omega)] at h
        rw [← HR.out]; exact h
      have HM2 := Lib.hid (show M = (decide (1 ≤ n) && decide (n ≤ 64)) by rw [HM.out, hrt]; rfl)
      clear hrt
      by_cases hn1 : 1 ≤ n
      · have d1 : decide (1 ≤ (n : Int)) = true := decide_eq_true (by omega)
        have d1n : decide (1 ≤ n) = true := decide_eq_true hn1
        by_cases hn2 : n ≤ 64
        · have d2 : decide ((n : Int) ≤ 64) = true := decide_eq_true (by omega)
          have d2n : decide (n ≤ 64) = true := decide_eq_true hn2
          have HMF := Lib.hid (show M = true by rw [HM2.out, d1n, d2n]; rfl)
          clear hn1 hn2
          go_wp2_with fail
          go_ret
          exact FIN.out y true HMF.out rfl
        · have d2 : decide ((n : Int) ≤ 64) = false := decide_eq_false (by omega)
          have d2n : decide (n ≤ 64) = false := decide_eq_false hn2
          have HMF := Lib.hid (show M = false by rw [HM2.out, d1n, d2n]; rfl)
          clear hn1 hn2
          go_wp2_with fail
          go_ret
          exact FIN.out y false HMF.out rfl
      · have d1 : decide (1 ≤ (n : Int)) = false := decide_eq_false (by omega)
        have d1n : decide (1 ≤ n) = false := decide_eq_false hn1
        have HMF := Lib.hid (show M = false by rw [HM2.out, d1n]; rfl)
        clear hn1
        go_wp2_with fail
        go_ret
        exact FIN.out y false HMF.out rfl
end Go.Proofs.YtlbekgcfafofdaaDoor
