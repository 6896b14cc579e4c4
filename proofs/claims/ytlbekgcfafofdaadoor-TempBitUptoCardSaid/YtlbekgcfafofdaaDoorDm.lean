/- May an entry be? The document's MayBe. -/
import Derived.Test.YtlbekgcfafofdaaDoorCn
namespace Go.Proofs.YtlbekgcfafofdaaDoor
open Go.RowKit
set_option maxRecDepth 100000

def DmRel (w : World) (l : List Int) (i : Value) (wr : World) : Prop := ∃ k : Nat, k ≤ l.length ∧ runsUp (-1) (l.take k) = true ∧ i = .int .i64 k ∧ ∃ q, wr = w.drewN q
set_option maxHeartbeats 6400000 in
theorem dmay1_raw (w : World) (pr : Nat) (s : ByteArray) (_hs : s.size ≤ 140737488355328) (ru re li : Int) (su : Nat) (ua : Option Addr) (n uc : Nat) (M sm cl : Bool) (r1 : Bool) (hr1 : decide (ru < 0) = r1) (r2 : Bool) (hr2 : decide (131071 < ru) = r2) (r3 : Bool) (hr3 : decide (re < 0) = r3) (r4 : Bool) (hr4 : decide (1099511627776 < re) = r4) (r5 : Bool) (hr5 : decide (li < 0) = r5) (r6 : Bool) (hr6 : decide (1099511627776 < li) = r6) (hM : M = (sm && (cl && (!r1 && (!r2 && (!r3 && (!r4 && (!r5 && (!r6 && true))))))))) (hcl : cl = true)
    (x : Ent) (BA : ∀ W, Below w.heap.size w W → Calls Tryd.prog 37 #[.agg #[.int .u8 1, .int .u64 pr, .string s, .int .i64 ru, .int .i64 re, .int .i64 li, .int .u32 su, .slice ua n uc]] W (RetE W x)) (SA : ∀ W v, SlI W v x.inn → Below w.heap.size w W → Calls Tryd.prog 13 #[.agg #[.int .u8 1, .int .u64 pr, .string s, .int .i64 ru, .int .i64 re, .int .i64 li, .int .u32 su, .slice ua n uc], eA x v] W (RetBelow W (.bool sm))) :
    Calls Tryd.prog 25 #[.agg #[.int .u8 1, .int .u64 pr, .string s, .int .i64 ru, .int .i64 re, .int .i64 li, .int .u32 su, .slice ua n uc]] w (RetBelow w (.bool M)) := by
  have HM := Lib.hid hM
  have HBA := Lib.hid BA
  have HSA := Lib.hid SA
  clear hM BA SA
  subst hcl
  have EB := CellsAt.new w [.int .u8 1, .int .u64 pr, .string s, .int .i64 ru, .int .i64 re, .int .i64 li, .int .u32 su, .slice ua n uc] 27
  have BE := below_alloc w (.cells #[.int .u8 1, .int .u64 pr, .string s, .int .i64 ru, .int .i64 re, .int .i64 li, .int .u32 su, .slice ua n uc] 27)
  have hz : (w.alloc (.cells #[.int .u8 1, .int .u64 pr, .string s, .int .i64 ru, .int .i64 re, .int .i64 li, .int .u32 su, .slice ua n uc] 27)).heap.size = w.heap.size + 1 := by simp
  go_enter Tryd.func25, Tryd.ntmps25
  go_upto_region 1 with fail
  change CellsAt (w.alloc (.cells #[.int .u8 1, .int .u64 pr, .string s, .int .i64 ru, .int .i64 re, .int .i64 li, .int .u32 su, .slice ua n uc] 27)) _ _ at EB
  generalize w.alloc (.cells #[.int .u8 1, .int .u64 pr, .string s, .int .i64 ru, .int .i64 re, .int .i64 li, .int .u32 su, .slice ua n uc] 27) = w1 at *
  have T1 : Stp w w1 := ⟨BE⟩
  have HZ := Lib.hid hz
  clear hz BE
  have c0 := EB.cell 0 _ rfl
  have c1 := EB.cell 1 _ rfl
  have c2 := EB.cell 2 _ rfl
  have c3 := EB.cell 3 _ rfl
  have c4 := EB.cell 4 _ rfl
  have c5 := EB.cell 5 _ rfl
  have c6 := EB.cell 6 _ rfl
  have c7 := EB.cell 7 _ rfl
  go_wp2_with fail
  refine (HBA.out w1 (inferInstance : Gr w w1).h).mono ?_
  rintro e w2 ⟨v2, rfl, s2, b2⟩
  have T2 : Stp w1 w2 := ⟨b2⟩
  have E2 : CellsAt w2 w.heap.size _ := EB.gr
  clear c0
  clear c1
  clear c2
  clear c3
  clear c4
  clear c5
  clear c6
  clear c7
  clear EB
  have c0 := E2.cell 0 _ rfl
  have c1 := E2.cell 1 _ rfl
  have c2 := E2.cell 2 _ rfl
  have c3 := E2.cell 3 _ rfl
  have c4 := E2.cell 4 _ rfl
  have c5 := E2.cell 5 _ rfl
  have c6 := E2.cell 6 _ rfl
  have c7 := E2.cell 7 _ rfl
  obtain ⟨va, vc, hv2, _⟩ := s2.form
  subst hv2
  have EX := CellsAt.new w2 [.int .u8 (x.k : Int), .int .u64 (x.pr : Int), .string (bs x.nm), .int .i64 x.ru, .int .i64 x.re, .int .i64 x.li, .int .u32 (x.su : Int), .slice va x.inn.length vc] 27
  have S3 : SlI (w2.alloc (.cells #[.int .u8 (x.k : Int), .int .u64 (x.pr : Int), .string (bs x.nm), .int .i64 x.ru, .int .i64 x.re, .int .i64 x.li, .int .u32 (x.su : Int), .slice va x.inn.length vc] 27)) _ x.inn := s2.below (below_alloc w2 _)
  have E3 : CellsAt (w2.alloc (.cells #[.int .u8 (x.k : Int), .int .u64 (x.pr : Int), .string (bs x.nm), .int .i64 x.ru, .int .i64 x.re, .int .i64 x.li, .int .u32 (x.su : Int), .slice va x.inn.length vc] 27)) w.heap.size _ := E2.gr
  have X3 := Lib.hid (HSA.out _ _ S3 (inferInstance : Gr w _).h)
  clear S3 s2 b2
  clear HSA HBA
  go_upto_region 3 with fail
  change CellsAt (w2.alloc (.cells #[.int .u8 (x.k : Int), .int .u64 (x.pr : Int), .string (bs x.nm), .int .i64 x.ru, .int .i64 x.re, .int .i64 x.li, .int .u32 (x.su : Int), .slice va x.inn.length vc] 27)) _ _ at EX
  have T3 : Stp w2 (w2.alloc (.cells #[.int .u8 (x.k : Int), .int .u64 (x.pr : Int), .string (bs x.nm), .int .i64 x.ru, .int .i64 x.re, .int .i64 x.li, .int .u32 (x.su : Int), .slice va x.inn.length vc] 27)) := inferInstance
  clear c0
  clear c1
  clear c2
  clear c3
  clear c4
  clear c5
  clear c6
  clear c7
  generalize w2.alloc (.cells #[.int .u8 (x.k : Int), .int .u64 (x.pr : Int), .string (bs x.nm), .int .i64 x.ru, .int .i64 x.re, .int .i64 x.li, .int .u32 (x.su : Int), .slice va x.inn.length vc] 27) = w3 at *
  have c0 := E3.cell 0 _ rfl
  have c1 := E3.cell 1 _ rfl
  have c2 := E3.cell 2 _ rfl
  have c3 := E3.cell 3 _ rfl
  have c4 := E3.cell 4 _ rfl
  have c5 := E3.cell 5 _ rfl
  have c6 := E3.cell 6 _ rfl
  have c7 := E3.cell 7 _ rfl
  have x0 := EX.cell 0 _ rfl
  have x1 := EX.cell 1 _ rfl
  have x2 := EX.cell 2 _ rfl
  have x3 := EX.cell 3 _ rfl
  have x4 := EX.cell 4 _ rfl
  have x5 := EX.cell 5 _ rfl
  have x6 := EX.cell 6 _ rfl
  have x7 := EX.cell 7 _ rfl
  clear EX
  go_wp2_with fail
  refine X3.out.mono ?_
  rintro e w4 ⟨rfl, b4⟩
  have T4 : Stp w3 w4 := ⟨b4⟩
  clear c0 x0
  clear c1 x1
  clear c2 x2
  clear c3 x3
  clear c4 x4
  clear c5 x5
  clear c6 x6
  clear c7 x7
  have E4 : CellsAt w4 w.heap.size _ := E3.gr
  have c0 := E4.cell 0 _ rfl
  have c1 := E4.cell 1 _ rfl
  have c2 := E4.cell 2 _ rfl
  have c3 := E4.cell 3 _ rfl
  have c4 := E4.cell 4 _ rfl
  have c5 := E4.cell 5 _ rfl
  have c6 := E4.cell 6 _ rfl
  have c7 := E4.cell 7 _ rfl
  have G4 := (inferInstance : Gr w w4).h
  have FIN := Lib.hid (fun (y : Nat) (q : Bool) (hq : M = q) {e : Ending} (he : e = .returned (.bool q)) => show RetBelow w (.bool M) e (w4.drewN y) from ⟨by rw [he, hq], G4.trans (bdrewB (Below.refl _ _) y)⟩)
  have HG4 := Lib.hid G4
  clear X3 E3 T4 T3 T2 T1 b4 G4 E2
  cases sm with
  | false =>
    go_wp2_with fail
    go_ret
    exact FIN.out 0 false (by rw [HM.out]; first | rfl | simp) rfl
  | true =>
  cases r1 with
  | true =>
    go_wp2_with fail
    go_ret
    exact FIN.out 0 false (by rw [HM.out]; first | rfl | simp) rfl
  | false =>
  cases r2 with
  | true =>
    go_wp2_with fail
    go_ret
    exact FIN.out 0 false (by rw [HM.out]; first | rfl | simp) rfl
  | false =>
  cases r3 with
  | true =>
    go_wp2_with fail
    go_ret
    exact FIN.out 0 false (by rw [HM.out]; first | rfl | simp) rfl
  | false =>
  cases r4 with
  | true =>
    go_wp2_with fail
    go_ret
    exact FIN.out 0 false (by rw [HM.out]; first | rfl | simp) rfl
  | false =>
  cases r5 with
  | true =>
    go_wp2_with fail
    go_ret
    exact FIN.out 0 false (by rw [HM.out]; first | rfl | simp) rfl
  | false =>
  cases r6 with
  | true =>
    go_wp2_with fail
    go_ret
    exact FIN.out 0 false (by rw [HM.out]; first | rfl | simp) rfl
  | false =>
  go_wp2_with fail
  go_ret
  exact FIN.out 0 true (by rw [HM.out]; first | rfl | simp) rfl
set_option maxHeartbeats 6400000 in
theorem dmay2_raw (w : World) (pr : Nat) (s : ByteArray) (hs : s.size ≤ 140737488355328) (ru re li : Int) (su : Nat) (ua : Option Addr) (n uc : Nat) (M sm cl : Bool) (r1 : Bool) (hr1 : decide (ru < 0) = r1) (r2 : Bool) (hr2 : decide (131071 < ru) = r2) (r3 : Bool) (hr3 : decide (re < 0) = r3) (r4 : Bool) (hr4 : decide (1099511627776 < re) = r4) (r5 : Bool) (hr5 : decide (li < 0) = r5) (r6 : Bool) (hr6 : decide (1099511627776 < li) = r6) (hM : M = (sm && (cl && (!r1 && (!r2 && (!r3 && (!r4 && (!r5 && (!r6 && true))))))))) (hcl : cleanB s 64 = cl)
    (x : Ent) (BA : ∀ W, Below w.heap.size w W → Calls Tryd.prog 37 #[.agg #[.int .u8 2, .int .u64 pr, .string s, .int .i64 ru, .int .i64 re, .int .i64 li, .int .u32 su, .slice ua n uc]] W (RetE W x)) (SA : ∀ W v, SlI W v x.inn → Below w.heap.size w W → Calls Tryd.prog 13 #[.agg #[.int .u8 2, .int .u64 pr, .string s, .int .i64 ru, .int .i64 re, .int .i64 li, .int .u32 su, .slice ua n uc], eA x v] W (RetBelow W (.bool sm))) :
    Calls Tryd.prog 25 #[.agg #[.int .u8 2, .int .u64 pr, .string s, .int .i64 ru, .int .i64 re, .int .i64 li, .int .u32 su, .slice ua n uc]] w (RetBelow w (.bool M)) := by
  have HM := Lib.hid hM
  have HBA := Lib.hid BA
  have HSA := Lib.hid SA
  clear hM BA SA
  have CL := Lib.hid (fun W => dclean_ok s 64 W hs)
  rw [hcl] at CL
  clear hcl
  have EB := CellsAt.new w [.int .u8 2, .int .u64 pr, .string s, .int .i64 ru, .int .i64 re, .int .i64 li, .int .u32 su, .slice ua n uc] 27
  have BE := below_alloc w (.cells #[.int .u8 2, .int .u64 pr, .string s, .int .i64 ru, .int .i64 re, .int .i64 li, .int .u32 su, .slice ua n uc] 27)
  have hz : (w.alloc (.cells #[.int .u8 2, .int .u64 pr, .string s, .int .i64 ru, .int .i64 re, .int .i64 li, .int .u32 su, .slice ua n uc] 27)).heap.size = w.heap.size + 1 := by simp
  go_enter Tryd.func25, Tryd.ntmps25
  go_upto_region 1 with fail
  change CellsAt (w.alloc (.cells #[.int .u8 2, .int .u64 pr, .string s, .int .i64 ru, .int .i64 re, .int .i64 li, .int .u32 su, .slice ua n uc] 27)) _ _ at EB
  generalize w.alloc (.cells #[.int .u8 2, .int .u64 pr, .string s, .int .i64 ru, .int .i64 re, .int .i64 li, .int .u32 su, .slice ua n uc] 27) = w1 at *
  have T1 : Stp w w1 := ⟨BE⟩
  have HZ := Lib.hid hz
  clear hz BE
  have c0 := EB.cell 0 _ rfl
  have c1 := EB.cell 1 _ rfl
  have c2 := EB.cell 2 _ rfl
  have c3 := EB.cell 3 _ rfl
  have c4 := EB.cell 4 _ rfl
  have c5 := EB.cell 5 _ rfl
  have c6 := EB.cell 6 _ rfl
  have c7 := EB.cell 7 _ rfl
  go_wp2_with fail
  refine (HBA.out w1 (inferInstance : Gr w w1).h).mono ?_
  rintro e w2 ⟨v2, rfl, s2, b2⟩
  have T2 : Stp w1 w2 := ⟨b2⟩
  have E2 : CellsAt w2 w.heap.size _ := EB.gr
  clear c0
  clear c1
  clear c2
  clear c3
  clear c4
  clear c5
  clear c6
  clear c7
  clear EB
  have c0 := E2.cell 0 _ rfl
  have c1 := E2.cell 1 _ rfl
  have c2 := E2.cell 2 _ rfl
  have c3 := E2.cell 3 _ rfl
  have c4 := E2.cell 4 _ rfl
  have c5 := E2.cell 5 _ rfl
  have c6 := E2.cell 6 _ rfl
  have c7 := E2.cell 7 _ rfl
  obtain ⟨va, vc, hv2, _⟩ := s2.form
  subst hv2
  have EX := CellsAt.new w2 [.int .u8 (x.k : Int), .int .u64 (x.pr : Int), .string (bs x.nm), .int .i64 x.ru, .int .i64 x.re, .int .i64 x.li, .int .u32 (x.su : Int), .slice va x.inn.length vc] 27
  have S3 : SlI (w2.alloc (.cells #[.int .u8 (x.k : Int), .int .u64 (x.pr : Int), .string (bs x.nm), .int .i64 x.ru, .int .i64 x.re, .int .i64 x.li, .int .u32 (x.su : Int), .slice va x.inn.length vc] 27)) _ x.inn := s2.below (below_alloc w2 _)
  have E3 : CellsAt (w2.alloc (.cells #[.int .u8 (x.k : Int), .int .u64 (x.pr : Int), .string (bs x.nm), .int .i64 x.ru, .int .i64 x.re, .int .i64 x.li, .int .u32 (x.su : Int), .slice va x.inn.length vc] 27)) w.heap.size _ := E2.gr
  have X3 := Lib.hid (HSA.out _ _ S3 (inferInstance : Gr w _).h)
  clear S3 s2 b2
  clear HSA HBA
  go_upto_region 3 with fail
  change CellsAt (w2.alloc (.cells #[.int .u8 (x.k : Int), .int .u64 (x.pr : Int), .string (bs x.nm), .int .i64 x.ru, .int .i64 x.re, .int .i64 x.li, .int .u32 (x.su : Int), .slice va x.inn.length vc] 27)) _ _ at EX
  have T3 : Stp w2 (w2.alloc (.cells #[.int .u8 (x.k : Int), .int .u64 (x.pr : Int), .string (bs x.nm), .int .i64 x.ru, .int .i64 x.re, .int .i64 x.li, .int .u32 (x.su : Int), .slice va x.inn.length vc] 27)) := inferInstance
  clear c0
  clear c1
  clear c2
  clear c3
  clear c4
  clear c5
  clear c6
  clear c7
  generalize w2.alloc (.cells #[.int .u8 (x.k : Int), .int .u64 (x.pr : Int), .string (bs x.nm), .int .i64 x.ru, .int .i64 x.re, .int .i64 x.li, .int .u32 (x.su : Int), .slice va x.inn.length vc] 27) = w3 at *
  have c0 := E3.cell 0 _ rfl
  have c1 := E3.cell 1 _ rfl
  have c2 := E3.cell 2 _ rfl
  have c3 := E3.cell 3 _ rfl
  have c4 := E3.cell 4 _ rfl
  have c5 := E3.cell 5 _ rfl
  have c6 := E3.cell 6 _ rfl
  have c7 := E3.cell 7 _ rfl
  have x0 := EX.cell 0 _ rfl
  have x1 := EX.cell 1 _ rfl
  have x2 := EX.cell 2 _ rfl
  have x3 := EX.cell 3 _ rfl
  have x4 := EX.cell 4 _ rfl
  have x5 := EX.cell 5 _ rfl
  have x6 := EX.cell 6 _ rfl
  have x7 := EX.cell 7 _ rfl
  clear EX
  go_wp2_with fail
  refine X3.out.mono ?_
  rintro e w4 ⟨rfl, b4⟩
  have T4 : Stp w3 w4 := ⟨b4⟩
  clear c0 x0
  clear c1 x1
  clear c2 x2
  clear c3 x3
  clear c4 x4
  clear c5 x5
  clear c6 x6
  clear c7 x7
  have E4 : CellsAt w4 w.heap.size _ := E3.gr
  have c0 := E4.cell 0 _ rfl
  have c1 := E4.cell 1 _ rfl
  have c2 := E4.cell 2 _ rfl
  have c3 := E4.cell 3 _ rfl
  have c4 := E4.cell 4 _ rfl
  have c5 := E4.cell 5 _ rfl
  have c6 := E4.cell 6 _ rfl
  have c7 := E4.cell 7 _ rfl
  have G4 := (inferInstance : Gr w w4).h
  have FIN := Lib.hid (fun (y : Nat) (q : Bool) (hq : M = q) {e : Ending} (he : e = .returned (.bool q)) => show RetBelow w (.bool M) e (w4.drewN y) from ⟨by rw [he, hq], G4.trans (bdrewB (Below.refl _ _) y)⟩)
  have HG4 := Lib.hid G4
  clear X3 E3 T4 T3 T2 T1 b4 G4 E2
  cases sm with
  | false =>
    go_wp2_with fail
    go_ret
    exact FIN.out 0 false (by rw [HM.out]; first | rfl | simp) rfl
  | true =>
  go_wp2_with fail
  refine (CL.out w4).mono ?_
  rintro e w5 ⟨rfl, rfl⟩
  cases cl with
  | false =>
    go_wp2_with fail
    go_ret
    exact FIN.out 0 false (by rw [HM.out]; first | rfl | simp) rfl
  | true =>
  cases r1 with
  | true =>
    go_wp2_with fail
    go_ret
    exact FIN.out 0 false (by rw [HM.out]; first | rfl | simp) rfl
  | false =>
  cases r2 with
  | true =>
    go_wp2_with fail
    go_ret
    exact FIN.out 0 false (by rw [HM.out]; first | rfl | simp) rfl
  | false =>
  cases r3 with
  | true =>
    go_wp2_with fail
    go_ret
    exact FIN.out 0 false (by rw [HM.out]; first | rfl | simp) rfl
  | false =>
  cases r4 with
  | true =>
    go_wp2_with fail
    go_ret
    exact FIN.out 0 false (by rw [HM.out]; first | rfl | simp) rfl
  | false =>
  cases r5 with
  | true =>
    go_wp2_with fail
    go_ret
    exact FIN.out 0 false (by rw [HM.out]; first | rfl | simp) rfl
  | false =>
  cases r6 with
  | true =>
    go_wp2_with fail
    go_ret
    exact FIN.out 0 false (by rw [HM.out]; first | rfl | simp) rfl
  | false =>
  go_wp2_with fail
  go_ret
  exact FIN.out 0 true (by rw [HM.out]; first | rfl | simp) rfl
set_option maxHeartbeats 6400000 in
theorem dmay3_raw (w : World) (pr : Nat) (s : ByteArray) (hs : s.size ≤ 140737488355328) (ru re li : Int) (su : Nat) (ua : Option Addr) (n uc : Nat) (M sm cl : Bool) (r1 : Bool) (hr1 : decide (ru < 0) = r1) (r2 : Bool) (hr2 : decide (131071 < ru) = r2) (r3 : Bool) (hr3 : decide (re < 0) = r3) (r4 : Bool) (hr4 : decide (1099511627776 < re) = r4) (r5 : Bool) (hr5 : decide (li < 0) = r5) (r6 : Bool) (hr6 : decide (1099511627776 < li) = r6) (hM : M = (sm && (cl && (!r1 && (!r2 && (!r3 && (!r4 && (!r5 && (!r6 && true))))))))) (hcl : cleanB s 64 = cl)
    (x : Ent) (BA : ∀ W, Below w.heap.size w W → Calls Tryd.prog 37 #[.agg #[.int .u8 3, .int .u64 pr, .string s, .int .i64 ru, .int .i64 re, .int .i64 li, .int .u32 su, .slice ua n uc]] W (RetE W x)) (SA : ∀ W v, SlI W v x.inn → Below w.heap.size w W → Calls Tryd.prog 13 #[.agg #[.int .u8 3, .int .u64 pr, .string s, .int .i64 ru, .int .i64 re, .int .i64 li, .int .u32 su, .slice ua n uc], eA x v] W (RetBelow W (.bool sm))) :
    Calls Tryd.prog 25 #[.agg #[.int .u8 3, .int .u64 pr, .string s, .int .i64 ru, .int .i64 re, .int .i64 li, .int .u32 su, .slice ua n uc]] w (RetBelow w (.bool M)) := by
  have HM := Lib.hid hM
  have HBA := Lib.hid BA
  have HSA := Lib.hid SA
  clear hM BA SA
  have CL := Lib.hid (fun W => dclean_ok s 64 W hs)
  rw [hcl] at CL
  clear hcl
  have EB := CellsAt.new w [.int .u8 3, .int .u64 pr, .string s, .int .i64 ru, .int .i64 re, .int .i64 li, .int .u32 su, .slice ua n uc] 27
  have BE := below_alloc w (.cells #[.int .u8 3, .int .u64 pr, .string s, .int .i64 ru, .int .i64 re, .int .i64 li, .int .u32 su, .slice ua n uc] 27)
  have hz : (w.alloc (.cells #[.int .u8 3, .int .u64 pr, .string s, .int .i64 ru, .int .i64 re, .int .i64 li, .int .u32 su, .slice ua n uc] 27)).heap.size = w.heap.size + 1 := by simp
  go_enter Tryd.func25, Tryd.ntmps25
  go_upto_region 1 with fail
  change CellsAt (w.alloc (.cells #[.int .u8 3, .int .u64 pr, .string s, .int .i64 ru, .int .i64 re, .int .i64 li, .int .u32 su, .slice ua n uc] 27)) _ _ at EB
  generalize w.alloc (.cells #[.int .u8 3, .int .u64 pr, .string s, .int .i64 ru, .int .i64 re, .int .i64 li, .int .u32 su, .slice ua n uc] 27) = w1 at *
  have T1 : Stp w w1 := ⟨BE⟩
  have HZ := Lib.hid hz
  clear hz BE
  have c0 := EB.cell 0 _ rfl
  have c1 := EB.cell 1 _ rfl
  have c2 := EB.cell 2 _ rfl
  have c3 := EB.cell 3 _ rfl
  have c4 := EB.cell 4 _ rfl
  have c5 := EB.cell 5 _ rfl
  have c6 := EB.cell 6 _ rfl
  have c7 := EB.cell 7 _ rfl
  go_wp2_with fail
  refine (HBA.out w1 (inferInstance : Gr w w1).h).mono ?_
  rintro e w2 ⟨v2, rfl, s2, b2⟩
  have T2 : Stp w1 w2 := ⟨b2⟩
  have E2 : CellsAt w2 w.heap.size _ := EB.gr
  clear c0
  clear c1
  clear c2
  clear c3
  clear c4
  clear c5
  clear c6
  clear c7
  clear EB
  have c0 := E2.cell 0 _ rfl
  have c1 := E2.cell 1 _ rfl
  have c2 := E2.cell 2 _ rfl
  have c3 := E2.cell 3 _ rfl
  have c4 := E2.cell 4 _ rfl
  have c5 := E2.cell 5 _ rfl
  have c6 := E2.cell 6 _ rfl
  have c7 := E2.cell 7 _ rfl
  obtain ⟨va, vc, hv2, _⟩ := s2.form
  subst hv2
  have EX := CellsAt.new w2 [.int .u8 (x.k : Int), .int .u64 (x.pr : Int), .string (bs x.nm), .int .i64 x.ru, .int .i64 x.re, .int .i64 x.li, .int .u32 (x.su : Int), .slice va x.inn.length vc] 27
  have S3 : SlI (w2.alloc (.cells #[.int .u8 (x.k : Int), .int .u64 (x.pr : Int), .string (bs x.nm), .int .i64 x.ru, .int .i64 x.re, .int .i64 x.li, .int .u32 (x.su : Int), .slice va x.inn.length vc] 27)) _ x.inn := s2.below (below_alloc w2 _)
  have E3 : CellsAt (w2.alloc (.cells #[.int .u8 (x.k : Int), .int .u64 (x.pr : Int), .string (bs x.nm), .int .i64 x.ru, .int .i64 x.re, .int .i64 x.li, .int .u32 (x.su : Int), .slice va x.inn.length vc] 27)) w.heap.size _ := E2.gr
  have X3 := Lib.hid (HSA.out _ _ S3 (inferInstance : Gr w _).h)
  clear S3 s2 b2
  clear HSA HBA
  go_upto_region 3 with fail
  change CellsAt (w2.alloc (.cells #[.int .u8 (x.k : Int), .int .u64 (x.pr : Int), .string (bs x.nm), .int .i64 x.ru, .int .i64 x.re, .int .i64 x.li, .int .u32 (x.su : Int), .slice va x.inn.length vc] 27)) _ _ at EX
  have T3 : Stp w2 (w2.alloc (.cells #[.int .u8 (x.k : Int), .int .u64 (x.pr : Int), .string (bs x.nm), .int .i64 x.ru, .int .i64 x.re, .int .i64 x.li, .int .u32 (x.su : Int), .slice va x.inn.length vc] 27)) := inferInstance
  clear c0
  clear c1
  clear c2
  clear c3
  clear c4
  clear c5
  clear c6
  clear c7
  generalize w2.alloc (.cells #[.int .u8 (x.k : Int), .int .u64 (x.pr : Int), .string (bs x.nm), .int .i64 x.ru, .int .i64 x.re, .int .i64 x.li, .int .u32 (x.su : Int), .slice va x.inn.length vc] 27) = w3 at *
  have c0 := E3.cell 0 _ rfl
  have c1 := E3.cell 1 _ rfl
  have c2 := E3.cell 2 _ rfl
  have c3 := E3.cell 3 _ rfl
  have c4 := E3.cell 4 _ rfl
  have c5 := E3.cell 5 _ rfl
  have c6 := E3.cell 6 _ rfl
  have c7 := E3.cell 7 _ rfl
  have x0 := EX.cell 0 _ rfl
  have x1 := EX.cell 1 _ rfl
  have x2 := EX.cell 2 _ rfl
  have x3 := EX.cell 3 _ rfl
  have x4 := EX.cell 4 _ rfl
  have x5 := EX.cell 5 _ rfl
  have x6 := EX.cell 6 _ rfl
  have x7 := EX.cell 7 _ rfl
  clear EX
  go_wp2_with fail
  refine X3.out.mono ?_
  rintro e w4 ⟨rfl, b4⟩
  have T4 : Stp w3 w4 := ⟨b4⟩
  clear c0 x0
  clear c1 x1
  clear c2 x2
  clear c3 x3
  clear c4 x4
  clear c5 x5
  clear c6 x6
  clear c7 x7
  have E4 : CellsAt w4 w.heap.size _ := E3.gr
  have c0 := E4.cell 0 _ rfl
  have c1 := E4.cell 1 _ rfl
  have c2 := E4.cell 2 _ rfl
  have c3 := E4.cell 3 _ rfl
  have c4 := E4.cell 4 _ rfl
  have c5 := E4.cell 5 _ rfl
  have c6 := E4.cell 6 _ rfl
  have c7 := E4.cell 7 _ rfl
  have G4 := (inferInstance : Gr w w4).h
  have FIN := Lib.hid (fun (y : Nat) (q : Bool) (hq : M = q) {e : Ending} (he : e = .returned (.bool q)) => show RetBelow w (.bool M) e (w4.drewN y) from ⟨by rw [he, hq], G4.trans (bdrewB (Below.refl _ _) y)⟩)
  have HG4 := Lib.hid G4
  clear X3 E3 T4 T3 T2 T1 b4 G4 E2
  cases sm with
  | false =>
    go_wp2_with fail
    go_ret
    exact FIN.out 0 false (by rw [HM.out]; first | rfl | simp) rfl
  | true =>
  go_wp2_with fail
  refine (CL.out w4).mono ?_
  rintro e w5 ⟨rfl, rfl⟩
  cases cl with
  | false =>
    go_wp2_with fail
    go_ret
    exact FIN.out 0 false (by rw [HM.out]; first | rfl | simp) rfl
  | true =>
  cases r1 with
  | true =>
    go_wp2_with fail
    go_ret
    exact FIN.out 0 false (by rw [HM.out]; first | rfl | simp) rfl
  | false =>
  cases r2 with
  | true =>
    go_wp2_with fail
    go_ret
    exact FIN.out 0 false (by rw [HM.out]; first | rfl | simp) rfl
  | false =>
  cases r3 with
  | true =>
    go_wp2_with fail
    go_ret
    exact FIN.out 0 false (by rw [HM.out]; first | rfl | simp) rfl
  | false =>
  cases r4 with
  | true =>
    go_wp2_with fail
    go_ret
    exact FIN.out 0 false (by rw [HM.out]; first | rfl | simp) rfl
  | false =>
  cases r5 with
  | true =>
    go_wp2_with fail
    go_ret
    exact FIN.out 0 false (by rw [HM.out]; first | rfl | simp) rfl
  | false =>
  cases r6 with
  | true =>
    go_wp2_with fail
    go_ret
    exact FIN.out 0 false (by rw [HM.out]; first | rfl | simp) rfl
  | false =>
  go_wp2_with fail
  go_ret
  exact FIN.out 0 true (by rw [HM.out]; first | rfl | simp) rfl
set_option maxHeartbeats 6400000 in
theorem dmay4_raw (w : World) (pr : Nat) (s : ByteArray) (_hs : s.size ≤ 140737488355328) (ru re li : Int) (su : Nat) (ua : Option Addr) (n uc : Nat) (M sm cl : Bool) (r1 : Bool) (hr1 : decide (ru < 0) = r1) (r2 : Bool) (hr2 : decide (131071 < ru) = r2) (r3 : Bool) (hr3 : decide (re < 0) = r3) (r4 : Bool) (hr4 : decide (1099511627776 < re) = r4) (r5 : Bool) (hr5 : decide (li < 0) = r5) (r6 : Bool) (hr6 : decide (1099511627776 < li) = r6) (hM : M = (sm && (cl && (!r1 && (!r2 && (!r3 && (!r4 && (!r5 && (!r6 && true))))))))) (hcl : cl = true)
    (x : Ent) (BA : ∀ W, Below w.heap.size w W → Calls Tryd.prog 37 #[.agg #[.int .u8 4, .int .u64 pr, .string s, .int .i64 ru, .int .i64 re, .int .i64 li, .int .u32 su, .slice ua n uc]] W (RetE W x)) (SA : ∀ W v, SlI W v x.inn → Below w.heap.size w W → Calls Tryd.prog 13 #[.agg #[.int .u8 4, .int .u64 pr, .string s, .int .i64 ru, .int .i64 re, .int .i64 li, .int .u32 su, .slice ua n uc], eA x v] W (RetBelow W (.bool sm))) :
    Calls Tryd.prog 25 #[.agg #[.int .u8 4, .int .u64 pr, .string s, .int .i64 ru, .int .i64 re, .int .i64 li, .int .u32 su, .slice ua n uc]] w (RetBelow w (.bool M)) := by
  have HM := Lib.hid hM
  have HBA := Lib.hid BA
  have HSA := Lib.hid SA
  clear hM BA SA
  subst hcl
  have EB := CellsAt.new w [.int .u8 4, .int .u64 pr, .string s, .int .i64 ru, .int .i64 re, .int .i64 li, .int .u32 su, .slice ua n uc] 27
  have BE := below_alloc w (.cells #[.int .u8 4, .int .u64 pr, .string s, .int .i64 ru, .int .i64 re, .int .i64 li, .int .u32 su, .slice ua n uc] 27)
  have hz : (w.alloc (.cells #[.int .u8 4, .int .u64 pr, .string s, .int .i64 ru, .int .i64 re, .int .i64 li, .int .u32 su, .slice ua n uc] 27)).heap.size = w.heap.size + 1 := by simp
  go_enter Tryd.func25, Tryd.ntmps25
  go_upto_region 1 with fail
  change CellsAt (w.alloc (.cells #[.int .u8 4, .int .u64 pr, .string s, .int .i64 ru, .int .i64 re, .int .i64 li, .int .u32 su, .slice ua n uc] 27)) _ _ at EB
  generalize w.alloc (.cells #[.int .u8 4, .int .u64 pr, .string s, .int .i64 ru, .int .i64 re, .int .i64 li, .int .u32 su, .slice ua n uc] 27) = w1 at *
  have T1 : Stp w w1 := ⟨BE⟩
  have HZ := Lib.hid hz
  clear hz BE
  have c0 := EB.cell 0 _ rfl
  have c1 := EB.cell 1 _ rfl
  have c2 := EB.cell 2 _ rfl
  have c3 := EB.cell 3 _ rfl
  have c4 := EB.cell 4 _ rfl
  have c5 := EB.cell 5 _ rfl
  have c6 := EB.cell 6 _ rfl
  have c7 := EB.cell 7 _ rfl
  go_wp2_with fail
  refine (HBA.out w1 (inferInstance : Gr w w1).h).mono ?_
  rintro e w2 ⟨v2, rfl, s2, b2⟩
  have T2 : Stp w1 w2 := ⟨b2⟩
  have E2 : CellsAt w2 w.heap.size _ := EB.gr
  clear c0
  clear c1
  clear c2
  clear c3
  clear c4
  clear c5
  clear c6
  clear c7
  clear EB
  have c0 := E2.cell 0 _ rfl
  have c1 := E2.cell 1 _ rfl
  have c2 := E2.cell 2 _ rfl
  have c3 := E2.cell 3 _ rfl
  have c4 := E2.cell 4 _ rfl
  have c5 := E2.cell 5 _ rfl
  have c6 := E2.cell 6 _ rfl
  have c7 := E2.cell 7 _ rfl
  obtain ⟨va, vc, hv2, _⟩ := s2.form
  subst hv2
  have EX := CellsAt.new w2 [.int .u8 (x.k : Int), .int .u64 (x.pr : Int), .string (bs x.nm), .int .i64 x.ru, .int .i64 x.re, .int .i64 x.li, .int .u32 (x.su : Int), .slice va x.inn.length vc] 27
  have S3 : SlI (w2.alloc (.cells #[.int .u8 (x.k : Int), .int .u64 (x.pr : Int), .string (bs x.nm), .int .i64 x.ru, .int .i64 x.re, .int .i64 x.li, .int .u32 (x.su : Int), .slice va x.inn.length vc] 27)) _ x.inn := s2.below (below_alloc w2 _)
  have E3 : CellsAt (w2.alloc (.cells #[.int .u8 (x.k : Int), .int .u64 (x.pr : Int), .string (bs x.nm), .int .i64 x.ru, .int .i64 x.re, .int .i64 x.li, .int .u32 (x.su : Int), .slice va x.inn.length vc] 27)) w.heap.size _ := E2.gr
  have X3 := Lib.hid (HSA.out _ _ S3 (inferInstance : Gr w _).h)
  clear S3 s2 b2
  clear HSA HBA
  go_upto_region 3 with fail
  change CellsAt (w2.alloc (.cells #[.int .u8 (x.k : Int), .int .u64 (x.pr : Int), .string (bs x.nm), .int .i64 x.ru, .int .i64 x.re, .int .i64 x.li, .int .u32 (x.su : Int), .slice va x.inn.length vc] 27)) _ _ at EX
  have T3 : Stp w2 (w2.alloc (.cells #[.int .u8 (x.k : Int), .int .u64 (x.pr : Int), .string (bs x.nm), .int .i64 x.ru, .int .i64 x.re, .int .i64 x.li, .int .u32 (x.su : Int), .slice va x.inn.length vc] 27)) := inferInstance
  clear c0
  clear c1
  clear c2
  clear c3
  clear c4
  clear c5
  clear c6
  clear c7
  generalize w2.alloc (.cells #[.int .u8 (x.k : Int), .int .u64 (x.pr : Int), .string (bs x.nm), .int .i64 x.ru, .int .i64 x.re, .int .i64 x.li, .int .u32 (x.su : Int), .slice va x.inn.length vc] 27) = w3 at *
  have c0 := E3.cell 0 _ rfl
  have c1 := E3.cell 1 _ rfl
  have c2 := E3.cell 2 _ rfl
  have c3 := E3.cell 3 _ rfl
  have c4 := E3.cell 4 _ rfl
  have c5 := E3.cell 5 _ rfl
  have c6 := E3.cell 6 _ rfl
  have c7 := E3.cell 7 _ rfl
  have x0 := EX.cell 0 _ rfl
  have x1 := EX.cell 1 _ rfl
  have x2 := EX.cell 2 _ rfl
  have x3 := EX.cell 3 _ rfl
  have x4 := EX.cell 4 _ rfl
  have x5 := EX.cell 5 _ rfl
  have x6 := EX.cell 6 _ rfl
  have x7 := EX.cell 7 _ rfl
  clear EX
  go_wp2_with fail
  refine X3.out.mono ?_
  rintro e w4 ⟨rfl, b4⟩
  have T4 : Stp w3 w4 := ⟨b4⟩
  clear c0 x0
  clear c1 x1
  clear c2 x2
  clear c3 x3
  clear c4 x4
  clear c5 x5
  clear c6 x6
  clear c7 x7
  have E4 : CellsAt w4 w.heap.size _ := E3.gr
  have c0 := E4.cell 0 _ rfl
  have c1 := E4.cell 1 _ rfl
  have c2 := E4.cell 2 _ rfl
  have c3 := E4.cell 3 _ rfl
  have c4 := E4.cell 4 _ rfl
  have c5 := E4.cell 5 _ rfl
  have c6 := E4.cell 6 _ rfl
  have c7 := E4.cell 7 _ rfl
  have G4 := (inferInstance : Gr w w4).h
  have FIN := Lib.hid (fun (y : Nat) (q : Bool) (hq : M = q) {e : Ending} (he : e = .returned (.bool q)) => show RetBelow w (.bool M) e (w4.drewN y) from ⟨by rw [he, hq], G4.trans (bdrewB (Below.refl _ _) y)⟩)
  have HG4 := Lib.hid G4
  clear X3 E3 T4 T3 T2 T1 b4 G4 E2
  cases sm with
  | false =>
    go_wp2_with fail
    go_ret
    exact FIN.out 0 false (by rw [HM.out]; first | rfl | simp) rfl
  | true =>
  cases r1 with
  | true =>
    go_wp2_with fail
    go_ret
    exact FIN.out 0 false (by rw [HM.out]; first | rfl | simp) rfl
  | false =>
  cases r2 with
  | true =>
    go_wp2_with fail
    go_ret
    exact FIN.out 0 false (by rw [HM.out]; first | rfl | simp) rfl
  | false =>
  cases r3 with
  | true =>
    go_wp2_with fail
    go_ret
    exact FIN.out 0 false (by rw [HM.out]; first | rfl | simp) rfl
  | false =>
  cases r4 with
  | true =>
    go_wp2_with fail
    go_ret
    exact FIN.out 0 false (by rw [HM.out]; first | rfl | simp) rfl
  | false =>
  cases r5 with
  | true =>
    go_wp2_with fail
    go_ret
    exact FIN.out 0 false (by rw [HM.out]; first | rfl | simp) rfl
  | false =>
  cases r6 with
  | true =>
    go_wp2_with fail
    go_ret
    exact FIN.out 0 false (by rw [HM.out]; first | rfl | simp) rfl
  | false =>
  go_wp2_with fail
  go_ret
  exact FIN.out 0 true (by rw [HM.out]; first | rfl | simp) rfl
set_option maxHeartbeats 6400000 in
theorem dmay6_raw (w : World) (pr : Nat) (s : ByteArray) (_hs : s.size ≤ 140737488355328) (ru re li : Int) (su : Nat) (ua : Option Addr) (n uc : Nat) (M sm cl : Bool) (r1 : Bool) (hr1 : decide (ru < 0) = r1) (r2 : Bool) (hr2 : decide (131071 < ru) = r2) (r3 : Bool) (hr3 : decide (re < 0) = r3) (r4 : Bool) (hr4 : decide (1099511627776 < re) = r4) (r5 : Bool) (hr5 : decide (li < 0) = r5) (r6 : Bool) (hr6 : decide (1099511627776 < li) = r6) (hM : M = (sm && (cl && (!r1 && (!r2 && (!r3 && (!r4 && (!r5 && (!r6 && true))))))))) (hcl : cl = true)
    (x : Ent) (BA : ∀ W, Below w.heap.size w W → Calls Tryd.prog 37 #[.agg #[.int .u8 6, .int .u64 pr, .string s, .int .i64 ru, .int .i64 re, .int .i64 li, .int .u32 su, .slice ua n uc]] W (RetE W x)) (SA : ∀ W v, SlI W v x.inn → Below w.heap.size w W → Calls Tryd.prog 13 #[.agg #[.int .u8 6, .int .u64 pr, .string s, .int .i64 ru, .int .i64 re, .int .i64 li, .int .u32 su, .slice ua n uc], eA x v] W (RetBelow W (.bool sm))) :
    Calls Tryd.prog 25 #[.agg #[.int .u8 6, .int .u64 pr, .string s, .int .i64 ru, .int .i64 re, .int .i64 li, .int .u32 su, .slice ua n uc]] w (RetBelow w (.bool M)) := by
  have HM := Lib.hid hM
  have HBA := Lib.hid BA
  have HSA := Lib.hid SA
  clear hM BA SA
  subst hcl
  have EB := CellsAt.new w [.int .u8 6, .int .u64 pr, .string s, .int .i64 ru, .int .i64 re, .int .i64 li, .int .u32 su, .slice ua n uc] 27
  have BE := below_alloc w (.cells #[.int .u8 6, .int .u64 pr, .string s, .int .i64 ru, .int .i64 re, .int .i64 li, .int .u32 su, .slice ua n uc] 27)
  have hz : (w.alloc (.cells #[.int .u8 6, .int .u64 pr, .string s, .int .i64 ru, .int .i64 re, .int .i64 li, .int .u32 su, .slice ua n uc] 27)).heap.size = w.heap.size + 1 := by simp
  go_enter Tryd.func25, Tryd.ntmps25
  go_upto_region 1 with fail
  change CellsAt (w.alloc (.cells #[.int .u8 6, .int .u64 pr, .string s, .int .i64 ru, .int .i64 re, .int .i64 li, .int .u32 su, .slice ua n uc] 27)) _ _ at EB
  generalize w.alloc (.cells #[.int .u8 6, .int .u64 pr, .string s, .int .i64 ru, .int .i64 re, .int .i64 li, .int .u32 su, .slice ua n uc] 27) = w1 at *
  have T1 : Stp w w1 := ⟨BE⟩
  have HZ := Lib.hid hz
  clear hz BE
  have c0 := EB.cell 0 _ rfl
  have c1 := EB.cell 1 _ rfl
  have c2 := EB.cell 2 _ rfl
  have c3 := EB.cell 3 _ rfl
  have c4 := EB.cell 4 _ rfl
  have c5 := EB.cell 5 _ rfl
  have c6 := EB.cell 6 _ rfl
  have c7 := EB.cell 7 _ rfl
  go_wp2_with fail
  refine (HBA.out w1 (inferInstance : Gr w w1).h).mono ?_
  rintro e w2 ⟨v2, rfl, s2, b2⟩
  have T2 : Stp w1 w2 := ⟨b2⟩
  have E2 : CellsAt w2 w.heap.size _ := EB.gr
  clear c0
  clear c1
  clear c2
  clear c3
  clear c4
  clear c5
  clear c6
  clear c7
  clear EB
  have c0 := E2.cell 0 _ rfl
  have c1 := E2.cell 1 _ rfl
  have c2 := E2.cell 2 _ rfl
  have c3 := E2.cell 3 _ rfl
  have c4 := E2.cell 4 _ rfl
  have c5 := E2.cell 5 _ rfl
  have c6 := E2.cell 6 _ rfl
  have c7 := E2.cell 7 _ rfl
  obtain ⟨va, vc, hv2, _⟩ := s2.form
  subst hv2
  have EX := CellsAt.new w2 [.int .u8 (x.k : Int), .int .u64 (x.pr : Int), .string (bs x.nm), .int .i64 x.ru, .int .i64 x.re, .int .i64 x.li, .int .u32 (x.su : Int), .slice va x.inn.length vc] 27
  have S3 : SlI (w2.alloc (.cells #[.int .u8 (x.k : Int), .int .u64 (x.pr : Int), .string (bs x.nm), .int .i64 x.ru, .int .i64 x.re, .int .i64 x.li, .int .u32 (x.su : Int), .slice va x.inn.length vc] 27)) _ x.inn := s2.below (below_alloc w2 _)
  have E3 : CellsAt (w2.alloc (.cells #[.int .u8 (x.k : Int), .int .u64 (x.pr : Int), .string (bs x.nm), .int .i64 x.ru, .int .i64 x.re, .int .i64 x.li, .int .u32 (x.su : Int), .slice va x.inn.length vc] 27)) w.heap.size _ := E2.gr
  have X3 := Lib.hid (HSA.out _ _ S3 (inferInstance : Gr w _).h)
  clear S3 s2 b2
  clear HSA HBA
  go_upto_region 3 with fail
  change CellsAt (w2.alloc (.cells #[.int .u8 (x.k : Int), .int .u64 (x.pr : Int), .string (bs x.nm), .int .i64 x.ru, .int .i64 x.re, .int .i64 x.li, .int .u32 (x.su : Int), .slice va x.inn.length vc] 27)) _ _ at EX
  have T3 : Stp w2 (w2.alloc (.cells #[.int .u8 (x.k : Int), .int .u64 (x.pr : Int), .string (bs x.nm), .int .i64 x.ru, .int .i64 x.re, .int .i64 x.li, .int .u32 (x.su : Int), .slice va x.inn.length vc] 27)) := inferInstance
  clear c0
  clear c1
  clear c2
  clear c3
  clear c4
  clear c5
  clear c6
  clear c7
  generalize w2.alloc (.cells #[.int .u8 (x.k : Int), .int .u64 (x.pr : Int), .string (bs x.nm), .int .i64 x.ru, .int .i64 x.re, .int .i64 x.li, .int .u32 (x.su : Int), .slice va x.inn.length vc] 27) = w3 at *
  have c0 := E3.cell 0 _ rfl
  have c1 := E3.cell 1 _ rfl
  have c2 := E3.cell 2 _ rfl
  have c3 := E3.cell 3 _ rfl
  have c4 := E3.cell 4 _ rfl
  have c5 := E3.cell 5 _ rfl
  have c6 := E3.cell 6 _ rfl
  have c7 := E3.cell 7 _ rfl
  have x0 := EX.cell 0 _ rfl
  have x1 := EX.cell 1 _ rfl
  have x2 := EX.cell 2 _ rfl
  have x3 := EX.cell 3 _ rfl
  have x4 := EX.cell 4 _ rfl
  have x5 := EX.cell 5 _ rfl
  have x6 := EX.cell 6 _ rfl
  have x7 := EX.cell 7 _ rfl
  clear EX
  go_wp2_with fail
  refine X3.out.mono ?_
  rintro e w4 ⟨rfl, b4⟩
  have T4 : Stp w3 w4 := ⟨b4⟩
  clear c0 x0
  clear c1 x1
  clear c2 x2
  clear c3 x3
  clear c4 x4
  clear c5 x5
  clear c6 x6
  clear c7 x7
  have E4 : CellsAt w4 w.heap.size _ := E3.gr
  have c0 := E4.cell 0 _ rfl
  have c1 := E4.cell 1 _ rfl
  have c2 := E4.cell 2 _ rfl
  have c3 := E4.cell 3 _ rfl
  have c4 := E4.cell 4 _ rfl
  have c5 := E4.cell 5 _ rfl
  have c6 := E4.cell 6 _ rfl
  have c7 := E4.cell 7 _ rfl
  have G4 := (inferInstance : Gr w w4).h
  have FIN := Lib.hid (fun (y : Nat) (q : Bool) (hq : M = q) {e : Ending} (he : e = .returned (.bool q)) => show RetBelow w (.bool M) e (w4.drewN y) from ⟨by rw [he, hq], G4.trans (bdrewB (Below.refl _ _) y)⟩)
  have HG4 := Lib.hid G4
  clear X3 E3 T4 T3 T2 T1 b4 G4 E2
  cases sm with
  | false =>
    go_wp2_with fail
    go_ret
    exact FIN.out 0 false (by rw [HM.out]; first | rfl | simp) rfl
  | true =>
  cases r1 with
  | true =>
    go_wp2_with fail
    go_ret
    exact FIN.out 0 false (by rw [HM.out]; first | rfl | simp) rfl
  | false =>
  cases r2 with
  | true =>
    go_wp2_with fail
    go_ret
    exact FIN.out 0 false (by rw [HM.out]; first | rfl | simp) rfl
  | false =>
  cases r3 with
  | true =>
    go_wp2_with fail
    go_ret
    exact FIN.out 0 false (by rw [HM.out]; first | rfl | simp) rfl
  | false =>
  cases r4 with
  | true =>
    go_wp2_with fail
    go_ret
    exact FIN.out 0 false (by rw [HM.out]; first | rfl | simp) rfl
  | false =>
  cases r5 with
  | true =>
    go_wp2_with fail
    go_ret
    exact FIN.out 0 false (by rw [HM.out]; first | rfl | simp) rfl
  | false =>
  cases r6 with
  | true =>
    go_wp2_with fail
    go_ret
    exact FIN.out 0 false (by rw [HM.out]; first | rfl | simp) rfl
  | false =>
  go_wp2_with fail
  go_ret
  exact FIN.out 0 true (by rw [HM.out]; first | rfl | simp) rfl
set_option maxHeartbeats 6400000 in
theorem dmay0_raw (w : World) (k : Nat) (hk : k < 256) (hk0 : ¬ (1 ≤ k ∧ k ≤ 6)) (pr : Nat) (s : ByteArray) (_hs : s.size ≤ 140737488355328) (ru re li : Int) (su : Nat) (ua : Option Addr) (n uc : Nat) (M sm _cl : Bool) (r1 : Bool) (_hr1 : decide (ru < 0) = r1) (r2 : Bool) (_hr2 : decide (131071 < ru) = r2) (r3 : Bool) (_hr3 : decide (re < 0) = r3) (r4 : Bool) (_hr4 : decide (1099511627776 < re) = r4) (r5 : Bool) (_hr5 : decide (li < 0) = r5) (r6 : Bool) (_hr6 : decide (1099511627776 < li) = r6) (hM : M = false)
    (x : Ent) (BA : ∀ W, Below w.heap.size w W → Calls Tryd.prog 37 #[.agg #[.int .u8 (k : Int), .int .u64 pr, .string s, .int .i64 ru, .int .i64 re, .int .i64 li, .int .u32 su, .slice ua n uc]] W (RetE W x)) (SA : ∀ W v, SlI W v x.inn → Below w.heap.size w W → Calls Tryd.prog 13 #[.agg #[.int .u8 (k : Int), .int .u64 pr, .string s, .int .i64 ru, .int .i64 re, .int .i64 li, .int .u32 su, .slice ua n uc], eA x v] W (RetBelow W (.bool sm))) :
    Calls Tryd.prog 25 #[.agg #[.int .u8 (k : Int), .int .u64 pr, .string s, .int .i64 ru, .int .i64 re, .int .i64 li, .int .u32 su, .slice ua n uc]] w (RetBelow w (.bool M)) := by
  have HM := Lib.hid hM
  have HBA := Lib.hid BA
  have HSA := Lib.hid SA
  clear hM BA SA
  have kb : (k : Int) ≤ 255 := by omega
  have EB := CellsAt.new w [.int .u8 (k : Int), .int .u64 pr, .string s, .int .i64 ru, .int .i64 re, .int .i64 li, .int .u32 su, .slice ua n uc] 27
  have BE := below_alloc w (.cells #[.int .u8 (k : Int), .int .u64 pr, .string s, .int .i64 ru, .int .i64 re, .int .i64 li, .int .u32 su, .slice ua n uc] 27)
  have hz : (w.alloc (.cells #[.int .u8 (k : Int), .int .u64 pr, .string s, .int .i64 ru, .int .i64 re, .int .i64 li, .int .u32 su, .slice ua n uc] 27)).heap.size = w.heap.size + 1 := by simp
  go_enter Tryd.func25, Tryd.ntmps25
  go_upto_region 1 with fail
  change CellsAt (w.alloc (.cells #[.int .u8 (k : Int), .int .u64 pr, .string s, .int .i64 ru, .int .i64 re, .int .i64 li, .int .u32 su, .slice ua n uc] 27)) _ _ at EB
  generalize w.alloc (.cells #[.int .u8 (k : Int), .int .u64 pr, .string s, .int .i64 ru, .int .i64 re, .int .i64 li, .int .u32 su, .slice ua n uc] 27) = w1 at *
  have T1 : Stp w w1 := ⟨BE⟩
  have HZ := Lib.hid hz
  clear hz BE
  have c0 := EB.cell 0 _ rfl
  have c1 := EB.cell 1 _ rfl
  have c2 := EB.cell 2 _ rfl
  have c3 := EB.cell 3 _ rfl
  have c4 := EB.cell 4 _ rfl
  have c5 := EB.cell 5 _ rfl
  have c6 := EB.cell 6 _ rfl
  have c7 := EB.cell 7 _ rfl
  go_wp2_with fail
  refine (HBA.out w1 (inferInstance : Gr w w1).h).mono ?_
  rintro e w2 ⟨v2, rfl, s2, b2⟩
  have T2 : Stp w1 w2 := ⟨b2⟩
  have E2 : CellsAt w2 w.heap.size _ := EB.gr
  clear c0
  clear c1
  clear c2
  clear c3
  clear c4
  clear c5
  clear c6
  clear c7
  clear EB
  have c0 := E2.cell 0 _ rfl
  have c1 := E2.cell 1 _ rfl
  have c2 := E2.cell 2 _ rfl
  have c3 := E2.cell 3 _ rfl
  have c4 := E2.cell 4 _ rfl
  have c5 := E2.cell 5 _ rfl
  have c6 := E2.cell 6 _ rfl
  have c7 := E2.cell 7 _ rfl
  obtain ⟨va, vc, hv2, _⟩ := s2.form
  subst hv2
  have EX := CellsAt.new w2 [.int .u8 (x.k : Int), .int .u64 (x.pr : Int), .string (bs x.nm), .int .i64 x.ru, .int .i64 x.re, .int .i64 x.li, .int .u32 (x.su : Int), .slice va x.inn.length vc] 27
  have S3 : SlI (w2.alloc (.cells #[.int .u8 (x.k : Int), .int .u64 (x.pr : Int), .string (bs x.nm), .int .i64 x.ru, .int .i64 x.re, .int .i64 x.li, .int .u32 (x.su : Int), .slice va x.inn.length vc] 27)) _ x.inn := s2.below (below_alloc w2 _)
  have E3 : CellsAt (w2.alloc (.cells #[.int .u8 (x.k : Int), .int .u64 (x.pr : Int), .string (bs x.nm), .int .i64 x.ru, .int .i64 x.re, .int .i64 x.li, .int .u32 (x.su : Int), .slice va x.inn.length vc] 27)) w.heap.size _ := E2.gr
  have X3 := Lib.hid (HSA.out _ _ S3 (inferInstance : Gr w _).h)
  clear S3 s2 b2
  clear HSA HBA
  go_upto_region 3 with fail
  change CellsAt (w2.alloc (.cells #[.int .u8 (x.k : Int), .int .u64 (x.pr : Int), .string (bs x.nm), .int .i64 x.ru, .int .i64 x.re, .int .i64 x.li, .int .u32 (x.su : Int), .slice va x.inn.length vc] 27)) _ _ at EX
  have T3 : Stp w2 (w2.alloc (.cells #[.int .u8 (x.k : Int), .int .u64 (x.pr : Int), .string (bs x.nm), .int .i64 x.ru, .int .i64 x.re, .int .i64 x.li, .int .u32 (x.su : Int), .slice va x.inn.length vc] 27)) := inferInstance
  clear c0
  clear c1
  clear c2
  clear c3
  clear c4
  clear c5
  clear c6
  clear c7
  generalize w2.alloc (.cells #[.int .u8 (x.k : Int), .int .u64 (x.pr : Int), .string (bs x.nm), .int .i64 x.ru, .int .i64 x.re, .int .i64 x.li, .int .u32 (x.su : Int), .slice va x.inn.length vc] 27) = w3 at *
  have c0 := E3.cell 0 _ rfl
  have c1 := E3.cell 1 _ rfl
  have c2 := E3.cell 2 _ rfl
  have c3 := E3.cell 3 _ rfl
  have c4 := E3.cell 4 _ rfl
  have c5 := E3.cell 5 _ rfl
  have c6 := E3.cell 6 _ rfl
  have c7 := E3.cell 7 _ rfl
  have x0 := EX.cell 0 _ rfl
  have x1 := EX.cell 1 _ rfl
  have x2 := EX.cell 2 _ rfl
  have x3 := EX.cell 3 _ rfl
  have x4 := EX.cell 4 _ rfl
  have x5 := EX.cell 5 _ rfl
  have x6 := EX.cell 6 _ rfl
  have x7 := EX.cell 7 _ rfl
  clear EX
  go_wp2_with fail
  refine X3.out.mono ?_
  rintro e w4 ⟨rfl, b4⟩
  have T4 : Stp w3 w4 := ⟨b4⟩
  clear c0 x0
  clear c1 x1
  clear c2 x2
  clear c3 x3
  clear c4 x4
  clear c5 x5
  clear c6 x6
  clear c7 x7
  have E4 : CellsAt w4 w.heap.size _ := E3.gr
  have c0 := E4.cell 0 _ rfl
  have c1 := E4.cell 1 _ rfl
  have c2 := E4.cell 2 _ rfl
  have c3 := E4.cell 3 _ rfl
  have c4 := E4.cell 4 _ rfl
  have c5 := E4.cell 5 _ rfl
  have c6 := E4.cell 6 _ rfl
  have c7 := E4.cell 7 _ rfl
  have G4 := (inferInstance : Gr w w4).h
  have FIN := Lib.hid (fun (y : Nat) (q : Bool) (hq : M = q) {e : Ending} (he : e = .returned (.bool q)) => show RetBelow w (.bool M) e (w4.drewN y) from ⟨by rw [he, hq], G4.trans (bdrewB (Below.refl _ _) y)⟩)
  have HG4 := Lib.hid G4
  clear X3 E3 T4 T3 T2 T1 b4 G4 E2
  by_cases hk1 : 1 ≤ k
  · have t1 : decide ((k : Int) < 1) = false := decide_eq_false (by omega)
    have t2 : decide (6 < (k : Int)) = true := decide_eq_true (by omega)
    clear hk hk0 hk1 kb
    go_wp2_with fail
    go_ret
    exact FIN.out 0 false (by exact HM.out) rfl
  · have t1 : decide ((k : Int) < 1) = true := decide_eq_true (by omega)
    clear hk hk0 hk1 kb
    go_wp2_with fail
    go_ret
    exact FIN.out 0 false (by exact HM.out) rfl
end Go.Proofs.YtlbekgcfafofdaaDoor
