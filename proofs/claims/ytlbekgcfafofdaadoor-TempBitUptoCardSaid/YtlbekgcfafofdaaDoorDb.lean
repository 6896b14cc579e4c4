/- The document's bodies. -/
import Derived.Test.YtlbekgcfafofdaaDoorGr
namespace Go.Proofs.YtlbekgcfafofdaaDoor
open Go.RowKit
set_option maxRecDepth 100000

def DnRel (w : World) (cs : List Value) (L : List UInt8) (inn : List Int) (v i : Value) (wr : World) : Prop := ∃ j : Nat, j ≤ inn.length ∧ i = .int .i64 j ∧ BdIn w cs v (L ++ bodyIn (inn.take j)) 400 wr
set_option maxHeartbeats 3200000 in
theorem dbody1_ok (w : World) (pr : Nat) (hpr : pr < 18446744073709551616) (a : Option Addr) (c : Nat) (R : List UInt8) (hR : R = [1] ++ be 8 pr) : Calls Tryd.prog 27 #[.agg #[.int .u8 1, .int .u64 (pr : Int), .string ⟨#[]⟩, .int .i64 0, .int .i64 0, .int .i64 0, .int .u32 0, .slice a 0 c]] w (RetSm w R 400) := by
  have HR := Lib.hid hR
  clear hR
  have EB := CellsAt.new w [.int .u8 1, .int .u64 (pr : Int), .string ⟨#[]⟩, .int .i64 0, .int .i64 0, .int .i64 0, .int .u32 0, .slice a 0 c] 27
  have BE := below_alloc w (.cells #[.int .u8 1, .int .u64 (pr : Int), .string ⟨#[]⟩, .int .i64 0, .int .i64 0, .int .i64 0, .int .u32 0, .slice a 0 c] 27)
  go_enter Tryd.func27, Tryd.ntmps27
  go_upto_region 2 with fail
  change CellsAt (w.alloc (.cells #[.int .u8 1, .int .u64 (pr : Int), .string ⟨#[]⟩, .int .i64 0, .int .i64 0, .int .i64 0, .int .u32 0, .slice a 0 c] 27)) _ _ at EB
  have hz1 : (w.alloc (.cells #[.int .u8 1, .int .u64 (pr : Int), .string ⟨#[]⟩, .int .i64 0, .int .i64 0, .int .i64 0, .int .u32 0, .slice a 0 c] 27)).heap.size = w.heap.size + 1 := by simp
  generalize w.alloc (.cells #[.int .u8 1, .int .u64 (pr : Int), .string ⟨#[]⟩, .int .i64 0, .int .i64 0, .int .i64 0, .int .u32 0, .slice a 0 c] 27) = w1 at *
  have T1 : Stp w w1 := ⟨BE⟩
  clear BE
  have N0 := Sm.oneAt (X := w1) (g := w.heap.size + 1) 1 1 rfl hz1
  have T2 : Stp w1 (w1.alloc (.cells #[.int .u8 1] 5)) := inferInstance
  generalize w1.alloc (.cells #[.int .u8 1] 5) = w2 at *
  generalize hv0 : Value.slice (some ⟨w.heap.size + 1, 0, none⟩) 1 1 = v0 at *
  clear hv0 hz1
  have E2 : CellsAt w2 w.heap.size _ := EB.gr
  clear EB
  have c0 := E2.cell 0 _ rfl
  have c1 := E2.cell 1 _ rfl
  go_wp2_with fail
  refine (big_gr 8 (by decide) pr hpr w2).mono ?_
  rintro e w3 ⟨v3, rfl, s3, b3⟩
  have T3 : Stp w2 w3 := ⟨b3⟩
  go_wp2_with fail
  refine (join_gr N0 s3 (by decide)).mono ?_
  rintro e w4 ⟨v4, rfl, s4, b4⟩
  have T4 : Stp w3 w4 := ⟨b4⟩
  go_wp2_with fail
  go_ret
  exact ⟨_, rfl, ⟨by rw [HR.out]; exact s4.sl, by rw [HR.out]; exact Nat.le_trans s4.len (by decide)⟩, (inferInstance : Gr w w4).h⟩
set_option maxHeartbeats 3200000 in
theorem dbody2_ok (w : World) (s : ByteArray) (hs1 : 1 ≤ s.size) (hs2 : s.size ≤ 64) (a : Option Addr) (c : Nat) (R : List UInt8) (hR : R = [2] ++ be 1 s.size ++ s.data.toList) : Calls Tryd.prog 27 #[.agg #[.int .u8 2, .int .u64 0, .string s, .int .i64 0, .int .i64 0, .int .i64 0, .int .u32 0, .slice a 0 c]] w (RetSm w R 400) := by
  have HR := Lib.hid hR
  clear hR
  have s64 : (s.size : Int) ≤ 64 := by omega
  obtain ⟨cw, cp, crun, cstep, cnew0⟩ := conv_gr s
  have cnew : ∀ W, Sm (cw W) (.slice (some ⟨W.heap.size, 0, none⟩) s.size (cp W)) s.data.toList 64 := fun W => ⟨(cnew0 W).sl, Nat.le_trans (cnew0 W).len hs2⟩
  clear cnew0
  have EB := CellsAt.new w [.int .u8 2, .int .u64 0, .string s, .int .i64 0, .int .i64 0, .int .i64 0, .int .u32 0, .slice a 0 c] 27
  have BE := below_alloc w (.cells #[.int .u8 2, .int .u64 0, .string s, .int .i64 0, .int .i64 0, .int .i64 0, .int .u32 0, .slice a 0 c] 27)
  go_enter Tryd.func27, Tryd.ntmps27
  go_upto_region 2 with fail
  change CellsAt (w.alloc (.cells #[.int .u8 2, .int .u64 0, .string s, .int .i64 0, .int .i64 0, .int .i64 0, .int .u32 0, .slice a 0 c] 27)) _ _ at EB
  have hz1 : (w.alloc (.cells #[.int .u8 2, .int .u64 0, .string s, .int .i64 0, .int .i64 0, .int .i64 0, .int .u32 0, .slice a 0 c] 27)).heap.size = w.heap.size + 1 := by simp
  generalize w.alloc (.cells #[.int .u8 2, .int .u64 0, .string s, .int .i64 0, .int .i64 0, .int .i64 0, .int .u32 0, .slice a 0 c] 27) = w1 at *
  have T1 : Stp w w1 := ⟨BE⟩
  clear BE
  have N0 := Sm.oneAt (X := w1) (g := w.heap.size + 1) 2 2 rfl hz1
  have T2 : Stp w1 (w1.alloc (.cells #[.int .u8 2] 5)) := inferInstance
  generalize w1.alloc (.cells #[.int .u8 2] 5) = w2 at *
  generalize hv0 : Value.slice (some ⟨w.heap.size + 1, 0, none⟩) 1 1 = v0 at *
  clear hv0 hz1
  have E2 : CellsAt w2 w.heap.size _ := EB.gr
  clear EB
  have c0 := E2.cell 0 _ rfl
  have w8 : IntKind.u8.wrap (s.size : Int) = (s.size : Int) := by unfold IntKind.wrap; simp [IntKind.bits, IntKind.signed]; omega
  have c2 := E2.cell 2 _ rfl
  go_upto_region 7 with fail
  go_cut [3] (fun s3 wx => BdIn w [.int .u8 2, .int .u64 0, .string s, .int .i64 0, .int .i64 0, .int .i64 0, .int .u32 0, .slice a 0 c] s3 ([2] ++ be 1 s.size ++ s.data.toList) 66 wx)
  case first =>
    have hb : be 1 s.size = [UInt8.ofNat s.size] := rfl
    have hB := Lib.hid hb
    clear hb
    have us : (s.size : Int) = ((UInt8.ofNat s.size).toNat : Int) := by simp; omega
    have US := Lib.hid us
    clear us
    have hz : (w2.alloc (.cells #[.int .u8 (s.size : Int)] 5)).drew.heap.size = w2.heap.size + 1 := by simp
    have P1 := Sm.oneAt (X := w2) (g := w2.heap.size) (s.size : Int) (UInt8.ofNat s.size) US.out rfl
    have P2 := Sm.oneAt (X := cw w2.drew) (g := (cw w2.drew).heap.size) (s.size : Int) (UInt8.ofNat s.size) US.out rfl
    have Q1 := (cnew w2.drew).at_ (show w2.drew.heap.size = w2.heap.size from rfl)
    have Q2 := (cnew (w2.alloc (.cells #[.int .u8 (s.size : Int)] 5)).drew).at_ hz
    clear hz
    have c2a := (CellsAt.gr (x := w2) (W := w2.alloc (.cells #[.int .u8 (s.size : Int)] 5)) E2).cell 2 _ rfl
    have c2b := (CellsAt.gr (x := w2) (W := cw w2.drew) E2).cell 2 _ rfl
    go_region_law (go_simp; go_at_call 39; (with_reducible refine (join_gr (by assumption) (by assumption) (by decide)).mono ?_); rintro e wl ⟨vl, rfl, sl, bl⟩; have tl : Stp _ wl := ⟨bl⟩; have ql := cnew wl; have cl := (CellsAt.gr (x := w2) (W := wl) E2).cell 2 _ rfl)
    all_goals
      go_wp2_with fail
      go_meet
      refine ⟨CellsAt.gr (x := w2) E2, ?_, (inferInstance : Gr w _).h⟩
      rw [hB.out]
      exact Sm.gr (by assumption)
  case rest =>
    clear N0 E2 c0 c2 T1 T2 w8
    obtain ⟨E3, N3, B3⟩ := hcut
    have T3 : Stp w wc := ⟨B3⟩
    go_wp2_with fail
    go_ret
    exact ⟨_, rfl, ⟨by rw [HR.out]; exact N3.sl, by rw [HR.out]; exact Nat.le_trans N3.len (by decide)⟩, B3⟩
set_option maxHeartbeats 3200000 in
theorem dbody3_ok (w : World) (s : ByteArray) (hs1 : 1 ≤ s.size) (hs2 : s.size ≤ 64) (ru : Nat) (hru : ru ≤ 131071) (re : Nat) (hre : re ≤ 1099511627776) (li : Nat) (hli : li ≤ 1099511627776) (su : Nat) (hsu : su < 4294967296) (a : Option Addr) (c : Nat) (R : List UInt8) (hR : R = [3] ++ be 1 s.size ++ s.data.toList ++ be 4 ru ++ be 8 re ++ be 8 li ++ be 4 su) : Calls Tryd.prog 27 #[.agg #[.int .u8 3, .int .u64 0, .string s, .int .i64 (ru : Int), .int .i64 (re : Int), .int .i64 (li : Int), .int .u32 (su : Int), .slice a 0 c]] w (RetSm w R 400) := by
  have HR := Lib.hid hR
  clear hR
  have s64 : (s.size : Int) ≤ 64 := by omega
  obtain ⟨cw, cp, crun, cstep, cnew0⟩ := conv_gr s
  have cnew : ∀ W, Sm (cw W) (.slice (some ⟨W.heap.size, 0, none⟩) s.size (cp W)) s.data.toList 64 := fun W => ⟨(cnew0 W).sl, Nat.le_trans (cnew0 W).len hs2⟩
  clear cnew0
  have EB := CellsAt.new w [.int .u8 3, .int .u64 0, .string s, .int .i64 (ru : Int), .int .i64 (re : Int), .int .i64 (li : Int), .int .u32 (su : Int), .slice a 0 c] 27
  have BE := below_alloc w (.cells #[.int .u8 3, .int .u64 0, .string s, .int .i64 (ru : Int), .int .i64 (re : Int), .int .i64 (li : Int), .int .u32 (su : Int), .slice a 0 c] 27)
  go_enter Tryd.func27, Tryd.ntmps27
  go_upto_region 2 with fail
  change CellsAt (w.alloc (.cells #[.int .u8 3, .int .u64 0, .string s, .int .i64 (ru : Int), .int .i64 (re : Int), .int .i64 (li : Int), .int .u32 (su : Int), .slice a 0 c] 27)) _ _ at EB
  have hz1 : (w.alloc (.cells #[.int .u8 3, .int .u64 0, .string s, .int .i64 (ru : Int), .int .i64 (re : Int), .int .i64 (li : Int), .int .u32 (su : Int), .slice a 0 c] 27)).heap.size = w.heap.size + 1 := by simp
  generalize w.alloc (.cells #[.int .u8 3, .int .u64 0, .string s, .int .i64 (ru : Int), .int .i64 (re : Int), .int .i64 (li : Int), .int .u32 (su : Int), .slice a 0 c] 27) = w1 at *
  have T1 : Stp w w1 := ⟨BE⟩
  clear BE
  have N0 := Sm.oneAt (X := w1) (g := w.heap.size + 1) 3 3 rfl hz1
  have T2 : Stp w1 (w1.alloc (.cells #[.int .u8 3] 5)) := inferInstance
  generalize w1.alloc (.cells #[.int .u8 3] 5) = w2 at *
  generalize hv0 : Value.slice (some ⟨w.heap.size + 1, 0, none⟩) 1 1 = v0 at *
  clear hv0 hz1
  have E2 : CellsAt w2 w.heap.size _ := EB.gr
  clear EB
  have c0 := E2.cell 0 _ rfl
  have w8 : IntKind.u8.wrap (s.size : Int) = (s.size : Int) := by unfold IntKind.wrap; simp [IntKind.bits, IntKind.signed]; omega
  have c2 := E2.cell 2 _ rfl
  go_upto_region 7 with fail
  go_cut [3] (fun s3 wx => BdIn w [.int .u8 3, .int .u64 0, .string s, .int .i64 (ru : Int), .int .i64 (re : Int), .int .i64 (li : Int), .int .u32 (su : Int), .slice a 0 c] s3 ([3] ++ be 1 s.size ++ s.data.toList) 66 wx)
  case first =>
    have hb : be 1 s.size = [UInt8.ofNat s.size] := rfl
    have hB := Lib.hid hb
    clear hb
    have us : (s.size : Int) = ((UInt8.ofNat s.size).toNat : Int) := by simp; omega
    have US := Lib.hid us
    clear us
    have hz : (w2.alloc (.cells #[.int .u8 (s.size : Int)] 5)).drew.heap.size = w2.heap.size + 1 := by simp
    have P1 := Sm.oneAt (X := w2) (g := w2.heap.size) (s.size : Int) (UInt8.ofNat s.size) US.out rfl
    have P2 := Sm.oneAt (X := cw w2.drew) (g := (cw w2.drew).heap.size) (s.size : Int) (UInt8.ofNat s.size) US.out rfl
    have Q1 := (cnew w2.drew).at_ (show w2.drew.heap.size = w2.heap.size from rfl)
    have Q2 := (cnew (w2.alloc (.cells #[.int .u8 (s.size : Int)] 5)).drew).at_ hz
    clear hz
    have c2a := (CellsAt.gr (x := w2) (W := w2.alloc (.cells #[.int .u8 (s.size : Int)] 5)) E2).cell 2 _ rfl
    have c2b := (CellsAt.gr (x := w2) (W := cw w2.drew) E2).cell 2 _ rfl
    go_region_law (go_simp; go_at_call 39; (with_reducible refine (join_gr (by assumption) (by assumption) (by decide)).mono ?_); rintro e wl ⟨vl, rfl, sl, bl⟩; have tl : Stp _ wl := ⟨bl⟩; have ql := cnew wl; have cl := (CellsAt.gr (x := w2) (W := wl) E2).cell 2 _ rfl)
    all_goals
      go_wp2_with fail
      go_meet
      refine ⟨CellsAt.gr (x := w2) E2, ?_, (inferInstance : Gr w _).h⟩
      rw [hB.out]
      exact Sm.gr (by assumption)
  case rest =>
    clear N0 E2 c0 c2 T1 T2 w8
    obtain ⟨E3, N3, B3⟩ := hcut
    have T3 : Stp w wc := ⟨B3⟩
    clear cnew cstep crun
    clear cw cp
    generalize hL1 : [3] ++ be 1 s.size ++ s.data.toList = L1 at *
    clear hL1
    have B4 : ∀ W, Calls Tryd.prog 40 #[.int .u64 (ru : Int), .int .i64 4] W (RetSm W (be 4 ru) 4) := fun W => big_gr 4 (by decide) ru (by omega) W
    have wrB4 : IntKind.u64.wrap (ru : Int) = (ru : Int) := by unfold IntKind.wrap; simp [IntKind.bits, IntKind.signed]; omega
    have B8 : ∀ W, Calls Tryd.prog 40 #[.int .u64 (re : Int), .int .i64 8] W (RetSm W (be 8 re) 8) := fun W => big_gr 8 (by decide) re (by omega) W
    have wrB8 : IntKind.u64.wrap (re : Int) = (re : Int) := by unfold IntKind.wrap; simp [IntKind.bits, IntKind.signed]; omega
    have cc3 := E3.cell 3 _ rfl
    have cc4 := E3.cell 4 _ rfl
    go_upto_region 10 with fail
    go_cut [3] (fun s3 wx => BdIn w [.int .u8 3, .int .u64 0, .string s, .int .i64 (ru : Int), .int .i64 (re : Int), .int .i64 (li : Int), .int .u32 (su : Int), .slice a 0 c] s3 ((L1 ++ be 4 ru) ++ be 8 re) 78 wx)
    case first =>
      go_region_held3 (fun W => W.cell? ⟨w.heap.size, 3, none⟩ = some (.int .i64 (ru : Int)) ∧ W.cell? ⟨w.heap.size, 4, none⟩ = some (.int .i64 (re : Int)))
        (first | go_keep | (exact ⟨(CellsAt.gr (x := wc) E3).cell 3 _ rfl, (CellsAt.gr (x := wc) E3).cell 4 _ rfl⟩))
        (first | (go_simp; go_at_call 40; (with_reducible refine (B4 _).mono ?_); rintro e wl ⟨vl, rfl, sl, bl⟩; have tl : Stp _ wl := ⟨bl⟩) | (go_simp; go_at_call 40; (with_reducible refine (B8 _).mono ?_); rintro e wl ⟨vl, rfl, sl, bl⟩; have tl : Stp _ wl := ⟨bl⟩) | (go_simp; go_at_call 39; (with_reducible refine (join_gr (by assumption) (by assumption) (by decide)).mono ?_); rintro e wl ⟨vl, rfl, sl, bl⟩; have tl : Stp _ wl := ⟨bl⟩))
      all_goals
        go_wp2_with fail
        go_meet
        exact ⟨CellsAt.gr (x := wc) E3, Sm.gr (by assumption), (inferInstance : Gr w _).h⟩
    case rest =>
      clear B4 wrB4
      clear B8 wrB8
      clear cc3 cc4
      clear E3 N3 T3 B3
      obtain ⟨E4, N4, B4⟩ := hcut
      have T4 : Stp w wc := ⟨B4⟩
      generalize hL2 : L1 ++ be 4 ru ++ be 8 re = L2 at *
      clear hL2
      have B8 : ∀ W, Calls Tryd.prog 40 #[.int .u64 (li : Int), .int .i64 8] W (RetSm W (be 8 li) 8) := fun W => big_gr 8 (by decide) li (by omega) W
      have wrB8 : IntKind.u64.wrap (li : Int) = (li : Int) := by unfold IntKind.wrap; simp [IntKind.bits, IntKind.signed]; omega
      have B4 : ∀ W, Calls Tryd.prog 40 #[.int .u64 (su : Int), .int .i64 4] W (RetSm W (be 4 su) 4) := fun W => big_gr 4 (by decide) su (by omega) W
      have wrB4 : IntKind.u64.wrap (su : Int) = (su : Int) := by unfold IntKind.wrap; simp [IntKind.bits, IntKind.signed]; omega
      have cc5 := E4.cell 5 _ rfl
      have cc6 := E4.cell 6 _ rfl
      go_upto_region 12 with fail
      go_cut [2] (fun s3 wx => BdIn w [.int .u8 3, .int .u64 0, .string s, .int .i64 (ru : Int), .int .i64 (re : Int), .int .i64 (li : Int), .int .u32 (su : Int), .slice a 0 c] s3 ((L2 ++ be 8 li) ++ be 4 su) 90 wx)
      case first =>
        go_region_held3 (fun W => W.cell? ⟨w.heap.size, 5, none⟩ = some (.int .i64 (li : Int)) ∧ W.cell? ⟨w.heap.size, 6, none⟩ = some (.int .u32 (su : Int)))
          (first | go_keep | (exact ⟨(CellsAt.gr (x := wc) E4).cell 5 _ rfl, (CellsAt.gr (x := wc) E4).cell 6 _ rfl⟩))
          (first | (go_simp; go_at_call 40; (with_reducible refine (B8 _).mono ?_); rintro e wl ⟨vl, rfl, sl, bl⟩; have tl : Stp _ wl := ⟨bl⟩) | (go_simp; go_at_call 40; (with_reducible refine (B4 _).mono ?_); rintro e wl ⟨vl, rfl, sl, bl⟩; have tl : Stp _ wl := ⟨bl⟩) | (go_simp; go_at_call 39; (with_reducible refine (join_gr (by assumption) (by assumption) (by decide)).mono ?_); rintro e wl ⟨vl, rfl, sl, bl⟩; have tl : Stp _ wl := ⟨bl⟩))
        all_goals
          go_wp2_with fail
          go_meet
          exact ⟨CellsAt.gr (x := wc) E4, Sm.gr (by assumption), (inferInstance : Gr w _).h⟩
      case rest =>
        clear B8 wrB8
        clear B4 wrB4
        clear cc5 cc6
        clear E4 N4 T4 B4
        obtain ⟨E5, N5, B5⟩ := hcut
        go_wp2_with fail
        go_ret
        exact ⟨_, rfl, ⟨by rw [HR.out]; exact N5.sl, by rw [HR.out]; exact Nat.le_trans N5.len (by decide)⟩, B5⟩
set_option maxHeartbeats 3200000 in
theorem dbody4_ok (w : World) (a : Option Addr) (c : Nat) (R : List UInt8) (hR : R = [4]) : Calls Tryd.prog 27 #[.agg #[.int .u8 4, .int .u64 0, .string ⟨#[]⟩, .int .i64 0, .int .i64 0, .int .i64 0, .int .u32 0, .slice a 0 c]] w (RetSm w R 400) := by
  have HR := Lib.hid hR
  clear hR
  have EB := CellsAt.new w [.int .u8 4, .int .u64 0, .string ⟨#[]⟩, .int .i64 0, .int .i64 0, .int .i64 0, .int .u32 0, .slice a 0 c] 27
  have BE := below_alloc w (.cells #[.int .u8 4, .int .u64 0, .string ⟨#[]⟩, .int .i64 0, .int .i64 0, .int .i64 0, .int .u32 0, .slice a 0 c] 27)
  go_enter Tryd.func27, Tryd.ntmps27
  go_upto_region 2 with fail
  change CellsAt (w.alloc (.cells #[.int .u8 4, .int .u64 0, .string ⟨#[]⟩, .int .i64 0, .int .i64 0, .int .i64 0, .int .u32 0, .slice a 0 c] 27)) _ _ at EB
  have hz1 : (w.alloc (.cells #[.int .u8 4, .int .u64 0, .string ⟨#[]⟩, .int .i64 0, .int .i64 0, .int .i64 0, .int .u32 0, .slice a 0 c] 27)).heap.size = w.heap.size + 1 := by simp
  generalize w.alloc (.cells #[.int .u8 4, .int .u64 0, .string ⟨#[]⟩, .int .i64 0, .int .i64 0, .int .i64 0, .int .u32 0, .slice a 0 c] 27) = w1 at *
  have T1 : Stp w w1 := ⟨BE⟩
  clear BE
  have N0 := Sm.oneAt (X := w1) (g := w.heap.size + 1) 4 4 rfl hz1
  have T2 : Stp w1 (w1.alloc (.cells #[.int .u8 4] 5)) := inferInstance
  generalize w1.alloc (.cells #[.int .u8 4] 5) = w2 at *
  generalize hv0 : Value.slice (some ⟨w.heap.size + 1, 0, none⟩) 1 1 = v0 at *
  clear hv0 hz1
  have E2 : CellsAt w2 w.heap.size _ := EB.gr
  clear EB
  have c0 := E2.cell 0 _ rfl
  go_wp2_with fail
  go_ret
  exact ⟨_, rfl, ⟨by rw [HR.out]; exact N0.sl, by rw [HR.out]; exact Nat.le_trans N0.len (by decide)⟩, (inferInstance : Gr w w2).h⟩
set_option maxHeartbeats 3200000 in
theorem dbody5_ok (w : World) (b off c : Nat) (s : ByteArray) (hs1 : 1 ≤ s.size) (hs2 : s.size ≤ 64) (ru : Nat) (hru : ru ≤ 131071) (re : Nat) (hre : re ≤ 1099511627776) (su : Nat) (hsu : su < 4294967296) (inn : List Int) (hi1 : 1 ≤ inn.length) (hi2 : inn.length ≤ 64) (hin : ∀ x ∈ inn, 0 ≤ x ∧ x ≤ 131071) (hb : b < w.heap.size) (hc : ∀ (j : Nat) (hj : j < inn.length), w.cell? ⟨b, off + j, none⟩ = some (.int .i64 inn[j])) (R : List UInt8) (hR : R = [5] ++ be 1 s.size ++ s.data.toList ++ be 4 ru ++ be 8 re ++ be 4 su ++ be 1 inn.length ++ bodyIn inn) : Calls Tryd.prog 27 #[.agg #[.int .u8 5, .int .u64 0, .string s, .int .i64 (ru : Int), .int .i64 (re : Int), .int .i64 0, .int .u32 (su : Int), .slice (some ⟨b, off, none⟩) inn.length c]] w (RetSm w R 400) := by
  have HR := Lib.hid hR
  clear hR
  have s64 : (s.size : Int) ≤ 64 := by omega
  obtain ⟨cw, cp, crun, cstep, cnew0⟩ := conv_gr s
  have cnew : ∀ W, Sm (cw W) (.slice (some ⟨W.heap.size, 0, none⟩) s.size (cp W)) s.data.toList 64 := fun W => ⟨(cnew0 W).sl, Nat.le_trans (cnew0 W).len hs2⟩
  clear cnew0
  have HB := Lib.hid hb
  have HC := Lib.hid hc
  have HIN := Lib.hid hin
  clear hb hc hin
  have EB := CellsAt.new w [.int .u8 5, .int .u64 0, .string s, .int .i64 (ru : Int), .int .i64 (re : Int), .int .i64 0, .int .u32 (su : Int), .slice (some ⟨b, off, none⟩) inn.length c] 27
  have BE := below_alloc w (.cells #[.int .u8 5, .int .u64 0, .string s, .int .i64 (ru : Int), .int .i64 (re : Int), .int .i64 0, .int .u32 (su : Int), .slice (some ⟨b, off, none⟩) inn.length c] 27)
  go_enter Tryd.func27, Tryd.ntmps27
  go_upto_region 2 with fail
  change CellsAt (w.alloc (.cells #[.int .u8 5, .int .u64 0, .string s, .int .i64 (ru : Int), .int .i64 (re : Int), .int .i64 0, .int .u32 (su : Int), .slice (some ⟨b, off, none⟩) inn.length c] 27)) _ _ at EB
  have hz1 : (w.alloc (.cells #[.int .u8 5, .int .u64 0, .string s, .int .i64 (ru : Int), .int .i64 (re : Int), .int .i64 0, .int .u32 (su : Int), .slice (some ⟨b, off, none⟩) inn.length c] 27)).heap.size = w.heap.size + 1 := by simp
  generalize w.alloc (.cells #[.int .u8 5, .int .u64 0, .string s, .int .i64 (ru : Int), .int .i64 (re : Int), .int .i64 0, .int .u32 (su : Int), .slice (some ⟨b, off, none⟩) inn.length c] 27) = w1 at *
  have T1 : Stp w w1 := ⟨BE⟩
  clear BE
  have N0 := Sm.oneAt (X := w1) (g := w.heap.size + 1) 5 5 rfl hz1
  have T2 : Stp w1 (w1.alloc (.cells #[.int .u8 5] 5)) := inferInstance
  generalize w1.alloc (.cells #[.int .u8 5] 5) = w2 at *
  generalize hv0 : Value.slice (some ⟨w.heap.size + 1, 0, none⟩) 1 1 = v0 at *
  clear hv0 hz1
  have E2 : CellsAt w2 w.heap.size _ := EB.gr
  clear EB
  have c0 := E2.cell 0 _ rfl
  have w8 : IntKind.u8.wrap (s.size : Int) = (s.size : Int) := by unfold IntKind.wrap; simp [IntKind.bits, IntKind.signed]; omega
  have c2 := E2.cell 2 _ rfl
  go_upto_region 7 with fail
  go_cut [3] (fun s3 wx => BdIn w [.int .u8 5, .int .u64 0, .string s, .int .i64 (ru : Int), .int .i64 (re : Int), .int .i64 0, .int .u32 (su : Int), .slice (some ⟨b, off, none⟩) inn.length c] s3 ([5] ++ be 1 s.size ++ s.data.toList) 66 wx)
  case first =>
    have hb : be 1 s.size = [UInt8.ofNat s.size] := rfl
    have hB := Lib.hid hb
    clear hb
    have us : (s.size : Int) = ((UInt8.ofNat s.size).toNat : Int) := by simp; omega
    have US := Lib.hid us
    clear us
    have hz : (w2.alloc (.cells #[.int .u8 (s.size : Int)] 5)).drew.heap.size = w2.heap.size + 1 := by simp
    have P1 := Sm.oneAt (X := w2) (g := w2.heap.size) (s.size : Int) (UInt8.ofNat s.size) US.out rfl
    have P2 := Sm.oneAt (X := cw w2.drew) (g := (cw w2.drew).heap.size) (s.size : Int) (UInt8.ofNat s.size) US.out rfl
    have Q1 := (cnew w2.drew).at_ (show w2.drew.heap.size = w2.heap.size from rfl)
    have Q2 := (cnew (w2.alloc (.cells #[.int .u8 (s.size : Int)] 5)).drew).at_ hz
    clear hz
    have c2a := (CellsAt.gr (x := w2) (W := w2.alloc (.cells #[.int .u8 (s.size : Int)] 5)) E2).cell 2 _ rfl
    have c2b := (CellsAt.gr (x := w2) (W := cw w2.drew) E2).cell 2 _ rfl
    go_region_law (go_simp; go_at_call 39; (with_reducible refine (join_gr (by assumption) (by assumption) (by decide)).mono ?_); rintro e wl ⟨vl, rfl, sl, bl⟩; have tl : Stp _ wl := ⟨bl⟩; have ql := cnew wl; have cl := (CellsAt.gr (x := w2) (W := wl) E2).cell 2 _ rfl)
    all_goals
      go_wp2_with fail
      go_meet
      refine ⟨CellsAt.gr (x := w2) E2, ?_, (inferInstance : Gr w _).h⟩
      rw [hB.out]
      exact Sm.gr (by assumption)
  case rest =>
    clear N0 E2 c0 c2 T1 T2 w8
    obtain ⟨E3, N3, B3⟩ := hcut
    have T3 : Stp w wc := ⟨B3⟩
    clear cnew cstep crun
    clear cw cp
    generalize hL1 : [5] ++ be 1 s.size ++ s.data.toList = L1 at *
    clear hL1
    have B4 : ∀ W, Calls Tryd.prog 40 #[.int .u64 (ru : Int), .int .i64 4] W (RetSm W (be 4 ru) 4) := fun W => big_gr 4 (by decide) ru (by omega) W
    have wrB4 : IntKind.u64.wrap (ru : Int) = (ru : Int) := by unfold IntKind.wrap; simp [IntKind.bits, IntKind.signed]; omega
    have B8 : ∀ W, Calls Tryd.prog 40 #[.int .u64 (re : Int), .int .i64 8] W (RetSm W (be 8 re) 8) := fun W => big_gr 8 (by decide) re (by omega) W
    have wrB8 : IntKind.u64.wrap (re : Int) = (re : Int) := by unfold IntKind.wrap; simp [IntKind.bits, IntKind.signed]; omega
    have cc3 := E3.cell 3 _ rfl
    have cc4 := E3.cell 4 _ rfl
    go_upto_region 10 with fail
    go_cut [3] (fun s3 wx => BdIn w [.int .u8 5, .int .u64 0, .string s, .int .i64 (ru : Int), .int .i64 (re : Int), .int .i64 0, .int .u32 (su : Int), .slice (some ⟨b, off, none⟩) inn.length c] s3 ((L1 ++ be 4 ru) ++ be 8 re) 78 wx)
    case first =>
      go_region_held3 (fun W => W.cell? ⟨w.heap.size, 3, none⟩ = some (.int .i64 (ru : Int)) ∧ W.cell? ⟨w.heap.size, 4, none⟩ = some (.int .i64 (re : Int)))
        (first | go_keep | (exact ⟨(CellsAt.gr (x := wc) E3).cell 3 _ rfl, (CellsAt.gr (x := wc) E3).cell 4 _ rfl⟩))
        (first | (go_simp; go_at_call 40; (with_reducible refine (B4 _).mono ?_); rintro e wl ⟨vl, rfl, sl, bl⟩; have tl : Stp _ wl := ⟨bl⟩) | (go_simp; go_at_call 40; (with_reducible refine (B8 _).mono ?_); rintro e wl ⟨vl, rfl, sl, bl⟩; have tl : Stp _ wl := ⟨bl⟩) | (go_simp; go_at_call 39; (with_reducible refine (join_gr (by assumption) (by assumption) (by decide)).mono ?_); rintro e wl ⟨vl, rfl, sl, bl⟩; have tl : Stp _ wl := ⟨bl⟩))
      all_goals
        go_wp2_with fail
        go_meet
        exact ⟨CellsAt.gr (x := wc) E3, Sm.gr (by assumption), (inferInstance : Gr w _).h⟩
    case rest =>
      clear B4 wrB4
      clear B8 wrB8
      clear cc3 cc4
      clear E3 N3 T3 B3
      obtain ⟨E4, N4, B4⟩ := hcut
      have T4 : Stp w wc := ⟨B4⟩
      generalize hL2 : L1 ++ be 4 ru ++ be 8 re = L2 at *
      clear hL2
      have i64 : (inn.length : Int) ≤ 64 := by omega
      have w8 : IntKind.u8.wrap (inn.length : Int) = (inn.length : Int) := by unfold IntKind.wrap; simp [IntKind.bits, IntKind.signed]; omega
      have B4 : ∀ W, Calls Tryd.prog 40 #[.int .u64 (su : Int), .int .i64 4] W (RetSm W (be 4 su) 4) := fun W => big_gr 4 (by decide) su (by omega) W
      have wrB4 : IntKind.u64.wrap (su : Int) = (su : Int) := by unfold IntKind.wrap; simp [IntKind.bits, IntKind.signed]; omega
      have cc6 := E4.cell 6 _ rfl
      have cc7 := E4.cell 7 _ rfl
      go_upto_region 13 with fail
      go_cut [3] (fun s3 wx => BdIn w [.int .u8 5, .int .u64 0, .string s, .int .i64 (ru : Int), .int .i64 (re : Int), .int .i64 0, .int .u32 (su : Int), .slice (some ⟨b, off, none⟩) inn.length c] s3 ((L2 ++ be 4 su) ++ be 1 inn.length) 83 wx)
      case first =>
        have us : (inn.length : Int) = ((UInt8.ofNat inn.length).toNat : Int) := by simp; omega
        have PN : ∀ X : World, Sm (X.alloc (.cells #[.int .u8 (inn.length : Int)] 5)) (.slice (some ⟨X.heap.size, 0, none⟩) 1 1) (be 1 inn.length) 1 := fun X => Sm.oneAt (X := X) (inn.length : Int) (UInt8.ofNat inn.length) us rfl
        clear us
        have P1 := PN wc
        go_region_held3 (fun W => W.cell? ⟨w.heap.size, 6, none⟩ = some (.int .u32 (su : Int)) ∧ W.cell? ⟨w.heap.size, 7, none⟩ = some (.slice (some ⟨b, off, none⟩) inn.length c))
          (first | go_keep | (exact ⟨(CellsAt.gr (x := wc) E4).cell 6 _ rfl, (CellsAt.gr (x := wc) E4).cell 7 _ rfl⟩))
          (first | (go_simp; go_at_call 40; (with_reducible refine (B4 _).mono ?_); rintro e wl ⟨vl, rfl, sl, bl⟩; have tl : Stp _ wl := ⟨bl⟩; have pl := PN wl) | (go_simp; go_at_call 39; (with_reducible refine (join_gr (by assumption) (by assumption) (by decide)).mono ?_); rintro e wl ⟨vl, rfl, sl, bl⟩; have tl : Stp _ wl := ⟨bl⟩; have pl := PN wl))
        all_goals
          go_wp2_with fail
          go_meet
          exact ⟨CellsAt.gr (x := wc) E4, Sm.gr (by assumption), (inferInstance : Gr w _).h⟩
      case rest =>
        clear B4 wrB4
        clear cc6 cc7
        clear E4 N4 T4 B4 w8
        obtain ⟨E5, N5, B5⟩ := hcut
        generalize hL3 : L2 ++ be 4 su ++ be 1 inn.length = L3 at *
        clear hL3
        have LL := Lib.hid N5.len
        go_wp2_with fail
        go_loopw [3, 5] (fun x i wr => DnRel w [.int .u8 5, .int .u64 0, .string s, .int .i64 (ru : Int), .int .i64 (re : Int), .int .i64 0, .int .u32 (su : Int), .slice (some ⟨b, off, none⟩) inn.length c] L3 inn x i wr) (fun _ i _ => inn.length - (intOf i).toNat)
        case atStart => exact ⟨0, Nat.zero_le _, rfl, by simpa [bodyIn] using E5, ⟨by simpa [bodyIn] using N5.sl, by have := N5.len; simp [bodyIn]; omega⟩, B5⟩
        case round =>
          clear E5 N5 B5
          obtain ⟨j, hj, rfl, E6, N6, B6⟩ := hrel
          have T6 : Stp w wr := ⟨B6⟩
          have c7 := E6.cell 7 _ rfl
          by_cases hlt : j < inn.length
          · have hx := (bcell B6).1 b (off + j) HB.out |>.trans (HC.out j hlt)
            have hr := HIN.out inn[j] (List.getElem_mem hlt)
            have SN := Lib.hid (show inn.take (j + 1) = inn.take j ++ [inn[j]] from List.take_succ_eq_append_getElem hlt)
            generalize inn[j] = y at *
            obtain ⟨m, rfl⟩ : ∃ m : Nat, y = m := ⟨y.toNat, by omega⟩
            have SB := Lib.hid (show L3 ++ bodyIn (inn.take (j + 1)) = (L3 ++ bodyIn (inn.take j)) ++ be 4 m from by rw [SN.out, bodyIn_app, ← List.append_assoc]; simp [bodyIn])
            have LB := Lib.hid (show (L3 ++ bodyIn (inn.take (j + 1))).length ≤ 400 by have := LL.out; rw [List.length_append, bodyIn_len, List.length_take]; omega)
            generalize L3 ++ bodyIn (inn.take j) = Q at *
            have HJ := Lib.hid (show j + 1 ≤ inn.length from hlt)
            go_wp2_with fail
            refine (big_gr 4 (by decide) m (by omega) wr).mono ?_
            rintro e w8 ⟨v8, rfl, s8, b8⟩
            have T8 : Stp wr w8 := ⟨b8⟩
            go_wp2_with fail
            refine (join_gr N6 s8 (by decide)).mono ?_
            rintro e w9 ⟨v9, rfl, s9, b9⟩
            have T9 : Stp w8 w9 := ⟨b9⟩
            have KEY := Lib.hid (show DnRel w [.int .u8 5, .int .u64 0, .string s, .int .i64 (ru : Int), .int .i64 (re : Int), .int .i64 0, .int .u32 (su : Int), .slice (some ⟨b, off, none⟩) inn.length c] L3 inn v9 (.int .i64 ((j : Int) + 1)) w9 from ⟨j + 1, HJ.out, by go_num, CellsAt.gr (x := wr) E6, ⟨by rw [SB.out]; exact s9.sl, LB.out⟩, (inferInstance : Gr w w9).h⟩)
            clear hx SB s8 s9 b8 b9 T8 T9 c7
            go_wp2_with fail
            exact ⟨KEY.out, by simp [intOf]; omega⟩
          · have ek : inn.take j = inn := List.take_of_length_le (by omega)
            rw [ek] at N6
            clear ek
            go_wp2_with fail
            go_ret
            exact ⟨_, rfl, ⟨by rw [HR.out]; exact N6.sl, by rw [HR.out]; exact N6.len⟩, B6⟩
set_option maxHeartbeats 3200000 in
theorem dbody6_ok (w : World) (a : Option Addr) (c : Nat) (R : List UInt8) (hR : R = [6]) : Calls Tryd.prog 27 #[.agg #[.int .u8 6, .int .u64 0, .string ⟨#[]⟩, .int .i64 0, .int .i64 0, .int .i64 0, .int .u32 0, .slice a 0 c]] w (RetSm w R 400) := by
  have HR := Lib.hid hR
  clear hR
  have EB := CellsAt.new w [.int .u8 6, .int .u64 0, .string ⟨#[]⟩, .int .i64 0, .int .i64 0, .int .i64 0, .int .u32 0, .slice a 0 c] 27
  have BE := below_alloc w (.cells #[.int .u8 6, .int .u64 0, .string ⟨#[]⟩, .int .i64 0, .int .i64 0, .int .i64 0, .int .u32 0, .slice a 0 c] 27)
  go_enter Tryd.func27, Tryd.ntmps27
  go_upto_region 2 with fail
  change CellsAt (w.alloc (.cells #[.int .u8 6, .int .u64 0, .string ⟨#[]⟩, .int .i64 0, .int .i64 0, .int .i64 0, .int .u32 0, .slice a 0 c] 27)) _ _ at EB
  have hz1 : (w.alloc (.cells #[.int .u8 6, .int .u64 0, .string ⟨#[]⟩, .int .i64 0, .int .i64 0, .int .i64 0, .int .u32 0, .slice a 0 c] 27)).heap.size = w.heap.size + 1 := by simp
  generalize w.alloc (.cells #[.int .u8 6, .int .u64 0, .string ⟨#[]⟩, .int .i64 0, .int .i64 0, .int .i64 0, .int .u32 0, .slice a 0 c] 27) = w1 at *
  have T1 : Stp w w1 := ⟨BE⟩
  clear BE
  have N0 := Sm.oneAt (X := w1) (g := w.heap.size + 1) 6 6 rfl hz1
  have T2 : Stp w1 (w1.alloc (.cells #[.int .u8 6] 5)) := inferInstance
  generalize w1.alloc (.cells #[.int .u8 6] 5) = w2 at *
  generalize hv0 : Value.slice (some ⟨w.heap.size + 1, 0, none⟩) 1 1 = v0 at *
  clear hv0 hz1
  have E2 : CellsAt w2 w.heap.size _ := EB.gr
  clear EB
  have c0 := E2.cell 0 _ rfl
  go_wp2_with fail
  go_ret
  exact ⟨_, rfl, ⟨by rw [HR.out]; exact N0.sl, by rw [HR.out]; exact Nat.le_trans N0.len (by decide)⟩, (inferInstance : Gr w w2).h⟩
end Go.Proofs.YtlbekgcfafofdaaDoor
