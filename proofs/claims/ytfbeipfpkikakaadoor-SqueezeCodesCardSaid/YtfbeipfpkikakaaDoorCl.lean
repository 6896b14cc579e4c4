/- How many symbols have each length. -/
import Derived.Test.YtfbeipfpkikakaaDoorFf
namespace Go.Proofs.YtfbeipfpkikakaaDoor
open Go.RowKit

set_option maxRecDepth 100000
def cntL (ls : List Nat) : List Value := (List.range 16).map fun j => .int .i64 ((ls.count j : Nat) : Int)
theorem cntL_snoc (ls : List Nat) (x : Nat) (hx : x < 16) : (cntL ls).set x (.int .i64 ((ls.count x + 1 : Nat) : Int)) = cntL (ls ++ [x]) := by
  unfold cntL
  apply List.ext_getElem
  · simp
  · intro i h1 h2
    rw [List.getElem_set]
    simp only [List.getElem_map, List.getElem_range, List.count_append]
    by_cases e : x = i
    · subst e
      rw [if_pos rfl]
      simp
    · rw [if_neg e]
      simp [List.count_cons, e]
def ClRel (w : World) (B : Nat) (ls : List Nat) (i : Value) (wr : World) : Prop := ∃ k : Nat, k ≤ ls.length ∧ i = .int .i64 (k : Int) ∧ CellsAt wr B (cntL (ls.take k)) ∧ CellsAt wr w.heap.size (cntL []) ∧ Below w.heap.size w wr
set_option maxHeartbeats 1600000 in
theorem countLengths_ok (b off cp : Nat) (ls : List Nat) (hls : ∀ x ∈ ls, x < 16) (hlen : ls.length ≤ 100000) (w : World) (hb : b < w.heap.size) (hc : ∀ (j x : Nat), ls[j]? = some x → w.cell? ⟨b, off + j, none⟩ = some (.int .i64 (x : Int))) :
    Calls Tryd.prog 30 #[.slice (some ⟨b, off, none⟩) ls.length cp] w (RetBelow w (.agg (cntL ls).toArray)) := by
  have HC := Lib.hid hc
  have HX := Lib.hid hls
  clear hc hls
  go_enter Tryd.func30, Tryd.ntmps30
  go_upto_region 1 with fail
  have A1 := Lib.hid (CellsAt.new w (cntL []) 60)
  have B1 := Lib.hid (below_alloc w (Obj.cells (cntL []).toArray 60))
  have EZ := Lib.hid (show (cntL []).toArray = #[.int .i64 0, .int .i64 0, .int .i64 0, .int .i64 0, .int .i64 0, .int .i64 0, .int .i64 0, .int .i64 0, .int .i64 0, .int .i64 0, .int .i64 0, .int .i64 0, .int .i64 0, .int .i64 0, .int .i64 0, .int .i64 0] from rfl)
  rw [EZ.out] at A1 B1
  have hs1 : w.heap.size < (w.alloc (Obj.cells #[.int .i64 0, .int .i64 0, .int .i64 0, .int .i64 0, .int .i64 0, .int .i64 0, .int .i64 0, .int .i64 0, .int .i64 0, .int .i64 0, .int .i64 0, .int .i64 0, .int .i64 0, .int .i64 0, .int .i64 0, .int .i64 0] 60)).heap.size := by simp
  generalize w.alloc (Obj.cells #[.int .i64 0, .int .i64 0, .int .i64 0, .int .i64 0, .int .i64 0, .int .i64 0, .int .i64 0, .int .i64 0, .int .i64 0, .int .i64 0, .int .i64 0, .int .i64 0, .int .i64 0, .int .i64 0, .int .i64 0, .int .i64 0] 60) = x1 at *
  go_upto_region 2 with fail
  have A2 := Lib.hid (CellsAt.new x1 (cntL []) 60)
  have A1b := Lib.hid (A1.out.alloc (Obj.cells (cntL []).toArray 60))
  have B2 := Lib.hid (B1.out.alloc (Nat.le_of_lt hs1) (Obj.cells (cntL []).toArray 60))
  rw [EZ.out] at A2 A1b B2
  generalize x1.alloc (Obj.cells #[.int .i64 0, .int .i64 0, .int .i64 0, .int .i64 0, .int .i64 0, .int .i64 0, .int .i64 0, .int .i64 0, .int .i64 0, .int .i64 0, .int .i64 0, .int .i64 0, .int .i64 0, .int .i64 0, .int .i64 0, .int .i64 0] 60) = x2 at *
  obtain ⟨B, hB⟩ : ∃ B, B = x1.heap.size := ⟨_, rfl⟩
  rw [← hB] at A2 hs1 ⊢
  have ST := Lib.hid (show ClRel w B ls (.int .i64 (0 : Nat)) x2 from ⟨0, Nat.zero_le _, rfl, A2.out, A1b.out, B2.out⟩)
  have hBw : w.heap.size < B := by omega
  have hbB : b ≠ B := by omega
  clear A1 B1 A2 A1b B2 EZ hB
  go_wp2_with fail
  go_loopw [5, 8] (fun _ i wr => ClRel w B ls i wr) (fun _ i _ => (ls.length - (intOf i).toNat))
  case atStart => exact ST.out
  case round =>
    obtain ⟨k, hk, rfl, hA, hR, hBl⟩ := hrel
    have HA := Lib.hid hA
    have HR := Lib.hid hR
    have HB := Lib.hid hBl
    clear hA hR hBl
    by_cases hlt : k < ls.length
    · have cx := ((bcell HB.out).1 b (off + k) hb).trans (HC.out k ls[k] (List.getElem?_eq_getElem hlt))
      have hx := HX.out ls[k] (List.getElem_mem hlt)
      have TK := Lib.hid (List.take_succ_eq_append_getElem hlt)
      have cl : (ls.take k).count ls[k] ≤ 100000 := Nat.le_trans List.count_le_length (by rw [List.length_take]; omega)
      generalize ls[k] = x at *
      have ca := HA.out.cell x (.int .i64 (((ls.take k).count x : Nat) : Int)) (by unfold cntL; rw [List.getElem?_map, List.getElem?_range hx]; rfl)
      have fa := HA.out.free x
      have NA := HA.out.set x (.int .i64 (((ls.take k).count x + 1 : Nat) : Int)) (by unfold cntL; simpa using hx)
      rw [cntL_snoc _ _ hx, ← TK.out] at NA
      have NR := HR.out.other (c := B) (by omega) x (.int .i64 (((ls.take k).count x + 1 : Nat) : Int))
      have NB := HB.out.setCell (p := ⟨B, x, none⟩) (by show w.heap.size ≤ B; omega) (.int .i64 (((ls.take k).count x + 1 : Nat) : Int))
      have FIN := Lib.hid (show ClRel w B ls (.int .i64 ((k : Int) + 1)) (wr.setCell ⟨B, x, none⟩ (.int .i64 ((((ls.take k).count x : Nat) : Int) + 1))) from ⟨k + 1, by omega, by go_num, NA, NR, NB⟩)
      have ME := Lib.hid (show ls.length - ((k : Int) + 1).toNat < ls.length - (k : Int).toNat by omega)
      clear NA NR NB TK
      generalize (ls.take k).count x = y at *
      have hBl := HA.out.lt
      go_wp2_with fail
      exact ⟨FIN.out, ME.out⟩
    · have ek : ls.take k = ls := List.take_of_length_le (by omega)
      rw [ek] at HA
      obtain rfl : k = ls.length := by omega
      have EC := Lib.hid (show (cntL ls).toArray = #[.int .i64 ((ls.count 0 : Nat) : Int), .int .i64 ((ls.count 1 : Nat) : Int), .int .i64 ((ls.count 2 : Nat) : Int), .int .i64 ((ls.count 3 : Nat) : Int), .int .i64 ((ls.count 4 : Nat) : Int), .int .i64 ((ls.count 5 : Nat) : Int), .int .i64 ((ls.count 6 : Nat) : Int), .int .i64 ((ls.count 7 : Nat) : Int), .int .i64 ((ls.count 8 : Nat) : Int), .int .i64 ((ls.count 9 : Nat) : Int), .int .i64 ((ls.count 10 : Nat) : Int), .int .i64 ((ls.count 11 : Nat) : Int), .int .i64 ((ls.count 12 : Nat) : Int), .int .i64 ((ls.count 13 : Nat) : Int), .int .i64 ((ls.count 14 : Nat) : Int), .int .i64 ((ls.count 15 : Nat) : Int)] from rfl)
      have a0 := HA.out.cell 0 (.int .i64 ((ls.count 0 : Nat) : Int)) rfl
      have a1 := HA.out.cell 1 (.int .i64 ((ls.count 1 : Nat) : Int)) rfl
      have a2 := HA.out.cell 2 (.int .i64 ((ls.count 2 : Nat) : Int)) rfl
      have a3 := HA.out.cell 3 (.int .i64 ((ls.count 3 : Nat) : Int)) rfl
      have a4 := HA.out.cell 4 (.int .i64 ((ls.count 4 : Nat) : Int)) rfl
      have a5 := HA.out.cell 5 (.int .i64 ((ls.count 5 : Nat) : Int)) rfl
      have a6 := HA.out.cell 6 (.int .i64 ((ls.count 6 : Nat) : Int)) rfl
      have a7 := HA.out.cell 7 (.int .i64 ((ls.count 7 : Nat) : Int)) rfl
      have a8 := HA.out.cell 8 (.int .i64 ((ls.count 8 : Nat) : Int)) rfl
      have a9 := HA.out.cell 9 (.int .i64 ((ls.count 9 : Nat) : Int)) rfl
      have a10 := HA.out.cell 10 (.int .i64 ((ls.count 10 : Nat) : Int)) rfl
      have a11 := HA.out.cell 11 (.int .i64 ((ls.count 11 : Nat) : Int)) rfl
      have a12 := HA.out.cell 12 (.int .i64 ((ls.count 12 : Nat) : Int)) rfl
      have a13 := HA.out.cell 13 (.int .i64 ((ls.count 13 : Nat) : Int)) rfl
      have a14 := HA.out.cell 14 (.int .i64 ((ls.count 14 : Nat) : Int)) rfl
      have a15 := HA.out.cell 15 (.int .i64 ((ls.count 15 : Nat) : Int)) rfl
      have z0 := HR.out.cell 0 (.int .i64 0) rfl
      have g0 := HR.out.free 0
      have z1 := HR.out.cell 1 (.int .i64 0) rfl
      have g1 := HR.out.free 1
      have z2 := HR.out.cell 2 (.int .i64 0) rfl
      have g2 := HR.out.free 2
      have z3 := HR.out.cell 3 (.int .i64 0) rfl
      have g3 := HR.out.free 3
      have z4 := HR.out.cell 4 (.int .i64 0) rfl
      have g4 := HR.out.free 4
      have z5 := HR.out.cell 5 (.int .i64 0) rfl
      have g5 := HR.out.free 5
      have z6 := HR.out.cell 6 (.int .i64 0) rfl
      have g6 := HR.out.free 6
      have z7 := HR.out.cell 7 (.int .i64 0) rfl
      have g7 := HR.out.free 7
      have z8 := HR.out.cell 8 (.int .i64 0) rfl
      have g8 := HR.out.free 8
      have z9 := HR.out.cell 9 (.int .i64 0) rfl
      have g9 := HR.out.free 9
      have z10 := HR.out.cell 10 (.int .i64 0) rfl
      have g10 := HR.out.free 10
      have z11 := HR.out.cell 11 (.int .i64 0) rfl
      have g11 := HR.out.free 11
      have z12 := HR.out.cell 12 (.int .i64 0) rfl
      have g12 := HR.out.free 12
      have z13 := HR.out.cell 13 (.int .i64 0) rfl
      have g13 := HR.out.free 13
      have z14 := HR.out.cell 14 (.int .i64 0) rfl
      have g14 := HR.out.free 14
      have z15 := HR.out.cell 15 (.int .i64 0) rfl
      have g15 := HR.out.free 15

      clear HA
      generalize ls.count 0 = n0 at *
      generalize ls.count 1 = n1 at *
      generalize ls.count 2 = n2 at *
      generalize ls.count 3 = n3 at *
      generalize ls.count 4 = n4 at *
      generalize ls.count 5 = n5 at *
      generalize ls.count 6 = n6 at *
      generalize ls.count 7 = n7 at *
      generalize ls.count 8 = n8 at *
      generalize ls.count 9 = n9 at *
      generalize ls.count 10 = n10 at *
      generalize ls.count 11 = n11 at *
      generalize ls.count 12 = n12 at *
      generalize ls.count 13 = n13 at *
      generalize ls.count 14 = n14 at *
      generalize ls.count 15 = n15 at *
      have EL : ((((((((((((((((cntL []).set 0 (.int .i64 ((n0 : Nat) : Int))).set 1 (.int .i64 ((n1 : Nat) : Int))).set 2 (.int .i64 ((n2 : Nat) : Int))).set 3 (.int .i64 ((n3 : Nat) : Int))).set 4 (.int .i64 ((n4 : Nat) : Int))).set 5 (.int .i64 ((n5 : Nat) : Int))).set 6 (.int .i64 ((n6 : Nat) : Int))).set 7 (.int .i64 ((n7 : Nat) : Int))).set 8 (.int .i64 ((n8 : Nat) : Int))).set 9 (.int .i64 ((n9 : Nat) : Int))).set 10 (.int .i64 ((n10 : Nat) : Int))).set 11 (.int .i64 ((n11 : Nat) : Int))).set 12 (.int .i64 ((n12 : Nat) : Int))).set 13 (.int .i64 ((n13 : Nat) : Int))).set 14 (.int .i64 ((n14 : Nat) : Int))).set 15 (.int .i64 ((n15 : Nat) : Int)) = [.int .i64 ((n0 : Nat) : Int), .int .i64 ((n1 : Nat) : Int), .int .i64 ((n2 : Nat) : Int), .int .i64 ((n3 : Nat) : Int), .int .i64 ((n4 : Nat) : Int), .int .i64 ((n5 : Nat) : Int), .int .i64 ((n6 : Nat) : Int), .int .i64 ((n7 : Nat) : Int), .int .i64 ((n8 : Nat) : Int), .int .i64 ((n9 : Nat) : Int), .int .i64 ((n10 : Nat) : Int), .int .i64 ((n11 : Nat) : Int), .int .i64 ((n12 : Nat) : Int), .int .i64 ((n13 : Nat) : Int), .int .i64 ((n14 : Nat) : Int), .int .i64 ((n15 : Nat) : Int)] := rfl
      have E0 := ((((((((((((((((HR.out.set 0 (.int .i64 ((n0 : Nat) : Int)) (by simp [cntL])).set 1 (.int .i64 ((n1 : Nat) : Int)) (by simp [cntL])).set 2 (.int .i64 ((n2 : Nat) : Int)) (by simp [cntL])).set 3 (.int .i64 ((n3 : Nat) : Int)) (by simp [cntL])).set 4 (.int .i64 ((n4 : Nat) : Int)) (by simp [cntL])).set 5 (.int .i64 ((n5 : Nat) : Int)) (by simp [cntL])).set 6 (.int .i64 ((n6 : Nat) : Int)) (by simp [cntL])).set 7 (.int .i64 ((n7 : Nat) : Int)) (by simp [cntL])).set 8 (.int .i64 ((n8 : Nat) : Int)) (by simp [cntL])).set 9 (.int .i64 ((n9 : Nat) : Int)) (by simp [cntL])).set 10 (.int .i64 ((n10 : Nat) : Int)) (by simp [cntL])).set 11 (.int .i64 ((n11 : Nat) : Int)) (by simp [cntL])).set 12 (.int .i64 ((n12 : Nat) : Int)) (by simp [cntL])).set 13 (.int .i64 ((n13 : Nat) : Int)) (by simp [cntL])).set 14 (.int .i64 ((n14 : Nat) : Int)) (by simp [cntL])).set 15 (.int .i64 ((n15 : Nat) : Int)) (by simp [cntL]))
      rw [EL] at E0
      have E := Lib.hid E0
      clear E0 EL
      have BE := Lib.hid ((((((((((((((((HB.out.setCell (p := ⟨w.heap.size, 0, none⟩) (Nat.le_refl _) (.int .i64 ((n0 : Nat) : Int))).setCell (p := ⟨w.heap.size, 1, none⟩) (Nat.le_refl _) (.int .i64 ((n1 : Nat) : Int))).setCell (p := ⟨w.heap.size, 2, none⟩) (Nat.le_refl _) (.int .i64 ((n2 : Nat) : Int))).setCell (p := ⟨w.heap.size, 3, none⟩) (Nat.le_refl _) (.int .i64 ((n3 : Nat) : Int))).setCell (p := ⟨w.heap.size, 4, none⟩) (Nat.le_refl _) (.int .i64 ((n4 : Nat) : Int))).setCell (p := ⟨w.heap.size, 5, none⟩) (Nat.le_refl _) (.int .i64 ((n5 : Nat) : Int))).setCell (p := ⟨w.heap.size, 6, none⟩) (Nat.le_refl _) (.int .i64 ((n6 : Nat) : Int))).setCell (p := ⟨w.heap.size, 7, none⟩) (Nat.le_refl _) (.int .i64 ((n7 : Nat) : Int))).setCell (p := ⟨w.heap.size, 8, none⟩) (Nat.le_refl _) (.int .i64 ((n8 : Nat) : Int))).setCell (p := ⟨w.heap.size, 9, none⟩) (Nat.le_refl _) (.int .i64 ((n9 : Nat) : Int))).setCell (p := ⟨w.heap.size, 10, none⟩) (Nat.le_refl _) (.int .i64 ((n10 : Nat) : Int))).setCell (p := ⟨w.heap.size, 11, none⟩) (Nat.le_refl _) (.int .i64 ((n11 : Nat) : Int))).setCell (p := ⟨w.heap.size, 12, none⟩) (Nat.le_refl _) (.int .i64 ((n12 : Nat) : Int))).setCell (p := ⟨w.heap.size, 13, none⟩) (Nat.le_refl _) (.int .i64 ((n13 : Nat) : Int))).setCell (p := ⟨w.heap.size, 14, none⟩) (Nat.le_refl _) (.int .i64 ((n14 : Nat) : Int))).setCell (p := ⟨w.heap.size, 15, none⟩) (Nat.le_refl _) (.int .i64 ((n15 : Nat) : Int)))
      clear HC HX HR ek
      go_wp2_with fail
      generalize (((((((((((((((wr.setCell ⟨w.heap.size, 0, none⟩ (.int .i64 ((n0 : Nat) : Int))).setCell ⟨w.heap.size, 1, none⟩ (.int .i64 ((n1 : Nat) : Int))).setCell ⟨w.heap.size, 2, none⟩ (.int .i64 ((n2 : Nat) : Int))).setCell ⟨w.heap.size, 3, none⟩ (.int .i64 ((n3 : Nat) : Int))).setCell ⟨w.heap.size, 4, none⟩ (.int .i64 ((n4 : Nat) : Int))).setCell ⟨w.heap.size, 5, none⟩ (.int .i64 ((n5 : Nat) : Int))).setCell ⟨w.heap.size, 6, none⟩ (.int .i64 ((n6 : Nat) : Int))).setCell ⟨w.heap.size, 7, none⟩ (.int .i64 ((n7 : Nat) : Int))).setCell ⟨w.heap.size, 8, none⟩ (.int .i64 ((n8 : Nat) : Int))).setCell ⟨w.heap.size, 9, none⟩ (.int .i64 ((n9 : Nat) : Int))).setCell ⟨w.heap.size, 10, none⟩ (.int .i64 ((n10 : Nat) : Int))).setCell ⟨w.heap.size, 11, none⟩ (.int .i64 ((n11 : Nat) : Int))).setCell ⟨w.heap.size, 12, none⟩ (.int .i64 ((n12 : Nat) : Int))).setCell ⟨w.heap.size, 13, none⟩ (.int .i64 ((n13 : Nat) : Int))).setCell ⟨w.heap.size, 14, none⟩ (.int .i64 ((n14 : Nat) : Int))).setCell ⟨w.heap.size, 15, none⟩ (.int .i64 ((n15 : Nat) : Int)) = y3 at E BE ⊢
      have e0 := E.out.cell 0 (.int .i64 ((n0 : Nat) : Int)) rfl
      have e1 := E.out.cell 1 (.int .i64 ((n1 : Nat) : Int)) rfl
      have e2 := E.out.cell 2 (.int .i64 ((n2 : Nat) : Int)) rfl
      have e3 := E.out.cell 3 (.int .i64 ((n3 : Nat) : Int)) rfl
      have e4 := E.out.cell 4 (.int .i64 ((n4 : Nat) : Int)) rfl
      have e5 := E.out.cell 5 (.int .i64 ((n5 : Nat) : Int)) rfl
      have e6 := E.out.cell 6 (.int .i64 ((n6 : Nat) : Int)) rfl
      have e7 := E.out.cell 7 (.int .i64 ((n7 : Nat) : Int)) rfl
      have e8 := E.out.cell 8 (.int .i64 ((n8 : Nat) : Int)) rfl
      have e9 := E.out.cell 9 (.int .i64 ((n9 : Nat) : Int)) rfl
      have e10 := E.out.cell 10 (.int .i64 ((n10 : Nat) : Int)) rfl
      have e11 := E.out.cell 11 (.int .i64 ((n11 : Nat) : Int)) rfl
      have e12 := E.out.cell 12 (.int .i64 ((n12 : Nat) : Int)) rfl
      have e13 := E.out.cell 13 (.int .i64 ((n13 : Nat) : Int)) rfl
      have e14 := E.out.cell 14 (.int .i64 ((n14 : Nat) : Int)) rfl
      have e15 := E.out.cell 15 (.int .i64 ((n15 : Nat) : Int)) rfl
      clear a0 z0 g0 a1 z1 g1 a2 z2 g2 a3 z3 g3 a4 z4 g4 a5 z5 g5 a6 z6 g6 a7 z7 g7 a8 z8 g8 a9 z9 g9 a10 z10 g10 a11 z11 g11 a12 z12 g12 a13 z13 g13 a14 z14 g14 a15 z15 g15
      exact bodyPost_ret (v := .agg #[.int .i64 ((n0 : Nat) : Int), .int .i64 ((n1 : Nat) : Int), .int .i64 ((n2 : Nat) : Int), .int .i64 ((n3 : Nat) : Int), .int .i64 ((n4 : Nat) : Int), .int .i64 ((n5 : Nat) : Int), .int .i64 ((n6 : Nat) : Int), .int .i64 ((n7 : Nat) : Int), .int .i64 ((n8 : Nat) : Int), .int .i64 ((n9 : Nat) : Int), .int .i64 ((n10 : Nat) : Int), .int .i64 ((n11 : Nat) : Int), .int .i64 ((n12 : Nat) : Int), .int .i64 ((n13 : Nat) : Int), .int .i64 ((n14 : Nat) : Int), .int .i64 ((n15 : Nat) : Int)]) (by simp [results, Tryd.results30, go_sem, e0, e1, e2, e3, e4, e5, e6, e7, e8, e9, e10, e11, e12, e13, e14, e15]) rfl ⟨by rw [EC.out], BE.out⟩
end Go.Proofs.YtfbeipfpkikakaaDoor
