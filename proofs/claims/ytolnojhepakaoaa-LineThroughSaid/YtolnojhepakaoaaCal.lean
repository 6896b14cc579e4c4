/- calm, of the statements: a system with room and short reads. -/
import Derived.Test.YtolnojhepakaoaaNew
import Derived.Test.YtolnojhepakaoaaNils
import Derived.Test.YtolnojhepakaoaaStats
import Derived.Test.YtolnojhepakaoaaSplit
namespace Go.Proofs.Ytolnojhepakaoaa
open Go.RowKit Go.Maps Go.MuLone

theorem info3 : (Try.prog.info? 3).map (fun i => (i.zero, i.size, i.bytes)) = some (some (.int .i64 0), 1, 8) := by kernel_rfl
def i64V (z : Int) : Value := .int .i64 z
structure CalAt (w : World) (B cb : Nat) (k : Nat) (D : List Int) (v : Value) (wr : World) : Prop where
  cbB : B ≤ cb
  blk : wr.heap[cb]? = some (.cells #[.int .i64 67108864, .int .i64 8, .int .i64 8, v, .slice none 0 0, .int .i64 0, .int .i64 0] 59 (0, 0))
  row : wr.ownsRow B 3 1 v D.length (D.map i64V)
  len : D.length = k
  pos : ∀ z ∈ D, 1 ≤ z
  keep : Keeps [] w wr
def CalR (w : World) (B cb N : Nat) (i : Value) (wr : World) : Prop := ∃ (k : Nat) (D : List Int) (v : Value), k ≤ N ∧ k ≤ 64 ∧ i = .int .i64 (k : Int) ∧ CalAt w B cb k D v wr
theorem CalAt.cell {w wr : World} {B cb k : Nat} {D : List Int} {v : Value} (h : CalAt w B cb k D v wr) (j : Nat) (u : Value) (hu : (#[.int .i64 67108864, .int .i64 8, .int .i64 8, v, .slice none 0 0, .int .i64 0, .int .i64 0] : Array Value)[j]? = some u) : wr.cell? ⟨cb, j, none⟩ = some u := by
  rw [cell_of_row wr cb j _ 59 (0, 0) h.blk]; exact hu
theorem CalAt.free {w wr : World} {B cb k : Nat} {D : List Int} {v : Value} (h : CalAt w B cb k D v wr) (j : Nat) : wr.frozen? ⟨cb, j, none⟩ = false := frozen_of_row wr cb j _ 59 h.blk
theorem row3_ne {w : World} {B b T : Nat} {v : Value} {n : Nat} {xs : List Value} {c : Array Value} {fz : Nat × Nat} (h : w.ownsRow B 3 1 v n xs) (hb : w.heap[b]? = some (.cells c T fz)) (hT : T ≠ 3) : ∀ j, v.ownBlock = some j → j ≠ b := by
  intro j hj e
  subst e
  rcases h.2 with ⟨rfl, _⟩ | ⟨g, cap, cur, rfl, _, h1, _⟩
  · simp [Value.ownBlock] at hj
  · simp [Value.ownBlock] at hj
    subst hj
    rw [h1] at hb
    injection hb with hb
    injection hb with _ y
    exact hT y.symm
/-- One number more. -/
theorem CalAt.more {w wr w6 : World} {B cb k : Nat} {D : List Int} {v v' : Value} {x : Int} {o : Obj} (h : CalAt w B cb k D v wr) (hB : B = w.heap.size) (hx : 1 ≤ x) (hrow : w6.ownsRow B 3 1 v' (D ++ [x]).length ((D ++ [x]).map i64V)) (hg : (wr.alloc o).grownBy w6 v.ownBlock) :
    CalAt w B cb (k + 1) (D ++ [x]) v' (w6.setCell ⟨cb, 3, none⟩ v') ∧ (w6.cell? ⟨cb, 3, none⟩ = some v ∧ w6.frozen? ⟨cb, 3, none⟩ = false ∧ cb < w6.heap.size) := by
  have hlt := lt_of_block h.blk
  have nc := row3_ne h.row h.blk (by decide)
  have kk : Keeps v.ownBlock.toList (wr.alloc o) w6 := ⟨hg.os, hg.tape, hg.output, hg.size, fun q hq hn => hg.block q hq (fun e => hn (by rw [← e]; simp))⟩
  have kk5 : Keeps v.ownBlock.toList wr w6 := (((Keeps.refl [] wr).alloc o).mono (by simp)).trans kk
  have b6 : w6.heap[cb]? = _ := (kk5.block cb hlt (fun hm => nc cb (by simpa using hm) rfl)).trans h.blk
  have n6 := row3_ne hrow b6 (by decide)
  have hcb := h.cbB
  have hk6 : Keeps [] w w6 := by
    have k1 : Keeps v.ownBlock.toList w wr := h.keep.mono (by simp)
    refine (k1.trans kk5).drop (fun y hy => ?_)
    have := (h.row.lt y (by simpa using hy)).1
    exact .inr (by omega)
  refine ⟨⟨h.cbB, ?_, ?_, by rw [List.length_append, h.len]; rfl, fun z hz => ?_, ?_⟩, by rw [cell_of_row w6 cb 3 _ 59 (0, 0) b6]; rfl, frozen_of_row w6 cb 3 _ 59 b6, lt_of_block b6⟩
  · have := heap_setCell_same w6 cb 3 _ 59 v' b6
    exact this
  · exact ownsRow_setCell_other (a := ⟨cb, 3, none⟩) hrow (fun e => n6 cb e rfl) v'
  · rcases List.mem_append.1 hz with hz | hz
    · exact h.pos z hz
    · simp at hz; omega
  · exact hk6.setNew (p := ⟨cb, 3, none⟩) (show w.heap.size ≤ cb by omega) v'
def CalmPost (w : World) (e : Ending) (w' : World) : Prop := ∃ b mp sh' d, e = .returned (.pointer (some ⟨b, 0, none⟩)) ∧ FsAt w' b 0 (newFS 67108864 8 8 0 sh' d mp) ∧ w'.ownsMap Try.prog 9 heldR mp 0 (.map []) ∧ ShortAt w' sh' b ∧ mp ≠ b ∧ w.heap.size ≤ b ∧ w.heap.size ≤ mp ∧ Keeps [] w w'
set_option maxRecDepth 100000 in
set_option maxHeartbeats 1600000 in
theorem calm_any {w : World} {a : Option Addr} {N c : Nat} (hs : N = 0 ∨ ∃ (sb so : Nat) (z : Nat → Int), a = some ⟨sb, so, none⟩ ∧ ∀ j, j < N → w.cell? ⟨sb, so + j, none⟩ = some (.int .i64 (z j))) (_ : N ≤ 4611686018427387904) :
    Calls Try.prog 16 #[.slice a N c] w (CalmPost w) := by
  have HS := Lib.hid hs
  clear hs
  go_enter Try.func16, Try.ntmps16
  go_wp2_with fail
  have ST := Lib.hid (show CalR w w.heap.size w.heap.size N (.int .i64 0) (w.alloc (.cells #[.int .i64 67108864, .int .i64 8, .int .i64 8, .slice none 0 0, .slice none 0 0, .int .i64 0, .int .i64 0] 59)) from
    ⟨0, [], .slice none 0 0, Nat.zero_le _, by omega, by go_num, ⟨Nat.le_refl _, heap_alloc_new w _, World.ownsRow_nil _ _ _ _, rfl, by simp, (Keeps.refl [] w).alloc _⟩⟩)
  go_loopw [4] (fun i wr => CalR w w.heap.size w.heap.size N i wr) (fun i _ => 64 - (intOf i).toNat)
  case atStart => exact ST.out
  case round =>
    clear ST
    obtain ⟨k, D, v, hk1, hk2, rfl, M⟩ := hrel
    have HM := Lib.hid M
    have c3 := M.cell 3 _ rfl
    have f3 := M.free 3
    have lc := lt_of_block M.blk
    obtain ⟨i0, hi, hz0, hz1, hz2⟩ := info_parts info3
    have Hi := Lib.hid hi
    have Hz0 := Lib.hid hz0
    have Hz1 := Lib.hid hz1
    have Hz2 := Lib.hid hz2
    have Hrow := Lib.hid M.row
    have hlen := M.len
    have hB := M.keep.size
    clear hi hz0 hz1 hz2 M
    by_cases hk : k < N ∧ k < 64
    · obtain ⟨h1, h2⟩ := hk
      have t1 : decide ((k : Int) < (N : Int)) = true := decide_eq_true (by omega)
      have t1n : decide (k < N) = true := decide_eq_true h1
      have t2 : decide ((k : Int) < 64) = true := decide_eq_true (by omega)
      obtain ⟨sb, so, z, rfl, hc⟩ : ∃ (sb so : Nat) (z : Nat → Int), a = some ⟨sb, so, none⟩ ∧ ∀ j, j < N → w.cell? ⟨sb, so + j, none⟩ = some (.int .i64 (z j)) := by
        rcases HS.out with h | h
        · omega
        · exact h
      have cz : wr.cell? ⟨sb, so + k, none⟩ = some (.int .i64 (z k)) := (World.cell?_of_block (HM.out.keep.block _ (World.block_lt_of_cell? w _ (hc k h1)) (by simp))).trans (hc k h1)
      clear hc
      generalize z k = x at *
      have a1 : (k : Int) < (N : Int) := by omega
      have a2 : (0 : Int) ≤ (k : Int) := by omega
      by_cases hx : x < 1
      · have t3 : decide (x < 1) = true := decide_eq_true hx
        go_wp2_with (at_builtin; refine wpList_append_own _ rfl _ _ 35 rfl w.heap.size 3 i0 (.int .i64 0) 1 8 Try.underlying35 Hi.out Hz0.out Hz1.out Hz2.out rfl (by decide) _ _ _ rfl (Hrow.out.alloc _) ⟨wr.heap.size, 0, none⟩ 1 1 [i64V 1] rfl rfl (cell_new _ _ _) (by intro u hu; simp at hu; subst hu; rfl) (by unfold maxLen; omega) (by omega) (by simp; omega) ?_; intro v' w6 hown' hgrow _; obtain ⟨ao5, cp5, rfl⟩ := ownsRow_slice hown'; have LN := Lib.hid (HM.out.more (x := 1) rfl (by omega) (by rw [List.length_append, List.map_append]; exact hown') hgrow); have b3 := LN.out.2.1; have b4 := LN.out.2.2.1; have b5 := LN.out.2.2.2; clear hown' hgrow)
        exact ⟨⟨k + 1, D ++ [1], _, by omega, by omega, by go_num, by have e := LN.out.1; rw [hlen] at e; exact e⟩, by show 64 - ((k : Int) + 1).toNat < 64 - (k : Int).toNat; omega⟩
      · have t3 : decide (x < 1) = false := decide_eq_false hx
        go_wp2_with (at_builtin; refine wpList_append_own _ rfl _ _ 35 rfl w.heap.size 3 i0 (.int .i64 0) 1 8 Try.underlying35 Hi.out Hz0.out Hz1.out Hz2.out rfl (by decide) _ _ _ rfl (Hrow.out.alloc _) ⟨wr.heap.size, 0, none⟩ 1 1 [i64V x] rfl rfl (cell_new _ _ _) (by intro u hu; simp at hu; subst hu; rfl) (by unfold maxLen; omega) (by omega) (by simp; omega) ?_; intro v' w6 hown' hgrow _; obtain ⟨ao5, cp5, rfl⟩ := ownsRow_slice hown'; have LN := Lib.hid (HM.out.more (x := x) rfl (by omega) (by rw [List.length_append, List.map_append]; exact hown') hgrow); have b3 := LN.out.2.1; have b4 := LN.out.2.2.1; have b5 := LN.out.2.2.2; clear hown' hgrow)
        exact ⟨⟨k + 1, D ++ [x], _, by omega, by omega, by go_num, by have e := LN.out.1; rw [hlen] at e; exact e⟩, by show 64 - ((k : Int) + 1).toNat < 64 - (k : Int).toNat; omega⟩
    · have hsok : ShortOk wr v := by
        rcases Hrow.out.2 with ⟨h1, h2⟩ | ⟨g, cap, cur, h1, _⟩
        · left; exact ⟨none, 0, h1⟩
        · rcases Nat.eq_zero_or_pos D.length with h0 | h0
          · left; exact ⟨_, _, by rw [h1, h0]⟩
          · right
            refine ⟨g, 0, D.length, cap, fun j => D.getD j 0, h1, h0, by omega, fun j hj => ?_⟩
            have hcj := Hrow.out.cells (g := g) (by rw [h1]; rfl) j (i64V (D.getD j 0)) (by rw [List.getElem?_map, List.getElem?_eq_getElem hj]; simp [List.getD, hj])
            refine ⟨?_, ?_⟩
            · have e : (⟨g, 0, none⟩ : Addr).add j = ⟨g, 0 + j, none⟩ := by unfold Addr.add; split <;> simp_all
              rw [e] at hcj; exact hcj
            · have e : D.getD j 0 = D[j] := by simp [List.getD, hj]
              show 1 ≤ D.getD j 0
              rw [e]; exact HM.out.pos _ (List.getElem_mem hj)
      have NW := Lib.hid (new_ok 67108864 8 8 0 v wr hsok (by omega) (by omega) (by omega) (by omega) (by omega) (by omega) (by omega))
      have c0 := HM.out.cell 0 _ rfl
      have c1 := HM.out.cell 1 _ rfl
      have c2 := HM.out.cell 2 _ rfl
      have c4 := HM.out.cell 4 _ rfl
      have c5 := HM.out.cell 5 _ rfl
      have c6 := HM.out.cell 6 _ rfl
      clear hsok
      have tk : k < N → decide ((k : Int) < 64) = false := fun h => decide_eq_false (by omega)
      by_cases hkN : k < N
      · have t1 : decide ((k : Int) < (N : Int)) = true := decide_eq_true (by omega)
        have t1n : decide (k < N) = true := decide_eq_true hkN
        have t2 := tk hkN
        clear tk
        go_wp2_with fail
        refine NW.out.mono ?_
        rintro e w1 ⟨b, mp, sh', d, rfl, hb1, hm1, hs1, hne, hwb, hwm, hkk⟩
        have FIN := Lib.hid (show CalmPost w (.returned (.pointer (some ⟨b, 0, none⟩))) w1 from ⟨b, mp, sh', d, rfl, hb1, hm1, hs1, hne, Nat.le_trans hB hwb, Nat.le_trans hB hwm, HM.out.keep.trans hkk⟩)
        clear hb1 hm1 hs1 hne hkk NW
        go_wp2_with fail
        refine (num_ok 0 w1).mono ?_
        rintro e w' ⟨rfl, rfl⟩
        go_wp2_with fail
        go_ret
        exact FIN.out
      · have t1 : decide ((k : Int) < (N : Int)) = false := decide_eq_false (by omega)
        have t1n : decide (k < N) = false := decide_eq_false hkN
        clear tk
        go_wp2_with fail
        refine NW.out.mono ?_
        rintro e w1 ⟨b, mp, sh', d, rfl, hb1, hm1, hs1, hne, hwb, hwm, hkk⟩
        have FIN := Lib.hid (show CalmPost w (.returned (.pointer (some ⟨b, 0, none⟩))) w1 from ⟨b, mp, sh', d, rfl, hb1, hm1, hs1, hne, Nat.le_trans hB hwb, Nat.le_trans hB hwm, HM.out.keep.trans hkk⟩)
        clear hb1 hm1 hs1 hne hkk NW
        go_wp2_with fail
        refine (num_ok 0 w1).mono ?_
        rintro e w' ⟨rfl, rfl⟩
        go_wp2_with fail
        go_ret
        exact FIN.out
end Go.Proofs.Ytolnojhepakaoaa
