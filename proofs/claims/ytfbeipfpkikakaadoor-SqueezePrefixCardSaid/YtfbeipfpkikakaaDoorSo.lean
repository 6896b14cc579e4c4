/- The stable sort of few symbols that stand in order. The stable sort: nothing is moved where all stands in order. Costs two by two. Rows of the call's own, of any type of one cell. -/
import Derived.Test.YtfbeipfpkikakaaDoorBy
import Derived.Lib.JoinLaws
namespace Go.Proofs.YtfbeipfpkikakaaDoor
section
open Go.RowKit

set_option maxRecDepth 100000
/-- A slice of numbers that reads so. -/
def SlI (w : World) (v : Value) (xs : List Nat) : Prop :=
  ∃ a c, v = .slice a xs.length c ∧ (xs = [] ∨ ∃ b off, a = some ⟨b, off, none⟩ ∧ b < w.heap.size ∧ ∀ (j x : Nat), xs[j]? = some x → w.cell? ⟨b, off + j, none⟩ = some (.int .i64 (x : Int)))
theorem SlI.below {w w' : World} {v : Value} {xs : List Nat} (h : SlI w v xs) (k : Below w.heap.size w w') : SlI w' v xs := by
  obtain ⟨a, c, hv, h | ⟨b, off, ha, hb, hc⟩⟩ := h
  · exact ⟨a, c, hv, Or.inl h⟩
  · exact ⟨a, c, hv, Or.inr ⟨b, off, ha, Nat.lt_of_lt_of_le hb k.size, fun j x hx => (k.cell (p := ⟨b, off + j, none⟩) hb).trans (hc j x hx)⟩⟩
theorem SlI.get {w : World} {b off n c : Nat} {xs : List Nat} (h : SlI w (.slice (some ⟨b, off, none⟩) n c) xs) : (xs = [] ∨ b < w.heap.size) ∧ ∀ (j x : Nat), xs[j]? = some x → w.cell? ⟨b, off + j, none⟩ = some (.int .i64 (x : Int)) := by
  obtain ⟨a, c', hv, h | ⟨b', off', ha, hb, hc⟩⟩ := h
  · exact ⟨.inl h, fun j x hx => by rw [h] at hx; cases hx⟩
  · injection hv with h1 h2 h3
    rw [ha] at h1
    injection h1 with h1
    injection h1 with h4 h5
    subst h4 h5
    exact ⟨.inr hb, hc⟩
set_option maxHeartbeats 400000 in
theorem isNaN_ok (a : Int) (w : World) : Calls Tryd.prog 91 #[.int .i64 a] w (Same w (.bool false)) := by
  go_enter Tryd.func91, Tryd.ntmps91
  go_wp2_with fail
  go_ret
  exact ⟨by simp, rfl⟩
/-- How two numbers stand. -/
def cmpI (a b : Nat) : Int := if a < b then -1 else if b < a then 1 else 0
set_option maxHeartbeats 800000 in
theorem compare_ok (a b : Nat) (w : World) : Calls Tryd.prog 87 #[.int .i64 (a : Int), .int .i64 (b : Int)] w (Same w (.int .i64 (cmpI a b))) := by
  unfold cmpI
  by_cases h1 : a < b
  · rw [if_pos h1]
    have t1 : decide ((a : Int) < (b : Int)) = true := decide_eq_true (by omega)
    have t1n : decide (a < b) = true := decide_eq_true h1
    go_enter Tryd.func87, Tryd.ntmps87
    go_wp2_with (go_at_call 91; refine (isNaN_ok _ _).mono ?_; rintro e w' ⟨rfl, rfl⟩)
    go_ret
    exact ⟨rfl, rfl⟩
  · rw [if_neg h1]
    have t1 : decide ((a : Int) < (b : Int)) = false := decide_eq_false (by omega)
    have t1n : decide (a < b) = false := decide_eq_false h1
    by_cases h2 : b < a
    · rw [if_pos h2]
      have t2 : decide ((b : Int) < (a : Int)) = true := decide_eq_true (by omega)
      have t2n : decide (b < a) = true := decide_eq_true h2
      go_enter Tryd.func87, Tryd.ntmps87
      go_wp2_with (go_at_call 91; refine (isNaN_ok _ _).mono ?_; rintro e w' ⟨rfl, rfl⟩)
      go_ret
      exact ⟨rfl, rfl⟩
    · rw [if_neg h2]
      have t2 : decide ((b : Int) < (a : Int)) = false := decide_eq_false (by omega)
      have t2n : decide (b < a) = false := decide_eq_false h2
      go_enter Tryd.func87, Tryd.ntmps87
      go_wp2_with (go_at_call 91; refine (isNaN_ok _ _).mono ?_; rintro e w' ⟨rfl, rfl⟩)
      go_ret
      exact ⟨rfl, rfl⟩
/-- By how often symbols come. -/
structure ByC (w : World) (cc : Nat) (cv : Value) (cs : List Nat) : Prop where
  cell : w.cell? ⟨cc, 0, none⟩ = some cv
  lt : cc < w.heap.size
  sl : SlI w cv cs
theorem ByC.below {w w' : World} {cc : Nat} {cv : Value} {cs : List Nat} (h : ByC w cc cv cs) (k : Below w.heap.size w w') : ByC w' cc cv cs :=
  ⟨((bcell k).1 cc 0 h.lt).trans h.cell, Nat.lt_of_lt_of_le h.lt k.size, h.sl.below k⟩
set_option maxHeartbeats 800000 in
theorem by86_ok {w : World} {cc : Nat} {cv : Value} {cs : List Nat} (h : ByC w cc cv cs) (i j : Nat) (hi : i < cs.length) (hj : j < cs.length) :
    Calls Tryd.prog 86 #[.int .i64 (i : Int), .int .i64 (j : Int), .pointer (some ⟨cc, 0, none⟩)] w (RetBelow w (.int .i64 (cmpI (cs.getD i 0) (cs.getD j 0)))) := by
  obtain ⟨va, vc, rfl, hnil | ⟨b, off, rfl, hb, hc⟩⟩ := h.sl
  · rw [hnil] at hi; exact absurd hi (Nat.not_lt_zero _)
  · have ci := hc i cs[i] (List.getElem?_eq_getElem hi)
    have cj := hc j cs[j] (List.getElem?_eq_getElem hj)
    have gi : cs.getD i 0 = cs[i] := by rw [List.getD_eq_getElem?_getD, List.getElem?_eq_getElem hi]; rfl
    have gj : cs.getD j 0 = cs[j] := by rw [List.getD_eq_getElem?_getD, List.getElem?_eq_getElem hj]; rfl
    rw [gi, gj]
    have c0 := h.cell
    have l0 := h.lt
    have CM := Lib.hid (compare_ok cs[i] cs[j])
    clear gi gj hc h
    generalize cs[i] = x at *
    generalize cs[j] = y at *
    generalize cmpI x y = z at *
    have i1 : (i : Int) < (cs.length : Int) := by omega
    have i2 : (0 : Int) ≤ (i : Int) := by omega
    have j1 : (j : Int) < (cs.length : Int) := by omega
    have j2 : (0 : Int) ≤ (j : Int) := by omega
    generalize cs.length = n at *
    go_enter Tryd.func86, Tryd.ntmps86
    go_wp2_with fail
    go_region_held3 (fun w' => w'.cell? ⟨cc, 0, none⟩ = some (.slice (some ⟨b, off, none⟩) n vc) ∧ w'.cell? ⟨b, off + i, none⟩ = some (.int .i64 (x : Int)) ∧ w'.cell? ⟨b, off + j, none⟩ = some (.int .i64 (y : Int)))
      (first | go_keep)
      ((first | (go_at_call 87; refine (CM.out _).mono ?_; rintro e w3 ⟨rfl, rfl⟩)))
    all_goals
      go_wp2_with fail
      go_ret
      exact ⟨rfl, below_drewN _ 1⟩
end

section
open Go.RowKit

set_option maxRecDepth 100000
theorem cmpI_not (a b : Nat) (h : b ≤ a) : ¬ cmpI a b < 0 := by unfold cmpI; rw [if_neg (by omega)]; split <;> omega
def InOrder (cs xs : List Nat) : Prop := (∀ x ∈ xs, x < cs.length) ∧ ∀ j (h : j + 1 < xs.length), cs.getD (xs[j]'(by omega)) 0 ≤ cs.getD xs[j + 1] 0
def InRel (w : World) (n : Nat) (i : Value) (wr : World) : Prop := ∃ k : Nat, 1 ≤ k ∧ k ≤ n + 1 ∧ i = .int .i64 (k : Int) ∧ Below w.heap.size w wr
set_option maxHeartbeats 1600000 in
theorem insert_ok {w : World} {cc : Nat} {cv v : Value} {cs xs : List Nat} (h : ByC w cc cv cs) (hv : SlI w v xs) (ho : InOrder cs xs) (hn : xs.length ≤ 1000) :
    Calls Tryd.prog 92 #[v, .int .i64 0, .int .i64 (xs.length : Int), .func (.func 86) #[] #[.pointer (some ⟨cc, 0, none⟩)]] w (RetBelow w (.tuple #[])) := by
  have HC := Lib.hid h
  have HV := Lib.hid hv
  have HO := Lib.hid ho
  obtain ⟨va, vc, rfl, _⟩ := hv
  clear h ho
  have ST := Lib.hid (show InRel w xs.length (.int .i64 1) w from ⟨1, by omega, by omega, rfl, Below.refl _ _⟩)
  go_enter Tryd.func92, Tryd.ntmps92
  go_wp2_with fail
  go_loopw [8, 9] (fun i _ wr => InRel w xs.length i wr) (fun i _ _ => (xs.length + 1 - (intOf i).toNat))
  case atStart => exact ST.out
  case round =>
    clear ST
    obtain ⟨k, hk1, hk, rfl, hb⟩ := hrel
    by_cases hlt : k < xs.length
    · have hne : xs ≠ [] := by intro e; rw [e] at hlt; exact absurd hlt (Nat.not_lt_zero _)
      have HW := Lib.hid (HC.out.below hb)
      have VW := HV.out.below hb
      obtain ⟨b, off, rfl⟩ : ∃ b off, va = some ⟨b, off, none⟩ := by
        obtain ⟨a, c, e, h | ⟨b, off, ha, _⟩⟩ := VW
        · exact absurd h hne
        · injection e with e1 _ _; exact ⟨b, off, by rw [e1, ha]⟩
      obtain ⟨hbl, hcell⟩ := VW.get
      have hbl' := hbl.resolve_left hne
      obtain ⟨j, rfl⟩ : ∃ j, k = j + 1 := ⟨k - 1, by omega⟩
      have c1 := hcell (j + 1) xs[j + 1] (List.getElem?_eq_getElem hlt)
      have c0 := hcell j xs[j] (List.getElem?_eq_getElem (by omega))
      have o1 := HO.out.1 xs[j + 1] (List.getElem_mem hlt)
      have o0 := HO.out.1 (xs[j]'(by omega)) (List.getElem_mem _)
      have oo := HO.out.2 j hlt
      have BC := Lib.hid (by86_ok (w := wr.drew) (HW.out.below (below_drewN wr 1)) xs[j + 1] (xs[j]'(by omega)) o1 o0)
      have NL := cmpI_not _ _ oo
      have BB := Lib.hid hb
      clear hbl hcell hb oo o1 o0 HW hne
      generalize cmpI (cs.getD xs[j + 1] 0) (cs.getD (xs[j]'(by omega)) 0) = z at *
      generalize xs[j + 1] = x1 at *
      generalize xs[j] = x0 at *
      obtain ⟨K, hK⟩ : ∃ K, K = j + 1 := ⟨_, rfl⟩
      have e1 : IntKind.i64.wrap ((K : Int) - 1) = (j : Int) := by rw [show (K : Int) - 1 = (j : Int) by omega]; exact IntWalk.i64_in _ (by omega)
      rw [← hK] at c1 hlt hk ⊢
      have t1 : decide ((K : Int) < (xs.length : Int)) = true := decide_eq_true (by omega)
      have t1n : decide (K < xs.length) = true := decide_eq_true hlt
      have tk : decide ((0 : Int) < (K : Int)) = true := decide_eq_true (by omega)
      have tkn : decide (0 < K) = true := decide_eq_true (by omega)
      have tz : decide (z < 0) = false := decide_eq_false NL
      have k1 : (K : Int) < (xs.length : Int) := by omega
      have k2 : (0 : Int) ≤ (K : Int) := by omega
      have j1 : (j : Int) < (xs.length : Int) := by omega
      have j2 : (0 : Int) ≤ (j : Int) := by omega
      have ME := Lib.hid (show xs.length + 1 - ((K : Int) + 1).toNat < xs.length + 1 - (K : Int).toNat by omega)
      have QK := Lib.hid hK
      clear hK NL
      go_wp2_with fail
      refine wp_loop_rounds 1 ?_
      rw [rounds_succ]
      go_wp2_with fail
      go_region_held3 (fun w' => w'.cell? ⟨b, off + K, none⟩ = some (.int .i64 (x1 : Int)) ∧ w'.cell? ⟨b, off + j, none⟩ = some (.int .i64 (x0 : Int)))
        (first | go_keep | exact ⟨((bcell hb3).1 b _ hbl').trans c1, ((bcell hb3).1 b _ hbl').trans c0⟩)
        ((first | (go_at_call 86; refine BC.out.mono ?_; rintro e w3 ⟨rfl, hb3⟩)))
      all_goals
        go_wp2_with fail
        go_roundw
        case rel => exact ⟨K + 1, by omega, by omega, by congr 1, BB.out.drew.trans (hb3.mono BB.out.size)⟩
        case measure => exact ME.out
    · have t1 : decide ((k : Int) < (xs.length : Int)) = false := decide_eq_false (by omega)
      have t1n : decide (k < xs.length) = false := decide_eq_false hlt
      go_wp2_with fail
      go_end0
      exact ⟨rfl, hb⟩
end

section
open Go.RowKit

set_option maxRecDepth 100000
theorem info2 : (Tryd.prog.info? 2).map (fun i => (i.zero, i.size, i.bytes)) = some (some (.int .i64 0), 1, 8) := by kernel_rfl
def prF (xs : List Nat) (k : Nat) : Nat → Nat := fun i => if i < k then xs.getD (2 * i) 0 + xs.getD (2 * i + 1) 0 else 0
/-- The sums of the first two, of the next two, and so on. -/
def pairsN (xs : List Nat) : List Nat := (List.range (xs.length / 2)).map fun i => xs.getD (2 * i) 0 + xs.getD (2 * i + 1) 0
def i64F (f : Nat → Nat) : Nat → Value := fun j => .int .i64 (f j : Int)
theorem i64F_upd (f : Nat → Nat) (k v : Nat) : updV (i64F f) k (.int .i64 (v : Int)) = i64F (upd f k v) := by
  funext j; unfold updV i64F upd; by_cases e : j = k <;> simp [e]
theorem prF_zero (xs : List Nat) : prF xs 0 = fun _ => 0 := rfl
theorem prF_step (xs : List Nat) (k : Nat) : prF xs (k + 1) = upd (prF xs k) k (xs.getD (2 * k) 0 + xs.getD (2 * k + 1) 0) := by
  funext j; unfold prF upd
  by_cases e : j = k
  · rw [e, if_pos (Nat.lt_succ_self k), if_pos rfl]
  · rw [if_neg e]
    show _ = if j < k then _ else _
    by_cases h : j < k
    · rw [if_pos h, if_pos (by omega)]
    · rw [if_neg h, if_neg (by omega)]
theorem fn_madeV (w : World) (v : Value) (t : TypeId) (n : Nat) : FnAt (w.alloc (.cells (madeCells #[v] n) t)) w.heap.size n (fun _ => v) := by
  obtain ⟨c, h1, _, h3⟩ := World.rowIs_made w v n t
  have hb := (BlkAt.cells (p := w.heap.size) (t := t) (vs := c.toList) (show BlkAt (w.alloc (.cells (madeCells #[v] n) t)) w.heap.size t c.toList by unfold BlkAt; rw [h1]))
  exact ⟨hb.lt, fun j hj => hb.cell j _ (by rw [Array.getElem?_toList]; exact h3 j hj), hb.free⟩
def IpRel (w : World) (G n : Nat) (xs : List Nat) (i : Value) (wr : World) : Prop := ∃ k : Nat, k ≤ n ∧ i = .int .i64 (k : Int) ∧ FnAt wr G n (i64F (prF xs k)) ∧ Below w.heap.size w wr
/-- There is room for what it holds. -/
def CapOk (v : Value) : Prop := ∃ a n c, v = .slice a n c ∧ n ≤ c
/-- Its memory is new. -/
def FrV (B : Nat) (v : Value) : Prop := ∀ a n c, v = .slice (some a) n c → B ≤ a.block
def RetI (w : World) (xs : List Nat) (e : Ending) (w' : World) : Prop := ∃ v, e = .returned v ∧ SlI w' v xs ∧ CapOk v ∧ Below w.heap.size w w' ∧ FrV w.heap.size v
set_option maxHeartbeats 1600000 in
theorem inPairs_ok {w : World} {v : Value} {xs : List Nat} (hv : SlI w v xs) (hn : xs.length ≤ 100000) (hx : ∀ x ∈ xs, x ≤ 1152921504606846976) :
    Calls Tryd.prog 88 #[v] w (RetI w (pairsN xs)) := by
  have HV := Lib.hid hv
  have HX := Lib.hid hx
  obtain ⟨va, vc, rfl, _⟩ := hv
  obtain ⟨n, hnn⟩ : ∃ n, n = xs.length / 2 := ⟨_, rfl⟩
  have q1 : ((xs.length : Int)).tdiv 2 = (n : Int) := by rw [Int.tdiv_eq_ediv_of_nonneg (by omega)]; omega
  obtain ⟨i0, hi0, hz0, hz1, hz2⟩ := info_parts info2
  have hmk := run_make_row (P := Tryd.prog) 131 2 i0 (.int .i64 0) Tryd.underlying131 hi0 hz0 hz1 rfl .i64 .i64 n (by rw [hz2]; omega) (by omega) w
  have B0 := Lib.hid (below_alloc w (.cells (madeCells #[.int .i64 0] n) 2))
  have G0 := Lib.hid (fn_madeV w (.int .i64 0) 2 n)
  have N2 := Lib.hid hnn
  have nl : n ≤ 50000 := by omega
  clear hi0 hz0 hz1 hz2 hx hnn
  go_enter Tryd.func88, Tryd.ntmps88
  go_upto_region 2 with fail
  clear hmk q1
  generalize w.alloc (.cells (madeCells #[.int .i64 0] n) 2) = w1 at *
  obtain ⟨G, hG⟩ : ∃ G, G = w.heap.size := ⟨_, rfl⟩
  have GB := Lib.hid (show w.heap.size ≤ G by omega)
  rw [← hG] at G0 ⊢
  have ST := Lib.hid (show IpRel w G n xs (.int .i64 (0 : Nat)) w1 from ⟨0, Nat.zero_le _, rfl, by rw [prF_zero]; exact G0.out, B0.out⟩)
  clear G0 B0 hG
  go_wp2_with fail
  go_loopw [4, 11] (fun _ i wr => IpRel w G n xs i wr) (fun _ i _ => (n - (intOf i).toNat))
  case atStart => exact ST.out
  case round =>
    clear ST
    obtain ⟨j, hj, rfl, hg, hb⟩ := hrel
    by_cases hlt : j < n
    · have hne : xs ≠ [] := by intro e; have := N2.out; rw [e] at this; simp at this; omega
      have VW := HV.out.below hb
      have n2 := N2.out
      obtain ⟨b, off, rfl⟩ : ∃ b off, va = some ⟨b, off, none⟩ := by
        obtain ⟨a, c, e, h | ⟨b, off, ha, _⟩⟩ := VW
        · exact absurd h hne
        · injection e with e1 _ _; exact ⟨b, off, by rw [e1, ha]⟩
      have hbw : b < w.heap.size := (HV.out.get.1).resolve_left hne
      obtain ⟨hbl, hcell⟩ := VW.get
      have l0 : 2 * j < xs.length := by omega
      have l1 : 2 * j + 1 < xs.length := by omega
      have c0 := hcell (2 * j) xs[2 * j] (List.getElem?_eq_getElem l0)
      have c1 := hcell (2 * j + 1) xs[2 * j + 1] (List.getElem?_eq_getElem l1)
      have b0 := HX.out xs[2 * j] (List.getElem_mem l0)
      have b1 := HX.out xs[2 * j + 1] (List.getElem_mem l1)
      have g0 : xs.getD (2 * j) 0 = xs[2 * j] := by rw [List.getD_eq_getElem?_getD, List.getElem?_eq_getElem l0]; rfl
      have g1 : xs.getD (2 * j + 1) 0 = xs[2 * j + 1] := by rw [List.getD_eq_getElem?_getD, List.getElem?_eq_getElem l1]; rfl
      have SE := prF_step xs j
      rw [g0, g1] at SE
      have ME := Lib.hid (show n - ((j : Int) + 1).toNat < n - (j : Int).toNat by omega)
      have FIN := Lib.hid (show IpRel w G n xs (.int .i64 ((j : Int) + 1)) (wr.drew.setCell ⟨G, j, none⟩ (.int .i64 ((xs[2 * j] : Int) + (xs[2 * j + 1] : Int)))) from ⟨j + 1, by omega, by go_num, by
        rw [SE, ← i64F_upd, show ((xs[2 * j] + xs[2 * j + 1] : Nat) : Int) = (xs[2 * j] : Int) + (xs[2 * j + 1] : Int) from Int.natCast_add _ _]; exact hg.drew.set j _ hlt, hb.drew.setCell (p := ⟨G, j, none⟩) GB.out _⟩)
      clear SE g0 g1 VW hcell n2
      generalize xs[2 * j] = x0 at *
      generalize xs[2 * j + 1] = x1 at *
      have cg : wr.drew.cell? ⟨G, j, none⟩ = _ := hg.cell j hlt
      have fg : wr.drew.frozen? ⟨G, j, none⟩ = _ := hg.free j
      have gl : G < wr.drew.heap.size := hg.lt
      obtain ⟨J, hJ⟩ : ∃ J, J = 2 * j := ⟨_, rfl⟩
      rw [← hJ] at c0 c1 l0 l1
      have w1' : IntKind.i64.wrap (2 * (j : Int)) = (J : Int) := by rw [show 2 * (j : Int) = (J : Int) by omega]; exact IntWalk.i64_in _ (by omega)
      have w2' : IntKind.i64.wrap ((J : Int) + 1) = (J : Int) + 1 := IntWalk.i64_in _ (by omega)
      have w3' : IntKind.i64.wrap ((x0 : Int) + (x1 : Int)) = (x0 : Int) + (x1 : Int) := IntWalk.i64_in _ (by omega)
      have t1 : decide ((j : Int) < (n : Int)) = true := decide_eq_true (by omega)
      have t1n : decide (j < n) = true := decide_eq_true hlt
      have k1 : (j : Int) < (n : Int) := by omega
      have k2 : (0 : Int) ≤ (j : Int) := by omega
      have k3 : (J : Int) < (xs.length : Int) := by omega
      have k4 : (0 : Int) ≤ (J : Int) := by omega
      have k5 : (J : Int) + 1 < (xs.length : Int) := by omega
      have k6 : (0 : Int) ≤ (J : Int) + 1 := by omega
      have k8 : ((J : Int) + 1).toNat = J + 1 := by omega
      have QJ := Lib.hid hJ
      clear hg hb hJ b0 b1
      go_upto_region 5 with fail
      go_still_tail 15, (by kernel_rfl)
      change wpList _ _ _ _ _ wr.drew
      generalize wr.drew = w2 at *
      go_wp2_with fail
      exact ⟨FIN.out, ME.out⟩
    · obtain rfl : j = n := by omega
      have FIN := Lib.hid (show SlI wr (.slice (some ⟨G, 0, none⟩) j j) (pairsN xs) from ⟨_, j, by rw [show (pairsN xs).length = j by simp [pairsN, N2.out]], Or.inr ⟨G, 0, rfl, hg.lt, fun i x hx => by
        have hi : i < j := by
          have := (List.getElem?_eq_some_iff.1 hx).1
          simpa [pairsN, ← N2.out] using this
        unfold pairsN at hx
        rw [List.getElem?_map, List.getElem?_range (by rw [← N2.out]; exact hi)] at hx
        injection hx with hx
        rw [Nat.zero_add, hg.cell i hi, ← hx]
        unfold i64F prF
        rw [if_pos hi]⟩⟩)
      have BB := Lib.hid hb
      clear hg hb
      go_wp2_with fail
      go_ret
      exact ⟨_, rfl, FIN.out, ⟨_, _, _, rfl, Nat.le_refl _⟩, BB.out, fun a n c e => by injection e with e _ _; injection e with e; subst e; exact GB.out⟩
end

section
open Go.RowKit

set_option maxRecDepth 100000
/-- A row of the call's own. -/
def OwnV (w : World) (B : Nat) (t : TypeId) (v : Value) (xs : List Value) : Prop := w.ownsRow B t 1 v xs.length xs ∧ B ≤ w.heap.size
/-- All whole blocks but those of one type are kept. -/
def KeepO (t : TypeId) (w w' : World) : Prop := ∀ (g : Nat) (t' : TypeId) (cs : Array Value), t' ≠ t → w.heap[g]? = some (.cells cs t' (0, 0)) → w'.heap[g]? = some (.cells cs t' (0, 0))
theorem KeepO.below {t : TypeId} {w w' : World} (h : Below w.heap.size w w') : KeepO t w w' := fun g _ _ _ x => (h.block g (lt_of_heap x)).trans x
theorem KeepO.trans {t : TypeId} {a b c : World} (h : KeepO t a b) (k : KeepO t b c) : KeepO t a c := fun g t' cs ht x => k g t' cs ht (h g t' cs ht x)
theorem BlkAt.keepO {w w' : World} {p : Nat} {t t' : TypeId} {vs : List Value} (h : BlkAt w p t' vs) (k : KeepO t w w') (ht : t' ≠ t) : BlkAt w' p t' vs := k p t' _ ht h
theorem OwnV.below {w w' : World} {B : Nat} {t : TypeId} {v : Value} {l : List Value} (h : OwnV w B t v l) (k : Below w.heap.size w w') : OwnV w' B t v l := by
  refine ⟨⟨h.1.1, ?_⟩, Nat.le_trans h.2 k.size⟩
  rcases h.1.2 with hn | ⟨g, cap, cur, hv, hb, hgg, rest⟩
  · exact .inl hn
  · exact .inr ⟨g, cap, cur, hv, hb, (k.block g (lt_of_heap hgg)).trans hgg, rest⟩
theorem OwnV.drew {w : World} {B : Nat} {t : TypeId} {v : Value} {l : List Value} (h : OwnV w B t v l) : OwnV w.drew B t v l := h
theorem OwnV.alloc {w : World} {B : Nat} {t : TypeId} {v : Value} {l : List Value} (h : OwnV w B t v l) (o : Obj) : OwnV (w.alloc o) B t v l := h.below (below_alloc w o)
theorem OwnV.keepO {w w' : World} {B : Nat} {t t' : TypeId} {v : Value} {l : List Value} (h : OwnV w B t' v l) (k : KeepO t w w') (ht : t' ≠ t) (hs : w.heap.size ≤ w'.heap.size) : OwnV w' B t' v l := by
  refine ⟨⟨h.1.1, ?_⟩, Nat.le_trans h.2 hs⟩
  rcases h.1.2 with hn | ⟨g, cap, cur, hv, hb, hgg, rest⟩
  · exact .inl hn
  · exact .inr ⟨g, cap, cur, hv, hb, k g t' _ ht hgg, rest⟩
theorem OwnV.oset {w : World} {B c : Nat} {t t' : TypeId} {v : Value} {l vs : List Value} (h : OwnV w B t v l) (hb : BlkAt w c t' vs) (ht : t' ≠ t) (j : Nat) (u : Value) : OwnV (w.setCell ⟨c, j, none⟩ u) B t v l := by
  refine ⟨⟨h.1.1, ?_⟩, by simpa using h.2⟩
  rcases h.1.2 with hn | ⟨g, cap, cur, hv, hb', hgg, rest⟩
  · exact .inl hn
  · refine .inr ⟨g, cap, cur, hv, hb', ?_, rest⟩
    rw [Below.heap_setCell w ⟨c, j, none⟩ u g ?_]
    · exact hgg
    · intro e
      have e' : g = c := e
      subst e'
      unfold BlkAt at hb
      rw [hgg] at hb
      injection hb with hb
      injection hb with _ y
      exact ht y.symm
theorem OwnV.keeps {w w' : World} {B : Nat} {t : TypeId} {v : Value} {l : List Value} (h : OwnV w B t v l) (g : w.grownBy w' v.ownBlock) : KeepO t w w' := by
  intro k t' cs ht x
  refine (g.block k (lt_of_heap x) ?_).trans x
  intro e
  rcases h.1.2 with ⟨hv, _⟩ | ⟨g', cap, cur, hv, _, hgg, _⟩
  · rw [hv] at e; simp [Value.ownBlock] at e
  · rw [hv] at e
    have : k = g' := by simpa [Value.ownBlock] using e
    subst this
    rw [hgg] at x
    injection x with x
    injection x with _ y
    exact ht y.symm
theorem OwnV.form {w : World} {B : Nat} {t : TypeId} {v : Value} {l : List Value} (h : OwnV w B t v l) : ∃ a c, v = .slice a l.length c := by
  rcases h.1.2 with ⟨hv, hn⟩ | ⟨g, cap, cur, hv, _⟩
  · exact ⟨none, 0, by rw [hv, hn]⟩
  · exact ⟨_, _, hv⟩
theorem OwnV.nil (w : World) (t : TypeId) : OwnV w w.heap.size t (.slice none 0 0) [] := ⟨World.ownsRow_nil _ _ _ _, Nat.le_refl _⟩
/-- Its cells. -/
theorem OwnV.get {w : World} {B : Nat} {t : TypeId} {v : Value} {l : List Value} (h : OwnV w B t v l) : l = [] ∨ ∃ b c, v = .slice (some ⟨b, 0, none⟩) l.length c ∧ B ≤ b ∧ b < w.heap.size ∧ ∀ j u, l[j]? = some u → w.cell? ⟨b, j, none⟩ = some u := by
  rcases h.1.2 with ⟨_, hn⟩ | ⟨g, cap, cur, hv, hb, hgg, h1, h2, h3, h4⟩
  · exact .inl (List.length_eq_zero_iff.1 hn)
  · refine .inr ⟨g, cap, hv, hb, lt_of_heap hgg, fun j u hj => ?_⟩
    have hc := (BlkAt.cells (w := w) (p := g) (t := t) (vs := cur.toList) (by unfold BlkAt; rw [hgg]))
    refine hc.cell j u ?_
    have hlt := (List.getElem?_eq_some_iff.1 hj).1
    rw [← h4, List.getElem?_take] at hj
    split at hj
    · exact hj
    · cases hj
theorem OwnV.sl {w : World} {B : Nat} {t : TypeId} {v : Value} {xs : List Nat} (h : OwnV w B t v (xs.map intV)) : SlI w v xs := by
  obtain ⟨a, c, hv⟩ := h.form
  rw [List.length_map] at hv
  refine ⟨a, c, hv, ?_⟩
  rcases h.get with hn | ⟨b, c', hv', hb, hl, hc⟩
  · exact .inl (List.map_eq_nil_iff.1 hn)
  · rw [hv] at hv'
    injection hv' with e _ _
    exact .inr ⟨b, 0, e, hl, fun j x hx => by rw [Nat.zero_add]; exact hc j _ (by rw [List.getElem?_map, hx]; rfl)⟩
theorem OwnV.made (w : World) (t : TypeId) (z : Value) (B n : Nat) (hB : B ≤ w.heap.size) (hn : n ≤ 1000000000) : OwnV (w.alloc (.cells (madeCells #[z] n) t)) B t (.slice (some ⟨w.heap.size, 0, none⟩) 0 n) [] := by
  exact ⟨World.ownsRow_made (size := 1) w _ n hB (by unfold maxLen; omega) (by rw [size_madeCells]; simp), by simp; omega⟩
/-- One value is appended. -/
theorem wp_app1 {w : World} {ops : Array Oper} {rest : List Oper} {o : Oper} {a : Act} {Q : Exit → Act → World → Prop} (hgd : o.guard = none) (s x : Operand) (st t : TypeId) (z : Value) (bytes : Nat)
    (hu : Tryd.prog.underlying st = some (.slice t)) (hinfo : (Tryd.prog.info? t).map (fun i => (i.zero, i.size, i.bytes)) = some (some z, 1, bytes)) (hzs : z.cells.size = 1) (hby : bytes ≤ 8)
    (ho : o.op = .call { callee := .builtin .append, args := #[s, x], argTypes := #[st, st] })
    (B : Nat) (v : Value) (l : List Value) (hs : a.eval s = v) (hown : OwnV w B t v l) (u : Value) (h1 : u.oneCell' = true)
    (hx : a.eval x = .slice (some ⟨w.heap.size, 0, none⟩) 1 1) (hlen : l.length + 1 ≤ 1000000)
    (h : ∀ v' w', OwnV w' B t v' (l ++ [u]) → Below B w w' → KeepO t w w' → wpList Tryd.prog ops Q rest (a.put o.dst v') w') :
    wpList Tryd.prog ops Q (o :: rest) a (w.alloc (.cells #[u] t)) := by
  obtain ⟨i0, hi, hz0, hz1, hz2⟩ := info_parts hinfo
  have hB := hown.2
  have hown2 := hown.alloc (.cells #[u] t)
  have hb2 : (l.length + 1) * bytes ≤ 1000000 * 8 := Nat.mul_le_mul hlen hby
  refine wpList_append_own _ hgd s x st ho B t i0 z 1 bytes hu hi hz0 hz1 hz2 hzs (by decide) v l.length l hs hown2.1 ⟨w.heap.size, 0, none⟩ 1 1 [u] hx rfl ?_ ?_ ?_ ?_ ?_ ?_
  · intro j u' hj
    rw [add_plain, Nat.zero_add]
    exact (BlkAt.new w [u] t).cells.cell j u' hj
  · intro u' hu'
    simp only [List.mem_cons, List.not_mem_nil, or_false] at hu'
    rw [hu']; exact h1
  · unfold maxLen; omega
  · omega
  · simp; omega
  · intro v' w' h1 h2 _
    have hsz := h2.size
    refine h v' w' ⟨?_, ?_⟩ ?_ ?_
    · rw [List.length_append]; exact h1
    · simp at hsz; omega
    · exact ((Below.refl B w).alloc hB _).grown h2 (by simp; omega) (fun k hk => (hown.1.lt k hk).1)
    · exact (KeepO.below (below_alloc w _)).trans (hown2.keeps h2)
end
end Go.Proofs.YtfbeipfpkikakaaDoor
