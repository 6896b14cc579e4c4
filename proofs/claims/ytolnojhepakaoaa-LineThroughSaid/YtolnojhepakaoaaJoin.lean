/- Join, the program's and the document's; and whether two lists of lines are the same: the walks. -/
import Derived.Test.YtolnojhepakaoaaSplit
import Derived.Lib.AppendStr
import Derived.Laws.IdiomStrings
import Derived.Deep.QuietTactic
import Derived.BigQuiet
namespace Go.Proofs.Ytolnojhepakaoaa
open Go.RowKit

theorem info5 : (Try.prog.info? 5).map (fun i => (i.zero, i.size, i.bytes)) = some (some (.int .u8 0), 1, 1) := by kernel_rfl

/-- A string's bytes, as numbers. -/
def ints (s : ByteArray) : List Int := s.data.toList.map fun b => (b.toNat : Int)
theorem ints_cells (s : ByteArray) : Lib.strCells s = (ints s).map (Value.int .u8) := by unfold Lib.strCells ints; rw [List.map_map]; rfl
theorem ints_len (s : ByteArray) : (ints s).length = s.size := by unfold ints; rw [List.length_map, Array.length_toList]; rfl

/-- The bytes of the first k lines, each with its separator; and how many they are. -/
def joinI (sep : Int) (ss : Nat → ByteArray) : Nat → List Int
  | 0 => []
  | k + 1 => joinI sep ss k ++ (ints (ss k) ++ [sep])
def totS (ss : Nat → ByteArray) : Nat → Nat
  | 0 => 0
  | k + 1 => totS ss k + ((ss k).size + 1)
theorem join_len (sep : Int) (ss : Nat → ByteArray) : ∀ k, (joinI sep ss k).length = totS ss k
  | 0 => rfl
  | k + 1 => by
    have := join_len sep ss k
    simp [joinI, totS, this, ints_len]
theorem totS_le (ss : Nat → ByteArray) : ∀ {j k : Nat}, j ≤ k → totS ss j ≤ totS ss k
  | j, 0, h => by
    have : j = 0 := by omega
    rw [this]; exact Nat.le_refl _
  | j, k + 1, h => by
    rcases Nat.lt_or_ge j (k + 1) with h' | h'
    · exact Nat.le_trans (totS_le ss (by omega : j ≤ k)) (Nat.le_add_right _ _)
    · have : j = k + 1 := by omega
      rw [this]; exact Nat.le_refl _

/-- Lines in memory. -/
def Lines (w : World) (b o M : Nat) (ss : Nat → ByteArray) : Prop := ∀ i, i < M → w.cell? ⟨b, o + i, none⟩ = some (.string (ss i))
theorem Lines.keeps {w w' : World} {b o M : Nat} {ss : Nat → ByteArray} (h : Lines w b o M ss) (k : Keeps [] w w') : Lines w' b o M ss :=
  fun i hi => (World.cell?_of_block (k.block _ (World.block_lt_of_cell? w _ (h i hi)) (by simp))).trans (h i hi)

/-- What Join gives. -/
def JoinPost (w : World) (sep : Int) (ss : Nat → ByteArray) (M : Nat) (e : Ending) (w' : World) : Prop :=
  ∃ v, e = .returned v ∧ w'.ownsRow w.heap.size 5 1 v (totS ss M) ((joinI sep ss M).map (Value.int .u8)) ∧ Keeps [] w w'

def JoinRel (w : World) (B : Nat) (ss : Nat → ByteArray) (sep : Int) (M : Nat) (d i : Value) (wr : World) : Prop :=
  ∃ k : Nat, k ≤ M ∧ i = .int .i64 k ∧ wr.ownsRow B 5 1 d (totS ss k) ((joinI sep ss k).map (Value.int .u8)) ∧ B ≤ wr.heap.size ∧ Keeps [] w wr

/-- A byte more behind a line's bytes. -/
theorem join_next {w0 : World} {B : Nat} {ss : Nat → ByteArray} {sep : Int} {k : Nat} {v : Value} (h : w0.ownsRow B 5 1 v (totS ss k + (ss k).size + 1) ((joinI sep ss k).map (Value.int .u8) ++ (Lib.strCells (ss k) ++ [.int .u8 sep]))) :
    w0.ownsRow B 5 1 v (totS ss (k + 1)) ((joinI sep ss (k + 1)).map (Value.int .u8)) := by
  have e : (joinI sep ss (k + 1)).map (Value.int .u8) = (joinI sep ss k).map (Value.int .u8) ++ (Lib.strCells (ss k) ++ [.int .u8 sep]) := by
    simp [joinI, ints_cells]
  rw [e]
  exact h

set_option maxRecDepth 100000 in
set_option maxHeartbeats 1600000 in
theorem join_some (lb lo M lc : Nat) (ss : Nat → ByteArray) (sep : Int) (w : World) (hl : Lines w lb lo M ss) (hT : totS ss M ≤ 70368744177664) (hM : M ≤ 4611686018427387904) :
    Calls Try.prog 11 #[.slice (some ⟨lb, lo, none⟩) M lc, .int .u8 sep] w (JoinPost w sep ss M) := by
  have Hl := Lib.hid hl
  clear hl
  have hT0 : ∀ k, k ≤ M → totS ss k ≤ 70368744177664 := fun k hk => Nat.le_trans (totS_le ss hk) hT
  have HT := Lib.hid hT0
  clear hT0
  go_enter Try.func11, Try.ntmps11
  go_wp2_with fail
  go_loop [5, 13] (fun t i => ∃ k : Nat, k ≤ M ∧ i = .int .i64 k ∧ t = .int .i64 (totS ss k : Nat)) (fun _ i => M - (intOf i).toNat)
  case atStart => exact ⟨0, Nat.zero_le _, rfl, rfl⟩
  case round =>
    obtain ⟨k, hk, rfl, rfl⟩ := hrel
    by_cases hlt : k < M
    · have hc := Hl.out k hlt
      have h1 := HT.out (k + 1) hlt
      have hS : totS ss (k + 1) = totS ss k + ((ss k).size + 1) := rfl
      have h2 := HT.out k hk
      have hs : (ss k).size ≤ 70368744177664 := by omega
      have HS := Lib.hid hS
      clear hS h1
      have h1 : totS ss k + ((ss k).size + 1) ≤ 70368744177664 := by rw [← HS.out]; exact HT.out (k + 1) hlt
      generalize ss k = s at *
      generalize totS ss k = S at *
      go_wp2_with fail
      go_round
      case rel => exact ⟨k + 1, by omega, by go_num, by rw [HS.out]; go_num⟩
      case measure => simp [intOf]; omega
    · have hkM : k = M := by omega
      subst hkM
      have h2 := HT.out k hk
      obtain ⟨i0, hi, hz0, hz1, hz2⟩ := info_parts info5
      have Hi := Lib.hid hi
      have Hz0 := Lib.hid hz0
      have Hz1 := Lib.hid hz1
      have Hz2 := Lib.hid hz2
      clear hi hz0 hz1 hz2
      obtain ⟨B, hB⟩ : ∃ B, B = w.heap.size := ⟨_, rfl⟩
      go_wp2_with (at_make; refine wpList_make_own _ rfl _ _ 22 rfl w.heap.size 5 i0 (.int .u8 0) 1 Try.underlying22 Hi.out Hz0.out Hz1.out _ _ _ (totS ss k) rfl rfl (by omega) ?b2 ?b3 (Nat.le_refl _) ?_)
      case b2 => rw [Hz2.out]; omega
      case b3 => unfold maxLen; omega
      intro w0 hown0 hgrow0
      have hk0 : Keeps [] w w0 := (Keeps.refl [] w).grown hgrow0 (fun k hk2 => by cases hk2)
      have hB0 : B ≤ w0.heap.size := by rw [hB]; exact hgrow0.size
      have hown1 : w0.ownsRow B 5 1 (.slice (some ⟨w.heap.size, 0, none⟩) 0 (totS ss k)) 0 [] := by rw [hB]; exact hown0
      have Hown0 := Lib.hid hown1
      have Hk0 := Lib.hid hk0
      have HB := Lib.hid hB
      clear hown0 hown1 hgrow0 hk0 hB
      go_wp2_with fail
      go_loopw [8, 27] (fun d i wr => JoinRel w B ss sep k d i wr) (fun _ i _ => k - (intOf i).toNat)
      case atStart => exact ⟨0, Nat.zero_le _, rfl, Hown0.out, hB0, Hk0.out⟩
      case round =>
        obtain ⟨j, hj, rfl, hrow, hBs, hkp⟩ := hrel
        have Hrow := Lib.hid hrow
        have Hkp := Lib.hid hkp
        clear hrow hkp
        by_cases hlt : j < k
        · have hc := (Hl.out.keeps Hkp.out) j hlt
          have h3 := HT.out (j + 1) hlt
          have hS : totS ss (j + 1) = totS ss j + ((ss j).size + 1) := rfl
          have b1 : totS ss j + (ss j).size + 1 ≤ 70368744177664 := by omega
          clear h3 hS
          go_wp2_with (at_builtin; go_must (refine Lib.wpList_append_own_string _ rfl (.tmp 31) (.tmp 32) 22 9 rfl B 5 i0 Try.underlying22 Try.underlying9 Hi.out Hz0.out Hz1.out Hz2.out _ (totS ss j) _ rfl Hrow.out (ss j) rfl ?c1 ?c2 hBs ?_))
          case c1 => unfold maxLen; omega
          case c2 => omega
          · intro v' w1 hown1 hgrow1 _
            have hk1 : Keeps [] w w1 := Hkp.out.grown hgrow1 (fun q hq => .inr (by have := (Hrow.out.lt q hq).1; rw [HB.out] at this; exact this))
            have hB1 : B ≤ w1.heap.size := Nat.le_trans hBs hgrow1.size
            have Hown1 := Lib.hid hown1
            have Hk1 := Lib.hid hk1
            clear hown1 hgrow1 hk1 hc
            go_wp2_with (at_builtin; go_must (refine wpList_append_own _ rfl _ _ 22 rfl B 5 i0 (.int .u8 0) 1 1 Try.underlying22 Hi.out Hz0.out Hz1.out Hz2.out rfl (by decide) _ _ _ rfl (Hown1.out.alloc _) ⟨w1.heap.size, 0, none⟩ 1 1 [.int .u8 sep] rfl rfl ?d1 ?d2 ?d3 ?d4 ?d5 ?_))
            case d1 => exact cell_new _ _ _
            case d2 => intro u hu; simp at hu; subst hu; rfl
            case d3 => unfold maxLen; omega
            case d4 => omega
            case d5 => simp; omega
            · intro v2 w2 hown2 hgrow2 _
              have hn := join_next hown2
              have hk2 : Keeps [] w w2 := row_grown Hk1.out Hown1.out hgrow2 HB.out
              have hB2 : B ≤ w2.heap.size := by have := hgrow2.size; simp at this; omega
              have Hn := Lib.hid hn
              have Hk2 := Lib.hid hk2
              clear hn hk2 hown2 hgrow2
              go_wp2_with fail
              go_roundw
              case rel => exact ⟨j + 1, by omega, by go_num, Hn.out, hB2, Hk2.out⟩
              case measure => simp [intOf]; omega
        · have hjk : j = k := by omega
          subst hjk
          go_wp2_with fail
          go_ret
          exact ⟨u8, rfl, by rw [← HB.out]; exact Hrow.out, Hkp.out⟩

set_option maxRecDepth 100000 in
set_option maxHeartbeats 400000 in
theorem join_none (a : Option Addr) (lc : Nat) (ss : Nat → ByteArray) (sep : Int) (w : World) : Calls Try.prog 11 #[.slice a 0 lc, .int .u8 sep] w (JoinPost w sep ss 0) := by
  go_enter Try.func11, Try.ntmps11
  go_wp2_with fail
  refine wp_loop_rounds 1 ?_; rw [rounds_succ]
  obtain ⟨i0, hi, hz0, hz1, hz2⟩ := info_parts info5
  have Hi := Lib.hid hi
  have Hz0 := Lib.hid hz0
  have Hz1 := Lib.hid hz1
  clear hi hz0 hz1 hz2
  go_wp2_with (at_make; refine wpList_make_own _ rfl _ _ 22 rfl w.heap.size 5 i0 (.int .u8 0) 1 Try.underlying22 Hi.out Hz0.out Hz1.out _ _ _ 0 rfl rfl rfl ?b2 ?b3 (Nat.le_refl _) ?_)
  case b2 => simp
  case b3 => simp
  intro w0 hown0 hgrow0
  have hk0 : Keeps [] w w0 := (Keeps.refl [] w).grown hgrow0 (fun k hk2 => by cases hk2)
  have Hown0 := Lib.hid hown0
  have Hk0 := Lib.hid hk0
  clear hown0 hgrow0 hk0
  go_wp2_with fail
  refine wp_loop_rounds 1 ?_; rw [rounds_succ]
  go_wp2_with fail
  go_ret
  exact ⟨_, rfl, Hown0.out, Hk0.out⟩

/-- What '[]byte(s)' makes. -/
theorem bytes_of (w : World) (s : ByteArray) : (convert 9 22 (.string s)).run Try.prog w = .ok (.slice (some ⟨w.heap.size, 0, none⟩) s.size (grownCap w s.size 0 5)) (w.drew.alloc (.cells (bytesRow s (grownCap w s.size 0 5)) 5 ((bytesRow s (grownCap w s.size 0 5)).size, (bytesRow s (grownCap w s.size 0 5)).size + 1))) :=
  run_bytes_of_string w 9 22 5 s Try.underlying9 Try.underlying22 Try.underlying5
theorem bytes_cells (w : World) (s : ByteArray) (cap : Nat) (fz : Nat × Nat) (t : TypeId) : ∀ j u, (Lib.strCells s)[j]? = some u → (w.alloc (.cells (bytesRow s cap) t fz)).cell? ((⟨w.heap.size, 0, none⟩ : Addr).add j) = some u := by
  intro j u hj
  have hjl : j < s.data.size := by
    rcases Nat.lt_or_ge j s.data.size with h | h
    · exact h
    · rw [List.getElem?_eq_none (by rw [Lib.strCells_length]; exact h)] at hj; cases hj
  have e : (⟨w.heap.size, 0, none⟩ : Addr).add j = ⟨w.heap.size, j, none⟩ := by unfold Addr.add; split <;> simp_all
  have hb := heap_alloc_new w (.cells (bytesRow s cap) t fz)
  rw [e, cell_of hb, bytesRow_at s cap j hjl, ← hj]
  simp [Lib.strCells, Array.getElem?_eq_getElem hjl]

set_option maxRecDepth 100000 in
set_option maxHeartbeats 1600000 in
theorem refJoin_some (lb lo M lc : Nat) (ss : Nat → ByteArray) (sep : Int) (w : World) (hl : Lines w lb lo M ss) (hT : totS ss M ≤ 70368744177664) (hM : M ≤ 4611686018427387904) :
    Calls Try.prog 12 #[.slice (some ⟨lb, lo, none⟩) M lc, .int .u8 sep] w (JoinPost w sep ss M) := by
  have Hl := Lib.hid hl
  clear hl
  have hT0 : ∀ k, k ≤ M → totS ss k ≤ 70368744177664 := fun k hk => Nat.le_trans (totS_le ss hk) hT
  have HT := Lib.hid hT0
  clear hT0
  obtain ⟨i0, hi, hz0, hz1, hz2⟩ := info_parts info5
  have Hi := Lib.hid hi
  have Hz0 := Lib.hid hz0
  have Hz1 := Lib.hid hz1
  have Hz2 := Lib.hid hz2
  clear hi hz0 hz1 hz2
  obtain ⟨B, hB⟩ : ∃ B, B = w.heap.size := ⟨_, rfl⟩
  have HB := Lib.hid hB
  clear hB
  go_enter Try.func12, Try.ntmps12
  go_wp2_with fail
  go_loopw [5, 6] (fun d i wr => JoinRel w B ss sep M d i wr) (fun _ i _ => M - (intOf i).toNat)
  case atStart => exact ⟨0, Nat.zero_le _, rfl, World.ownsRow_nil _ _ _ _, by rw [HB.out]; exact Nat.le_refl _, Keeps.refl _ _⟩
  case round =>
    obtain ⟨j, hj, rfl, hrow, hBs, hkp⟩ := hrel
    have Hrow := Lib.hid hrow
    have Hkp := Lib.hid hkp
    clear hrow hkp
    by_cases hlt : j < M
    · have hc := (Hl.out.keeps Hkp.out) j hlt
      have h3 := HT.out (j + 1) hlt
      have hS : totS ss (j + 1) = totS ss j + ((ss j).size + 1) := rfl
      have b1 : totS ss j + (ss j).size + 1 ≤ 70368744177664 := by omega
      have hbs := bytes_of wr (ss j)
      clear h3 hS
      go_wp2_with (at_builtin; go_must (refine wpList_append_own _ rfl _ _ 22 rfl B 5 i0 (.int .u8 0) 1 1 Try.underlying22 Hi.out Hz0.out Hz1.out Hz2.out rfl (by decide) _ _ _ rfl (Hrow.out.drew.alloc _) ⟨wr.heap.size, 0, none⟩ (ss j).size _ (Lib.strCells (ss j)) rfl ?c0 ?c1 ?c2 ?c3 ?c4 ?c5 ?_))
      case c0 => rw [Lib.strCells_length, Nat.mul_one]
      case c1 => exact bytes_cells wr.drew (ss j) _ _ 5
      case c2 => exact Lib.strCells_oneCell (ss j)
      case c3 => unfold maxLen; omega
      case c4 => omega
      case c5 => simp; omega
      · intro v' w1 hown1 hgrow1 _
        have hk1 : Keeps [] w w1 := (Hkp.out.alloc _).drew.grown hgrow1 (fun q hq => .inr (by have := (Hrow.out.lt q hq).1; rw [HB.out] at this; exact this))
        have hB1 : B ≤ w1.heap.size := by have := hgrow1.size; simp at this; omega
        have Hown1 := Lib.hid hown1
        have Hk1 := Lib.hid hk1
        clear hown1 hgrow1 hk1 hc hbs
        go_wp2_with (at_builtin; go_must (refine wpList_append_own _ rfl _ _ 22 rfl B 5 i0 (.int .u8 0) 1 1 Try.underlying22 Hi.out Hz0.out Hz1.out Hz2.out rfl (by decide) _ _ _ rfl (Hown1.out.alloc _) ⟨w1.heap.size, 0, none⟩ 1 1 [.int .u8 sep] rfl rfl ?d1 ?d2 ?d3 ?d4 ?d5 ?_))
        case d1 => exact cell_new _ _ _
        case d2 => intro u hu; simp at hu; subst hu; rfl
        case d3 => unfold maxLen; omega
        case d4 => omega
        case d5 => simp; omega
        · intro v2 w2 hown2 hgrow2 _
          have hn := join_next hown2
          have hk2 : Keeps [] w w2 := row_grown Hk1.out Hown1.out hgrow2 HB.out
          have hB2 : B ≤ w2.heap.size := by have := hgrow2.size; simp at this; omega
          have Hn := Lib.hid hn
          have Hk2 := Lib.hid hk2
          clear hn hk2 hown2 hgrow2
          go_wp2_with fail
          go_roundw
          case rel => exact ⟨j + 1, by omega, by go_num, Hn.out, hB2, Hk2.out⟩
          case measure => simp [intOf]; omega
    · have hjk : j = M := by omega
      subst hjk
      go_wp2_with fail
      go_ret
      exact ⟨u5, rfl, by rw [← HB.out]; exact Hrow.out, Hkp.out⟩

set_option maxRecDepth 100000 in
set_option maxHeartbeats 400000 in
theorem refJoin_none (a : Option Addr) (lc : Nat) (ss : Nat → ByteArray) (sep : Int) (w : World) : Calls Try.prog 12 #[.slice a 0 lc, .int .u8 sep] w (JoinPost w sep ss 0) := by
  go_enter Try.func12, Try.ntmps12
  go_wp2_with fail
  refine wp_loop_rounds 1 ?_; rw [rounds_succ]
  go_wp2_with fail
  go_ret
  exact ⟨_, rfl, World.ownsRow_nil _ _ _ _, Keeps.refl _ _⟩

/-- A list of lines in memory, by its value. -/
theorem lines_at {w : World} {B : Nat} {v : Value} {D : List (List Int)} (h : w.ownsRow B 9 1 v D.length (D.map strV)) (hD : 0 < D.length) :
    ∃ g cap, v = .slice (some ⟨g, 0, none⟩) D.length cap ∧ ∀ k, k < D.length → w.cell? ⟨g, k, none⟩ = some (strV (D.getD k [])) := by
  rcases h.2 with ⟨rfl, h0⟩ | ⟨g, cap, cur, rfl, _⟩
  · omega
  · refine ⟨g, cap, rfl, fun k hk => ?_⟩
    have hc := h.cells (g := g) rfl k (strV (D.getD k [])) (by simp [List.getD, hk])
    have e : (⟨g, 0, none⟩ : Addr).add k = ⟨g, k, none⟩ := by unfold Addr.add; split <;> simp_all
    rw [e] at hc; exact hc

set_option maxRecDepth 100000 in
set_option maxHeartbeats 800000 in
theorem sameLines_ok {B1 B2 : Nat} (x y : Value) (D : List (List Int)) (w : World) (hx : w.ownsRow B1 9 1 x D.length (D.map strV)) (hy : w.ownsRow B2 9 1 y D.length (D.map strV)) (hD : D.length ≤ 4611686018427387904) :
    Calls Try.prog 13 #[x, y] w fun e w' => e = .returned (.bool true) ∧ Keeps [] w w' := by
  rcases Nat.eq_zero_or_pos D.length with h0 | h0
  · obtain ⟨ax, cx, rfl⟩ := ownsRow_slice hx
    obtain ⟨ay, cy, rfl⟩ := ownsRow_slice hy
    rw [h0]
    clear hx hy
    go_enter Try.func13, Try.ntmps13
    go_wp2_with fail
    refine wp_loop_rounds 1 ?_; rw [rounds_succ]
    go_wp2_with fail
    go_ret
    exact ⟨rfl, Keeps.refl _ _⟩
  · obtain ⟨g1, c1, rfl, hc1⟩ := lines_at hx h0
    obtain ⟨g2, c2, rfl, hc2⟩ := lines_at hy h0
    have Hc1 := Lib.hid hc1
    have Hc2 := Lib.hid hc2
    clear hx hy hc1 hc2
    generalize D.length = N at *
    go_enter Try.func13, Try.ntmps13
    go_wp2_with fail
    go_loopw [5] (fun i wr => ∃ k : Nat, k ≤ N ∧ i = .int .i64 k ∧ Keeps [] w wr) (fun i _ => N - (intOf i).toNat)
    case atStart => exact ⟨0, Nat.zero_le _, rfl, Keeps.refl _ _⟩
    case round =>
      obtain ⟨k, hk, rfl, hkp⟩ := hrel
      have Hkp := Lib.hid hkp
      clear hkp
      by_cases hlt : k < N
      · have h1 : wr.cell? ⟨g1, k, none⟩ = some (.string (strOfNums (D.getD k []))) := (World.cell?_of_block (Hkp.out.block _ (World.block_lt_of_cell? w _ (Hc1.out k hlt)) (by simp))).trans (Hc1.out k hlt)
        have h2 : wr.cell? ⟨g2, k, none⟩ = some (.string (strOfNums (D.getD k []))) := (World.cell?_of_block (Hkp.out.block _ (World.block_lt_of_cell? w _ (Hc2.out k hlt)) (by simp))).trans (Hc2.out k hlt)
        generalize strOfNums (D.getD k []) = s at *
        go_wp2_with fail
        go_quiet (fail)
        generalize hw2 : wr.drewN _ = w2 at *
        have hk2 := Hkp.out.ofDrewN hw2
        have Hk2 := Lib.hid hk2
        clear hw2 hk2 h1 h2
        go_wp2_with fail
        go_roundw
        case rel => exact ⟨k + 1, by omega, by go_num, Hk2.out⟩
        case measure => simp [intOf]; omega
      · go_wp2_with fail
        go_ret
        exact ⟨rfl, Hkp.out⟩
end Go.Proofs.Ytolnojhepakaoaa
