/- numeral's words: inf, infinity, nan. -/
import Derived.Test.YtnpnccjeapejdaaGreatDoorNumEmb
import Derived.Test.YtnpnccjeapejdaaGreatDoorShelf
import Derived.Shelf.Strings.SlTrimAscii
import Derived.Shelf.Strings.IndexAnyAll
import Derived.WalkKit
import Derived.WalkSpells
import Derived.WalkLawsBesides
import Derived.Lib.Hide
import Derived.IntWalk
import Derived.Laws.BitsAllLaws
import Derived.Deep.QuietTactic
import Derived.BigQuiet
import Derived.Below
import Derived.RegionTactic
import Derived.Laws.Rows
import Derived.ChangeAlike
import Derived.Lib.QuietBelow
import Derived.ScopeJumps
namespace Go.Proofs.YtnpnccjeapejdaaGreatDoor.Num
section
section
section
section
section
section
open Go.RowKit

theorem get_atB (s : ByteArray) (k : Nat) (h : k < s.size) : atB s.data.toList k = s[k] := by
  unfold atB
  have h' : k < s.data.toList.length := by rw [← Lib.size_eq]; exact h
  rw [List.getD_eq_getElem?_getD, List.getElem?_eq_getElem h']
  rfl

theorem atB_end (s : ByteArray) (k : Nat) (h : ¬ k < s.size) : atB s.data.toList k = 0 := by
  have : s.data.toList.length ≤ k := by rw [← Lib.size_eq]; omega
  unfold atB
  rw [List.getD_eq_getElem?_getD, List.getElem?_eq_none this]; rfl

set_option maxHeartbeats 400000 in
theorem at_ok (s : ByteArray) (i : Nat) (w : World) :
    Calls Tryz.prog 85 #[.string s, .int .i64 i] w fun e w' => e = .returned (.int .u8 (atB s.data.toList i).toNat) ∧ w = w' := by
  by_cases h : i < s.size
  · have e := get_atB s i h
    go_enter Tryz.func85, Tryz.ntmps85
    go_wp2_with fail
    go_ret
    exact ⟨by rw [e]; rfl, rfl⟩
  · have e := atB_end s i h
    go_enter Tryz.func85, Tryz.ntmps85
    go_wp2_with fail
    go_ret
    exact ⟨by rw [e]; rfl, rfl⟩

set_option maxHeartbeats 400000 in
theorem isDigit_ok (c : UInt8) (w : World) :
    Calls Tryz.prog 87 #[.int .u8 c.toNat] w fun e w' => e = .returned (.bool (isDig c)) ∧ w = w' := by
  by_cases h1 : (48 : Int) ≤ c.toNat
  · by_cases h2 : (c.toNat : Int) ≤ 57
    · have E := Lib.hid (show isDig c = true by unfold isDig; rw [decide_eq_true (by omega), decide_eq_true (by omega)]; rfl)
      go_enter Tryz.func87, Tryz.ntmps87
      go_wp2_with fail
      go_ret
      exact ⟨by rw [E.out]; rfl, rfl⟩
    · have E := Lib.hid (show isDig c = false by unfold isDig; rw [decide_eq_false (p := c.toNat ≤ 57) (by omega), Bool.and_false])
      have h2' : decide ((c.toNat : Int) ≤ 57) = false := decide_eq_false h2
      go_enter Tryz.func87, Tryz.ntmps87
      go_wp2_with fail
      go_ret
      exact ⟨by rw [E.out]; rfl, rfl⟩
  · have E := Lib.hid (show isDig c = false by unfold isDig; rw [decide_eq_false (p := 48 ≤ c.toNat) (by omega), Bool.false_and])
    have h1' : decide ((48 : Int) ≤ c.toNat) = false := decide_eq_false h1
    go_enter Tryz.func87, Tryz.ntmps87
    go_wp2_with fail
    go_ret
    exact ⟨by rw [E.out]; rfl, rfl⟩

theorem begB_nil (l : List UInt8) : begB l [] = true := rfl
theorem begB_short : ∀ {l w : List UInt8}, l.length < w.length → begB l w = false
  | l, [], h => by simp at h
  | [], c :: w, _ => rfl
  | x :: l, c :: w, h => by
    show ((x ||| 32 == c) && begB l w) = false
    rw [begB_short (by simpa using h), Bool.and_false]
/-- As far as k both agree. -/
theorem begB_step : ∀ {l w : List UInt8} (k : Nat), k < w.length → k < l.length → begB (l.drop k) (w.drop k) = ((atB l k ||| 32 == atB w k) && begB (l.drop (k + 1)) (w.drop (k + 1)))
  | l, w, k, h1, h2 => by
    rw [List.drop_eq_getElem_cons h2, List.drop_eq_getElem_cons h1]
    have e1 : atB l k = l[k] := by unfold atB; rw [List.getD_eq_getElem?_getD, List.getElem?_eq_getElem h2]; rfl
    have e2 : atB w k = w[k] := by unfold atB; rw [List.getD_eq_getElem?_getD, List.getElem?_eq_getElem h1]; rfl
    rw [e1, e2]
    rfl

def BeginsPost (w : World) (r : Bool) (e : Ending) (w' : World) : Prop := e = .returned (.bool r) ∧ ∃ n, w' = w.drewN n
def BegRel (w : World) (s t : ByteArray) (i : Value) (wr : World) : Prop :=
  ∃ k : Nat, k ≤ t.size ∧ i = .int .i64 k ∧ begB (s.data.toList.drop k) (t.data.toList.drop k) = begB s.data.toList t.data.toList ∧ ∃ n, wr = w.drewN n

set_option maxHeartbeats 800000 in
theorem begins_ok (s t : ByteArray) (w : World) (hs : s.size ≤ maxLen) :
    Calls Tryz.prog 62 #[.string s, .string t] w (BeginsPost w (begB s.data.toList t.data.toList)) := by
  unfold maxLen at hs
  by_cases h : s.size < t.size
  · have E := Lib.hid (show begB s.data.toList t.data.toList = false from begB_short (by rw [← Lib.size_eq, ← Lib.size_eq]; exact h))
    go_enter Tryz.func62, Tryz.ntmps62
    go_wp2_with fail
    go_ret
    exact ⟨by rw [E.out]; rfl, 0, rfl⟩
  · go_enter Tryz.func62, Tryz.ntmps62
    go_wp2_with fail
    go_loopw [13] (fun i wr => BegRel w s t i wr) (fun i _ => t.size - (intOf i).toNat)
    case atStart => exact ⟨0, Nat.zero_le _, rfl, rfl, 0, rfl⟩
    case round =>
      obtain ⟨k, hk, rfl, hb, n, rfl⟩ := hrel
      have HB := Lib.hid hb
      clear hb
      by_cases hlt : k < t.size
      · have hks : k < s.size := by omega
        have HS := Lib.hid (begB_step (l := s.data.toList) (w := t.data.toList) k (by rw [← Lib.size_eq]; exact hlt) (by rw [← Lib.size_eq]; exact hks))
        have g1 := Lib.hid (get_atB s k hks)
        have g2 := Lib.hid (get_atB t k hlt)
        have bo : bits .or .u8 (s[k].toNat : Int) 32 = ((s[k].toNat ||| 32 : Nat) : Int) := u8_or_nat _ 32 s[k].toNat_lt (by omega)
        have eo : (s[k] ||| 32).toNat = s[k].toNat ||| 32 := UInt8.toNat_or _ _
        by_cases hx : s[k] ||| 32 = t[k]
        · have t1 : (((s[k].toNat ||| 32 : Nat) : Int) != (t[k].toNat : Int)) = false := by rw [← eo, hx]; simp
          clear eo
          have HX := Lib.hid hx
          clear hx
          go_wp2_with fail
          go_quiet (fail)
          go_wp2_with fail
          exact ⟨⟨k + 1, by omega, by go_num, by rw [← HB.out, HS.out, g1.out, g2.out, HX.out]; simp, _, rfl⟩, by simp [intOf]; omega⟩
        · have t1 : (((s[k].toNat ||| 32 : Nat) : Int) != (t[k].toNat : Int)) = true := by
            rw [bne_iff_ne, ← eo]
            intro e
            exact hx (UInt8.toNat_inj.1 (by omega))
          clear eo
          have HX := Lib.hid hx
          clear hx
          go_wp2_with fail
          go_quiet (fail)
          go_wp2_with fail
          go_ret
          refine ⟨?_, _, by simp; rfl⟩
          rw [← HB.out, HS.out, g1.out, g2.out, beq_eq_false_iff_ne.2 HX.out, Bool.false_and]
          rfl
      · have hk' : k = t.size := by omega
        subst hk'
        go_wp2_with fail
        go_ret
        refine ⟨?_, _, rfl⟩
        rw [← HB.out, Lib.size_eq t, List.drop_length, begB_nil]
        rfl
end
section
open Go.RowKit

def bs (l : List UInt8) : ByteArray := ⟨l.toArray⟩
theorem bs_list (l : List UInt8) : (bs l).data.toList = l := by simp [bs]
theorem bs_of (s : ByteArray) : bs s.data.toList = s := by simp [bs]
theorem bs_size (l : List UInt8) : (bs l).size = l.length := by rw [Lib.size_eq, bs_list]

def cMonths : Array Value := (mNames.map fun l => Value.string (bs l)).toArray
def cWords : Array Value := #[.string (bs wInfinity), .int .u8 4, .string (bs wInf), .int .u8 4, .string (bs wNan), .int .u8 1]
def cSuffixes : Array Value := #[.int .u8 75, .int .i64 1, .int .u8 107, .int .i64 1, .int .u8 77, .int .i64 2, .int .u8 71, .int .i64 3, .int .u8 84, .int .i64 4, .int .u8 80, .int .i64 5, .int .u8 69, .int .i64 6, .int .u8 90, .int .i64 7, .int .u8 89, .int .i64 8, .int .u8 82, .int .i64 9, .int .u8 81, .int .i64 10]
def cRanks : Array Value := #[.int .u8 0, .int .u8 47, .int .u8 55, .int .u8 58, .int .u8 64, .int .u8 103, .int .u8 65, .int .u8 90, .int .u8 3, .int .u8 91, .int .u8 96, .int .u8 110, .int .u8 97, .int .u8 122, .int .u8 29, .int .u8 123, .int .u8 125, .int .u8 116, .int .u8 126, .int .u8 126, .int .u8 1, .int .u8 127, .int .u8 255, .int .u8 119]
/-- The tables lie where the program's start has laid them. -/
structure Tabs (w : World) : Prop where
  months : ∃ t fr, w.heap[0]? = some (.cells cMonths t fr)
  suffixes : ∃ t fr, w.heap[3]? = some (.cells cSuffixes t fr)
  words : ∃ t fr, w.heap[4]? = some (.cells cWords t fr)
  ranks : ∃ t fr, w.heap[5]? = some (.cells cRanks t fr)

theorem lt_of_block {w : World} {b : Nat} {o : Obj} (h : w.heap[b]? = some o) : b < w.heap.size := by
  rcases Nat.lt_or_ge b w.heap.size with h' | h'
  · exact h'
  · rw [Array.getElem?_eq_none h'] at h; cases h
theorem Tabs.below {w w' : World} (h : Tabs w) (k : Below w.heap.size w w') : Tabs w' := by
  obtain ⟨⟨t, fr, h0⟩, ⟨t1, fr1, h1⟩, ⟨t2, fr2, h2⟩, ⟨t4, fr4, h4⟩⟩ := h
  exact ⟨⟨t, fr, (k.block 0 (lt_of_block h0)).trans h0⟩, ⟨t1, fr1, (k.block 3 (lt_of_block h1)).trans h1⟩, ⟨t2, fr2, (k.block 4 (lt_of_block h2)).trans h2⟩, ⟨t4, fr4, (k.block 5 (lt_of_block h4)).trans h4⟩⟩
theorem below_drewN (w : World) (n : Nat) : Below w.heap.size w (w.drewN n) := ⟨rfl, rfl, rfl, Nat.le_refl _, fun _ _ => rfl⟩
theorem Tabs.drewN {w : World} (h : Tabs w) (n : Nat) : Tabs (w.drewN n) := h.below (below_drewN w n)

theorem set_info : (Tryz.prog.info? 129).map (fun i => (i.zero, i.size)) = some (some (.agg (Array.replicate 256 (.bool false))), 256) := by kernel_rfl

theorem blank_set (l : List UInt8) : Lib.trimLeftS l [32, 9] = l.dropWhile isBlank := by
  unfold Lib.trimLeftS
  congr 1
  funext c
  unfold isBlank
  simp only [List.contains, List.elem]
  cases (c == 32) <;> cases (c == 9) <;> rfl
theorem trimBlanks_ok (s : ByteArray) (w : World) :
    Calls Tryz.prog 61 #[.string s, .string ⟨#[32, 9]⟩] w fun e w' => e = .returned (.string (bs (s.data.toList.dropWhile isBlank))) ∧ Below w.heap.size w w' := by
  refine (show Calls Tryz.prog 61 _ w _ from Any.strings_TrimLeft_laid Tryz.lays161 set_info s ⟨#[32, 9]⟩ w (by decide) (ascii_of_all (by decide))).mono ?_
  rintro e w' ⟨rfl, hb⟩
  exact ⟨by rw [← blank_set]; rfl, hb⟩

theorem index_months (k : Nat) (h : k < 12) (w : World) : (Instr.index 104 (.agg cMonths) (.int .i64 k)).run Tryz.prog w = .ok (.string (bs (mNames.getD k []))) w := by
  obtain rfl | rfl | rfl | rfl | rfl | rfl | rfl | rfl | rfl | rfl | rfl | rfl : k = 0 ∨ k = 1 ∨ k = 2 ∨ k = 3 ∨ k = 4 ∨ k = 5 ∨ k = 6 ∨ k = 7 ∨ k = 8 ∨ k = 9 ∨ k = 10 ∨ k = 11 := by omega
  all_goals kernel_rfl

theorem months_step (l : List UInt8) (k : Nat) (h : k < 12) : monthIn l k (mNames.drop k) = if begB l (mNames.getD k []) then k + 1 else monthIn l (k + 1) (mNames.drop (k + 1)) := by
  have hl : k < mNames.length := h
  rw [List.drop_eq_getElem_cons hl, List.getD_eq_getElem?_getD, List.getElem?_eq_getElem hl]
  rfl

def MonRel (w : World) (l : List UInt8) (i : Value) (wr : World) : Prop :=
  ∃ k : Nat, k ≤ 12 ∧ i = .int .i64 k ∧ monthIn l k (mNames.drop k) = monthIn l 0 mNames ∧ Below w.heap.size w wr

theorem month_size {k : Nat} (h : k < 12) : (bs (mNames.getD k [])).size ≤ 3 := by
  rw [bs_size]
  obtain rfl | rfl | rfl | rfl | rfl | rfl | rfl | rfl | rfl | rfl | rfl | rfl : k = 0 ∨ k = 1 ∨ k = 2 ∨ k = 3 ∨ k = 4 ∨ k = 5 ∨ k = 6 ∨ k = 7 ∨ k = 8 ∨ k = 9 ∨ k = 10 ∨ k = 11 := by omega
  all_goals decide
theorem info63 : (Tryz.prog.info? 104).map (·.size) = some cMonths.size := by kernel_rfl
theorem trimmed_le (s : ByteArray) : (bs (s.data.toList.dropWhile isBlank)).size ≤ s.size := by
  rw [bs_size, Lib.size_eq]
  exact (List.dropWhile_sublist _).length_le

def RetBelow (w : World) (v : Value) (e : Ending) (w' : World) : Prop := e = .returned v ∧ Below w.heap.size w w'

set_option maxHeartbeats 800000 in
theorem month_ok (s : ByteArray) (w : World) (hs : s.size ≤ maxLen) (T : Tabs w) :
    Calls Tryz.prog 38 #[.string s] w (RetBelow w (.int .i64 (monthS s.data.toList))) := by
  have ht := trimmed_le s
  have HT := Lib.hid T
  clear T
  go_enter Tryz.func38, Tryz.ntmps38
  go_wp2_with fail
  refine (trimBlanks_ok s w).mono ?_
  rintro e w1 ⟨rfl, hb1⟩
  have e0 : (bs (s.data.toList.dropWhile isBlank)).data.toList = s.data.toList.dropWhile isBlank := bs_list _
  have HL := Lib.hid (show monthS s.data.toList = monthIn (bs (s.data.toList.dropWhile isBlank)).data.toList 0 mNames by rw [e0]; rfl)
  clear e0
  generalize bs (s.data.toList.dropWhile isBlank) = r at *
  obtain ⟨t0, fr0, hm⟩ := (HT.out.below hb1).months
  have HB := Lib.hid hb1
  clear hb1
  go_wp2_with (refine wpList_load_row rfl _ _ rfl 0 rfl t0 cMonths fr0 _ hm Tryz.underlying104 rfl info63 ?_)
  have hr : r.size ≤ maxLen := Nat.le_trans ht hs
  go_loopw [8] (fun i wr => MonRel w r.data.toList i wr) (fun i _ => 12 - (intOf i).toNat)
  case atStart => exact ⟨0, Nat.zero_le _, rfl, rfl, HB.out⟩
  case round =>
    obtain ⟨k, hk, rfl, hmk, hbk⟩ := hrel
    have HM := Lib.hid hmk
    have HK := Lib.hid hbk
    clear hmk hbk hm
    by_cases hlt : k < 12
    · have hx := index_months k hlt
      have HS := Lib.hid (months_step r.data.toList k hlt)
      have hz := month_size hlt
      have E1 := Lib.hid (bs_list (mNames.getD k []))
      generalize mNames.getD k [] = nm at *
      generalize bs nm = nb at *
      cases hb : begB r.data.toList nm with
      | true =>
        have HBB := Lib.hid hb
        clear hb
        go_wp2_with fail
        refine (begins_ok r nb _ hr).mono ?_
        rintro e w2 ⟨rfl, n, rfl⟩
        rw [E1.out, HBB.out]
        go_wp2_with fail
        go_ret
        refine ⟨?_, HK.out.trans ((below_drewN wr n).mono HK.out.size)⟩
        rw [HL.out, ← HM.out, HS.out, HBB.out]
        go_num
      | false =>
        have HBB := Lib.hid hb
        clear hb
        go_wp2_with fail
        refine (begins_ok r nb _ hr).mono ?_
        rintro e w2 ⟨rfl, n, rfl⟩
        rw [E1.out, HBB.out]
        go_wp2_with fail
        go_roundw
        case rel => exact ⟨k + 1, by omega, by go_num, by rw [← HM.out, HS.out, HBB.out]; rfl, HK.out.trans ((below_drewN wr n).mono HK.out.size)⟩
        case measure => simp [intOf]; omega
    · have hk' : k = 12 := by omega
      subst hk'
      go_wp2_with fail
      go_ret
      refine ⟨?_, HK.out⟩
      rw [HL.out, ← HM.out]
      rfl
end
end
section
open Go.RowKit

def RetDrew (w : World) (v : Value) (e : Ending) (w' : World) : Prop := e = .returned v ∧ ∃ n, w' = w.drewN n

theorem cmpInt_ok (x y : Int) (w : World) : Calls Tryz.prog 103 #[.int .i64 x, .int .i64 y] w fun e w' => e = .returned (.int .i64 (cmpI x y)) ∧ w = w' :=
  (Tryz.cmp_Compare_int x y w).mono fun _ _ ⟨h1, h2⟩ => ⟨h1, h2.symm⟩

set_option maxHeartbeats 400000 in
theorem notNaN_ok (x : Int) (w : World) : Calls Tryz.prog 119 #[.int .u8 x] w fun e w' => e = .returned (.bool false) ∧ w = w' := by
  go_enter Tryz.func119, Tryz.ntmps119
  go_wp2_with fail
  go_ret
  exact ⟨rfl, rfl⟩
set_option maxHeartbeats 400000 in
theorem cmpByte_ok (x y : Int) (w : World) : Calls Tryz.prog 102 #[.int .u8 x, .int .u8 y] w fun e w' => e = .returned (.int .i64 (cmpI x y)) ∧ w = w' := by
  by_cases h1 : x < y
  · have E := Lib.hid (show cmpI x y = -1 by unfold cmpI; rw [if_pos h1])
    go_enter Tryz.func102, Tryz.ntmps102
    go_wp2_with (refine (notNaN_ok _ _).mono ?_; rintro e w' ⟨rfl, rfl⟩)
    go_ret
    exact ⟨by rw [E.out]; rfl, rfl⟩
  · by_cases h2 : y < x
    · have E := Lib.hid (show cmpI x y = 1 by unfold cmpI; rw [if_neg h1, if_pos h2])
      have h1' : decide (x < y) = false := decide_eq_false h1
      go_enter Tryz.func102, Tryz.ntmps102
      go_wp2_with (refine (notNaN_ok _ _).mono ?_; rintro e w' ⟨rfl, rfl⟩)
      go_ret
      exact ⟨by rw [E.out]; rfl, rfl⟩
    · have E := Lib.hid (show cmpI x y = 0 by unfold cmpI; rw [if_neg h1, if_neg h2])
      have h1' : decide (x < y) = false := decide_eq_false h1
      have h2' : decide (y < x) = false := decide_eq_false h2
      go_enter Tryz.func102, Tryz.ntmps102
      go_wp2_with (refine (notNaN_ok _ _).mono ?_; rintro e w' ⟨rfl, rfl⟩)
      go_ret
      exact ⟨by rw [E.out]; rfl, rfl⟩

def rowN (k : Nat) : Nat × Nat × Nat := [(0, 47, 55), (58, 64, 103), (65, 90, 3), (91, 96, 110), (97, 122, 29), (123, 125, 116), (126, 126, 1), (127, 255, 119)].getD k (0, 255, 0)
theorem rank_cells {w : World} (T : Tabs w) (k : Nat) (h : k < 8) :
    w.cell? ⟨5, k * 3, none⟩ = some (.int .u8 (rowN k).1) ∧ w.cell? ⟨5, k * 3 + 1, none⟩ = some (.int .u8 (rowN k).2.1) ∧ w.cell? ⟨5, k * 3 + 2, none⟩ = some (.int .u8 (rowN k).2.2) := by
  obtain ⟨t, fr, hb⟩ := T.ranks
  have c : ∀ o v, cRanks[o]? = some v → w.cell? ⟨5, o, none⟩ = some v := fun o v hv => by simp [World.cell?, hb, hv]
  obtain rfl | rfl | rfl | rfl | rfl | rfl | rfl | rfl : k = 0 ∨ k = 1 ∨ k = 2 ∨ k = 3 ∨ k = 4 ∨ k = 5 ∨ k = 6 ∨ k = 7 := by omega
  all_goals exact ⟨c _ _ rfl, c _ _ rfl, c _ _ rfl⟩
theorem rank_of_row (c : UInt8) (k : Nat) (hk : k < 8) (lo : ∀ j, j < k → (rowN j).2.1 < c.toNat) (hi : c.toNat ≤ (rowN k).2.1) :
    (((rowN k).2.2 : Int) + ((c.toNat : Int) - (rowN k).1) % 256) % 256 = rankB c := by
  have hc := c.toNat_lt
  have l := fun j hj => lo j hj
  unfold rankB
  simp only
  obtain rfl | rfl | rfl | rfl | rfl | rfl | rfl | rfl : k = 0 ∨ k = 1 ∨ k = 2 ∨ k = 3 ∨ k = 4 ∨ k = 5 ∨ k = 6 ∨ k = 7 := by omega
  all_goals (try have l0 := l 0 (by omega)); (try have l1 := l 1 (by omega)); (try have l2 := l 2 (by omega)); (try have l3 := l 3 (by omega)); (try have l4 := l 4 (by omega)); (try have l5 := l 5 (by omega)); (try have l6 := l 6 (by omega))
  all_goals clear l lo
  all_goals simp [rowN] at *
  all_goals repeat' split
  all_goals omega
theorem row_last (c : UInt8) (k : Nat) (hk : k < 8) (h : (rowN k).2.1 < c.toNat) : k + 1 < 8 := by
  have hc := c.toNat_lt
  by_cases e : k = 7
  · subst e; have : (rowN 7).2.1 = 255 := rfl; omega
  · omega

def RankRel (w : World) (c : UInt8) (i : Value) (wr : World) : Prop :=
  ∃ k : Nat, k < 8 ∧ i = .int .i64 k ∧ (∀ j, j < k → (rowN j).2.1 < c.toNat) ∧ wr = w

set_option maxHeartbeats 800000 in
theorem rank_ok (c : UInt8) (w : World) (T : Tabs w) : Calls Tryz.prog 94 #[.int .u8 c.toNat] w (RetDrew w (.int .u8 (rankB c))) := by
  have HT := Lib.hid T
  clear T
  go_enter Tryz.func94, Tryz.ntmps94
  go_wp2_with fail
  go_loopw [3] (fun i wr => RankRel w c i wr) (fun i _ => 8 - (intOf i).toNat)
  case atStart => exact ⟨0, by omega, rfl, fun j hj => by omega, rfl⟩
  case round =>
    obtain ⟨k, hk, rfl, hlo, rfl⟩ := hrel
    have HL := Lib.hid hlo
    clear hlo
    obtain ⟨c0, c1, c2⟩ := rank_cells HT.out k hk
    have HR := Lib.hid (rank_of_row c k hk HL.out)
    have HN := Lib.hid (row_last c k hk)
    have HJ := Lib.hid (show ∀ j, j < k + 1 → (rowN k).2.1 < c.toNat → (rowN j).2.1 < c.toNat from fun j hj h => by
      by_cases e : j = k
      · subst e; exact h
      · exact HL.out j (by omega))
    generalize (rowN k).1 = r0 at *
    generalize (rowN k).2.2 = r2 at *
    generalize (rowN k).2.1 = r1 at *
    by_cases h : r1 < c.toNat
    · have t1 : decide ((r1 : Int) < c.toNat) = true := decide_eq_true (by omega)
      have hn := HN.out h
      go_wp2_with fail
      exact ⟨⟨k + 1, hn, by go_num, fun j hj => HJ.out j hj h, rfl⟩, by simp [intOf]; omega⟩
    · have t1 : decide ((r1 : Int) < c.toNat) = false := decide_eq_false (by omega)
      have E := Lib.hid (HR.out (by omega))
      go_wp2_with fail
      go_quiet (fail)
      go_wp2_with fail
      go_ret
      refine ⟨?_, _, rfl⟩
      rw [← E.out]; rfl

/-- The rank of place i of a run. -/
theorem rankAt_ok (s : ByteArray) (i : Nat) (w : World) (T : Tabs w) : Calls Tryz.prog 160 #[.string s, .int .i64 i] w (RetDrew w (.int .u8 (rankAtS s.data.toList i))) := by
  have HT := Lib.hid T
  clear T
  by_cases h : i < s.size
  · have E := Lib.hid (show rankAtS s.data.toList i = rankB s[i] by unfold rankAtS; rw [if_pos (by rw [← Lib.size_eq]; exact h), ← get_atB s i h]; rfl)
    go_enter Tryz.func160, Tryz.ntmps160
    go_wp2_with fail
    refine (rank_ok s[i] _ HT.out).mono ?_
    rintro e w1 ⟨rfl, n, rfl⟩
    go_wp2_with fail
    go_ret
    exact ⟨by rw [E.out]; rfl, n, rfl⟩
  · have E := Lib.hid (show rankAtS s.data.toList i = 2 by unfold rankAtS; rw [if_neg (by rw [← Lib.size_eq]; exact h)])
    go_enter Tryz.func160, Tryz.ntmps160
    go_wp2_with fail
    go_ret
    exact ⟨by rw [E.out]; rfl, 0, rfl⟩

def PlainRel (w : World) (s t : ByteArray) (i : Value) (wr : World) : Prop :=
  ∃ k : Nat, k ≤ max s.size t.size ∧ i = .int .i64 k ∧ (∀ j, j < k → cmpI (rankAtS s.data.toList j) (rankAtS t.data.toList j) = 0) ∧ ∃ n, wr = w.drewN n

set_option maxHeartbeats 800000 in
theorem comparePlain_ok (s t : ByteArray) (w : World) (hs : s.size ≤ 1125899906842624) (ht : t.size ≤ 1125899906842624) (T : Tabs w) :
    Calls Tryz.prog 142 #[.string s, .string t] w (RetDrew w (.int .i64 (cmpPlain s.data.toList t.data.toList))) := by
  have HT := Lib.hid T
  clear T
  have E := Lib.hid (show cmpPlain s.data.toList t.data.toList = firstN (max s.size t.size) (fun i => cmpI (rankAtS s.data.toList i) (rankAtS t.data.toList i)) by unfold cmpPlain; rw [← Lib.size_eq, ← Lib.size_eq])
  obtain ⟨m, hm⟩ : ∃ m, m = max s.size t.size := ⟨_, rfl⟩
  have hmb : m ≤ 1125899906842624 := by omega
  go_enter Tryz.func142, Tryz.ntmps142
  go_wp2_with fail
  have hmx : max (s.size : Int) (t.size : Int) = (m : Int) := by omega
  rw [hmx]
  clear hmx
  go_loopw [12] (fun i wr => PlainRel w s t i wr) (fun i _ => m - (intOf i).toNat)
  case atStart => exact ⟨0, Nat.zero_le _, rfl, fun j hj => by omega, 0, rfl⟩
  case round =>
    obtain ⟨k, hk, rfl, h0, n, rfl⟩ := hrel
    have H0 := Lib.hid h0
    clear h0
    rw [← hm] at hk
    have HM := Lib.hid hm
    clear hm
    by_cases hlt : k < m
    · go_wp2_with fail
      refine (rankAt_ok s k _ (HT.out.drewN n)).mono ?_
      rintro e w1 ⟨rfl, n1, rfl⟩
      go_wp2_with fail
      refine (rankAt_ok t k _ (HT.out.drewN _)).mono ?_
      rintro e w1 ⟨rfl, n2, rfl⟩
      go_wp2_with fail
      refine (cmpByte_ok _ _ _).mono ?_
      rintro e w1 ⟨rfl, rfl⟩
      obtain ⟨c, hc⟩ : ∃ c, c = cmpI (rankAtS s.data.toList k) (rankAtS t.data.toList k) := ⟨_, rfl⟩
      rw [← hc]
      by_cases hz : c = 0
      · have HC := Lib.hid (hc.symm.trans hz)
        clear hc
        subst hz
        go_wp2_with fail
        go_roundw
        case rel => exact ⟨k + 1, by rw [← HM.out]; omega, by go_num, fun j hj => by
            by_cases e : j = k
            · subst e; exact HC.out
            · exact H0.out j (by omega), _, rfl⟩
        case measure => simp [intOf]; omega
      · have t1 : (c != 0) = true := by rw [bne_iff_ne]; exact hz
        have HC := Lib.hid hc
        have HZ := Lib.hid hz
        clear hc hz
        go_wp2_with fail
        go_ret
        refine ⟨?_, _, rfl⟩
        rw [E.out, ← HM.out, firstN_stop k H0.out (by rw [← HC.out]; exact HZ.out) m hlt, ← HC.out]
        rfl
    · have hk' : k = m := by omega
      subst hk'
      go_wp2_with fail
      go_ret
      refine ⟨?_, _, rfl⟩
      rw [E.out, ← HM.out, firstN_zero k H0.out]
      rfl
end
end
section
open Go.RowKit

theorem trimL_ok (s : ByteArray) (w : World) : Calls Tryz.prog 61 #[.string s, .string ⟨#[48]⟩] w fun e w' => e = .returned (.string (bs (trimL s.data.toList))) ∧ w = w' :=
  (Tryz.strings_TrimLeft_one s 48 (by decide) w).mono fun _ _ ⟨h1, h2⟩ => ⟨by rw [h1]; unfold trimL bs; rw [Lib.trimLeftS_one], h2.symm⟩
theorem trimR_ok (s : ByteArray) (w : World) (hs : s.size ≤ 9223372036854775807) : Calls Tryz.prog 89 #[.string s, .string ⟨#[48]⟩] w fun e w' => e = .returned (.string (bs (trimR s.data.toList))) ∧ w = w' :=
  (Tryz.strings_TrimRight_one s 48 (by decide) w hs).mono fun _ _ ⟨h1, h2⟩ => ⟨by rw [h1]; unfold trimR bs; rw [Lib.trimRightS_one], h2.symm⟩

set_option maxHeartbeats 400000 in
theorem pairNumber_ok (p d : ByteArray) (w : World) : Calls Tryz.prog 95 #[.agg #[.string p, .string d]] w (RetBelow w (.string (bs (trimL d.data.toList)))) := by
  go_enter Tryz.func95, Tryz.ntmps95
  go_wp2_with fail
  refine (trimL_ok d _).mono ?_
  rintro e w1 ⟨rfl, rfl⟩
  go_wp2_with fail
  go_ret
  exact ⟨rfl, (Below.refl _ _).alloc (Nat.le_refl _) _⟩

theorem extract_bs (s : ByteArray) (i j : Nat) : s.extract i j = bs ((s.data.toList.drop i).take (j - i)) := by
  have e := Lib.extract_data s i j
  rw [← bs_of (s.extract i j), e]

theorem spanN_on' {p : UInt8 → Bool} : ∀ {l : List UInt8} {k : Nat}, k ≤ spanN p l → k < l.length → p (atB l k) = true → k + 1 ≤ spanN p l
  | [], k, _, hl, _ => by simp at hl
  | x :: r, 0, _, _, h => by
    have : p x = true := by simpa [atB] using h
    simp [spanN, List.takeWhile, this]
  | x :: r, k + 1, hk, hl, h => by
    by_cases e : p x = true
    · have hk' : k ≤ spanN p r := by simp [spanN, List.takeWhile, e] at hk; simpa [spanN] using hk
      have := spanN_on' (l := r) (k := k) hk' (by simpa using hl) (by simpa [atB] using h)
      simp [spanN, List.takeWhile, e] at this ⊢
      exact this
    · simp [spanN, List.takeWhile, e] at hk

def CutRel (w : World) (l : List UInt8) (p : UInt8 → Bool) (b : Nat) (i : Value) (wr : World) : Prop :=
  ∃ k : Nat, k ≤ spanN p l ∧ i = .int .i64 ((b + k : Nat) : Int) ∧ wr = w

theorem drop_atB (l : List UInt8) (b k : Nat) : atB (l.drop b) k = atB l (b + k) := by
  unfold atB
  simp [List.getD_eq_getElem?_getD, List.getElem?_drop]
set_option maxHeartbeats 1600000 in
theorem cutPair_ok (s : ByteArray) (w : World) (hs : s.size ≤ 1125899906842624) :
    Calls Tryz.prog 63 #[.string s] w (RetBelow w (.tuple #[.agg #[.string (bs (plainOf s.data.toList)), .string (bs (digsOf s.data.toList))], .string (bs (restOf s.data.toList))])) := by
  obtain ⟨l, hll⟩ : ∃ l, l = s.data.toList := ⟨_, rfl⟩
  have hl1 : s.size ≤ l.length := by rw [hll, Lib.size_eq]; exact Nat.le_refl _
  have hl2 : l.length ≤ s.size := by rw [hll, Lib.size_eq]; exact Nat.le_refl _
  have n1le := spanN_le notDig l
  have n2le := spanN_le isDig (l.drop (spanN notDig l))
  simp only [List.length_drop] at n2le
  have E1 := Lib.hid (show s.extract 0 (spanN notDig l) = bs (plainOf s.data.toList) by rw [extract_bs, ← hll]; simp [take_spanN, plainOf])
  have E2 := Lib.hid (show s.extract (spanN notDig l) (spanN notDig l + spanN isDig (l.drop (spanN notDig l))) = bs (digsOf s.data.toList) by
    rw [extract_bs, ← hll, Nat.add_sub_cancel_left, take_spanN, drop_spanN]; rfl)
  have E3 := Lib.hid (show s.extract (spanN notDig l + spanN isDig (l.drop (spanN notDig l))) s.size = bs (restOf s.data.toList) by
    rw [extract_bs, ← hll, ← List.drop_drop, drop_spanN, drop_spanN, List.take_of_length_le (by
      have h1 := (List.dropWhile_sublist (l := l) notDig).length_le
      have h2 := (List.dropWhile_sublist (l := l.dropWhile notDig) isDig).length_le
      have e1 : (l.dropWhile notDig).length = l.length - spanN notDig l := by rw [← drop_spanN]; simp
      have e2 : ((l.dropWhile notDig).dropWhile isDig).length = (l.dropWhile notDig).length - spanN isDig (l.dropWhile notDig) := by rw [← drop_spanN isDig]; simp
      omega)]
    rfl)
  have HLL := Lib.hid hll
  clear hll
  generalize hn1 : spanN notDig l = n1 at *
  generalize hn2 : spanN isDig (l.drop n1) = n2 at *
  have HN1 := Lib.hid hn1
  have HN2 := Lib.hid hn2
  clear hn1 hn2
  go_enter Tryz.func63, Tryz.ntmps63
  go_wp2_with fail
  obtain ⟨w0, hw0⟩ : ∃ w0, w0 = w := ⟨_, rfl⟩
  go_loopw [4] (fun i wr => CutRel (w.alloc (Obj.cells #[Value.string ⟨#[]⟩, Value.string ⟨#[]⟩] 107)) l notDig 0 i wr) (fun i _ => s.size - (intOf i).toNat)
  case atStart => exact ⟨0, Nat.zero_le _, rfl, rfl⟩
  case round =>
    obtain ⟨k, hk, rfl, rfl⟩ := hrel
    rw [Nat.zero_add] at *
    rw [HN1.out] at hk
    by_cases hlt : k < s.size
    · have hb : atB l k = s[k] := by rw [HLL.out]; exact get_atB s k hlt
      cases hd : isDig s[k] with
      | false =>
        have HK := Lib.hid (show k + 1 ≤ n1 by
          have h1 : k ≤ spanN notDig l := by rw [HN1.out]; exact hk
          have := spanN_on' h1 (by omega) (by rw [hb]; simp [notDig, hd])
          rw [HN1.out] at this; exact this)
        have HD := Lib.hid hd
        clear hd hb
        go_wp2_with (refine (isDigit_ok s[k] _).mono ?_; rintro e w' ⟨rfl, rfl⟩; rw [HD.out])
        go_roundw
        case rel => exact ⟨k + 1, by rw [HN1.out]; exact HK.out, by go_num, rfl⟩
        case measure => simp [intOf]; omega
      | true =>
        have hkn : k = n1 := by
          have h1 : k ≤ spanN notDig l := by rw [HN1.out]; exact hk
          have := spanN_end h1 (by rw [hb]; simp [notDig, hd])
          rw [HN1.out] at this; exact this.symm
        have HD := Lib.hid hd
        clear hd hb
        subst hkn
        go_wp2_with (refine (isDigit_ok s[k] _).mono ?_; rintro e w' ⟨rfl, rfl⟩; rw [HD.out])
        have hk1 : k ≤ s.size := by omega
        go_loopw [5] (fun i wr => CutRel (w.alloc (Obj.cells #[Value.string ⟨#[]⟩, Value.string ⟨#[]⟩] 107)) (l.drop k) isDig k i wr) (fun i _ => s.size - (intOf i).toNat)
        case atStart => exact ⟨0, Nat.zero_le _, by go_num, rfl⟩
        case round =>
          obtain ⟨j, hj, rfl, rfl⟩ := hrel
          rw [HN2.out] at hj
          have hjl : k + j ≤ s.size := by omega
          by_cases hlt2 : k + j < s.size
          · have hb : atB (l.drop k) j = s[k + j] := by rw [drop_atB, HLL.out]; exact get_atB s (k + j) hlt2
            cases hd : isDig s[k + j] with
            | true =>
              have HK := Lib.hid (show j + 1 ≤ n2 by
                have h1 : j ≤ spanN isDig (l.drop k) := by rw [HN2.out]; exact hj
                have := spanN_on' h1 (by simp; omega) (by rw [hb]; exact hd)
                rw [HN2.out] at this; exact this)
              have HD2 := Lib.hid hd
              clear hd hb
              go_wp2_with (refine (isDigit_ok s[k + j] _).mono ?_; rintro e w' ⟨rfl, rfl⟩; rw [HD2.out])
              go_roundw
              case rel => exact ⟨j + 1, by rw [HN2.out]; exact HK.out, by go_num, rfl⟩
              case measure => simp [intOf]; omega
            | false =>
              have hj2 : j = n2 := by
                have h1 : j ≤ spanN isDig (l.drop k) := by rw [HN2.out]; exact hj
                have := spanN_end h1 (by rw [hb]; exact hd)
                rw [HN2.out] at this; exact this.symm
              have HD2 := Lib.hid hd
              clear hd hb
              subst hj2
              go_wp2_with (refine (isDigit_ok s[k + j] _).mono ?_; rintro e w' ⟨rfl, rfl⟩; rw [HD2.out])
              go_region
              all_goals go_wp2_with fail
              all_goals exact bodyPost_ret (v := .tuple #[.agg #[.string (bs (plainOf s.data.toList)), .string (bs (digsOf s.data.toList))], .string (bs (restOf s.data.toList))]) (by rw [E1.out, E2.out, E3.out]; simp [results, Tryz.results63, go_sem]) rfl ⟨rfl, ((Below.refl _ _).alloc (Nat.le_refl _) _).drew⟩
          · have hj2 : j = n2 := by omega
            subst hj2
            go_wp2_with fail
            go_region
            all_goals go_wp2_with fail
            all_goals exact bodyPost_ret (v := .tuple #[.agg #[.string (bs (plainOf s.data.toList)), .string (bs (digsOf s.data.toList))], .string (bs (restOf s.data.toList))]) (by rw [E1.out, E2.out, E3.out]; simp [results, Tryz.results63, go_sem]) rfl ⟨rfl, ((Below.refl _ _).alloc (Nat.le_refl _) _).drew⟩
    · have hkn : k = n1 := by omega
      subst hkn
      go_wp2_with fail
      have hk1 : k ≤ s.size := by omega
      go_loopw [5] (fun i wr => CutRel (w.alloc (Obj.cells #[Value.string ⟨#[]⟩, Value.string ⟨#[]⟩] 107)) (l.drop k) isDig k i wr) (fun i _ => s.size - (intOf i).toNat)
      case atStart => exact ⟨0, Nat.zero_le _, by go_num, rfl⟩
      case round =>
        obtain ⟨j, hj, rfl, rfl⟩ := hrel
        rw [HN2.out] at hj
        have hjl : k + j ≤ s.size := by omega
        by_cases hlt2 : k + j < s.size
        · exfalso; omega
        · have hj2 : j = n2 := by omega
          subst hj2
          go_wp2_with fail
          go_region
          all_goals go_wp2_with fail
          all_goals exact bodyPost_ret (v := .tuple #[.agg #[.string (bs (plainOf s.data.toList)), .string (bs (digsOf s.data.toList))], .string (bs (restOf s.data.toList))]) (by rw [E1.out, E2.out, E3.out]; simp [results, Tryz.results63, go_sem]) rfl ⟨rfl, ((Below.refl _ _).alloc (Nat.le_refl _) _).drew⟩
end
end
section
open Go.RowKit Go.Sort Go.Lib

theorem compareBytes_cmpL : ∀ a b : List UInt8, Lib.compareBytes a b = cmpL a b
  | [], [] => rfl
  | [], y :: b => by rw [cmpL_left]; rfl
  | x :: a, [] => by rw [cmpL_right]; rfl
  | x :: a, y :: b => by
    rw [cmpL_cons, ← compareBytes_cmpL a b]
    show (if x < y then (-1 : Int) else if y < x then 1 else Lib.compareBytes a b) = _
    by_cases h1 : x < y
    · have h1' := UInt8.lt_iff_toNat_lt.1 h1
      rw [if_pos h1]; unfold thenC cmpI; rw [if_pos (show (x.toNat : Int) < y.toNat by omega)]; rfl
    · have h1' : ¬ x.toNat < y.toNat := fun h => h1 (UInt8.lt_iff_toNat_lt.2 h)
      rw [if_neg h1]
      by_cases h2 : y < x
      · have h2' := UInt8.lt_iff_toNat_lt.1 h2
        rw [if_pos h2]; unfold thenC cmpI; rw [if_neg (show ¬ (x.toNat : Int) < y.toNat by omega), if_pos (show (y.toNat : Int) < x.toNat by omega)]; rfl
      · have h2' : ¬ y.toNat < x.toNat := fun h => h2 (UInt8.lt_iff_toNat_lt.2 h)
        rw [if_neg h2]; unfold thenC cmpI; rw [if_neg (show ¬ (x.toNat : Int) < y.toNat by omega), if_neg (show ¬ (y.toNat : Int) < x.toNat by omega)]; rfl
theorem strCompare_ok (a b : ByteArray) (w : World) : Calls Tryz.prog 23 #[.string a, .string b] w fun e w' => e = .returned (.int .i64 (cmpL a.data.toList b.data.toList)) ∧ w = w' :=
  (Tryz.strings_Compare a b w).mono fun _ _ ⟨h1, h2⟩ => ⟨by rw [h1, compareBytes_cmpL], h2.symm⟩

set_option maxRecDepth 100000 in
set_option maxHeartbeats 1600000 in
theorem pairCompare_ok (p d p' d' : ByteArray) (w : World) (h1 : p.size ≤ 1125899906842624) (h2 : p'.size ≤ 1125899906842624) (T : Tabs w) :
    Calls Tryz.prog 122 #[.agg #[.string p, .string d], .agg #[.string p', .string d']] w (RetBelow w (.int .i64 (thenC (cmpPlain p.data.toList p'.data.toList) (cmpNums d.data.toList d'.data.toList)))) := by
  have HT := Lib.hid T
  clear T
  go_enter Tryz.func122, Tryz.ntmps122
  go_wp2_with fail
  refine (comparePlain_ok p p' _ h1 h2 (HT.out.below (((Below.refl _ _).alloc (Nat.le_refl _) _).alloc (by simp) _))).mono ?_
  rintro e w1 ⟨rfl, n, rfl⟩
  obtain ⟨c, hc⟩ : ∃ c, c = cmpPlain p.data.toList p'.data.toList := ⟨_, rfl⟩
  rw [← hc]
  have HC := Lib.hid hc
  clear hc
  by_cases hz : c = 0
  · subst hz
    have hB : Below w.heap.size w (((w.alloc (Obj.cells #[Value.string p, Value.string d] 107)).alloc (Obj.cells #[Value.string p', Value.string d'] 107)).drewN n) :=
      (((Below.refl _ _).alloc (Nat.le_refl _) _).alloc (by simp) _).trans ((below_drewN _ _).mono (by simp; omega))
    have HB := Lib.hid hB
    clear hB
    have emp : ∀ x : ByteArray, x.data.toList = [] → x.toList = [] ∧ x.toList.isEmpty = true := fun x h => by rw [Lib.toList_data, h]; exact ⟨rfl, rfl⟩
    have nem : ∀ x : ByteArray, ¬ x.data.toList = [] → ¬ x.toList = [] ∧ x.toList.isEmpty = false := fun x h => by rw [Lib.toList_data]; exact ⟨h, by cases hx : x.data.toList <;> simp_all⟩
    by_cases hd : d.data.toList = []
    · obtain ⟨x1, x2⟩ := emp d hd
      have E := Lib.hid (show cmpNums d.data.toList d'.data.toList = cmpI d.size d'.size by unfold cmpNums; rw [if_pos (Or.inl hd), Lib.size_eq, Lib.size_eq])
      clear emp nem hd
      go_wp2_with fail
      refine (cmpInt_ok _ _ _).mono ?_
      rintro e w1 ⟨rfl, rfl⟩
      go_wp2_with fail
      go_ret
      exact ⟨by rw [← HC.out, E.out, thenC_zero]; rfl, HB.out⟩
    · by_cases hd' : d'.data.toList = []
      · obtain ⟨x1, x2⟩ := nem d hd
        obtain ⟨y1, y2⟩ := emp d' hd'
        have E := Lib.hid (show cmpNums d.data.toList d'.data.toList = cmpI d.size d'.size by unfold cmpNums; rw [if_pos (Or.inr hd'), Lib.size_eq, Lib.size_eq])
        clear emp nem hd hd'
        go_wp2_with fail
        refine (cmpInt_ok _ _ _).mono ?_
        rintro e w1 ⟨rfl, rfl⟩
        go_wp2_with fail
        go_ret
        exact ⟨by rw [← HC.out, E.out, thenC_zero]; rfl, HB.out⟩
      · obtain ⟨x1, x2⟩ := nem d hd
        obtain ⟨y1, y2⟩ := nem d' hd'
        have E := Lib.hid (show cmpNums d.data.toList d'.data.toList = thenC (cmpI (bs (trimL d.data.toList)).size (bs (trimL d'.data.toList)).size) (cmpL (bs (trimL d.data.toList)).data.toList (bs (trimL d'.data.toList)).data.toList) by
          unfold cmpNums; rw [if_neg (by simp [hd, hd']), bs_size, bs_size, bs_list, bs_list])
        clear emp nem hd hd'
        go_wp2_with fail
        have k1 : (((w.alloc (Obj.cells #[Value.string p, Value.string d] 107)).alloc (Obj.cells #[Value.string p', Value.string d'] 107)).drewN n).cell? ⟨w.heap.size, 0, none⟩ = some (.string p) := by simp
        have k2 : (((w.alloc (Obj.cells #[Value.string p, Value.string d] 107)).alloc (Obj.cells #[Value.string p', Value.string d'] 107)).drewN n).cell? ⟨w.heap.size, 1, none⟩ = some (.string d) := by simp
        have k3 : (((w.alloc (Obj.cells #[Value.string p, Value.string d] 107)).alloc (Obj.cells #[Value.string p', Value.string d'] 107)).drewN n).cell? ⟨w.heap.size + 1, 0, none⟩ = some (.string p') := by simp
        have k4 : (((w.alloc (Obj.cells #[Value.string p, Value.string d] 107)).alloc (Obj.cells #[Value.string p', Value.string d'] 107)).drewN n).cell? ⟨w.heap.size + 1, 1, none⟩ = some (.string d') := by simp
        generalize ((w.alloc (Obj.cells #[Value.string p, Value.string d] 107)).alloc (Obj.cells #[Value.string p', Value.string d'] 107)).drewN n = W0 at *
        have j1 := cell_regrown k1
        have j2 := cell_regrown k2
        have j3 := cell_regrown k3
        have j4 := cell_regrown k4
        clear k1 k2 k3 k4
        have cP : ∀ dd os, Calls Tryz.prog 95 #[.agg #[.string p, .string d]] (grow (redrawn W0 dd) os) fun e w'' => e = .returned (.string (bs (trimL d.data.toList))) ∧ ∃ r : Regrown, w'' = grow (redrawn W0 r.d) r.os := fun dd os => Calls.regrown_of (pairNumber_ok p d _)
        have cQ : ∀ dd os, Calls Tryz.prog 95 #[.agg #[.string p', .string d']] (grow (redrawn W0 dd) os) fun e w'' => e = .returned (.string (bs (trimL d'.data.toList))) ∧ ∃ r : Regrown, w'' = grow (redrawn W0 r.d) r.os := fun dd os => Calls.regrown_of (pairNumber_ok p' d' _)
        refine wp_region_quiet_below (by kernel_rfl) (by kernel_rfl) ?_
        repeat (quiet_step (first | exact cP _ _ | exact cQ _ _))
        refine wpQuiet_nil ?_
        intro _ hw'
        obtain ⟨⟨dq, osq⟩, hw''⟩ := hw'
        subst hw''
        clear cP cQ j1 j2 j3 j4
        have HB2 := Lib.hid (HB.out.trans ((below_regrown W0 dq osq).mono HB.out.size))
        generalize grow (redrawn W0 dq) osq = W1 at *
        generalize bs (trimL d.data.toList) = X at *
        generalize bs (trimL d'.data.toList) = Y at *
        by_cases hsz : X.size = Y.size
        · have t1 : ((X.size : Int) != (Y.size : Int)) = false := by rw [hsz]; simp
          have E2 := Lib.hid (show cmpI (X.size : Int) Y.size = 0 by rw [hsz]; exact cmpI_is.refl _)
          clear hsz
          go_wp2_with fail
          refine (strCompare_ok _ _ _).mono ?_
          rintro e w1 ⟨rfl, rfl⟩
          go_wp2_with fail
          go_ret
          exact ⟨by rw [← HC.out, E.out, thenC_zero, E2.out, thenC_zero]; rfl, HB2.out⟩
        · have t1 : ((X.size : Int) != (Y.size : Int)) = true := by rw [bne_iff_ne]; omega
          have E2 := Lib.hid (show cmpI (X.size : Int) Y.size ≠ 0 from fun h => hsz (by have := cmpI_zero h; omega))
          clear hsz
          go_wp2_with fail
          refine (cmpInt_ok _ _ _).mono ?_
          rintro e w1 ⟨rfl, rfl⟩
          go_wp2_with fail
          go_ret
          exact ⟨by rw [← HC.out, E.out, thenC_zero, thenC_ne E2.out]; rfl, HB2.out⟩
  · have t1 : (c != 0) = true := by rw [bne_iff_ne]; exact hz
    have HZ := Lib.hid hz
    clear hz
    go_wp2_with fail
    go_ret
    refine ⟨?_, ?_⟩
    · rw [← HC.out, thenC_ne HZ.out]; rfl
    · exact ((Below.refl _ _).alloc (Nat.le_refl _) _).alloc (by simp) _ |>.trans ((below_drewN _ _).mono (by simp; omega))

theorem bcell {W w1 : World} {B : Nat} (hb : RowKit.Below B W w1) : (∀ b o, b < B → w1.cell? ⟨b, o, none⟩ = W.cell? ⟨b, o, none⟩) ∧ (∀ b o, b < B → w1.frozen? ⟨b, o, none⟩ = W.frozen? ⟨b, o, none⟩) :=
  ⟨fun b o h => hb.cell (p := ⟨b, o, none⟩) h, fun b o h => hb.frozen (p := ⟨b, o, none⟩) h⟩
def verLen : Value → Value → Nat
  | .string a, .string b => a.size + b.size
  | _, _ => 0
def VerRel (w : World) (l m : List UInt8) (a b : Value) (wr : World) : Prop :=
  ∃ s t : ByteArray, a = .string s ∧ b = .string t ∧ s.size ≤ 1125899906842624 ∧ t.size ≤ 1125899906842624 ∧ cmpVer s.data.toList t.data.toList = cmpVer l m ∧ Below w.heap.size w wr

theorem plainOf_le (l : List UInt8) : (plainOf l).length ≤ l.length := (List.takeWhile_sublist _).length_le
theorem restOf_le (l : List UInt8) : (restOf l).length ≤ l.length := by
  unfold restOf
  exact Nat.le_trans (List.dropWhile_sublist _).length_le (List.dropWhile_sublist _).length_le

set_option maxRecDepth 100000 in
set_option maxHeartbeats 1600000 in
theorem compareVersions_ok (s t : ByteArray) (w : World) (hs : s.size ≤ 1125899906842624) (ht : t.size ≤ 1125899906842624) (T : Tabs w) :
    Calls Tryz.prog 105 #[.string s, .string t] w (RetBelow w (.int .i64 (cmpVer s.data.toList t.data.toList))) := by
  have HT := Lib.hid T
  clear T
  go_enter Tryz.func105, Tryz.ntmps105
  go_wp2_with fail
  go_loopw [0, 1] (fun a b wr => VerRel w s.data.toList t.data.toList a b wr) (fun a b _ => verLen a b)
  case atStart => exact ⟨s, t, rfl, rfl, hs, ht, rfl, Below.refl _ _⟩
  case round =>
    obtain ⟨x, y, rfl, rfl, hx, hy, he, hb⟩ := hrel
    have HE := Lib.hid he
    have HB := Lib.hid hb
    clear he hb
    have emp : ∀ x : ByteArray, x.data.toList = [] → x.toList = [] ∧ x.toList.isEmpty = true := fun x h => by rw [Lib.toList_data, h]; exact ⟨rfl, rfl⟩
    have nem : ∀ x : ByteArray, ¬ x.data.toList = [] → ¬ x.toList = [] ∧ x.toList.isEmpty = false := fun x h => by rw [Lib.toList_data]; exact ⟨h, by cases hx : x.data.toList <;> simp_all⟩
    by_cases hxe : x.data.toList = []
    · by_cases hye : y.data.toList = []
      · obtain ⟨x1, x2⟩ := emp x hxe
        obtain ⟨y1, y2⟩ := emp y hye
        have E := Lib.hid (show cmpVer x.data.toList y.data.toList = 0 by rw [hxe, hye]; rfl)
        clear emp nem hxe hye
        go_wp2_with fail
        go_ret
        exact ⟨by rw [← HE.out, E.out]; rfl, HB.out⟩
      · obtain ⟨x1, x2⟩ := emp x hxe
        obtain ⟨y1, y2⟩ := nem y hye
        have E := Lib.hid (cmpVer_step x.data.toList y.data.toList (Or.inr hye))
        clear emp nem hxe hye
        go_wp2_with fail
        refine (cutPair_ok x _ hx).mono ?_
        rintro e w1 ⟨rfl, hb1⟩
        have c1 : w1.cell? ⟨wr.heap.size, 0, none⟩ = some (.string ⟨#[]⟩) := by rw [(bcell hb1).1 _ _ (by simp; omega)]; simp
        have c2 : w1.cell? ⟨wr.heap.size, 1, none⟩ = some (.string ⟨#[]⟩) := by rw [(bcell hb1).1 _ _ (by simp; omega)]; simp
        have f1 : w1.frozen? ⟨wr.heap.size, 0, none⟩ = false := by rw [(bcell hb1).2 _ _ (by simp; omega)]; simp
        have f2 : w1.frozen? ⟨wr.heap.size, 1, none⟩ = false := by rw [(bcell hb1).2 _ _ (by simp; omega)]; simp
        have c3 : w1.cell? ⟨wr.heap.size + 1, 0, none⟩ = some (.string ⟨#[]⟩) := by rw [(bcell hb1).1 _ _ (by simp)]; simp
        have c4 : w1.cell? ⟨wr.heap.size + 1, 1, none⟩ = some (.string ⟨#[]⟩) := by rw [(bcell hb1).1 _ _ (by simp)]; simp
        have f3 : w1.frozen? ⟨wr.heap.size + 1, 0, none⟩ = false := by rw [(bcell hb1).2 _ _ (by simp)]; simp
        have f4 : w1.frozen? ⟨wr.heap.size + 1, 1, none⟩ = false := by rw [(bcell hb1).2 _ _ (by simp)]; simp
        have z1 : wr.heap.size + 1 < w1.heap.size := by have := hb1.size; simp at this; omega
        have B1 := Lib.hid ((((Below.refl _ wr).alloc (Nat.le_refl _) (Obj.cells #[Value.string ⟨#[]⟩, Value.string ⟨#[]⟩] 107)).alloc (by simp) (Obj.cells #[Value.string ⟨#[]⟩, Value.string ⟨#[]⟩] 107)).trans (hb1.mono (by simp; omega)))
        clear hb1
        go_wp2_with fail
        have q1 := Lib.hid (bs_list (plainOf x.data.toList))
        have q2 := Lib.hid (bs_list (digsOf x.data.toList))
        have q3 := Lib.hid (bs_list (restOf x.data.toList))
        have p1 : (bs (plainOf x.data.toList)).size ≤ 1125899906842624 := by rw [bs_size]; have := plainOf_le x.data.toList; rw [← Lib.size_eq] at this; omega
        have p3 : (bs (restOf x.data.toList)).size ≤ x.size := by rw [bs_size]; have := restOf_le x.data.toList; rw [← Lib.size_eq] at this; omega
        have p4 := Lib.hid (show x.data.toList ≠ [] → (bs (restOf x.data.toList)).size < x.size from fun h => by rw [bs_size]; have := restOf_lt h; rw [← Lib.size_eq] at this; omega)
        generalize bs (plainOf x.data.toList) = P1 at *
        generalize bs (digsOf x.data.toList) = D1 at *
        generalize bs (restOf x.data.toList) = R1 at *
        have d1 : ((w1.setCell ⟨wr.heap.size, 0, none⟩ (.string P1)).setCell ⟨wr.heap.size, 1, none⟩ (.string D1)).cell? ⟨wr.heap.size, 0, none⟩ = some (.string P1) := by
          rw [World.cell?_setCell_other _ _ _ _ (by simp), World.cell?_setCell_same _ _ _ c1]
        have d2 : ((w1.setCell ⟨wr.heap.size, 0, none⟩ (.string P1)).setCell ⟨wr.heap.size, 1, none⟩ (.string D1)).cell? ⟨wr.heap.size, 1, none⟩ = some (.string D1) := by
          rw [World.cell?_setCell_same (u := .string ⟨#[]⟩) _ _ _ (by rw [World.cell?_setCell_other _ _ _ _ (by simp)]; exact c2)]
        have d3 : ((w1.setCell ⟨wr.heap.size, 0, none⟩ (.string P1)).setCell ⟨wr.heap.size, 1, none⟩ (.string D1)).cell? ⟨wr.heap.size + 1, 0, none⟩ = some (.string ⟨#[]⟩) := by
          rw [World.cell?_setCell_other _ _ _ _ (by simp), World.cell?_setCell_other _ _ _ _ (by simp)]; exact c3
        have d4 : ((w1.setCell ⟨wr.heap.size, 0, none⟩ (.string P1)).setCell ⟨wr.heap.size, 1, none⟩ (.string D1)).cell? ⟨wr.heap.size + 1, 1, none⟩ = some (.string ⟨#[]⟩) := by
          rw [World.cell?_setCell_other _ _ _ _ (by simp), World.cell?_setCell_other _ _ _ _ (by simp)]; exact c4
        have g3 : ((w1.setCell ⟨wr.heap.size, 0, none⟩ (.string P1)).setCell ⟨wr.heap.size, 1, none⟩ (.string D1)).frozen? ⟨wr.heap.size + 1, 0, none⟩ = false := by
          rw [World.frozen?_setCell, World.frozen?_setCell]; exact f3
        have g4 : ((w1.setCell ⟨wr.heap.size, 0, none⟩ (.string P1)).setCell ⟨wr.heap.size, 1, none⟩ (.string D1)).frozen? ⟨wr.heap.size + 1, 1, none⟩ = false := by
          rw [World.frozen?_setCell, World.frozen?_setCell]; exact f4
        have z2 : wr.heap.size + 1 < ((w1.setCell ⟨wr.heap.size, 0, none⟩ (.string P1)).setCell ⟨wr.heap.size, 1, none⟩ (.string D1)).heap.size := by simp; omega
        have B2 := Lib.hid ((B1.out.setCell (p := ⟨wr.heap.size, 0, none⟩) (Nat.le_refl _) (.string P1)).setCell (p := ⟨wr.heap.size, 1, none⟩) (Nat.le_refl _) (.string D1))
        clear c1 c2 c3 c4 f1 f2 f3 f4 z1 B1
        generalize (w1.setCell ⟨wr.heap.size, 0, none⟩ (.string P1)).setCell ⟨wr.heap.size, 1, none⟩ (.string D1) = w2 at *
        refine (cutPair_ok y _ hy).mono ?_
        rintro e w3 ⟨rfl, hb3⟩
        have c1 : w3.cell? ⟨wr.heap.size, 0, none⟩ = some (.string P1) := by rw [(bcell hb3).1 _ _ (by omega)]; exact d1
        have c2 : w3.cell? ⟨wr.heap.size, 1, none⟩ = some (.string D1) := by rw [(bcell hb3).1 _ _ (by omega)]; exact d2
        have c3 : w3.cell? ⟨wr.heap.size + 1, 0, none⟩ = some (.string ⟨#[]⟩) := by rw [(bcell hb3).1 _ _ (by omega)]; exact d3
        have c4 : w3.cell? ⟨wr.heap.size + 1, 1, none⟩ = some (.string ⟨#[]⟩) := by rw [(bcell hb3).1 _ _ (by omega)]; exact d4
        have f3 : w3.frozen? ⟨wr.heap.size + 1, 0, none⟩ = false := by rw [(bcell hb3).2 _ _ (by omega)]; exact g3
        have f4 : w3.frozen? ⟨wr.heap.size + 1, 1, none⟩ = false := by rw [(bcell hb3).2 _ _ (by omega)]; exact g4
        have B3 := Lib.hid (B2.out.trans (hb3.mono (by omega)))
        clear d1 d2 d3 d4 g3 g4 z2 B2 hb3
        have r1 := Lib.hid (bs_list (plainOf y.data.toList))
        have r2 := Lib.hid (bs_list (digsOf y.data.toList))
        have r3 := Lib.hid (bs_list (restOf y.data.toList))
        have u1 : (bs (plainOf y.data.toList)).size ≤ 1125899906842624 := by rw [bs_size]; have := plainOf_le y.data.toList; rw [← Lib.size_eq] at this; omega
        have u3 : (bs (restOf y.data.toList)).size ≤ y.size := by rw [bs_size]; have := restOf_le y.data.toList; rw [← Lib.size_eq] at this; omega
        have u4 := Lib.hid (show y.data.toList ≠ [] → (bs (restOf y.data.toList)).size < y.size from fun h => by rw [bs_size]; have := restOf_lt h; rw [← Lib.size_eq] at this; omega)
        generalize bs (plainOf y.data.toList) = P2 at *
        generalize bs (digsOf y.data.toList) = D2 at *
        generalize bs (restOf y.data.toList) = R2 at *
        go_wp2_with fail
        have B4 := Lib.hid ((B3.out.setCell (p := ⟨wr.heap.size + 1, 0, none⟩) (by simp) (.string P2)).setCell (p := ⟨wr.heap.size + 1, 1, none⟩) (by simp) (.string D2))
        clear c1 c2 c3 c4 f3 f4 B3
        generalize (w3.setCell ⟨wr.heap.size + 1, 0, none⟩ (.string P2)).setCell ⟨wr.heap.size + 1, 1, none⟩ (.string D2) = w4 at *
        have B5 := Lib.hid (HB.out.trans (B4.out.mono HB.out.size))
        refine (pairCompare_ok P1 D1 P2 D2 _ p1 u1 (HT.out.below B5.out)).mono ?_
        rintro e w5 ⟨rfl, hb5⟩
        have B6 := Lib.hid (B5.out.trans (hb5.mono B5.out.size))
        clear hb5 B4 B5
        obtain ⟨c, hc⟩ : ∃ c, c = thenC (cmpPlain P1.data.toList P2.data.toList) (cmpNums D1.data.toList D2.data.toList) := ⟨_, rfl⟩
        rw [← hc]
        have HC := Lib.hid (show cmpVer s.data.toList t.data.toList = thenC c (cmpVer R1.data.toList R2.data.toList) by
          rw [← HE.out, E.out, hc, q1.out, q2.out, q3.out, r1.out, r2.out, r3.out]; rfl)
        clear hc
        by_cases hz : c = 0
        · subst hz
          go_wp2_with fail
          go_roundw
          case rel => exact ⟨R1, R2, rfl, rfl, by omega, by omega, by rw [HC.out, thenC_zero], B6.out⟩
          case measure => show R1.size + R2.size < x.size + y.size; have := u4.out (by rw [← Lib.toList_data]; exact y1); omega
        · have t1 : (c != 0) = true := by rw [bne_iff_ne]; exact hz
          have HZ := Lib.hid hz
          clear hz
          go_wp2_with fail
          go_ret
          exact ⟨by rw [HC.out, thenC_ne HZ.out]; rfl, B6.out⟩
    · obtain ⟨x1, x2⟩ := nem x hxe
      have E := Lib.hid (cmpVer_step x.data.toList y.data.toList (Or.inl hxe))
      clear emp nem hxe
      go_wp2_with fail
      refine (cutPair_ok x _ hx).mono ?_
      rintro e w1 ⟨rfl, hb1⟩
      have c1 : w1.cell? ⟨wr.heap.size, 0, none⟩ = some (.string ⟨#[]⟩) := by rw [(bcell hb1).1 _ _ (by simp; omega)]; simp
      have c2 : w1.cell? ⟨wr.heap.size, 1, none⟩ = some (.string ⟨#[]⟩) := by rw [(bcell hb1).1 _ _ (by simp; omega)]; simp
      have f1 : w1.frozen? ⟨wr.heap.size, 0, none⟩ = false := by rw [(bcell hb1).2 _ _ (by simp; omega)]; simp
      have f2 : w1.frozen? ⟨wr.heap.size, 1, none⟩ = false := by rw [(bcell hb1).2 _ _ (by simp; omega)]; simp
      have c3 : w1.cell? ⟨wr.heap.size + 1, 0, none⟩ = some (.string ⟨#[]⟩) := by rw [(bcell hb1).1 _ _ (by simp)]; simp
      have c4 : w1.cell? ⟨wr.heap.size + 1, 1, none⟩ = some (.string ⟨#[]⟩) := by rw [(bcell hb1).1 _ _ (by simp)]; simp
      have f3 : w1.frozen? ⟨wr.heap.size + 1, 0, none⟩ = false := by rw [(bcell hb1).2 _ _ (by simp)]; simp
      have f4 : w1.frozen? ⟨wr.heap.size + 1, 1, none⟩ = false := by rw [(bcell hb1).2 _ _ (by simp)]; simp
      have z1 : wr.heap.size + 1 < w1.heap.size := by have := hb1.size; simp at this; omega
      have B1 := Lib.hid ((((Below.refl _ wr).alloc (Nat.le_refl _) (Obj.cells #[Value.string ⟨#[]⟩, Value.string ⟨#[]⟩] 107)).alloc (by simp) (Obj.cells #[Value.string ⟨#[]⟩, Value.string ⟨#[]⟩] 107)).trans (hb1.mono (by simp; omega)))
      clear hb1
      go_wp2_with fail
      have q1 := Lib.hid (bs_list (plainOf x.data.toList))
      have q2 := Lib.hid (bs_list (digsOf x.data.toList))
      have q3 := Lib.hid (bs_list (restOf x.data.toList))
      have p1 : (bs (plainOf x.data.toList)).size ≤ 1125899906842624 := by rw [bs_size]; have := plainOf_le x.data.toList; rw [← Lib.size_eq] at this; omega
      have p3 : (bs (restOf x.data.toList)).size ≤ x.size := by rw [bs_size]; have := restOf_le x.data.toList; rw [← Lib.size_eq] at this; omega
      have p4 := Lib.hid (show x.data.toList ≠ [] → (bs (restOf x.data.toList)).size < x.size from fun h => by rw [bs_size]; have := restOf_lt h; rw [← Lib.size_eq] at this; omega)
      generalize bs (plainOf x.data.toList) = P1 at *
      generalize bs (digsOf x.data.toList) = D1 at *
      generalize bs (restOf x.data.toList) = R1 at *
      have d1 : ((w1.setCell ⟨wr.heap.size, 0, none⟩ (.string P1)).setCell ⟨wr.heap.size, 1, none⟩ (.string D1)).cell? ⟨wr.heap.size, 0, none⟩ = some (.string P1) := by
        rw [World.cell?_setCell_other _ _ _ _ (by simp), World.cell?_setCell_same _ _ _ c1]
      have d2 : ((w1.setCell ⟨wr.heap.size, 0, none⟩ (.string P1)).setCell ⟨wr.heap.size, 1, none⟩ (.string D1)).cell? ⟨wr.heap.size, 1, none⟩ = some (.string D1) := by
        rw [World.cell?_setCell_same (u := .string ⟨#[]⟩) _ _ _ (by rw [World.cell?_setCell_other _ _ _ _ (by simp)]; exact c2)]
      have d3 : ((w1.setCell ⟨wr.heap.size, 0, none⟩ (.string P1)).setCell ⟨wr.heap.size, 1, none⟩ (.string D1)).cell? ⟨wr.heap.size + 1, 0, none⟩ = some (.string ⟨#[]⟩) := by
        rw [World.cell?_setCell_other _ _ _ _ (by simp), World.cell?_setCell_other _ _ _ _ (by simp)]; exact c3
      have d4 : ((w1.setCell ⟨wr.heap.size, 0, none⟩ (.string P1)).setCell ⟨wr.heap.size, 1, none⟩ (.string D1)).cell? ⟨wr.heap.size + 1, 1, none⟩ = some (.string ⟨#[]⟩) := by
        rw [World.cell?_setCell_other _ _ _ _ (by simp), World.cell?_setCell_other _ _ _ _ (by simp)]; exact c4
      have g3 : ((w1.setCell ⟨wr.heap.size, 0, none⟩ (.string P1)).setCell ⟨wr.heap.size, 1, none⟩ (.string D1)).frozen? ⟨wr.heap.size + 1, 0, none⟩ = false := by
        rw [World.frozen?_setCell, World.frozen?_setCell]; exact f3
      have g4 : ((w1.setCell ⟨wr.heap.size, 0, none⟩ (.string P1)).setCell ⟨wr.heap.size, 1, none⟩ (.string D1)).frozen? ⟨wr.heap.size + 1, 1, none⟩ = false := by
        rw [World.frozen?_setCell, World.frozen?_setCell]; exact f4
      have z2 : wr.heap.size + 1 < ((w1.setCell ⟨wr.heap.size, 0, none⟩ (.string P1)).setCell ⟨wr.heap.size, 1, none⟩ (.string D1)).heap.size := by simp; omega
      have B2 := Lib.hid ((B1.out.setCell (p := ⟨wr.heap.size, 0, none⟩) (Nat.le_refl _) (.string P1)).setCell (p := ⟨wr.heap.size, 1, none⟩) (Nat.le_refl _) (.string D1))
      clear c1 c2 c3 c4 f1 f2 f3 f4 z1 B1
      generalize (w1.setCell ⟨wr.heap.size, 0, none⟩ (.string P1)).setCell ⟨wr.heap.size, 1, none⟩ (.string D1) = w2 at *
      refine (cutPair_ok y _ hy).mono ?_
      rintro e w3 ⟨rfl, hb3⟩
      have c1 : w3.cell? ⟨wr.heap.size, 0, none⟩ = some (.string P1) := by rw [(bcell hb3).1 _ _ (by omega)]; exact d1
      have c2 : w3.cell? ⟨wr.heap.size, 1, none⟩ = some (.string D1) := by rw [(bcell hb3).1 _ _ (by omega)]; exact d2
      have c3 : w3.cell? ⟨wr.heap.size + 1, 0, none⟩ = some (.string ⟨#[]⟩) := by rw [(bcell hb3).1 _ _ (by omega)]; exact d3
      have c4 : w3.cell? ⟨wr.heap.size + 1, 1, none⟩ = some (.string ⟨#[]⟩) := by rw [(bcell hb3).1 _ _ (by omega)]; exact d4
      have f3 : w3.frozen? ⟨wr.heap.size + 1, 0, none⟩ = false := by rw [(bcell hb3).2 _ _ (by omega)]; exact g3
      have f4 : w3.frozen? ⟨wr.heap.size + 1, 1, none⟩ = false := by rw [(bcell hb3).2 _ _ (by omega)]; exact g4
      have B3 := Lib.hid (B2.out.trans (hb3.mono (by omega)))
      clear d1 d2 d3 d4 g3 g4 z2 B2 hb3
      have r1 := Lib.hid (bs_list (plainOf y.data.toList))
      have r2 := Lib.hid (bs_list (digsOf y.data.toList))
      have r3 := Lib.hid (bs_list (restOf y.data.toList))
      have u1 : (bs (plainOf y.data.toList)).size ≤ 1125899906842624 := by rw [bs_size]; have := plainOf_le y.data.toList; rw [← Lib.size_eq] at this; omega
      have u3 : (bs (restOf y.data.toList)).size ≤ y.size := by rw [bs_size]; have := restOf_le y.data.toList; rw [← Lib.size_eq] at this; omega
      have u4 := Lib.hid (show y.data.toList ≠ [] → (bs (restOf y.data.toList)).size < y.size from fun h => by rw [bs_size]; have := restOf_lt h; rw [← Lib.size_eq] at this; omega)
      generalize bs (plainOf y.data.toList) = P2 at *
      generalize bs (digsOf y.data.toList) = D2 at *
      generalize bs (restOf y.data.toList) = R2 at *
      go_wp2_with fail
      have B4 := Lib.hid ((B3.out.setCell (p := ⟨wr.heap.size + 1, 0, none⟩) (by simp) (.string P2)).setCell (p := ⟨wr.heap.size + 1, 1, none⟩) (by simp) (.string D2))
      clear c1 c2 c3 c4 f3 f4 B3
      generalize (w3.setCell ⟨wr.heap.size + 1, 0, none⟩ (.string P2)).setCell ⟨wr.heap.size + 1, 1, none⟩ (.string D2) = w4 at *
      have B5 := Lib.hid (HB.out.trans (B4.out.mono HB.out.size))
      refine (pairCompare_ok P1 D1 P2 D2 _ p1 u1 (HT.out.below B5.out)).mono ?_
      rintro e w5 ⟨rfl, hb5⟩
      have B6 := Lib.hid (B5.out.trans (hb5.mono B5.out.size))
      clear hb5 B4 B5
      obtain ⟨c, hc⟩ : ∃ c, c = thenC (cmpPlain P1.data.toList P2.data.toList) (cmpNums D1.data.toList D2.data.toList) := ⟨_, rfl⟩
      rw [← hc]
      have HC := Lib.hid (show cmpVer s.data.toList t.data.toList = thenC c (cmpVer R1.data.toList R2.data.toList) by
        rw [← HE.out, E.out, hc, q1.out, q2.out, q3.out, r1.out, r2.out, r3.out]; rfl)
      clear hc
      by_cases hz : c = 0
      · subst hz
        go_wp2_with fail
        go_roundw
        case rel => exact ⟨R1, R2, rfl, rfl, by omega, by omega, by rw [HC.out, thenC_zero], B6.out⟩
        case measure => show R1.size + R2.size < x.size + y.size; have := p4.out (by rw [← Lib.toList_data]; exact x1); omega
      · have t1 : (c != 0) = true := by rw [bne_iff_ne]; exact hz
        have HZ := Lib.hid hz
        clear hz
        go_wp2_with fail
        go_ret
        exact ⟨by rw [HC.out, thenC_ne HZ.out]; rfl, B6.out⟩
end
end
section
section
open Go

/-- As Q; by a goto to label l: J l. -/
def jumps (J : Nat → Act → World → Prop) (Q : Exit → Act → World → Prop) : Exit → Act → World → Prop
  | .goto l', a, w => J l' a w
  | e, a, w => Q e a w

theorem wp_scope_labels {P : Program} {a : Act} {w : World} {Q : Exit → Act → World → Prop} {c : Code} (J : Nat → Act → World → Prop) (μ : Nat → Act → World → Nat)
    (first : c.wp P (jumps J Q) a w)
    (pass : ∀ l a w, J l a w → ∃ rest, findLabel c l = some rest ∧ rest.wp P (jumps (fun l' a' w' => J l' a' w' ∧ μ l' a' w' < μ l a w) Q) a w) : (Code.scope c).wp P Q a w := by
  intro b k cs
  have key : ∀ n l a w, μ l a w = n → J l a w → ∃ rest, findLabel c l = some rest ∧ ∃ e a' w', Q e a' w' ∧ Arrives P (lone (b.at a (.code rest :: .inScope c :: k)) cs w) b k cs e a' w' := by
    intro n
    induction n using Nat.strongRecOn with
    | _ n ih =>
      intro l a w hn hJ
      obtain ⟨rest, hf, hp⟩ := pass l a w hJ
      refine ⟨rest, hf, ?_⟩
      obtain ⟨e, a₁, w₁, hq, harr⟩ := hp b (.inScope c :: k) cs
      cases e with
      | normal => exact ⟨.normal, a₁, w₁, hq, Steps.trans harr (.one step_inScope)⟩
      | exit id => exact ⟨.exit id, a₁, w₁, hq, fun k' hk => harr k' (by simp [exitTo, hk])⟩
      | goto l' =>
        obtain ⟨hJ', hlt⟩ := hq
        obtain ⟨rest', hf', e₂, a₂, w₂, hq₂, harr₂⟩ := ih _ (by omega) l' a₁ w₁ rfl hJ'
        have hg : gotoIn l' (.inScope c :: k) = some (.code rest' :: .inScope c :: k) := by simp [gotoIn, hf']
        exact ⟨e₂, a₂, w₂, hq₂, .of_steps (harr _ hg) harr₂⟩
      | ret => exact ⟨_, a₁, w₁, hq, harr⟩
      | panic ch => exact ⟨_, a₁, w₁, hq, harr⟩
      | outgrown => exact ⟨_, a₁, w₁, hq, harr⟩
  obtain ⟨e, a₁, w₁, hq, harr⟩ := first b (.inScope c :: k) cs
  cases e with
  | normal => exact ⟨.normal, a₁, w₁, hq, .head step_scope (Steps.trans harr (.one step_inScope))⟩
  | exit id => exact ⟨.exit id, a₁, w₁, hq, fun k' hk => .head step_scope (harr k' (by simp [exitTo, hk]))⟩
  | goto l' =>
    obtain ⟨rest', hf', e₂, a₂, w₂, hq₂, harr₂⟩ := key _ l' a₁ w₁ rfl hq
    have hg : gotoIn l' (.inScope c :: k) = some (.code rest' :: .inScope c :: k) := by simp [gotoIn, hf']
    exact ⟨e₂, a₂, w₂, hq₂, .of_steps (.head step_scope (harr _ hg)) harr₂⟩
  | ret => exact ⟨_, a₁, w₁, hq, .of_steps (.one step_scope) harr⟩
  | panic ch => exact ⟨_, a₁, w₁, hq, .of_steps (.one step_scope) harr⟩
  | outgrown => exact ⟨_, a₁, w₁, hq, .of_steps (.one step_scope) harr⟩
end
section
open Go.RowKit

def expL (s : ByteArray) (b : Nat) : List UInt8 := s.data.toList.drop b
/-- What stands behind the sign. -/
def expR (s : ByteArray) (b : Nat) : List UInt8 := (expL s b).drop (1 + expSg (expL s b))
def expD (s : ByteArray) (b : Nat) : List UInt8 := (expR s b).takeWhile isDig
def expNeg (s : ByteArray) (b : Nat) : Bool := atB (expL s b) 1 == 45

theorem satS_snoc : ∀ (l : List UInt8) (e : Nat) (c : UInt8), satS e (l ++ [c]) = min (10 * satS e l + (c.toNat - 48)) 1099511627776
  | [], _, _ => rfl
  | _ :: l, _, c => satS_snoc l _ c
theorem satS_le : ∀ (l : List UInt8) (e : Nat), e ≤ 1099511627776 → satS e l ≤ 1099511627776
  | [], _, h => h
  | _ :: l, _, _ => satS_le l _ (Nat.min_le_right _ _)
theorem take_run {p : UInt8 → Bool} {l : List UInt8} {k : Nat} (h : k < (l.takeWhile p).length) : (l.takeWhile p).take (k + 1) = (l.takeWhile p).take k ++ [atB l k] ∧ p (atB l k) = true := by
  have e1 : (l.takeWhile p)[k] = atB l k := by
    have hp : l.takeWhile p <+: l := List.takeWhile_prefix p
    obtain ⟨t, ht⟩ := hp
    have : l[k]? = some (l.takeWhile p)[k] := by
      conv => lhs; rw [← ht]
      rw [List.getElem?_append_left h, List.getElem?_eq_getElem h]
    unfold atB
    rw [List.getD_eq_getElem?_getD, this]; rfl
  refine ⟨by rw [List.take_succ_eq_append_getElem h, e1], ?_⟩
  rw [← e1]
  exact mem_takeWhile (List.getElem_mem h)
theorem spanN_stop (p : UInt8 → Bool) : ∀ (l : List UInt8), p 0 = false → p (atB l (l.takeWhile p).length) = false
  | [], h => h
  | x :: r, h => by
    by_cases e : p x = true
    · have := spanN_stop p r h
      simpa [List.takeWhile, e, atB] using this
    · simp [List.takeWhile, e, atB]
theorem expD_len (s : ByteArray) (b k : Nat) (h : k < (expD s b).length) : b + 1 + expSg (expL s b) + k < s.size := by
  have h1 := (List.takeWhile_sublist (l := expR s b) isDig).length_le
  have h2 : (expR s b).length = s.size - b - (1 + expSg (expL s b)) := by unfold expR expL; rw [List.length_drop, List.length_drop, ← Lib.size_eq]
  unfold expD at h
  omega
theorem expR_at (s : ByteArray) (b k : Nat) : atB s.data.toList (b + 1 + expSg (expL s b) + k) = atB (expR s b) k := by
  unfold expR expL
  rw [drop_atB, drop_atB]
  congr 1; omega

def ExJ (s : ByteArray) (b : Nat) (w0 : World) (l : Nat) (a : Act) (w : World) : Prop :=
  (l = 0 ∧ w = w0 ∧ ∃ (e t : Int) (u2 u3 u4 u5 u8 u9 u10 u11 u12 u13 u14 u15 u16 u17 u18 u19 u20 u21 u22 u23 u24 u25 u26 u27 u28 u29 u30 u31 u32 u33 u34 u35 u36 u37 u38 u39 u40 u41 u42 u43 u44 u45 u46 u47 u48 u49 u50 u51 u52 u53 u54 : Value), a = { tmps := #[.string s, .int .i64 (b : Nat), u2, u3, u4, u5, .int .i64 e, .int .i64 t, u8, u9, u10, u11, u12, u13, u14, u15, u16, u17, u18, u19, u20, u21, u22, u23, u24, u25, u26, u27, u28, u29, u30, u31, u32, u33, u34, u35, u36, u37, u38, u39, u40, u41, u42, u43, u44, u45, u46, u47, u48, u49, u50, u51, u52, u53, u54], defers := [] } ∧ e = (expS (expL s b)).1 ∧ t = b + (expS (expL s b)).2) ∨
  (l = 1 ∧ w = w0 ∧ (atB (expL s b) 0 = 101 ∨ atB (expL s b) 0 = 69) ∧ ∃ (k : Nat) (e i : Int) (ng : Bool) (u2 u3 u4 u5 u10 u11 u12 u13 u14 u15 u16 u17 u18 u19 u20 u21 u22 u23 u24 u25 u26 u27 u28 u29 u30 u31 u32 u33 u34 u35 u36 u37 u38 u39 u40 u41 u42 u43 u44 u45 u46 u47 u48 u49 u50 u51 u52 u53 u54 : Value), a = { tmps := #[.string s, .int .i64 (b : Nat), u2, u3, u4, u5, .int .i64 e, .int .i64 i, .bool ng, .int .i64 i, u10, u11, u12, u13, u14, u15, u16, u17, u18, u19, u20, u21, u22, u23, u24, u25, u26, u27, u28, u29, u30, u31, u32, u33, u34, u35, u36, u37, u38, u39, u40, u41, u42, u43, u44, u45, u46, u47, u48, u49, u50, u51, u52, u53, u54], defers := [] } ∧ ng = expNeg s b ∧ 1 ≤ k ∧ k ≤ (expD s b).length ∧ e = satS 0 ((expD s b).take k) ∧ i = b + 1 + expSg (expL s b) + k)
def ExM (s : ByteArray) (l : Nat) (a : Act) (_ : World) : Nat := if l = 0 then 0 else s.size + 1 - (intOf (a.tmps.getD 9 undef)).toNat

def RetSame (w : World) (v : Value) (e : Ending) (w' : World) : Prop := e = .returned v ∧ w = w'
theorem RetSame.mk {w : World} {v v' : Value} (h : v = v') : RetSame w v' (.returned v) w := ⟨by rw [h], rfl⟩
theorem pair_eq {a b c d : Int} (h1 : a = c) (h2 : b = d) : Value.tuple #[.int .i64 a, .int .i64 b] = .tuple #[.int .i64 c, .int .i64 d] := by rw [h1, h2]

/-- What the exponent is, where there are k digits in all. -/
theorem expS_of (s : ByteArray) (b : Nat) (h : atB (expL s b) 0 = 101 ∨ atB (expL s b) 0 = 69) :
    ((expD s b).length = 0 → expS (expL s b) = (0, 0)) ∧ ((expD s b).length ≠ 0 → (expS (expL s b)).1 = (if expNeg s b then - (satS 0 (expD s b) : Int) else satS 0 (expD s b)) ∧ (expS (expL s b)).2 = 1 + expSg (expL s b) + (expD s b).length) := by
  have e0 : (atB (expL s b) 0 == 101 || atB (expL s b) 0 == 69) = true := by simpa using h
  have e1 : spanN isDig ((expL s b).drop (1 + expSg (expL s b))) = (expD s b).length := rfl
  constructor
  · intro hz
    unfold expS
    rw [if_pos e0, e1, if_pos hz]
  · intro hz
    unfold expS
    rw [if_pos e0, e1, if_neg hz]
    exact ⟨rfl, rfl⟩

set_option maxRecDepth 100000 in
set_option maxHeartbeats 3200000 in
theorem exponent_ok (s : ByteArray) (b : Nat) (w : World) (hs : s.size ≤ 1125899906842624) (hb : b ≤ s.size) :
    Calls Tryz.prog 88 #[.string s, .int .i64 b] w (RetSame w (.tuple #[.int .i64 (expS (expL s b)).1, .int .i64 (b + (expS (expL s b)).2 : Int)])) := by
  have a0 := Lib.hid (show atB s.data.toList b = atB (expL s b) 0 by unfold expL; rw [drop_atB]; rfl)
  have a1 := Lib.hid (show atB s.data.toList (b + 1) = atB (expL s b) 1 by unfold expL; rw [drop_atB])
  go_enter Tryz.func88, Tryz.ntmps88
  go_wp2_with fail
  refine wp_scope_labels (ExJ s b w) (ExM s) ?_ ?_
  · by_cases hc : atB (expL s b) 0 = 101 ∨ atB (expL s b) 0 = 69
    · have HC := Lib.hid hc
      have byte_lit : ∀ (x : UInt8) (n : Nat), n < 256 → ((x.toNat : Int) == (n : Int)) = (x == UInt8.ofNat n) := fun x n hn => by
        rw [Bool.eq_iff_iff, beq_iff_eq, beq_iff_eq, ← UInt8.toNat_inj]
        have : (UInt8.ofNat n).toNat = n := by simp; omega
        rw [this]; omega
      have tc : (((atB (expL s b) 0).toNat : Int) != 101) = false ∨ ((((atB (expL s b) 0).toNat : Int) != 101) = true ∧ (((atB (expL s b) 0).toNat : Int) != 69) = false) := by
        rcases hc with h | h
        · left; rw [h]; rfl
        · right; rw [h]; exact ⟨rfl, rfl⟩
      clear hc
      cases h45 : (atB (expL s b) 1 == 45) with
      | true =>
        rcases tc with t1 | ⟨t1, t2⟩
        · have HSG := Lib.hid (show expSg (expL s b) = 1 by unfold expSg; rw [h45]; rfl)
          have HNEG := Lib.hid (show expNeg s b = true by unfold expNeg; exact h45)
          have fb := Lib.hid (show atB s.data.toList (b + 1 + 1) = atB (expR s b) 0 by have := expR_at s b 0; rw [HSG.out] at this; exact this)
          have u45 : (((atB (expL s b) 1).toNat : Int) == 45) = true := by rw [← h45]; exact byte_lit _ 45 (by omega)
          have hlen := Lib.hid (expD_len s b 0)
          clear h45
          by_cases hk : 0 < (expD s b).length
          · obtain ⟨g1, g2⟩ := take_run (p := isDig) (l := expR s b) (k := 0) hk
            have hns : b + 1 + 1 < s.size := by have := hlen.out hk; rw [HSG.out] at this; omega
            have G1 := Lib.hid (show satS 0 ((expD s b).take 1) = min (10 * 0 + ((atB (expR s b) 0).toNat - 48)) 1099511627776 by
              rw [show satS 0 ((expD s b).take 1) = satS 0 ([] ++ [atB (expR s b) 0]) from congrArg (satS 0) g1, satS_snoc]; rfl)
            have G2 := Lib.hid g2
            have d1 : (48 : Int) ≤ ((atB (expR s b) 0).toNat : Int) ∧ ((atB (expR s b) 0).toNat : Int) ≤ 57 := by unfold isDig at g2; simp at g2; omega
            obtain ⟨d1, d2⟩ := d1
            clear g1 g2
            go_wp2_with (first | (go_at_call 85; refine (at_ok s _ _).mono ?_; rintro e w' ⟨rfl, rfl⟩; first | rw [a0.out] | rw [a1.out] | rw [fb.out]) | (go_at_call 87; refine (isDigit_ok _ _).mono ?_; rintro e w' ⟨rfl, rfl⟩; rw [G2.out]))
            go_step3
            go_wp2_with (first | (go_at_call 85; refine (at_ok s _ _).mono ?_; rintro e w' ⟨rfl, rfl⟩; first | rw [a0.out] | rw [a1.out] | rw [fb.out]) | (go_at_call 87; refine (isDigit_ok _ _).mono ?_; rintro e w' ⟨rfl, rfl⟩; rw [G2.out]))
            go_step3
            refine Or.inr ⟨rfl, rfl, HC.out, 1, _, _, _, _, _, _, _, _, _, _, _, _, _, _, _, _, _, _, _, _, _, _, _, _, _, _, _, _, _, _, _, _, _, _, _, _, _, _, _, _, _, _, _, _, _, _, _, _, _, _, _, _, rfl, HNEG.out.symm, by omega, by omega, ?_, ?_⟩
            · rw [G1.out]; omega
            · rw [HSG.out]; omega
          · have hz : (expD s b).length = 0 := by omega
            have hnd : isDig (atB (expR s b) 0) = false := by
              have := spanN_stop isDig (expR s b) rfl
              rw [show ((expR s b).takeWhile isDig).length = 0 from hz] at this; exact this
            have G2 := Lib.hid hnd
            have R := Lib.hid ((expS_of s b HC.out).1 hz)
            clear hnd hz hk
            go_wp2_with (first | (go_at_call 85; refine (at_ok s _ _).mono ?_; rintro e w' ⟨rfl, rfl⟩; first | rw [a0.out] | rw [a1.out] | rw [fb.out]) | (go_at_call 87; refine (isDigit_ok _ _).mono ?_; rintro e w' ⟨rfl, rfl⟩; rw [G2.out]))
            go_step3
            go_wp2_with (first | (go_at_call 85; refine (at_ok s _ _).mono ?_; rintro e w' ⟨rfl, rfl⟩; first | rw [a0.out] | rw [a1.out] | rw [fb.out]) | (go_at_call 87; refine (isDigit_ok _ _).mono ?_; rintro e w' ⟨rfl, rfl⟩; rw [G2.out]))
            go_step3
            go_wp2_with fail
            simp only [jumps]
            go_ret2
            refine RetSame.mk (pair_eq ?_ ?_)
            · rw [R.out]; try rfl
            · rw [R.out]; try simp
        · have HSG := Lib.hid (show expSg (expL s b) = 1 by unfold expSg; rw [h45]; rfl)
          have HNEG := Lib.hid (show expNeg s b = true by unfold expNeg; exact h45)
          have fb := Lib.hid (show atB s.data.toList (b + 1 + 1) = atB (expR s b) 0 by have := expR_at s b 0; rw [HSG.out] at this; exact this)
          have u45 : (((atB (expL s b) 1).toNat : Int) == 45) = true := by rw [← h45]; exact byte_lit _ 45 (by omega)
          have hlen := Lib.hid (expD_len s b 0)
          clear h45
          by_cases hk : 0 < (expD s b).length
          · obtain ⟨g1, g2⟩ := take_run (p := isDig) (l := expR s b) (k := 0) hk
            have hns : b + 1 + 1 < s.size := by have := hlen.out hk; rw [HSG.out] at this; omega
            have G1 := Lib.hid (show satS 0 ((expD s b).take 1) = min (10 * 0 + ((atB (expR s b) 0).toNat - 48)) 1099511627776 by
              rw [show satS 0 ((expD s b).take 1) = satS 0 ([] ++ [atB (expR s b) 0]) from congrArg (satS 0) g1, satS_snoc]; rfl)
            have G2 := Lib.hid g2
            have d1 : (48 : Int) ≤ ((atB (expR s b) 0).toNat : Int) ∧ ((atB (expR s b) 0).toNat : Int) ≤ 57 := by unfold isDig at g2; simp at g2; omega
            obtain ⟨d1, d2⟩ := d1
            clear g1 g2
            go_wp2_with (first | (go_at_call 85; refine (at_ok s _ _).mono ?_; rintro e w' ⟨rfl, rfl⟩; first | rw [a0.out] | rw [a1.out] | rw [fb.out]) | (go_at_call 87; refine (isDigit_ok _ _).mono ?_; rintro e w' ⟨rfl, rfl⟩; rw [G2.out]))
            go_step3
            go_wp2_with (first | (go_at_call 85; refine (at_ok s _ _).mono ?_; rintro e w' ⟨rfl, rfl⟩; first | rw [a0.out] | rw [a1.out] | rw [fb.out]) | (go_at_call 87; refine (isDigit_ok _ _).mono ?_; rintro e w' ⟨rfl, rfl⟩; rw [G2.out]))
            go_step3
            refine Or.inr ⟨rfl, rfl, HC.out, 1, _, _, _, _, _, _, _, _, _, _, _, _, _, _, _, _, _, _, _, _, _, _, _, _, _, _, _, _, _, _, _, _, _, _, _, _, _, _, _, _, _, _, _, _, _, _, _, _, _, _, _, _, rfl, HNEG.out.symm, by omega, by omega, ?_, ?_⟩
            · rw [G1.out]; omega
            · rw [HSG.out]; omega
          · have hz : (expD s b).length = 0 := by omega
            have hnd : isDig (atB (expR s b) 0) = false := by
              have := spanN_stop isDig (expR s b) rfl
              rw [show ((expR s b).takeWhile isDig).length = 0 from hz] at this; exact this
            have G2 := Lib.hid hnd
            have R := Lib.hid ((expS_of s b HC.out).1 hz)
            clear hnd hz hk
            go_wp2_with (first | (go_at_call 85; refine (at_ok s _ _).mono ?_; rintro e w' ⟨rfl, rfl⟩; first | rw [a0.out] | rw [a1.out] | rw [fb.out]) | (go_at_call 87; refine (isDigit_ok _ _).mono ?_; rintro e w' ⟨rfl, rfl⟩; rw [G2.out]))
            go_step3
            go_wp2_with (first | (go_at_call 85; refine (at_ok s _ _).mono ?_; rintro e w' ⟨rfl, rfl⟩; first | rw [a0.out] | rw [a1.out] | rw [fb.out]) | (go_at_call 87; refine (isDigit_ok _ _).mono ?_; rintro e w' ⟨rfl, rfl⟩; rw [G2.out]))
            go_step3
            go_wp2_with fail
            simp only [jumps]
            go_ret2
            refine RetSame.mk (pair_eq ?_ ?_)
            · rw [R.out]; try rfl
            · rw [R.out]; try simp
      | false =>
        cases h43 : (atB (expL s b) 1 == 43) with
        | true =>
          rcases tc with t1 | ⟨t1, t2⟩
          · have HSG := Lib.hid (show expSg (expL s b) = 1 by unfold expSg; rw [h45, h43]; rfl)
            have HNEG := Lib.hid (show expNeg s b = false by unfold expNeg; exact h45)
            have fb := Lib.hid (show atB s.data.toList (b + 1 + 1) = atB (expR s b) 0 by have := expR_at s b 0; rw [HSG.out] at this; exact this)
            have u45 : (((atB (expL s b) 1).toNat : Int) == 45) = false := by rw [← h45]; exact byte_lit _ 45 (by omega)
            have u43 : (((atB (expL s b) 1).toNat : Int) == 43) = true := by rw [← h43]; exact byte_lit _ 43 (by omega)
            have hlen := Lib.hid (expD_len s b 0)
            clear h45 h43
            by_cases hk : 0 < (expD s b).length
            · obtain ⟨g1, g2⟩ := take_run (p := isDig) (l := expR s b) (k := 0) hk
              have hns : b + 1 + 1 < s.size := by have := hlen.out hk; rw [HSG.out] at this; omega
              have G1 := Lib.hid (show satS 0 ((expD s b).take 1) = min (10 * 0 + ((atB (expR s b) 0).toNat - 48)) 1099511627776 by
                rw [show satS 0 ((expD s b).take 1) = satS 0 ([] ++ [atB (expR s b) 0]) from congrArg (satS 0) g1, satS_snoc]; rfl)
              have G2 := Lib.hid g2
              have d1 : (48 : Int) ≤ ((atB (expR s b) 0).toNat : Int) ∧ ((atB (expR s b) 0).toNat : Int) ≤ 57 := by unfold isDig at g2; simp at g2; omega
              obtain ⟨d1, d2⟩ := d1
              clear g1 g2
              go_wp2_with (first | (go_at_call 85; refine (at_ok s _ _).mono ?_; rintro e w' ⟨rfl, rfl⟩; first | rw [a0.out] | rw [a1.out] | rw [fb.out]) | (go_at_call 87; refine (isDigit_ok _ _).mono ?_; rintro e w' ⟨rfl, rfl⟩; rw [G2.out]))
              go_step3
              go_wp2_with (first | (go_at_call 85; refine (at_ok s _ _).mono ?_; rintro e w' ⟨rfl, rfl⟩; first | rw [a0.out] | rw [a1.out] | rw [fb.out]) | (go_at_call 87; refine (isDigit_ok _ _).mono ?_; rintro e w' ⟨rfl, rfl⟩; rw [G2.out]))
              go_step3
              refine Or.inr ⟨rfl, rfl, HC.out, 1, _, _, _, _, _, _, _, _, _, _, _, _, _, _, _, _, _, _, _, _, _, _, _, _, _, _, _, _, _, _, _, _, _, _, _, _, _, _, _, _, _, _, _, _, _, _, _, _, _, _, _, _, rfl, HNEG.out.symm, by omega, by omega, ?_, ?_⟩
              · rw [G1.out]; omega
              · rw [HSG.out]; omega
            · have hz : (expD s b).length = 0 := by omega
              have hnd : isDig (atB (expR s b) 0) = false := by
                have := spanN_stop isDig (expR s b) rfl
                rw [show ((expR s b).takeWhile isDig).length = 0 from hz] at this; exact this
              have G2 := Lib.hid hnd
              have R := Lib.hid ((expS_of s b HC.out).1 hz)
              clear hnd hz hk
              go_wp2_with (first | (go_at_call 85; refine (at_ok s _ _).mono ?_; rintro e w' ⟨rfl, rfl⟩; first | rw [a0.out] | rw [a1.out] | rw [fb.out]) | (go_at_call 87; refine (isDigit_ok _ _).mono ?_; rintro e w' ⟨rfl, rfl⟩; rw [G2.out]))
              go_step3
              go_wp2_with (first | (go_at_call 85; refine (at_ok s _ _).mono ?_; rintro e w' ⟨rfl, rfl⟩; first | rw [a0.out] | rw [a1.out] | rw [fb.out]) | (go_at_call 87; refine (isDigit_ok _ _).mono ?_; rintro e w' ⟨rfl, rfl⟩; rw [G2.out]))
              go_step3
              go_wp2_with fail
              simp only [jumps]
              go_ret2
              refine RetSame.mk (pair_eq ?_ ?_)
              · rw [R.out]; try rfl
              · rw [R.out]; try simp
          · have HSG := Lib.hid (show expSg (expL s b) = 1 by unfold expSg; rw [h45, h43]; rfl)
            have HNEG := Lib.hid (show expNeg s b = false by unfold expNeg; exact h45)
            have fb := Lib.hid (show atB s.data.toList (b + 1 + 1) = atB (expR s b) 0 by have := expR_at s b 0; rw [HSG.out] at this; exact this)
            have u45 : (((atB (expL s b) 1).toNat : Int) == 45) = false := by rw [← h45]; exact byte_lit _ 45 (by omega)
            have u43 : (((atB (expL s b) 1).toNat : Int) == 43) = true := by rw [← h43]; exact byte_lit _ 43 (by omega)
            have hlen := Lib.hid (expD_len s b 0)
            clear h45 h43
            by_cases hk : 0 < (expD s b).length
            · obtain ⟨g1, g2⟩ := take_run (p := isDig) (l := expR s b) (k := 0) hk
              have hns : b + 1 + 1 < s.size := by have := hlen.out hk; rw [HSG.out] at this; omega
              have G1 := Lib.hid (show satS 0 ((expD s b).take 1) = min (10 * 0 + ((atB (expR s b) 0).toNat - 48)) 1099511627776 by
                rw [show satS 0 ((expD s b).take 1) = satS 0 ([] ++ [atB (expR s b) 0]) from congrArg (satS 0) g1, satS_snoc]; rfl)
              have G2 := Lib.hid g2
              have d1 : (48 : Int) ≤ ((atB (expR s b) 0).toNat : Int) ∧ ((atB (expR s b) 0).toNat : Int) ≤ 57 := by unfold isDig at g2; simp at g2; omega
              obtain ⟨d1, d2⟩ := d1
              clear g1 g2
              go_wp2_with (first | (go_at_call 85; refine (at_ok s _ _).mono ?_; rintro e w' ⟨rfl, rfl⟩; first | rw [a0.out] | rw [a1.out] | rw [fb.out]) | (go_at_call 87; refine (isDigit_ok _ _).mono ?_; rintro e w' ⟨rfl, rfl⟩; rw [G2.out]))
              go_step3
              go_wp2_with (first | (go_at_call 85; refine (at_ok s _ _).mono ?_; rintro e w' ⟨rfl, rfl⟩; first | rw [a0.out] | rw [a1.out] | rw [fb.out]) | (go_at_call 87; refine (isDigit_ok _ _).mono ?_; rintro e w' ⟨rfl, rfl⟩; rw [G2.out]))
              go_step3
              refine Or.inr ⟨rfl, rfl, HC.out, 1, _, _, _, _, _, _, _, _, _, _, _, _, _, _, _, _, _, _, _, _, _, _, _, _, _, _, _, _, _, _, _, _, _, _, _, _, _, _, _, _, _, _, _, _, _, _, _, _, _, _, _, _, rfl, HNEG.out.symm, by omega, by omega, ?_, ?_⟩
              · rw [G1.out]; omega
              · rw [HSG.out]; omega
            · have hz : (expD s b).length = 0 := by omega
              have hnd : isDig (atB (expR s b) 0) = false := by
                have := spanN_stop isDig (expR s b) rfl
                rw [show ((expR s b).takeWhile isDig).length = 0 from hz] at this; exact this
              have G2 := Lib.hid hnd
              have R := Lib.hid ((expS_of s b HC.out).1 hz)
              clear hnd hz hk
              go_wp2_with (first | (go_at_call 85; refine (at_ok s _ _).mono ?_; rintro e w' ⟨rfl, rfl⟩; first | rw [a0.out] | rw [a1.out] | rw [fb.out]) | (go_at_call 87; refine (isDigit_ok _ _).mono ?_; rintro e w' ⟨rfl, rfl⟩; rw [G2.out]))
              go_step3
              go_wp2_with (first | (go_at_call 85; refine (at_ok s _ _).mono ?_; rintro e w' ⟨rfl, rfl⟩; first | rw [a0.out] | rw [a1.out] | rw [fb.out]) | (go_at_call 87; refine (isDigit_ok _ _).mono ?_; rintro e w' ⟨rfl, rfl⟩; rw [G2.out]))
              go_step3
              go_wp2_with fail
              simp only [jumps]
              go_ret2
              refine RetSame.mk (pair_eq ?_ ?_)
              · rw [R.out]; try rfl
              · rw [R.out]; try simp
        | false =>
          rcases tc with t1 | ⟨t1, t2⟩
          · have HSG := Lib.hid (show expSg (expL s b) = 0 by unfold expSg; rw [h45, h43]; rfl)
            have HNEG := Lib.hid (show expNeg s b = false by unfold expNeg; exact h45)
            have fb := Lib.hid (show atB s.data.toList (b + 1) = atB (expR s b) 0 by have := expR_at s b 0; rw [HSG.out] at this; exact this)
            have heq : atB (expR s b) 0 = atB (expL s b) 1 := by unfold expR; rw [drop_atB, HSG.out]
            have u45 : (((atB (expL s b) 1).toNat : Int) == 45) = false := by rw [← h45]; exact byte_lit _ 45 (by omega)
            have u43 : (((atB (expL s b) 1).toNat : Int) == 43) = false := by rw [← h43]; exact byte_lit _ 43 (by omega)
            have hlen := Lib.hid (expD_len s b 0)
            clear h45 h43
            by_cases hk : 0 < (expD s b).length
            · obtain ⟨g1, g2⟩ := take_run (p := isDig) (l := expR s b) (k := 0) hk
              rw [heq] at g1 g2
              have hns : b + 1 < s.size := by have := hlen.out hk; rw [HSG.out] at this; omega
              have G1 := Lib.hid (show satS 0 ((expD s b).take 1) = min (10 * 0 + ((atB (expL s b) 1).toNat - 48)) 1099511627776 by
                rw [show satS 0 ((expD s b).take 1) = satS 0 ([] ++ [atB (expL s b) 1]) from congrArg (satS 0) g1, satS_snoc]; rfl)
              have G2 := Lib.hid g2
              have d1 : (48 : Int) ≤ ((atB (expL s b) 1).toNat : Int) ∧ ((atB (expL s b) 1).toNat : Int) ≤ 57 := by unfold isDig at g2; simp at g2; omega
              obtain ⟨d1, d2⟩ := d1
              clear g1 g2 heq
              go_wp2_with (first | (go_at_call 85; refine (at_ok s _ _).mono ?_; rintro e w' ⟨rfl, rfl⟩; first | rw [a0.out] | rw [a1.out] | rw [fb.out]) | (go_at_call 87; refine (isDigit_ok _ _).mono ?_; rintro e w' ⟨rfl, rfl⟩; rw [G2.out]))
              go_step3
              go_wp2_with (first | (go_at_call 85; refine (at_ok s _ _).mono ?_; rintro e w' ⟨rfl, rfl⟩; first | rw [a0.out] | rw [a1.out] | rw [fb.out]) | (go_at_call 87; refine (isDigit_ok _ _).mono ?_; rintro e w' ⟨rfl, rfl⟩; rw [G2.out]))
              go_step3
              refine Or.inr ⟨rfl, rfl, HC.out, 1, _, _, _, _, _, _, _, _, _, _, _, _, _, _, _, _, _, _, _, _, _, _, _, _, _, _, _, _, _, _, _, _, _, _, _, _, _, _, _, _, _, _, _, _, _, _, _, _, _, _, _, _, rfl, HNEG.out.symm, by omega, by omega, ?_, ?_⟩
              · rw [G1.out]; omega
              · rw [HSG.out]; omega
            · have hz : (expD s b).length = 0 := by omega
              have hnd : isDig (atB (expL s b) 1) = false := by
                have := spanN_stop isDig (expR s b) rfl
                rw [show ((expR s b).takeWhile isDig).length = 0 from hz] at this; rw [heq] at this; exact this
              have G2 := Lib.hid hnd
              have R := Lib.hid ((expS_of s b HC.out).1 hz)
              clear hnd hz hk heq
              go_wp2_with (first | (go_at_call 85; refine (at_ok s _ _).mono ?_; rintro e w' ⟨rfl, rfl⟩; first | rw [a0.out] | rw [a1.out] | rw [fb.out]) | (go_at_call 87; refine (isDigit_ok _ _).mono ?_; rintro e w' ⟨rfl, rfl⟩; rw [G2.out]))
              go_step3
              go_wp2_with (first | (go_at_call 85; refine (at_ok s _ _).mono ?_; rintro e w' ⟨rfl, rfl⟩; first | rw [a0.out] | rw [a1.out] | rw [fb.out]) | (go_at_call 87; refine (isDigit_ok _ _).mono ?_; rintro e w' ⟨rfl, rfl⟩; rw [G2.out]))
              go_step3
              go_wp2_with fail
              simp only [jumps]
              go_ret2
              refine RetSame.mk (pair_eq ?_ ?_)
              · rw [R.out]; try rfl
              · rw [R.out]; try simp
          · have HSG := Lib.hid (show expSg (expL s b) = 0 by unfold expSg; rw [h45, h43]; rfl)
            have HNEG := Lib.hid (show expNeg s b = false by unfold expNeg; exact h45)
            have fb := Lib.hid (show atB s.data.toList (b + 1) = atB (expR s b) 0 by have := expR_at s b 0; rw [HSG.out] at this; exact this)
            have heq : atB (expR s b) 0 = atB (expL s b) 1 := by unfold expR; rw [drop_atB, HSG.out]
            have u45 : (((atB (expL s b) 1).toNat : Int) == 45) = false := by rw [← h45]; exact byte_lit _ 45 (by omega)
            have u43 : (((atB (expL s b) 1).toNat : Int) == 43) = false := by rw [← h43]; exact byte_lit _ 43 (by omega)
            have hlen := Lib.hid (expD_len s b 0)
            clear h45 h43
            by_cases hk : 0 < (expD s b).length
            · obtain ⟨g1, g2⟩ := take_run (p := isDig) (l := expR s b) (k := 0) hk
              rw [heq] at g1 g2
              have hns : b + 1 < s.size := by have := hlen.out hk; rw [HSG.out] at this; omega
              have G1 := Lib.hid (show satS 0 ((expD s b).take 1) = min (10 * 0 + ((atB (expL s b) 1).toNat - 48)) 1099511627776 by
                rw [show satS 0 ((expD s b).take 1) = satS 0 ([] ++ [atB (expL s b) 1]) from congrArg (satS 0) g1, satS_snoc]; rfl)
              have G2 := Lib.hid g2
              have d1 : (48 : Int) ≤ ((atB (expL s b) 1).toNat : Int) ∧ ((atB (expL s b) 1).toNat : Int) ≤ 57 := by unfold isDig at g2; simp at g2; omega
              obtain ⟨d1, d2⟩ := d1
              clear g1 g2 heq
              go_wp2_with (first | (go_at_call 85; refine (at_ok s _ _).mono ?_; rintro e w' ⟨rfl, rfl⟩; first | rw [a0.out] | rw [a1.out] | rw [fb.out]) | (go_at_call 87; refine (isDigit_ok _ _).mono ?_; rintro e w' ⟨rfl, rfl⟩; rw [G2.out]))
              go_step3
              go_wp2_with (first | (go_at_call 85; refine (at_ok s _ _).mono ?_; rintro e w' ⟨rfl, rfl⟩; first | rw [a0.out] | rw [a1.out] | rw [fb.out]) | (go_at_call 87; refine (isDigit_ok _ _).mono ?_; rintro e w' ⟨rfl, rfl⟩; rw [G2.out]))
              go_step3
              refine Or.inr ⟨rfl, rfl, HC.out, 1, _, _, _, _, _, _, _, _, _, _, _, _, _, _, _, _, _, _, _, _, _, _, _, _, _, _, _, _, _, _, _, _, _, _, _, _, _, _, _, _, _, _, _, _, _, _, _, _, _, _, _, _, rfl, HNEG.out.symm, by omega, by omega, ?_, ?_⟩
              · rw [G1.out]; omega
              · rw [HSG.out]; omega
            · have hz : (expD s b).length = 0 := by omega
              have hnd : isDig (atB (expL s b) 1) = false := by
                have := spanN_stop isDig (expR s b) rfl
                rw [show ((expR s b).takeWhile isDig).length = 0 from hz] at this; rw [heq] at this; exact this
              have G2 := Lib.hid hnd
              have R := Lib.hid ((expS_of s b HC.out).1 hz)
              clear hnd hz hk heq
              go_wp2_with (first | (go_at_call 85; refine (at_ok s _ _).mono ?_; rintro e w' ⟨rfl, rfl⟩; first | rw [a0.out] | rw [a1.out] | rw [fb.out]) | (go_at_call 87; refine (isDigit_ok _ _).mono ?_; rintro e w' ⟨rfl, rfl⟩; rw [G2.out]))
              go_step3
              go_wp2_with (first | (go_at_call 85; refine (at_ok s _ _).mono ?_; rintro e w' ⟨rfl, rfl⟩; first | rw [a0.out] | rw [a1.out] | rw [fb.out]) | (go_at_call 87; refine (isDigit_ok _ _).mono ?_; rintro e w' ⟨rfl, rfl⟩; rw [G2.out]))
              go_step3
              go_wp2_with fail
              simp only [jumps]
              go_ret2
              refine RetSame.mk (pair_eq ?_ ?_)
              · rw [R.out]; try rfl
              · rw [R.out]; try simp
    · have E := Lib.hid (show expS (expL s b) = (0, 0) by
        unfold expS
        rw [if_neg]
        simp only [Bool.or_eq_true, beq_iff_eq]
        exact hc)
      have t1 : (((atB (expL s b) 0).toNat : Int) != 101) = true := by
        rw [bne_iff_ne]; intro h; exact hc (Or.inl (UInt8.toNat_inj.1 (by show _ = (101 : UInt8).toNat; simp; omega)))
      have t2 : (((atB (expL s b) 0).toNat : Int) != 69) = true := by
        rw [bne_iff_ne]; intro h; exact hc (Or.inr (UInt8.toNat_inj.1 (by show _ = (69 : UInt8).toNat; simp; omega)))
      have HC := Lib.hid hc
      clear hc
      go_wp2_with (refine (at_ok s b _).mono ?_; rintro e w' ⟨rfl, rfl⟩; rw [a0.out])
      go_step3
      exact Or.inl ⟨rfl, rfl, 0, b, _, _, _, _, _, _, _, _, _, _, _, _, _, _, _, _, _, _, _, _, _, _, _, _, _, _, _, _, _, _, _, _, _, _, _, _, _, _, _, _, _, _, _, _, _, _, _, _, _, _, _, rfl, by rw [E.out], by rw [E.out]; simp⟩
  · rintro l a w' (⟨rfl, rfl, e, t, u2, u3, u4, u5, u8, u9, u10, u11, u12, u13, u14, u15, u16, u17, u18, u19, u20, u21, u22, u23, u24, u25, u26, u27, u28, u29, u30, u31, u32, u33, u34, u35, u36, u37, u38, u39, u40, u41, u42, u43, u44, u45, u46, u47, u48, u49, u50, u51, u52, u53, u54, rfl, he, ht⟩ | ⟨rfl, rfl, hc, k, e, i, ng, u2, u3, u4, u5, u10, u11, u12, u13, u14, u15, u16, u17, u18, u19, u20, u21, u22, u23, u24, u25, u26, u27, u28, u29, u30, u31, u32, u33, u34, u35, u36, u37, u38, u39, u40, u41, u42, u43, u44, u45, u46, u47, u48, u49, u50, u51, u52, u53, u54, rfl, rfl, hk1, hk2, he, hi⟩)
    · refine ⟨_, rfl, ?_⟩
      have HE := Lib.hid he
      have HT := Lib.hid ht
      clear he ht
      go_wp2_with fail
      simp only [jumps]
      go_ret2
      exact ⟨by rw [HE.out, HT.out]; rfl, rfl⟩
    · refine ⟨_, rfl, ?_⟩
      obtain ⟨n, hn⟩ : ∃ n : Nat, n = b + 1 + expSg (expL s b) + k := ⟨_, rfl⟩
      obtain ⟨en, hen⟩ : ∃ en : Nat, en = satS 0 ((expD s b).take k) := ⟨_, rfl⟩
      obtain rfl : i = (n : Int) := by omega
      obtain rfl : e = (en : Int) := by omega
      have hel : en ≤ 1099511627776 := by rw [hen]; exact satS_le _ _ (by omega)
      have fb := Lib.hid (show atB s.data.toList n = atB (expR s b) k by rw [hn]; exact expR_at s b k)
      have HC := Lib.hid hc
      have HN := Lib.hid hn
      have HEN := Lib.hid hen
      clear hc hn hen he hi
      by_cases hk : k < (expD s b).length
      · obtain ⟨g1, g2⟩ := take_run (p := isDig) (l := expR s b) (k := k) hk
        have hns : n < s.size := by rw [HN.out]; exact expD_len s b k hk
        have G1 := Lib.hid (show satS 0 ((expD s b).take (k + 1)) = min (10 * en + ((atB (expR s b) k).toNat - 48)) 1099511627776 by
          rw [HEN.out, ← satS_snoc]; exact congrArg (satS 0) g1)
        have G2 := Lib.hid g2
        have d1 : (48 : Int) ≤ ((atB (expR s b) k).toNat : Int) ∧ ((atB (expR s b) k).toNat : Int) ≤ 57 := by unfold isDig at g2; simp at g2; omega
        obtain ⟨d1, d2⟩ := d1
        clear g1 g2
        go_wp2_with (first | (go_at_call 85; refine (at_ok s n _).mono ?_; rintro e w' ⟨rfl, rfl⟩; rw [fb.out]) | (go_at_call 87; refine (isDigit_ok _ _).mono ?_; rintro e w' ⟨rfl, rfl⟩; rw [G2.out]))
        go_step3
        refine ⟨Or.inr ⟨rfl, rfl, HC.out, k + 1, _, _, _, _, _, _, _, _, _, _, _, _, _, _, _, _, _, _, _, _, _, _, _, _, _, _, _, _, _, _, _, _, _, _, _, _, _, _, _, _, _, _, _, _, _, _, _, _, _, _, _, _, rfl, rfl, by omega, by omega, ?_, ?_⟩, ?_⟩
        · rw [G1.out]; omega
        · have := HN.out; omega
        · show s.size + 1 - (intOf (.int .i64 ((n : Int) + 1))).toNat < s.size + 1 - (intOf (.int .i64 (n : Int))).toNat
          simp [intOf]; omega
      · have hke : k = (expD s b).length := by omega
        have hnd : isDig (atB (expR s b) k) = false := by
          rw [hke]
          exact spanN_stop isDig (expR s b) rfl
        have G2 := Lib.hid hnd
        obtain ⟨r1, r2⟩ := (expS_of s b HC.out).2 (by omega)
        have R1 := Lib.hid r1
        have R2 := Lib.hid r2
        have ht : (expD s b).take k = expD s b := List.take_of_length_le (by omega)
        have HT := Lib.hid (show en = satS 0 (expD s b) by rw [HEN.out, ht])
        have HKE := Lib.hid hke
        clear hnd r1 r2 ht hke
        cases hneg : expNeg s b with
        | true =>
          have HNEG := Lib.hid hneg
          clear hneg
          go_wp2_with (first | (go_at_call 85; refine (at_ok s n _).mono ?_; rintro e w' ⟨rfl, rfl⟩; rw [fb.out]) | (go_at_call 87; refine (isDigit_ok _ _).mono ?_; rintro e w' ⟨rfl, rfl⟩; rw [G2.out]))
          go_step3
          go_wp2_with fail
          simp only [jumps]
          go_ret2
          refine RetSame.mk (pair_eq ?_ ?_)
          · rw [R1.out, HNEG.out, ← HT.out]; rfl
          · rw [R2.out]; have := HN.out; have := HKE.out; omega
        | false =>
          have HNEG := Lib.hid hneg
          clear hneg
          go_wp2_with (first | (go_at_call 85; refine (at_ok s n _).mono ?_; rintro e w' ⟨rfl, rfl⟩; rw [fb.out]) | (go_at_call 87; refine (isDigit_ok _ _).mono ?_; rintro e w' ⟨rfl, rfl⟩; rw [G2.out]))
          go_step3
          go_wp2_with fail
          simp only [jumps]
          go_ret2
          refine RetSame.mk (pair_eq ?_ ?_)
          · rw [R1.out, HNEG.out, ← HT.out]; rfl
          · rw [R2.out]; have := HN.out; have := HKE.out; omega
end
end
end
section
open Go.RowKit

def wordN (k : Nat) : List UInt8 := [wInfinity, wInf, wNan].getD k []
def wordC (k : Nat) : Int := [(4 : Int), 4, 1].getD k 0
theorem index_words (k : Nat) (h : k < 3) (w : World) : (Instr.index 146 (.agg cWords) (.int .i64 k)).run Tryz.prog w = .ok (.agg #[.string (bs (wordN k)), .int .u8 (wordC k)]) w := by
  obtain rfl | rfl | rfl : k = 0 ∨ k = 1 ∨ k = 2 := by omega
  all_goals kernel_rfl
theorem info122 : (Tryz.prog.info? 146).map (·.size) = some cWords.size := by kernel_rfl

def WordRel (w : World) (l : List UInt8) (i : Value) (wr : World) : Prop :=
  ∃ k : Nat, k ≤ 3 ∧ i = .int .i64 k ∧ (∀ j, j < k → begB l (wordN j) = false) ∧ Below w.heap.size w wr

theorem wordS_hit {l : List UInt8} {k : Nat} (hk : k < 3) (lo : ∀ j, j < k → begB l (wordN j) = false) (h : begB l (wordN k) = true) (neg : Bool) :
    wordS l neg = ((if wordC k = 4 ∧ neg = true then 2 else (wordC k).toNat), (bs (wordN k)).size) := by
  rw [bs_size]
  obtain rfl | rfl | rfl : k = 0 ∨ k = 1 ∨ k = 2 := by omega
  · have h' : begB l wInfinity = true := h
    unfold wordS; rw [if_pos h']; cases neg <;> rfl
  · have h0 : begB l wInfinity = false := lo 0 (by omega)
    have h' : begB l wInf = true := h
    unfold wordS; rw [h0, if_neg (by simp), if_pos h']; cases neg <;> rfl
  · have h0 : begB l wInfinity = false := lo 0 (by omega)
    have h1 : begB l wInf = false := lo 1 (by omega)
    have h' : begB l wNan = true := h
    unfold wordS; rw [h0, h1, if_neg (by simp), if_neg (by simp), if_pos h']; cases neg <;> rfl
theorem wordS_miss {l : List UInt8} (lo : ∀ j, j < 3 → begB l (wordN j) = false) (neg : Bool) : wordS l neg = (0, 0) := by
  have h0 : begB l wInfinity = false := lo 0 (by omega)
  have h1 : begB l wInf = false := lo 1 (by omega)
  have h2 : begB l wNan = false := lo 2 (by omega)
  unfold wordS; rw [h0, h1, h2]; rfl

theorem bdrew {B : Nat} {a w : World} (h : Below B a w) (n : Nat) : Below B a (w.drewN n) := ⟨h.os, h.tape, h.output, h.size, h.block⟩
theorem RetBelow.mk {w w' : World} {v v' : Value} (h : v' = v) (b : Below w.heap.size w w') : RetBelow w v (.returned v') w' := ⟨by rw [h], b⟩
theorem wpair_eq {a b c d : Int} (h1 : a = c) (h2 : b = d) : Value.tuple #[.int .u8 a, .int .i64 b] = .tuple #[.int .u8 c, .int .i64 d] := by rw [h1, h2]

set_option maxRecDepth 100000 in
set_option maxHeartbeats 1600000 in
theorem wordAt_ok (s : ByteArray) (neg : Bool) (w : World) (hs : s.size ≤ 1125899906842624) (T : Tabs w) :
    Calls Tryz.prog 86 #[.string s, .bool neg] w (RetBelow w (.tuple #[.int .u8 ((wordS s.data.toList neg).1 : Nat), .int .i64 ((wordS s.data.toList neg).2 : Nat)])) := by
  obtain ⟨t0, fr0, hm⟩ := T.words
  go_enter Tryz.func86, Tryz.ntmps86
  go_wp2_with (refine wpList_load_row rfl _ _ rfl 4 rfl t0 cWords fr0 _ hm Tryz.underlying146 rfl info122 ?_)
  clear hm
  go_loopw [9] (fun i wr => WordRel w s.data.toList i wr) (fun i _ => 3 - (intOf i).toNat)
  case atStart => exact ⟨0, by omega, rfl, fun j hj => by omega, Below.refl _ _⟩
  case round =>
    obtain ⟨k, hk, rfl, hlo, hb⟩ := hrel
    have HLO := Lib.hid hlo
    have HB := Lib.hid hb
    clear hlo hb
    by_cases hlt : k < 3
    · have hx := index_words k hlt
      cases hbg : begB s.data.toList (wordN k) with
      | true =>
        have R := Lib.hid (wordS_hit hlt HLO.out hbg neg)
        have HG := Lib.hid hbg
        have HW := Lib.hid (bs_list (wordN k))
        clear hbg
        by_cases h4 : wordC k = 4
        · have t4 : (wordC k == 4) = true := by rw [beq_iff_eq]; exact h4
          have H4 := Lib.hid h4
          clear h4
          cases neg with
          | true =>
            go_wp2_with (refine (begins_ok s _ _ (Nat.le_trans hs (by decide))).mono ?_; rintro e w' ⟨rfl, n, rfl⟩; rw [HW.out, HG.out])
            go_quiet (fail)
            go_wp2_with fail
            go_ret2
            refine RetBelow.mk (wpair_eq ?_ ?_) ?_
            · rw [R.out]; rw [if_pos ⟨H4.out, by trivial⟩]; rfl
            · rw [R.out]
            · exact bdrew (bdrew (HB.out.alloc HB.out.size _) _) _
          | false =>
            go_wp2_with (refine (begins_ok s _ _ (Nat.le_trans hs (by decide))).mono ?_; rintro e w' ⟨rfl, n, rfl⟩; rw [HW.out, HG.out])
            go_quiet (fail)
            go_wp2_with fail
            go_ret2
            refine RetBelow.mk (wpair_eq ?_ ?_) ?_
            · rw [R.out]; rw [if_neg (by simp)]; have := H4.out; omega
            · rw [R.out]
            · exact bdrew (bdrew (HB.out.alloc HB.out.size _) _) _
        · have t4 : (wordC k == 4) = false := by rw [beq_eq_false_iff_ne]; exact h4
          have H4 := Lib.hid h4
          have HP := Lib.hid (show 0 ≤ wordC k by obtain rfl | rfl | rfl : k = 0 ∨ k = 1 ∨ k = 2 := by omega
                                                  all_goals decide)
          clear h4
          go_wp2_with (refine (begins_ok s _ _ (Nat.le_trans hs (by decide))).mono ?_; rintro e w' ⟨rfl, n, rfl⟩; rw [HW.out, HG.out])
          go_quiet (fail)
          go_wp2_with fail
          go_ret2
          refine RetBelow.mk (wpair_eq ?_ ?_) ?_
          · rw [R.out]; rw [if_neg (by simp [H4.out])]; have := HP.out; omega
          · rw [R.out]
          · exact bdrew (bdrew (HB.out.alloc HB.out.size _) _) _
      | false =>
        have HG := Lib.hid hbg
        have HW := Lib.hid (bs_list (wordN k))
        clear hbg
        go_wp2_with (refine (begins_ok s _ _ (Nat.le_trans hs (by decide))).mono ?_; rintro e w' ⟨rfl, n, rfl⟩; rw [HW.out, HG.out])
        go_roundw
        case rel => exact ⟨k + 1, by omega, by go_num, fun j hj => by
            by_cases e : j = k
            · subst e; exact HG.out
            · exact HLO.out j (by omega), bdrew (HB.out.alloc HB.out.size _) _⟩
        case measure => simp [intOf]; omega
    · have hk3 : k = 3 := by omega
      subst hk3
      have R := Lib.hid (wordS_miss HLO.out neg)
      go_wp2_with fail
      go_ret2
      refine RetBelow.mk (wpair_eq ?_ ?_) HB.out
      · rw [R.out]; rfl
      · rw [R.out]; rfl
end
end Go.Proofs.YtnpnccjeapejdaaGreatDoor.Num
