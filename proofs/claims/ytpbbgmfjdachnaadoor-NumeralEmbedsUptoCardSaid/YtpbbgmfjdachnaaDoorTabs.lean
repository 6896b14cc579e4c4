/- The tables of numeral as they lie in memory; Month. -/
import Derived.Test.YtpbbgmfjdachnaaDoorAt
import Derived.Below
namespace Go.Proofs.YtpbbgmfjdachnaaDoor
open Go.RowKit

def bs (l : List UInt8) : ByteArray := ⟨l.toArray⟩
theorem bs_list (l : List UInt8) : (bs l).data.toList = l := by simp [bs]
theorem bs_of (s : ByteArray) : bs s.data.toList = s := by simp [bs]
theorem bs_size (l : List UInt8) : (bs l).size = l.length := by rw [Lib.size_eq, bs_list]

def cMonths : Array Value := (mNames.map fun l => Value.string (bs l)).toArray
def cWords : Array Value := #[.string (bs wInfinity), .int .u8 4, .string (bs wInf), .int .u8 4, .string (bs wNan), .int .u8 1]
def cSuffixes : Array Value := #[.int .u8 75, .int .i64 1, .int .u8 107, .int .i64 1, .int .u8 77, .int .i64 2, .int .u8 71, .int .i64 3, .int .u8 84, .int .i64 4, .int .u8 80, .int .i64 5, .int .u8 69, .int .i64 6, .int .u8 90, .int .i64 7, .int .u8 89, .int .i64 8, .int .u8 82, .int .i64 9, .int .u8 81, .int .i64 10]
def cRanks : Array Value := #[.int .u8 0, .int .u8 47, .int .u8 55, .int .u8 58, .int .u8 64, .int .u8 103, .int .u8 65, .int .u8 90, .int .u8 3, .int .u8 91, .int .u8 96, .int .u8 110, .int .u8 97, .int .u8 122, .int .u8 29, .int .u8 123, .int .u8 125, .int .u8 116, .int .u8 126, .int .u8 126, .int .u8 1, .int .u8 127, .int .u8 255, .int .u8 119]
/-- The tables lie where the program's start has laid them. -/
structure Tabs (w : World) : Prop where
  months : ∃ t fr, w.heap[0]? = some (.cells cMonths t fr)
  suffixes : ∃ t fr, w.heap[1]? = some (.cells cSuffixes t fr)
  words : ∃ t fr, w.heap[2]? = some (.cells cWords t fr)
  ranks : ∃ t fr, w.heap[4]? = some (.cells cRanks t fr)

theorem lt_of_block {w : World} {b : Nat} {o : Obj} (h : w.heap[b]? = some o) : b < w.heap.size := by
  rcases Nat.lt_or_ge b w.heap.size with h' | h'
  · exact h'
  · rw [Array.getElem?_eq_none h'] at h; cases h
theorem Tabs.below {w w' : World} (h : Tabs w) (k : Below w.heap.size w w') : Tabs w' := by
  obtain ⟨⟨t, fr, h0⟩, ⟨t1, fr1, h1⟩, ⟨t2, fr2, h2⟩, ⟨t4, fr4, h4⟩⟩ := h
  exact ⟨⟨t, fr, (k.block 0 (lt_of_block h0)).trans h0⟩, ⟨t1, fr1, (k.block 1 (lt_of_block h1)).trans h1⟩, ⟨t2, fr2, (k.block 2 (lt_of_block h2)).trans h2⟩, ⟨t4, fr4, (k.block 4 (lt_of_block h4)).trans h4⟩⟩
theorem below_drewN (w : World) (n : Nat) : Below w.heap.size w (w.drewN n) := ⟨rfl, rfl, rfl, Nat.le_refl _, fun _ _ => rfl⟩
theorem Tabs.drewN {w : World} (h : Tabs w) (n : Nat) : Tabs (w.drewN n) := h.below (below_drewN w n)

theorem set_info : (Tryd.prog.info? 94).map (fun i => (i.zero, i.size)) = some (some (.agg (Array.replicate 256 (.bool false))), 256) := by kernel_rfl

theorem blank_set (l : List UInt8) : Lib.trimLeftS l [32, 9] = l.dropWhile isBlank := by
  unfold Lib.trimLeftS
  congr 1
  funext c
  unfold isBlank
  simp only [List.contains, List.elem]
  cases (c == 32) <;> cases (c == 9) <;> rfl
theorem trimBlanks_ok (s : ByteArray) (w : World) :
    Calls Tryd.prog 37 #[.string s, .string ⟨#[32, 9]⟩] w fun e w' => e = .returned (.string (bs (s.data.toList.dropWhile isBlank))) ∧ Below w.heap.size w w' := by
  refine (show Calls Tryd.prog 37 _ w _ from Any.strings_TrimLeft_laid Tryd.lays161 set_info s ⟨#[32, 9]⟩ w (by decide) (ascii_of_all (by decide))).mono ?_
  rintro e w' ⟨rfl, hb⟩
  exact ⟨by rw [← blank_set]; rfl, hb⟩

theorem index_months (k : Nat) (h : k < 12) (w : World) : (Instr.index 63 (.agg cMonths) (.int .i64 k)).run Tryd.prog w = .ok (.string (bs (mNames.getD k []))) w := by
  obtain rfl | rfl | rfl | rfl | rfl | rfl | rfl | rfl | rfl | rfl | rfl | rfl : k = 0 ∨ k = 1 ∨ k = 2 ∨ k = 3 ∨ k = 4 ∨ k = 5 ∨ k = 6 ∨ k = 7 ∨ k = 8 ∨ k = 9 ∨ k = 10 ∨ k = 11 := by omega
  all_goals kernel_rfl

theorem months_step (l : List UInt8) (k : Nat) (h : k < 12) : monthIn l k (mNames.drop k) = if begB l (mNames.getD k []) then k + 1 else monthIn l (k + 1) (mNames.drop (k + 1)) := by
  have hl : k < mNames.length := h
  rw [List.drop_eq_getElem_cons hl, List.getD_eq_getElem?_getD, List.getElem?_eq_getElem hl]
  rfl

def MonRel (w : World) (l : List UInt8) (i : Value) (wr : World) : Prop :=
  ∃ k : Nat, k ≤ 12 ∧ i = .int .i64 k ∧ monthIn l k (mNames.drop k) = monthIn l 0 mNames ∧ Below w.heap.size w wr

theorem month_size {k : Nat} (h : k < 12) : (bs (mNames.getD k [])).size ≤ 3 := by
  rw [bs_size]
  obtain rfl | rfl | rfl | rfl | rfl | rfl | rfl | rfl | rfl | rfl | rfl | rfl : k = 0 ∨ k = 1 ∨ k = 2 ∨ k = 3 ∨ k = 4 ∨ k = 5 ∨ k = 6 ∨ k = 7 ∨ k = 8 ∨ k = 9 ∨ k = 10 ∨ k = 11 := by omega
  all_goals decide
theorem info63 : (Tryd.prog.info? 63).map (·.size) = some cMonths.size := by kernel_rfl
theorem trimmed_le (s : ByteArray) : (bs (s.data.toList.dropWhile isBlank)).size ≤ s.size := by
  rw [bs_size, Lib.size_eq]
  exact (List.dropWhile_sublist _).length_le

def RetBelow (w : World) (v : Value) (e : Ending) (w' : World) : Prop := e = .returned v ∧ Below w.heap.size w w'

set_option maxHeartbeats 800000 in
theorem month_ok (s : ByteArray) (w : World) (hs : s.size ≤ maxLen) (T : Tabs w) :
    Calls Tryd.prog 20 #[.string s] w (RetBelow w (.int .i64 (monthS s.data.toList))) := by
  have ht := trimmed_le s
  have HT := Lib.hid T
  clear T
  go_enter Tryd.func20, Tryd.ntmps20
  go_wp2_with fail
  refine (trimBlanks_ok s w).mono ?_
  rintro e w1 ⟨rfl, hb1⟩
  have e0 : (bs (s.data.toList.dropWhile isBlank)).data.toList = s.data.toList.dropWhile isBlank := bs_list _
  have HL := Lib.hid (show monthS s.data.toList = monthIn (bs (s.data.toList.dropWhile isBlank)).data.toList 0 mNames by rw [e0]; rfl)
  clear e0
  generalize bs (s.data.toList.dropWhile isBlank) = r at *
  obtain ⟨t0, fr0, hm⟩ := (HT.out.below hb1).months
  have HB := Lib.hid hb1
  clear hb1
  go_wp2_with (refine wpList_load_row rfl _ _ rfl 0 rfl t0 cMonths fr0 _ hm Tryd.underlying63 rfl info63 ?_)
  have hr : r.size ≤ maxLen := Nat.le_trans ht hs
  go_loopw [8] (fun i wr => MonRel w r.data.toList i wr) (fun i _ => 12 - (intOf i).toNat)
  case atStart => exact ⟨0, Nat.zero_le _, rfl, rfl, HB.out⟩
  case round =>
    obtain ⟨k, hk, rfl, hmk, hbk⟩ := hrel
    have HM := Lib.hid hmk
    have HK := Lib.hid hbk
    clear hmk hbk hm
    by_cases hlt : k < 12
    · have hx := index_months k hlt
      have HS := Lib.hid (months_step r.data.toList k hlt)
      have hz := month_size hlt
      have E1 := Lib.hid (bs_list (mNames.getD k []))
      generalize mNames.getD k [] = nm at *
      generalize bs nm = nb at *
      cases hb : begB r.data.toList nm with
      | true =>
        have HBB := Lib.hid hb
        clear hb
        go_wp2_with fail
        refine (begins_ok r nb _ hr).mono ?_
        rintro e w2 ⟨rfl, n, rfl⟩
        rw [E1.out, HBB.out]
        go_wp2_with fail
        go_ret
        refine ⟨?_, HK.out.trans ((below_drewN wr n).mono HK.out.size)⟩
        rw [HL.out, ← HM.out, HS.out, HBB.out]
        go_num
      | false =>
        have HBB := Lib.hid hb
        clear hb
        go_wp2_with fail
        refine (begins_ok r nb _ hr).mono ?_
        rintro e w2 ⟨rfl, n, rfl⟩
        rw [E1.out, HBB.out]
        go_wp2_with fail
        go_roundw
        case rel => exact ⟨k + 1, by omega, by go_num, by rw [← HM.out, HS.out, HBB.out]; rfl, HK.out.trans ((below_drewN wr n).mono HK.out.size)⟩
        case measure => simp [intOf]; omega
    · have hk' : k = 12 := by omega
      subst hk'
      go_wp2_with fail
      go_ret
      refine ⟨?_, HK.out⟩
      rw [HL.out, ← HM.out]
      rfl
end Go.Proofs.YtpbbgmfjdachnaaDoor
