/- The document's codes: the walk. -/
import Derived.Test.YtfbeipfpkikakaaDoorCw
namespace Go.Proofs.YtfbeipfpkikakaaDoor
open Go.RowKit

set_option maxRecDepth 100000
set_option maxHeartbeats 800000 in
theorem codes20_long (a : Option Addr) (n c : Nat) (hn : 512 < n) (hn2 : n ≤ 35184372088832) (w : World) : Calls Tryd.prog 20 #[.slice a n c] w (RetNo w 2) := by
  have t512 : decide ((512 : Int) < (n : Int)) = true := decide_eq_true (by omega)
  go_enter Tryd.func20, Tryd.ntmps20
  go_wp2_with fail
  go_ret2
  exact ⟨rfl, rfl⟩
set_option maxHeartbeats 800000 in
theorem codes20_no {a : Option Addr} {n c : Nat} (hn : n ≤ 512) (w : World) (MK : Calls Tryd.prog 33 #[.slice a n c] w (Same w (.bool false))) : Calls Tryd.prog 20 #[.slice a n c] w (RetNo w 65) := by
  have HM := Lib.hid MK
  have t512 : decide ((512 : Int) < (n : Int)) = false := decide_eq_false (by omega)
  clear MK
  go_enter Tryd.func20, Tryd.ntmps20
  go_wp2_with (go_at_call 33; refine HM.out.mono ?_; rintro e w' ⟨rfl, rfl⟩)
  go_ret2
  exact ⟨rfl, rfl⟩
def RetC (w : World) (n : Nat) (F : Nat → Nat) (e : Ending) (w' : World) : Prop := ∃ g, e = .returned (.tuple #[.slice (some ⟨g, 0, none⟩) n n, .int .i64 0]) ∧ BlkAt w' g 22 (natU n F) ∧ Below w.heap.size w w'
def CwA (w : World) (G : Nat) (ls : List Nat) (x y i : Value) (wr : World) : Prop := ∃ n xn yn : Nat, 1 ≤ n ∧ n ≤ 16 ∧ i = .int .i64 (n : Int) ∧ x = .int .u32 (xn : Int) ∧ y = .int .i64 (yn : Int) ∧ CInv ls n 0 xn yn ∧ BlkAt wr G 22 (natU ls.length (refF ls n 0)) ∧ Below w.heap.size w wr
def CwB (w : World) (G : Nat) (ls : List Nat) (n : Nat) (x y i : Value) (wr : World) : Prop := ∃ s xn yn : Nat, s ≤ ls.length ∧ i = .int .i64 (s : Int) ∧ x = .int .u32 (xn : Int) ∧ y = .int .i64 (yn : Int) ∧ CInv ls n s xn yn ∧ BlkAt wr G 22 (natU ls.length (refF ls n s)) ∧ Below w.heap.size w wr
theorem info22z : (Tryd.prog.info? 22).map (fun i => (i.zero, i.size, i.bytes)) = some (some (.int .u32 0), 1, 4) := by kernel_rfl
theorem made_u32 (n : Nat) : (madeCells #[(.int .u32 0 : Value)] n) = (natU n fun _ => 0).toArray := by
  apply Array.ext
  · simp [size_madeCells, natU]
  · intro i h1 h2
    simp [madeCells, natU, Nat.mod_one]
set_option maxHeartbeats 3200000 in
theorem codes20_ok {a : Option Addr} {c : Nat} {ls : List Nat} (h16 : ∀ x ∈ ls, x < 16) (hlen : ls.length ≤ 512) (w : World) (hc : SlI w (.slice a ls.length c) ls) (hcode : isCode (cnt ls) = true) :
    Calls Tryd.prog 20 #[.slice a ls.length c] w (RetC w ls.length (codF ls ls.length)) := by
  have HC := Lib.hid hc
  have H16 := Lib.hid h16
  have MK := Lib.hid (makes_ok h16 hlen w hc)
  rw [hcode] at MK
  have t512 : decide ((512 : Int) < (ls.length : Int)) = false := decide_eq_false (by omega)
  have hmk := run_make_row' (P := Tryd.prog) 30 22 (.int .u32 0) 4 Tryd.underlying30 info22z rfl .i64 .i64 ls.length (by omega) (by omega) w
  rw [made_u32] at hmk
  have GA := Lib.hid (BlkAt.new w (natU ls.length fun _ => 0) 22)
  have BB := Lib.hid (below_alloc w (.cells (natU ls.length fun _ => 0).toArray 22))
  clear hc h16 hcode
  go_enter Tryd.func20, Tryd.ntmps20
  go_wp2_with (go_at_call 33; refine MK.out.mono ?_; rintro e w' ⟨rfl, rfl⟩)
  clear hmk MK t512
  rename_i K0 hK0
  generalize w.alloc (.cells (natU ls.length fun _ => 0).toArray 22) = w1 at *
  obtain ⟨G, hG⟩ : ∃ G, G = w.heap.size := ⟨_, rfl⟩
  rw [← hG] at GA ⊢
  have QG := Lib.hid hG
  clear hG
  have ST := Lib.hid (show CwA w G ls (.int .u32 0) (.int .i64 0) (.int .i64 1) w1 from ⟨1, 0, 0, by omega, by omega, rfl, rfl, rfl, .inl ⟨rfl, rfl, rfl⟩, by rw [refF_start]; exact GA.out, BB.out⟩)
  clear GA BB
  go_loopw [5, 6, 7, 8] (fun x y i _ wr => CwA w G ls x y i wr) (fun _ _ i _ _ => (16 - intOf i).toNat)
  case atStart => exact ST.out
  case round =>
    clear ST
    obtain ⟨n, xn, yn, h1, h2, rfl, rfl, rfl, hi, hg, hb⟩ := hrel
    by_cases hn : n < 16
    · have t1 : decide ((n : Int) ≤ 15) = true := decide_eq_true (by omega)
      have ST := Lib.hid (show CwB w G ls n (.int .u32 (xn : Int)) (.int .i64 (yn : Int)) (.int .i64 0) wr from ⟨0, xn, yn, Nat.zero_le _, rfl, rfl, rfl, hi, hg, hb⟩)
      clear hi hg hb
      go_wp2_with fail
      go_loopw [5, 6, 8] (fun x y i wr => CwB w G ls n x y i wr) (fun _ _ i _ => (ls.length - (intOf i).toNat))
      case atStart => exact ST.out
      case round =>
        clear ST
        obtain ⟨s, xm, ym, hs, rfl, rfl, rfl, hi, hg, hb⟩ := hrel
        by_cases hlt : s < ls.length
        · obtain ⟨b, off, rfl⟩ := HC.out.at (List.ne_nil_of_length_pos (by omega))
          have cx := (HC.out.below hb).get.2 s ls[s] (List.getElem?_eq_getElem hlt)
          have k1 : (s : Int) < (ls.length : Int) := by omega
          have k2 : (0 : Int) ≤ (s : Int) := by omega
          have t2 : decide ((s : Int) < (ls.length : Int)) = true := decide_eq_true k1
          have t2n : decide (s < ls.length) = true := decide_eq_true hlt
          have ME := Lib.hid (show ls.length - ((s : Int) + 1).toNat < ls.length - (s : Int).toNat by omega)
          by_cases he : ls[s] = n
          · have PB := pN_le hlen (n := n) (by omega) s
            have F1 := Lib.hid (show CwB w G ls n (.int .u32 ((pN ls n s : Nat) : Int)) (.int .i64 (n : Int)) (.int .i64 ((s : Int) + 1)) (wr.setCell ⟨G, s, none⟩ (.int .u32 ((pN ls n s : Nat) : Int))) from
              ⟨s + 1, pN ls n s, n, hlt, by congr 1, rfl, rfl, CInv.hit hlt h1 he, by have h := hg.set s (.int .u32 ((pN ls n s : Nat) : Int)); rw [natU_set, refF_hit hlt he] at h; exact h, hb.setCell (p := ⟨G, s, none⟩) (Nat.le_of_eq QG.out.symm) _⟩)
            have cg := hg.cells.cell s _ (natU_get hlt)
            have fg := hg.cells.free s
            have lg := hg.cells.lt
            have n0 : ((ls[s] : Int) == (n : Int)) = true := by rw [beq_iff_eq]; omega
            have n0n : (ls[s] == n) = true := by rw [beq_iff_eq]; exact he
            rw [he] at cx
            clear n0 n0n he hg hb
            generalize refF ls n s s = old at *
            rcases hi with ⟨rfl, rfl, hp⟩ | ⟨y1, y2, hp⟩
            · have t3 : decide ((0 : Int) < 0) = false := by decide
              rw [hp] at F1
              clear hp PB
              go_wp2_with fail
              exact ⟨F1.out, ME.out⟩
            · have t3 : decide ((0 : Int) < (ym : Int)) = true := decide_eq_true (by omega)
              have t3n : decide (0 < ym) = true := decide_eq_true (by omega)
              have p1 : 1 ≤ 2 ^ (n - ym) := Nat.one_le_two_pow
              have x1 : xm + 1 ≤ pN ls n s := by rw [← hp]; exact Nat.le_mul_of_pos_right _ p1
              have pc : ((xm : Int) + 1) * 2 ^ (n - ym) = ((pN ls n s : Nat) : Int) := by rw [← hp, Int.natCast_mul, Int.natCast_pow]; rfl
              have E9 := Lib.hid (show ((xm : Int) + 1) * 2 ^ (n - ym) % 4294967296 = ((pN ls n s : Nat) : Int) by rw [pc]; omega)
              have xb : xm ≤ 16777728 := by omega
              clear hp pc x1 p1 PB
              go_wp2_with fail
              rw [E9.out]
              exact ⟨F1.out, ME.out⟩
          · have F1 := Lib.hid (show CwB w G ls n (.int .u32 (xm : Int)) (.int .i64 (ym : Int)) (.int .i64 ((s : Int) + 1)) wr from ⟨s + 1, xm, ym, hlt, by congr 1, rfl, rfl, hi.skip hlt he, by rw [refF_skip hlt he]; exact hg, hb⟩)
            have n0 : ((ls[s] : Int) == (n : Int)) = false := by rw [beq_eq_false_iff_ne]; omega
            have n0n : (ls[s] == n) = false := by rw [beq_eq_false_iff_ne]; exact he
            clear hi hg hb he
            generalize ls[s] = z at *
            go_wp2_with fail
            exact ⟨F1.out, ME.out⟩
        · obtain rfl : s = ls.length := by omega
          have t2 : decide ((ls.length : Int) < (ls.length : Int)) = false := decide_eq_false (by omega)
          have F1 := Lib.hid (show CwA w G ls (.int .u32 (xm : Int)) (.int .i64 (ym : Int)) (.int .i64 ((n : Int) + 1)) wr from ⟨n + 1, xm, ym, by omega, by omega, by congr 1, rfl, rfl, hi.next h1, by rw [← refF_next h1]; exact hg, hb⟩)
          have ME := Lib.hid (show (16 - ((n : Int) + 1)).toNat < (16 - (n : Int)).toNat by omega)
          clear hi hg hb
          go_wp2_with fail
          exact ⟨F1.out, ME.out⟩
    · obtain rfl : n = 16 := by omega
      have FIN := Lib.hid (show RetC w ls.length (codF ls ls.length) (.returned (.tuple #[.slice (some ⟨G, 0, none⟩) ls.length ls.length, .int .i64 0])) wr from
        ⟨G, rfl, by rw [← natU_congr (fun j hj => refF_end H16.out hlen hj)]; exact hg, hb⟩)
      clear hi hg hb
      go_wp2_with fail
      go_ret2
      exact FIN.out
end Go.Proofs.YtfbeipfpkikakaaDoor
