/- Two lists joined. -/
import Derived.Test.YthajgfldjjgkiaaPt
import Derived.Lib.AppendZeros
import Derived.Lib.AppendZerosOnto
import Derived.Lib.Walk
namespace Go.Proofs.Ythajgfldjjgkiaa
open Go.RowKit
set_option maxRecDepth 100000

def GrowR (w : World) (e : Ending) (w' : World) : Prop := ∃ c, e = .returned (.slice (some ⟨w.heap.size, 0, none⟩) 0 c) ∧ OwnI w' (.slice (some ⟨w.heap.size, 0, none⟩) 0 c) [] ∧ Below w.heap.size w w'
set_option maxHeartbeats 1600000 in
theorem grow_ok (n : Nat) (hn : 0 < n) (hn2 : n ≤ 10000000) (w : World) : Calls Try.prog 42 #[.slice none 0 0, .int .i64 (n : Int)] w (GrowR w) := by
  obtain ⟨i0, hi, hz0, hz1, hz2⟩ := info_parts info3
  have hr : ∀ ty, (Builtin.append_ #[22, 3] ty #[.slice none 0 0, .int .i64 (n : Int)]).run Try.prog w =
      .ok (.slice (some ⟨w.heap.size, 0, none⟩) n (grownCap w n 0 3)) (w.drew.alloc (.cells (Builtin.zeroCells (Value.int .i64 0).cells n ++ Builtin.zeroCells (Value.int .i64 0).cells (grownCap w n 0 3 - n)) 3)) := fun ty =>
    Lib.run_append_nil_zeros w 22 3 ty 3 i0 (.int .i64 0) .i64 .i64 Try.underlying22 Try.underlying3 hi hz0 n hn (by omega) (by omega) (by rw [hz2]; omega)
  have hG := grownCap_ge w n 0 3
  have hG2 := grownCap_le_maxLen w n 0 3 (by unfold maxLen; omega)
  have FIN := Lib.hid (show GrowR w (.returned (.slice (some ⟨w.heap.size, 0, none⟩) 0 (grownCap w n 0 3))) (w.drew.alloc (.cells (Builtin.zeroCells (Value.int .i64 0).cells n ++ Builtin.zeroCells (Value.int .i64 0).cells (grownCap w n 0 3 - n)) 3)) from by
    refine ⟨_, rfl, ?_, ?_⟩
    · have := World.ownsRow_made (base := 0) (e := 3) (size := 1) w.drew (Builtin.zeroCells (Value.int .i64 0).cells n ++ Builtin.zeroCells (Value.int .i64 0).cells (grownCap w n 0 3 - n)) (grownCap w n 0 3) (Nat.zero_le _) hG2 (by
        have hc : (Value.int .i64 0).cells.size = 1 := rfl
        rw [Array.size_append, size_zeroCells, size_zeroCells, hc]; omega)
      exact this
    · exact (Below.refl w.heap.size w).drew.alloc (Nat.le_refl _) _)
  have hG3 : grownCap w n 0 3 ≤ 9223372036854775807 := by unfold maxLen at hG2; omega
  have HR := Lib.hid hr
  clear hr hG2 hz0 hz1 hz2 hi
  generalize (w.drew.alloc (.cells (Builtin.zeroCells (Value.int .i64 0).cells n ++ Builtin.zeroCells (Value.int .i64 0).cells (grownCap w n 0 3 - n)) 3)) = w2 at *
  generalize grownCap w n 0 3 = G at *
  have t1 : decide ((n : Int) < 0) = false := decide_eq_false (by omega)
  have t2 : decide ((0 : Int) < (n : Int)) = true := decide_eq_true (by omega)
  have t2n : decide (0 < n) = true := decide_eq_true hn
  go_enter Try.func42, Try.ntmps42
  go_wp2_with (at_builtin; refine Lib.wpList_append_run _ rfl _ _ _ _ rfl _ _ rfl rfl _ _ (HR.out _) ?_)
  go_ret
  exact FIN.out
theorem SlI.ne {w : World} {v : Value} {l : List Int} (h : SlI w v l) (hl : l ≠ []) : ∃ b off c, v = .slice (some ⟨b, off, none⟩) l.length c ∧ l.length ≤ c ∧ b < w.heap.size ∧ ∀ (j : Nat) (hj : j < l.length), w.cell? ⟨b, off + j, none⟩ = some (.int .i64 l[j]) := h.get hl
def C1R (w : World) (m n : Nat) (v3 v11 : Value) (wr : World) : Prop := wr = w ∧ ((v3 = .int .i64 0 ∧ v11 = .int .i64 0) ∨ (v3 = .int .i64 (m : Int) ∧ v11 = .int .i64 1) ∨ (v3 = .int .i64 ((m : Int) + (n : Int)) ∧ v11 = .int .i64 2))
def C2R (w : World) (B : Nat) (a b : List Int) (v6 v27 : Value) (wr : World) : Prop := ∃ (k g cap : Nat) (l : List Int), v27 = .int .i64 (k : Int) ∧ k ≤ 2 ∧ l = (if k = 0 then [] else if k = 1 then a else a ++ b) ∧ v6 = .slice (some ⟨g, 0, none⟩) l.length cap ∧ OwnI wr (.slice (some ⟨g, 0, none⟩) l.length cap) l ∧ B ≤ g ∧ Below B w wr
def ConR (w : World) (l : List Int) (e : Ending) (w' : World) : Prop := ∃ g cap, e = .returned (.slice (some ⟨g, 0, none⟩) l.length cap) ∧ OwnI w' (.slice (some ⟨g, 0, none⟩) l.length cap) l ∧ w.heap.size ≤ g ∧ Below w.heap.size w w'
set_option maxHeartbeats 4000000 in
theorem concat_ok {w : World} {h0 : Nat} {va vb : Value} {a b : List Int} (hb : BlkAt w h0 22 [va, vb]) (ha : SlI w va a) (hbb : SlI w vb b) (na : a ≠ []) (nb : b ≠ []) (la : a.length ≤ 1000000) (lb : b.length ≤ 1000000) :
    Calls Try.prog 32 #[.slice (some ⟨h0, 0, none⟩) 2 2] w (ConR w (a ++ b)) := by
  obtain ⟨ab, ao, ac, rfl, a1, a2, a3⟩ := ha.ne na
  obtain ⟨bb, bo, bc, rfl, b1, b2, b3⟩ := hbb.ne nb
  have HB := Lib.hid hb
  have A3 := Lib.hid a3
  have B3 := Lib.hid b3
  have pa : 0 < a.length := List.length_pos_iff.2 na
  have pb : 0 < b.length := List.length_pos_iff.2 nb
  have GR := Lib.hid (fun W : World => grow_ok (a.length + b.length) (by omega) (by omega) W)
  have c0 := hb.cell 0 _ rfl
  have c1 := hb.cell 1 _ rfl
  have lh := hb.lt
  clear ha hbb na nb a3 b3 hb
  have ST := Lib.hid (show C1R w a.length b.length (.int .i64 0) (.int .i64 0) w from ⟨rfl, Or.inl ⟨rfl, rfl⟩⟩)
  go_enter Try.func32, Try.ntmps32
  go_wp2_with fail
  go_loopw [3, 11] (fun v3 v11 wr => C1R w a.length b.length v3 v11 wr) (fun _ v11 _ => 2 - (intOf v11).toNat)
  case atStart => exact ST.out
  case round =>
    clear ST
    obtain ⟨rfl, ⟨rfl, rfl⟩ | ⟨rfl, rfl⟩ | ⟨rfl, rfl⟩⟩ := hrel
    · have t2 : decide ((a.length : Int) < 0) = false := decide_eq_false (by omega)
      go_wp2_with fail
      go_roundw
      case rel => exact ⟨rfl, Or.inr (Or.inl ⟨rfl, rfl⟩)⟩
      case measure => simp [intOf]
    · have t2 : decide ((a.length : Int) + (b.length : Int) < 0) = false := decide_eq_false (by omega)
      have t3 : wrap64 ((a.length : Int) + (b.length : Int)) = (a.length : Int) + (b.length : Int) := by unfold wrap64; omega
      go_wp2_with fail
      go_roundw
      case rel => exact ⟨rfl, Or.inr (Or.inr ⟨rfl, rfl⟩)⟩
      case measure => simp [intOf]
    · have e1 : (a.length : Int) + (b.length : Int) = ((a.length + b.length : Nat) : Int) := by omega
      have E1 := Lib.hid e1
      rw [e1]
      clear e1 c0 c1
      obtain ⟨wo, rfl⟩ : ∃ wo, wo = wr := ⟨wr, rfl⟩
      go_wp2_with fail
      refine (GR.out _).mono ?_
      rintro e w1 ⟨c, rfl, h1, h2⟩
      have ST2 := Lib.hid (show C2R wo wo.heap.size a b (.slice (some ⟨wo.heap.size, 0, none⟩) 0 c) (.int .i64 0) w1 from ⟨0, _, c, [], rfl, by omega, by rw [if_pos rfl], rfl, h1, Nat.le_refl _, h2⟩)
      clear h1 h2
      go_wp2_with fail
      go_loopw [6, 27] (fun v6 v27 wr => C2R wo wo.heap.size a b v6 v27 wr) (fun _ v27 _ => 2 - (intOf v27).toNat)
      case atStart => exact ST2.out
      case round =>
        clear ST2
        obtain ⟨k, g, cap, l, rfl, hk, hl, rfl, hown, hg, hbel⟩ := hrel
        have OW := Lib.hid hown
        have BE := Lib.hid hbel
        have HL := Lib.hid hl
        have B2 := Lib.hid (HB.out.below hbel)
        have c0 := B2.out.cell 0 _ rfl
        have c1 := B2.out.cell 1 _ rfl
        have lh2 := B2.out.lt
        clear hown hbel hl
        have NXT := Lib.hid (fun (g' cap' : Nat) (news : List Int) (w' : World) (o : OwnI w' (.slice (some ⟨g', 0, none⟩) (l.length + news.length) cap') (l ++ news)) (kp : Kp wr w' (fun k => (Value.slice (some ⟨g, 0, none⟩) l.length cap).ownBlock = some k)) (q : (Value.slice (some ⟨g, 0, none⟩) l.length cap).ownBlock = some g' ∨ g' = wr.heap.size) (hk1 : k + 1 ≤ 2) (e : l ++ news = (if k + 1 = 0 then [] else if k + 1 = 1 then a else a ++ b)) =>
          show C2R wo wo.heap.size a b (.slice (some ⟨g', 0, none⟩) (l.length + news.length) cap') (.int .i64 ((k : Int) + 1)) w' from by
            have hg' : wo.heap.size ≤ g' := by
              rcases q with q | q
              · injection q with q
                simp only at q
                omega
              · have := BE.out.size; omega
            refine ⟨k + 1, g', cap', l ++ news, by congr 1, hk1, e, by rw [List.length_append], by rw [List.length_append]; exact o, hg', BE.out.trans (kp.below BE.out.size (fun x e => ?_))⟩
            injection e with e
            simp only at e
            omega)
        by_cases k0 : k = 0
        · subst k0
          have el : l = [] := by rw [HL.out, if_pos rfl]
          subst el
          have A4 := Lib.hid (show ∀ (j : Nat) (hj : j < a.length), wr.cell? ⟨ab, ao + j, none⟩ = some (.int .i64 a[j]) from fun j hj => ((bcell BE.out).1 ab _ a2).trans (A3.out j hj))
          go_wp2_with (at_builtin; refine wp_apI rfl _ _ rfl (.slice (some ⟨g, 0, none⟩) 0 cap) [] rfl OW.out ⟨ab, ao, none⟩ a.length ac a rfl rfl pa (fun j hj => by rw [add_plain]; exact A4.out j hj) (by simp; omega) ?_; intro g5 c5 w5 s51 s52 s53)
          have N2 := Lib.hid (NXT.out g5 c5 a w5 s51 s52 s53 (by omega) (by simp))
          clear NXT s51 s52 s53
          go_wp2_with fail
          exact ⟨by have := N2.out; simpa using this, by simp [intOf]⟩
        · by_cases k1 : k = 1
          · subst k1
            have el : l = a := by rw [HL.out, if_neg (by omega), if_pos rfl]
            subst el
            have B4 := Lib.hid (show ∀ (j : Nat) (hj : j < b.length), wr.cell? ⟨bb, bo + j, none⟩ = some (.int .i64 b[j]) from fun j hj => ((bcell BE.out).1 bb _ b2).trans (B3.out j hj))
            clear HL
            go_wp2_with (at_builtin; refine wp_apI rfl _ _ rfl (.slice (some ⟨g, 0, none⟩) l.length cap) l rfl OW.out ⟨bb, bo, none⟩ b.length bc b rfl rfl pb (fun j hj => by rw [add_plain]; exact B4.out j hj) (by omega) ?_; intro g5 c5 w5 s51 s52 s53)
            have N2 := Lib.hid (NXT.out g5 c5 b w5 s51 s52 s53 (by omega) (by simp))
            clear NXT s51 s52 s53
            go_wp2_with fail
            exact ⟨N2.out, by simp [intOf]⟩
          · have k2 : k = 2 := by omega
            subst k2
            have el : l = a ++ b := by rw [HL.out, if_neg (by omega), if_neg (by omega)]
            have FIN := Lib.hid (show ConR wo (a ++ b) (.returned (.slice (some ⟨g, 0, none⟩) l.length cap)) wr from ⟨g, cap, by rw [el], by rw [← el]; exact OW.out, hg, BE.out⟩)
            clear el HL NXT
            go_wp2_with fail
            go_ret
            exact FIN.out
end Go.Proofs.Ythajgfldjjgkiaa
