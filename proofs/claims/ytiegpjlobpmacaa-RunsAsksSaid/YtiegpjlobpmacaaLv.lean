/- RunsHeap: the walk. -/
import Derived.Test.YtiegpjlobpmacaaLt
namespace Go.Proofs.Ytiegpjlobpmacaa
open Go.RowKit
set_option maxRecDepth 100000
theorem num_ok (x : Int) (w : World) : Calls Try.prog 7 #[.int .i64 x] w (Same w (.int .i64 x)) := by
  go_enter Try.func7, Try.ntmps7
  go_wp2_with fail
  go_ret
  exact ⟨rfl, rfl⟩
/-- A slice of numbers of any sign that reads so. -/
def SlZ (w : World) (v : Value) (zs : List Int) : Prop :=
  ∃ a c, v = .slice a zs.length c ∧ (a = none → c = 0) ∧ (zs = [] ∨ ∃ b off, a = some ⟨b, off, none⟩ ∧ b < w.heap.size ∧ ∀ (j : Nat) z, zs[j]? = some z → w.cell? ⟨b, off + j, none⟩ = some (.int .i64 z))
theorem SlZ.below {w w' : World} {v : Value} {zs : List Int} (h : SlZ w v zs) (k : Below w.heap.size w w') : SlZ w' v zs := by
  obtain ⟨a, c, hv, hn, h | ⟨b, off, ha, hb, hc⟩⟩ := h
  · exact ⟨a, c, hv, hn, Or.inl h⟩
  · exact ⟨a, c, hv, hn, Or.inr ⟨b, off, ha, Nat.lt_of_lt_of_le hb k.size, fun j z hz => (k.cell (p := ⟨b, off + j, none⟩) hb).trans (hc j z hz)⟩⟩
theorem SlZ.get {w : World} {a : Option Addr} {n c j : Nat} {z : Int} {zs : List Int} (h : SlZ w (.slice a n c) zs) (hz : zs[j]? = some z) : ∃ b off, a = some ⟨b, off, none⟩ ∧ b < w.heap.size ∧ w.cell? ⟨b, off + j, none⟩ = some (.int .i64 z) := by
  obtain ⟨a', c', hv, _, hn | ⟨b, off, ha, hb, hc⟩⟩ := h
  · rw [hn] at hz; cases hz
  · injection hv with h1 _ _
    exact ⟨b, off, by rw [h1, ha], hb, hc j z hz⟩
structure LwAt (w : World) (len k : Nat) (tv : Value) (T : List It) (F : Nat → It) (P : Nat) (wr : World) : Prop where
  heap : ∃ v, HeapAt wr (w.heap.size + 1) w.heap.size v F T.length P
  ok : LhOk T F P
  row : TRow wr w.heap.size tv T
  bel : Below w.heap.size w wr
  le : T.length ≤ P
  pk : P ≤ k
  pl : P ≤ len
def LwR (w : World) (len : Nat) (tv i : Value) (wr : World) : Prop := ∃ (k : Nat) (T : List It) (F : Nat → It) (P : Nat), i = .int .i64 (k : Int) ∧ k ≤ 2 * len + 1 ∧ LwAt w len k tv T F P wr
def RetTrue (w : World) (e : Ending) (w' : World) : Prop := e = .returned (.bool true) ∧ Below w.heap.size w w'
def keyT (T : List It) (i : Nat) : Int := ((T[i]?).map It.key).getD 0
theorem keyT_at {T : List It} {i : Nat} (h : i < T.length) : (T[i]).key = keyT T i := by unfold keyT; rw [List.getElem?_eq_getElem h]; rfl
structure BestTo (T : List It) (j b : Nat) : Prop where
  le : ∀ i, i < j → keyT T b ≤ keyT T i
  lt : ∀ i, i < b → keyT T b < keyT T i
def InR (T : List It) (n : Nat) (w : World) (bv kv : Value) (wr : World) : Prop := ∃ j : Nat, j ≤ n ∧ kv = .int .i64 (j : Int) ∧ ((j = 0 ∧ bv = .int .i64 (-1)) ∨ ∃ b : Nat, b < j ∧ bv = .int .i64 (b : Int) ∧ BestTo T j b) ∧ Below w.heap.size w wr
theorem InR.first {T : List It} {n : Nat} {w wr : World} (hn : 0 < n) (hb : Below w.heap.size w wr) : InR T n w (.int .i64 ((0 : Nat) : Int)) (.int .i64 (((0 : Nat) : Int) + 1)) wr := by
  refine ⟨1, hn, by go_num, .inr ⟨0, by omega, rfl, ?_, ?_⟩, hb⟩
  · intro i hi
    obtain rfl : i = 0 := by omega
    exact Int.le_refl _
  · intro i hi
    omega
theorem InR.better {T : List It} {n j b : Nat} {w wr : World} (hj : j < n) (hbj : b < j) (h : BestTo T j b) (hk : keyT T j < keyT T b) (hb : Below w.heap.size w wr) : InR T n w (.int .i64 (j : Int)) (.int .i64 ((j : Int) + 1)) wr :=
  ⟨j + 1, hj, by go_num, .inr ⟨j, by omega, rfl, ⟨fun i hi => by
    by_cases e : i = j
    · subst e; exact Int.le_refl _
    · have := h.le i (by omega); omega, fun i hi => by have := h.le i hi; omega⟩⟩, hb⟩
theorem InR.same {T : List It} {n j b : Nat} {w wr : World} (hj : j < n) (hbj : b < j) (h : BestTo T j b) (hk : ¬ keyT T j < keyT T b) (hb : Below w.heap.size w wr) : InR T n w (.int .i64 (b : Int)) (.int .i64 ((j : Int) + 1)) wr :=
  ⟨j + 1, hj, by go_num, .inr ⟨b, by omega, rfl, ⟨fun i hi => by
    by_cases e : i = j
    · subst e; omega
    · exact h.le i (by omega), h.lt⟩⟩, hb⟩
set_option maxHeartbeats 4000000 in
theorem heap_long {w : World} {a : Option Addr} {c len : Nat} (hl : 2000 < len) (hm : len ≤ 9223372036854775807) : Calls Try.prog 3 #[.slice a len c] w (RetTrue w) := by
  have t1 : decide ((2000 : Int) < (len : Int)) = true := decide_eq_true (by omega)
  have t1n : decide (2000 < len) = true := decide_eq_true hl
  go_enter Try.func3, Try.ntmps3
  go_wp2_with fail
  refine (new_ok w).mono ?_
  rintro e w1 ⟨rfl, hh, hb, hs⟩
  have HB := Lib.hid hb
  clear hh hb hs
  go_wp2_with (go_at_call 7; refine (num_ok _ _).mono ?_; rintro e w' ⟨rfl, rfl⟩)
  go_ret
  exact ⟨rfl, HB.out⟩
set_option maxHeartbeats 8000000 in
theorem heap_law {w : World} {a : Option Addr} {c : Nat} {zs : List Int} (hz : SlZ w (.slice a zs.length c) zs) (hl : zs.length ≤ 2000) : Calls Try.prog 3 #[.slice a zs.length c] w (RetTrue w) := by
  have HZ := Lib.hid hz
  clear hz
  obtain ⟨len, hlen⟩ : ∃ len, len = zs.length := ⟨_, rfl⟩
  have HL := Lib.hid hlen
  rw [← hlen] at hl ⊢
  clear hlen
  have t1 : decide ((2000 : Int) < (len : Int)) = false := decide_eq_false (by omega)
  have t1n : decide (2000 < len) = false := decide_eq_false (by omega)
  go_enter Try.func3, Try.ntmps3
  go_wp2_with fail
  refine (new_ok w).mono ?_
  rintro e w1 ⟨rfl, hh, hb, hs⟩
  have ST := Lib.hid (show LwR w len (.slice none 0 0) (.int .i64 0) w1 from ⟨0, [], fun _ => ⟨0, 0, 0⟩, 0, rfl, by omega, ⟨⟨_, hh _⟩, LhOk.nil _, ⟨World.ownsRow_nil _ _ _ _, hb.size⟩, hb, Nat.le_refl _, Nat.le_refl _, Nat.zero_le _⟩⟩)
  clear hh hb hs
  go_wp2_with (go_at_call 7; refine (num_ok _ _).mono ?_; rintro e w' ⟨rfl, rfl⟩)
  go_loopw [5, 6] (fun tv i wr => LwR w len tv i wr) (fun _ i _ => 2 * len + 1 - (intOf i).toNat)
  case atStart => exact ST.out
  case round =>
    clear ST
    obtain ⟨k, T, F, P, rfl, hk, M⟩ := hrel
    have HM := Lib.hid M
    by_cases hk2 : k ≤ 2 * len
    · have t2 : decide ((k : Int) ≤ 2 * (len : Int)) = true := decide_eq_true (by omega)
      by_cases hp : k < len ∧ 0 ≤ zs.getD k 0
      · obtain ⟨hkl, hz0⟩ := hp
        have t3 : decide ((k : Int) < (len : Int)) = true := decide_eq_true (by omega)
        have t3n : decide (k < len) = true := decide_eq_true hkl
        have a1 : (k : Int) < (len : Int) := by omega
        have a2 : (0 : Int) ≤ (k : Int) := by omega
        have hzk : zs[k]? = some (zs.getD k 0) := by rw [List.getD_eq_getElem?_getD, List.getElem?_eq_getElem (by have := HL.out; omega)]; rfl
        obtain ⟨bz, oz, rfl, lz, cz⟩ := (show SlZ wr (.slice a len c) zs from by rw [HL.out]; exact HZ.out.below M.bel).get hzk
        clear hzk
        generalize zs.getD k 0 = z at *
        have t4 : decide ((0 : Int) ≤ z) = true := decide_eq_true hz0
        have B1 := Lib.hid (below_alloc wr (.cells #[.int .i64 z, .int .i64 (k : Int)] 28))
        have K1 := Lib.hid (heap_alloc_new wr (.cells #[.int .i64 z, .int .i64 (k : Int)] 28))
        have hPk : P ≤ 2000 := by have := M.pl; omega
        have hTP := M.le
        clear M
        go_wp2_with fail
        change Hid ((wr.alloc (.cells #[.int .i64 z, .int .i64 (k : Int)] 28)).heap[wr.heap.size]? = some (.cells #[.int .i64 z, .int .i64 (k : Int)] 28 (0, 0))) at K1
        generalize wr.alloc (.cells #[.int .i64 z, .int .i64 (k : Int)] 28) = x1 at B1 K1 ⊢
        generalize wr.heap.size = bx at K1 ⊢
        obtain ⟨v, hv⟩ := HM.out.heap
        have H1 := Lib.hid (hv.below B1.out)
        have T1 := Lib.hid (HM.out.row.below B1.out)
        have BL := Lib.hid (HM.out.bel.trans (B1.out.mono HM.out.bel.size))
        clear hv
        refine (push_ok H1.out z (k : Int) (by omega) (by omega)).mono ?_
        rintro e w2 ⟨rfl, ⟨v', H2⟩, hb2, kp2⟩
        have HH2 := Lib.hid H2
        have T2 := Lib.hid (T1.out.kept kp2 hb2.size)
        have K2 := Lib.hid (kp2 bx 28 _ (by decide) (by decide) K1.out)
        have BL2 := Lib.hid (BL.out.trans hb2)
        clear H2 hb2 kp2 H1 T1 K1 BL B1
        have k0 : w2.cell? ⟨bx, 0, none⟩ = some (.int .i64 z) := by rw [cell_of_row w2 bx 0 _ 28 (0, 0) K2.out]; rfl
        have k1 : w2.cell? ⟨bx, 1, none⟩ = some (.int .i64 (k : Int)) := by rw [cell_of_row w2 bx 1 _ 28 (0, 0) K2.out]; rfl
        have HH3 := Lib.hid (HH2.out.below (below_alloc w2 (.cells #[.int .i64 z, .int .i64 (k : Int)] 28)))
        have T3 := Lib.hid (T2.out.below (below_alloc w2 (.cells #[.int .i64 z, .int .i64 (k : Int)] 28)))
        have BL3 := Lib.hid (BL2.out.alloc BL2.out.size (.cells #[.int .i64 z, .int .i64 (k : Int)] 28))
        have C3 := Lib.hid (show ∀ j u, (thV [(⟨z, (k : Int), P⟩ : It)])[j]? = some u → (w2.alloc (.cells #[.int .i64 z, .int .i64 (k : Int)] 28)).cell? ((⟨w2.heap.size, 0, none⟩ : Addr).add j) = some u from fun j u hu => by rw [add_plain, Nat.zero_add]; exact (CellsAt.new w2 [.int .i64 z, .int .i64 (k : Int)] 28).cell j u hu)
        go_wp2_with (at_builtin; refine wp_appT rfl _ _ rfl w.heap.size _ T rfl T3.out [⟨z, (k : Int), P⟩] ⟨w2.heap.size, 0, none⟩ 1 1 rfl rfl C3.out (by show _ + 1 ≤ _; omega) ?_; intro tv' w4 h41 h42 h43 h44 h45)
        have FIN := Lib.hid (show LwR w len tv' (.int .i64 ((k : Int) + 1)) w4 from by
          have hlen1 : (T ++ [(⟨z, (k : Int), P⟩ : It)]).length = T.length + 1 := by simp
          exact ⟨k + 1, T ++ [⟨z, (k : Int), P⟩], _, P + 1, by go_num, by omega, ⟨⟨v', by rw [hlen1]; exact HH3.out.keep28 h43 h44⟩, HM.out.ok.push z (k : Int), h41, BL3.out.trans h42, by rw [hlen1]; omega, by have := HM.out.pk; omega, by have := HM.out.pk; omega⟩⟩)
        exact ⟨FIN.out, by show 2 * len + 1 - ((k : Int) + 1).toNat < 2 * len + 1 - (k : Int).toNat; omega⟩
      · have hpr : (k < len ∧ ∃ bz oz z, a = some ⟨bz, oz, none⟩ ∧ bz < wr.heap.size ∧ wr.cell? ⟨bz, oz + k, none⟩ = some (.int .i64 z) ∧ z < 0) ∨ ¬ k < len := by
          by_cases hkl : k < len
          · left
            have hzk : zs[k]? = some (zs.getD k 0) := by rw [List.getD_eq_getElem?_getD, List.getElem?_eq_getElem (by have := HL.out; omega)]; rfl
            obtain ⟨bz, oz, h1, lz, cz⟩ := (show SlZ wr (.slice a len c) zs from by rw [HL.out]; exact HZ.out.below M.bel).get hzk
            exact ⟨hkl, bz, oz, _, h1, lz, cz, by omega⟩
          · exact .inr hkl
        obtain ⟨wo, rfl⟩ : ∃ wo : World, wo = wr := ⟨_, rfl⟩
        obtain ⟨ta, tcp, rfl⟩ := M.row.slice
        obtain ⟨n, hn⟩ : ∃ n, n = T.length := ⟨_, rfl⟩
        have HN := Lib.hid hn
        have hnb : n ≤ 2000 := by have := M.le; have := M.pl; omega
        rw [← hn] at HM ⊢
        clear hn M
        by_cases hn0 : n = 0
        · subst hn0
          rcases hpr with ⟨hkl, bz, oz, z, rfl, lz, cz, hz0⟩ | hkl
          · have t3 : decide ((k : Int) < (len : Int)) = true := decide_eq_true (by omega)
            have t3n : decide (k < len) = true := decide_eq_true hkl
            have a1 : (k : Int) < (len : Int) := by omega
            have a2 : (0 : Int) ≤ (k : Int) := by omega
            have t4 : decide ((0 : Int) ≤ z) = false := decide_eq_false (by omega)
            obtain ⟨v, hv⟩ := HM.out.heap
            rw [← HN.out] at hv
            have H2 := Lib.hid hv
            clear hv
            go_wp2_with fail
            refine wp_loop_rounds 1 ?_
            rw [rounds_succ]
            go_wp2_with fail
            refine (peek_none H2.out).mono ?_
            rintro e w3 ⟨rfl, hb3⟩
            have H3 := Lib.hid ((H2.out.below hb3).below (below_alloc w3 (.cells #[.int .i64 0, .int .i64 0] 28)))
            have BL3 := Lib.hid (hb3.alloc hb3.size (.cells #[.int .i64 0, .int .i64 0] 28))
            have K3 := Lib.hid (heap_alloc_new w3 (.cells #[.int .i64 0, .int .i64 0] 28))
            clear hb3
            go_wp2_with fail
            change Hid ((w3.alloc (.cells #[.int .i64 0, .int .i64 0] 28)).heap[w3.heap.size]? = some (.cells #[.int .i64 0, .int .i64 0] 28 (0, 0))) at K3
            generalize w3.alloc (.cells #[.int .i64 0, .int .i64 0] 28) = x3 at H3 BL3 K3 ⊢
            generalize w3.heap.size = bx3 at K3 ⊢
            refine (pop_none H3.out).mono ?_
            rintro e w4 ⟨rfl, hb4⟩
            have BL4 := Lib.hid ((BL3.out.trans (hb4.mono BL3.out.size)).alloc (Nat.le_trans BL3.out.size hb4.size) (.cells #[.int .i64 0, .int .i64 0] 28))
            have K4 := Lib.hid (show (w4.alloc (.cells #[.int .i64 0, .int .i64 0] 28)).heap[bx3]? = _ from (KeepT.below (below_alloc w4 _)) bx3 28 _ (by decide) (by decide) (KeepT.below hb4 bx3 28 _ (by decide) (by decide) K3.out))
            have L4 := Lib.hid (heap_alloc_new w4 (.cells #[.int .i64 0, .int .i64 0] 28))
            clear hb4 H3 BL3 K3
            go_upto_region 20 with fail
            change Hid ((w4.alloc (.cells #[.int .i64 0, .int .i64 0] 28)).heap[w4.heap.size]? = some (.cells #[.int .i64 0, .int .i64 0] 28 (0, 0))) at L4
            generalize w4.alloc (.cells #[.int .i64 0, .int .i64 0] 28) = x4 at BL4 K4 L4 ⊢
            generalize w4.heap.size = bx4 at L4 ⊢
            have p0 : x4.cell? ⟨bx3, 0, none⟩ = some (.int .i64 0) := by rw [cell_of_row x4 bx3 0 _ 28 (0, 0) K4.out]; rfl
            have p1 : x4.cell? ⟨bx3, 1, none⟩ = some (.int .i64 0) := by rw [cell_of_row x4 bx3 1 _ 28 (0, 0) K4.out]; rfl
            have q0 : x4.cell? ⟨bx4, 0, none⟩ = some (.int .i64 0) := by rw [cell_of_row x4 bx4 0 _ 28 (0, 0) L4.out]; rfl
            have q1 : x4.cell? ⟨bx4, 1, none⟩ = some (.int .i64 0) := by rw [cell_of_row x4 bx4 1 _ 28 (0, 0) L4.out]; rfl
            have lp := lt_of_heap K4.out
            have lq := lt_of_heap L4.out
            have FIN := Lib.hid (show LwR w len (.slice ta 0 tcp) (.int .i64 ((k : Int) + 1)) x4 from by
              obtain ⟨v, hv⟩ := HM.out.heap
              exact ⟨k + 1, T, F, P, by go_num, by omega, ⟨⟨v, hv.below BL4.out⟩, HM.out.ok, HM.out.row.below BL4.out, HM.out.bel.trans (BL4.out.mono HM.out.bel.size), HM.out.le, by have := HM.out.pk; omega, HM.out.pl⟩⟩)
            go_wp2_with fail
            exact ⟨FIN.out, by show 2 * len + 1 - ((k : Int) + 1).toNat < 2 * len + 1 - (k : Int).toNat; omega⟩
          · have t3 : decide ((k : Int) < (len : Int)) = false := decide_eq_false (by omega)
            have t3n : decide (k < len) = false := decide_eq_false hkl
            obtain ⟨v, hv⟩ := HM.out.heap
            rw [← HN.out] at hv
            have H2 := Lib.hid hv
            clear hv
            go_wp2_with fail
            refine wp_loop_rounds 1 ?_
            rw [rounds_succ]
            go_wp2_with fail
            refine (peek_none H2.out).mono ?_
            rintro e w3 ⟨rfl, hb3⟩
            have H3 := Lib.hid ((H2.out.below hb3).below (below_alloc w3 (.cells #[.int .i64 0, .int .i64 0] 28)))
            have BL3 := Lib.hid (hb3.alloc hb3.size (.cells #[.int .i64 0, .int .i64 0] 28))
            have K3 := Lib.hid (heap_alloc_new w3 (.cells #[.int .i64 0, .int .i64 0] 28))
            clear hb3
            go_wp2_with fail
            change Hid ((w3.alloc (.cells #[.int .i64 0, .int .i64 0] 28)).heap[w3.heap.size]? = some (.cells #[.int .i64 0, .int .i64 0] 28 (0, 0))) at K3
            generalize w3.alloc (.cells #[.int .i64 0, .int .i64 0] 28) = x3 at H3 BL3 K3 ⊢
            generalize w3.heap.size = bx3 at K3 ⊢
            refine (pop_none H3.out).mono ?_
            rintro e w4 ⟨rfl, hb4⟩
            have BL4 := Lib.hid ((BL3.out.trans (hb4.mono BL3.out.size)).alloc (Nat.le_trans BL3.out.size hb4.size) (.cells #[.int .i64 0, .int .i64 0] 28))
            have K4 := Lib.hid (show (w4.alloc (.cells #[.int .i64 0, .int .i64 0] 28)).heap[bx3]? = _ from (KeepT.below (below_alloc w4 _)) bx3 28 _ (by decide) (by decide) (KeepT.below hb4 bx3 28 _ (by decide) (by decide) K3.out))
            have L4 := Lib.hid (heap_alloc_new w4 (.cells #[.int .i64 0, .int .i64 0] 28))
            clear hb4 H3 BL3 K3
            go_upto_region 20 with fail
            change Hid ((w4.alloc (.cells #[.int .i64 0, .int .i64 0] 28)).heap[w4.heap.size]? = some (.cells #[.int .i64 0, .int .i64 0] 28 (0, 0))) at L4
            generalize w4.alloc (.cells #[.int .i64 0, .int .i64 0] 28) = x4 at BL4 K4 L4 ⊢
            generalize w4.heap.size = bx4 at L4 ⊢
            have p0 : x4.cell? ⟨bx3, 0, none⟩ = some (.int .i64 0) := by rw [cell_of_row x4 bx3 0 _ 28 (0, 0) K4.out]; rfl
            have p1 : x4.cell? ⟨bx3, 1, none⟩ = some (.int .i64 0) := by rw [cell_of_row x4 bx3 1 _ 28 (0, 0) K4.out]; rfl
            have q0 : x4.cell? ⟨bx4, 0, none⟩ = some (.int .i64 0) := by rw [cell_of_row x4 bx4 0 _ 28 (0, 0) L4.out]; rfl
            have q1 : x4.cell? ⟨bx4, 1, none⟩ = some (.int .i64 0) := by rw [cell_of_row x4 bx4 1 _ 28 (0, 0) L4.out]; rfl
            have lp := lt_of_heap K4.out
            have lq := lt_of_heap L4.out
            have FIN := Lib.hid (show LwR w len (.slice ta 0 tcp) (.int .i64 ((k : Int) + 1)) x4 from by
              obtain ⟨v, hv⟩ := HM.out.heap
              exact ⟨k + 1, T, F, P, by go_num, by omega, ⟨⟨v, hv.below BL4.out⟩, HM.out.ok, HM.out.row.below BL4.out, HM.out.bel.trans (BL4.out.mono HM.out.bel.size), HM.out.le, by have := HM.out.pk; omega, HM.out.pl⟩⟩)
            go_wp2_with fail
            exact ⟨FIN.out, by show 2 * len + 1 - ((k : Int) + 1).toNat < 2 * len + 1 - (k : Int).toNat; omega⟩
        · have hn1 : 0 < n := by omega
          obtain ⟨g, tcap, hta, hBg, hgl, hcap⟩ := HM.out.row.form (by have := HN.out; omega)
          rw [← HN.out] at hta hcap
          injection hta with hta _ hcp
          subst hta hcp
          rcases hpr with ⟨hkl, bz, oz, z, rfl, lz, cz, hz0⟩ | hkl
          · have t3 : decide ((k : Int) < (len : Int)) = true := decide_eq_true (by omega)
            have t3n : decide (k < len) = true := decide_eq_true hkl
            have a1 : (k : Int) < (len : Int) := by omega
            have a2 : (0 : Int) ≤ (k : Int) := by omega
            have t4 : decide ((0 : Int) ≤ z) = false := decide_eq_false (by omega)
            have ST2 := Lib.hid (show InR T n wo (.int .i64 (-1)) (.int .i64 0) wo from ⟨0, Nat.zero_le _, rfl, .inl ⟨rfl, rfl⟩, Below.refl _ _⟩)
            go_wp2_with fail
            go_loopw [8, 9] (fun bv kv w' => InR T n wo bv kv w') (fun _ kv _ => n - (intOf kv).toNat)
            case atStart => exact ST2.out
            case round =>
              clear ST2
              obtain ⟨j, hj, rfl, hbv, hb⟩ := hrel
              have Hb := Lib.hid hb
              have T2 := Lib.hid (HM.out.row.below hb)
              clear hb
              by_cases hlt : j < n
              · have u1 : decide ((j : Int) < (n : Int)) = true := decide_eq_true (by omega)
                have u1n : decide (j < n) = true := decide_eq_true hlt
                rcases hbv with ⟨rfl, rfl⟩ | ⟨b, hbj, rfl, hbest⟩
                · go_wp2_with fail
                  go_quiet (fail)
                  go_wp2_with fail
                  exact ⟨InR.first hlt (bdrewB Hb.out _), by show n - (((0 : Nat) : Int) + 1).toNat < n - ((0 : Nat) : Int).toNat; omega⟩
                · have HBest := Lib.hid hbest
                  have cj := T2.out.key HN.out j (by have := HN.out; omega)
                  have cb := T2.out.key HN.out b (by have := HN.out; omega)
                  rw [keyT_at] at cj cb
                  have u2 : decide ((b : Int) < 0) = false := decide_eq_false (by omega)
                  have i1 : (j : Int) < (n : Int) := by omega
                  have i2 : (0 : Int) ≤ (j : Int) := by omega
                  have i3 : (b : Int) < (n : Int) := by omega
                  have i4 : (0 : Int) ≤ (b : Int) := by omega
                  have lg2 : g < wr.heap.size := Nat.lt_of_lt_of_le hgl Hb.out.size
                  by_cases hk3 : keyT T j < keyT T b
                  · have FIN := Lib.hid (fun w' (h : Below wo.heap.size wo w') => InR.better hlt hbj HBest.out hk3 h)
                    have u3 : decide (keyT T j < keyT T b) = true := decide_eq_true hk3
                    generalize keyT T j = kj at *
                    generalize keyT T b = kb at *
                    clear hbest hk3
                    go_wp2_with fail
                    go_quiet (fail)
                    go_wp2_with fail
                    exact ⟨FIN.out _ (bdrewB Hb.out _), by show n - ((j : Int) + 1).toNat < n - (j : Int).toNat; omega⟩
                  · have FIN := Lib.hid (fun w' (h : Below wo.heap.size wo w') => InR.same hlt hbj HBest.out hk3 h)
                    have u3 : decide (keyT T j < keyT T b) = false := decide_eq_false hk3
                    generalize keyT T j = kj at *
                    generalize keyT T b = kb at *
                    clear hbest hk3
                    go_wp2_with fail
                    go_quiet (fail)
                    go_wp2_with fail
                    exact ⟨FIN.out _ (bdrewB Hb.out _), by show n - ((j : Int) + 1).toNat < n - (j : Int).toNat; omega⟩
              · obtain rfl : j = n := by omega
                rcases hbv with ⟨rfl, rfl⟩ | ⟨b, hbj, rfl, hbest⟩
                · omega
                · have u1 : decide ((j : Int) < (j : Int)) = false := decide_eq_false (by omega)
                  have hbT : b < T.length := by have := HN.out; omega
                  have hF : F 0 = T[b] := first_best HM.out.ok.up (by have := HM.out.ok.heap; exact this) HM.out.ok.set (by have := HN.out; omega) hbT (fun i hi => by rw [keyT_at, keyT_at]; exact hbest.le i (by have := HN.out; omega)) (fun i hi hib => by rw [keyT_at, keyT_at]; exact hbest.lt i hib)
                  obtain ⟨x0, hx0⟩ : ∃ x0, x0 = F 0 := ⟨_, rfl⟩
                  have HX := Lib.hid hx0
                  have HF := Lib.hid (hx0.trans hF)
                  obtain ⟨N, hNN⟩ : ∃ N, j = N + 1 := ⟨j - 1, by omega⟩
                  obtain ⟨v, hv⟩ := HM.out.heap
                  rw [← HN.out] at hv
                  have H2 := Lib.hid (hv.below Hb.out)
                  have PK := Lib.hid (peek_ok H2.out (by omega))
                  rw [← hx0] at PK
                  have BL2 := Lib.hid (HM.out.bel.trans (Hb.out.mono HM.out.bel.size))
                  have c0 := T2.out.key HN.out b hbT
                  have c1 := T2.out.who HN.out b hbT
                  rw [← HF.out] at c0 c1
                  have HCELL := Lib.hid (And.intro c0 c1)
                  clear hF hx0 hv hbest c0 c1
                  go_wp2_with fail
                  refine PK.out.mono ?_
                  rintro e w3 ⟨rfl, hb3⟩
                  have H3 := Lib.hid ((H2.out.below hb3).below (below_alloc w3 (.cells #[.int .i64 x0.key, .int .i64 x0.who] 28)))
                  have T3 := Lib.hid ((T2.out.below hb3).below (below_alloc w3 (.cells #[.int .i64 x0.key, .int .i64 x0.who] 28)))
                  have BL3 := Lib.hid ((BL2.out.trans (hb3.mono BL2.out.size)).alloc (Nat.le_trans BL2.out.size hb3.size) (.cells #[.int .i64 x0.key, .int .i64 x0.who] 28))
                  have K3 := Lib.hid (heap_alloc_new w3 (.cells #[.int .i64 x0.key, .int .i64 x0.who] 28))
                  clear PK hb3 H2 T2 BL2
                  go_wp2_with fail
                  change Hid ((w3.alloc (.cells #[.int .i64 x0.key, .int .i64 x0.who] 28)).heap[w3.heap.size]? = some (.cells #[.int .i64 x0.key, .int .i64 x0.who] 28 (0, 0))) at K3
                  generalize w3.alloc (.cells #[.int .i64 x0.key, .int .i64 x0.who] 28) = x3 at H3 T3 BL3 K3 ⊢
                  generalize w3.heap.size = bx3 at K3 ⊢
                  subst hNN
                  have PP := HM.out.ok.pop (N := N) (by have := HN.out; omega) hbT (HX.out.symm.trans HF.out)
                  have OK2 := Lib.hid PP.2
                  have PO := Lib.hid (pop_ok H3.out (by omega))
                  rw [PP.1, ← HF.out] at PO
                  clear PP
                  generalize (carryI F 0 (sinkI F N (F N) 0) (F N)).1 = F2 at OK2 PO
                  refine PO.out.mono ?_
                  rintro e w4 ⟨rfl, ⟨v4, hh4⟩, hb4, kp4⟩
                  have H4 := Lib.hid (hh4.below (below_alloc w4 (.cells #[.int .i64 x0.key, .int .i64 x0.who] 28)))
                  have T4 := Lib.hid ((T3.out.kept kp4 hb4.size).below (below_alloc w4 (.cells #[.int .i64 x0.key, .int .i64 x0.who] 28)))
                  have BL4 := Lib.hid ((BL3.out.trans hb4).alloc (Nat.le_trans BL3.out.size hb4.size) (.cells #[.int .i64 x0.key, .int .i64 x0.who] 28))
                  have K4 := Lib.hid (show (w4.alloc (.cells #[.int .i64 x0.key, .int .i64 x0.who] 28)).heap[bx3]? = _ from (KeepT.below (below_alloc w4 _)) bx3 28 _ (by decide) (by decide) (kp4 bx3 28 _ (by decide) (by decide) K3.out))
                  have L4 := Lib.hid (heap_alloc_new w4 (.cells #[.int .i64 x0.key, .int .i64 x0.who] 28))
                  clear PO hh4 hb4 kp4 H3 T3 BL3 K3
                  go_upto_region 20 with fail
                  change Hid ((w4.alloc (.cells #[.int .i64 x0.key, .int .i64 x0.who] 28)).heap[w4.heap.size]? = some (.cells #[.int .i64 x0.key, .int .i64 x0.who] 28 (0, 0))) at L4
                  generalize w4.alloc (.cells #[.int .i64 x0.key, .int .i64 x0.who] 28) = x4 at H4 T4 BL4 K4 L4 ⊢
                  generalize w4.heap.size = bx4 at L4 ⊢
                  have p0 : x4.cell? ⟨bx3, 0, none⟩ = some (.int .i64 x0.key) := by rw [cell_of_row x4 bx3 0 _ 28 (0, 0) K4.out]; rfl
                  have p1 : x4.cell? ⟨bx3, 1, none⟩ = some (.int .i64 x0.who) := by rw [cell_of_row x4 bx3 1 _ 28 (0, 0) K4.out]; rfl
                  have q0 : x4.cell? ⟨bx4, 0, none⟩ = some (.int .i64 x0.key) := by rw [cell_of_row x4 bx4 0 _ 28 (0, 0) L4.out]; rfl
                  have q1 : x4.cell? ⟨bx4, 1, none⟩ = some (.int .i64 x0.who) := by rw [cell_of_row x4 bx4 1 _ 28 (0, 0) L4.out]; rfl
                  have lp := lt_of_heap K4.out
                  have lq := lt_of_heap L4.out
                  have u2 : decide ((0 : Int) ≤ (b : Int)) = true := decide_eq_true (by omega)
                  have u3 : decide ((b : Int) < 0) = false := decide_eq_false (by omega)
                  go_upto_region 25 with fail
                  have t0 := T4.out.key HN.out b hbT
                  have t1' := T4.out.who HN.out b hbT
                  rw [← HF.out] at t0 t1'
                  have lg4 : g < x4.heap.size := by
                    obtain ⟨g', cap', e1, _, e3, _⟩ := T4.out.form (by have := HN.out; omega)
                    injection e1 with e1 _ _
                    injection e1 with e1
                    injection e1 with e1 _
                    omega
                  have i1 : (b : Int) < (N : Int) + 1 := by omega
                  have i2 : (0 : Int) ≤ (b : Int) := by omega
                  go_quiet (fail)
                  have H5 := Lib.hid (H4.out.below (below_drewN x4 nq))
                  have T5 := Lib.hid (T4.out.below (below_drewN x4 nq))
                  have BL5 := Lib.hid (bdrewB BL4.out nq)
                  clear t0 t1' lg4 p0 p1 q0 q1 lp lq H4 T4 BL4 K4 L4
                  generalize x4.drewN nq = x5 at H5 T5 BL5 ⊢
                  have i3 : (b : Int) ≤ (tcp : Int) := by omega
                  have C5 := Lib.hid (show ∀ i u, (thV (T.take b))[i]? = some u → x5.cell? ((⟨g, 0, none⟩ : Addr).add i) = some u from fun i u hu => by
                    rw [add_plain, Nat.zero_add]
                    rw [thV_take, List.getElem?_take] at hu
                    split at hu
                    · have hc := T5.out.1.cells (g := g) (by rfl) i u hu
                      rw [add_plain, Nat.zero_add] at hc
                      exact hc
                    · cases hu)
                  go_upto_region 29 with (at_builtin; refine wp_appT rfl _ _ rfl w.heap.size (.slice none 0 0) [] rfl ⟨World.ownsRow_nil _ _ _ _, BL5.out.size⟩ (T.take b) ⟨g, 0, none⟩ _ _ (by rw [List.length_take]; omega) rfl C5.out (by rw [List.length_take]; simp; omega) ?_; intro v6 w6 h61 h62 h63 h64 h65)
                  have bl6 : Below x5.heap.size x5 w6 := ⟨h62.os, h62.tape, h62.output, h64, fun q hq => h65 q hq (fun e => by cases e)⟩
                  have H6 := Lib.hid (H5.out.below bl6)
                  have T6 := Lib.hid (T5.out.below bl6)
                  have BL6 := Lib.hid (BL5.out.trans h62)
                  rw [List.nil_append] at h61
                  have V6 := Lib.hid h61
                  clear h61 h62 h63 h64 h65 bl6 C5 H5 T5 BL5
                  have U6 := Lib.hid (show ∀ i u, (thV (T.drop (b + 1)))[i]? = some u → w6.cell? ((⟨g, (b + 1) * 2, none⟩ : Addr).add i) = some u from fun i u hu => by
                    rw [add_plain]
                    rw [thV_drop, List.getElem?_drop] at hu
                    have hc := T6.out.1.cells (g := g) (by rfl) ((b + 1) * 2 + i) u hu
                    rw [add_plain, Nat.zero_add] at hc
                    exact hc)
                  have i4 : (b : Int) + 1 ≤ (N : Int) + 1 := by omega
                  by_cases hcb : tcp = b + 1
                  · obtain rfl : b = N := by omega
                    subst hcb
                    have U7 := Lib.hid (show ∀ i u, (thV (T.drop (b + 1)))[i]? = some u → w6.cell? ((⟨g, 0, none⟩ : Addr).add i) = some u from fun i u hu => by
                      rw [List.drop_eq_nil_of_le (by have := HN.out; omega)] at hu
                      simp [thV] at hu)
                    go_upto_region 30 with (at_builtin; refine wp_appT rfl _ _ rfl w.heap.size v6 (T.take b) rfl V6.out (T.drop (b + 1)) ⟨g, 0, none⟩ _ _ (by rw [List.length_drop]; have := HN.out; omega) rfl U7.out (by rw [List.length_take, List.length_drop]; have := HN.out; omega) ?_; intro v7 w7 h71 h72 h73 h74 h75)
                    change TRow w7 w.heap.size v7 (less1 T b) at h71
                    have hln : (less1 T b).length = b := by have := less1_len hbT; have := HN.out; omega
                    obtain ⟨ta7, tc7, rfl⟩ := h71.slice
                    have H7 := Lib.hid (H6.out.keep28 h73 h74)
                    have FIN := Lib.hid (show LwR w len (.slice ta7 b tc7) (.int .i64 ((k : Int) + 1)) w7 from by
                      refine ⟨k + 1, less1 T b, F2, P, by go_num, by omega, ⟨⟨v4, by rw [hln]; exact H7.out⟩, OK2.out, (by have e := h71; rw [hln] at e; exact e), BL6.out.trans h72, by rw [hln]; have := HM.out.le; have := HN.out; omega, by have := HM.out.pk; omega, HM.out.pl⟩⟩)
                    rw [hln]
                    clear h71 h72 h73 h74 h75 hln
                    go_wp2_with (go_at_call 11; refine (len_ok H7.out).mono ?_; rintro e w8 ⟨rfl, rfl⟩)
                    exact ⟨FIN.out, by show 2 * len + 1 - ((k : Int) + 1).toNat < 2 * len + 1 - (k : Int).toNat; omega⟩
                  · have hcb2 : ¬ (b + 1 = tcp) := fun e => hcb e.symm
                    have U7 := U6
                    go_upto_region 30 with (at_builtin; refine wp_appT rfl _ _ rfl w.heap.size v6 (T.take b) rfl V6.out (T.drop (b + 1)) ⟨g, (b + 1) * 2, none⟩ _ _ (by rw [List.length_drop]; have := HN.out; omega) rfl U7.out (by rw [List.length_take, List.length_drop]; have := HN.out; omega) ?_; intro v7 w7 h71 h72 h73 h74 h75)
                    change TRow w7 w.heap.size v7 (less1 T b) at h71
                    have hln : (less1 T b).length = N := by have := less1_len hbT; have := HN.out; omega
                    obtain ⟨ta7, tc7, rfl⟩ := h71.slice
                    have H7 := Lib.hid (H6.out.keep28 h73 h74)
                    have FIN := Lib.hid (show LwR w len (.slice ta7 N tc7) (.int .i64 ((k : Int) + 1)) w7 from by
                      refine ⟨k + 1, less1 T b, F2, P, by go_num, by omega, ⟨⟨v4, by rw [hln]; exact H7.out⟩, OK2.out, (by have e := h71; rw [hln] at e; exact e), BL6.out.trans h72, by rw [hln]; have := HM.out.le; have := HN.out; omega, by have := HM.out.pk; omega, HM.out.pl⟩⟩)
                    rw [hln]
                    clear h71 h72 h73 h74 h75 hln
                    go_wp2_with (go_at_call 11; refine (len_ok H7.out).mono ?_; rintro e w8 ⟨rfl, rfl⟩)
                    exact ⟨FIN.out, by show 2 * len + 1 - ((k : Int) + 1).toNat < 2 * len + 1 - (k : Int).toNat; omega⟩
          · have t3 : decide ((k : Int) < (len : Int)) = false := decide_eq_false (by omega)
            have t3n : decide (k < len) = false := decide_eq_false hkl
            have ST2 := Lib.hid (show InR T n wo (.int .i64 (-1)) (.int .i64 0) wo from ⟨0, Nat.zero_le _, rfl, .inl ⟨rfl, rfl⟩, Below.refl _ _⟩)
            go_wp2_with fail
            go_loopw [8, 9] (fun bv kv w' => InR T n wo bv kv w') (fun _ kv _ => n - (intOf kv).toNat)
            case atStart => exact ST2.out
            case round =>
              clear ST2
              obtain ⟨j, hj, rfl, hbv, hb⟩ := hrel
              have Hb := Lib.hid hb
              have T2 := Lib.hid (HM.out.row.below hb)
              clear hb
              by_cases hlt : j < n
              · have u1 : decide ((j : Int) < (n : Int)) = true := decide_eq_true (by omega)
                have u1n : decide (j < n) = true := decide_eq_true hlt
                rcases hbv with ⟨rfl, rfl⟩ | ⟨b, hbj, rfl, hbest⟩
                · go_wp2_with fail
                  go_quiet (fail)
                  go_wp2_with fail
                  exact ⟨InR.first hlt (bdrewB Hb.out _), by show n - (((0 : Nat) : Int) + 1).toNat < n - ((0 : Nat) : Int).toNat; omega⟩
                · have HBest := Lib.hid hbest
                  have cj := T2.out.key HN.out j (by have := HN.out; omega)
                  have cb := T2.out.key HN.out b (by have := HN.out; omega)
                  rw [keyT_at] at cj cb
                  have u2 : decide ((b : Int) < 0) = false := decide_eq_false (by omega)
                  have i1 : (j : Int) < (n : Int) := by omega
                  have i2 : (0 : Int) ≤ (j : Int) := by omega
                  have i3 : (b : Int) < (n : Int) := by omega
                  have i4 : (0 : Int) ≤ (b : Int) := by omega
                  have lg2 : g < wr.heap.size := Nat.lt_of_lt_of_le hgl Hb.out.size
                  by_cases hk3 : keyT T j < keyT T b
                  · have FIN := Lib.hid (fun w' (h : Below wo.heap.size wo w') => InR.better hlt hbj HBest.out hk3 h)
                    have u3 : decide (keyT T j < keyT T b) = true := decide_eq_true hk3
                    generalize keyT T j = kj at *
                    generalize keyT T b = kb at *
                    clear hbest hk3
                    go_wp2_with fail
                    go_quiet (fail)
                    go_wp2_with fail
                    exact ⟨FIN.out _ (bdrewB Hb.out _), by show n - ((j : Int) + 1).toNat < n - (j : Int).toNat; omega⟩
                  · have FIN := Lib.hid (fun w' (h : Below wo.heap.size wo w') => InR.same hlt hbj HBest.out hk3 h)
                    have u3 : decide (keyT T j < keyT T b) = false := decide_eq_false hk3
                    generalize keyT T j = kj at *
                    generalize keyT T b = kb at *
                    clear hbest hk3
                    go_wp2_with fail
                    go_quiet (fail)
                    go_wp2_with fail
                    exact ⟨FIN.out _ (bdrewB Hb.out _), by show n - ((j : Int) + 1).toNat < n - (j : Int).toNat; omega⟩
              · obtain rfl : j = n := by omega
                rcases hbv with ⟨rfl, rfl⟩ | ⟨b, hbj, rfl, hbest⟩
                · omega
                · have u1 : decide ((j : Int) < (j : Int)) = false := decide_eq_false (by omega)
                  have hbT : b < T.length := by have := HN.out; omega
                  have hF : F 0 = T[b] := first_best HM.out.ok.up (by have := HM.out.ok.heap; exact this) HM.out.ok.set (by have := HN.out; omega) hbT (fun i hi => by rw [keyT_at, keyT_at]; exact hbest.le i (by have := HN.out; omega)) (fun i hi hib => by rw [keyT_at, keyT_at]; exact hbest.lt i hib)
                  obtain ⟨x0, hx0⟩ : ∃ x0, x0 = F 0 := ⟨_, rfl⟩
                  have HX := Lib.hid hx0
                  have HF := Lib.hid (hx0.trans hF)
                  obtain ⟨N, hNN⟩ : ∃ N, j = N + 1 := ⟨j - 1, by omega⟩
                  obtain ⟨v, hv⟩ := HM.out.heap
                  rw [← HN.out] at hv
                  have H2 := Lib.hid (hv.below Hb.out)
                  have PK := Lib.hid (peek_ok H2.out (by omega))
                  rw [← hx0] at PK
                  have BL2 := Lib.hid (HM.out.bel.trans (Hb.out.mono HM.out.bel.size))
                  have c0 := T2.out.key HN.out b hbT
                  have c1 := T2.out.who HN.out b hbT
                  rw [← HF.out] at c0 c1
                  have HCELL := Lib.hid (And.intro c0 c1)
                  clear hF hx0 hv hbest c0 c1
                  go_wp2_with fail
                  refine PK.out.mono ?_
                  rintro e w3 ⟨rfl, hb3⟩
                  have H3 := Lib.hid ((H2.out.below hb3).below (below_alloc w3 (.cells #[.int .i64 x0.key, .int .i64 x0.who] 28)))
                  have T3 := Lib.hid ((T2.out.below hb3).below (below_alloc w3 (.cells #[.int .i64 x0.key, .int .i64 x0.who] 28)))
                  have BL3 := Lib.hid ((BL2.out.trans (hb3.mono BL2.out.size)).alloc (Nat.le_trans BL2.out.size hb3.size) (.cells #[.int .i64 x0.key, .int .i64 x0.who] 28))
                  have K3 := Lib.hid (heap_alloc_new w3 (.cells #[.int .i64 x0.key, .int .i64 x0.who] 28))
                  clear PK hb3 H2 T2 BL2
                  go_wp2_with fail
                  change Hid ((w3.alloc (.cells #[.int .i64 x0.key, .int .i64 x0.who] 28)).heap[w3.heap.size]? = some (.cells #[.int .i64 x0.key, .int .i64 x0.who] 28 (0, 0))) at K3
                  generalize w3.alloc (.cells #[.int .i64 x0.key, .int .i64 x0.who] 28) = x3 at H3 T3 BL3 K3 ⊢
                  generalize w3.heap.size = bx3 at K3 ⊢
                  subst hNN
                  have PP := HM.out.ok.pop (N := N) (by have := HN.out; omega) hbT (HX.out.symm.trans HF.out)
                  have OK2 := Lib.hid PP.2
                  have PO := Lib.hid (pop_ok H3.out (by omega))
                  rw [PP.1, ← HF.out] at PO
                  clear PP
                  generalize (carryI F 0 (sinkI F N (F N) 0) (F N)).1 = F2 at OK2 PO
                  refine PO.out.mono ?_
                  rintro e w4 ⟨rfl, ⟨v4, hh4⟩, hb4, kp4⟩
                  have H4 := Lib.hid (hh4.below (below_alloc w4 (.cells #[.int .i64 x0.key, .int .i64 x0.who] 28)))
                  have T4 := Lib.hid ((T3.out.kept kp4 hb4.size).below (below_alloc w4 (.cells #[.int .i64 x0.key, .int .i64 x0.who] 28)))
                  have BL4 := Lib.hid ((BL3.out.trans hb4).alloc (Nat.le_trans BL3.out.size hb4.size) (.cells #[.int .i64 x0.key, .int .i64 x0.who] 28))
                  have K4 := Lib.hid (show (w4.alloc (.cells #[.int .i64 x0.key, .int .i64 x0.who] 28)).heap[bx3]? = _ from (KeepT.below (below_alloc w4 _)) bx3 28 _ (by decide) (by decide) (kp4 bx3 28 _ (by decide) (by decide) K3.out))
                  have L4 := Lib.hid (heap_alloc_new w4 (.cells #[.int .i64 x0.key, .int .i64 x0.who] 28))
                  clear PO hh4 hb4 kp4 H3 T3 BL3 K3
                  go_upto_region 20 with fail
                  change Hid ((w4.alloc (.cells #[.int .i64 x0.key, .int .i64 x0.who] 28)).heap[w4.heap.size]? = some (.cells #[.int .i64 x0.key, .int .i64 x0.who] 28 (0, 0))) at L4
                  generalize w4.alloc (.cells #[.int .i64 x0.key, .int .i64 x0.who] 28) = x4 at H4 T4 BL4 K4 L4 ⊢
                  generalize w4.heap.size = bx4 at L4 ⊢
                  have p0 : x4.cell? ⟨bx3, 0, none⟩ = some (.int .i64 x0.key) := by rw [cell_of_row x4 bx3 0 _ 28 (0, 0) K4.out]; rfl
                  have p1 : x4.cell? ⟨bx3, 1, none⟩ = some (.int .i64 x0.who) := by rw [cell_of_row x4 bx3 1 _ 28 (0, 0) K4.out]; rfl
                  have q0 : x4.cell? ⟨bx4, 0, none⟩ = some (.int .i64 x0.key) := by rw [cell_of_row x4 bx4 0 _ 28 (0, 0) L4.out]; rfl
                  have q1 : x4.cell? ⟨bx4, 1, none⟩ = some (.int .i64 x0.who) := by rw [cell_of_row x4 bx4 1 _ 28 (0, 0) L4.out]; rfl
                  have lp := lt_of_heap K4.out
                  have lq := lt_of_heap L4.out
                  have u2 : decide ((0 : Int) ≤ (b : Int)) = true := decide_eq_true (by omega)
                  have u3 : decide ((b : Int) < 0) = false := decide_eq_false (by omega)
                  go_upto_region 25 with fail
                  have t0 := T4.out.key HN.out b hbT
                  have t1' := T4.out.who HN.out b hbT
                  rw [← HF.out] at t0 t1'
                  have lg4 : g < x4.heap.size := by
                    obtain ⟨g', cap', e1, _, e3, _⟩ := T4.out.form (by have := HN.out; omega)
                    injection e1 with e1 _ _
                    injection e1 with e1
                    injection e1 with e1 _
                    omega
                  have i1 : (b : Int) < (N : Int) + 1 := by omega
                  have i2 : (0 : Int) ≤ (b : Int) := by omega
                  go_quiet (fail)
                  have H5 := Lib.hid (H4.out.below (below_drewN x4 nq))
                  have T5 := Lib.hid (T4.out.below (below_drewN x4 nq))
                  have BL5 := Lib.hid (bdrewB BL4.out nq)
                  clear t0 t1' lg4 p0 p1 q0 q1 lp lq H4 T4 BL4 K4 L4
                  generalize x4.drewN nq = x5 at H5 T5 BL5 ⊢
                  have i3 : (b : Int) ≤ (tcp : Int) := by omega
                  have C5 := Lib.hid (show ∀ i u, (thV (T.take b))[i]? = some u → x5.cell? ((⟨g, 0, none⟩ : Addr).add i) = some u from fun i u hu => by
                    rw [add_plain, Nat.zero_add]
                    rw [thV_take, List.getElem?_take] at hu
                    split at hu
                    · have hc := T5.out.1.cells (g := g) (by rfl) i u hu
                      rw [add_plain, Nat.zero_add] at hc
                      exact hc
                    · cases hu)
                  go_upto_region 29 with (at_builtin; refine wp_appT rfl _ _ rfl w.heap.size (.slice none 0 0) [] rfl ⟨World.ownsRow_nil _ _ _ _, BL5.out.size⟩ (T.take b) ⟨g, 0, none⟩ _ _ (by rw [List.length_take]; omega) rfl C5.out (by rw [List.length_take]; simp; omega) ?_; intro v6 w6 h61 h62 h63 h64 h65)
                  have bl6 : Below x5.heap.size x5 w6 := ⟨h62.os, h62.tape, h62.output, h64, fun q hq => h65 q hq (fun e => by cases e)⟩
                  have H6 := Lib.hid (H5.out.below bl6)
                  have T6 := Lib.hid (T5.out.below bl6)
                  have BL6 := Lib.hid (BL5.out.trans h62)
                  rw [List.nil_append] at h61
                  have V6 := Lib.hid h61
                  clear h61 h62 h63 h64 h65 bl6 C5 H5 T5 BL5
                  have U6 := Lib.hid (show ∀ i u, (thV (T.drop (b + 1)))[i]? = some u → w6.cell? ((⟨g, (b + 1) * 2, none⟩ : Addr).add i) = some u from fun i u hu => by
                    rw [add_plain]
                    rw [thV_drop, List.getElem?_drop] at hu
                    have hc := T6.out.1.cells (g := g) (by rfl) ((b + 1) * 2 + i) u hu
                    rw [add_plain, Nat.zero_add] at hc
                    exact hc)
                  have i4 : (b : Int) + 1 ≤ (N : Int) + 1 := by omega
                  by_cases hcb : tcp = b + 1
                  · obtain rfl : b = N := by omega
                    subst hcb
                    have U7 := Lib.hid (show ∀ i u, (thV (T.drop (b + 1)))[i]? = some u → w6.cell? ((⟨g, 0, none⟩ : Addr).add i) = some u from fun i u hu => by
                      rw [List.drop_eq_nil_of_le (by have := HN.out; omega)] at hu
                      simp [thV] at hu)
                    go_upto_region 30 with (at_builtin; refine wp_appT rfl _ _ rfl w.heap.size v6 (T.take b) rfl V6.out (T.drop (b + 1)) ⟨g, 0, none⟩ _ _ (by rw [List.length_drop]; have := HN.out; omega) rfl U7.out (by rw [List.length_take, List.length_drop]; have := HN.out; omega) ?_; intro v7 w7 h71 h72 h73 h74 h75)
                    change TRow w7 w.heap.size v7 (less1 T b) at h71
                    have hln : (less1 T b).length = b := by have := less1_len hbT; have := HN.out; omega
                    obtain ⟨ta7, tc7, rfl⟩ := h71.slice
                    have H7 := Lib.hid (H6.out.keep28 h73 h74)
                    have FIN := Lib.hid (show LwR w len (.slice ta7 b tc7) (.int .i64 ((k : Int) + 1)) w7 from by
                      refine ⟨k + 1, less1 T b, F2, P, by go_num, by omega, ⟨⟨v4, by rw [hln]; exact H7.out⟩, OK2.out, (by have e := h71; rw [hln] at e; exact e), BL6.out.trans h72, by rw [hln]; have := HM.out.le; have := HN.out; omega, by have := HM.out.pk; omega, HM.out.pl⟩⟩)
                    rw [hln]
                    clear h71 h72 h73 h74 h75 hln
                    go_wp2_with (go_at_call 11; refine (len_ok H7.out).mono ?_; rintro e w8 ⟨rfl, rfl⟩)
                    exact ⟨FIN.out, by show 2 * len + 1 - ((k : Int) + 1).toNat < 2 * len + 1 - (k : Int).toNat; omega⟩
                  · have hcb2 : ¬ (b + 1 = tcp) := fun e => hcb e.symm
                    have U7 := U6
                    go_upto_region 30 with (at_builtin; refine wp_appT rfl _ _ rfl w.heap.size v6 (T.take b) rfl V6.out (T.drop (b + 1)) ⟨g, (b + 1) * 2, none⟩ _ _ (by rw [List.length_drop]; have := HN.out; omega) rfl U7.out (by rw [List.length_take, List.length_drop]; have := HN.out; omega) ?_; intro v7 w7 h71 h72 h73 h74 h75)
                    change TRow w7 w.heap.size v7 (less1 T b) at h71
                    have hln : (less1 T b).length = N := by have := less1_len hbT; have := HN.out; omega
                    obtain ⟨ta7, tc7, rfl⟩ := h71.slice
                    have H7 := Lib.hid (H6.out.keep28 h73 h74)
                    have FIN := Lib.hid (show LwR w len (.slice ta7 N tc7) (.int .i64 ((k : Int) + 1)) w7 from by
                      refine ⟨k + 1, less1 T b, F2, P, by go_num, by omega, ⟨⟨v4, by rw [hln]; exact H7.out⟩, OK2.out, (by have e := h71; rw [hln] at e; exact e), BL6.out.trans h72, by rw [hln]; have := HM.out.le; have := HN.out; omega, by have := HM.out.pk; omega, HM.out.pl⟩⟩)
                    rw [hln]
                    clear h71 h72 h73 h74 h75 hln
                    go_wp2_with (go_at_call 11; refine (len_ok H7.out).mono ?_; rintro e w8 ⟨rfl, rfl⟩)
                    exact ⟨FIN.out, by show 2 * len + 1 - ((k : Int) + 1).toNat < 2 * len + 1 - (k : Int).toNat; omega⟩
    · have t2 : decide ((k : Int) ≤ 2 * (len : Int)) = false := decide_eq_false (by omega)
      have t2n : decide (k ≤ 2 * len) = false := decide_eq_false (by omega)
      clear M
      go_wp2_with fail
      go_ret
      exact ⟨rfl, HM.out.bel⟩
end Go.Proofs.Ytiegpjlobpmacaa
