/- CollateBlind: the mathematics and the walk. -/
import Derived.Test.YtgpcmlbmmcnkjaaGreatDoorTc
import Derived.Test.YtgpcmlbmmcnkjaaGreatDoorTh
import Derived.Deep.MidRow
namespace Go.Proofs.YtgpcmlbmmcnkjaaGreatDoor
open Go.RowKit
set_option maxRecDepth 100000
theorem spL_whole (s : ByteArray) (oo : Option UInt8) (K : KeyL) (h1 : K.f = 1) (h2 : K.c = 1) (h3 : K.ef = 0) (hb : bB K.m = false) : spL s oo [K] 0 = (0, s.size) := by
  unfold spL
  simp only [List.getElem?_cons_zero]
  rw [h1, h2, h3]
  have e0 : spanB s.data.toList oo 1 1 K.m = 0 := by
    unfold spanB furS
    rw [hb]
    simp [fbeg]
  have e1 : spanE s.data.toList oo 0 K.ec.toNat K.b = s.size := by
    unfold spanE
    rw [if_pos rfl, ← Lib.size_eq]
  show ((spanB s.data.toList oo 1 1 K.m : Nat), max (spanB s.data.toList oo 1 1 K.m) (spanE s.data.toList oo 0 K.ec.toNat K.b)) = _
  rw [e0, e1, Nat.zero_max]
theorem ext_whole (s : ByteArray) : s.extract 0 s.size = s := by
  apply ByteArray.ext
  rw [ByteArray.data_extract]
  exact Array.extract_size
/-- An order of one key. -/
theorem kyS_one (oo : Option UInt8) (K : KeyL) (a b : ByteArray) : kyS oo [K] a b = zK K.m (cutL a oo [K] 0).data.toList (cutL b oo [K] 0).data.toList := by
  show (if zK K.m (cutL a oo [K] 0).data.toList (cutL b oo [K] 0).data.toList = 0 then (0 : Int) else zK K.m (cutL a oo [K] 0).data.toList (cutL b oo [K] 0).data.toList) = _
  split
  · rename_i h; exact h.symm
  · rfl
theorem filt_idem (lets : Nat) (hl : lets = 0 ∨ lets = 2 ∨ lets = 4) (fo : Bool) (l : List UInt8) : filtS lets fo (filtS lets fo l) = filtS lets fo l := by
  have h1 : ∀ c : UInt8, turnB fo (turnB fo c) = turnB fo c := fun c => by
    unfold turnB
    by_cases h : fo = true ∧ 97 ≤ c.toNat ∧ c.toNat ≤ 122
    · rw [if_pos h, if_neg]
      rw [UInt8.toNat_ofNat']
      omega
    · rw [if_neg h, if_neg h]
  have h2 : ∀ c : UInt8, cntB lets (turnB fo c) = cntB lets c := fun c => by
    unfold turnB
    by_cases h : fo = true ∧ 97 ≤ c.toNat ∧ c.toNat ≤ 122
    · rw [if_pos h]
      unfold cntB
      have e : (UInt8.ofNat (c.toNat - 32)).toNat = c.toNat - 32 := by rw [UInt8.toNat_ofNat']; omega
      rw [e]
      obtain ⟨_, q1, q2⟩ := h
      generalize c.toNat = n at *
      rcases hl with rfl | rfl | rfl
      · rfl
      · have l1 : cntN 2 (n - 32) = true := by
          unfold cntN
          have a1 : decide (65 ≤ n - 32) = true := decide_eq_true (by omega)
          simp [a1]
          omega
        have l2 : cntN 2 n = true := by
          unfold cntN
          simp
          omega
        rw [l1, l2]
      · have l1 : cntN 4 (n - 32) = true := by
          unfold cntN
          simp
          omega
        have l2 : cntN 4 n = true := by
          unfold cntN
          simp
          omega
        rw [l1, l2]
    · rw [if_neg h]
  unfold filtS
  rw [List.filter_map, List.map_map]
  have e1 : (cntB lets ∘ turnB fo) = cntB lets := by funext c; exact h2 c
  have e2 : (turnB fo ∘ turnB fo) = turnB fo := by funext c; exact h1 c
  rw [e1, e2, List.filter_filter]
  simp
theorem less_cb : ∀ (p q : List UInt8), Op.bytesLess p q = decide (Lib.compareBytes p q = -1)
  | [], [] => rfl
  | [], _ :: _ => rfl
  | _ :: _, [] => rfl
  | x :: p, y :: q => by
    rw [Op.bytesLess, Lib.compareBytes, less_cb p q]
    by_cases h1 : x < y
    · simp [h1]
    · by_cases h2 : y < x
      · have h3 : ¬ x = y := fun e => by rw [e] at h2; exact UInt8.lt_irrefl _ h2
        simp [h1, h2, h3]
      · have h3 : x = y := UInt8.le_antisymm (UInt8.not_lt.1 h2) (UInt8.not_lt.1 h1)
        simp [h3]
theorem eq_cb (p q : List UInt8) : (p == q) = decide (Lib.compareBytes p q = 0) := by
  by_cases h : p = q
  · subst h
    rw [decide_eq_true (cb_self p)]
    simp
  · rw [decide_eq_false (fun e => h (cb_zero p q e))]
    exact beq_eq_false_iff_ne.2 h
theorem sz_setsB (b : Nat) : ∀ (vs : List Value) (o : Nat) (w : World), (w.setCells b o vs).heap.size = w.heap.size
  | [], _, _ => rfl
  | v :: r, o, w => by rw [World.setCells, sz_setsB b r]; simp
theorem bel_setsB {B b : Nat} (hB : B ≤ b) : ∀ (vs : List Value) (o : Nat) {a w : World}, Below B a w → Below B a (w.setCells b o vs)
  | [], _, _, _, h => h
  | v :: r, o, _, _, h => bel_setsB hB r (o + 1) (h.setCell (p := ⟨b, o, none⟩) hB v)
theorem CellsAt.overB {w : World} {b : Nat} {vs xs : List Value} (h : CellsAt w b vs) (hl : xs.length = vs.length) : CellsAt (w.setCells b 0 xs) b xs := by
  have ht : w.there b 0 xs.length := by rw [hl]; exact h.there
  refine ⟨by rw [sz_setsB]; exact h.lt, fun j v hv => ?_, fun j => by rw [World.frozen?_setCells]; exact h.free j⟩
  have := World.rangeAt_setCells_same w b 0 xs ht j v hv
  rwa [Nat.zero_add] at this
theorem CellsAt.apartB {w : World} {b c o : Nat} {vs xs : List Value} (h : CellsAt w b vs) (hc : b ≠ c) : CellsAt (w.setCells c o xs) b vs :=
  ⟨by rw [sz_setsB]; exact h.lt, fun j v hv => by rw [World.cell?_setCells_out _ _ _ _ _ (fun e => absurd e hc)]; exact h.cell j v hv, fun j => by rw [World.frozen?_setCells]; exact h.free j⟩
def zOB : List Value := [.slice none 0 0, .int .u16 0, .int .i64 0, .bool false, .bool false, .bool false, .bool false, .int .u8 0, .string { data := #[] }, .bool false, .int .i64 0, .int .i64 0, .int .i64 0, .int .i64 0, .string { data := #[] }, .bool false, .string { data := #[] }, .slice none 0 0]
/-- The plain options with modifiers. -/
def cM (M : Nat) : List Value := optC (o3 M (-1)) (.slice none 0 0) (.slice none 0 0)
theorem cM_set (M N : Nat) : (cM M).set 1 (.int .u16 (N : Int)) = cM N := rfl
theorem start_b (w : World) :
    (w.alloc (.cells #[.slice none 0 0, .int .u16 0, .int .i64 0, .bool false, .bool false, .bool false, .bool false, .int .u8 0, .string { data := #[] }, .bool false, .int .i64 0, .int .i64 0, .int .i64 0, .int .i64 0, .string { data := #[] }, .bool false, .string { data := #[] }, .slice none 0 0] 28)).there w.heap.size 0 (cM 0).toArray.size ∧
    CellsAt ((w.alloc (.cells #[.slice none 0 0, .int .u16 0, .int .i64 0, .bool false, .bool false, .bool false, .bool false, .int .u8 0, .string { data := #[] }, .bool false, .int .i64 0, .int .i64 0, .int .i64 0, .int .i64 0, .string { data := #[] }, .bool false, .string { data := #[] }, .slice none 0 0] 28)).setCells w.heap.size 0 (cM 0)) w.heap.size (cM 0) ∧
    Below w.heap.size w ((w.alloc (.cells #[.slice none 0 0, .int .u16 0, .int .i64 0, .bool false, .bool false, .bool false, .bool false, .int .u8 0, .string { data := #[] }, .bool false, .int .i64 0, .int .i64 0, .int .i64 0, .int .i64 0, .string { data := #[] }, .bool false, .string { data := #[] }, .slice none 0 0] 28)).setCells w.heap.size 0 (cM 0)) := by
  have Z := CellsAt.new w zOB 28
  exact ⟨Z.there, Z.overB rfl, bel_setsB (Nat.le_refl _) _ _ ((Below.refl _ _).alloc (Nat.le_refl _) (Obj.cells zOB.toArray 28))⟩
theorem cM_len (M : Nat) : (Tryz.prog.info? 28).map (·.size) = some (cM M).length := by kernel_rfl
theorem cM_sz : (Tryz.prog.info? 28).map (·.size) = some (cM 0).toArray.size := by kernel_rfl
theorem cM_one : (cM 0).toArray.all (·.oneCell') = true := by kernel_rfl
def RetMB (W : World) (a b x : ByteArray) (n : Int) (e : Ending) (w' : World) : Prop :=
  ∃ P, e = .returned (.tuple #[.pointer (some ⟨P, 0, none⟩), .bool true]) ∧ Below W.heap.size W w' ∧ ∀ W2, Below w'.heap.size w' W2 →
    Calls Tryz.prog 12 #[.pointer (some ⟨P, 0, none⟩), .string a, .string b] W2 (RetBk W2 (.int .i64 n)) ∧ Calls Tryz.prog 12 #[.pointer (some ⟨P, 0, none⟩), .string a, .string x] W2 (RetBk W2 (.int .i64 0))

set_option maxHeartbeats 6400000 in
theorem blind_0n (a b : ByteArray) (n : Int) (which : Int) (h1 : which ≠ 1) (h2 : which ≠ 2) (w : World) 
    (MAY : Hid (∀ W, Below w.heap.size w W → Calls Tryz.prog 10 #[.agg (cM 0).toArray] W (RetMB W a b a n)))
    (hn : -1 ≤ n ∧ n ≤ 1) (he : (a.toList == b.toList) = decide (n = 0)) (hl : Op.bytesLess a.toList b.toList = decide (n = -1)) :
    Calls Tryz.prog 7 #[.string a, .string b, .bool false, .int .i64 which] w (RetBk w (.bool true)) := by
  obtain ⟨t0, a0, b0⟩ := start_b w
  have T0 := Lib.hid t0
  have A0 := Lib.hid a0
  have B0 := Lib.hid b0
  have HN := Lib.hid hn
  have HE := Lib.hid he
  have HL := Lib.hid hl
  clear t0 a0 b0 hn he hl
  have q1 : (which == 1) = false := beq_eq_false_iff_ne.2 h1
  have q2 : (which == 2) = false := beq_eq_false_iff_ne.2 h2
  clear h1 h2
  go_enter Tryz.func7, Tryz.ntmps7
  go_upto_region 2 with first
    | (guard_target =~ wpList _ _ _ (⟨none, Op.store 28 _ _, _, _, _, _⟩ :: _) _ _; go_must (refine wpList_store_mid rfl 28 _ _ rfl w.heap.size 0 (cM 0).toArray rfl rfl T0.out cM_sz cM_one ?_; rw [List.toList_toArray]))
  generalize (World.alloc w _).setCells w.heap.size 0 (cM 0) = x0 at *
  clear T0
  have R := Lib.hid A0.out.range
  go_wp2_with first
    | (guard_target =~ wpList _ _ _ (⟨some _, Op.load 28 _, _, _, _, _⟩ :: _) _ _; go_must (refine wpList_load_mid rfl 28 _ rfl w.heap.size 0 rfl (cM 0) _ R.out Tryz.underlying28 rfl (cM_len _) ?_))
  refine (MAY.out _ B0.out).mono ?_
  rintro e v1 ⟨P, rfl, bb, CC⟩
  have V1 := Lib.hid (B0.out.trans (bb.mono B0.out.size))
  have HC := Lib.hid CC
  clear bb CC MAY
  go_wp2_with fail
  refine (HC.out _ (Below.refl _ _)).1.mono ?_
  rintro e v2 ⟨rfl, b2⟩
  go_wp2_with fail
  refine (HC.out _ b2).2.mono ?_
  rintro e v3 ⟨rfl, b3⟩
  have V3 := Lib.hid ((V1.out.trans (b2.mono V1.out.size)).trans (b3.mono (V1.out.trans (b2.mono V1.out.size)).size))
  clear b2 b3 V1 HC
  have he := HE.out
  have hl := HL.out
  have hn := HN.out
  have h3 : n = -1 ∨ n = 0 ∨ n = 1 := by omega
  clear HE HL HN hn
  rcases h3 with rfl | rfl | rfl
  · have e1 : (a.toList == b.toList) = false := by rw [he]; decide
    have e2 : Op.bytesLess a.toList b.toList = true := by rw [hl]; decide
    clear he hl
    go_wp2_with fail
    go_ret
    exact ⟨rfl, V3.out⟩
  · have e1 : (a.toList == b.toList) = true := by rw [he]; decide
    have e2 : Op.bytesLess a.toList b.toList = false := by rw [hl]; decide
    clear he hl
    go_wp2_with fail
    go_ret
    exact ⟨rfl, V3.out⟩
  · have e1 : (a.toList == b.toList) = false := by rw [he]; decide
    have e2 : Op.bytesLess a.toList b.toList = false := by rw [hl]; decide
    clear he hl
    go_wp2_with fail
    go_ret
    exact ⟨rfl, V3.out⟩
set_option maxHeartbeats 6400000 in
theorem blind_0f (a b xs ys : ByteArray) (n : Int) (which : Int) (h1 : which ≠ 1) (h2 : which ≠ 2) (w : World) (UA : Hid (∀ W, Calls Tryz.prog 19 #[.string a] W (RetBk W (.string xs)))) (UB : Hid (∀ W, Calls Tryz.prog 19 #[.string b] W (RetBk W (.string ys))))
    (MAY : Hid (∀ W, Below w.heap.size w W → Calls Tryz.prog 10 #[.agg (cM 4).toArray] W (RetMB W a b xs n)))
    (hn : -1 ≤ n ∧ n ≤ 1) (he : (xs.toList == ys.toList) = decide (n = 0)) (hl : Op.bytesLess xs.toList ys.toList = decide (n = -1)) :
    Calls Tryz.prog 7 #[.string a, .string b, .bool true, .int .i64 which] w (RetBk w (.bool true)) := by
  obtain ⟨t0, a0, b0⟩ := start_b w
  have T0 := Lib.hid t0
  have A0 := Lib.hid a0
  have B0 := Lib.hid b0
  have HN := Lib.hid hn
  have HE := Lib.hid he
  have HL := Lib.hid hl
  clear t0 a0 b0 hn he hl
  have q1 : (which == 1) = false := beq_eq_false_iff_ne.2 h1
  have q2 : (which == 2) = false := beq_eq_false_iff_ne.2 h2
  clear h1 h2
  go_enter Tryz.func7, Tryz.ntmps7
  go_upto_region 2 with first
    | (guard_target =~ wpList _ _ _ (⟨none, Op.store 28 _ _, _, _, _, _⟩ :: _) _ _; go_must (refine wpList_store_mid rfl 28 _ _ rfl w.heap.size 0 (cM 0).toArray rfl rfl T0.out cM_sz cM_one ?_; rw [List.toList_toArray]))
  generalize (World.alloc w _).setCells w.heap.size 0 (cM 0) = x0 at *
  clear T0
  have c0 := A0.out.cell 1 _ rfl
  have f0 := A0.out.free 1
  have l0 := A0.out.lt
  have S0 := Lib.hid (show CellsAt (World.setCell x0 ⟨w.heap.size, 1, none⟩ (.int .u16 4)) w.heap.size (cM 4) from A0.out.set 1 (.int .u16 4) (by decide))
  have T1 := Lib.hid (B0.out.setCell (p := ⟨w.heap.size, 1, none⟩) (Nat.le_refl _) (.int .u16 4))
  go_wp2_with fail
  refine (UA.out _).mono ?_
  rintro e w1 ⟨rfl, bb⟩
  have A1 := Lib.hid (S0.out.step bb)
  have B1 := Lib.hid (T1.out.trans (bb.mono T1.out.size))
  clear bb
  go_wp2_with fail
  refine (UB.out _).mono ?_
  rintro e w2 ⟨rfl, bb⟩
  have A2 := Lib.hid (A1.out.step bb)
  have B2 := Lib.hid (B1.out.trans (bb.mono B1.out.size))
  clear bb
  have R := Lib.hid A2.out.range
  go_wp2_with first
    | (guard_target =~ wpList _ _ _ (⟨some _, Op.load 28 _, _, _, _, _⟩ :: _) _ _; go_must (refine wpList_load_mid rfl 28 _ rfl w.heap.size 0 rfl (cM 4) _ R.out Tryz.underlying28 rfl (cM_len _) ?_))
  refine (MAY.out _ B2.out).mono ?_
  rintro e v1 ⟨P, rfl, bb, CC⟩
  have V1 := Lib.hid (B2.out.trans (bb.mono B2.out.size))
  have HC := Lib.hid CC
  clear bb CC MAY
  go_wp2_with fail
  refine (HC.out _ (Below.refl _ _)).1.mono ?_
  rintro e v2 ⟨rfl, b2⟩
  go_wp2_with fail
  refine (HC.out _ b2).2.mono ?_
  rintro e v3 ⟨rfl, b3⟩
  have V3 := Lib.hid ((V1.out.trans (b2.mono V1.out.size)).trans (b3.mono (V1.out.trans (b2.mono V1.out.size)).size))
  clear b2 b3 V1 HC
  have he := HE.out
  have hl := HL.out
  have hn := HN.out
  have h3 : n = -1 ∨ n = 0 ∨ n = 1 := by omega
  clear HE HL HN hn
  rcases h3 with rfl | rfl | rfl
  · have e1 : (xs.toList == ys.toList) = false := by rw [he]; decide
    have e2 : Op.bytesLess xs.toList ys.toList = true := by rw [hl]; decide
    clear he hl
    go_wp2_with fail
    go_ret
    exact ⟨rfl, V3.out⟩
  · have e1 : (xs.toList == ys.toList) = true := by rw [he]; decide
    have e2 : Op.bytesLess xs.toList ys.toList = false := by rw [hl]; decide
    clear he hl
    go_wp2_with fail
    go_ret
    exact ⟨rfl, V3.out⟩
  · have e1 : (xs.toList == ys.toList) = false := by rw [he]; decide
    have e2 : Op.bytesLess xs.toList ys.toList = false := by rw [hl]; decide
    clear he hl
    go_wp2_with fail
    go_ret
    exact ⟨rfl, V3.out⟩
set_option maxHeartbeats 6400000 in
theorem blind_1n (a b xs ys : ByteArray) (n : Int) (w : World) (DA : Hid (∀ W, Calls Tryz.prog 18 #[.string a, .bool true] W (RetBk W (.string xs)))) (DB : Hid (∀ W, Calls Tryz.prog 18 #[.string b, .bool true] W (RetBk W (.string ys))))
    (MAY : Hid (∀ W, Below w.heap.size w W → Calls Tryz.prog 10 #[.agg (cM 2).toArray] W (RetMB W a b xs n)))
    (hn : -1 ≤ n ∧ n ≤ 1) (he : (xs.toList == ys.toList) = decide (n = 0)) (hl : Op.bytesLess xs.toList ys.toList = decide (n = -1)) :
    Calls Tryz.prog 7 #[.string a, .string b, .bool false, .int .i64 1] w (RetBk w (.bool true)) := by
  obtain ⟨t0, a0, b0⟩ := start_b w
  have T0 := Lib.hid t0
  have A0 := Lib.hid a0
  have B0 := Lib.hid b0
  have HN := Lib.hid hn
  have HE := Lib.hid he
  have HL := Lib.hid hl
  clear t0 a0 b0 hn he hl
  go_enter Tryz.func7, Tryz.ntmps7
  go_upto_region 2 with first
    | (guard_target =~ wpList _ _ _ (⟨none, Op.store 28 _ _, _, _, _, _⟩ :: _) _ _; go_must (refine wpList_store_mid rfl 28 _ _ rfl w.heap.size 0 (cM 0).toArray rfl rfl T0.out cM_sz cM_one ?_; rw [List.toList_toArray]))
  generalize (World.alloc w _).setCells w.heap.size 0 (cM 0) = x0 at *
  clear T0
  have c0 := A0.out.cell 1 _ rfl
  have f0 := A0.out.free 1
  have l0 := A0.out.lt
  have S0 := Lib.hid (show CellsAt (World.setCell x0 ⟨w.heap.size, 1, none⟩ (.int .u16 2)) w.heap.size (cM 2) from A0.out.set 1 (.int .u16 2) (by decide))
  have T1 := Lib.hid (B0.out.setCell (p := ⟨w.heap.size, 1, none⟩) (Nat.le_refl _) (.int .u16 2))
  go_wp2_with fail
  refine (DA.out _).mono ?_
  rintro e w1 ⟨rfl, bb⟩
  have A1 := Lib.hid (S0.out.step bb)
  have B1 := Lib.hid (T1.out.trans (bb.mono T1.out.size))
  clear bb
  go_wp2_with fail
  refine (DB.out _).mono ?_
  rintro e w2 ⟨rfl, bb⟩
  have A2 := Lib.hid (A1.out.step bb)
  have B2 := Lib.hid (B1.out.trans (bb.mono B1.out.size))
  clear bb
  have R := Lib.hid A2.out.range
  go_wp2_with first
    | (guard_target =~ wpList _ _ _ (⟨some _, Op.load 28 _, _, _, _, _⟩ :: _) _ _; go_must (refine wpList_load_mid rfl 28 _ rfl w.heap.size 0 rfl (cM 2) _ R.out Tryz.underlying28 rfl (cM_len _) ?_))
  refine (MAY.out _ B2.out).mono ?_
  rintro e v1 ⟨P, rfl, bb, CC⟩
  have V1 := Lib.hid (B2.out.trans (bb.mono B2.out.size))
  have HC := Lib.hid CC
  clear bb CC MAY
  go_wp2_with fail
  refine (HC.out _ (Below.refl _ _)).1.mono ?_
  rintro e v2 ⟨rfl, b2⟩
  go_wp2_with fail
  refine (HC.out _ b2).2.mono ?_
  rintro e v3 ⟨rfl, b3⟩
  have V3 := Lib.hid ((V1.out.trans (b2.mono V1.out.size)).trans (b3.mono (V1.out.trans (b2.mono V1.out.size)).size))
  clear b2 b3 V1 HC
  have he := HE.out
  have hl := HL.out
  have hn := HN.out
  have h3 : n = -1 ∨ n = 0 ∨ n = 1 := by omega
  clear HE HL HN hn
  rcases h3 with rfl | rfl | rfl
  · have e1 : (xs.toList == ys.toList) = false := by rw [he]; decide
    have e2 : Op.bytesLess xs.toList ys.toList = true := by rw [hl]; decide
    clear he hl
    go_wp2_with fail
    go_ret
    exact ⟨rfl, V3.out⟩
  · have e1 : (xs.toList == ys.toList) = true := by rw [he]; decide
    have e2 : Op.bytesLess xs.toList ys.toList = false := by rw [hl]; decide
    clear he hl
    go_wp2_with fail
    go_ret
    exact ⟨rfl, V3.out⟩
  · have e1 : (xs.toList == ys.toList) = false := by rw [he]; decide
    have e2 : Op.bytesLess xs.toList ys.toList = false := by rw [hl]; decide
    clear he hl
    go_wp2_with fail
    go_ret
    exact ⟨rfl, V3.out⟩
set_option maxHeartbeats 6400000 in
theorem blind_1f (a b a1 b1 xs ys : ByteArray) (n : Int) (w : World) (DA : Hid (∀ W, Calls Tryz.prog 18 #[.string a, .bool true] W (RetBk W (.string a1)))) (DB : Hid (∀ W, Calls Tryz.prog 18 #[.string b, .bool true] W (RetBk W (.string b1)))) (UA : Hid (∀ W, Calls Tryz.prog 19 #[.string a1] W (RetBk W (.string xs)))) (UB : Hid (∀ W, Calls Tryz.prog 19 #[.string b1] W (RetBk W (.string ys))))
    (MAY : Hid (∀ W, Below w.heap.size w W → Calls Tryz.prog 10 #[.agg (cM 6).toArray] W (RetMB W a b xs n)))
    (hn : -1 ≤ n ∧ n ≤ 1) (he : (xs.toList == ys.toList) = decide (n = 0)) (hl : Op.bytesLess xs.toList ys.toList = decide (n = -1)) :
    Calls Tryz.prog 7 #[.string a, .string b, .bool true, .int .i64 1] w (RetBk w (.bool true)) := by
  obtain ⟨t0, a0, b0⟩ := start_b w
  have T0 := Lib.hid t0
  have A0 := Lib.hid a0
  have B0 := Lib.hid b0
  have HN := Lib.hid hn
  have HE := Lib.hid he
  have HL := Lib.hid hl
  clear t0 a0 b0 hn he hl
  go_enter Tryz.func7, Tryz.ntmps7
  go_upto_region 2 with first
    | (guard_target =~ wpList _ _ _ (⟨none, Op.store 28 _ _, _, _, _, _⟩ :: _) _ _; go_must (refine wpList_store_mid rfl 28 _ _ rfl w.heap.size 0 (cM 0).toArray rfl rfl T0.out cM_sz cM_one ?_; rw [List.toList_toArray]))
  generalize (World.alloc w _).setCells w.heap.size 0 (cM 0) = x0 at *
  clear T0
  have c0 := A0.out.cell 1 _ rfl
  have f0 := A0.out.free 1
  have l0 := A0.out.lt
  have S0 := Lib.hid (show CellsAt (World.setCell x0 ⟨w.heap.size, 1, none⟩ (.int .u16 2)) w.heap.size (cM 2) from A0.out.set 1 (.int .u16 2) (by decide))
  have T1 := Lib.hid (B0.out.setCell (p := ⟨w.heap.size, 1, none⟩) (Nat.le_refl _) (.int .u16 2))
  go_wp2_with fail
  refine (DA.out _).mono ?_
  rintro e w1 ⟨rfl, bb⟩
  have A1 := Lib.hid (S0.out.step bb)
  have B1 := Lib.hid (T1.out.trans (bb.mono T1.out.size))
  clear bb
  go_wp2_with fail
  refine (DB.out _).mono ?_
  rintro e w2 ⟨rfl, bb⟩
  have A2 := Lib.hid (A1.out.step bb)
  have B2 := Lib.hid (B1.out.trans (bb.mono B1.out.size))
  clear bb
  have c2 := A2.out.cell 1 _ rfl
  have f2 := A2.out.free 1
  have l2 := A2.out.lt
  have S2 := Lib.hid (show CellsAt (World.setCell w2 ⟨w.heap.size, 1, none⟩ (.int .u16 6)) w.heap.size (cM 6) from A2.out.set 1 (.int .u16 6) (by decide))
  have T3 := Lib.hid (B2.out.setCell (p := ⟨w.heap.size, 1, none⟩) (Nat.le_refl _) (.int .u16 6))
  go_wp2_with fail
  refine (UA.out _).mono ?_
  rintro e w3 ⟨rfl, bb⟩
  have A3 := Lib.hid (S2.out.step bb)
  have B3 := Lib.hid (T3.out.trans (bb.mono T3.out.size))
  clear bb
  go_wp2_with fail
  refine (UB.out _).mono ?_
  rintro e w4 ⟨rfl, bb⟩
  have A4 := Lib.hid (A3.out.step bb)
  have B4 := Lib.hid (B3.out.trans (bb.mono B3.out.size))
  clear bb
  have R := Lib.hid A4.out.range
  go_wp2_with first
    | (guard_target =~ wpList _ _ _ (⟨some _, Op.load 28 _, _, _, _, _⟩ :: _) _ _; go_must (refine wpList_load_mid rfl 28 _ rfl w.heap.size 0 rfl (cM 6) _ R.out Tryz.underlying28 rfl (cM_len _) ?_))
  refine (MAY.out _ B4.out).mono ?_
  rintro e v1 ⟨P, rfl, bb, CC⟩
  have V1 := Lib.hid (B4.out.trans (bb.mono B4.out.size))
  have HC := Lib.hid CC
  clear bb CC MAY
  go_wp2_with fail
  refine (HC.out _ (Below.refl _ _)).1.mono ?_
  rintro e v2 ⟨rfl, b2⟩
  go_wp2_with fail
  refine (HC.out _ b2).2.mono ?_
  rintro e v3 ⟨rfl, b3⟩
  have V3 := Lib.hid ((V1.out.trans (b2.mono V1.out.size)).trans (b3.mono (V1.out.trans (b2.mono V1.out.size)).size))
  clear b2 b3 V1 HC
  have he := HE.out
  have hl := HL.out
  have hn := HN.out
  have h3 : n = -1 ∨ n = 0 ∨ n = 1 := by omega
  clear HE HL HN hn
  rcases h3 with rfl | rfl | rfl
  · have e1 : (xs.toList == ys.toList) = false := by rw [he]; decide
    have e2 : Op.bytesLess xs.toList ys.toList = true := by rw [hl]; decide
    clear he hl
    go_wp2_with fail
    go_ret
    exact ⟨rfl, V3.out⟩
  · have e1 : (xs.toList == ys.toList) = true := by rw [he]; decide
    have e2 : Op.bytesLess xs.toList ys.toList = false := by rw [hl]; decide
    clear he hl
    go_wp2_with fail
    go_ret
    exact ⟨rfl, V3.out⟩
  · have e1 : (xs.toList == ys.toList) = false := by rw [he]; decide
    have e2 : Op.bytesLess xs.toList ys.toList = false := by rw [hl]; decide
    clear he hl
    go_wp2_with fail
    go_ret
    exact ⟨rfl, V3.out⟩
set_option maxHeartbeats 6400000 in
theorem blind_2n (a b xs ys : ByteArray) (n : Int) (w : World) (DA : Hid (∀ W, Calls Tryz.prog 18 #[.string a, .bool false] W (RetBk W (.string xs)))) (DB : Hid (∀ W, Calls Tryz.prog 18 #[.string b, .bool false] W (RetBk W (.string ys))))
    (MAY : Hid (∀ W, Below w.heap.size w W → Calls Tryz.prog 10 #[.agg (cM 8).toArray] W (RetMB W a b xs n)))
    (hn : -1 ≤ n ∧ n ≤ 1) (he : (xs.toList == ys.toList) = decide (n = 0)) (hl : Op.bytesLess xs.toList ys.toList = decide (n = -1)) :
    Calls Tryz.prog 7 #[.string a, .string b, .bool false, .int .i64 2] w (RetBk w (.bool true)) := by
  obtain ⟨t0, a0, b0⟩ := start_b w
  have T0 := Lib.hid t0
  have A0 := Lib.hid a0
  have B0 := Lib.hid b0
  have HN := Lib.hid hn
  have HE := Lib.hid he
  have HL := Lib.hid hl
  clear t0 a0 b0 hn he hl
  go_enter Tryz.func7, Tryz.ntmps7
  go_upto_region 2 with first
    | (guard_target =~ wpList _ _ _ (⟨none, Op.store 28 _ _, _, _, _, _⟩ :: _) _ _; go_must (refine wpList_store_mid rfl 28 _ _ rfl w.heap.size 0 (cM 0).toArray rfl rfl T0.out cM_sz cM_one ?_; rw [List.toList_toArray]))
  generalize (World.alloc w _).setCells w.heap.size 0 (cM 0) = x0 at *
  clear T0
  have c0 := A0.out.cell 1 _ rfl
  have f0 := A0.out.free 1
  have l0 := A0.out.lt
  have S0 := Lib.hid (show CellsAt (World.setCell x0 ⟨w.heap.size, 1, none⟩ (.int .u16 8)) w.heap.size (cM 8) from A0.out.set 1 (.int .u16 8) (by decide))
  have T1 := Lib.hid (B0.out.setCell (p := ⟨w.heap.size, 1, none⟩) (Nat.le_refl _) (.int .u16 8))
  go_wp2_with fail
  refine (DA.out _).mono ?_
  rintro e w1 ⟨rfl, bb⟩
  have A1 := Lib.hid (S0.out.step bb)
  have B1 := Lib.hid (T1.out.trans (bb.mono T1.out.size))
  clear bb
  go_wp2_with fail
  refine (DB.out _).mono ?_
  rintro e w2 ⟨rfl, bb⟩
  have A2 := Lib.hid (A1.out.step bb)
  have B2 := Lib.hid (B1.out.trans (bb.mono B1.out.size))
  clear bb
  have R := Lib.hid A2.out.range
  go_wp2_with first
    | (guard_target =~ wpList _ _ _ (⟨some _, Op.load 28 _, _, _, _, _⟩ :: _) _ _; go_must (refine wpList_load_mid rfl 28 _ rfl w.heap.size 0 rfl (cM 8) _ R.out Tryz.underlying28 rfl (cM_len _) ?_))
  refine (MAY.out _ B2.out).mono ?_
  rintro e v1 ⟨P, rfl, bb, CC⟩
  have V1 := Lib.hid (B2.out.trans (bb.mono B2.out.size))
  have HC := Lib.hid CC
  clear bb CC MAY
  go_wp2_with fail
  refine (HC.out _ (Below.refl _ _)).1.mono ?_
  rintro e v2 ⟨rfl, b2⟩
  go_wp2_with fail
  refine (HC.out _ b2).2.mono ?_
  rintro e v3 ⟨rfl, b3⟩
  have V3 := Lib.hid ((V1.out.trans (b2.mono V1.out.size)).trans (b3.mono (V1.out.trans (b2.mono V1.out.size)).size))
  clear b2 b3 V1 HC
  have he := HE.out
  have hl := HL.out
  have hn := HN.out
  have h3 : n = -1 ∨ n = 0 ∨ n = 1 := by omega
  clear HE HL HN hn
  rcases h3 with rfl | rfl | rfl
  · have e1 : (xs.toList == ys.toList) = false := by rw [he]; decide
    have e2 : Op.bytesLess xs.toList ys.toList = true := by rw [hl]; decide
    clear he hl
    go_wp2_with fail
    go_ret
    exact ⟨rfl, V3.out⟩
  · have e1 : (xs.toList == ys.toList) = true := by rw [he]; decide
    have e2 : Op.bytesLess xs.toList ys.toList = false := by rw [hl]; decide
    clear he hl
    go_wp2_with fail
    go_ret
    exact ⟨rfl, V3.out⟩
  · have e1 : (xs.toList == ys.toList) = false := by rw [he]; decide
    have e2 : Op.bytesLess xs.toList ys.toList = false := by rw [hl]; decide
    clear he hl
    go_wp2_with fail
    go_ret
    exact ⟨rfl, V3.out⟩
set_option maxHeartbeats 6400000 in
theorem blind_2f (a b a1 b1 xs ys : ByteArray) (n : Int) (w : World) (DA : Hid (∀ W, Calls Tryz.prog 18 #[.string a, .bool false] W (RetBk W (.string a1)))) (DB : Hid (∀ W, Calls Tryz.prog 18 #[.string b, .bool false] W (RetBk W (.string b1)))) (UA : Hid (∀ W, Calls Tryz.prog 19 #[.string a1] W (RetBk W (.string xs)))) (UB : Hid (∀ W, Calls Tryz.prog 19 #[.string b1] W (RetBk W (.string ys))))
    (MAY : Hid (∀ W, Below w.heap.size w W → Calls Tryz.prog 10 #[.agg (cM 12).toArray] W (RetMB W a b xs n)))
    (hn : -1 ≤ n ∧ n ≤ 1) (he : (xs.toList == ys.toList) = decide (n = 0)) (hl : Op.bytesLess xs.toList ys.toList = decide (n = -1)) :
    Calls Tryz.prog 7 #[.string a, .string b, .bool true, .int .i64 2] w (RetBk w (.bool true)) := by
  obtain ⟨t0, a0, b0⟩ := start_b w
  have T0 := Lib.hid t0
  have A0 := Lib.hid a0
  have B0 := Lib.hid b0
  have HN := Lib.hid hn
  have HE := Lib.hid he
  have HL := Lib.hid hl
  clear t0 a0 b0 hn he hl
  go_enter Tryz.func7, Tryz.ntmps7
  go_upto_region 2 with first
    | (guard_target =~ wpList _ _ _ (⟨none, Op.store 28 _ _, _, _, _, _⟩ :: _) _ _; go_must (refine wpList_store_mid rfl 28 _ _ rfl w.heap.size 0 (cM 0).toArray rfl rfl T0.out cM_sz cM_one ?_; rw [List.toList_toArray]))
  generalize (World.alloc w _).setCells w.heap.size 0 (cM 0) = x0 at *
  clear T0
  have c0 := A0.out.cell 1 _ rfl
  have f0 := A0.out.free 1
  have l0 := A0.out.lt
  have S0 := Lib.hid (show CellsAt (World.setCell x0 ⟨w.heap.size, 1, none⟩ (.int .u16 8)) w.heap.size (cM 8) from A0.out.set 1 (.int .u16 8) (by decide))
  have T1 := Lib.hid (B0.out.setCell (p := ⟨w.heap.size, 1, none⟩) (Nat.le_refl _) (.int .u16 8))
  go_wp2_with fail
  refine (DA.out _).mono ?_
  rintro e w1 ⟨rfl, bb⟩
  have A1 := Lib.hid (S0.out.step bb)
  have B1 := Lib.hid (T1.out.trans (bb.mono T1.out.size))
  clear bb
  go_wp2_with fail
  refine (DB.out _).mono ?_
  rintro e w2 ⟨rfl, bb⟩
  have A2 := Lib.hid (A1.out.step bb)
  have B2 := Lib.hid (B1.out.trans (bb.mono B1.out.size))
  clear bb
  have c2 := A2.out.cell 1 _ rfl
  have f2 := A2.out.free 1
  have l2 := A2.out.lt
  have S2 := Lib.hid (show CellsAt (World.setCell w2 ⟨w.heap.size, 1, none⟩ (.int .u16 12)) w.heap.size (cM 12) from A2.out.set 1 (.int .u16 12) (by decide))
  have T3 := Lib.hid (B2.out.setCell (p := ⟨w.heap.size, 1, none⟩) (Nat.le_refl _) (.int .u16 12))
  go_wp2_with fail
  refine (UA.out _).mono ?_
  rintro e w3 ⟨rfl, bb⟩
  have A3 := Lib.hid (S2.out.step bb)
  have B3 := Lib.hid (T3.out.trans (bb.mono T3.out.size))
  clear bb
  go_wp2_with fail
  refine (UB.out _).mono ?_
  rintro e w4 ⟨rfl, bb⟩
  have A4 := Lib.hid (A3.out.step bb)
  have B4 := Lib.hid (B3.out.trans (bb.mono B3.out.size))
  clear bb
  have R := Lib.hid A4.out.range
  go_wp2_with first
    | (guard_target =~ wpList _ _ _ (⟨some _, Op.load 28 _, _, _, _, _⟩ :: _) _ _; go_must (refine wpList_load_mid rfl 28 _ rfl w.heap.size 0 rfl (cM 12) _ R.out Tryz.underlying28 rfl (cM_len _) ?_))
  refine (MAY.out _ B4.out).mono ?_
  rintro e v1 ⟨P, rfl, bb, CC⟩
  have V1 := Lib.hid (B4.out.trans (bb.mono B4.out.size))
  have HC := Lib.hid CC
  clear bb CC MAY
  go_wp2_with fail
  refine (HC.out _ (Below.refl _ _)).1.mono ?_
  rintro e v2 ⟨rfl, b2⟩
  go_wp2_with fail
  refine (HC.out _ b2).2.mono ?_
  rintro e v3 ⟨rfl, b3⟩
  have V3 := Lib.hid ((V1.out.trans (b2.mono V1.out.size)).trans (b3.mono (V1.out.trans (b2.mono V1.out.size)).size))
  clear b2 b3 V1 HC
  have he := HE.out
  have hl := HL.out
  have hn := HN.out
  have h3 : n = -1 ∨ n = 0 ∨ n = 1 := by omega
  clear HE HL HN hn
  rcases h3 with rfl | rfl | rfl
  · have e1 : (xs.toList == ys.toList) = false := by rw [he]; decide
    have e2 : Op.bytesLess xs.toList ys.toList = true := by rw [hl]; decide
    clear he hl
    go_wp2_with fail
    go_ret
    exact ⟨rfl, V3.out⟩
  · have e1 : (xs.toList == ys.toList) = true := by rw [he]; decide
    have e2 : Op.bytesLess xs.toList ys.toList = false := by rw [hl]; decide
    clear he hl
    go_wp2_with fail
    go_ret
    exact ⟨rfl, V3.out⟩
  · have e1 : (xs.toList == ys.toList) = false := by rw [he]; decide
    have e2 : Op.bytesLess xs.toList ys.toList = false := by rw [hl]; decide
    clear he hl
    go_wp2_with fail
    go_ret
    exact ⟨rfl, V3.out⟩
end Go.Proofs.YtgpcmlbmmcnkjaaGreatDoor
