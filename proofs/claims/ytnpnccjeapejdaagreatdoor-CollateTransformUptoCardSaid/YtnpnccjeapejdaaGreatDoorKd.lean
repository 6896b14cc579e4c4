/- A key's place in a line: begin, end. -/
import Derived.Test.YtnpnccjeapejdaaGreatDoorKx
namespace Go.Proofs.YtnpnccjeapejdaaGreatDoor
open Go.RowKit
set_option maxRecDepth 100000

/-- Where a key begins. -/
def spanB (s : List UInt8) (o : Option UInt8) (f c : Nat) (m : Nat) : Nat := furS s (fbeg s o (f - 1) 0) (bB m) (c - 1)
/-- Where it ends, unless it begins behind that. -/
def spanE (s : List UInt8) (o : Option UInt8) (ef ec : Nat) (b : Bool) : Nat :=
  if ef = 0 then s.length else if ec = 0 then fend s o (fbeg s o (ef - 1) 0) else furS s (fbeg s o (ef - 1) 0) b ec
theorem spanB_le (s : List UInt8) (o : Option UInt8) (f c m : Nat) : spanB s o f c m ≤ s.length := furS_le _ _ _ _ (fbeg_le _ _ _ _ (Nat.zero_le _))
theorem spanE_le (s : List UInt8) (o : Option UInt8) (ef ec : Nat) (b : Bool) : spanE s o ef ec b ≤ s.length := by
  unfold spanE
  split
  · exact Nat.le_refl _
  · split
    · exact fend_le _ _ _ (fbeg_le _ _ _ _ (Nat.zero_le _))
    · exact furS_le _ _ _ _ (fbeg_le _ _ _ _ (Nat.zero_le _))
set_option maxHeartbeats 1600000 in
theorem kbegin_ok (s : ByteArray) (o : Option UInt8) (g off f c : Nat) (ef ec : Int) (m : Nat) (b : Bool) (w : World) (hf : 1 ≤ f ∧ f ≤ 2147483647) (hc : 1 ≤ c ∧ c ≤ 2147483647) (hm : m < 65536) (hs : s.size ≤ 140737488351232)
    (K : KcAt w g off f c ef ec m b (tabI o)) (T : Tabs w) : Calls Tryz.prog 83 #[.pointer (some ⟨g, off, none⟩), .string s] w (RetBk w (.int .i64 ((spanB s.data.toList o f c m : Nat) : Int))) := by
  have FB := Lib.hid (fieldBegin_ok o s f (w.drewN 1) hf.1 hf.2 hs (T.below (below_drewN w 1)))
  have hle := fbeg_le s.data.toList o (f - 1) 0 (Nat.zero_le _)
  rw [← Lib.size_eq] at hle
  unfold spanB
  generalize fbeg s.data.toList o (f - 1) 0 = a at *
  have FU := Lib.hid (further_ok s a (c - 1) (bB m) (w.drewN 2) hle (by omega) hs (T.below (below_drewN w 2)))
  have K1 := Lib.hid (K.below (below_drewN w 1))
  have K2 := Lib.hid (K.below (below_drewN w 2))
  have B2 := Lib.hid (below_drewN w 2)
  generalize furS s.data.toList a (bB m) (c - 1) = r at *
  clear T K hle
  go_enter Tryz.func83, Tryz.ntmps83
  go_upto_region 1 with fail
  rename_i KK hKK
  refine b44_1 (fun _ _ _ _ _ h => h) K1.out FB.out ?_
  intro v6 v7 v8 v9 v10 v11 v12 v13 v14 v15 v16
  refine hKK _ _ ?_
  clear hKK KK K1 FB
  go_upto_region 2 with fail
  rename_i KK hKK
  refine b44_2 (fun _ _ _ _ _ h => h) K2.out hm hc FU.out ?_
  intro v17 v18 v19 v20 v21 v22 v23 v24 v25 v26 v27 v28 v29 v30 v31 v32
  refine hKK _ _ ?_
  clear hKK KK K2 FU
  go_wp2_with fail
  go_ret
  exact ⟨rfl, B2.out⟩
set_option maxHeartbeats 3200000 in
theorem kend_ok (s : ByteArray) (o : Option UInt8) (g off ef ec : Nat) (f c : Int) (m : Nat) (b : Bool) (w : World) (hf : ef ≤ 2147483647) (hc : ec ≤ 2147483647) (hs : s.size ≤ 140737488351232)
    (K : KcAt w g off f c (ef : Int) (ec : Int) m b (tabI o)) (T : Tabs w) : Calls Tryz.prog 84 #[.pointer (some ⟨g, off, none⟩), .string s] w (RetBk w (.int .i64 ((spanE s.data.toList o ef ec b : Nat) : Int))) := by
  have c2 := K.c2
  by_cases h0 : ef = 0
  · have hv : spanE s.data.toList o ef ec b = s.size := by unfold spanE; rw [if_pos h0, Lib.size_eq]
    rw [hv]
    subst h0
    clear hv T K
    have B0 := Lib.hid (Below.refl w.heap.size w)
    go_enter Tryz.func84, Tryz.ntmps84
    go_wp2_with fail
    go_ret
    exact ⟨rfl, B0.out⟩
  have hv : spanE s.data.toList o ef ec b = (if ec = 0 then fend s.data.toList o (fbeg s.data.toList o (ef - 1) 0) else furS s.data.toList (fbeg s.data.toList o (ef - 1) 0) b ec) := by unfold spanE; rw [if_neg h0]
  rw [hv]
  have FB := Lib.hid (fieldBegin_ok o s ef (w.drewN 1) (by omega) hf hs (T.below (below_drewN w 1)))
  have hle := fbeg_le s.data.toList o (ef - 1) 0 (Nat.zero_le _)
  rw [← Lib.size_eq] at hle
  generalize fbeg s.data.toList o (ef - 1) 0 = a at *
  have FU := Lib.hid (further_ok s a ec b (w.drewN 2) hle hc hs (T.below (below_drewN w 2)))
  have FE := Lib.hid (show Calls Tryz.prog 108 #[.string s, .int .i64 (tabI o), .int .i64 (a : Int)] w.drew _ from fieldEnd_ok o s a (w.drewN 1) hle hs (T.below (below_drewN w 1)))
  have K1 := Lib.hid (show KcAt w.drew g off f c (ef : Int) (ec : Int) m b (tabI o) from K.below (below_drewN w 1))
  have K2 := Lib.hid (K.below (below_drewN w 2))
  have B1 := Lib.hid (show Below w.heap.size w w.drew from below_drewN w 1)
  have B2 := Lib.hid (show Below w.heap.size w w.drew.drew from below_drewN w 2)
  have z0 : ((ef : Int) == 0) = false := by simpa using h0
  have z1 : (ef : Int) ≠ 0 := by omega
  clear T K hle hv
  go_enter Tryz.func84, Tryz.ntmps84
  go_upto_region 3 with fail
  rename_i KK hKK
  refine e45_3 (fun _ _ _ _ _ h => h) K1.out FB.out ?_
  intro v14 v15 v16 v17 v18 v19 v20 v21 v22 v23 v24
  refine hKK _ _ ?_
  have c3 := K1.out.c3
  have c6 := K1.out.c6
  clear hKK KK K1 FB z0 z1 c2
  by_cases hz : ec = 0
  · rw [if_pos hz]
    subst hz
    clear FU K2
    go_wp2_with fail
    refine FE.out.mono ?_
    rintro e w' ⟨rfl, rfl⟩
    go_wp2_with fail
    go_ret
    exact ⟨rfl, B1.out⟩
  · rw [if_neg hz]
    have z0 : ((ec : Int) == 0) = false := by simpa using hz
    have z1 : (ec : Int) ≠ 0 := by omega
    clear FE
    generalize furS s.data.toList a b ec = r at *
    go_upto_region 6 with fail
    rename_i KK hKK
    refine e45_6 (fun _ _ _ _ _ h => h) K2.out FU.out ?_
    intro v38 v39 v40 v41 v42 v43 v44 v45 v46 v47 v48 v49 v50
    refine hKK _ _ ?_
    clear hKK KK K2 FU
    go_wp2_with fail
    go_ret
    exact ⟨rfl, B2.out⟩
/-- Where a key lies: no key ends ahead of its beginning. -/
def spanP (s : List UInt8) (o : Option UInt8) (f c ef ec m : Nat) (b : Bool) : Nat × Nat :=
  (spanB s o f c m, max (spanB s o f c m) (spanE s o ef ec b))
set_option maxHeartbeats 3200000 in
theorem kspan_ok (s : ByteArray) (o : Option UInt8) (g off f c ef ec m : Nat) (b : Bool) (w : World) (hf : 1 ≤ f ∧ f ≤ 2147483647) (hc : 1 ≤ c ∧ c ≤ 2147483647) (hef : ef ≤ 2147483647) (hec : ec ≤ 2147483647) (hm : m < 65536) (hs : s.size ≤ 140737488351232)
    (K : KcAt w g off (f : Int) (c : Int) (ef : Int) (ec : Int) m b (tabI o)) (T : Tabs w) : Calls Tryz.prog 51 #[.pointer (some ⟨g, off, none⟩), .string s] w (RetBk w (.agg #[.int .i64 ((spanP s.data.toList o f c ef ec m b).1 : Nat), .int .i64 ((spanP s.data.toList o f c ef ec m b).2 : Nat)])) := by
  have KB := Lib.hid (fun (W : World) (k : Below w.heap.size w W) => kbegin_ok s o g off f c ef ec m b W hf hc hm hs (K.below k) (T.below k))
  have KE := Lib.hid (fun (W : World) (k : Below w.heap.size w W) => kend_ok s o g off ef ec f c m b W hef hec hs (K.below k) (T.below k))
  have l1 := spanB_le s.data.toList o f c m
  have l2 := spanE_le s.data.toList o ef ec b
  unfold spanP
  simp only
  rw [← Lib.size_eq] at l1 l2
  generalize spanB s.data.toList o f c m = p at *
  generalize spanE s.data.toList o ef ec b = q at *
  clear T K
  go_enter Tryz.func51, Tryz.ntmps51
  go_wp2_with fail
  have Z := CellsAt.new w [.int .i64 0, .int .i64 0] 90
  have B := (Below.refl w.heap.size w).alloc (Nat.le_refl _) (.cells #[.int .i64 0, .int .i64 0] 90)
  generalize World.alloc w _ = W0 at *
  refine (KB.out W0 B).mono ?_
  rintro e w1 ⟨rfl, b1⟩
  have Z1 := Lib.hid (Z.step b1)
  have B1 := Lib.hid (B.trans (b1.mono B.size))
  clear Z B b1
  go_wp2_with fail
  refine (KE.out w1 B1.out).mono ?_
  rintro e w2 ⟨rfl, b2⟩
  have Z2 := Lib.hid (Z1.out.step b2)
  have B2 := Lib.hid (B1.out.trans (b2.mono B1.out.size))
  have r0 := Z2.out.cell 0 _ rfl
  have r1 := Z2.out.cell 1 _ rfl
  have s0 := Z2.out.free 0
  have s1 := Z2.out.free 1
  clear b2 Z1 B1 KB KE
  go_wp2_with fail
  have hmx : max (p : Int) (q : Int) = ((max p q : Nat) : Int) := by omega
  refine bodyPost_ret (v := _) ?_ rfl ⟨rfl, (B2.out.setCell (p := ⟨w.heap.size, 0, none⟩) (Nat.le_refl _) _).setCell (p := ⟨w.heap.size, 1, none⟩) (Nat.le_refl _) _⟩
  simp [results, Tryz.results51, go_sem, r0, r1, hmx]
end Go.Proofs.YtnpnccjeapejdaaGreatDoor
