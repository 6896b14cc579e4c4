/- ParseKey, the document's. -/
import Derived.Test.YtbgbmojoldkcfaaDoorTog2
import Derived.Test.YtbgbmojoldkcfaaDoorBn
import Derived.StillTailTactics
namespace Go.Proofs.YtbgbmojoldkcfaaDoor
open Go.RowKit

def kc6 (k : KeyR) : List Value := [.int .i64 (k.f : Int), .int .i64 (k.c : Int), .int .i64 (k.ef : Int), .int .i64 (k.ec : Int), .int .u16 (k.m : Int), .bool k.b]
def RetKey (w : World) (p : KeyR × Nat × Nat) (e : Ending) (w' : World) : Prop := e = .returned (.tuple #[.agg (kc6 p.1).toArray, .int .i64 (p.2.1 : Int), .int .i64 (p.2.2 : Int)]) ∧ Below w.heap.size w w'
structure RkIn (w : World) (k : KeyR) (wr : World) : Prop where
  res : CellsAt wr w.heap.size (kc6 zeroK)
  key : CellsAt wr (w.heap.size + 1) (kc6 k)
  below : Below w.heap.size w wr
theorem CellsAt.drew {w : World} {b : Nat} {vs : List Value} (h : CellsAt w b vs) : CellsAt w.drew b vs := ⟨h.lt, h.cell, h.free⟩
theorem CellsAt.oneOther {w : World} {b c : Nat} {vs : List Value} (h : CellsAt w b vs) (hc : c ≠ b) (j : Nat) (x : Value) : CellsAt (w.setCell ⟨c, j, none⟩ x) b vs :=
  ⟨by simpa using h.lt, fun i v hv => by rw [World.cell?_setCell_other _ _ _ _ (fun e => hc (congrArg Addr.block e))]; exact h.cell i v hv, fun i => by rw [World.frozen?_setCell]; exact h.free i⟩
theorem RkIn.drew {w : World} {k : KeyR} {wr : World} (h : RkIn w k wr) : RkIn w k wr.drew := ⟨h.res.drew, h.key.drew, ⟨h.below.os, h.below.tape, h.below.output, h.below.size, h.below.block⟩⟩
theorem RkIn.set {w : World} {k k' : KeyR} {wr : World} (h : RkIn w k wr) (j : Nat) (x : Value) (hj : j < 6) (hk : (kc6 k).set j x = kc6 k') : RkIn w k' (wr.setCell ⟨w.heap.size + 1, j, none⟩ x) :=
  ⟨h.res.oneOther (by omega) j x, by have := h.key.set j x hj; rw [hk] at this; exact this, h.below.setCell (p := ⟨w.heap.size + 1, j, none⟩) (by show w.heap.size ≤ w.heap.size + 1; omega) x⟩
theorem CellsAt.six {w : World} {b : Nat} {vs : List Value} (h : CellsAt w b vs) (hl : vs.length = 6) (x0 x1 x2 x3 x4 x5 : Value) : CellsAt ((((((w.setCell ⟨b, 0, none⟩ x0).setCell ⟨b, 1, none⟩ x1).setCell ⟨b, 2, none⟩ x2).setCell ⟨b, 3, none⟩ x3).setCell ⟨b, 4, none⟩ x4).setCell ⟨b, 5, none⟩ x5) b [x0, x1, x2, x3, x4, x5] := by
  match vs, hl with
  | [v0, v1, v2, v3, v4, v5], _ => exact (((((h.set 0 x0 (by simp)).set 1 x1 (by simp)).set 2 x2 (by simp)).set 3 x3 (by simp)).set 4 x4 (by simp)).set 5 x5 (by simp)
theorem below_six {B : Nat} {a w : World} (h : Below B a w) {b : Nat} (hb : B ≤ b) (x0 x1 x2 x3 x4 x5 : Value) : Below B a ((((((w.setCell ⟨b, 0, none⟩ x0).setCell ⟨b, 1, none⟩ x1).setCell ⟨b, 2, none⟩ x2).setCell ⟨b, 3, none⟩ x3).setCell ⟨b, 4, none⟩ x4).setCell ⟨b, 5, none⟩ x5) :=
  (((((h.setCell (p := ⟨b, 0, none⟩) hb x0).setCell (p := ⟨b, 1, none⟩) hb x1).setCell (p := ⟨b, 2, none⟩) hb x2).setCell (p := ⟨b, 3, none⟩) hb x3).setCell (p := ⟨b, 4, none⟩) hb x4).setCell (p := ⟨b, 5, none⟩) hb x5
theorem bitc (c : UInt8) (w : World) : Calls Tryd.prog 25 #[.int .u8 c.toNat] w (fun e w'' => e = .returned (.int .u16 (bitS c)) ∧ w'' = w) := (bit_ok c w).mono fun _ _ h => ⟨h.1, h.2.symm⟩
theorem orB_lt : ∀ (l : List UInt8) (m : Nat), m < 1024 → orB m l < 1024
  | [], m, h => h
  | c :: r, m, h => by
    unfold orB
    split
    · exact orB_lt r m h
    · exact orB_lt r _ (Nat.or_lt_two_pow (n := 10) h (bitS_lt c))
theorem orB_snoc (l : List UInt8) (c : UInt8) : ∀ m, orB m (l ++ [c]) = if c = 98 then orB m l else orB m l ||| bitS c := by
  induction l with
  | nil => intro m; simp [orB]
  | cons x r ih =>
    intro m
    rw [List.cons_append, orB, orB]
    split
    · exact ih m
    · exact ih _
theorem hasB_snoc (l : List UInt8) (c : UInt8) : hasB (l ++ [c]) = (hasB l || c == 98) := by simp [hasB]
theorem take_on (mb : ByteArray) (j : Nat) (h : j < mb.size) : mb.data.toList.take (j + 1) = mb.data.toList.take j ++ [mb[j]] := by
  rw [List.take_succ_eq_append_getElem (by rw [← Lib.size_eq]; exact h)]; rfl
theorem or_nat (a b : Nat) (ha : a < 1024) (hb : b < 1024) : bits BinOp.or IntKind.u16 (a : Int) (b : Int) = ((a ||| b : Nat) : Int) := u16_or_nat a b (by omega) (by omega)
theorem place_le {l : List UInt8} {a none f c : Nat} {ms : List UInt8} {at_ : Nat} (ha : a ≤ l.length) (h : placeS l a none = .good f c ms at_) : at_ ≤ l.length ∧ ms.length ≤ l.length := by
  have b1 := valS_len maxF (l.drop a) 0
  have fin : ∀ f c k, k ≤ l.length → placeEnd l f c k = .good f c ms at_ → at_ ≤ l.length ∧ ms.length ≤ l.length := fun f c k hk e => by
    unfold placeEnd at e
    have h2 := ltS_len (l.drop k)
    rw [List.length_drop] at h2
    injection e with _ _ e3 e4
    subst e3 e4
    exact ⟨by omega, by omega⟩
  rw [List.length_drop] at b1
  unfold placeS at h
  split at h
  · cases h
  · split at h
    · rename_i hd
      unfold dotAt at hd
      rw [Bool.and_eq_true, decide_eq_true_eq] at hd
      have hd1 := hd.1
      split at h
      · cases h
      · have b2 := valS_len maxF (l.drop (a + (valS maxF 0 (l.drop a)).2 + 1)) 0
        rw [List.length_drop] at b2
        have e := h
        unfold placeEnd at e
        injection e with e1 e2 _ _
        subst e1 e2
        exact fin _ _ _ (by omega) h
    · have e := h
      unfold placeEnd at e
      injection e with e1 e2 _ _
      subst e1 e2
      exact fin _ _ _ (by omega) h

theorem RkIn.start (w : World) (k : KeyR) : RkIn w k ((w.alloc (.cells (kc6 zeroK).toArray 36)).alloc (.cells (kc6 k).toArray 36)) := by
  have Z := CellsAt.new (w.alloc (.cells (kc6 zeroK).toArray 36)) (kc6 k) 36
  rw [show (w.alloc (.cells (kc6 zeroK).toArray 36)).heap.size = w.heap.size + 1 by simp] at Z
  exact ⟨(CellsAt.new w (kc6 zeroK) 36).alloc _, Z, ((Below.refl w.heap.size w).alloc (Nat.le_refl _) _).alloc (by simp) _⟩
set_option maxRecDepth 100000
set_option maxHeartbeats 3200000 in
theorem rkey_bad (s : ByteArray) (w : World) (hs : s.size ≤ 140737488351232) (a : Nat) (hp : placeS s.data.toList 0 1 = .bad a) : Calls Tryd.prog 12 #[.string s] w (RetKey w (keyS s.data.toList)) := by
  have C1 := fun w => place_ok s 0 1 (by omega) (by omega) w hs
  rw [hp] at C1
  have C1 := Lib.hid C1
  have HR := Lib.hid (show keyS s.data.toList = (zeroK, a, 43) from by unfold keyS; rw [hp]; rfl)
  have IN := Lib.hid (RkIn.start w zeroK)
  generalize keyS s.data.toList = res at *
  clear hp
  go_enter Tryd.func12, Tryd.ntmps12
  go_wp2_with fail
  refine (C1.out _).mono ?_
  rintro e w' ⟨rfl, rfl⟩
  unfold placeV
  go_wp2_with fail
  exact bodyPost_ret (v := .tuple #[.agg (kc6 zeroK).toArray, .int .i64 (a : Int), .int .i64 43]) (by simp [results, Tryd.results12, go_sem, kc6, zeroK]) rfl ⟨by rw [HR.out]; rfl, IN.out.below⟩

set_option maxHeartbeats 6400000 in
theorem rkey_good (s : ByteArray) (w : World) (hs : s.size ≤ 140737488351232) (f c : Nat) (ms : List UInt8) (a : Nat) (hp : placeS s.data.toList 0 1 = .good f c ms a) : Calls Tryd.prog 12 #[.string s] w (RetKey w (keyS s.data.toList)) := by
  have C1 := fun w => place_ok s 0 1 (by omega) (by omega) w hs
  rw [hp] at C1
  have C1 := Lib.hid C1
  obtain ⟨hal, hml⟩ := place_le (by omega) hp
  rw [← Lib.size_eq] at hal hml
  have hres : keyS s.data.toList = keyRest s.data.toList f c ms a := by unfold keyS; rw [hp]; rfl
  have HRES := Lib.hid hres
  have IN := Lib.hid (RkIn.start w ⟨f, c, 0, 0, 0, false⟩)
  generalize keyS s.data.toList = res at *
  clear hp hres
  have hsz := bsk_size ms
  have HML := Lib.hid (bsk_list ms)
  have C1 := Lib.hid (fun w => show Calls Tryd.prog 24 #[.string s, .int .i64 0, .int .i64 1] w (RetV w (.tuple #[.int .i64 (f : Int), .int .i64 (c : Int), .string (bsk ms), .int .i64 (a : Int), .int .i64 (-1)])) from C1.out w)
  obtain ⟨mb, hmb⟩ : ∃ mb, mb = bsk ms := ⟨_, rfl⟩
  rw [← hmb] at C1 hsz HML
  clear hmb
  go_enter Tryd.func12, Tryd.ntmps12
  go_wp2_with fail
  refine (C1.out _).mono ?_
  rintro e w' ⟨rfl, rfl⟩
  go_wp2_with fail
  go_loopw [11] (fun i wr => ∃ j : Nat, j ≤ mb.size ∧ i = .int .i64 j ∧ RkIn w ⟨f, c, 0, 0, orS 0 (mb.data.toList.take j), false⟩ wr) (fun i _ => mb.size - (intOf i).toNat)
  case atStart => exact ⟨0, by omega, rfl, IN.out⟩
  case round =>
    obtain ⟨j, hj, rfl, hI⟩ := hrel
    have HI := Lib.hid hI
    clear hI IN
    by_cases hlt : j < mb.size
    · have hm : orS 0 (mb.data.toList.take j) < 1024 := orS_lt _ _ (by omega)
      have hb := bitS_lt mb[j]
      have HOR := Lib.hid (show orS 0 (mb.data.toList.take (j + 1)) = orS 0 (mb.data.toList.take j) ||| bitS mb[j] from by rw [take_on mb j hlt, orS_snoc])
      have hor := or_nat _ _ hm hb
      have k4 := HI.out.key.cell 4 _ rfl
      go_wp2_with fail
      refine wp_region_still_tail 8 (by kernel_rfl) (by kernel_rfl) ?_
      simp only [List.take_succ_cons, List.take_zero, List.drop_succ_cons, List.drop_zero]
      repeat still_step
      still_call (bitc _ _)
      repeat still_step
      refine wpStill_nil ?_
      change wpList _ _ _ _ _ wr.drew
      have k4' := HI.out.drew.key.cell 4 _ rfl
      have g4 := HI.out.drew.key.free 4
      go_wp2_with fail
      exact ⟨⟨j + 1, by omega, by go_num, (HI.out.set (k' := ⟨f, c, 0, 0, orS 0 (mb.data.toList.take (j + 1)), false⟩) 4 (.int .u16 ((orS 0 (mb.data.toList.take j) ||| bitS mb[j] : Nat) : Int)) (by omega) (by rw [HOR.out]; rfl)).drew⟩, by simp [intOf]; omega⟩
    · have hjs : j = mb.size := by omega
      subst hjs
      have hI := HI.out
      rw [List.take_of_length_le (by rw [← Lib.size_eq]; exact Nat.le_refl _), HML.out] at hI
      have HI := Lib.hid hI
      clear hI
      cases hd : dotAt s.data.toList a 44 with
      | false =>
        have HR := Lib.hid (show res = keyEnd s.data.toList ⟨f, c, 0, 0, orS 0 ms, false⟩ a from by rw [HRES.out, keyRest, hd]; rfl)
        by_cases hla : a < s.size
        · have hne := dot_no hd hla
          have hc := s[a].toNat_lt
          have u0 : ((s[a].toNat : Int) == 44) = false := by
            rw [beq_eq_false_iff_ne]; intro e; exact hne (UInt8.toNat_inj.1 (by show s[a].toNat = 44; omega))
          have ul : decide ((a : Int) < (s.size : Int)) = true := by simp only [decide_eq_true_eq]; omega
          clear hd hne
          have r0 := HI.out.res.cell 0 _ rfl
          have r1 := HI.out.res.cell 1 _ rfl
          have r2 := HI.out.res.cell 2 _ rfl
          have r3 := HI.out.res.cell 3 _ rfl
          have r4 := HI.out.res.cell 4 _ rfl
          have r5 := HI.out.res.cell 5 _ rfl
          have f0 := HI.out.res.free 0
          have f1 := HI.out.res.free 1
          have f2 := HI.out.res.free 2
          have f3 := HI.out.res.free 3
          have f4 := HI.out.res.free 4
          have f5 := HI.out.res.free 5
          have k0 := HI.out.key.cell 0 _ rfl
          have k1 := HI.out.key.cell 1 _ rfl
          have k2 := HI.out.key.cell 2 _ rfl
          have k3 := HI.out.key.cell 3 _ rfl
          have k4 := HI.out.key.cell 4 _ rfl
          have k5 := HI.out.key.cell 5 _ rfl
          have hl := HI.out.res.lt
          have u1 : decide ((a : Int) < (s.size : Int)) = true := by simp only [decide_eq_true_eq]; omega
          have HRR := Lib.hid (show res = (zeroK, a, 43) from by rw [HR.out, keyEnd, ← Lib.size_eq, if_pos (by omega)])
          go_wp2_with fail
          have R := HI.out.res.six rfl (.int .i64 0) (.int .i64 0) (.int .i64 0) (.int .i64 0) (.int .u16 0) (.bool false)
          have R0 := R.cell 0 _ rfl
          have R1 := R.cell 1 _ rfl
          have R2 := R.cell 2 _ rfl
          have R3 := R.cell 3 _ rfl
          have R4 := R.cell 4 _ rfl
          have R5 := R.cell 5 _ rfl
          exact bodyPost_ret (v := .tuple #[.agg #[.int .i64 0, .int .i64 0, .int .i64 0, .int .i64 0, .int .u16 0, .bool false], .int .i64 (a : Int), .int .i64 43]) (by simp [results, Tryd.results12, go_sem, R0, R1, R2, R3, R4, R5]) rfl ⟨by rw [HRR.out]; rfl, below_six HI.out.below (Nat.le_refl _) _ _ _ _ _ _⟩
        · have ul : decide ((a : Int) < (s.size : Int)) = false := by simp only [decide_eq_false_iff_not]; omega
          clear hd
          have r0 := HI.out.res.cell 0 _ rfl
          have r1 := HI.out.res.cell 1 _ rfl
          have r2 := HI.out.res.cell 2 _ rfl
          have r3 := HI.out.res.cell 3 _ rfl
          have r4 := HI.out.res.cell 4 _ rfl
          have r5 := HI.out.res.cell 5 _ rfl
          have f0 := HI.out.res.free 0
          have f1 := HI.out.res.free 1
          have f2 := HI.out.res.free 2
          have f3 := HI.out.res.free 3
          have f4 := HI.out.res.free 4
          have f5 := HI.out.res.free 5
          have k0 := HI.out.key.cell 0 _ rfl
          have k1 := HI.out.key.cell 1 _ rfl
          have k2 := HI.out.key.cell 2 _ rfl
          have k3 := HI.out.key.cell 3 _ rfl
          have k4 := HI.out.key.cell 4 _ rfl
          have k5 := HI.out.key.cell 5 _ rfl
          have hl := HI.out.res.lt
          have u1 : decide ((a : Int) < (s.size : Int)) = false := by simp only [decide_eq_false_iff_not]; omega
          have hm := orS_lt ms 0 (by omega)
          have TG := Lib.hid (fun w => refTog_ok _ hm w)
          have HR2 := HR.out
          rw [keyEnd, ← Lib.size_eq, if_neg (by omega)] at HR2
          cases htg : togS (⟨f, c, 0, 0, orS 0 ms, false⟩ : KeyR).m with
          | true =>
            rw [htg] at HR2
            rw [show togS _ = true from htg] at TG
            have HRR := Lib.hid (show res = ((⟨f, c, 0, 0, orS 0 ms, false⟩ : KeyR), 0, 0) from HR2)
            clear HR2 htg
            go_wp2_with fail
            refine (TG.out _).mono ?_
            rintro e w' ⟨rfl, rfl⟩
            go_wp2_with fail
            have R := HI.out.res.six rfl (.int .i64 (f : Int)) (.int .i64 (c : Int)) (.int .i64 0) (.int .i64 0) (.int .u16 ((orS 0 ms : Nat) : Int)) (.bool false)
            have R0 := R.cell 0 _ rfl
            have R1 := R.cell 1 _ rfl
            have R2 := R.cell 2 _ rfl
            have R3 := R.cell 3 _ rfl
            have R4 := R.cell 4 _ rfl
            have R5 := R.cell 5 _ rfl
            exact bodyPost_ret (v := .tuple #[.agg #[.int .i64 (f : Int), .int .i64 (c : Int), .int .i64 0, .int .i64 0, .int .u16 ((orS 0 ms : Nat) : Int), .bool false], .int .i64 0, .int .i64 0]) (by simp [results, Tryd.results12, go_sem, R0, R1, R2, R3, R4, R5]) rfl ⟨by rw [HRR.out]; rfl, below_six HI.out.below (Nat.le_refl _) _ _ _ _ _ _⟩
          | false =>
            rw [htg] at HR2
            rw [show togS _ = false from htg] at TG
            have HRR := Lib.hid (show res = (zeroK, 0, 48) from HR2)
            clear HR2 htg
            go_wp2_with fail
            refine (TG.out _).mono ?_
            rintro e w' ⟨rfl, rfl⟩
            go_wp2_with fail
            have R := HI.out.res.six rfl (.int .i64 0) (.int .i64 0) (.int .i64 0) (.int .i64 0) (.int .u16 0) (.bool false)
            have R0 := R.cell 0 _ rfl
            have R1 := R.cell 1 _ rfl
            have R2 := R.cell 2 _ rfl
            have R3 := R.cell 3 _ rfl
            have R4 := R.cell 4 _ rfl
            have R5 := R.cell 5 _ rfl
            exact bodyPost_ret (v := .tuple #[.agg #[.int .i64 0, .int .i64 0, .int .i64 0, .int .i64 0, .int .u16 0, .bool false], .int .i64 0, .int .i64 48]) (by simp [results, Tryd.results12, go_sem, R0, R1, R2, R3, R4, R5]) rfl ⟨by rw [HRR.out]; rfl, below_six HI.out.below (Nat.le_refl _) _ _ _ _ _ _⟩
      | true =>
        obtain ⟨hla, hcc⟩ := dot_yes hd
        have u0 : ((s[a].toNat : Int) == 44) = true := by rw [hcc]; rfl
        have HR2 := Lib.hid (show res = keyTwo s.data.toList f c ms (placeS s.data.toList (a + 1) 0) from by rw [HRES.out, keyRest, hd]; rfl)
        have C2 := fun w => place_ok s (a + 1) 0 (by omega) (by omega) w hs
        cases hp2 : placeS s.data.toList (a + 1) 0 with
        | bad a2 =>
          rw [hp2] at HR2 C2
          have HRR := Lib.hid (show res = (zeroK, a2, 43) from HR2.out)
          have C3 := Lib.hid (fun w => show Calls Tryd.prog 24 #[.string s, .int .i64 ((a : Int) + 1), .int .i64 0] w (RetV w (.tuple #[.int .i64 0, .int .i64 0, .string ⟨#[]⟩, .int .i64 (a2 : Int), .int .i64 (a2 : Int)])) from C2 w)
          clear hd hcc C2 hp2
          have r0 := HI.out.res.cell 0 _ rfl
          have r1 := HI.out.res.cell 1 _ rfl
          have r2 := HI.out.res.cell 2 _ rfl
          have r3 := HI.out.res.cell 3 _ rfl
          have r4 := HI.out.res.cell 4 _ rfl
          have r5 := HI.out.res.cell 5 _ rfl
          have f0 := HI.out.res.free 0
          have f1 := HI.out.res.free 1
          have f2 := HI.out.res.free 2
          have f3 := HI.out.res.free 3
          have f4 := HI.out.res.free 4
          have f5 := HI.out.res.free 5
          have k0 := HI.out.key.cell 0 _ rfl
          have k1 := HI.out.key.cell 1 _ rfl
          have k2 := HI.out.key.cell 2 _ rfl
          have k3 := HI.out.key.cell 3 _ rfl
          have k4 := HI.out.key.cell 4 _ rfl
          have k5 := HI.out.key.cell 5 _ rfl
          have hl := HI.out.res.lt
          go_wp2_with fail
          refine (C3.out _).mono ?_
          rintro e w' ⟨rfl, rfl⟩
          go_wp2_with fail
          have R := HI.out.res.six rfl (.int .i64 0) (.int .i64 0) (.int .i64 0) (.int .i64 0) (.int .u16 0) (.bool false)
          have R0 := R.cell 0 _ rfl
          have R1 := R.cell 1 _ rfl
          have R2 := R.cell 2 _ rfl
          have R3 := R.cell 3 _ rfl
          have R4 := R.cell 4 _ rfl
          have R5 := R.cell 5 _ rfl
          exact bodyPost_ret (v := .tuple #[.agg #[.int .i64 0, .int .i64 0, .int .i64 0, .int .i64 0, .int .u16 0, .bool false], .int .i64 (a2 : Int), .int .i64 43]) (by simp [results, Tryd.results12, go_sem, R0, R1, R2, R3, R4, R5]) rfl ⟨by rw [HRR.out]; rfl, below_six HI.out.below (Nat.le_refl _) _ _ _ _ _ _⟩
        | good ef ec ms2 a2 =>
          obtain ⟨hal2, hml2⟩ := place_le (by rw [← Lib.size_eq]; omega) hp2
          rw [← Lib.size_eq] at hal2 hml2
          rw [hp2] at HR2 C2
          have HR := Lib.hid (show res = keyEnd s.data.toList ⟨f, c, ef, ec, orB (orS 0 ms) ms2, hasB ms2⟩ a2 from HR2.out)
          have hsz2 := bsk_size ms2
          have HML2 := Lib.hid (bsk_list ms2)
          have C3 := Lib.hid (fun w => show Calls Tryd.prog 24 #[.string s, .int .i64 ((a : Int) + 1), .int .i64 0] w (RetV w (.tuple #[.int .i64 (ef : Int), .int .i64 (ec : Int), .string (bsk ms2), .int .i64 (a2 : Int), .int .i64 (-1)])) from C2 w)
          obtain ⟨mb2, hmb2⟩ : ∃ mb, mb = bsk ms2 := ⟨_, rfl⟩
          rw [← hmb2] at C3 hsz2 HML2
          have hm0 := orS_lt ms 0 (by omega)
          have HIX := Lib.hid ((HI.out.set (k' := ⟨f, c, ef, 0, orS 0 ms, false⟩) 2 (.int .i64 (ef : Int)) (by omega) rfl).set (k' := ⟨f, c, ef, ec, orS 0 ms, false⟩) 3 (.int .i64 (ec : Int)) (by omega) rfl)
          have k2 := HI.out.key.cell 2 _ rfl
          have k3 := HI.out.key.cell 3 _ rfl
          have g2 := HI.out.key.free 2
          have g3 := HI.out.key.free 3
          clear hd hcc C2 hp2 hmb2
          go_wp2_with fail
          refine (C3.out _).mono ?_
          rintro e w' ⟨rfl, rfl⟩
          go_wp2_with fail
          go_loopw [12] (fun i wr => ∃ j : Nat, j ≤ mb2.size ∧ i = .int .i64 j ∧ RkIn w ⟨f, c, ef, ec, orB (orS 0 ms) (mb2.data.toList.take j), hasB (mb2.data.toList.take j)⟩ wr) (fun i _ => mb2.size - (intOf i).toNat)
          case atStart => exact ⟨0, by omega, rfl, HIX.out⟩
          case round =>
            obtain ⟨j, hj, rfl, hI⟩ := hrel
            have HI := Lib.hid hI
            clear hI HIX k2 k3 g2 g3
            by_cases hlt : j < mb2.size
            · have hm : orB (orS 0 ms) (mb2.data.toList.take j) < 1024 := orB_lt _ _ hm0
              have hb := bitS_lt mb2[j]
              have HTK := Lib.hid (take_on mb2 j hlt)
              by_cases h98 : mb2[j] = 98
              · have u0 : ((mb2[j].toNat : Int) == 98) = true := by rw [h98]; rfl
                have HOR := Lib.hid (show orB (orS 0 ms) (mb2.data.toList.take (j + 1)) = orB (orS 0 ms) (mb2.data.toList.take j) from by rw [HTK.out, orB_snoc, if_pos h98])
                have HHB := Lib.hid (show hasB (mb2.data.toList.take (j + 1)) = true from by rw [HTK.out, hasB_snoc, h98]; simp)
                have k5 := HI.out.key.cell 5 _ rfl
                have g5 := HI.out.key.free 5
                clear h98
                go_wp2_with fail
                exact ⟨⟨j + 1, by omega, by go_num, HI.out.set (k' := ⟨f, c, ef, ec, orB (orS 0 ms) (mb2.data.toList.take (j + 1)), hasB (mb2.data.toList.take (j + 1))⟩) 5 (.bool true) (by omega) (by rw [HOR.out, HHB.out]; rfl)⟩, by simp [intOf]; omega⟩
              · have hc2 := mb2[j].toNat_lt
                have u0 : ((mb2[j].toNat : Int) == 98) = false := by
                  rw [beq_eq_false_iff_ne]; intro e; exact h98 (UInt8.toNat_inj.1 (by show mb2[j].toNat = 98; omega))
                have HOR := Lib.hid (show orB (orS 0 ms) (mb2.data.toList.take (j + 1)) = orB (orS 0 ms) (mb2.data.toList.take j) ||| bitS mb2[j] from by rw [HTK.out, orB_snoc, if_neg h98])
                have HHB := Lib.hid (show hasB (mb2.data.toList.take (j + 1)) = hasB (mb2.data.toList.take j) from by rw [HTK.out, hasB_snoc, beq_eq_false_iff_ne.2 h98, Bool.or_false])
                have hor := or_nat _ _ hm hb
                have k4 := HI.out.key.cell 4 _ rfl
                clear h98
                go_wp2_with fail
                refine wp_region_still_tail 8 (by kernel_rfl) (by kernel_rfl) ?_
                simp only [List.take_succ_cons, List.take_zero, List.drop_succ_cons, List.drop_zero]
                repeat still_step
                still_call (bitc _ _)
                repeat still_step
                refine wpStill_nil ?_
                change wpList _ _ _ _ _ wr.drew
                have k4' := HI.out.drew.key.cell 4 _ rfl
                have g4 := HI.out.drew.key.free 4
                go_wp2_with fail
                exact ⟨⟨j + 1, by omega, by go_num, (HI.out.set (k' := ⟨f, c, ef, ec, orB (orS 0 ms) (mb2.data.toList.take (j + 1)), hasB (mb2.data.toList.take (j + 1))⟩) 4 (.int .u16 ((orB (orS 0 ms) (mb2.data.toList.take j) ||| bitS mb2[j] : Nat) : Int)) (by omega) (by rw [HOR.out, HHB.out]; rfl)).drew⟩, by simp [intOf]; omega⟩
            · have hjs : j = mb2.size := by omega
              subst hjs
              have hI := HI.out
              rw [List.take_of_length_le (by rw [← Lib.size_eq]; exact Nat.le_refl _), HML2.out] at hI
              have HI := Lib.hid hI
              clear hI
              have r0 := HI.out.res.cell 0 _ rfl
              have r1 := HI.out.res.cell 1 _ rfl
              have r2 := HI.out.res.cell 2 _ rfl
              have r3 := HI.out.res.cell 3 _ rfl
              have r4 := HI.out.res.cell 4 _ rfl
              have r5 := HI.out.res.cell 5 _ rfl
              have f0 := HI.out.res.free 0
              have f1 := HI.out.res.free 1
              have f2 := HI.out.res.free 2
              have f3 := HI.out.res.free 3
              have f4 := HI.out.res.free 4
              have f5 := HI.out.res.free 5
              have k0 := HI.out.key.cell 0 _ rfl
              have k1 := HI.out.key.cell 1 _ rfl
              have k2 := HI.out.key.cell 2 _ rfl
              have k3 := HI.out.key.cell 3 _ rfl
              have k4 := HI.out.key.cell 4 _ rfl
              have k5 := HI.out.key.cell 5 _ rfl
              have hl := HI.out.res.lt
              by_cases hend : a2 < s.size
              · have u1 : decide ((a2 : Int) < (s.size : Int)) = true := by simp only [decide_eq_true_eq]; omega
                have HRR := Lib.hid (show res = (zeroK, a2, 43) from by rw [HR.out, keyEnd, ← Lib.size_eq, if_pos (by omega)])
                go_wp2_with fail
                have R := HI.out.res.six rfl (.int .i64 0) (.int .i64 0) (.int .i64 0) (.int .i64 0) (.int .u16 0) (.bool false)
                have R0 := R.cell 0 _ rfl
                have R1 := R.cell 1 _ rfl
                have R2 := R.cell 2 _ rfl
                have R3 := R.cell 3 _ rfl
                have R4 := R.cell 4 _ rfl
                have R5 := R.cell 5 _ rfl
                exact bodyPost_ret (v := .tuple #[.agg #[.int .i64 0, .int .i64 0, .int .i64 0, .int .i64 0, .int .u16 0, .bool false], .int .i64 (a2 : Int), .int .i64 43]) (by simp [results, Tryd.results12, go_sem, R0, R1, R2, R3, R4, R5]) rfl ⟨by rw [HRR.out]; rfl, below_six HI.out.below (Nat.le_refl _) _ _ _ _ _ _⟩
              · have u1 : decide ((a2 : Int) < (s.size : Int)) = false := by simp only [decide_eq_false_iff_not]; omega
                have hm := orB_lt ms2 _ hm0
                have TG := Lib.hid (fun w => refTog_ok _ hm w)
                have HR2 := HR.out
                rw [keyEnd, ← Lib.size_eq, if_neg (by omega)] at HR2
                cases htg : togS (⟨f, c, ef, ec, orB (orS 0 ms) ms2, hasB ms2⟩ : KeyR).m with
                | true =>
                  rw [htg] at HR2
                  rw [show togS _ = true from htg] at TG
                  have HRR := Lib.hid (show res = ((⟨f, c, ef, ec, orB (orS 0 ms) ms2, hasB ms2⟩ : KeyR), 0, 0) from HR2)
                  clear HR2 htg
                  go_wp2_with fail
                  refine (TG.out _).mono ?_
                  rintro e w' ⟨rfl, rfl⟩
                  go_wp2_with fail
                  have R := HI.out.res.six rfl (.int .i64 (f : Int)) (.int .i64 (c : Int)) (.int .i64 (ef : Int)) (.int .i64 (ec : Int)) (.int .u16 ((orB (orS 0 ms) ms2 : Nat) : Int)) (.bool (hasB ms2))
                  have R0 := R.cell 0 _ rfl
                  have R1 := R.cell 1 _ rfl
                  have R2 := R.cell 2 _ rfl
                  have R3 := R.cell 3 _ rfl
                  have R4 := R.cell 4 _ rfl
                  have R5 := R.cell 5 _ rfl
                  exact bodyPost_ret (v := .tuple #[.agg #[.int .i64 (f : Int), .int .i64 (c : Int), .int .i64 (ef : Int), .int .i64 (ec : Int), .int .u16 ((orB (orS 0 ms) ms2 : Nat) : Int), .bool (hasB ms2)], .int .i64 0, .int .i64 0]) (by simp [results, Tryd.results12, go_sem, R0, R1, R2, R3, R4, R5]) rfl ⟨by rw [HRR.out]; rfl, below_six HI.out.below (Nat.le_refl _) _ _ _ _ _ _⟩
                | false =>
                  rw [htg] at HR2
                  rw [show togS _ = false from htg] at TG
                  have HRR := Lib.hid (show res = (zeroK, 0, 48) from HR2)
                  clear HR2 htg
                  go_wp2_with fail
                  refine (TG.out _).mono ?_
                  rintro e w' ⟨rfl, rfl⟩
                  go_wp2_with fail
                  have R := HI.out.res.six rfl (.int .i64 0) (.int .i64 0) (.int .i64 0) (.int .i64 0) (.int .u16 0) (.bool false)
                  have R0 := R.cell 0 _ rfl
                  have R1 := R.cell 1 _ rfl
                  have R2 := R.cell 2 _ rfl
                  have R3 := R.cell 3 _ rfl
                  have R4 := R.cell 4 _ rfl
                  have R5 := R.cell 5 _ rfl
                  exact bodyPost_ret (v := .tuple #[.agg #[.int .i64 0, .int .i64 0, .int .i64 0, .int .i64 0, .int .u16 0, .bool false], .int .i64 0, .int .i64 48]) (by simp [results, Tryd.results12, go_sem, R0, R1, R2, R3, R4, R5]) rfl ⟨by rw [HRR.out]; rfl, below_six HI.out.below (Nat.le_refl _) _ _ _ _ _ _⟩
theorem rkey_ok (s : ByteArray) (w : World) (hs : s.size ≤ 140737488351232) : Calls Tryd.prog 12 #[.string s] w (RetKey w (keyS s.data.toList)) := by
  cases hp : placeS s.data.toList 0 1 with
  | bad a => exact rkey_bad s w hs a hp
  | good f c ms a => exact rkey_good s w hs f c ms a hp
end Go.Proofs.YtbgbmojoldkcfaaDoor
