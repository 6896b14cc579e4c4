/- numeral's Compare, of every kind and every two texts. -/
import Derived.Test.YtnpnccjeapejdaaGreatDoorNumScanOk
import Derived.Lib.QuietBelow
import Derived.Deep.RegionHeld3
import Derived.RegionTactic
import Derived.Deep.DeepCutAuto
namespace Go.Proofs.YtnpnccjeapejdaaGreatDoor.Num
section
section
section
section
section
section
section
open Go.RowKit Go.Sort Go.Lib

set_option maxHeartbeats 400000 in
theorem count_ok (p q : ByteArray) (w : World) (hp : p.size ≤ 1125899906842624) (hq : q.size ≤ 1125899906842624) :
    Calls Tryz.prog 54 #[.agg #[.string p, .string q]] w (RetBelow w (.int .i64 (p.size + q.size : Nat))) := by
  go_enter Tryz.func54, Tryz.ntmps54
  go_wp2_with fail
  go_ret
  exact ⟨by go_num, (Below.refl _ _).alloc (Nat.le_refl _) _⟩
set_option maxHeartbeats 400000 in
theorem digZero_ok (p q : ByteArray) (w : World) (hp : p.size ≤ 1125899906842624) (hq : q.size ≤ 1125899906842624) :
    Calls Tryz.prog 59 #[.agg #[.string p, .string q]] w (RetBelow w (.bool (decide (p.size + q.size = 0)))) := by
  go_enter Tryz.func59, Tryz.ntmps59
  go_wp2_with fail
  refine (count_ok p q _ hp hq).mono ?_
  rintro e w1 ⟨rfl, hb⟩
  have B := Lib.hid (((Below.refl _ w).alloc (Nat.le_refl _) (Obj.cells #[Value.string p, Value.string q] 77)).trans (hb.mono (by simp)))
  clear hb
  have E := Lib.hid (show (((p.size + q.size : Nat) : Int) == 0) = decide (p.size + q.size = 0) by rw [Bool.eq_iff_iff, beq_iff_eq, decide_eq_true_iff]; omega)
  generalize p.size + q.size = n at *
  go_wp2_with fail
  go_ret
  exact ⟨by rw [← E.out]; rfl, B.out⟩
set_option maxHeartbeats 800000 in
theorem digAt_ok (p q : ByteArray) (i : Nat) (w : World) (hi : i < p.size + q.size) (hq : q.size ≤ 1125899906842624) :
    Calls Tryz.prog 159 #[.agg #[.string p, .string q], .int .i64 i] w (RetBelow w (.int .u8 (atB (p.data.toList ++ q.data.toList) i).toNat)) := by
  by_cases h : i < p.size
  · have E := Lib.hid (show atB (p.data.toList ++ q.data.toList) i = p[i] by
      rw [← get_atB p i h]; unfold atB; simp only [List.getD_eq_getElem?_getD]; rw [List.getElem?_append_left (by rw [← Lib.size_eq]; exact h)])
    go_enter Tryz.func159, Tryz.ntmps159
    go_wp2_with fail
    go_ret
    exact ⟨by rw [E.out]; rfl, (Below.refl _ _).alloc (Nat.le_refl _) _⟩
  · have hj : i - p.size < q.size := by omega
    have E := Lib.hid (show atB (p.data.toList ++ q.data.toList) i = q[i - p.size] by
      rw [← get_atB q (i - p.size) hj]; unfold atB; simp only [List.getD_eq_getElem?_getD]; rw [List.getElem?_append_right (by rw [← Lib.size_eq]; omega), ← Lib.size_eq])
    obtain ⟨j, hj2⟩ : ∃ j : Nat, i = p.size + j := ⟨i - p.size, by omega⟩
    subst hj2
    go_enter Tryz.func159, Tryz.ntmps159
    go_wp2_with fail
    go_ret
    refine ⟨?_, (Below.refl _ _).alloc (Nat.le_refl _) _⟩
    rw [E.out]
    simp
end
section
open Go.RowKit Go.Sort Go.Lib

theorem cmpL_at {a b : List UInt8} {k : Nat} (ha : k < a.length) (hb : k < b.length) (h0 : ∀ j, j < k → cmpI (atB a j).toNat (atB b j).toNat = 0) (h : cmpI (atB a k).toNat (atB b k).toNat ≠ 0) : cmpL a b = cmpI (atB a k).toNat (atB b k).toNat := by
  have e : ∀ j, j < a.length → j < b.length → cmpI (digAt a j) (digAt b j) = cmpI (atB a j).toNat (atB b j).toNat := fun j h1 h2 => by
    unfold digAt; rw [if_pos h1, if_pos h2]; unfold cmpI atB; simp
  unfold cmpL
  rw [firstN_stop k (fun j hj => by rw [e j (by omega) (by omega)]; exact h0 j hj) (by rw [e k ha hb]; exact h) _ (by omega), e k ha hb]
theorem cmpL_lens {a b : List UInt8} (h0 : ∀ j, j < a.length → j < b.length → cmpI (atB a j).toNat (atB b j).toNat = 0) : cmpL a b = cmpI a.length b.length := by
  have e : ∀ j, j < a.length → j < b.length → cmpI (digAt a j) (digAt b j) = 0 := fun j h1 h2 => by
    rw [← h0 j h1 h2]; unfold digAt; rw [if_pos h1, if_pos h2]; unfold cmpI atB; simp
  unfold cmpL
  by_cases hl : a.length = b.length
  · rw [hl, Nat.max_self, firstN_zero _ (fun j hj => e j (by omega) hj)]
    exact (cmpI_is.refl _).symm
  · by_cases h1 : a.length < b.length
    · have d : cmpI (digAt a a.length) (digAt b a.length) = -1 := by
        unfold digAt; rw [if_neg (by omega), if_pos h1]; unfold cmpI; rw [if_pos (by omega)]
      rw [firstN_stop a.length (fun j hj => e j hj (by omega)) (by rw [d]; omega) _ (by omega), d]
      unfold cmpI; rw [if_pos (by omega)]
    · have d : cmpI (digAt a b.length) (digAt b b.length) = 1 := by
        unfold digAt; rw [if_pos (by omega), if_neg (by omega)]; unfold cmpI; rw [if_neg (by omega), if_pos (by omega)]
      rw [firstN_stop b.length (fun j hj => e j (by omega) hj) (by rw [d]; omega) _ (by omega), d]
      unfold cmpI; rw [if_neg (by omega), if_pos (by omega)]

/-- The two boxes of compare. -/
structure DgW (w wr : World) (p q p' q' : ByteArray) : Prop where
  below : RowKit.Below w.heap.size w wr
  size : w.heap.size + 1 < wr.heap.size
  c0 : wr.cell? ⟨w.heap.size, 0, none⟩ = some (.string p)
  c1 : wr.cell? ⟨w.heap.size, 1, none⟩ = some (.string q)
  d0 : wr.cell? ⟨w.heap.size + 1, 0, none⟩ = some (.string p')
  d1 : wr.cell? ⟨w.heap.size + 1, 1, none⟩ = some (.string q')
theorem DgW.step {w wr w' : World} {p q p' q' : ByteArray} (h : DgW w wr p q p' q') (b : RowKit.Below wr.heap.size wr w') : DgW w w' p q p' q' := by
  have hz := h.size
  exact ⟨h.below.trans (b.mono h.below.size), by have := b.size; omega, ((bcell b).1 _ _ (by omega)).trans h.c0, ((bcell b).1 _ _ (by omega)).trans h.c1, ((bcell b).1 _ _ (by omega)).trans h.d0, ((bcell b).1 _ _ (by omega)).trans h.d1⟩

def DgRel (w : World) (p q p' q' : ByteArray) (i : Value) (wr : World) : Prop :=
  ∃ k : Nat, k ≤ min (p.size + q.size) (p'.size + q'.size) ∧ i = .int .i64 k ∧ (∀ j, j < k → cmpI (atB (p.data.toList ++ q.data.toList) j).toNat (atB (p'.data.toList ++ q'.data.toList) j).toNat = 0) ∧ DgW w wr p q p' q'

set_option maxRecDepth 100000 in
set_option maxHeartbeats 1600000 in
theorem digCompare_ok (p q p' q' : ByteArray) (w : World) (hp : p.size ≤ 1125899906842624) (hq : q.size ≤ 1125899906842624) (hp' : p'.size ≤ 1125899906842624) (hq' : q'.size ≤ 1125899906842624) :
    Calls Tryz.prog 141 #[.agg #[.string p, .string q], .agg #[.string p', .string q']] w (RetBelow w (.int .i64 (cmpL (p.data.toList ++ q.data.toList) (p'.data.toList ++ q'.data.toList)))) := by
  have la : (p.data.toList ++ q.data.toList).length = p.size + q.size := by rw [List.length_append, ← Lib.size_eq, ← Lib.size_eq]
  have lb : (p'.data.toList ++ q'.data.toList).length = p'.size + q'.size := by rw [List.length_append, ← Lib.size_eq, ← Lib.size_eq]
  have LA := Lib.hid la
  have LB := Lib.hid lb
  clear la lb
  obtain ⟨n1, hn1⟩ : ∃ n1, n1 = p.size + q.size := ⟨_, rfl⟩
  obtain ⟨n2, hn2⟩ : ∃ n2, n2 = p'.size + q'.size := ⟨_, rfl⟩
  have b1 : n1 ≤ 2251799813685248 := by omega
  have b2 : n2 ≤ 2251799813685248 := by omega
  have C1 := Lib.hid (fun W : World => count_ok p q W hp hq)
  have C2 := Lib.hid (fun W : World => count_ok p' q' W hp' hq')
  rw [← hn1] at C1
  rw [← hn2] at C2
  have HN1 := Lib.hid hn1
  have HN2 := Lib.hid hn2
  clear hn1 hn2
  go_enter Tryz.func141, Tryz.ntmps141
  go_wp2_with fail
  have D0 : DgW w ((w.alloc (Obj.cells #[Value.string p, Value.string q] 77)).alloc (Obj.cells #[Value.string p', Value.string q'] 77)) p q p' q' :=
    ⟨((RowKit.Below.refl _ _).alloc (Nat.le_refl _) _).alloc (by simp) _, by simp, by simp, by simp, by simp, by simp⟩
  have HD0 := Lib.hid D0
  clear D0
  generalize (w.alloc (Obj.cells #[Value.string p, Value.string q] 77)).alloc (Obj.cells #[Value.string p', Value.string q'] 77) = W0 at *
  have j1 := cell_regrown HD0.out.c0
  have j2 := cell_regrown HD0.out.c1
  have j3 := cell_regrown HD0.out.d0
  have j4 := cell_regrown HD0.out.d1
  have cP : ∀ dd os, Calls Tryz.prog 54 #[.agg #[.string p, .string q]] (grow (redrawn W0 dd) os) fun e w'' => e = .returned (.int .i64 (n1 : Nat)) ∧ ∃ r : Regrown, w'' = grow (redrawn W0 r.d) r.os := fun dd os => Calls.regrown_of (C1.out _)
  have cQ : ∀ dd os, Calls Tryz.prog 54 #[.agg #[.string p', .string q']] (grow (redrawn W0 dd) os) fun e w'' => e = .returned (.int .i64 (n2 : Nat)) ∧ ∃ r : Regrown, w'' = grow (redrawn W0 r.d) r.os := fun dd os => Calls.regrown_of (C2.out _)
  refine wp_region_quiet_below (by kernel_rfl) (by kernel_rfl) ?_
  repeat (quiet_step (first | with_reducible exact cP _ _ | with_reducible exact cQ _ _))
  refine wpQuiet_nil ?_
  intro _ hw'
  obtain ⟨⟨dq, osq⟩, hw''⟩ := hw'
  subst hw''
  clear cP cQ j1 j2 j3 j4
  have HD1 := Lib.hid (HD0.out.step (below_regrown W0 dq osq))
  generalize grow (redrawn W0 dq) osq = W1 at *
  go_wp2_with fail
  obtain ⟨m, hm⟩ : ∃ m : Nat, m = min n1 n2 := ⟨_, rfl⟩
  rw [show (min (n1 : Int) (n2 : Int)) = (m : Int) by omega]
  have hm1 : m ≤ n1 := by omega
  have hm2 : m ≤ n2 := by omega
  have HM := Lib.hid hm
  clear hm HD0
  go_loopw [12] (fun i wr => DgRel w p q p' q' i wr) (fun i _ => m - (RowKit.intOf i).toNat)
  case atStart => exact ⟨0, Nat.zero_le _, rfl, fun j hj => by omega, HD1.out⟩
  case round =>
    obtain ⟨k, hk, rfl, h0, hdr⟩ := hrel
    rw [← HN1.out, ← HN2.out, ← HM.out] at hk
    have H0 := Lib.hid h0
    have HDR := Lib.hid hdr
    clear h0 hdr
    have j1 := cell_regrown HDR.out.c0
    have j2 := cell_regrown HDR.out.c1
    have j3 := cell_regrown HDR.out.d0
    have j4 := cell_regrown HDR.out.d1
    by_cases hlt : k < m
    · obtain ⟨x, hx⟩ : ∃ x, x = atB (p.data.toList ++ q.data.toList) k := ⟨_, rfl⟩
      obtain ⟨y, hy⟩ : ∃ y, y = atB (p'.data.toList ++ q'.data.toList) k := ⟨_, rfl⟩
      have A1 := Lib.hid (fun W : World => digAt_ok p q k W (by rw [← HN1.out]; omega) hq)
      have A2 := Lib.hid (fun W : World => digAt_ok p' q' k W (by rw [← HN2.out]; omega) hq')
      rw [← hx] at A1
      rw [← hy] at A2
      have HX := Lib.hid hx
      have HY := Lib.hid hy
      clear hx hy
      obtain ⟨c, hc⟩ : ∃ c, c = cmpI (x.toNat : Int) y.toNat := ⟨_, rfl⟩
      have A3 := Lib.hid (fun W : World => (cmpByte_ok (x.toNat : Int) y.toNat W).mono (fun e w' (h : e = .returned (.int .i64 (cmpI (x.toNat : Int) y.toNat)) ∧ W = w') => (⟨by rw [h.1, hc], by rw [← h.2]; exact RowKit.Below.refl _ _⟩ : RetBelow W (.int .i64 c) e w')))
      have HC := Lib.hid hc
      clear hc
      go_wp2_with fail
      have cP : ∀ dd os, Calls Tryz.prog 159 #[.agg #[.string p, .string q], .int .i64 k] (grow (redrawn wr dd) os) fun e w'' => e = .returned (.int .u8 x.toNat) ∧ ∃ r : Regrown, w'' = grow (redrawn wr r.d) r.os := fun dd os => Calls.regrown_of (A1.out _)
      have cQ : ∀ dd os, Calls Tryz.prog 159 #[.agg #[.string p', .string q'], .int .i64 k] (grow (redrawn wr dd) os) fun e w'' => e = .returned (.int .u8 y.toNat) ∧ ∃ r : Regrown, w'' = grow (redrawn wr r.d) r.os := fun dd os => Calls.regrown_of (A2.out _)
      have cR : ∀ dd os, Calls Tryz.prog 102 #[.int .u8 x.toNat, .int .u8 y.toNat] (grow (redrawn wr dd) os) fun e w'' => e = .returned (.int .i64 c) ∧ ∃ r : Regrown, w'' = grow (redrawn wr r.d) r.os := fun dd os => Calls.regrown_of (A3.out _)
      refine wp_region_quiet_below (by kernel_rfl) (by kernel_rfl) ?_
      repeat (quiet_step (first | with_reducible exact cP _ _ | with_reducible exact cQ _ _ | with_reducible exact cR _ _))
      refine wpQuiet_nil ?_
      intro _ hw'
      obtain ⟨⟨dq, osq⟩, hw''⟩ := hw'
      subst hw''
      clear cP cQ cR j1 j2 j3 j4
      have HD2 := Lib.hid (HDR.out.step (below_regrown wr dq osq))
      generalize grow (redrawn wr dq) osq = W2 at *
      by_cases hz : c = 0
      · have HZ := Lib.hid (HC.out.symm.trans hz)
        subst hz
        go_wp2_with fail
        go_roundw
        case rel => exact ⟨k + 1, by rw [← HN1.out, ← HN2.out, ← HM.out]; omega, by go_num, fun j hj => by
            by_cases e : j = k
            · subst e; rw [← HX.out, ← HY.out]; exact HZ.out
            · exact H0.out j (by omega), HD2.out⟩
        case measure => simp [RowKit.intOf]; omega
      · have t1 : (c != 0) = true := by rw [bne_iff_ne]; exact hz
        have HZ := Lib.hid hz
        clear hz
        go_wp2_with fail
        go_ret
        refine ⟨?_, HD2.out.below⟩
        rw [cmpL_at (k := k) (by rw [LA.out, ← HN1.out]; omega) (by rw [LB.out, ← HN2.out]; omega) H0.out (by rw [← HX.out, ← HY.out, ← HC.out]; exact HZ.out), ← HX.out, ← HY.out, ← HC.out]
        rfl
    · have hkm : k = m := by omega
      have HKM := Lib.hid hkm
      clear hkm
      have E := Lib.hid (show cmpL (p.data.toList ++ q.data.toList) (p'.data.toList ++ q'.data.toList) = cmpI n1 n2 by
        rw [cmpL_lens (fun j h1 h2 => H0.out j (by rw [LA.out, ← HN1.out] at h1; rw [LB.out, ← HN2.out] at h2; have := HM.out; have := HKM.out; omega)), LA.out, LB.out, HN1.out, HN2.out])
      obtain ⟨c, hc⟩ : ∃ c, c = cmpI (n1 : Int) n2 := ⟨_, rfl⟩
      have A3 := Lib.hid (fun W : World => (cmpInt_ok (n1 : Int) n2 W).mono (fun e w' (h : e = .returned (.int .i64 (cmpI (n1 : Int) n2)) ∧ W = w') => (⟨by rw [h.1, hc], by rw [← h.2]; exact RowKit.Below.refl _ _⟩ : RetBelow W (.int .i64 c) e w')))
      have HC := Lib.hid hc
      clear hc
      go_wp2_with fail
      have cP : ∀ dd os, Calls Tryz.prog 54 #[.agg #[.string p, .string q]] (grow (redrawn wr dd) os) fun e w'' => e = .returned (.int .i64 (n1 : Nat)) ∧ ∃ r : Regrown, w'' = grow (redrawn wr r.d) r.os := fun dd os => Calls.regrown_of (C1.out _)
      have cQ : ∀ dd os, Calls Tryz.prog 54 #[.agg #[.string p', .string q']] (grow (redrawn wr dd) os) fun e w'' => e = .returned (.int .i64 (n2 : Nat)) ∧ ∃ r : Regrown, w'' = grow (redrawn wr r.d) r.os := fun dd os => Calls.regrown_of (C2.out _)
      have cR : ∀ dd os, Calls Tryz.prog 103 #[.int .i64 n1, .int .i64 n2] (grow (redrawn wr dd) os) fun e w'' => e = .returned (.int .i64 c) ∧ ∃ r : Regrown, w'' = grow (redrawn wr r.d) r.os := fun dd os => Calls.regrown_of (A3.out _)
      refine wp_region_quiet_below (by kernel_rfl) (by kernel_rfl) ?_
      repeat (quiet_step (first | with_reducible exact cP _ _ | with_reducible exact cQ _ _ | with_reducible exact cR _ _))
      refine wpQuiet_nil ?_
      intro _ hw'
      obtain ⟨⟨dq, osq⟩, hw''⟩ := hw'
      subst hw''
      clear cP cQ cR j1 j2 j3 j4
      have HD2 := Lib.hid (HDR.out.step (below_regrown wr dq osq))
      generalize grow (redrawn wr dq) osq = W2 at *
      go_wp2_with fail
      go_ret
      exact ⟨by rw [E.out, ← HC.out]; rfl, HD2.out.below⟩
end
end
section
open Go.RowKit Go.Sort

theorem trimL_len (l : List UInt8) : (trimL l).length ≤ l.length := trimL_le l
theorem trimR_len (l : List UInt8) : (trimR l).length ≤ l.length := by
  unfold trimR Lib.trimRightS
  rw [List.length_reverse]
  have := (List.dropWhile_sublist (l := l.reverse) ([48].contains ·)).length_le
  rw [List.length_reverse] at this
  exact this

set_option maxRecDepth 100000 in
set_option maxHeartbeats 1600000 in
theorem number_ok (h : Hd) (w : World) (hw : h.whole.length ≤ 1125899906842624) (hf : h.frac.length ≤ 1125899906842624) (he : -1099511627776 ≤ h.exp ∧ h.exp ≤ 1099511627776) :
    Calls Tryz.prog 58 #[headV h] w (RetBelow w (.tuple #[.agg #[.string (bs (numW h)), .string (bs (numF h))], .int .i64 (numE h)])) := by
  unfold headV
  have C1 := Lib.hid (fun W : World => trimL_ok (bs h.whole) W)
  have C2 := Lib.hid (fun W : World => trimR_ok (bs h.frac) W (by rw [bs_size]; omega))
  go_enter Tryz.func58, Tryz.ntmps58
  go_wp2_with fail
  have k2 : ((w.alloc (Obj.cells #[Value.int IntKind.u8 h.cls, Value.bool h.neg, Value.string (bs h.whole), Value.string (bs h.frac), Value.int IntKind.i64 h.exp, Value.int IntKind.i64 h.size] 98)).alloc (Obj.cells #[Value.string ⟨#[]⟩, Value.string ⟨#[]⟩] 77)).cell? ⟨w.heap.size, 2, none⟩ = some (.string (bs h.whole)) := by simp
  have k3 : ((w.alloc (Obj.cells #[Value.int IntKind.u8 h.cls, Value.bool h.neg, Value.string (bs h.whole), Value.string (bs h.frac), Value.int IntKind.i64 h.exp, Value.int IntKind.i64 h.size] 98)).alloc (Obj.cells #[Value.string ⟨#[]⟩, Value.string ⟨#[]⟩] 77)).cell? ⟨w.heap.size, 3, none⟩ = some (.string (bs h.frac)) := by simp
  have k4 : ((w.alloc (Obj.cells #[Value.int IntKind.u8 h.cls, Value.bool h.neg, Value.string (bs h.whole), Value.string (bs h.frac), Value.int IntKind.i64 h.exp, Value.int IntKind.i64 h.size] 98)).alloc (Obj.cells #[Value.string ⟨#[]⟩, Value.string ⟨#[]⟩] 77)).cell? ⟨w.heap.size, 4, none⟩ = some (.int .i64 h.exp) := by simp
  have k5 : ((w.alloc (Obj.cells #[Value.int IntKind.u8 h.cls, Value.bool h.neg, Value.string (bs h.whole), Value.string (bs h.frac), Value.int IntKind.i64 h.exp, Value.int IntKind.i64 h.size] 98)).alloc (Obj.cells #[Value.string ⟨#[]⟩, Value.string ⟨#[]⟩] 77)).cell? ⟨w.heap.size + 1, 0, none⟩ = some (.string ⟨#[]⟩) := by simp
  have k6 : ((w.alloc (Obj.cells #[Value.int IntKind.u8 h.cls, Value.bool h.neg, Value.string (bs h.whole), Value.string (bs h.frac), Value.int IntKind.i64 h.exp, Value.int IntKind.i64 h.size] 98)).alloc (Obj.cells #[Value.string ⟨#[]⟩, Value.string ⟨#[]⟩] 77)).cell? ⟨w.heap.size + 1, 1, none⟩ = some (.string ⟨#[]⟩) := by simp
  have g5 : ((w.alloc (Obj.cells #[Value.int IntKind.u8 h.cls, Value.bool h.neg, Value.string (bs h.whole), Value.string (bs h.frac), Value.int IntKind.i64 h.exp, Value.int IntKind.i64 h.size] 98)).alloc (Obj.cells #[Value.string ⟨#[]⟩, Value.string ⟨#[]⟩] 77)).frozen? ⟨w.heap.size + 1, 0, none⟩ = false := by simp
  have g6 : ((w.alloc (Obj.cells #[Value.int IntKind.u8 h.cls, Value.bool h.neg, Value.string (bs h.whole), Value.string (bs h.frac), Value.int IntKind.i64 h.exp, Value.int IntKind.i64 h.size] 98)).alloc (Obj.cells #[Value.string ⟨#[]⟩, Value.string ⟨#[]⟩] 77)).frozen? ⟨w.heap.size + 1, 1, none⟩ = false := by simp
  have hsz : ((w.alloc (Obj.cells #[Value.int IntKind.u8 h.cls, Value.bool h.neg, Value.string (bs h.whole), Value.string (bs h.frac), Value.int IntKind.i64 h.exp, Value.int IntKind.i64 h.size] 98)).alloc (Obj.cells #[Value.string ⟨#[]⟩, Value.string ⟨#[]⟩] 77)).heap.size = w.heap.size + 2 := by simp
  have hb := ((Below.refl w.heap.size w).alloc (Nat.le_refl _) (Obj.cells #[Value.int IntKind.u8 h.cls, Value.bool h.neg, Value.string (bs h.whole), Value.string (bs h.frac), Value.int IntKind.i64 h.exp, Value.int IntKind.i64 h.size] 98)).alloc (by simp) (Obj.cells #[Value.string ⟨#[]⟩, Value.string ⟨#[]⟩] 77)
  have HB := Lib.hid hb
  have HSZ := Lib.hid hsz
  clear hb hsz
  have L1 := Lib.hid (bs_list h.whole)
  have L2 := Lib.hid (bs_list h.frac)
  rw [L1.out] at C1
  rw [L2.out] at C2
  generalize (w.alloc (Obj.cells #[Value.int IntKind.u8 h.cls, Value.bool h.neg, Value.string (bs h.whole), Value.string (bs h.frac), Value.int IntKind.i64 h.exp, Value.int IntKind.i64 h.size] 98)).alloc (Obj.cells #[Value.string ⟨#[]⟩, Value.string ⟨#[]⟩] 77) = W0 at *
  generalize bs h.whole = Wb at *
  generalize bs h.frac = Fb at *
  go_region_held3 (fun w' => w'.cell? ⟨w.heap.size, 2, none⟩ = some (.string Wb) ∧ w'.cell? ⟨w.heap.size, 3, none⟩ = some (.string Fb))
    (first | go_keep)
    ((first | (go_at_call 61; refine (C1.out _).mono ?_; rintro e w' ⟨rfl, rfl⟩) | (go_at_call 89; refine (C2.out _).mono ?_; rintro e w' ⟨rfl, rfl⟩)))
  all_goals
    have hz1 : w.heap.size < W0.heap.size := by have := HSZ.out; omega
    have hz2 : w.heap.size + 1 < W0.heap.size := by have := HSZ.out; omega
    have cA : ∀ (x y : Value) (o : Obj), (((W0.setCell ⟨w.heap.size + 1, 0, none⟩ x).setCell ⟨w.heap.size + 1, 1, none⟩ y).alloc o).cell? ⟨w.heap.size + 1, 0, none⟩ = some x := fun x y o => by
      rw [World.cell?_alloc_lt _ _ _ (by simp; omega), World.cell?_setCell_other _ _ _ _ (by simp), World.cell?_setCell_same _ _ _ k5]
    have cB : ∀ (x y : Value) (o : Obj), (((W0.setCell ⟨w.heap.size + 1, 0, none⟩ x).setCell ⟨w.heap.size + 1, 1, none⟩ y).alloc o).cell? ⟨w.heap.size + 1, 1, none⟩ = some y := fun x y o => by
      rw [World.cell?_alloc_lt _ _ _ (by simp; omega), World.cell?_setCell_same (u := .string ⟨#[]⟩) _ _ _ (by rw [World.cell?_setCell_other _ _ _ _ (by simp)]; exact k6)]
    have CA := Lib.hid cA
    have CB := Lib.hid cB
    clear cA cB
    have n1 : (bs (trimL h.whole)).size ≤ 1125899906842624 := by rw [bs_size]; have := trimL_len h.whole; omega
    have n2 : (bs (trimR h.frac)).size ≤ 1125899906842624 := by rw [bs_size]; have := trimR_len h.frac; omega
    have n3 : (bs (trimL (trimR h.frac))).size ≤ 1125899906842624 := by rw [bs_size]; have := trimR_len h.frac; have := trimL_len (trimR h.frac); omega
    have C3 := Lib.hid (fun W : World => trimL_ok (bs (trimR h.frac)) W)
    have C4 := Lib.hid (fun W : World => trimR_ok (bs (trimL h.whole)) W (by omega))
    rw [bs_list] at C3 C4
    have emp : ∀ x : List UInt8, x = [] → (bs x).toList = [] ∧ (bs x).toList.isEmpty = true := fun x h => by rw [Lib.toList_data, bs_list, h]; exact ⟨rfl, rfl⟩
    have nem : ∀ x : List UInt8, ¬ x = [] → ¬ (bs x).toList = [] ∧ (bs x).toList.isEmpty = false := fun x h => by rw [Lib.toList_data, bs_list]; exact ⟨h, by cases hx : x <;> simp_all⟩
    by_cases hwz : trimL h.whole = []
    · by_cases hfz : (if trimL h.whole = [] then trimL (trimR h.frac) else trimR h.frac) = []
      · have hfz2 := hfz
        rw [if_pos hwz] at hfz2
        have EW := Lib.hid (show numW h = trimR (trimL h.whole) by unfold numW; rw [if_pos hwz, if_pos hfz2])
        have EF := Lib.hid (show numF h = trimL (trimR h.frac) by unfold numF; rw [if_pos hwz])
        have EE := Lib.hid (show numE h = ((trimL (trimR h.frac)).length : Int) - (trimR h.frac).length + h.exp by unfold numE; rw [if_pos hwz])
        obtain ⟨x1, x2⟩ := emp _ hwz
        obtain ⟨y1, y2⟩ := emp _ hfz2
        clear hwz hfz hfz2 emp nem
        go_wp2_with (first | (go_at_call 61; refine (C3.out _).mono ?_; rintro e w' ⟨rfl, rfl⟩) | (go_at_call 89; refine (C4.out _).mono ?_; rintro e w' ⟨rfl, rfl⟩))
        go_region
        all_goals go_wp2_with fail
        all_goals exact bodyPost_ret (v := .tuple #[.agg #[.string (bs (trimR (trimL h.whole))), .string (bs (trimL (trimR h.frac)))], .int .i64 (((bs (trimL (trimR h.frac))).size : Int) - ((bs (trimR h.frac)).size : Int) + h.exp)]) (by simp [results, Tryz.results58, go_sem, CA.out, CB.out]) rfl ⟨by rw [EW.out, EF.out, EE.out]; simp only [bs_size], ((((HB.out.setCell (p := ⟨w.heap.size + 1, 0, none⟩) (by simp) _).setCell (p := ⟨w.heap.size + 1, 1, none⟩) (by simp) _).alloc (by simp; omega) _).drew).drew⟩
      · have hfz2 := hfz
        rw [if_pos hwz] at hfz2
        have EW := Lib.hid (show numW h = trimL h.whole by unfold numW; rw [if_pos hwz, if_neg hfz2])
        have EF := Lib.hid (show numF h = trimL (trimR h.frac) by unfold numF; rw [if_pos hwz])
        have EE := Lib.hid (show numE h = ((trimL (trimR h.frac)).length : Int) - (trimR h.frac).length + h.exp by unfold numE; rw [if_pos hwz])
        obtain ⟨x1, x2⟩ := emp _ hwz
        obtain ⟨y1, y2⟩ := nem _ hfz2
        clear hwz hfz hfz2 emp nem
        go_wp2_with (first | (go_at_call 61; refine (C3.out _).mono ?_; rintro e w' ⟨rfl, rfl⟩))
        go_region
        all_goals go_wp2_with fail
        all_goals exact bodyPost_ret (v := .tuple #[.agg #[.string (bs (trimL h.whole)), .string (bs (trimL (trimR h.frac)))], .int .i64 (((bs (trimL (trimR h.frac))).size : Int) - ((bs (trimR h.frac)).size : Int) + h.exp)]) (by simp [results, Tryz.results58, go_sem, CA.out, CB.out]) rfl ⟨by rw [EW.out, EF.out, EE.out]; simp only [bs_size], ((((HB.out.setCell (p := ⟨w.heap.size + 1, 0, none⟩) (by simp) _).setCell (p := ⟨w.heap.size + 1, 1, none⟩) (by simp) _).alloc (by simp; omega) _).drew).drew⟩
    · by_cases hfz : (if trimL h.whole = [] then trimL (trimR h.frac) else trimR h.frac) = []
      · have hfz2 := hfz
        rw [if_neg hwz] at hfz2
        have EW := Lib.hid (show numW h = trimR (trimL h.whole) by unfold numW; rw [if_neg hwz, if_pos hfz2])
        have EF := Lib.hid (show numF h = trimR h.frac by unfold numF; rw [if_neg hwz])
        have EE := Lib.hid (show numE h = ((trimL h.whole).length : Int) + h.exp by unfold numE; rw [if_neg hwz])
        obtain ⟨x1, x2⟩ := nem _ hwz
        obtain ⟨y1, y2⟩ := emp _ hfz2
        clear hwz hfz hfz2 emp nem
        go_wp2_with (first | (go_at_call 89; refine (C4.out _).mono ?_; rintro e w' ⟨rfl, rfl⟩))
        go_region
        all_goals go_wp2_with fail
        all_goals exact bodyPost_ret (v := .tuple #[.agg #[.string (bs (trimR (trimL h.whole))), .string (bs (trimR h.frac))], .int .i64 (((bs (trimL h.whole)).size : Int) + h.exp)]) (by simp [results, Tryz.results58, go_sem, CA.out, CB.out]) rfl ⟨by rw [EW.out, EF.out, EE.out]; simp only [bs_size], ((((HB.out.setCell (p := ⟨w.heap.size + 1, 0, none⟩) (by simp) _).setCell (p := ⟨w.heap.size + 1, 1, none⟩) (by simp) _).alloc (by simp; omega) _).drew).drew⟩
      · have hfz2 := hfz
        rw [if_neg hwz] at hfz2
        have EW := Lib.hid (show numW h = trimL h.whole by unfold numW; rw [if_neg hwz, if_neg hfz2])
        have EF := Lib.hid (show numF h = trimR h.frac by unfold numF; rw [if_neg hwz])
        have EE := Lib.hid (show numE h = ((trimL h.whole).length : Int) + h.exp by unfold numE; rw [if_neg hwz])
        obtain ⟨x1, x2⟩ := nem _ hwz
        obtain ⟨y1, y2⟩ := nem _ hfz2
        clear hwz hfz hfz2 emp nem
        go_wp2_with fail
        go_region
        all_goals go_wp2_with fail
        all_goals exact bodyPost_ret (v := .tuple #[.agg #[.string (bs (trimL h.whole)), .string (bs (trimR h.frac))], .int .i64 (((bs (trimL h.whole)).size : Int) + h.exp)]) (by simp [results, Tryz.results58, go_sem, CA.out, CB.out]) rfl ⟨by rw [EW.out, EF.out, EE.out]; simp only [bs_size], ((((HB.out.setCell (p := ⟨w.heap.size + 1, 0, none⟩) (by simp) _).setCell (p := ⟨w.heap.size + 1, 1, none⟩) (by simp) _).alloc (by simp; omega) _).drew).drew⟩
end
end
section
open Go.RowKit

/-- A head whose parts are of bounded length. -/
structure HdOk (h : Hd) : Prop where
  whole : h.whole.length ≤ 1125899906842624
  frac : h.frac.length ≤ 1125899906842624
  exp : -1099511627776 ≤ h.exp ∧ h.exp ≤ 1099511627776
  size : h.size ≤ 1125899906842632
  cls : h.cls ≤ 4

theorem numW_le (h : Hd) : (numW h).length ≤ h.whole.length := by
  unfold numW
  have h1 := trimL_len h.whole
  have h2 := trimR_len (trimL h.whole)
  split <;> (try split) <;> omega
theorem numF_le (h : Hd) : (numF h).length ≤ h.frac.length := by
  unfold numF
  have h1 := trimR_len h.frac
  have h2 := trimL_len (trimR h.frac)
  split <;> omega
theorem numD_nil (h : Hd) : decide ((bs (numW h)).size + (bs (numF h)).size = 0) = decide (numD h = []) := by
  rw [bs_size, bs_size, Bool.eq_iff_iff, decide_eq_true_iff, decide_eq_true_iff]
  unfold numD
  constructor
  · intro e
    have : (numW h ++ numF h).length = 0 := by rw [List.length_append]; exact e
    exact List.eq_nil_of_length_eq_zero this
  · intro e; rw [← List.length_append, e]; rfl

def sufN (k : Nat) : UInt8 := [75, 107, 77, 71, 84, 80, 69, 90, 89, 82, 81].getD k 0
def sufR (k : Nat) : Int := [(1 : Int), 1, 2, 3, 4, 5, 6, 7, 8, 9, 10].getD k 0
theorem index_suf (k : Nat) (h : k < 11) (w : World) : (Instr.index 126 (.agg cSuffixes) (.int .i64 k)).run Tryz.prog w = .ok (.agg #[.int .u8 (sufN k).toNat, .int .i64 (sufR k)]) w := by
  obtain rfl | rfl | rfl | rfl | rfl | rfl | rfl | rfl | rfl | rfl | rfl : k = 0 ∨ k = 1 ∨ k = 2 ∨ k = 3 ∨ k = 4 ∨ k = 5 ∨ k = 6 ∨ k = 7 ∨ k = 8 ∨ k = 9 ∨ k = 10 := by omega
  all_goals kernel_rfl
theorem info108 : (Tryz.prog.info? 126).map (·.size) = some cSuffixes.size := by kernel_rfl
theorem rank_hit {c : UInt8} {k : Nat} (hk : k < 11) (lo : ∀ j, j < k → (c == sufN j) = false) (h : c = sufN k) : (rankOf c : Int) = sufR k := by
  subst h
  obtain rfl | rfl | rfl | rfl | rfl | rfl | rfl | rfl | rfl | rfl | rfl : k = 0 ∨ k = 1 ∨ k = 2 ∨ k = 3 ∨ k = 4 ∨ k = 5 ∨ k = 6 ∨ k = 7 ∨ k = 8 ∨ k = 9 ∨ k = 10 := by omega
  all_goals decide
theorem rank_miss {c : UInt8} (lo : ∀ j, j < 11 → (c == sufN j) = false) : rankOf c = 0 := by
  unfold rankOf
  have l := fun j hj => lo j hj
  have e0 : (c == 75) = false := l 0 (by omega)
  have e1 : (c == 107) = false := l 1 (by omega)
  have e2 : (c == 77) = false := l 2 (by omega)
  have e3 : (c == 71) = false := l 3 (by omega)
  have e4 : (c == 84) = false := l 4 (by omega)
  have e5 : (c == 80) = false := l 5 (by omega)
  have e6 : (c == 69) = false := l 6 (by omega)
  have e7 : (c == 90) = false := l 7 (by omega)
  have e8 : (c == 89) = false := l 8 (by omega)
  have e9 : (c == 82) = false := l 9 (by omega)
  have e10 : (c == 81) = false := l 10 (by omega)
  rw [e0, e1, e2, e3, e4, e5, e6, e7, e8, e9, e10]; rfl

def SufRel (w : World) (sz : Nat) (c : UInt8) (i : Value) (wr : World) : Prop :=
  ∃ k : Nat, k ≤ 11 ∧ i = .int .i64 k ∧ (∀ j, j < k → (c == sufN j) = false) ∧ Below w.heap.size w wr ∧ w.heap.size < wr.heap.size ∧ wr.cell? ⟨w.heap.size, 5, none⟩ = some (.int .i64 sz)

set_option maxRecDepth 100000 in
set_option maxHeartbeats 1600000 in
theorem suffix_ok (h : Hd) (s : ByteArray) (w : World) (ok : HdOk h) (T : Tabs w) :
    Calls Tryz.prog 60 #[headV h, .string s] w (RetBelow w (.int .i64 (sufS h s.data.toList : Nat))) := by
  obtain ⟨t0, fr0, hm⟩ := T.suffixes
  have hcl := ok.cls
  unfold headV
  by_cases hc : h.cls = 0
  · have E := Lib.hid (show sufS h s.data.toList = 0 by unfold sufS; rw [if_pos hc])
    have t1 : ((h.cls : Int) == 0) = true := by rw [hc]; rfl
    clear hm hc
    go_enter Tryz.func60, Tryz.ntmps60
    go_wp2_with fail
    go_ret
    exact ⟨by rw [E.out]; rfl, (Below.refl _ _).alloc (Nat.le_refl _) _⟩
  · have E := Lib.hid (show sufS h s.data.toList = rankOf (atB s.data.toList h.size) by unfold sufS; rw [if_neg hc])
    have t1 : ((h.cls : Int) == 0) = false := by rw [beq_eq_false_iff_ne]; omega
    have hm2 : ∀ o, (w.alloc o).heap[3]? = some (.cells cSuffixes t0 fr0) := fun o => by
      rw [Below.heap_alloc w o 3 (lt_of_block hm)]; exact hm
    have hm3 := hm2 (Obj.cells #[Value.int IntKind.u8 h.cls, Value.bool h.neg, Value.string (bs h.whole), Value.string (bs h.frac), Value.int IntKind.i64 h.exp, Value.int IntKind.i64 h.size] 98)
    clear hm hm2 hc
    go_enter Tryz.func60, Tryz.ntmps60
    go_wp2_with (refine wpList_load_row rfl _ _ rfl 3 rfl t0 cSuffixes fr0 _ hm3 Tryz.underlying126 rfl info108 ?_)
    clear hm3
    obtain ⟨c, hcc⟩ : ∃ c, c = atB s.data.toList h.size := ⟨_, rfl⟩
    rw [← hcc] at E
    have AT := Lib.hid (fun W : World => at_ok s h.size W)
    rw [← hcc] at AT
    clear hcc
    obtain ⟨sz, hsz⟩ : ∃ sz, sz = h.size := ⟨_, rfl⟩
    rw [← hsz] at AT
    have H0 : SufRel w sz c (.int .i64 0) (w.alloc (Obj.cells #[Value.int IntKind.u8 h.cls, Value.bool h.neg, Value.string (bs h.whole), Value.string (bs h.frac), Value.int IntKind.i64 h.exp, Value.int IntKind.i64 h.size] 98)) :=
      ⟨0, by omega, rfl, fun j hj => by omega, (Below.refl _ _).alloc (Nat.le_refl _) _, by simp, by rw [hsz]; simp⟩
    have HH0 := Lib.hid H0
    clear H0 hsz
    go_loopw [11] (fun i wr => SufRel w sz c i wr) (fun i _ => 11 - (intOf i).toNat)
    case atStart => exact HH0.out
    case round =>
      obtain ⟨k, hk, rfl, hlo, hb, hz, hcell⟩ := hrel
      have HLO := Lib.hid hlo
      have HB := Lib.hid hb
      have HCELL := Lib.hid hcell
      clear hlo hb
      by_cases hlt : k < 11
      · have hx := index_suf k hlt
        obtain ⟨x, hxx⟩ : ∃ x, x = sufN k := ⟨_, rfl⟩
        obtain ⟨r, hrr⟩ : ∃ r, r = sufR k := ⟨_, rfl⟩
        rw [← hxx, ← hrr] at hx
        have HX := Lib.hid hxx
        have HR := Lib.hid hrr
        clear hxx hrr
        by_cases hxc : c = x
        · have t2 : ((c.toNat : Int) == (x.toNat : Int)) = true := by rw [hxc]; simp
          have F := Lib.hid (rank_hit hlt HLO.out (hxc.trans HX.out))
          clear hxc
          go_wp2_with fail
          go_quiet ((first | (go_at_call 85; exact Calls.quiet_of_same ((AT.out _).mono fun _ _ h => ⟨h.1, h.2.symm⟩))))
          go_wp2_with fail
          go_ret
          refine ⟨?_, bdrew (HB.out.alloc HB.out.size _) _⟩
          rw [E.out, F.out, ← HR.out]; rfl
        · have t2 : ((c.toNat : Int) == (x.toNat : Int)) = false := by rw [beq_eq_false_iff_ne]; intro h; exact hxc (UInt8.toNat_inj.1 (by omega))
          have F := Lib.hid (show (c == sufN k) = false by rw [← HX.out, beq_eq_false_iff_ne]; exact hxc)
          clear hxc
          go_wp2_with fail
          go_quiet ((first | (go_at_call 85; exact Calls.quiet_of_same ((AT.out _).mono fun _ _ h => ⟨h.1, h.2.symm⟩))))
          go_wp2_with fail
          go_roundw
          case rel => exact ⟨k + 1, by omega, by go_num, fun j hj => by
              by_cases e : j = k
              · subst e; exact F.out
              · exact HLO.out j (by omega), bdrew (HB.out.alloc HB.out.size _) _, by simp; omega, (World.cell?_alloc_lt (w := wr) (a := ⟨w.heap.size, 5, none⟩) (o := _) hz).trans HCELL.out⟩
          case measure => simp [intOf]; omega
      · have hk' : k = 11 := by omega
        subst hk'
        have F := Lib.hid (rank_miss HLO.out)
        go_wp2_with fail
        go_ret
        exact ⟨by rw [E.out, F.out]; rfl, HB.out⟩
end
end
section
open Go.RowKit

/-- A block whose cells are known, and may be written. -/
structure CellsAt (w : World) (b : Nat) (vs : List Value) : Prop where
  lt : b < w.heap.size
  cell : ∀ (j : Nat) v, vs[j]? = some v → w.cell? ⟨b, j, none⟩ = some v
  free : ∀ j, w.frozen? ⟨b, j, none⟩ = false
theorem CellsAt.step {w w' : World} {b : Nat} {vs : List Value} (h : CellsAt w b vs) (k : Below w.heap.size w w') : CellsAt w' b vs :=
  ⟨Nat.lt_of_lt_of_le h.lt k.size, fun j v hv => ((bcell k).1 b j h.lt).trans (h.cell j v hv), fun j => ((bcell k).2 b j h.lt).trans (h.free j)⟩
theorem CellsAt.new (w : World) (vs : List Value) (t : TypeId) : CellsAt (w.alloc (.cells vs.toArray t)) w.heap.size vs :=
  ⟨by simp, fun j v hv => by rw [World.cell?_alloc_at _ _ _ _ rfl]; simpa using hv, fun j => by simp⟩
theorem CellsAt.set {w : World} {b : Nat} {vs : List Value} (h : CellsAt w b vs) (j : Nat) (x : Value) (hj : j < vs.length) : CellsAt (w.setCell ⟨b, j, none⟩ x) b (vs.set j x) := by
  refine ⟨by simpa using h.lt, fun i v hv => ?_, fun i => by rw [World.frozen?_setCell]; exact h.free i⟩
  rw [List.getElem?_set] at hv
  by_cases e : j = i
  · subst e
    rw [if_pos rfl, if_pos hj] at hv
    cases hv
    exact World.cell?_setCell_same _ _ _ (h.cell j vs[j] (List.getElem?_eq_getElem hj))
  · rw [if_neg e] at hv
    rw [World.cell?_setCell_other _ _ _ _ (by simp; try omega)]
    exact h.cell i v hv
theorem CellsAt.other {w : World} {b c : Nat} {vs : List Value} (h : CellsAt w b vs) (hc : c ≠ b) (j : Nat) (x : Value) : CellsAt (w.setCell ⟨c, j, none⟩ x) b vs :=
  ⟨by simpa using h.lt, fun i v hv => by rw [World.cell?_setCell_other _ _ _ _ (fun e => hc (congrArg Addr.block e))]; exact h.cell i v hv, fun i => by rw [World.frozen?_setCell]; exact h.free i⟩
theorem CellsAt.alloc {w : World} {b : Nat} {vs : List Value} (h : CellsAt w b vs) (o : Obj) : CellsAt (w.alloc o) b vs := h.step ((Below.refl _ _).alloc (Nat.le_refl _) o)

def valV (v : Val) : Value := .agg #[.int .u8 v.cls, .int .i64 v.rank, .int .i64 v.exp, .string (bs v.whole), .string (bs v.frac)]

theorem expS_le (l : List UInt8) : -1099511627776 ≤ (expS l).1 ∧ (expS l).1 ≤ 1099511627776 ∧ (expS l).2 ≤ l.length := by
  have b := satS_le ((l.drop (1 + expSg l)).takeWhile isDig) 0 (by omega)
  have n := spanN_le isDig (l.drop (1 + expSg l))
  simp only [List.length_drop] at n
  unfold expS
  split
  · split
    · simp
    · have m : ∀ (q : Bool) (n : Nat), n ≤ 1099511627776 → -1099511627776 ≤ (if q = true then -(n : Int) else n) ∧ (if q = true then -(n : Int) else n) ≤ 1099511627776 := fun q n hn => by
        cases q
        · simp; omega
        · simp; omega
      refine ⟨(m _ _ b).1, (m _ _ b).2, ?_⟩
      show 1 + expSg l + spanN isDig (l.drop (1 + expSg l)) ≤ l.length
      omega
  · simp
theorem hdNone_ok : HdOk Hd.none := ⟨by show 0 ≤ _; omega, by show 0 ≤ _; omega, by show (-1099511627776 : Int) ≤ 0 ∧ (0 : Int) ≤ 1099511627776; omega, by show 0 ≤ _; omega, by show 0 ≤ _; omega⟩
theorem hdNum_ok {n : Bool} {a b : List UInt8} {e : Int} {k : Nat} (ha : a.length ≤ 1125899906842624) (hb : b.length ≤ 1125899906842624) (he : -1099511627776 ≤ e ∧ e ≤ 1099511627776) (hk : k ≤ 1125899906842632) : HdOk ⟨3, n, a, b, e, k⟩ := ⟨ha, hb, he, hk, by show 3 ≤ 4; omega⟩
theorem scanS_ok (s : ByteArray) (g : Bool) (hs : s.size ≤ 1125899906842624) : HdOk (scanS s.data.toList g) := by
  by_cases hw : scWord s g
  · obtain ⟨rfl, hp⟩ := hw
    have e := scan_word s ⟨rfl, hp⟩
    unfold scL at e
    rw [e]
    have h1 := pos_le s true
    have h2 := wordS_le (scR1 s true) (scNeg s)
    refine ⟨by simp, by simp, by simp, ?_, ?_⟩
    · show scF s true + (wordS (scR1 s true) (scNeg s)).2 ≤ 1125899906842632
      omega
    · show (wordS (scR1 s true) (scNeg s)).1 ≤ 4
      unfold wordS
      repeat' split
      all_goals simp
  · have e := scan_num s g hw
    unfold scL at e
    rw [e]
    have h1 := pos_le s g
    have d1 := pos_drop s g
    have h2 := expS_le ((scR2 s g).drop (fracN (scR2 s g)))
    have l1 : (scWhole s g).length ≤ s.size := by unfold scWhole; show spanN isDig (scR1 s g) ≤ s.size; have : scW s g = spanN isDig (scR1 s g) := rfl; omega
    have l2 : (fracS (scR2 s g)).length ≤ s.size := by
      have : (fracS (scR2 s g)).length ≤ fracN (scR2 s g) := by
        unfold fracS fracN
        split
        · show spanN isDig _ ≤ _; omega
        · simp
      omega
    have l3 : ((scR2 s g).drop (fracN (scR2 s g))).length + (scF s g + scW s g + fracN (scR2 s g)) ≤ s.size := by
      rw [← d1]; unfold expL; rw [List.length_drop, ← Lib.size_eq]; omega
    have m : ∀ c : Prop, [Decidable c] → ∀ x y : Hd, HdOk x → HdOk y → HdOk (if c then x else y) := fun c _ x y hx hy => by
      split
      · exact hx
      · exact hy
    unfold numberS
    refine m _ _ _ hdNone_ok (m _ _ _ ?_ ?_)
    · refine hdNum_ok (Nat.le_trans l1 hs) (Nat.le_trans l2 hs) ⟨h2.1, h2.2.1⟩ ?_
      show scF s g + scW s g + fracN (scR2 s g) + (expS ((scR2 s g).drop (fracN (scR2 s g)))).2 ≤ _
      omega
    · refine hdNum_ok (Nat.le_trans l1 hs) (Nat.le_trans l2 hs) ⟨by omega, by omega⟩ ?_
      show scF s g + scW s g + fracN (scR2 s g) ≤ _
      omega
end
end
section
open Go.RowKit

set_option maxRecDepth 100000 in
set_option maxHeartbeats 3200000 in
theorem valueOf_ok (kind : Nat) (s : ByteArray) (w : World) (hs : s.size ≤ 1125899906842624) (T : Tabs w) :
    Calls Tryz.prog 37 #[.int .u16 kind, .string s] w (RetBelow w (valV (valS kind s.data.toList))) := by
  have ok := scanS_ok s (kind == 32) hs
  have EV := Lib.hid (show valS kind s.data.toList = valH kind (scanS s.data.toList (kind == 32)) s.data.toList from rfl)
  have hk32 : ((kind : Int) == 32) = (kind == 32) := by rw [Bool.eq_iff_iff, beq_iff_eq, beq_iff_eq]; omega
  have SC := Lib.hid (fun (W : World) (hT : Tabs W) => scan_ok s (kind == 32) W hs hT)
  have HK := Lib.hid (show ∀ b, (kind == 32) = b → ((kind : Int) == 32) = b from fun b hb => by rw [hk32, hb])
  clear hk32
  obtain ⟨g, hg⟩ : ∃ g, g = (kind == 32) := ⟨_, rfl⟩
  rw [← hg] at SC EV ok
  have t32 := HK.out g hg.symm
  have HG := Lib.hid hg
  clear hg HK
  obtain ⟨h, hh⟩ : ∃ h, h = scanS s.data.toList g := ⟨_, rfl⟩
  rw [← hh] at SC EV ok
  clear hh
  have HOK := Lib.hid ok
  have HT := Lib.hid T
  clear ok T
  have A0 := CellsAt.new w [.int .u8 0, .int .i64 0, .int .i64 0, .string ⟨#[]⟩, .string ⟨#[]⟩] 79
  have B0 := Lib.hid ((Below.refl w.heap.size w).alloc (Nat.le_refl _) (Obj.cells #[Value.int IntKind.u8 0, Value.int IntKind.i64 0, Value.int IntKind.i64 0, Value.string ⟨#[]⟩, Value.string ⟨#[]⟩] 79))
  go_enter Tryz.func37, Tryz.ntmps37
  go_wp2_with fail
  refine (SC.out _ (HT.out.below B0.out)).mono ?_
  rintro e w1 ⟨rfl, hb1⟩
  have A1 := A0.step hb1
  have B1 := Lib.hid (B0.out.trans (hb1.mono (by simp)))
  clear hb1 A0 B0
  have HA1 := Lib.hid A1
  clear A1
  have A2 := HA1.out.alloc (Obj.cells #[Value.int IntKind.u8 h.cls, Value.bool h.neg, Value.string (bs h.whole), Value.string (bs h.frac), Value.int IntKind.i64 h.exp, Value.int IntKind.i64 h.size] 98)
  have H2 := CellsAt.new w1 [Value.int IntKind.u8 h.cls, Value.bool h.neg, Value.string (bs h.whole), Value.string (bs h.frac), Value.int IntKind.i64 h.exp, Value.int IntKind.i64 h.size] 98
  have B2 := Lib.hid (B1.out.alloc B1.out.size (Obj.cells #[Value.int IntKind.u8 h.cls, Value.bool h.neg, Value.string (bs h.whole), Value.string (bs h.frac), Value.int IntKind.i64 h.exp, Value.int IntKind.i64 h.size] 98))
  have hbn := HA1.out.lt
  unfold headV
  go_upto_region 2 with (fail)
  generalize w1.alloc (Obj.cells #[Value.int IntKind.u8 h.cls, Value.bool h.neg, Value.string (bs h.whole), Value.string (bs h.frac), Value.int IntKind.i64 h.exp, Value.int IntKind.i64 h.size] 98) = W1 at *
  generalize hbe : w1.heap.size = b at *
  clear hbe B1 HA1
  have HA2 := Lib.hid A2
  have HH2 := Lib.hid H2
  have a0 := A2.cell 0 _ rfl
  have a1 := A2.cell 1 _ rfl
  have a2 := A2.cell 2 _ rfl
  have a3 := A2.cell 3 _ rfl
  have a4 := A2.cell 4 _ rfl
  have f0 := A2.free 0
  have f1 := A2.free 1
  have f2 := A2.free 2
  have f3 := A2.free 3
  have f4 := A2.free 4
  have h0 := H2.cell 0 _ rfl
  clear A2 H2
  by_cases c1 : h.cls = 1
  · have E := Lib.hid (show valS kind s.data.toList = ⟨32, 0, 0, [], []⟩ by rw [EV.out]; unfold valH; rw [if_pos c1])
    have u1 : ((h.cls : Int) == 1) = true := by rw [c1]; rfl
    clear c1
    go_wp2_with fail
    exact bodyPost_ret (v := valV ⟨32, 0, 0, [], []⟩) (by simp [results, Tryz.results37, go_sem, a0, a1, a2, a3, a4, valV]; rfl) rfl ⟨by rw [E.out], (((((B2.out.setCell (p := ⟨w.heap.size, 0, none⟩) (Nat.le_refl _) _).setCell (p := ⟨w.heap.size, 1, none⟩) (Nat.le_refl _) _).setCell (p := ⟨w.heap.size, 2, none⟩) (Nat.le_refl _) _).setCell (p := ⟨w.heap.size, 3, none⟩) (Nat.le_refl _) _).setCell (p := ⟨w.heap.size, 4, none⟩) (Nat.le_refl _) _)⟩
  · by_cases c2 : h.cls = 2
    · have E := Lib.hid (show valS kind s.data.toList = ⟨48, 0, 0, [], []⟩ by rw [EV.out]; unfold valH; rw [if_neg c1, if_pos c2])
      have u1 : ((h.cls : Int) == 1) = false := by rw [beq_eq_false_iff_ne]; omega
      have u2 : ((h.cls : Int) == 2) = true := by rw [c2]; rfl
      clear c1 c2
      go_wp2_with fail
      exact bodyPost_ret (v := valV ⟨48, 0, 0, [], []⟩) (by simp [results, Tryz.results37, go_sem, a0, a1, a2, a3, a4, valV]; rfl) rfl ⟨by rw [E.out], (((((B2.out.setCell (p := ⟨w.heap.size, 0, none⟩) (Nat.le_refl _) _).setCell (p := ⟨w.heap.size, 1, none⟩) (Nat.le_refl _) _).setCell (p := ⟨w.heap.size, 2, none⟩) (Nat.le_refl _) _).setCell (p := ⟨w.heap.size, 3, none⟩) (Nat.le_refl _) _).setCell (p := ⟨w.heap.size, 4, none⟩) (Nat.le_refl _) _)⟩
    · by_cases c4 : h.cls = 4
      · have E := Lib.hid (show valS kind s.data.toList = ⟨112, 0, 0, [], []⟩ by rw [EV.out]; unfold valH; rw [if_neg c1, if_neg c2, if_pos c4])
        have u1 : ((h.cls : Int) == 1) = false := by rw [beq_eq_false_iff_ne]; omega
        have u2 : ((h.cls : Int) == 2) = false := by rw [beq_eq_false_iff_ne]; omega
        have u4 : ((h.cls : Int) == 4) = true := by rw [c4]; rfl
        clear c1 c2 c4
        go_wp2_with fail
        exact bodyPost_ret (v := valV ⟨112, 0, 0, [], []⟩) (by simp [results, Tryz.results37, go_sem, a0, a1, a2, a3, a4, valV]; rfl) rfl ⟨by rw [E.out], (((((B2.out.setCell (p := ⟨w.heap.size, 0, none⟩) (Nat.le_refl _) _).setCell (p := ⟨w.heap.size, 1, none⟩) (Nat.le_refl _) _).setCell (p := ⟨w.heap.size, 2, none⟩) (Nat.le_refl _) _).setCell (p := ⟨w.heap.size, 3, none⟩) (Nat.le_refl _) _).setCell (p := ⟨w.heap.size, 4, none⟩) (Nat.le_refl _) _)⟩
      · by_cases c0 : h.cls = 0 ∧ kind = 32
        · have E := Lib.hid (show valS kind s.data.toList = ⟨16, 0, 0, [], []⟩ by rw [EV.out]; unfold valH; rw [if_neg c1, if_neg c2, if_neg c4, if_pos c0])
          obtain ⟨c0, hk⟩ := c0
          have u1 : ((h.cls : Int) == 1) = false := by rw [beq_eq_false_iff_ne]; omega
          have u2 : ((h.cls : Int) == 2) = false := by rw [beq_eq_false_iff_ne]; omega
          have u4 : ((h.cls : Int) == 4) = false := by rw [beq_eq_false_iff_ne]; omega
          have u0 : ((h.cls : Int) == 0) = true := by rw [c0]; rfl
          have hgt : g = true := by rw [HG.out, hk]; rfl
          subst hgt
          clear c1 c2 c4 c0 hk
          go_wp2_with fail
          exact bodyPost_ret (v := valV ⟨16, 0, 0, [], []⟩) (by simp [results, Tryz.results37, go_sem, a0, a1, a2, a3, a4, valV]; rfl) rfl ⟨by rw [E.out], (((((B2.out.setCell (p := ⟨w.heap.size, 0, none⟩) (Nat.le_refl _) _).setCell (p := ⟨w.heap.size, 1, none⟩) (Nat.le_refl _) _).setCell (p := ⟨w.heap.size, 2, none⟩) (Nat.le_refl _) _).setCell (p := ⟨w.heap.size, 3, none⟩) (Nat.le_refl _) _).setCell (p := ⟨w.heap.size, 4, none⟩) (Nat.le_refl _) _)⟩
        · have N1 := Lib.hid c1
          have N2 := Lib.hid c2
          have N4 := Lib.hid c4
          have N0 := Lib.hid c0
          have u1 : ((h.cls : Int) == 1) = false := by rw [beq_eq_false_iff_ne]; omega
          have u2 : ((h.cls : Int) == 2) = false := by rw [beq_eq_false_iff_ne]; omega
          have u4 : ((h.cls : Int) == 4) = false := by rw [beq_eq_false_iff_ne]; omega
          have NB := Lib.hid (fun W : World => number_ok h W HOK.out.whole HOK.out.frac HOK.out.exp)
          have ZB := Lib.hid (fun W : World => digZero_ok (bs (numW h)) (bs (numF h)) W (by rw [bs_size]; have := numW_le h; have := HOK.out.whole; omega) (by rw [bs_size]; have := numF_le h; have := HOK.out.frac; omega))
          rw [numD_nil] at ZB
          unfold headV at NB
          have SX := Lib.hid (fun (W : World) (hT : Tabs W) => suffix_ok h s W HOK.out hT)
          unfold headV at SX
          have EWB := Lib.hid (⟨rfl, rfl, rfl⟩ : bs (numW h) = bs (numW h) ∧ bs (numF h) = bs (numF h) ∧ numE h = numE h)
          obtain ⟨Wb, hWb⟩ : ∃ Wb, Wb = bs (numW h) := ⟨_, rfl⟩
          obtain ⟨Fb, hFb⟩ : ∃ Fb, Fb = bs (numF h) := ⟨_, rfl⟩
          obtain ⟨ex, hex⟩ : ∃ ex, ex = numE h := ⟨_, rfl⟩
          rw [← hWb, ← hFb, ← hex] at NB
          rw [← hWb, ← hFb] at ZB
          have HWB := Lib.hid hWb
          have HFB := Lib.hid hFb
          have HEX := Lib.hid hex
          clear hWb hFb hex c1 c2 c4 EWB
          by_cases hc0 : h.cls = 0
          · have u0 : ((h.cls : Int) == 0) = true := by rw [hc0]; rfl
            have hgf : g = false := by
              rw [HG.out, beq_eq_false_iff_ne]
              intro e; exact N0.out ⟨hc0, e⟩
            subst hgf
            clear hc0 c0
            go_upto_region 13 with (fail)
            clear a0 a1 a2 a3 a4 f0 f1 f2 f3 f4 h0
            have V2 := CellsAt.new W1 [Value.int IntKind.u8 96, Value.int IntKind.i64 0, Value.int IntKind.i64 0, Value.string ⟨#[]⟩, Value.string ⟨#[]⟩] 79
            have A3 := Lib.hid (HA2.out.alloc (Obj.cells #[Value.int IntKind.u8 96, Value.int IntKind.i64 0, Value.int IntKind.i64 0, Value.string ⟨#[]⟩, Value.string ⟨#[]⟩] 79))
            have H3 := HH2.out.alloc (Obj.cells #[Value.int IntKind.u8 96, Value.int IntKind.i64 0, Value.int IntKind.i64 0, Value.string ⟨#[]⟩, Value.string ⟨#[]⟩] 79)
            have B3 := Lib.hid (B2.out.alloc B2.out.size (Obj.cells #[Value.int IntKind.u8 96, Value.int IntKind.i64 0, Value.int IntKind.i64 0, Value.string ⟨#[]⟩, Value.string ⟨#[]⟩] 79))
            have hbv := HH2.out.lt
            generalize W1.alloc (Obj.cells #[Value.int IntKind.u8 96, Value.int IntKind.i64 0, Value.int IntKind.i64 0, Value.string ⟨#[]⟩, Value.string ⟨#[]⟩] 79) = W2 at *
            generalize hve : W1.heap.size = v at *
            clear hve HA2 HH2 B2
            have V3 := Lib.hid V2
            have H3h := Lib.hid H3
            have h0 := H3.cell 0 _ rfl
            have h1 := H3.cell 1 _ rfl
            have h2 := H3.cell 2 _ rfl
            have h3 := H3.cell 3 _ rfl
            have h4 := H3.cell 4 _ rfl
            have h5 := H3.cell 5 _ rfl
            clear V2 H3
            go_wp2_with fail
            refine (NB.out _).mono ?_
            rintro e w3 ⟨rfl, hb3⟩
            have A4 := Lib.hid (A3.out.step hb3)
            have H4 := Lib.hid (H3h.out.step hb3)
            have V4 := V3.out.step hb3
            have B4 := Lib.hid (B3.out.trans (hb3.mono B3.out.size))
            clear h0 h1 h2 h3 h4 h5 hb3 A3 H3h V3 B3
            have v0 := V4.cell 0 _ rfl
            have v1 := V4.cell 1 _ rfl
            have v2 := V4.cell 2 _ rfl
            have v3 := V4.cell 3 _ rfl
            have v4 := V4.cell 4 _ rfl
            have fv0 := V4.free 0
            have fv1 := V4.free 1
            have fv2 := V4.free 2
            have fv3 := V4.free 3
            have fv4 := V4.free 4
            have V5 := Lib.hid (((V4.set 3 (.string Wb) (by simp)).set 4 (.string Fb) (by simp)).set 2 (.int .i64 ex) (by simp))
            have A5 := Lib.hid (((A4.out.other (c := v) (by omega) 3 (.string Wb)).other (c := v) (by omega) 4 (.string Fb)).other (c := v) (by omega) 2 (.int .i64 ex))
            have H5 := Lib.hid (((H4.out.other (c := v) (by omega) 3 (.string Wb)).other (c := v) (by omega) 4 (.string Fb)).other (c := v) (by omega) 2 (.int .i64 ex))
            have B5 := Lib.hid (((B4.out.setCell (p := ⟨v, 3, none⟩) (by show w.heap.size ≤ v; omega) (.string Wb)).setCell (p := ⟨v, 4, none⟩) (by show w.heap.size ≤ v; omega) (.string Fb)).setCell (p := ⟨v, 2, none⟩) (by show w.heap.size ≤ v; omega) (.int .i64 ex))
            clear V4
            go_upto_region 14 with (fail)
            clear v0 v1 v2 v3 v4 fv0 fv1 fv2 fv3 fv4 A4 H4 B4
            generalize ((w3.setCell ⟨v, 3, none⟩ (.string Wb)).setCell ⟨v, 4, none⟩ (.string Fb)).setCell ⟨v, 2, none⟩ (.int .i64 ex) = W5 at *
            have v3 : W5.cell? ⟨v, 3, none⟩ = some (.string Wb) := V5.out.cell 3 _ rfl
            have v4 : W5.cell? ⟨v, 4, none⟩ = some (.string Fb) := V5.out.cell 4 _ rfl
            go_wp2_with fail
            refine (ZB.out _).mono ?_
            rintro e w6 ⟨rfl, hb6⟩
            have A6 := Lib.hid (A5.out.step hb6)
            have H6 := Lib.hid (H5.out.step hb6)
            have V6 := Lib.hid (V5.out.step hb6)
            have B6 := Lib.hid (B5.out.trans (hb6.mono B5.out.size))
            clear v3 v4 hb6 A5 H5 V5 B5
            by_cases hz : numD h = []
            · have tz : decide (numD h = []) = true := decide_eq_true hz
              have E := Lib.hid (show valS kind s.data.toList = ⟨80, 0, 0, [], []⟩ by rw [EV.out]; unfold valH; rw [if_neg N1.out, if_neg N2.out, if_neg N4.out, if_neg N0.out, if_pos hz])
              clear hz
              have a0 := A6.out.cell 0 _ rfl
              have a1 := A6.out.cell 1 _ rfl
              have a2 := A6.out.cell 2 _ rfl
              have a3 := A6.out.cell 3 _ rfl
              have a4 := A6.out.cell 4 _ rfl
              have fa0 := A6.out.free 0
              have fa1 := A6.out.free 1
              have fa2 := A6.out.free 2
              have fa3 := A6.out.free 3
              have fa4 := A6.out.free 4
              go_wp2_with fail
              exact bodyPost_ret (v := valV ⟨80, 0, 0, [], []⟩) (by simp [results, Tryz.results37, go_sem, a0, a1, a2, a3, a4, valV]; rfl) rfl ⟨by rw [E.out], (((((B6.out.setCell (p := ⟨w.heap.size, 0, none⟩) (Nat.le_refl _) _).setCell (p := ⟨w.heap.size, 1, none⟩) (Nat.le_refl _) _).setCell (p := ⟨w.heap.size, 2, none⟩) (Nat.le_refl _) _).setCell (p := ⟨w.heap.size, 3, none⟩) (Nat.le_refl _) _).setCell (p := ⟨w.heap.size, 4, none⟩) (Nat.le_refl _) _)⟩
            · have tz : decide (numD h = []) = false := decide_eq_false hz
              have E := Lib.hid (show valS kind s.data.toList = ⟨if h.neg then 64 else 96, if kind = 64 then sufS h s.data.toList else 0, numE h, numW h, numF h⟩ by rw [EV.out]; unfold valH; rw [if_neg N1.out, if_neg N2.out, if_neg N4.out, if_neg N0.out, if_neg hz])
              clear hz
              cases hneg : h.neg with
              | true =>
                have HNG := Lib.hid hneg
                rw [hneg] at H6 SX
                clear hneg
                have g1 := H6.out.cell 1 _ rfl
                have x0 := V6.out.cell 0 _ rfl
                have y0 := V6.out.free 0
                go_upto_region 18 with (fail)
                clear x0 y0 g1
                have V7 := Lib.hid (V6.out.set 0 (.int .u8 64) (by simp))
                have A7 := Lib.hid (A6.out.other (c := v) (by omega) 0 (.int .u8 64))
                have H7 := Lib.hid (H6.out.other (c := v) (by omega) 0 (.int .u8 64))
                have B7 := Lib.hid (B6.out.setCell (p := ⟨v, 0, none⟩) (by show w.heap.size ≤ v; omega) (.int .u8 64))
                clear V6 A6 H6 B6
                generalize w6.setCell ⟨v, 0, none⟩ (.int .u8 64) = W7 at *
                by_cases k64 : kind = 64
                · have u64 : ((kind : Int) == 64) = true := by rw [k64]; rfl
                  have K64 := Lib.hid k64
                  clear k64
                  have h0 := H7.out.cell 0 _ rfl
                  have h1 := H7.out.cell 1 _ rfl
                  have h2 := H7.out.cell 2 _ rfl
                  have h3 := H7.out.cell 3 _ rfl
                  have h4 := H7.out.cell 4 _ rfl
                  have h5 := H7.out.cell 5 _ rfl
                  go_wp2_with fail
                  refine (SX.out _ (HT.out.below B7.out)).mono ?_
                  rintro e w8 ⟨rfl, hb8⟩
                  have A8 := A7.out.step hb8
                  have V8 := V7.out.step hb8
                  have B8 := Lib.hid (B7.out.trans (hb8.mono B7.out.size))
                  clear hb8 h0 h1 h2 h3 h4 h5
                  have v0 := V8.cell 0 _ rfl
                  have v1 := V8.cell 1 _ rfl
                  have v2 := V8.cell 2 _ rfl
                  have v3 := V8.cell 3 _ rfl
                  have v4 := V8.cell 4 _ rfl
                  have fv0 := V8.free 0
                  have fv1 := V8.free 1
                  have fv2 := V8.free 2
                  have fv3 := V8.free 3
                  have fv4 := V8.free 4
                  have a0 := A8.cell 0 _ rfl
                  have a1 := A8.cell 1 _ rfl
                  have a2 := A8.cell 2 _ rfl
                  have a3 := A8.cell 3 _ rfl
                  have a4 := A8.cell 4 _ rfl
                  have fa0 := A8.free 0
                  have fa1 := A8.free 1
                  have fa2 := A8.free 2
                  have fa3 := A8.free 3
                  have fa4 := A8.free 4
                  have hav : w.heap.size ≠ v := by omega
                  clear V8 A8
                  obtain ⟨rk, hrk⟩ : ∃ rk, rk = sufS h s.data.toList := ⟨_, rfl⟩
                  have HRK := Lib.hid hrk
                  rw [← hrk]
                  clear hrk
                  go_wp2_with fail
                  exact bodyPost_ret (v := .agg #[.int .u8 64, .int .i64 (rk : Nat), .int .i64 ex, .string Wb, .string Fb]) (by simp [results, Tryz.results37, go_sem, a0, a1, a2, a3, a4]) rfl ⟨by rw [E.out, if_pos K64.out, HNG.out, HWB.out, HFB.out, HEX.out, HRK.out]; rfl, ((((((B8.out.setCell (p := ⟨v, 1, none⟩) (by show w.heap.size ≤ v; omega) _).setCell (p := ⟨w.heap.size, 0, none⟩) (Nat.le_refl _) _).setCell (p := ⟨w.heap.size, 1, none⟩) (Nat.le_refl _) _).setCell (p := ⟨w.heap.size, 2, none⟩) (Nat.le_refl _) _).setCell (p := ⟨w.heap.size, 3, none⟩) (Nat.le_refl _) _).setCell (p := ⟨w.heap.size, 4, none⟩) (Nat.le_refl _) _)⟩
                · have u64 : ((kind : Int) == 64) = false := by rw [beq_eq_false_iff_ne]; omega
                  have K64 := Lib.hid k64
                  clear k64
                  have v0 := V7.out.cell 0 _ rfl
                  have v1 := V7.out.cell 1 _ rfl
                  have v2 := V7.out.cell 2 _ rfl
                  have v3 := V7.out.cell 3 _ rfl
                  have v4 := V7.out.cell 4 _ rfl
                  have a0 := A7.out.cell 0 _ rfl
                  have a1 := A7.out.cell 1 _ rfl
                  have a2 := A7.out.cell 2 _ rfl
                  have a3 := A7.out.cell 3 _ rfl
                  have a4 := A7.out.cell 4 _ rfl
                  have fa0 := A7.out.free 0
                  have fa1 := A7.out.free 1
                  have fa2 := A7.out.free 2
                  have fa3 := A7.out.free 3
                  have fa4 := A7.out.free 4
                  have hav : w.heap.size ≠ v := by omega
                  go_wp2_with fail
                  exact bodyPost_ret (v := .agg #[.int .u8 64, .int .i64 0, .int .i64 ex, .string Wb, .string Fb]) (by simp [results, Tryz.results37, go_sem, a0, a1, a2, a3, a4]) rfl ⟨by rw [E.out, if_neg K64.out, HNG.out, HWB.out, HFB.out, HEX.out]; rfl, (((((B7.out.setCell (p := ⟨w.heap.size, 0, none⟩) (Nat.le_refl _) _).setCell (p := ⟨w.heap.size, 1, none⟩) (Nat.le_refl _) _).setCell (p := ⟨w.heap.size, 2, none⟩) (Nat.le_refl _) _).setCell (p := ⟨w.heap.size, 3, none⟩) (Nat.le_refl _) _).setCell (p := ⟨w.heap.size, 4, none⟩) (Nat.le_refl _) _)⟩
              | false =>
                have HNG := Lib.hid hneg
                rw [hneg] at H6 SX
                clear hneg
                have g1 := H6.out.cell 1 _ rfl
                go_upto_region 18 with (fail)
                clear g1
                have V7 := V6
                have A7 := A6
                have H7 := H6
                have B7 := B6
                clear V6 A6 H6 B6
                obtain ⟨W7, hW7⟩ : ∃ W7, W7 = w6 := ⟨_, rfl⟩
                subst hW7
                by_cases k64 : kind = 64
                · have u64 : ((kind : Int) == 64) = true := by rw [k64]; rfl
                  have K64 := Lib.hid k64
                  clear k64
                  have h0 := H7.out.cell 0 _ rfl
                  have h1 := H7.out.cell 1 _ rfl
                  have h2 := H7.out.cell 2 _ rfl
                  have h3 := H7.out.cell 3 _ rfl
                  have h4 := H7.out.cell 4 _ rfl
                  have h5 := H7.out.cell 5 _ rfl
                  go_wp2_with fail
                  refine (SX.out _ (HT.out.below B7.out)).mono ?_
                  rintro e w8 ⟨rfl, hb8⟩
                  have A8 := A7.out.step hb8
                  have V8 := V7.out.step hb8
                  have B8 := Lib.hid (B7.out.trans (hb8.mono B7.out.size))
                  clear hb8 h0 h1 h2 h3 h4 h5
                  have v0 := V8.cell 0 _ rfl
                  have v1 := V8.cell 1 _ rfl
                  have v2 := V8.cell 2 _ rfl
                  have v3 := V8.cell 3 _ rfl
                  have v4 := V8.cell 4 _ rfl
                  have fv0 := V8.free 0
                  have fv1 := V8.free 1
                  have fv2 := V8.free 2
                  have fv3 := V8.free 3
                  have fv4 := V8.free 4
                  have a0 := A8.cell 0 _ rfl
                  have a1 := A8.cell 1 _ rfl
                  have a2 := A8.cell 2 _ rfl
                  have a3 := A8.cell 3 _ rfl
                  have a4 := A8.cell 4 _ rfl
                  have fa0 := A8.free 0
                  have fa1 := A8.free 1
                  have fa2 := A8.free 2
                  have fa3 := A8.free 3
                  have fa4 := A8.free 4
                  have hav : w.heap.size ≠ v := by omega
                  clear V8 A8
                  obtain ⟨rk, hrk⟩ : ∃ rk, rk = sufS h s.data.toList := ⟨_, rfl⟩
                  have HRK := Lib.hid hrk
                  rw [← hrk]
                  clear hrk
                  go_wp2_with fail
                  exact bodyPost_ret (v := .agg #[.int .u8 96, .int .i64 (rk : Nat), .int .i64 ex, .string Wb, .string Fb]) (by simp [results, Tryz.results37, go_sem, a0, a1, a2, a3, a4]) rfl ⟨by rw [E.out, if_pos K64.out, HNG.out, HWB.out, HFB.out, HEX.out, HRK.out]; rfl, ((((((B8.out.setCell (p := ⟨v, 1, none⟩) (by show w.heap.size ≤ v; omega) _).setCell (p := ⟨w.heap.size, 0, none⟩) (Nat.le_refl _) _).setCell (p := ⟨w.heap.size, 1, none⟩) (Nat.le_refl _) _).setCell (p := ⟨w.heap.size, 2, none⟩) (Nat.le_refl _) _).setCell (p := ⟨w.heap.size, 3, none⟩) (Nat.le_refl _) _).setCell (p := ⟨w.heap.size, 4, none⟩) (Nat.le_refl _) _)⟩
                · have u64 : ((kind : Int) == 64) = false := by rw [beq_eq_false_iff_ne]; omega
                  have K64 := Lib.hid k64
                  clear k64
                  have v0 := V7.out.cell 0 _ rfl
                  have v1 := V7.out.cell 1 _ rfl
                  have v2 := V7.out.cell 2 _ rfl
                  have v3 := V7.out.cell 3 _ rfl
                  have v4 := V7.out.cell 4 _ rfl
                  have a0 := A7.out.cell 0 _ rfl
                  have a1 := A7.out.cell 1 _ rfl
                  have a2 := A7.out.cell 2 _ rfl
                  have a3 := A7.out.cell 3 _ rfl
                  have a4 := A7.out.cell 4 _ rfl
                  have fa0 := A7.out.free 0
                  have fa1 := A7.out.free 1
                  have fa2 := A7.out.free 2
                  have fa3 := A7.out.free 3
                  have fa4 := A7.out.free 4
                  have hav : w.heap.size ≠ v := by omega
                  go_wp2_with fail
                  exact bodyPost_ret (v := .agg #[.int .u8 96, .int .i64 0, .int .i64 ex, .string Wb, .string Fb]) (by simp [results, Tryz.results37, go_sem, a0, a1, a2, a3, a4]) rfl ⟨by rw [E.out, if_neg K64.out, HNG.out, HWB.out, HFB.out, HEX.out]; rfl, (((((B7.out.setCell (p := ⟨w.heap.size, 0, none⟩) (Nat.le_refl _) _).setCell (p := ⟨w.heap.size, 1, none⟩) (Nat.le_refl _) _).setCell (p := ⟨w.heap.size, 2, none⟩) (Nat.le_refl _) _).setCell (p := ⟨w.heap.size, 3, none⟩) (Nat.le_refl _) _).setCell (p := ⟨w.heap.size, 4, none⟩) (Nat.le_refl _) _)⟩
          · have u0 : ((h.cls : Int) == 0) = false := by rw [beq_eq_false_iff_ne]; omega
            clear hc0 c0
            go_upto_region 13 with (fail)
            clear a0 a1 a2 a3 a4 f0 f1 f2 f3 f4 h0
            have V2 := CellsAt.new W1 [Value.int IntKind.u8 96, Value.int IntKind.i64 0, Value.int IntKind.i64 0, Value.string ⟨#[]⟩, Value.string ⟨#[]⟩] 79
            have A3 := Lib.hid (HA2.out.alloc (Obj.cells #[Value.int IntKind.u8 96, Value.int IntKind.i64 0, Value.int IntKind.i64 0, Value.string ⟨#[]⟩, Value.string ⟨#[]⟩] 79))
            have H3 := HH2.out.alloc (Obj.cells #[Value.int IntKind.u8 96, Value.int IntKind.i64 0, Value.int IntKind.i64 0, Value.string ⟨#[]⟩, Value.string ⟨#[]⟩] 79)
            have B3 := Lib.hid (B2.out.alloc B2.out.size (Obj.cells #[Value.int IntKind.u8 96, Value.int IntKind.i64 0, Value.int IntKind.i64 0, Value.string ⟨#[]⟩, Value.string ⟨#[]⟩] 79))
            have hbv := HH2.out.lt
            generalize W1.alloc (Obj.cells #[Value.int IntKind.u8 96, Value.int IntKind.i64 0, Value.int IntKind.i64 0, Value.string ⟨#[]⟩, Value.string ⟨#[]⟩] 79) = W2 at *
            generalize hve : W1.heap.size = v at *
            clear hve HA2 HH2 B2
            have V3 := Lib.hid V2
            have H3h := Lib.hid H3
            have h0 := H3.cell 0 _ rfl
            have h1 := H3.cell 1 _ rfl
            have h2 := H3.cell 2 _ rfl
            have h3 := H3.cell 3 _ rfl
            have h4 := H3.cell 4 _ rfl
            have h5 := H3.cell 5 _ rfl
            clear V2 H3
            go_wp2_with fail
            refine (NB.out _).mono ?_
            rintro e w3 ⟨rfl, hb3⟩
            have A4 := Lib.hid (A3.out.step hb3)
            have H4 := Lib.hid (H3h.out.step hb3)
            have V4 := V3.out.step hb3
            have B4 := Lib.hid (B3.out.trans (hb3.mono B3.out.size))
            clear h0 h1 h2 h3 h4 h5 hb3 A3 H3h V3 B3
            have v0 := V4.cell 0 _ rfl
            have v1 := V4.cell 1 _ rfl
            have v2 := V4.cell 2 _ rfl
            have v3 := V4.cell 3 _ rfl
            have v4 := V4.cell 4 _ rfl
            have fv0 := V4.free 0
            have fv1 := V4.free 1
            have fv2 := V4.free 2
            have fv3 := V4.free 3
            have fv4 := V4.free 4
            have V5 := Lib.hid (((V4.set 3 (.string Wb) (by simp)).set 4 (.string Fb) (by simp)).set 2 (.int .i64 ex) (by simp))
            have A5 := Lib.hid (((A4.out.other (c := v) (by omega) 3 (.string Wb)).other (c := v) (by omega) 4 (.string Fb)).other (c := v) (by omega) 2 (.int .i64 ex))
            have H5 := Lib.hid (((H4.out.other (c := v) (by omega) 3 (.string Wb)).other (c := v) (by omega) 4 (.string Fb)).other (c := v) (by omega) 2 (.int .i64 ex))
            have B5 := Lib.hid (((B4.out.setCell (p := ⟨v, 3, none⟩) (by show w.heap.size ≤ v; omega) (.string Wb)).setCell (p := ⟨v, 4, none⟩) (by show w.heap.size ≤ v; omega) (.string Fb)).setCell (p := ⟨v, 2, none⟩) (by show w.heap.size ≤ v; omega) (.int .i64 ex))
            clear V4
            go_upto_region 14 with (fail)
            clear v0 v1 v2 v3 v4 fv0 fv1 fv2 fv3 fv4 A4 H4 B4
            generalize ((w3.setCell ⟨v, 3, none⟩ (.string Wb)).setCell ⟨v, 4, none⟩ (.string Fb)).setCell ⟨v, 2, none⟩ (.int .i64 ex) = W5 at *
            have v3 : W5.cell? ⟨v, 3, none⟩ = some (.string Wb) := V5.out.cell 3 _ rfl
            have v4 : W5.cell? ⟨v, 4, none⟩ = some (.string Fb) := V5.out.cell 4 _ rfl
            go_wp2_with fail
            refine (ZB.out _).mono ?_
            rintro e w6 ⟨rfl, hb6⟩
            have A6 := Lib.hid (A5.out.step hb6)
            have H6 := Lib.hid (H5.out.step hb6)
            have V6 := Lib.hid (V5.out.step hb6)
            have B6 := Lib.hid (B5.out.trans (hb6.mono B5.out.size))
            clear v3 v4 hb6 A5 H5 V5 B5
            by_cases hz : numD h = []
            · have tz : decide (numD h = []) = true := decide_eq_true hz
              have E := Lib.hid (show valS kind s.data.toList = ⟨80, 0, 0, [], []⟩ by rw [EV.out]; unfold valH; rw [if_neg N1.out, if_neg N2.out, if_neg N4.out, if_neg N0.out, if_pos hz])
              clear hz
              have a0 := A6.out.cell 0 _ rfl
              have a1 := A6.out.cell 1 _ rfl
              have a2 := A6.out.cell 2 _ rfl
              have a3 := A6.out.cell 3 _ rfl
              have a4 := A6.out.cell 4 _ rfl
              have fa0 := A6.out.free 0
              have fa1 := A6.out.free 1
              have fa2 := A6.out.free 2
              have fa3 := A6.out.free 3
              have fa4 := A6.out.free 4
              go_wp2_with fail
              exact bodyPost_ret (v := valV ⟨80, 0, 0, [], []⟩) (by simp [results, Tryz.results37, go_sem, a0, a1, a2, a3, a4, valV]; rfl) rfl ⟨by rw [E.out], (((((B6.out.setCell (p := ⟨w.heap.size, 0, none⟩) (Nat.le_refl _) _).setCell (p := ⟨w.heap.size, 1, none⟩) (Nat.le_refl _) _).setCell (p := ⟨w.heap.size, 2, none⟩) (Nat.le_refl _) _).setCell (p := ⟨w.heap.size, 3, none⟩) (Nat.le_refl _) _).setCell (p := ⟨w.heap.size, 4, none⟩) (Nat.le_refl _) _)⟩
            · have tz : decide (numD h = []) = false := decide_eq_false hz
              have E := Lib.hid (show valS kind s.data.toList = ⟨if h.neg then 64 else 96, if kind = 64 then sufS h s.data.toList else 0, numE h, numW h, numF h⟩ by rw [EV.out]; unfold valH; rw [if_neg N1.out, if_neg N2.out, if_neg N4.out, if_neg N0.out, if_neg hz])
              clear hz
              cases hneg : h.neg with
              | true =>
                have HNG := Lib.hid hneg
                rw [hneg] at H6 SX
                clear hneg
                have g1 := H6.out.cell 1 _ rfl
                have x0 := V6.out.cell 0 _ rfl
                have y0 := V6.out.free 0
                go_upto_region 18 with (fail)
                clear x0 y0 g1
                have V7 := Lib.hid (V6.out.set 0 (.int .u8 64) (by simp))
                have A7 := Lib.hid (A6.out.other (c := v) (by omega) 0 (.int .u8 64))
                have H7 := Lib.hid (H6.out.other (c := v) (by omega) 0 (.int .u8 64))
                have B7 := Lib.hid (B6.out.setCell (p := ⟨v, 0, none⟩) (by show w.heap.size ≤ v; omega) (.int .u8 64))
                clear V6 A6 H6 B6
                generalize w6.setCell ⟨v, 0, none⟩ (.int .u8 64) = W7 at *
                by_cases k64 : kind = 64
                · have u64 : ((kind : Int) == 64) = true := by rw [k64]; rfl
                  have K64 := Lib.hid k64
                  clear k64
                  have h0 := H7.out.cell 0 _ rfl
                  have h1 := H7.out.cell 1 _ rfl
                  have h2 := H7.out.cell 2 _ rfl
                  have h3 := H7.out.cell 3 _ rfl
                  have h4 := H7.out.cell 4 _ rfl
                  have h5 := H7.out.cell 5 _ rfl
                  go_wp2_with fail
                  refine (SX.out _ (HT.out.below B7.out)).mono ?_
                  rintro e w8 ⟨rfl, hb8⟩
                  have A8 := A7.out.step hb8
                  have V8 := V7.out.step hb8
                  have B8 := Lib.hid (B7.out.trans (hb8.mono B7.out.size))
                  clear hb8 h0 h1 h2 h3 h4 h5
                  have v0 := V8.cell 0 _ rfl
                  have v1 := V8.cell 1 _ rfl
                  have v2 := V8.cell 2 _ rfl
                  have v3 := V8.cell 3 _ rfl
                  have v4 := V8.cell 4 _ rfl
                  have fv0 := V8.free 0
                  have fv1 := V8.free 1
                  have fv2 := V8.free 2
                  have fv3 := V8.free 3
                  have fv4 := V8.free 4
                  have a0 := A8.cell 0 _ rfl
                  have a1 := A8.cell 1 _ rfl
                  have a2 := A8.cell 2 _ rfl
                  have a3 := A8.cell 3 _ rfl
                  have a4 := A8.cell 4 _ rfl
                  have fa0 := A8.free 0
                  have fa1 := A8.free 1
                  have fa2 := A8.free 2
                  have fa3 := A8.free 3
                  have fa4 := A8.free 4
                  have hav : w.heap.size ≠ v := by omega
                  clear V8 A8
                  obtain ⟨rk, hrk⟩ : ∃ rk, rk = sufS h s.data.toList := ⟨_, rfl⟩
                  have HRK := Lib.hid hrk
                  rw [← hrk]
                  clear hrk
                  go_wp2_with fail
                  exact bodyPost_ret (v := .agg #[.int .u8 64, .int .i64 (rk : Nat), .int .i64 ex, .string Wb, .string Fb]) (by simp [results, Tryz.results37, go_sem, a0, a1, a2, a3, a4]) rfl ⟨by rw [E.out, if_pos K64.out, HNG.out, HWB.out, HFB.out, HEX.out, HRK.out]; rfl, ((((((B8.out.setCell (p := ⟨v, 1, none⟩) (by show w.heap.size ≤ v; omega) _).setCell (p := ⟨w.heap.size, 0, none⟩) (Nat.le_refl _) _).setCell (p := ⟨w.heap.size, 1, none⟩) (Nat.le_refl _) _).setCell (p := ⟨w.heap.size, 2, none⟩) (Nat.le_refl _) _).setCell (p := ⟨w.heap.size, 3, none⟩) (Nat.le_refl _) _).setCell (p := ⟨w.heap.size, 4, none⟩) (Nat.le_refl _) _)⟩
                · have u64 : ((kind : Int) == 64) = false := by rw [beq_eq_false_iff_ne]; omega
                  have K64 := Lib.hid k64
                  clear k64
                  have v0 := V7.out.cell 0 _ rfl
                  have v1 := V7.out.cell 1 _ rfl
                  have v2 := V7.out.cell 2 _ rfl
                  have v3 := V7.out.cell 3 _ rfl
                  have v4 := V7.out.cell 4 _ rfl
                  have a0 := A7.out.cell 0 _ rfl
                  have a1 := A7.out.cell 1 _ rfl
                  have a2 := A7.out.cell 2 _ rfl
                  have a3 := A7.out.cell 3 _ rfl
                  have a4 := A7.out.cell 4 _ rfl
                  have fa0 := A7.out.free 0
                  have fa1 := A7.out.free 1
                  have fa2 := A7.out.free 2
                  have fa3 := A7.out.free 3
                  have fa4 := A7.out.free 4
                  have hav : w.heap.size ≠ v := by omega
                  go_wp2_with fail
                  exact bodyPost_ret (v := .agg #[.int .u8 64, .int .i64 0, .int .i64 ex, .string Wb, .string Fb]) (by simp [results, Tryz.results37, go_sem, a0, a1, a2, a3, a4]) rfl ⟨by rw [E.out, if_neg K64.out, HNG.out, HWB.out, HFB.out, HEX.out]; rfl, (((((B7.out.setCell (p := ⟨w.heap.size, 0, none⟩) (Nat.le_refl _) _).setCell (p := ⟨w.heap.size, 1, none⟩) (Nat.le_refl _) _).setCell (p := ⟨w.heap.size, 2, none⟩) (Nat.le_refl _) _).setCell (p := ⟨w.heap.size, 3, none⟩) (Nat.le_refl _) _).setCell (p := ⟨w.heap.size, 4, none⟩) (Nat.le_refl _) _)⟩
              | false =>
                have HNG := Lib.hid hneg
                rw [hneg] at H6 SX
                clear hneg
                have g1 := H6.out.cell 1 _ rfl
                go_upto_region 18 with (fail)
                clear g1
                have V7 := V6
                have A7 := A6
                have H7 := H6
                have B7 := B6
                clear V6 A6 H6 B6
                obtain ⟨W7, hW7⟩ : ∃ W7, W7 = w6 := ⟨_, rfl⟩
                subst hW7
                by_cases k64 : kind = 64
                · have u64 : ((kind : Int) == 64) = true := by rw [k64]; rfl
                  have K64 := Lib.hid k64
                  clear k64
                  have h0 := H7.out.cell 0 _ rfl
                  have h1 := H7.out.cell 1 _ rfl
                  have h2 := H7.out.cell 2 _ rfl
                  have h3 := H7.out.cell 3 _ rfl
                  have h4 := H7.out.cell 4 _ rfl
                  have h5 := H7.out.cell 5 _ rfl
                  go_wp2_with fail
                  refine (SX.out _ (HT.out.below B7.out)).mono ?_
                  rintro e w8 ⟨rfl, hb8⟩
                  have A8 := A7.out.step hb8
                  have V8 := V7.out.step hb8
                  have B8 := Lib.hid (B7.out.trans (hb8.mono B7.out.size))
                  clear hb8 h0 h1 h2 h3 h4 h5
                  have v0 := V8.cell 0 _ rfl
                  have v1 := V8.cell 1 _ rfl
                  have v2 := V8.cell 2 _ rfl
                  have v3 := V8.cell 3 _ rfl
                  have v4 := V8.cell 4 _ rfl
                  have fv0 := V8.free 0
                  have fv1 := V8.free 1
                  have fv2 := V8.free 2
                  have fv3 := V8.free 3
                  have fv4 := V8.free 4
                  have a0 := A8.cell 0 _ rfl
                  have a1 := A8.cell 1 _ rfl
                  have a2 := A8.cell 2 _ rfl
                  have a3 := A8.cell 3 _ rfl
                  have a4 := A8.cell 4 _ rfl
                  have fa0 := A8.free 0
                  have fa1 := A8.free 1
                  have fa2 := A8.free 2
                  have fa3 := A8.free 3
                  have fa4 := A8.free 4
                  have hav : w.heap.size ≠ v := by omega
                  clear V8 A8
                  obtain ⟨rk, hrk⟩ : ∃ rk, rk = sufS h s.data.toList := ⟨_, rfl⟩
                  have HRK := Lib.hid hrk
                  rw [← hrk]
                  clear hrk
                  go_wp2_with fail
                  exact bodyPost_ret (v := .agg #[.int .u8 96, .int .i64 (rk : Nat), .int .i64 ex, .string Wb, .string Fb]) (by simp [results, Tryz.results37, go_sem, a0, a1, a2, a3, a4]) rfl ⟨by rw [E.out, if_pos K64.out, HNG.out, HWB.out, HFB.out, HEX.out, HRK.out]; rfl, ((((((B8.out.setCell (p := ⟨v, 1, none⟩) (by show w.heap.size ≤ v; omega) _).setCell (p := ⟨w.heap.size, 0, none⟩) (Nat.le_refl _) _).setCell (p := ⟨w.heap.size, 1, none⟩) (Nat.le_refl _) _).setCell (p := ⟨w.heap.size, 2, none⟩) (Nat.le_refl _) _).setCell (p := ⟨w.heap.size, 3, none⟩) (Nat.le_refl _) _).setCell (p := ⟨w.heap.size, 4, none⟩) (Nat.le_refl _) _)⟩
                · have u64 : ((kind : Int) == 64) = false := by rw [beq_eq_false_iff_ne]; omega
                  have K64 := Lib.hid k64
                  clear k64
                  have v0 := V7.out.cell 0 _ rfl
                  have v1 := V7.out.cell 1 _ rfl
                  have v2 := V7.out.cell 2 _ rfl
                  have v3 := V7.out.cell 3 _ rfl
                  have v4 := V7.out.cell 4 _ rfl
                  have a0 := A7.out.cell 0 _ rfl
                  have a1 := A7.out.cell 1 _ rfl
                  have a2 := A7.out.cell 2 _ rfl
                  have a3 := A7.out.cell 3 _ rfl
                  have a4 := A7.out.cell 4 _ rfl
                  have fa0 := A7.out.free 0
                  have fa1 := A7.out.free 1
                  have fa2 := A7.out.free 2
                  have fa3 := A7.out.free 3
                  have fa4 := A7.out.free 4
                  have hav : w.heap.size ≠ v := by omega
                  go_wp2_with fail
                  exact bodyPost_ret (v := .agg #[.int .u8 96, .int .i64 0, .int .i64 ex, .string Wb, .string Fb]) (by simp [results, Tryz.results37, go_sem, a0, a1, a2, a3, a4]) rfl ⟨by rw [E.out, if_neg K64.out, HNG.out, HWB.out, HFB.out, HEX.out]; rfl, (((((B7.out.setCell (p := ⟨w.heap.size, 0, none⟩) (Nat.le_refl _) _).setCell (p := ⟨w.heap.size, 1, none⟩) (Nat.le_refl _) _).setCell (p := ⟨w.heap.size, 2, none⟩) (Nat.le_refl _) _).setCell (p := ⟨w.heap.size, 3, none⟩) (Nat.le_refl _) _).setCell (p := ⟨w.heap.size, 4, none⟩) (Nat.le_refl _) _)⟩
end
end
section
open Go.RowKit

/-- A value whose parts are of bounded length. -/
structure VlOk (v : Val) : Prop where
  whole : v.whole.length ≤ 1125899906842624
  frac : v.frac.length ≤ 1125899906842624

set_option maxRecDepth 100000 in
set_option maxHeartbeats 1600000 in
theorem compareSizes_ok (v u : Val) (w : World) (hv : VlOk v) (hu : VlOk u) :
    Calls Tryz.prog 121 #[valV v, valV u] w (RetBelow w (.int .i64 (cmpSize v u))) := by
  have DC := Lib.hid (fun W : World => digCompare_ok (bs v.whole) (bs v.frac) (bs u.whole) (bs u.frac) W (by rw [bs_size]; exact hv.whole) (by rw [bs_size]; exact hv.frac) (by rw [bs_size]; exact hu.whole) (by rw [bs_size]; exact hu.frac))
  rw [bs_list, bs_list, bs_list, bs_list] at DC
  have ES := Lib.hid (show cmpSize v u = thenC (cmpI v.rank u.rank) (thenC (cmpI v.exp u.exp) (cmpL (v.whole ++ v.frac) (u.whole ++ u.frac))) from rfl)
  have hB := ((Below.refl w.heap.size w).alloc (Nat.le_refl _) (Obj.cells #[.int .u8 v.cls, .int .i64 v.rank, .int .i64 v.exp, .string (bs v.whole), .string (bs v.frac)] 79)).alloc (by simp) (Obj.cells #[.int .u8 u.cls, .int .i64 u.rank, .int .i64 u.exp, .string (bs u.whole), .string (bs u.frac)] 79)
  have HB := Lib.hid hB
  clear hB
  unfold valV
  generalize bs v.whole = a1 at *
  generalize bs v.frac = a2 at *
  generalize bs u.whole = b1 at *
  generalize bs u.frac = b2 at *
  by_cases hr : v.rank = u.rank
  · have t1 : ((v.rank : Int) != (u.rank : Int)) = false := by rw [hr]; simp
    have R := Lib.hid (show cmpI (v.rank : Int) u.rank = 0 by rw [hr]; exact cmpI_is.refl _)
    clear hr
    by_cases he : v.exp = u.exp
    · have t2 : (v.exp != u.exp) = false := by rw [he]; simp
      have X := Lib.hid (show cmpI v.exp u.exp = 0 by rw [he]; exact cmpI_is.refl _)
      clear he
      go_enter Tryz.func121, Tryz.ntmps121
      go_wp2_with fail
      refine (DC.out _).mono ?_
      rintro e w1 ⟨rfl, hb⟩
      have B1 := Lib.hid (HB.out.trans (hb.mono (by simp; omega)))
      clear hb
      go_wp2_with fail
      go_ret
      exact ⟨by rw [ES.out, R.out, thenC_zero, X.out, thenC_zero]; rfl, B1.out⟩
    · have t2 : (v.exp != u.exp) = true := by rw [bne_iff_ne]; exact he
      have X := Lib.hid (show cmpI v.exp u.exp ≠ 0 from fun h => he (cmpI_zero h))
      clear he
      go_enter Tryz.func121, Tryz.ntmps121
      go_wp2_with fail
      refine (cmpInt_ok _ _ _).mono ?_
      rintro e w1 ⟨rfl, rfl⟩
      go_wp2_with fail
      go_ret
      exact ⟨by rw [ES.out, R.out, thenC_zero, thenC_ne X.out]; rfl, HB.out⟩
  · have t1 : ((v.rank : Int) != (u.rank : Int)) = true := by rw [bne_iff_ne]; omega
    have R := Lib.hid (show cmpI (v.rank : Int) u.rank ≠ 0 from fun h => hr (by have := cmpI_zero h; omega))
    clear hr
    go_enter Tryz.func121, Tryz.ntmps121
    go_wp2_with fail
    refine (cmpInt_ok _ _ _).mono ?_
    rintro e w1 ⟨rfl, rfl⟩
    go_wp2_with fail
    go_ret
    exact ⟨by rw [ES.out, thenC_ne R.out]; rfl, HB.out⟩

set_option maxRecDepth 100000 in
set_option maxHeartbeats 1600000 in
theorem valueCompare_ok (v u : Val) (w : World) (hv : VlOk v) (hu : VlOk u) :
    Calls Tryz.prog 104 #[valV v, valV u] w (RetBelow w (.int .i64 (cmpVal v u))) := by
  have S1 := Lib.hid (fun W : World => compareSizes_ok v u W hv hu)
  have S2 := Lib.hid (fun W : World => compareSizes_ok u v W hu hv)
  have hB := ((Below.refl w.heap.size w).alloc (Nat.le_refl _) (Obj.cells #[.int .u8 v.cls, .int .i64 v.rank, .int .i64 v.exp, .string (bs v.whole), .string (bs v.frac)] 79)).alloc (by simp) (Obj.cells #[.int .u8 u.cls, .int .i64 u.rank, .int .i64 u.exp, .string (bs u.whole), .string (bs u.frac)] 79)
  have HB := Lib.hid hB
  clear hB
  have EV := Lib.hid (show cmpVal v u = thenC (cmpI v.cls u.cls) (if v.cls = 64 then cmpSize u v else cmpSize v u) from rfl)
  unfold valV at *
  generalize bs v.whole = a1 at *
  generalize bs v.frac = a2 at *
  generalize bs u.whole = b1 at *
  generalize bs u.frac = b2 at *
  by_cases hc : v.cls = u.cls
  · have t1 : ((v.cls : Int) != (u.cls : Int)) = false := by rw [hc]; simp
    have C := Lib.hid (show cmpI (v.cls : Int) u.cls = 0 by rw [hc]; exact cmpI_is.refl _)
    clear hc
    by_cases h64 : v.cls = 64
    · have t2 : ((v.cls : Int) == 64) = true := by rw [h64]; rfl
      have H64 := Lib.hid h64
      clear h64
      go_enter Tryz.func104, Tryz.ntmps104
      go_wp2_with fail
      refine (S2.out _).mono ?_
      rintro e w1 ⟨rfl, hb⟩
      have B1 := Lib.hid (HB.out.trans (hb.mono (by simp; omega)))
      clear hb
      go_wp2_with fail
      go_ret
      exact ⟨by rw [EV.out, C.out, thenC_zero, if_pos H64.out]; rfl, B1.out⟩
    · have t2 : ((v.cls : Int) == 64) = false := by rw [beq_eq_false_iff_ne]; omega
      have H64 := Lib.hid h64
      clear h64
      go_enter Tryz.func104, Tryz.ntmps104
      go_wp2_with fail
      refine (S1.out _).mono ?_
      rintro e w1 ⟨rfl, hb⟩
      have B1 := Lib.hid (HB.out.trans (hb.mono (by simp; omega)))
      clear hb
      go_wp2_with fail
      go_ret
      exact ⟨by rw [EV.out, C.out, thenC_zero, if_neg H64.out]; rfl, B1.out⟩
  · have t1 : ((v.cls : Int) != (u.cls : Int)) = true := by rw [bne_iff_ne]; omega
    have C := Lib.hid (show cmpI (v.cls : Int) u.cls ≠ 0 from fun h => hc (by have := cmpI_zero h; omega))
    clear hc
    go_enter Tryz.func104, Tryz.ntmps104
    go_wp2_with fail
    refine (cmpByte_ok _ _ _).mono ?_
    rintro e w1 ⟨rfl, rfl⟩
    go_wp2_with fail
    go_ret
    exact ⟨by rw [EV.out, thenC_ne C.out]; rfl, HB.out⟩
end
end
section
open Go.RowKit

theorem valS_ok (kind : Nat) (s : ByteArray) (hs : s.size ≤ 1125899906842624) : VlOk (valS kind s.data.toList) := by
  have ok := scanS_ok s (kind == 32) hs
  have h1 := numW_le (scanS s.data.toList (kind == 32))
  have h2 := numF_le (scanS s.data.toList (kind == 32))
  have m : ∀ c : Prop, [Decidable c] → ∀ x y : Val, VlOk x → VlOk y → VlOk (if c then x else y) := fun c _ x y hx hy => by
    split
    · exact hx
    · exact hy
  have z : ∀ n, VlOk ⟨n, 0, 0, [], []⟩ := fun n => ⟨by show 0 ≤ _; omega, by show 0 ≤ _; omega⟩
  unfold valS valH
  exact m _ _ _ (z _) (m _ _ _ (z _) (m _ _ _ (z _) (m _ _ _ (z _) (m _ _ _ (z _) ⟨Nat.le_trans h1 ok.whole, Nat.le_trans h2 ok.frac⟩))))

set_option maxHeartbeats 1600000 in
theorem compare_ok (kind : Nat) (s t : ByteArray) (w : World) (hs : s.size ≤ 1125899906842624) (ht : t.size ≤ 1125899906842624) (T : Tabs w) :
    Calls Tryz.prog 80 #[.int .u16 kind, .string s, .string t] w (RetBelow w (.int .i64 (cmpS kind s.data.toList t.data.toList))) := by
  have HT := Lib.hid T
  clear T
  have k16 : ((kind : Int) == 16) = decide (kind = 16) := by rw [Bool.eq_iff_iff, beq_iff_eq, decide_eq_true_iff]; omega
  have k32 : ((kind : Int) == 32) = decide (kind = 32) := by rw [Bool.eq_iff_iff, beq_iff_eq, decide_eq_true_iff]; omega
  have k64 : ((kind : Int) == 64) = decide (kind = 64) := by rw [Bool.eq_iff_iff, beq_iff_eq, decide_eq_true_iff]; omega
  have k128 : ((kind : Int) == 128) = decide (kind = 128) := by rw [Bool.eq_iff_iff, beq_iff_eq, decide_eq_true_iff]; omega
  have k256 : ((kind : Int) == 256) = decide (kind = 256) := by rw [Bool.eq_iff_iff, beq_iff_eq, decide_eq_true_iff]; omega
  have tt : ∀ p : Prop, [Decidable p] → p → decide p = true := fun p _ h => decide_eq_true h
  have ff : ∀ p : Prop, [Decidable p] → ¬ p → decide p = false := fun p _ h => decide_eq_false h
  by_cases hn : kind = 16 ∨ kind = 32 ∨ kind = 64
  · have E := Lib.hid (show cmpS kind s.data.toList t.data.toList = cmpVal (valS kind s.data.toList) (valS kind t.data.toList) by unfold cmpS; rw [if_pos hn])
    have V1 := Lib.hid (fun (W : World) (hT : Tabs W) => valueOf_ok kind s W hs hT)
    have V2 := Lib.hid (fun (W : World) (hT : Tabs W) => valueOf_ok kind t W ht hT)
    have VC := Lib.hid (fun W : World => valueCompare_ok (valS kind s.data.toList) (valS kind t.data.toList) W (valS_ok kind s hs) (valS_ok kind t ht))
    have go : Calls Tryz.prog 80 #[.int .u16 kind, .string s, .string t] w (RetBelow w (.int .i64 (cmpVal (valS kind s.data.toList) (valS kind t.data.toList)))) := by
      generalize valS kind s.data.toList = x at *
      generalize valS kind t.data.toList = y at *
      rcases hn with h | h | h
      · rw [tt _ h] at k16
        clear k32 k64 k128 k256 tt ff h
        go_enter Tryz.func80, Tryz.ntmps80
        go_wp2_with fail
        refine (V1.out _ HT.out).mono ?_
        rintro e w1 ⟨rfl, hb1⟩
        have B1 := Lib.hid hb1
        clear hb1
        go_wp2_with fail
        refine (V2.out _ (HT.out.below B1.out)).mono ?_
        rintro e w2 ⟨rfl, hb2⟩
        have B2 := Lib.hid (B1.out.trans (hb2.mono B1.out.size))
        clear hb2
        go_wp2_with fail
        refine (VC.out _).mono ?_
        rintro e w3 ⟨rfl, hb3⟩
        have B3 := Lib.hid (B2.out.trans (hb3.mono B2.out.size))
        clear hb3
        go_wp2_with fail
        go_ret
        exact ⟨rfl, B3.out⟩
      · have n16 : ¬ kind = 16 := by omega
        rw [tt _ h] at k32
        rw [ff _ n16] at k16
        clear k64 k128 k256 tt ff h n16
        go_enter Tryz.func80, Tryz.ntmps80
        go_wp2_with fail
        refine (V1.out _ HT.out).mono ?_
        rintro e w1 ⟨rfl, hb1⟩
        have B1 := Lib.hid hb1
        clear hb1
        go_wp2_with fail
        refine (V2.out _ (HT.out.below B1.out)).mono ?_
        rintro e w2 ⟨rfl, hb2⟩
        have B2 := Lib.hid (B1.out.trans (hb2.mono B1.out.size))
        clear hb2
        go_wp2_with fail
        refine (VC.out _).mono ?_
        rintro e w3 ⟨rfl, hb3⟩
        have B3 := Lib.hid (B2.out.trans (hb3.mono B2.out.size))
        clear hb3
        go_wp2_with fail
        go_ret
        exact ⟨rfl, B3.out⟩
      · have n16 : ¬ kind = 16 := by omega
        have n32 : ¬ kind = 32 := by omega
        rw [tt _ h] at k64
        rw [ff _ n16] at k16
        rw [ff _ n32] at k32
        clear k128 k256 tt ff h n16 n32
        go_enter Tryz.func80, Tryz.ntmps80
        go_wp2_with fail
        refine (V1.out _ HT.out).mono ?_
        rintro e w1 ⟨rfl, hb1⟩
        have B1 := Lib.hid hb1
        clear hb1
        go_wp2_with fail
        refine (V2.out _ (HT.out.below B1.out)).mono ?_
        rintro e w2 ⟨rfl, hb2⟩
        have B2 := Lib.hid (B1.out.trans (hb2.mono B1.out.size))
        clear hb2
        go_wp2_with fail
        refine (VC.out _).mono ?_
        rintro e w3 ⟨rfl, hb3⟩
        have B3 := Lib.hid (B2.out.trans (hb3.mono B2.out.size))
        clear hb3
        go_wp2_with fail
        go_ret
        exact ⟨rfl, B3.out⟩
    rw [E.out]
    exact go
  · have n16 : ¬ kind = 16 := fun h => hn (Or.inl h)
    have n32 : ¬ kind = 32 := fun h => hn (Or.inr (Or.inl h))
    have n64 : ¬ kind = 64 := fun h => hn (Or.inr (Or.inr h))
    rw [ff _ n16] at k16
    rw [ff _ n32] at k32
    rw [ff _ n64] at k64
    by_cases h128 : kind = 128
    · have E := Lib.hid (show cmpS kind s.data.toList t.data.toList = cmpI (monthS s.data.toList) (monthS t.data.toList) by unfold cmpS; rw [if_neg hn, if_pos h128])
      rw [tt _ h128] at k128
      clear k256 tt ff n16 n32 n64 hn h128
      have hsm : s.size ≤ maxLen := Nat.le_trans hs (by decide)
      have htm : t.size ≤ maxLen := Nat.le_trans ht (by decide)
      go_enter Tryz.func80, Tryz.ntmps80
      go_wp2_with fail
      refine (month_ok s w hsm HT.out).mono ?_
      rintro e w1 ⟨rfl, hb1⟩
      have B1 := Lib.hid hb1
      clear hb1
      go_wp2_with fail
      refine (month_ok t w1 htm (HT.out.below B1.out)).mono ?_
      rintro e w2 ⟨rfl, hb2⟩
      have B2 := Lib.hid (B1.out.trans (hb2.mono B1.out.size))
      clear hb2
      go_wp2_with fail
      refine (cmpInt_ok _ _ _).mono ?_
      rintro e w3 ⟨rfl, rfl⟩
      go_wp2_with fail
      go_ret
      exact ⟨by rw [E.out]; rfl, B2.out⟩
    · rw [ff _ h128] at k128
      by_cases h256 : kind = 256
      · have E := Lib.hid (show cmpS kind s.data.toList t.data.toList = cmpVer s.data.toList t.data.toList by unfold cmpS; rw [if_neg hn, if_neg h128, if_pos h256])
        rw [tt _ h256] at k256
        clear tt ff n16 n32 n64 hn h128 h256
        go_enter Tryz.func80, Tryz.ntmps80
        go_wp2_with fail
        refine (compareVersions_ok s t w hs ht HT.out).mono ?_
        rintro e w1 ⟨rfl, hb1⟩
        have B1 := Lib.hid hb1
        clear hb1
        go_wp2_with fail
        go_ret
        exact ⟨by rw [E.out]; rfl, B1.out⟩
      · have E := Lib.hid (show cmpS kind s.data.toList t.data.toList = cmpL s.data.toList t.data.toList by unfold cmpS; rw [if_neg hn, if_neg h128, if_neg h256])
        rw [ff _ h256] at k256
        clear tt ff n16 n32 n64 hn h128 h256
        go_enter Tryz.func80, Tryz.ntmps80
        go_wp2_with fail
        refine (strCompare_ok s t w).mono ?_
        rintro e w1 ⟨rfl, rfl⟩
        go_wp2_with fail
        go_ret
        exact ⟨by rw [E.out]; rfl, Below.refl _ _⟩
end
end Go.Proofs.YtnpnccjeapejdaaGreatDoor.Num
