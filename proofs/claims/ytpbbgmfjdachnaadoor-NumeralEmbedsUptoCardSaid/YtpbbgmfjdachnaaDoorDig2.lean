/- numeral's lists of digits compared. -/
import Derived.Test.YtpbbgmfjdachnaaDoorDig
import Derived.Lib.QuietBelow
namespace Go.Proofs.YtpbbgmfjdachnaaDoor
open Go.RowKit Go.Sort Go.Lib

theorem cmpL_at {a b : List UInt8} {k : Nat} (ha : k < a.length) (hb : k < b.length) (h0 : ∀ j, j < k → cmpI (atB a j).toNat (atB b j).toNat = 0) (h : cmpI (atB a k).toNat (atB b k).toNat ≠ 0) : cmpL a b = cmpI (atB a k).toNat (atB b k).toNat := by
  have e : ∀ j, j < a.length → j < b.length → cmpI (digAt a j) (digAt b j) = cmpI (atB a j).toNat (atB b j).toNat := fun j h1 h2 => by
    unfold digAt; rw [if_pos h1, if_pos h2]; unfold cmpI atB; simp
  unfold cmpL
  rw [firstN_stop k (fun j hj => by rw [e j (by omega) (by omega)]; exact h0 j hj) (by rw [e k ha hb]; exact h) _ (by omega), e k ha hb]
theorem cmpL_lens {a b : List UInt8} (h0 : ∀ j, j < a.length → j < b.length → cmpI (atB a j).toNat (atB b j).toNat = 0) : cmpL a b = cmpI a.length b.length := by
  have e : ∀ j, j < a.length → j < b.length → cmpI (digAt a j) (digAt b j) = 0 := fun j h1 h2 => by
    rw [← h0 j h1 h2]; unfold digAt; rw [if_pos h1, if_pos h2]; unfold cmpI atB; simp
  unfold cmpL
  by_cases hl : a.length = b.length
  · rw [hl, Nat.max_self, firstN_zero _ (fun j hj => e j (by omega) hj)]
    exact (cmpI_is.refl _).symm
  · by_cases h1 : a.length < b.length
    · have d : cmpI (digAt a a.length) (digAt b a.length) = -1 := by
        unfold digAt; rw [if_neg (by omega), if_pos h1]; unfold cmpI; rw [if_pos (by omega)]
      rw [firstN_stop a.length (fun j hj => e j hj (by omega)) (by rw [d]; omega) _ (by omega), d]
      unfold cmpI; rw [if_pos (by omega)]
    · have d : cmpI (digAt a b.length) (digAt b b.length) = 1 := by
        unfold digAt; rw [if_pos (by omega), if_neg (by omega)]; unfold cmpI; rw [if_neg (by omega), if_pos (by omega)]
      rw [firstN_stop b.length (fun j hj => e j (by omega) hj) (by rw [d]; omega) _ (by omega), d]
      unfold cmpI; rw [if_neg (by omega), if_pos (by omega)]

/-- The two boxes of compare. -/
structure DgW (w wr : World) (p q p' q' : ByteArray) : Prop where
  below : RowKit.Below w.heap.size w wr
  size : w.heap.size + 1 < wr.heap.size
  c0 : wr.cell? ⟨w.heap.size, 0, none⟩ = some (.string p)
  c1 : wr.cell? ⟨w.heap.size, 1, none⟩ = some (.string q)
  d0 : wr.cell? ⟨w.heap.size + 1, 0, none⟩ = some (.string p')
  d1 : wr.cell? ⟨w.heap.size + 1, 1, none⟩ = some (.string q')
theorem DgW.step {w wr w' : World} {p q p' q' : ByteArray} (h : DgW w wr p q p' q') (b : RowKit.Below wr.heap.size wr w') : DgW w w' p q p' q' := by
  have hz := h.size
  exact ⟨h.below.trans (b.mono h.below.size), by have := b.size; omega, ((bcell b).1 _ _ (by omega)).trans h.c0, ((bcell b).1 _ _ (by omega)).trans h.c1, ((bcell b).1 _ _ (by omega)).trans h.d0, ((bcell b).1 _ _ (by omega)).trans h.d1⟩

def DgRel (w : World) (p q p' q' : ByteArray) (i : Value) (wr : World) : Prop :=
  ∃ k : Nat, k ≤ min (p.size + q.size) (p'.size + q'.size) ∧ i = .int .i64 k ∧ (∀ j, j < k → cmpI (atB (p.data.toList ++ q.data.toList) j).toNat (atB (p'.data.toList ++ q'.data.toList) j).toNat = 0) ∧ DgW w wr p q p' q'

set_option maxRecDepth 100000 in
set_option maxHeartbeats 1600000 in
theorem digCompare_ok (p q p' q' : ByteArray) (w : World) (hp : p.size ≤ 1125899906842624) (hq : q.size ≤ 1125899906842624) (hp' : p'.size ≤ 1125899906842624) (hq' : q'.size ≤ 1125899906842624) :
    Calls Tryd.prog 102 #[.agg #[.string p, .string q], .agg #[.string p', .string q']] w (RetBelow w (.int .i64 (cmpL (p.data.toList ++ q.data.toList) (p'.data.toList ++ q'.data.toList)))) := by
  have la : (p.data.toList ++ q.data.toList).length = p.size + q.size := by rw [List.length_append, ← Lib.size_eq, ← Lib.size_eq]
  have lb : (p'.data.toList ++ q'.data.toList).length = p'.size + q'.size := by rw [List.length_append, ← Lib.size_eq, ← Lib.size_eq]
  have LA := Lib.hid la
  have LB := Lib.hid lb
  clear la lb
  obtain ⟨n1, hn1⟩ : ∃ n1, n1 = p.size + q.size := ⟨_, rfl⟩
  obtain ⟨n2, hn2⟩ : ∃ n2, n2 = p'.size + q'.size := ⟨_, rfl⟩
  have b1 : n1 ≤ 2251799813685248 := by omega
  have b2 : n2 ≤ 2251799813685248 := by omega
  have C1 := Lib.hid (fun W : World => count_ok p q W hp hq)
  have C2 := Lib.hid (fun W : World => count_ok p' q' W hp' hq')
  rw [← hn1] at C1
  rw [← hn2] at C2
  have HN1 := Lib.hid hn1
  have HN2 := Lib.hid hn2
  clear hn1 hn2
  go_enter Tryd.func102, Tryd.ntmps102
  go_wp2_with fail
  have D0 : DgW w ((w.alloc (Obj.cells #[Value.string p, Value.string q] 58)).alloc (Obj.cells #[Value.string p', Value.string q'] 58)) p q p' q' :=
    ⟨((RowKit.Below.refl _ _).alloc (Nat.le_refl _) _).alloc (by simp) _, by simp, by simp, by simp, by simp, by simp⟩
  have HD0 := Lib.hid D0
  clear D0
  generalize (w.alloc (Obj.cells #[Value.string p, Value.string q] 58)).alloc (Obj.cells #[Value.string p', Value.string q'] 58) = W0 at *
  have j1 := cell_regrown HD0.out.c0
  have j2 := cell_regrown HD0.out.c1
  have j3 := cell_regrown HD0.out.d0
  have j4 := cell_regrown HD0.out.d1
  have cP : ∀ dd os, Calls Tryd.prog 72 #[.agg #[.string p, .string q]] (grow (redrawn W0 dd) os) fun e w'' => e = .returned (.int .i64 (n1 : Nat)) ∧ ∃ r : Regrown, w'' = grow (redrawn W0 r.d) r.os := fun dd os => Calls.regrown_of (C1.out _)
  have cQ : ∀ dd os, Calls Tryd.prog 72 #[.agg #[.string p', .string q']] (grow (redrawn W0 dd) os) fun e w'' => e = .returned (.int .i64 (n2 : Nat)) ∧ ∃ r : Regrown, w'' = grow (redrawn W0 r.d) r.os := fun dd os => Calls.regrown_of (C2.out _)
  refine wp_region_quiet_below (by kernel_rfl) (by kernel_rfl) ?_
  repeat (quiet_step (first | with_reducible exact cP _ _ | with_reducible exact cQ _ _))
  refine wpQuiet_nil ?_
  intro _ hw'
  obtain ⟨⟨dq, osq⟩, hw''⟩ := hw'
  subst hw''
  clear cP cQ j1 j2 j3 j4
  have HD1 := Lib.hid (HD0.out.step (below_regrown W0 dq osq))
  generalize grow (redrawn W0 dq) osq = W1 at *
  go_wp2_with fail
  obtain ⟨m, hm⟩ : ∃ m : Nat, m = min n1 n2 := ⟨_, rfl⟩
  rw [show (min (n1 : Int) (n2 : Int)) = (m : Int) by omega]
  have hm1 : m ≤ n1 := by omega
  have hm2 : m ≤ n2 := by omega
  have HM := Lib.hid hm
  clear hm HD0
  go_loopw [12] (fun i wr => DgRel w p q p' q' i wr) (fun i _ => m - (RowKit.intOf i).toNat)
  case atStart => exact ⟨0, Nat.zero_le _, rfl, fun j hj => by omega, HD1.out⟩
  case round =>
    obtain ⟨k, hk, rfl, h0, hdr⟩ := hrel
    rw [← HN1.out, ← HN2.out, ← HM.out] at hk
    have H0 := Lib.hid h0
    have HDR := Lib.hid hdr
    clear h0 hdr
    have j1 := cell_regrown HDR.out.c0
    have j2 := cell_regrown HDR.out.c1
    have j3 := cell_regrown HDR.out.d0
    have j4 := cell_regrown HDR.out.d1
    by_cases hlt : k < m
    · obtain ⟨x, hx⟩ : ∃ x, x = atB (p.data.toList ++ q.data.toList) k := ⟨_, rfl⟩
      obtain ⟨y, hy⟩ : ∃ y, y = atB (p'.data.toList ++ q'.data.toList) k := ⟨_, rfl⟩
      have A1 := Lib.hid (fun W : World => digAt_ok p q k W (by rw [← HN1.out]; omega) hq)
      have A2 := Lib.hid (fun W : World => digAt_ok p' q' k W (by rw [← HN2.out]; omega) hq')
      rw [← hx] at A1
      rw [← hy] at A2
      have HX := Lib.hid hx
      have HY := Lib.hid hy
      clear hx hy
      obtain ⟨c, hc⟩ : ∃ c, c = cmpI (x.toNat : Int) y.toNat := ⟨_, rfl⟩
      have A3 := Lib.hid (fun W : World => (cmpByte_ok (x.toNat : Int) y.toNat W).mono (fun e w' (h : e = .returned (.int .i64 (cmpI (x.toNat : Int) y.toNat)) ∧ W = w') => (⟨by rw [h.1, hc], by rw [← h.2]; exact RowKit.Below.refl _ _⟩ : RetBelow W (.int .i64 c) e w')))
      have HC := Lib.hid hc
      clear hc
      go_wp2_with fail
      have cP : ∀ dd os, Calls Tryd.prog 114 #[.agg #[.string p, .string q], .int .i64 k] (grow (redrawn wr dd) os) fun e w'' => e = .returned (.int .u8 x.toNat) ∧ ∃ r : Regrown, w'' = grow (redrawn wr r.d) r.os := fun dd os => Calls.regrown_of (A1.out _)
      have cQ : ∀ dd os, Calls Tryd.prog 114 #[.agg #[.string p', .string q'], .int .i64 k] (grow (redrawn wr dd) os) fun e w'' => e = .returned (.int .u8 y.toNat) ∧ ∃ r : Regrown, w'' = grow (redrawn wr r.d) r.os := fun dd os => Calls.regrown_of (A2.out _)
      have cR : ∀ dd os, Calls Tryd.prog 78 #[.int .u8 x.toNat, .int .u8 y.toNat] (grow (redrawn wr dd) os) fun e w'' => e = .returned (.int .i64 c) ∧ ∃ r : Regrown, w'' = grow (redrawn wr r.d) r.os := fun dd os => Calls.regrown_of (A3.out _)
      refine wp_region_quiet_below (by kernel_rfl) (by kernel_rfl) ?_
      repeat (quiet_step (first | with_reducible exact cP _ _ | with_reducible exact cQ _ _ | with_reducible exact cR _ _))
      refine wpQuiet_nil ?_
      intro _ hw'
      obtain ⟨⟨dq, osq⟩, hw''⟩ := hw'
      subst hw''
      clear cP cQ cR j1 j2 j3 j4
      have HD2 := Lib.hid (HDR.out.step (below_regrown wr dq osq))
      generalize grow (redrawn wr dq) osq = W2 at *
      by_cases hz : c = 0
      · have HZ := Lib.hid (HC.out.symm.trans hz)
        subst hz
        go_wp2_with fail
        go_roundw
        case rel => exact ⟨k + 1, by rw [← HN1.out, ← HN2.out, ← HM.out]; omega, by go_num, fun j hj => by
            by_cases e : j = k
            · subst e; rw [← HX.out, ← HY.out]; exact HZ.out
            · exact H0.out j (by omega), HD2.out⟩
        case measure => simp [RowKit.intOf]; omega
      · have t1 : (c != 0) = true := by rw [bne_iff_ne]; exact hz
        have HZ := Lib.hid hz
        clear hz
        go_wp2_with fail
        go_ret
        refine ⟨?_, HD2.out.below⟩
        rw [cmpL_at (k := k) (by rw [LA.out, ← HN1.out]; omega) (by rw [LB.out, ← HN2.out]; omega) H0.out (by rw [← HX.out, ← HY.out, ← HC.out]; exact HZ.out), ← HX.out, ← HY.out, ← HC.out]
        rfl
    · have hkm : k = m := by omega
      have HKM := Lib.hid hkm
      clear hkm
      have E := Lib.hid (show cmpL (p.data.toList ++ q.data.toList) (p'.data.toList ++ q'.data.toList) = cmpI n1 n2 by
        rw [cmpL_lens (fun j h1 h2 => H0.out j (by rw [LA.out, ← HN1.out] at h1; rw [LB.out, ← HN2.out] at h2; have := HM.out; have := HKM.out; omega)), LA.out, LB.out, HN1.out, HN2.out])
      obtain ⟨c, hc⟩ : ∃ c, c = cmpI (n1 : Int) n2 := ⟨_, rfl⟩
      have A3 := Lib.hid (fun W : World => (cmpInt_ok (n1 : Int) n2 W).mono (fun e w' (h : e = .returned (.int .i64 (cmpI (n1 : Int) n2)) ∧ W = w') => (⟨by rw [h.1, hc], by rw [← h.2]; exact RowKit.Below.refl _ _⟩ : RetBelow W (.int .i64 c) e w')))
      have HC := Lib.hid hc
      clear hc
      go_wp2_with fail
      have cP : ∀ dd os, Calls Tryd.prog 72 #[.agg #[.string p, .string q]] (grow (redrawn wr dd) os) fun e w'' => e = .returned (.int .i64 (n1 : Nat)) ∧ ∃ r : Regrown, w'' = grow (redrawn wr r.d) r.os := fun dd os => Calls.regrown_of (C1.out _)
      have cQ : ∀ dd os, Calls Tryd.prog 72 #[.agg #[.string p', .string q']] (grow (redrawn wr dd) os) fun e w'' => e = .returned (.int .i64 (n2 : Nat)) ∧ ∃ r : Regrown, w'' = grow (redrawn wr r.d) r.os := fun dd os => Calls.regrown_of (C2.out _)
      have cR : ∀ dd os, Calls Tryd.prog 41 #[.int .i64 n1, .int .i64 n2] (grow (redrawn wr dd) os) fun e w'' => e = .returned (.int .i64 c) ∧ ∃ r : Regrown, w'' = grow (redrawn wr r.d) r.os := fun dd os => Calls.regrown_of (A3.out _)
      refine wp_region_quiet_below (by kernel_rfl) (by kernel_rfl) ?_
      repeat (quiet_step (first | with_reducible exact cP _ _ | with_reducible exact cQ _ _ | with_reducible exact cR _ _))
      refine wpQuiet_nil ?_
      intro _ hw'
      obtain ⟨⟨dq, osq⟩, hw''⟩ := hw'
      subst hw''
      clear cP cQ cR j1 j2 j3 j4
      have HD2 := Lib.hid (HDR.out.step (below_regrown wr dq osq))
      generalize grow (redrawn wr dq) osq = W2 at *
      go_wp2_with fail
      go_ret
      exact ⟨by rw [E.out, ← HC.out]; rfl, HD2.out.below⟩
end Go.Proofs.YtpbbgmfjdachnaaDoor
