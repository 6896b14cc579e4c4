/- CollateTransform: the law's walk. -/
import Derived.Test.YtnpnccjeapejdaaGreatDoorVe
namespace Go.Proofs.YtnpnccjeapejdaaGreatDoor
open Go.RowKit
set_option maxRecDepth 100000
theorem cb_self : ∀ p : List UInt8, Lib.compareBytes p p = 0
  | [] => rfl
  | x :: p => by rw [Lib.compareBytes]; simp [cb_self p]
theorem cb_zero : ∀ (p q : List UInt8), Lib.compareBytes p q = 0 → p = q
  | [], [], _ => rfl
  | [], _ :: _, h => by simp [Lib.compareBytes] at h
  | _ :: _, [], h => by simp [Lib.compareBytes] at h
  | x :: p, y :: q, h => by
    rw [Lib.compareBytes] at h
    by_cases h1 : x < y
    · simp [h1] at h
    · by_cases h2 : y < x
      · simp [h1, h2] at h
      · have h3 : x = y := UInt8.le_antisymm (UInt8.not_lt.1 h2) (UInt8.not_lt.1 h1)
        subst h3
        simp at h
        rw [cb_zero p q h]
theorem less_cb : ∀ (p q : List UInt8), Op.bytesLess p q = decide (Lib.compareBytes p q = -1)
  | [], [] => rfl
  | [], _ :: _ => rfl
  | _ :: _, [] => rfl
  | x :: p, y :: q => by
    rw [Op.bytesLess, Lib.compareBytes, less_cb p q]
    by_cases h1 : x < y
    · simp [h1]
    · by_cases h2 : y < x
      · have h3 : ¬ x = y := fun e => by rw [e] at h2; exact UInt8.lt_irrefl _ h2
        simp [h1, h2, h3]
      · have h3 : x = y := UInt8.le_antisymm (UInt8.not_lt.1 h2) (UInt8.not_lt.1 h1)
        simp [h3]
theorem eq_cb (p q : List UInt8) : (p == q) = decide (Lib.compareBytes p q = 0) := by
  by_cases h : p = q
  · subst h
    rw [decide_eq_true (cb_self p)]
    simp
  · rw [decide_eq_false (fun e => h (cb_zero p q e))]
    exact beq_eq_false_iff_ne.2 h

/-- What may gives, by what the order then answers. -/
def RetMT (a b X Y : ByteArray) (n : Int) (N : Nat) (W : World) (e : Ending) (w' : World) : Prop :=
  Below W.heap.size W w' ∧ (e = .returned (.tuple #[.pointer none, .bool true]) ∨ ∃ P, e = .returned (.tuple #[.pointer (some ⟨P, 0, none⟩), .bool true]) ∧ ∀ W2, Below w'.heap.size w' W2 →
    Calls Tryz.prog 7 #[.pointer (some ⟨P, 0, none⟩), .string a] W2 (RetBk W2 (.string X)) ∧ Calls Tryz.prog 7 #[.pointer (some ⟨P, 0, none⟩), .string b] W2 (RetBk W2 (.string Y)) ∧
    Calls Tryz.prog 8 #[.pointer (some ⟨P, 0, none⟩)] W2 (RetV W2 (.int .i64 (N : Int))) ∧ Calls Tryz.prog 9 #[.pointer (some ⟨P, 0, none⟩), .string a, .string b] W2 (RetBk W2 (.int .i64 n)))
theorem optC_lenV (o : Opt) (kv fv : Value) : (Tryz.prog.info? 28).map (·.size) = some (optC o kv fv).length := by kernel_rfl
theorem len_num (z : Nat) (hz : z ≤ 1048576) : wrap64 (8 * (z : Int)) = ((8 * z : Nat) : Int) ∧ wrap64 (((8 * z : Nat) : Int) + 128) = ((8 * z + 128 : Nat) : Int) := by
  constructor
  · unfold wrap64; omega
  · unfold wrap64; omega
theorem len_mul (p q : Nat) (h : p * q ≤ 50000000000000) : wrap64 ((p : Int) * (q : Int)) = ((p * q : Nat) : Int) := by
  rw [← Int.natCast_mul]
  generalize p * q = z at *
  unfold wrap64; omega
theorem len_bound (N z : Nat) (hN : N ≤ 1048577) (hz : z ≤ 1048576) : (N + 1) * (8 * z + 128) ≤ 50000000000000 :=
  Nat.le_trans (Nat.mul_le_mul (show N + 1 ≤ 1048578 by omega) (show 8 * z + 128 ≤ 8388736 by omega)) (by decide)
set_option maxHeartbeats 1600000 in
theorem transforms_g (o : Opt) (kv fv : Value) (a b X Y : ByteArray) (n : Int) (N : Nat) (w : World) (hn : n = -1 ∨ n = 0 ∨ n = 1) (hl : Op.bytesLess X.toList Y.toList = decide (n = -1)) (hg : (X.toList == Y.toList) = decide (n = 0))
    (ma ya za mb yb zb N1 : Nat) (E : Hid (wrap64 (8 * (a.size : Int)) = (ma : Int) ∧ wrap64 ((ma : Int) + 128) = (ya : Int) ∧ wrap64 ((N1 : Int) * (ya : Int)) = (za : Int) ∧ wrap64 (8 * (b.size : Int)) = (mb : Int) ∧ wrap64 ((mb : Int) + 128) = (yb : Int) ∧ wrap64 ((N1 : Int) * (yb : Int)) = (zb : Int) ∧ wrap64 ((N : Int) + 1) = (N1 : Int)))
    (TT : Hid (decide (0 < N) = true ∧ decide (X.size ≤ za) = true ∧ decide (Y.size ≤ zb) = true))
    (MAY : Hid (∀ W, Below w.heap.size w W → Calls Tryz.prog 6 #[optV o kv fv] W (RetMT a b X Y n N W))) :
    Calls Tryz.prog 3 #[optV o kv fv, .string a, .string b] w (RetBk w (.bool true)) := by
  have A0 := Lib.hid (CellsAt.new w (optC o kv fv) 28)
  have B0 := Lib.hid ((Below.refl w.heap.size w).alloc (Nat.le_refl _) (Obj.cells (optC o kv fv).toArray 28))
  have R0 := Lib.hid A0.out.range
  unfold optV at MAY ⊢
  have HL := Lib.hid hl
  have HG := Lib.hid hg
  have HNn := Lib.hid hn
  clear hl hg hn
  go_enter Tryz.func3, Tryz.ntmps3
  go_wp2_with first
    | (guard_target =~ wpList _ _ _ (⟨some _, Op.load 28 _, _, _, _, _⟩ :: _) _ _; go_must (refine wpList_load_mid rfl 28 _ rfl w.heap.size 0 rfl (optC o kv fv) _ R0.out Tryz.underlying28 rfl (optC_lenV _ _ _) ?_))
  refine (MAY.out _ B0.out).mono ?_
  rintro e w1 ⟨b1, rfl | ⟨P, rfl, CC⟩⟩
  · have B1 := Lib.hid (B0.out.trans (b1.mono B0.out.size))
    clear b1
    go_wp2_with fail
    go_ret
    exact ⟨rfl, B1.out⟩
  · have B1 := Lib.hid (B0.out.trans (b1.mono B0.out.size))
    have CA := Lib.hid (fun W (h : Below w1.heap.size w1 W) => (CC W h).1)
    have CB := Lib.hid (fun W (h : Below w1.heap.size w1 W) => (CC W h).2.1)
    have CN := Lib.hid (fun W (h : Below w1.heap.size w1 W) => (CC W h).2.2.1)
    have CM := Lib.hid (fun W (h : Below w1.heap.size w1 W) => (CC W h).2.2.2)
    clear CC b1 MAY R0 A0
    go_wp2_with fail
    refine (CA.out _ (Below.refl _ _)).mono ?_
    rintro e w2 ⟨rfl, b2⟩
    have D2 := Lib.hid b2
    clear b2
    go_wp2_with fail
    refine (CB.out _ D2.out).mono ?_
    rintro e w3 ⟨rfl, b3⟩
    have D3 := Lib.hid (D2.out.trans (b3.mono D2.out.size))
    clear b3
    rcases HNn.out with rfl | rfl | rfl
    · have hl : Op.bytesLess X.toList Y.toList = true := HL.out
      have hg : (X.toList == Y.toList) = false := HG.out
      go_wp2_with fail
      refine (CN.out _ D3.out).mono ?_
      rintro e w4 ⟨rfl, rfl⟩
      go_wp2_with fail
      refine (CM.out _ D3.out).mono ?_
      rintro e w5 ⟨rfl, b5⟩
      have D5 := Lib.hid (B1.out.trans ((D3.out.trans (b5.mono D3.out.size)).mono B1.out.size))
      clear b5 hl hg
      obtain ⟨e1a, e2a, e4a, e1b, e2b, e4b, e3⟩ := E.out
      obtain ⟨t0, tX, tY⟩ := TT.out
      go_wp2_with fail
      go_ret
      exact ⟨rfl, D5.out⟩
    · have hl : Op.bytesLess X.toList Y.toList = false := HL.out
      have hg : (X.toList == Y.toList) = true := HG.out
      go_wp2_with fail
      refine (CN.out _ D3.out).mono ?_
      rintro e w4 ⟨rfl, rfl⟩
      go_wp2_with fail
      refine (CM.out _ D3.out).mono ?_
      rintro e w5 ⟨rfl, b5⟩
      have D5 := Lib.hid (B1.out.trans ((D3.out.trans (b5.mono D3.out.size)).mono B1.out.size))
      clear b5 hl hg
      obtain ⟨e1a, e2a, e4a, e1b, e2b, e4b, e3⟩ := E.out
      obtain ⟨t0, tX, tY⟩ := TT.out
      go_wp2_with fail
      go_ret
      exact ⟨rfl, D5.out⟩
    · have hl : Op.bytesLess X.toList Y.toList = false := HL.out
      have hg : (X.toList == Y.toList) = false := HG.out
      go_wp2_with fail
      refine (CN.out _ D3.out).mono ?_
      rintro e w4 ⟨rfl, rfl⟩
      go_wp2_with fail
      refine (CM.out _ D3.out).mono ?_
      rintro e w5 ⟨rfl, b5⟩
      have D5 := Lib.hid (B1.out.trans ((D3.out.trans (b5.mono D3.out.size)).mono B1.out.size))
      clear b5 hl hg
      obtain ⟨e1a, e2a, e4a, e1b, e2b, e4b, e3⟩ := E.out
      obtain ⟨t0, tX, tY⟩ := TT.out
      go_wp2_with fail
      go_ret
      exact ⟨rfl, D5.out⟩
theorem tr_eq (x y : List UInt8) : ((bs x).toList == (bs y).toList) = decide (Lib.compareBytes x y = 0) := by
  rw [Lib.toList_data, Lib.toList_data, bs_list, bs_list, eq_cb]
theorem tr_less (x y : List UInt8) : Op.bytesLess (bs x).toList (bs y).toList = decide (Lib.compareBytes x y = -1) := by
  rw [Lib.toList_data, Lib.toList_data, bs_list, bs_list, less_cb]
theorem trT_len (b1 b2 : Bool) (oo : Option UInt8) (L : List KeyL) (s : ByteArray) (hs : s.size ≤ 1048576) : (trT b1 b2 oo L s).length ≤ (L.length + 1) * (8 * s.size + 128) := by
  have h1 := prT_len oo L s hs L.length
  have h2 := (Num.embS_len8 0 s (by omega)).1
  have h3 : (laT b1 b2 s).length ≤ 8 * s.size + 128 := by
    unfold laT
    cases b1 <;> cases b2 <;> simp <;> omega
  unfold trT
  rw [List.length_append, Nat.succ_mul]
  omega
theorem cb_three (x y : List UInt8) : Lib.compareBytes x y = -1 ∨ Lib.compareBytes x y = 0 ∨ Lib.compareBytes x y = 1 := by
  induction x generalizing y with
  | nil => cases y <;> simp [Lib.compareBytes]
  | cons c x ih =>
    cases y with
    | nil => simp [Lib.compareBytes]
    | cons d y =>
      unfold Lib.compareBytes
      repeat (first | exact ih y | split | simp)
theorem transforms_ok (o : Opt) (ks : List KeyL) (kv fv : Value) (a b : ByteArray) (w : World) (hmm : o.mods < 65536) (hm : ∀ k ∈ ks, k.m < 65536) (hk : SlAt w w.heap.size kv 6 ks.length (ksV ks)) (hkl : ks.length ≤ 1048576)
    (ha : a.size ≤ 1048576) (hb : b.size ≤ 1048576) (T : Tbs w) :
    Calls Tryz.prog 3 #[optV o kv fv, .string a, .string b] w (RetBk w (.bool true)) := by
  have la : a.data.toList.length ≤ 10000000 := by rw [← Lib.size_eq]; omega
  have lb : b.data.toList.length ≤ 10000000 := by rw [← Lib.size_eq]; omega
  have ct := trT_cb (!o.stable && !o.unique) (!decide (o.mods &&& 512 = 0)) (tabO o.tab) (effL ks o.mods o.tab) a b la lb
  have ln := eff_lenT ks o.mods o.tab
  have l0 : 0 < (effL ks o.mods o.tab).length := List.length_pos_iff.2 (eff_ne ks o.mods o.tab)
  have lN : (effL ks o.mods o.tab).length ≤ 1048577 := by omega
  have n3 := cb_three (trT (!o.stable && !o.unique) (!decide (o.mods &&& 512 = 0)) (tabO o.tab) (effL ks o.mods o.tab) a) (trT (!o.stable && !o.unique) (!decide (o.mods &&& 512 = 0)) (tabO o.tab) (effL ks o.mods o.tab) b)
  have lX := trT_len (!o.stable && !o.unique) (!decide (o.mods &&& 512 = 0)) (tabO o.tab) (effL ks o.mods o.tab) a ha
  have lY := trT_len (!o.stable && !o.unique) (!decide (o.mods &&& 512 = 0)) (tabO o.tab) (effL ks o.mods o.tab) b hb
  refine transforms_g o kv fv a b (bs (trT (!o.stable && !o.unique) (!decide (o.mods &&& 512 = 0)) (tabO o.tab) (effL ks o.mods o.tab) a)) (bs (trT (!o.stable && !o.unique) (!decide (o.mods &&& 512 = 0)) (tabO o.tab) (effL ks o.mods o.tab) b))
    (cpS (!o.stable && !o.unique) (!decide (o.mods &&& 512 = 0)) (tabO o.tab) (effL ks o.mods o.tab) a b) (effL ks o.mods o.tab).length w ?_ ?_ ?_ _ _ _ _ _ _ _ (Lib.hid ⟨(len_num a.size ha).1, (len_num a.size ha).2, len_mul _ _ (len_bound _ a.size lN ha), (len_num b.size hb).1, (len_num b.size hb).2, len_mul _ _ (len_bound _ b.size lN hb), by unfold wrap64; omega⟩) (Lib.hid ⟨decide_eq_true l0, decide_eq_true ?_, decide_eq_true ?_⟩) (Lib.hid fun W bw => ?_)
  · rw [← ct]; exact n3
  · rw [tr_less, ct]
  · rw [tr_eq, ct]
  · rw [bs_size]; exact lX
  · rw [bs_size]; exact lY
  · refine (may_T o ks kv fv W hmm hm ((hk.keep bw (Nat.le_refl _)).mono bw.size)).mono ?_
    rintro e w' ⟨cp, rfl, hb', h | ⟨hd, P, gg, cap, D, rfl, hD, K⟩⟩
    · rw [h.2]
      exact ⟨hb', Or.inl rfl⟩
    · obtain ⟨oo, ht⟩ := docS_tab hd
      have EN : Nats (D.map Prod.fst) := by rw [hD]; exact eff_nats hd
      have hl : D.length = (effL ks o.mods o.tab).length := by rw [← hD, List.length_map]
      rw [tabO_of ht, ← hD]
      rw [ht] at K
      have TW := (T.below bw).below hb'
      refine ⟨hb', Or.inr ⟨P, rfl, fun W2 b2 => ⟨transform_ok (K.step b2) EN (by omega) a ha (TW.below b2), transform_ok (K.step b2) EN (by omega) b hb (TW.below b2), ?_, (K.step b2).ord.compare EN (by omega) a b ha hb (TW.below b2)⟩⟩⟩
      have := count_ok P D.length cap _ W2 (K.step b2).ord.c0
      rw [List.length_map]
      exact this
end Go.Proofs.YtnpnccjeapejdaaGreatDoor
