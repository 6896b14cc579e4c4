/- CollateTotal, with the contracts laid in. -/
import Derived.Test.YtgpcmlbmmcnkjaaGreatDoorTc
namespace Go.Proofs.YtgpcmlbmmcnkjaaGreatDoor
section
open Go.RowKit
open Num (IsCmp)
set_option maxRecDepth 100000
theorem tri {α : Type} {c : α → α → Int} (h : IsCmp c) (a b d : α) :
    (c a b = -1 ∧ c b d = -1 ∧ c a d = -1) ∨ (c a b = -1 ∧ c b d = 0 ∧ c a d = -1) ∨ (c a b = -1 ∧ c b d = 1 ∧ c a d = -1) ∨ (c a b = -1 ∧ c b d = 1 ∧ c a d = 0) ∨ (c a b = -1 ∧ c b d = 1 ∧ c a d = 1) ∨ (c a b = 0 ∧ c b d = -1 ∧ c a d = -1) ∨ (c a b = 0 ∧ c b d = 0 ∧ c a d = 0) ∨ (c a b = 0 ∧ c b d = 1 ∧ c a d = 1) ∨ (c a b = 1 ∧ c b d = -1 ∧ c a d = -1) ∨ (c a b = 1 ∧ c b d = -1 ∧ c a d = 0) ∨ (c a b = 1 ∧ c b d = -1 ∧ c a d = 1) ∨ (c a b = 1 ∧ c b d = 0 ∧ c a d = 1) ∨ (c a b = 1 ∧ c b d = 1 ∧ c a d = 1) := by
  have l1 := h.lo a b; have l2 := h.lo b d; have l3 := h.lo a d
  have u1 := h.hi a b; have u2 := h.hi b d; have u3 := h.hi a d
  have n1 := h.anti a b; have n2 := h.anti b d; have n3 := h.anti a d
  have t1 := h.trans a b d; have t2 := h.trans d b a
  have k1 := h.alike a b d; have k2 := h.alike d b a; have k3 := h.alike a d b; have k4 := h.alike d a b
  rw [n1] at t2 k2
  rw [n2] at t2 k2 k3 k4
  rw [n3] at t2 k2 k4
  generalize c a b = x at *
  generalize c b d = y at *
  generalize c a d = z at *
  have hx : x = -1 ∨ x = 0 ∨ x = 1 := by omega
  have hy : y = -1 ∨ y = 0 ∨ y = 1 := by omega
  have hz : z = -1 ∨ z = 0 ∨ z = 1 := by omega
  clear n1 n2 n3 l1 l2 l3 u1 u2 u3
  rcases hx with rfl | rfl | rfl <;> rcases hy with rfl | rfl | rfl <;> rcases hz with rfl | rfl | rfl
  all_goals first
    | (exfalso; omega)
    | simp
theorem optC_lenT (o : Opt) (kv fv : Value) : (Tryz.prog.info? 28).map (·.size) = some (optC o kv fv).length := by kernel_rfl
def RetMayK (W : World) (a b d : ByteArray) (o : Opt) (e : Ending) (w' : World) : Prop :=
  ∃ (P : Nat) (cp ky : ByteArray → ByteArray → Int), e = .returned (.tuple #[.pointer (some ⟨P, 0, none⟩), .bool true]) ∧ Below W.heap.size W w' ∧ IsCmp cp ∧ IsCmp ky ∧ (∀ x y, ky x y ≠ 0 → cp x y = ky x y) ∧
    (o.stable = false → o.unique = false → ∀ x y, ky x y = 0 → (cp x y = 0 ↔ x = y)) ∧
    ∀ x y W2, (x = a ∨ x = b ∨ x = d) → (y = a ∨ y = b ∨ y = d) → Below w'.heap.size w' W2 →
      Calls Tryz.prog 11 #[.pointer (some ⟨P, 0, none⟩), .string x, .string y] W2 (RetBk W2 (.int .i64 (cp x y))) ∧ Calls Tryz.prog 12 #[.pointer (some ⟨P, 0, none⟩), .string x, .string y] W2 (RetBk W2 (.int .i64 (ky x y)))
set_option maxHeartbeats 32000000 in
theorem total_in (o : Opt) (kv fv : Value) (a b d : ByteArray) (w : World)
    (MAY : Hid (∀ W, Below w.heap.size w W → Calls Tryz.prog 10 #[optV o kv fv] W (RetMayK W a b d o))) :
    Calls Tryz.prog 3 #[optV o kv fv, .string a, .string b, .string d] w (RetBk w (.bool true)) := by
  have A0 := Lib.hid (CellsAt.new w (optC o kv fv) 28)
  have B0 := Lib.hid ((Below.refl w.heap.size w).alloc (Nat.le_refl _) (Obj.cells (optC o kv fv).toArray 28))
  have R0 := Lib.hid A0.out.range
  unfold optV at MAY ⊢
  go_enter Tryz.func3, Tryz.ntmps3
  go_wp2_with first
    | (guard_target =~ wpList _ _ _ (⟨some _, Op.load 28 _, _, _, _, _⟩ :: _) _ _; go_must (refine wpList_load_mid rfl 28 _ rfl w.heap.size 0 rfl (optC o kv fv) _ R0.out Tryz.underlying28 rfl (optC_lenT _ _ _) ?_))
  refine (MAY.out _ B0.out).mono ?_
  rintro e w1 ⟨P, cp, ky, rfl, b1, IC, IK, hck, hlast, CC⟩
  have A1 := Lib.hid (A0.out.step b1)
  have B1 := Lib.hid (B0.out.trans (b1.mono B0.out.size))
  have TC := Lib.hid (tri IC a b d)
  have TK := Lib.hid (tri IK a b d)
  have Hab := Lib.hid (hck a b); have Hbd := Lib.hid (hck b d); have Had := Lib.hid (hck a d)
  have HL := Lib.hid (fun h1 h2 => hlast h1 h2 a b)
  have C00 := Lib.hid (fun W (hb : Below w1.heap.size w1 W) => (CC a b W (Or.inl rfl) (Or.inr (Or.inl rfl)) hb).1)
  have C01 := Lib.hid (fun W (hb : Below w1.heap.size w1 W) => (CC b a W (Or.inr (Or.inl rfl)) (Or.inl rfl) hb).1)
  have C02 := Lib.hid (fun W (hb : Below w1.heap.size w1 W) => (CC b d W (Or.inr (Or.inl rfl)) (Or.inr (Or.inr rfl)) hb).1)
  have C03 := Lib.hid (fun W (hb : Below w1.heap.size w1 W) => (CC a d W (Or.inl rfl) (Or.inr (Or.inr rfl)) hb).1)
  have C04 := Lib.hid (fun W (hb : Below w1.heap.size w1 W) => (CC a a W (Or.inl rfl) (Or.inl rfl) hb).1)
  have C10 := Lib.hid (fun W (hb : Below w1.heap.size w1 W) => (CC a b W (Or.inl rfl) (Or.inr (Or.inl rfl)) hb).2)
  have C11 := Lib.hid (fun W (hb : Below w1.heap.size w1 W) => (CC b a W (Or.inr (Or.inl rfl)) (Or.inl rfl) hb).2)
  have C12 := Lib.hid (fun W (hb : Below w1.heap.size w1 W) => (CC b d W (Or.inr (Or.inl rfl)) (Or.inr (Or.inr rfl)) hb).2)
  have C13 := Lib.hid (fun W (hb : Below w1.heap.size w1 W) => (CC a d W (Or.inl rfl) (Or.inr (Or.inr rfl)) hb).2)
  have C14 := Lib.hid (fun W (hb : Below w1.heap.size w1 W) => (CC a a W (Or.inl rfl) (Or.inl rfl) hb).2)
  rw [IC.anti a b] at C01
  rw [IC.refl a] at C04
  rw [IK.anti a b] at C11
  rw [IK.refl a] at C14
  clear CC IC IK hck hlast b1 MAY R0 A0 B0
  generalize cp a b = x at *
  generalize cp b d = y at *
  generalize cp a d = z at *
  generalize ky a b = u at *
  generalize ky b d = v at *
  generalize ky a d = t at *
  have D := Below.refl w1.heap.size w1
  go_wp2_with fail
  refine (C00.out _ (by exact D)).mono ?_
  rintro e w2 ⟨rfl, bb⟩
  replace D := D.trans (bb.mono D.size)
  clear bb
  go_wp2_with fail
  refine (C01.out _ (by exact D)).mono ?_
  rintro e w3 ⟨rfl, bb⟩
  replace D := D.trans (bb.mono D.size)
  clear bb
  go_wp2_with fail
  refine (C02.out _ (by exact D)).mono ?_
  rintro e w4 ⟨rfl, bb⟩
  replace D := D.trans (bb.mono D.size)
  clear bb
  go_wp2_with fail
  refine (C03.out _ (by exact D)).mono ?_
  rintro e w5 ⟨rfl, bb⟩
  replace D := D.trans (bb.mono D.size)
  clear bb
  go_wp2_with fail
  refine (C04.out _ (by exact D)).mono ?_
  rintro e w6 ⟨rfl, bb⟩
  replace D := D.trans (bb.mono D.size)
  clear bb
  go_wp2_with fail
  refine (C10.out _ (by exact D)).mono ?_
  rintro e w7 ⟨rfl, bb⟩
  replace D := D.trans (bb.mono D.size)
  clear bb
  go_wp2_with fail
  refine (C11.out _ (by exact D)).mono ?_
  rintro e w8 ⟨rfl, bb⟩
  replace D := D.trans (bb.mono D.size)
  clear bb
  go_wp2_with fail
  refine (C12.out _ (by exact D)).mono ?_
  rintro e w9 ⟨rfl, bb⟩
  replace D := D.trans (bb.mono D.size)
  clear bb
  go_wp2_with fail
  refine (C13.out _ (by exact D)).mono ?_
  rintro e w10 ⟨rfl, bb⟩
  replace D := D.trans (bb.mono D.size)
  clear bb
  go_wp2_with fail
  refine (C14.out _ (by exact D)).mono ?_
  rintro e w11 ⟨rfl, bb⟩
  replace D := D.trans (bb.mono D.size)
  clear bb
  have A9 := Lib.hid (A1.out.step D)
  have B9 := Lib.hid (B1.out.trans (D.mono B1.out.size))
  clear D A1 B1 C00 C01 C02 C03 C04 C10 C11 C12 C13 C14
  have c3 := A9.out.cell 3 _ rfl
  have c4 := A9.out.cell 4 _ rfl
  obtain ⟨uu, huu⟩ : ∃ uu, uu = u := ⟨_, rfl⟩
  have hTC := TC.out
  have hTK := TK.out
  have hab := Hab.out
  have hbd := Hbd.out
  have had := Had.out
  clear TC TK Hab Hbd Had
  rcases hTK with ⟨rfl, rfl, rfl⟩ | ⟨rfl, rfl, rfl⟩ | ⟨rfl, rfl, rfl⟩ | ⟨rfl, rfl, rfl⟩ | ⟨rfl, rfl, rfl⟩ | ⟨rfl, rfl, rfl⟩ | ⟨rfl, rfl, rfl⟩ | ⟨rfl, rfl, rfl⟩ | ⟨rfl, rfl, rfl⟩ | ⟨rfl, rfl, rfl⟩ | ⟨rfl, rfl, rfl⟩ | ⟨rfl, rfl, rfl⟩ | ⟨rfl, rfl, rfl⟩ <;> rcases hTC with ⟨rfl, rfl, rfl⟩ | ⟨rfl, rfl, rfl⟩ | ⟨rfl, rfl, rfl⟩ | ⟨rfl, rfl, rfl⟩ | ⟨rfl, rfl, rfl⟩ | ⟨rfl, rfl, rfl⟩ | ⟨rfl, rfl, rfl⟩ | ⟨rfl, rfl, rfl⟩ | ⟨rfl, rfl, rfl⟩ | ⟨rfl, rfl, rfl⟩ | ⟨rfl, rfl, rfl⟩ | ⟨rfl, rfl, rfl⟩ | ⟨rfl, rfl, rfl⟩
  all_goals first
    | (exfalso; omega)
    | (have hz : uu ≠ 0 := by omega
       clear hab hbd had huu hz HL c3 c4
       go_wp2_with fail
       go_ret
       exact ⟨rfl, B9.out⟩)
    | (clear hab hbd had huu
       go_upto_region 20 with fail
       cases hs : o.stable
       · rw [hs] at c3
         cases hu : o.unique
         · rw [hu] at c4
           first
             | (have hx : a = b := by simpa [hs, hu] using HL.out
                clear HL hs hu
                subst hx
                have hx1 : (a.toList == a.toList) = true := by simp
                go_wp2_with fail
                go_ret
                exact ⟨rfl, B9.out⟩)
             | (have hx : ¬ a = b := by simpa [hs, hu] using HL.out
                clear HL hs hu
                have hx1 : (a.toList == b.toList) = false := by
                  rw [beq_eq_false_iff_ne, Lib.toList_data, Lib.toList_data]
                  intro e
                  exact hx (ba_ext e)
                clear hx
                go_wp2_with fail
                go_ret
                exact ⟨rfl, B9.out⟩)
         · rw [hu] at c4
           clear HL hs hu
           go_wp2_with fail
           go_ret
           exact ⟨rfl, B9.out⟩
       · rw [hs] at c3
         clear HL hs
         go_wp2_with fail
         go_ret
         exact ⟨rfl, B9.out⟩)
end
section
open Go.RowKit
open Num (IsCmp)
set_option maxRecDepth 100000
theorem eff_lenT (ks : List KeyL) (m : Nat) (t : Int) : (effL ks m t).length ≤ ks.length + 1 := by
  unfold effL dflt
  rw [List.length_map]
  split
  · simp
  · omega
set_option maxHeartbeats 3200000 in
theorem total_out (o : Opt) (kv fv : Value) (a b d : ByteArray) (w : World)
    (MAY : Hid (∀ W, Below w.heap.size w W → Calls Tryz.prog 10 #[optV o kv fv] W (RetBk W (.tuple #[.pointer none, .bool true])))) :
    Calls Tryz.prog 3 #[optV o kv fv, .string a, .string b, .string d] w (RetBk w (.bool true)) := by
  have A0 := Lib.hid (CellsAt.new w (optC o kv fv) 28)
  have B0 := Lib.hid ((Below.refl w.heap.size w).alloc (Nat.le_refl _) (Obj.cells (optC o kv fv).toArray 28))
  have R0 := Lib.hid A0.out.range
  unfold optV at MAY ⊢
  go_enter Tryz.func3, Tryz.ntmps3
  go_wp2_with first
    | (guard_target =~ wpList _ _ _ (⟨some _, Op.load 28 _, _, _, _, _⟩ :: _) _ _; go_must (refine wpList_load_mid rfl 28 _ rfl w.heap.size 0 rfl (optC o kv fv) _ R0.out Tryz.underlying28 rfl (optC_lenT _ _ _) ?_))
  refine (MAY.out _ B0.out).mono ?_
  rintro e w1 ⟨rfl, b1⟩
  have B1 := Lib.hid (B0.out.trans (b1.mono B0.out.size))
  clear b1 MAY R0 A0 B0
  go_wp2_with fail
  go_ret
  exact ⟨rfl, B1.out⟩
/-- What may gives of options that may be: the order, as total_in wants it. -/
theorem mayK_of {W w' : World} {ks : List KeyL} {o : Opt} {P gg cap : Nat} {D : List (KeyL × Value)} (a b d : ByteArray) (hd : docS ks o.mods o.tab = true) (hD : D.map Prod.fst = effL ks o.mods o.tab) (hkl : ks.length ≤ 1048576)
    (K : OrdK w' P gg cap (!o.stable && !o.unique) (!decide (o.mods &&& 512 = 0)) D o.tab) (ha : a.size ≤ 1048576) (hb : b.size ≤ 1048576) (hdd : d.size ≤ 1048576) (B : Below W.heap.size W w') (T : Tbs w') :
    RetMayK W a b d o (.returned (.tuple #[.pointer (some ⟨P, 0, none⟩), .bool true])) w' := by
  obtain ⟨oo, ht⟩ := docS_tab hd
  have EN : Nats (D.map Prod.fst) := by rw [hD]; exact eff_nats hd
  rw [ht] at K
  have hl : D.length ≤ 1099511627776 := by
    have h1 : D.length = (effL ks o.mods o.tab).length := by rw [← hD, List.length_map]
    have := eff_lenT ks o.mods o.tab
    omega
  have hsz : ∀ x : ByteArray, (x = a ∨ x = b ∨ x = d) → x.size ≤ 1048576 := fun x h => by
    rcases h with rfl | rfl | rfl
    · exact ha
    · exact hb
    · exact hdd
  refine ⟨P, cpS (!o.stable && !o.unique) (!decide (o.mods &&& 512 = 0)) oo (D.map Prod.fst), kyS oo (D.map Prod.fst), rfl, B, cpS_is _ _ _ _, kyS_is _ _, fun x y h => cpS_keys h, fun h1 h2 x y h => ?_, fun x y W2 hx hy b2 => ⟨?_, ?_⟩⟩
  · rw [h1, h2]
    exact cpS_last h
  · exact (K.step b2).compare EN hl x y (hsz x hx) (hsz y hy) (T.below b2)
  · exact (K.step b2).keys EN hl x y (hsz x hx) (hsz y hy) (T.below b2)
theorem total_ok (o : Opt) (ks : List KeyL) (kv fv : Value) (a b d : ByteArray) (w : World) (hmm : o.mods < 65536) (hm : ∀ k ∈ ks, k.m < 65536) (hk : SlAt w w.heap.size kv 6 ks.length (ksV ks)) (hkl : ks.length ≤ 1048576)
    (ha : a.size ≤ 1048576) (hb : b.size ≤ 1048576) (hdd : d.size ≤ 1048576) (T : Tbs w) :
    Calls Tryz.prog 3 #[optV o kv fv, .string a, .string b, .string d] w (RetBk w (.bool true)) := by
  cases hd : docS ks o.mods o.tab with
  | false =>
    refine total_out o kv fv a b d w (Lib.hid fun W bb => (may_any o ks kv fv W hmm hm ((hk.keep bb (Nat.le_refl _)).mono bb.size)).mono ?_)
    rintro e w' ⟨cp, rfl, hb', h | h⟩
    · rw [h.2]; exact ⟨rfl, hb'⟩
    · rw [hd] at h; exact absurd h.1 (by decide)
  | true =>
    refine total_in o kv fv a b d w (Lib.hid fun W bb => (may_any o ks kv fv W hmm hm ((hk.keep bb (Nat.le_refl _)).mono bb.size)).mono ?_)
    rintro e w' ⟨cp, rfl, hb', h | ⟨_, P, gg, cap, D, rfl, hD, _, _, K⟩⟩
    · rw [hd] at h; exact absurd h.1 (by decide)
    · exact mayK_of a b d hd hD hkl K ha hb hdd hb' ((T.below bb).below hb')
end
end Go.Proofs.YtgpcmlbmmcnkjaaGreatDoor
