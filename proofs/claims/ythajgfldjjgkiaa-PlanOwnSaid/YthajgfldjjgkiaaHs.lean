/- The heap: sink. -/
import Derived.Test.YthajgfldjjgkiaaHw
namespace Go.Proofs.Ythajgfldjjgkiaa
open Go.RowKit
set_option maxRecDepth 100000

/-- Which kid is ahead of all, so far. -/
def KidR (p m : Nat) (G : Nat → Rn) (w : World) (v4 v5 : Value) (wr : World) : Prop := ∃ f k : Nat, v4 = .int .i64 (f : Int) ∧ v5 = .int .i64 (k : Int) ∧ 2 * p + 1 ≤ k ∧ k ≤ 2 * p + 3 ∧ f < m ∧ (k ≤ 2 * p + 2 ∨ k ≤ m) ∧
  (f = p ∨ (ahd (G f) (G p) = true ∧ par f = p ∧ 0 < f)) ∧ (∀ c, 2 * p + 1 ≤ c → c < k → c < m → ahd (G c) (G f) = false) ∧ Below w.heap.size w wr
theorem SinkI.lt' {lo p : Nat} {F : Nat → Rn} {m : Nat} (h : SinkI lo p F m) : lo ≤ p := h.1
/-- Where it is. -/
def PlR (lo m N g : Nat) (F : Nat → Rn) (w : World) (v1 : Value) (wr : World) : Prop := ∃ (p : Nat) (G : Nat → Rn), v1 = .int .i64 (p : Int) ∧ p < m ∧ SinkI lo p G m ∧ (∀ P, Cont F m P → Cont G m P) ∧ BlkAt wr g 70 (rnV G N) ∧ Kp w wr (fun k => k = g)
def SinkR (lo m N g : Nat) (F : Nat → Rn) (w : World) (e : Ending) (w' : World) : Prop := e = .returned (.tuple #[]) ∧ ∃ G, BlkAt w' g 70 (rnV G N) ∧ Sunk lo F G m ∧ Kp w w' (fun k => k = g)
set_option maxHeartbeats 4000000 in
theorem sink_ok {w : World} {g N m lo : Nat} {F : Nat → Rn} (hb : BlkAt w g 70 (rnV F N)) (hm : m ≤ N) (hl : lo < m) (hN : N ≤ 65536) (hh : Heap (lo + 1) F m) :
    Calls Try.prog 43 #[.slice (some ⟨g, 0, none⟩) m N, .int .i64 (lo : Int)] w (SinkR lo m N g F w) := by
  have ST := Lib.hid (show PlR lo m N g F w (.int .i64 (lo : Int)) w from ⟨lo, F, rfl, hl, SinkI.start hh, fun _ h => h, hb, Kp.refl _ _⟩)
  clear hb hh
  go_enter Try.func43, Try.ntmps43
  go_wp2_with fail
  go_loopw [1] (fun v1 wr => PlR lo m N g F w v1 wr) (fun v1 _ => m - (intOf v1).toNat)
  case atStart => exact ST.out
  case round =>
    clear ST
    obtain ⟨p, G, rfl, hp, hs, hc, hb, hk⟩ := hrel
    have HS := Lib.hid hs
    have HC := Lib.hid hc
    have HB := Lib.hid hb
    have HK := Lib.hid hk
    have hlp := hs.lt'
    have HPN := Lib.hid (show p < N by omega)
    clear hs hc hb hk
    obtain ⟨wo, rfl⟩ : ∃ wo, wo = wr := ⟨wr, rfl⟩
    have KS := Lib.hid (show KidR p m G wo (.int .i64 (p : Int)) (.int .i64 ((2 * p + 1 : Nat) : Int)) wo from ⟨p, 2 * p + 1, rfl, rfl, Nat.le_refl _, by omega, hp, by omega, Or.inl rfl, fun c h1 h2 => by omega, Below.refl _ _⟩)
    have e1 : IntKind.i64.wrap (2 * (p : Int) + 1) = 2 * (p : Int) + 1 := IntWalk.i64_in _ (by omega)
    go_wp2_with fail
    go_loopw [4, 5] (fun v4 v5 wr => KidR p m G wo v4 v5 wr) (fun _ v5 _ => 2 * p + 3 - (intOf v5).toNat)
    case atStart => exact KS.out
    case round =>
      clear KS
      obtain ⟨f, k, rfl, rfl, hk1, hk2, hf, hkm, hfp, hkid, hbel⟩ := hrel
      have FP := Lib.hid hfp
      have KID := Lib.hid hkid
      have BEL := Lib.hid hbel
      have B2 := Lib.hid (HB.out.below hbel)
      clear hfp hkid hbel e1
      have i0 : (0 : Int) ≤ (p : Int) := by omega
      have e2 : IntKind.i64.wrap (2 * (p : Int) + 2) = 2 * (p : Int) + 2 := IntWalk.i64_in _ (by omega)
      by_cases hgo : k ≤ 2 * p + 2 ∧ k < m
      · obtain ⟨hg1, hg2⟩ := hgo
        have t1 : decide ((k : Int) ≤ 2 * (p : Int) + 2) = true := decide_eq_true (by omega)
        have t2 : decide ((k : Int) < (m : Int)) = true := decide_eq_true (by omega)
        have t2n : decide (k < m) = true := decide_eq_true hg2
        have ck := B2.out.cell (k * 2) _ (rnV_at G N k (by omega)).1
        have ck' := B2.out.cell (k * 2 + 1) _ (rnV_at G N k (by omega)).2
        have cf := B2.out.cell (f * 2) _ (rnV_at G N f (by omega)).1
        have cf' := B2.out.cell (f * 2 + 1) _ (rnV_at G N f (by omega)).2
        have lg := B2.out.lt
        have AH := Lib.hid (fun W : World => ahead_ok (G k) (G f) W)
        have ik : (k : Int) < (m : Int) := by omega
        have ik0 : (0 : Int) ≤ (k : Int) := by omega
        have jf : (f : Int) < (m : Int) := by omega
        have jf0 : (0 : Int) ≤ (f : Int) := by omega
        have ME := Lib.hid (show 2 * p + 3 - ((k : Int) + 1).toNat < 2 * p + 3 - (k : Int).toNat by omega)
        cases hak : ahd (G k) (G f) with
        | true =>
          have NX := Lib.hid (show ∀ w2, Below wo.heap.size wo w2 → KidR p m G wo (.int .i64 (k : Int)) (.int .i64 ((k : Int) + 1)) w2 from fun w2 hb2 => by
            refine ⟨k, k + 1, rfl, by congr 1, by omega, by omega, by omega, by omega, Or.inr ⟨?_, ?_, by omega⟩, fun c h1 h2 h3 => ?_, hb2⟩
            · rcases FP.out with e | ⟨h1, _, _⟩
              · rw [← e]; exact hak
              · rw [← Bool.not_eq_false]
                intro h2
                rcases (ahd_iff _ _).1 hak with a | a <;> rcases (ahd_iff _ _).1 h1 with b | b <;> rcases (ahd_false _ _).1 h2 with c | c <;> omega
            · rw [par_kid (by omega)]; omega
            · by_cases e : c = k
              · subst e; exact ahd_self _
              · exact ahd_trans (KID.out c h1 (by omega) h3) (ahd_asymm hak))
          rw [hak] at AH
          clear hak
          generalize G k = x at *
          generalize G f = y at *
          go_wp2_with fail
          go_region_held3 (fun w' => w'.cell? ⟨g, k * 2, none⟩ = some (.int .i64 (x.wt : Int)) ∧ w'.cell? ⟨g, k * 2 + 1, none⟩ = some (.int .i64 (x.num : Int)) ∧ w'.cell? ⟨g, f * 2, none⟩ = some (.int .i64 (y.wt : Int)) ∧ w'.cell? ⟨g, f * 2 + 1, none⟩ = some (.int .i64 (y.num : Int)))
            (first | go_keep | exact ⟨((bcell hb3).1 g _ lg).trans ck, ((bcell hb3).1 g _ lg).trans ck', ((bcell hb3).1 g _ lg).trans cf, ((bcell hb3).1 g _ lg).trans cf'⟩)
            ((go_at_call 47; refine (AH.out _).mono ?_; rintro e w3 ⟨rfl, hb3⟩))
          all_goals
            clear ck ck' cf cf'
            go_wp2_with fail
            go_roundw
            case rel => exact NX.out _ (BEL.out.drew.trans (hb3.mono BEL.out.size))
            case measure => exact ME.out
        | false =>
          have NX := Lib.hid (show ∀ w2, Below wo.heap.size wo w2 → KidR p m G wo (.int .i64 (f : Int)) (.int .i64 ((k : Int) + 1)) w2 from fun w2 hb2 => by
            refine ⟨f, k + 1, rfl, by congr 1, by omega, by omega, by omega, by omega, FP.out, fun c h1 h2 h3 => ?_, hb2⟩
            by_cases e : c = k
            · subst e; exact hak
            · exact KID.out c h1 (by omega) h3)
          rw [hak] at AH
          clear hak
          generalize G k = x at *
          generalize G f = y at *
          go_wp2_with fail
          go_region_held3 (fun w' => w'.cell? ⟨g, k * 2, none⟩ = some (.int .i64 (x.wt : Int)) ∧ w'.cell? ⟨g, k * 2 + 1, none⟩ = some (.int .i64 (x.num : Int)) ∧ w'.cell? ⟨g, f * 2, none⟩ = some (.int .i64 (y.wt : Int)) ∧ w'.cell? ⟨g, f * 2 + 1, none⟩ = some (.int .i64 (y.num : Int)))
            (first | go_keep | exact ⟨((bcell hb3).1 g _ lg).trans ck, ((bcell hb3).1 g _ lg).trans ck', ((bcell hb3).1 g _ lg).trans cf, ((bcell hb3).1 g _ lg).trans cf'⟩)
            ((go_at_call 47; refine (AH.out _).mono ?_; rintro e w3 ⟨rfl, hb3⟩))
          all_goals
            clear ck ck' cf cf'
            go_wp2_with fail
            go_roundw
            case rel => exact NX.out _ (BEL.out.drew.trans (hb3.mono BEL.out.size))
            case measure => exact ME.out
      · have KD := Lib.hid (show ∀ c, 0 < c → c < m → par c = p → ahd (G c) (G f) = false from fun c h0 hcm hcp => KID.out c (by rw [par_kid h0] at hcp; omega) (by rw [par_kid h0] at hcp; omega) hcm)
        by_cases hfp : f = p
        · subst hfp
          have FIN := Lib.hid (show SinkR lo m N g F w (.returned (.tuple #[])) wr from ⟨rfl, G, B2.out, ⟨HS.out.done KD.out, HC.out⟩, HK.out.tr (Kp.of _ BEL.out)⟩)
          have ef : decide ((f : Int) = (f : Int)) = true := decide_eq_true rfl
          have eg : ((f : Int) == (f : Int)) = true := beq_self_eq_true _
          by_cases h1 : k ≤ 2 * f + 2
          · have t1 : decide ((k : Int) ≤ 2 * (f : Int) + 2) = true := decide_eq_true (by omega)
            have t2 : decide ((k : Int) < (m : Int)) = false := decide_eq_false (by omega)
            have t2n : decide (k < m) = false := decide_eq_false (by omega)
            clear hgo
            go_wp2_with fail
            go_end0
            exact FIN.out
          · have t1 : decide ((k : Int) ≤ 2 * (f : Int) + 2) = false := decide_eq_false (by omega)
            clear hgo
            go_wp2_with fail
            go_end0
            exact FIN.out
        · have NX := Lib.hid (show ∀ w2, BlkAt w2 g 70 (rnV (swp G p f) N) → Kp wr w2 (fun k => k = g) → PlR lo m N g F w (.int .i64 (f : Int)) w2 from fun w2 hb2 hk2 => by
            obtain ⟨h1, h2, h3⟩ := FP.out.resolve_left hfp
            exact ⟨f, swp G p f, rfl, hf, HS.out.step h3 hf h2 h1 KD.out, fun P hP => (HC.out P hP).swp hp hf, hb2, (HK.out.tr (Kp.of _ BEL.out)).tr hk2⟩)
          have ME := Lib.hid (show m - (f : Int).toNat < m - (p : Int).toNat by
            obtain ⟨h1, h2, h3⟩ := FP.out.resolve_left hfp
            have := par_lt h3
            omega)
          have SW := Lib.hid (blk_swap B2.out.drew p f (by omega) (by omega))
          have ef : decide ((f : Int) = (p : Int)) = false := decide_eq_false (by omega)
          have efn : decide (f = p) = false := decide_eq_false hfp
          have eg : ((f : Int) == (p : Int)) = false := by simp; omega
          have egn : (f == p) = false := by simp; omega
          have cp := B2.out.cell (p * 2) _ (rnV_at G N p (by omega)).1
          have cp' := B2.out.cell (p * 2 + 1) _ (rnV_at G N p (by omega)).2
          have cf := B2.out.cell (f * 2) _ (rnV_at G N f (by omega)).1
          have cf' := B2.out.cell (f * 2 + 1) _ (rnV_at G N f (by omega)).2
          have dp := B2.out.drew.cell (p * 2) _ (rnV_at G N p (by omega)).1
          have dp' := B2.out.drew.cell (p * 2 + 1) _ (rnV_at G N p (by omega)).2
          have df := B2.out.drew.cell (f * 2) _ (rnV_at G N f (by omega)).1
          have df' := B2.out.drew.cell (f * 2 + 1) _ (rnV_at G N f (by omega)).2
          have fz := B2.out.free
          have fz' := B2.out.drew.free
          have lg := B2.out.lt
          have ip : (p : Int) < (m : Int) := by omega
          have ip0 : (0 : Int) ≤ (p : Int) := by omega
          have jf : (f : Int) < (m : Int) := by omega
          have jf0 : (0 : Int) ≤ (f : Int) := by omega
          have n1 : ¬ p * 2 = f * 2 := by omega
          have n2 : ¬ f * 2 = p * 2 := by omega
          have n3 : ¬ p * 2 = f * 2 + 1 := by omega
          have n4 : ¬ f * 2 = p * 2 + 1 := by omega
          have n5 : ¬ p * 2 + 1 = f * 2 := by omega
          have n6 : ¬ f * 2 + 1 = p * 2 := by omega
          have n7 : ¬ p * 2 + 1 = f * 2 + 1 := by omega
          have n8 : ¬ f * 2 + 1 = p * 2 + 1 := by omega
          generalize G f = x at *
          generalize G p = y at *
          by_cases h1 : k ≤ 2 * p + 2
          · have t1 : decide ((k : Int) ≤ 2 * (p : Int) + 2) = true := decide_eq_true (by omega)
            have t2 : decide ((k : Int) < (m : Int)) = false := decide_eq_false (by omega)
            have t2n : decide (k < m) = false := decide_eq_false (by omega)
            clear hgo
            go_wp2_with fail
            go_region
            all_goals
              go_wp2_with fail
              go_roundw
              case rel => exact NX.out _ SW.out.1 ((Kp.of _ (below_drewN _ 1)).tr SW.out.2)
              case measure => exact ME.out
          · have t1 : decide ((k : Int) ≤ 2 * (p : Int) + 2) = false := decide_eq_false (by omega)
            clear hgo
            go_wp2_with fail
            go_region
            all_goals
              go_wp2_with fail
              go_roundw
              case rel => exact NX.out _ SW.out.1 ((Kp.of _ (below_drewN _ 1)).tr SW.out.2)
              case measure => exact ME.out
end Go.Proofs.Ythajgfldjjgkiaa
