/- The tree of losers: rise. -/
import Derived.Test.YtjlcbhblpofjhaaWi
namespace Go.Proofs.Ytjlcbhblpofjhaa
open Go.RowKit
set_option maxRecDepth 100000
/-- The new one meets those on its way to the top: who loses nowhere now. -/
def riseM {σ : Type} (E : Env σ) : Nat → Nat → Nat → TS σ → Nat × TS σ
  | 0, _, s, T => (s, T)
  | f + 1, n, s, T =>
    if n = 0 then (s, T) else
      if (aheadM E T (T.L n) s).1 = true then riseM E f (n / 2) (T.L n) { (aheadM E T (T.L n) s).2 with L := upN (aheadM E T (T.L n) s).2.L n s } else riseM E f (n / 2) s (aheadM E T (T.L n) s).2
theorem riseM_zero {σ : Type} {E : Env σ} {f s : Nat} {T : TS σ} : riseM E f 0 s T = (s, T) := by
  cases f with
  | zero => rfl
  | succ f => rw [riseM, if_pos rfl]
theorem riseM_up {σ : Type} {E : Env σ} {f n s : Nat} {T T' : TS σ} (h : n ≠ 0) (a : aheadM E T (T.L n) s = (true, T')) : riseM E (f + 1) n s T = riseM E f (n / 2) (T.L n) { T' with L := upN T'.L n s } := by
  rw [riseM, if_neg h, a]; rfl
theorem riseM_stay {σ : Type} {E : Env σ} {f n s : Nat} {T T' : TS σ} (h : n ≠ 0) (a : aheadM E T (T.L n) s = (false, T')) : riseM E (f + 1) n s T = riseM E f (n / 2) s T' := by
  rw [riseM, if_neg h, a]; rfl
def RiseR {σ : Type} (E : Env σ) (G : Geo) (busy : Bool) (w : World) (Y : Nat → Prop) (res : Nat × TS σ) (c0 : Nat) (vs vn : Value) (wr : World) : Prop :=
  ∃ (f n s : Nat) (T : TS σ) (Y' : Nat → Prop), vs = .int .i64 (s : Int) ∧ vn = .int .i64 (n : Int) ∧ n < G.k ∧ s < G.k ∧ n < 2 ^ f ∧ riseM E f n s T = res ∧ T.cmpd + f ≤ c0 ∧ TreeAt E G busy wr Y' T ∧ Moves w (own G Y) wr (own G Y')
set_option maxHeartbeats 4000000 in
theorem rise_ok {σ : Type} {E : Env σ} {G : Geo} {busy : Bool} {w : World} {Y : Nat → Prop} {T : TS σ} (ok : E.Ok G.k) (h : TreeAt E G busy w Y T) (s : Nat) (hs : s < G.k) (hb : T.cmpd + 7 ≤ 1099511627776) :
    Calls Try.prog 49 #[.pointer (some ⟨G.t, 0, none⟩), .int .i64 (s : Int)] w (StepR E G busy w Y (.int .i64 ((riseM E 7 ((G.k + s) / 2) s T).1 : Int)) (riseM E 7 ((G.k + s) / 2) s T).2) := by
  have HH := Lib.hid h
  have OK := Lib.hid ok
  have k64 := h.geo.k64
  have c1 := h.tree.cell 1 _ rfl
  have lt := h.tree.lt
  generalize hr : riseM E 7 ((G.k + s) / 2) s T = R
  have ST := Lib.hid (show RiseR E G busy w Y R (T.cmpd + 7) (.int .i64 (s : Int)) (.int .i64 (((G.k + s) / 2 : Nat) : Int)) w from ⟨7, (G.k + s) / 2, s, T, Y, rfl, rfl, by omega, hs, by omega, hr, Nat.le_refl _, h, Moves.refl _ _⟩)
  rw [show (((G.k + s) / 2 : Nat) : Int) = ((G.k : Int) + (s : Int)) / 2 by omega] at ST
  have HB := Lib.hid hb
  have i1 : (s : Int) < 64 := by omega
  have i2 : (0 : Int) ≤ (s : Int) := by omega
  have i3 : (G.k : Int) ≤ 64 := by omega
  have i4 : (0 : Int) ≤ (G.k : Int) := by omega
  clear h ok hr hb hs k64
  go_enter Try.func49, Try.ntmps49
  go_wp2_with fail
  go_loopw [1, 5] (fun vs vn wr => RiseR E G busy w Y R (T.cmpd + 7) vs vn wr) (fun _ vn _ => (intOf vn).toNat)
  case atStart => exact ST.out
  case round =>
    clear ST HH c1 lt i1 i2 i3 i4
    obtain ⟨f, n, s', T', Y', rfl, rfl, hn, hs', hnf, hres, hc, hT, hM⟩ := hrel
    have HT := Lib.hid hT
    have HM := Lib.hid hM
    have HRES := Lib.hid hres
    have HC := Lib.hid hc
    have HN := Lib.hid hn
    have HS := Lib.hid hs'
    clear hT hM hres hc hs'
    by_cases h0 : n = 0
    · subst h0
      have t1 : decide ((0 : Int) < ((0 : Nat) : Int)) = false := by decide
      have FIN := Lib.hid (show (s', T') = R by rw [← HRES.out, riseM_zero])
      go_wp2_with fail
      go_ret
      rw [← FIN.out]
      exact ⟨rfl, Y', HT.out, HM.out⟩
    · have t1 : decide ((0 : Int) < (n : Int)) = true := decide_eq_true (by omega)
      have t1n : decide (0 < n) = true := decide_eq_true (by omega)
      obtain ⟨f, rfl⟩ : ∃ g, f = g + 1 := by
        cases f with
        | zero => simp at hnf; exact absurd hnf h0
        | succ f => exact ⟨f, rfl⟩
      have hl := HT.out.lok n hn
      have c3 := HT.out.tree.cell 3 _ rfl
      have l0 := HT.out.l0 n hn
      have lt := HT.out.tree.lt
      have ll := HT.out.llt
      have AH := Lib.hid (ahead_ok OK.out HT.out (T'.L n) s' hl HS.out (by have := HC.out; have := HB.out; omega))
      have k64 := HT.out.geo.k64
      have i1 : (n : Int) < (G.k : Int) := by omega
      have i2 : (0 : Int) ≤ (n : Int) := by omega
      have i3 : (n : Int) < 64 := by omega
      rcases ea : aheadM E T' (T'.L n) s' with ⟨c, T2⟩
      rw [ea] at AH
      have am := ahead_more E T' (T'.L n) s'
      rw [ea] at am
      have AM := Lib.hid (show T2.cmpd ≤ T'.cmpd + 1 from am)
      have HL := Lib.hid hl
      have half : (n : Int) / 2 = ((n / 2 : Nat) : Int) := by omega
      have nf : n / 2 < 2 ^ f := by rw [Nat.pow_succ] at hnf; omega
      have NF := Lib.hid nf
      have HALF := Lib.hid half
      have ME := Lib.hid (show n / 2 < n by omega)
      cases c with
      | true =>
        have NX := Lib.hid ((riseM_up h0 ea).symm.trans HRES.out)
        clear am hl half nf ea hnf
        generalize T'.L n = o at *
        go_wp2_with fail
        refine AH.out.mono ?_
        rintro e w2 ⟨rfl, Y2, hT2, hM2⟩
        have S2 := Lib.hid hT2
        have M2 := Lib.hid (HM.out.trans hM2)
        clear hT2 hM2 AH HT HM c3 l0 lt ll
        have c3 := S2.out.tree.cell 3 _ rfl
        have l0 := S2.out.l0 n HN.out
        have lf := S2.out.lfree n
        have lt := S2.out.tree.lt
        have ll := S2.out.llt
        have S3 := Lib.hid (S2.out.setL OK.out n s' HN.out HS.out)
        have M3 := Lib.hid (M2.out.set (a := ⟨G.lb, n, none⟩) (own_l G Y2) (.int .i64 (s' : Int)))
        go_wp2_with fail
        go_roundw
        case rel => exact ⟨f, n / 2, o, _, Y2, rfl, by rw [HALF.out], by have := ME.out; have := HN.out; omega, HL.out, NF.out, NX.out, by show T2.cmpd + f ≤ _; have := AM.out; have := HC.out; omega, S3.out, M3.out⟩
        case measure => have := ME.out; have := HALF.out; simp [intOf]; omega
      | false =>
        have NX := Lib.hid ((riseM_stay h0 ea).symm.trans HRES.out)
        clear am hl half nf ea hnf
        generalize T'.L n = o at *
        go_wp2_with fail
        refine AH.out.mono ?_
        rintro e w2 ⟨rfl, Y2, hT2, hM2⟩
        have S2 := Lib.hid hT2
        have M2 := Lib.hid (HM.out.trans hM2)
        clear hT2 hM2 AH HT HM c3 l0 lt ll
        go_wp2_with fail
        go_roundw
        case rel => exact ⟨f, n / 2, s', _, Y2, rfl, by rw [HALF.out], by have := ME.out; have := HN.out; omega, HS.out, NF.out, NX.out, by have := AM.out; have := HC.out; omega, S2.out, M2.out⟩
        case measure => have := ME.out; have := HALF.out; simp [intOf]; omega
end Go.Proofs.Ytjlcbhblpofjhaa
