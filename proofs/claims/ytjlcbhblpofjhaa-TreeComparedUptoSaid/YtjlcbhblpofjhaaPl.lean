/- The tree of losers: play and take. -/
import Derived.Test.YtjlcbhblpofjhaaRi
namespace Go.Proofs.Ytjlcbhblpofjhaa
open Go.RowKit
set_option maxRecDepth 100000
/-- Who is first. -/
def playM {σ : Type} (E : Env σ) (k : Nat) (T : TS σ) : TS σ :=
  if T.played = true then { (riseM E 7 ((k + T.first) / 2) T.first { T with played := false }).2 with first := (riseM E 7 ((k + T.first) / 2) T.first { T with played := false }).1, played := true }
  else { (winM E k 7 1 { T with played := false }).2 with first := (winM E k 7 1 { T with played := false }).1, played := true }
theorem riseM_lt {σ : Type} {E : Env σ} {k : Nat} : ∀ (f n s : Nat) (T : TS σ), n < k → s < k → (∀ i, i < k → T.L i < k) → (riseM E f n s T).1 < k
  | 0, _, _, _, _, hs, _ => hs
  | f + 1, n, s, T, hn, hs, hl => by
    by_cases h0 : n = 0
    · subst h0; rw [riseM_zero]; exact hs
    · have L2 : (aheadM E T (T.L n) s).2.L = T.L := by unfold aheadM; split <;> rfl
      rw [riseM, if_neg h0]
      split
      · refine riseM_lt f (n / 2) _ _ (by omega) (hl n hn) fun i hi => ?_
        show upN _ n s i < k
        by_cases e : i = n
        · subst e; rw [upN_same]; exact hs
        · rw [upN_other _ _ _ _ e, L2]; exact hl i hi
      · exact riseM_lt f (n / 2) s _ (by omega) hs fun i hi => by rw [L2]; exact hl i hi
def PlayR {σ : Type} (E : Env σ) (G : Geo) (busy : Bool) (w : World) (Y : Nat → Prop) (T' : TS σ) (e : Ending) (w' : World) : Prop := e = .returned (.tuple #[]) ∧ ∃ Y', TreeAt E G busy w' Y' T' ∧ Moves w (own G Y) w' (own G Y')
set_option maxHeartbeats 4000000 in
theorem play_ok {σ : Type} {E : Env σ} {G : Geo} {busy : Bool} {w : World} {Y : Nat → Prop} {T : TS σ} (ok : E.Ok G.k) (h : TreeAt E G busy w Y T) (hb : T.cmpd + 128 ≤ 1099511627776) :
    Calls Try.prog 42 #[.pointer (some ⟨G.t, 0, none⟩)] w (PlayR E G busy w Y (playM E G.k T)) := by
  have HH := Lib.hid h
  have OK := Lib.hid ok
  have c5 := h.tree.cell 5 _ rfl
  have f5 := h.tree.free 5
  have lt := h.tree.lt
  have k64 := h.geo.k64
  have k0 := h.geo.k0
  have H1 := Lib.hid (show TreeAt E G busy (w.setCell ⟨G.t, 5, none⟩ (.bool false)) Y { T with played := false } from h.setT ok 5 _ _ (by unfold treeC; simp) (by omega) rfl rfl rfl h.fst)
  have M1 := Lib.hid ((Moves.refl w (own G Y)).set (a := ⟨G.t, 5, none⟩) (own_t G Y) (.bool false))
  have HF := Lib.hid h.fst
  cases hp : T.played with
  | true =>
    rw [hp] at c5
    have E1 : playM E G.k T = { (riseM E 7 ((G.k + T.first) / 2) T.first { T with played := false }).2 with first := (riseM E 7 ((G.k + T.first) / 2) T.first { T with played := false }).1, played := true } := by unfold playM; rw [if_pos hp]
    rw [E1]
    have R1 := Lib.hid (rise_ok ok H1.out T.first h.fst (show T.cmpd + 7 ≤ _ by omega))
    have FL := Lib.hid (riseM_lt (E := E) 7 ((G.k + T.first) / 2) T.first { T with played := false } (by have := h.fst; omega) h.fst (fun i hi => h.lok i hi))
    generalize riseM E 7 ((G.k + T.first) / 2) T.first { T with played := false } = q at R1 FL ⊢
    obtain ⟨fs, T2⟩ := q
    change Hid (Calls Try.prog 49 #[.pointer (some ⟨G.t, 0, none⟩), .int .i64 (T.first : Int)] (w.setCell ⟨G.t, 5, none⟩ (.bool false)) (StepR E G busy (w.setCell ⟨G.t, 5, none⟩ (.bool false)) Y (.int .i64 (fs : Int)) T2)) at R1
    change Hid (fs < G.k) at FL
    clear E1 h ok hp hb k0 k64
    go_enter Try.func42, Try.ntmps42
    go_upto_region 3 with fail
    clear c5 f5
    generalize w.setCell ⟨G.t, 5, none⟩ (.bool false) = x1 at H1 M1 R1 ⊢
    have c4 := H1.out.tree.cell 4 _ rfl
    have lt := H1.out.tree.lt
    go_wp2_with fail
    refine R1.out.mono ?_
    rintro e w2 ⟨rfl, Y2, t2, m2⟩
    have S2 := Lib.hid t2
    have M2 := Lib.hid (M1.out.trans m2)
    clear t2 m2 c4 H1 M1 R1
    have f4 := S2.out.tree.free 4
    have f5 := S2.out.tree.free 5
    have c4 := S2.out.tree.cell 4 _ rfl
    have c5 := S2.out.tree.cell 5 _ rfl
    have lt := S2.out.tree.lt
    have S3 := Lib.hid (show TreeAt E G busy (w2.setCell ⟨G.t, 4, none⟩ (.int .i64 (fs : Int))) Y2 { T2 with first := fs } from S2.out.setT OK.out 4 _ _ (by unfold treeC; simp) (by omega) rfl rfl rfl FL.out)
    have S4 := Lib.hid (show TreeAt E G busy ((w2.setCell ⟨G.t, 4, none⟩ (.int .i64 (fs : Int))).setCell ⟨G.t, 5, none⟩ (.bool true)) Y2 { T2 with first := fs, played := true } from S3.out.setT OK.out 5 _ _ (by unfold treeC; simp) (by omega) rfl rfl rfl FL.out)
    have M4 := Lib.hid ((M2.out.set (a := ⟨G.t, 4, none⟩) (own_t G Y2) (.int .i64 (fs : Int))).set (a := ⟨G.t, 5, none⟩) (own_t G Y2) (.bool true))
    go_wp2_with fail
    go_end0
    exact ⟨rfl, Y2, S4.out, M4.out⟩
  | false =>
    rw [hp] at c5
    have E1 : playM E G.k T = { (winM E G.k 7 1 { T with played := false }).2 with first := (winM E G.k 7 1 { T with played := false }).1, played := true } := by unfold playM; rw [if_neg (by rw [hp]; decide)]
    rw [E1]
    have R1 := Lib.hid (winner_ok (busy := busy) ok 7 1 { T with played := false } (w.setCell ⟨G.t, 5, none⟩ (.bool false)) Y (by omega) (by omega) (by omega) (show T.cmpd + 2 ^ 7 ≤ _ by omega) H1.out)
    have FL := Lib.hid (winM_lt (E := E) (k := G.k) 7 1 { T with played := false } (by omega) (by omega) (by omega)).1
    generalize winM E G.k 7 1 { T with played := false } = q at R1 FL ⊢
    obtain ⟨fs, T2⟩ := q
    change Hid (Calls Try.prog 50 #[.pointer (some ⟨G.t, 0, none⟩), .int .i64 1] (w.setCell ⟨G.t, 5, none⟩ (.bool false)) (StepR E G busy (w.setCell ⟨G.t, 5, none⟩ (.bool false)) Y (.int .i64 (fs : Int)) T2)) at R1
    change Hid (fs < G.k) at FL
    clear E1 h ok hp hb k0 k64
    go_enter Try.func42, Try.ntmps42
    go_upto_region 4 with fail
    clear c5 f5
    generalize w.setCell ⟨G.t, 5, none⟩ (.bool false) = x1 at H1 M1 R1 ⊢
    have c4 := H1.out.tree.cell 4 _ rfl
    have lt := H1.out.tree.lt
    go_wp2_with fail
    refine R1.out.mono ?_
    rintro e w2 ⟨rfl, Y2, t2, m2⟩
    have S2 := Lib.hid t2
    have M2 := Lib.hid (M1.out.trans m2)
    clear t2 m2 c4 H1 M1 R1
    have f4 := S2.out.tree.free 4
    have f5 := S2.out.tree.free 5
    have c4 := S2.out.tree.cell 4 _ rfl
    have c5 := S2.out.tree.cell 5 _ rfl
    have lt := S2.out.tree.lt
    have S3 := Lib.hid (show TreeAt E G busy (w2.setCell ⟨G.t, 4, none⟩ (.int .i64 (fs : Int))) Y2 { T2 with first := fs } from S2.out.setT OK.out 4 _ _ (by unfold treeC; simp) (by omega) rfl rfl rfl FL.out)
    have S4 := Lib.hid (show TreeAt E G busy ((w2.setCell ⟨G.t, 4, none⟩ (.int .i64 (fs : Int))).setCell ⟨G.t, 5, none⟩ (.bool true)) Y2 { T2 with first := fs, played := true } from S3.out.setT OK.out 5 _ _ (by unfold treeC; simp) (by omega) rfl rfl rfl FL.out)
    have M4 := Lib.hid ((M2.out.set (a := ⟨G.t, 4, none⟩) (own_t G Y2) (.int .i64 (fs : Int))).set (a := ⟨G.t, 5, none⟩) (own_t G Y2) (.bool true))
    go_wp2_with fail
    go_end0
    exact ⟨rfl, Y2, S4.out, M4.out⟩
end Go.Proofs.Ytjlcbhblpofjhaa
