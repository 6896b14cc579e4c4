/- A rising copy. -/
import Derived.Test.YthajgfldjjgkiaaPt
import Derived.Test.YthajgfldjjgkiaaGr
namespace Go.Proofs.Ythajgfldjjgkiaa
open Go.RowKit
set_option maxRecDepth 100000

theorem OwnI.form {w : World} {v : Value} {l : List Int} (h : OwnI w v l) : (v = .slice none 0 0 ∧ l = []) ∨ ∃ g cap, v = .slice (some ⟨g, 0, none⟩) l.length cap := by
  rcases h.2 with ⟨rfl, hn⟩ | ⟨g, cap, cur, hv, _⟩
  · exact Or.inl ⟨rfl, List.eq_nil_of_length_eq_zero hn⟩
  · exact Or.inr ⟨g, cap, hv⟩
def SoR (w : World) (l : List Int) (v3 v4 : Value) (wr : World) : Prop := ∃ (i : Nat) (vi : Value), vi = v3 ∧ v4 = .int .i64 (i : Int) ∧ i ≤ l.length ∧ OwnI wr vi (srt (l.take i)) ∧ Below w.heap.size w wr ∧ (∀ b, vi.ownBlock = some b → w.heap.size ≤ b)
def SortdR (w : World) (l : List Int) (e : Ending) (w' : World) : Prop := ∃ v, e = .returned v ∧ OwnI w' v (srt l) ∧ Below w.heap.size w w'
set_option maxHeartbeats 6400000 in
theorem sorted_ok {w : World} {v : Value} {l : List Int} (hv : SlI w v l) (hl : l.length ≤ 100000) : Calls Try.prog 28 #[v] w (SortdR w l) := by
  have HV := Lib.hid hv
  obtain ⟨a, c, rfl, hc, hc2⟩ := hv.form
  clear hv
  have ST := Lib.hid (show SoR w l (.slice none 0 0) (.int .i64 0) w from ⟨0, _, rfl, rfl, Nat.zero_le _, by rw [List.take_zero, show srt [] = [] from by simp [srt]]; exact OwnI.nil w, Below.refl _ _, fun b hb => by cases hb⟩)
  go_enter Try.func28, Try.ntmps28
  go_wp2_with fail
  go_loopw [3, 4] (fun v3 v4 wr => SoR w l v3 v4 wr) (fun _ v4 _ => l.length - (intOf v4).toNat)
  case atStart => exact ST.out
  case round =>
    clear ST
    obtain ⟨i, v3, rfl, rfl, hi, ho, hb, hf⟩ := hrel
    have O := Lib.hid ho
    have B := Lib.hid hb
    have FR := Lib.hid hf
    clear ho hb hf
    obtain ⟨wo, rfl⟩ : ∃ wo, wo = wr := ⟨wr, rfl⟩
    by_cases hlt : i < l.length
    · have t1 : decide ((i : Int) < (l.length : Int)) = true := decide_eq_true (by omega)
      have t1n : decide (i < l.length) = true := decide_eq_true hlt
      have ii : (i : Int) < (l.length : Int) := by omega
      have ii0 : (0 : Int) ≤ (i : Int) := by omega
      obtain ⟨sb, so, sc, e5, _, l5, g5⟩ := SlI.ne (HV.out.below B.out) (by rintro rfl; exact absurd hlt (Nat.not_lt_zero _))
      injection e5 with e5 _ e6
      subst e5 e6
      have q1 := g5 i hlt
      have LN := Lib.hid (show (srt (l.take i)).length = i by rw [srt_len, List.length_take]; omega)
      have NXT := Lib.hid (show l.take (i + 1) = l.take i ++ [l[i]] from List.take_succ_eq_append_getElem hlt)
      clear g5
      generalize l[i] = x at *
      have H1 := Lib.hid (show OwnI (wo.alloc (.cells #[.int .i64 x] 3)) v3 (srt (l.take i)) from O.out.below (below_alloc wo _))
      have N1 := Lib.hid (BlkAt.new wo [.int .i64 x] 3)
      obtain ⟨m, hm⟩ : ∃ m, m = srt (l.take i) := ⟨_, rfl⟩
      have HM := Lib.hid hm
      rw [← hm] at H1 LN O
      have hml : m.length ≤ 100000 := by have := LN.out; omega
      clear hm
      go_wp2_with (at_builtin; refine wp_apI rfl _ _ rfl v3 m rfl H1.out ⟨wo.heap.size, 0, none⟩ 1 1 [x] rfl rfl (by omega) (fun j hj => by
        have : j = 0 := by simp at hj; omega
        subst this
        exact N1.out.cell 0 _ rfl) (by omega) ?_; intro g cap w1 h1 h2 h3)
      have ST := Lib.hid (show PtAt wo w1 v3 m x g cap m.length from ⟨Nat.le_refl _, by rw [inA_end]; exact h1, by simp, (Kp.of _ (below_alloc wo _)).tr (h2.mono (fun _ _ e => e)), h3.imp id (fun e => by rw [e]; simp)⟩)
      clear h1 h2 h3 H1 N1 q1
      go_wp2_with fail
      have e9 : (m.length : Int) + 1 - 1 = (m.length : Int) := by omega
      go_loopw [5] (fun u wr => PtR wo v3 m x g cap u wr) (fun u _ => (intOf u).toNat)
      case atStart => exact ⟨m.length, by first | rfl | (congr 1), ST.out⟩
      case round =>
        clear ST e9
        obtain ⟨i2, rfl, hp⟩ := hrel
        have P := Lib.hid hp
        have hil := hp.le
        clear hp
        have FIN := Lib.hid (fun (hs : ∀ h : i2 - 1 < m.length, 0 < i2 → m[i2 - 1] ≤ x) (n : Nat) => show SoR w l (.slice (some ⟨g, 0, none⟩) (m.length + 1) cap) (.int .i64 ((i : Int) + 1)) (wr.drewN n) from by
          refine ⟨i + 1, _, rfl, by congr 1, hlt, ?_, ?_, fun b hb => ?_⟩
          · have hI : Ins (srt (l.take i)) x (inA m x i2) := by
              rw [← HM.out]
              exact ⟨i2, hil, rfl, P.out.big, hs⟩
            rw [NXT.out, ← hI.srt]
            exact P.out.own.below (below_drewN wr n)
          · have k1 := P.out.kp.below B.out.size FR.out
            exact (B.out.trans k1).trans ((below_drewN wr n).mono (Nat.le_trans B.out.size k1.size))
          · injection hb with hb
            subst hb
            rcases P.out.blk with h | h
            · exact FR.out _ h
            · exact Nat.le_trans B.out.size h)
        by_cases h0 : i2 = 0
        · have t0 : decide ((0 : Int) < (i2 : Int)) = false := decide_eq_false (by omega)
          have t0n : decide (0 < i2) = false := decide_eq_false (by omega)
          have FI := Lib.hid (FIN.out (fun _ h => absurd h (by omega)))
          clear FIN h0
          go_wp2_with fail
          go_quiet (fail)
          go_wp2_with fail
          go_roundw
          case rel => exact FI.out _
          case measure => simp [intOf]; omega
        · obtain ⟨j, hj⟩ : ∃ j, i2 = j + 1 := ⟨i2 - 1, by omega⟩
          have t0 : decide ((0 : Int) < (i2 : Int)) = true := decide_eq_true (by omega)
          have t0n : decide (0 < i2) = true := decide_eq_true (by omega)
          have hjl : j < m.length := by omega
          have own := P.out.own
          have ci := own.cell i2 x (inA_at m x i2 hil)
          have cj := own.cell j m[j] (by rw [hj]; exact inA_ahead m x j hjl)
          have lg := own.lt'
          have fi := own.free i2
          have fj := own.free j
          have ik : (i2 : Int) < (m.length : Int) + 1 := by omega
          have ik0 : (0 : Int) ≤ (i2 : Int) := by omega
          have jk : (j : Int) < (m.length : Int) + 1 := by omega
          have jk0 : (0 : Int) ≤ (j : Int) := by omega
          have e3 : IntKind.i64.wrap ((i2 : Int) - 1) = (j : Int) := by rw [show (i2 : Int) - 1 = (j : Int) by omega]; exact IntWalk.i64_in _ (by omega)
          have e4 : (i2 : Int) - 1 = (j : Int) := by omega
          have NX := Lib.hid (fun n => (((P.out.own.below (below_drewN wr n)).set i2 m[j])).set j x)
          have ES := Lib.hid (show ((inA m x i2).set i2 m[j]).set j x = inA m x j by rw [hj]; exact inA_step m x j hjl)
          have DJ := Lib.hid (show x < m[j] → ∀ y ∈ m.drop j, x < y from fun h y hy => by
            rw [List.drop_eq_getElem_cons hjl] at hy
            rcases List.mem_cons.1 hy with rfl | hy
            · exact h
            · exact P.out.big y (by rw [hj]; exact hy))
          have FJ := Lib.hid (show m[j] ≤ x → ∀ n, SoR w l (.slice (some ⟨g, 0, none⟩) (m.length + 1) cap) (.int .i64 ((i : Int) + 1)) (wr.drewN n) from fun h => FIN.out (fun h1 h2 => by
            have : i2 - 1 = j := by omega
            simp only [this]; exact h))
          have MJ := Lib.hid (show j < i2 by omega)
          have HJ := Lib.hid hj
          have KN := Lib.hid (fun n => (P.out.kp.tr (Kp.of _ (below_drewN wr n))))
          have BK := Lib.hid P.out.blk
          clear FIN h0 hj own
          generalize m[j] = y at *
          by_cases hxy : x < y
          · have t2 : decide (x < y) = true := decide_eq_true hxy
            have DJ2 := Lib.hid (DJ.out hxy)
            clear DJ FJ hxy
            go_wp2_with fail
            go_quiet (fail)
            have Own := Lib.hid (NX.out nq)
            rw [ES.out] at Own
            have Kn := Lib.hid (KN.out nq)
            have ci2 : (wr.drewN nq).cell? ⟨g, i2, none⟩ = some (.int .i64 x) := ci
            have cj2 : (wr.drewN nq).cell? ⟨g, j, none⟩ = some (.int .i64 y) := cj
            have fi2 : (wr.drewN nq).frozen? ⟨g, i2, none⟩ = false := fi
            have fj2 : (wr.drewN nq).frozen? ⟨g, j, none⟩ = false := fj
            have lg2 : g < (wr.drewN nq).heap.size := lg
            have KW := Lib.hid (show v3.ownBlock = some g ∨ wo.heap.size ≤ g → Kp wo (((wr.drewN nq).setCell ⟨g, i2, none⟩ (.int .i64 y)).setCell ⟨g, j, none⟩ (.int .i64 x)) (fun k => v3.ownBlock = some k) from fun hb => (KN.out nq).trans ((Kp.set _ g i2 _).tr (Kp.set _ g j _)) (fun _ _ e => e) (fun z hz e => by
              rcases hb with h | h
              · rw [e]; exact h
              · omega) )
            have KW := Lib.hid (KW.out BK.out)
            clear ci cj fi fj lg NX KN
            generalize wr.drewN nq = wq at *
            have nij : ¬ i2 = j := by have := MJ.out; omega
            have nji : ¬ j = i2 := by have := MJ.out; omega
            go_wp2_with fail
            go_roundw
            case rel => exact ⟨j, rfl, ⟨by omega, Own.out, DJ2.out, KW.out, BK.out⟩⟩
            case measure => have := MJ.out; simp [intOf]; omega
          · have t2 : decide (x < y) = false := decide_eq_false hxy
            have FJ2 := Lib.hid (FJ.out (by omega))
            clear DJ FJ hxy
            go_wp2_with fail
            go_quiet (fail)
            go_wp2_with fail
            go_roundw
            case rel => exact FJ2.out _
            case measure => simp [intOf]; omega
    · have t1 : decide ((i : Int) < (l.length : Int)) = false := decide_eq_false (by omega)
      have t1n : decide (i < l.length) = false := decide_eq_false hlt
      have F := Lib.hid (show SortdR w l (.returned v3) wo from ⟨v3, rfl, by have := O.out; rw [List.take_of_length_le (by omega)] at this; exact this, B.out⟩)
      go_wp2_with fail
      go_ret
      exact F.out
end Go.Proofs.Ythajgfldjjgkiaa
