/- What two queues reckon. -/
import Derived.Test.YthajgfldjjgkiaaSd
import Derived.Test.YthajgfldjjgkiaaQm
namespace Go.Proofs.Ythajgfldjjgkiaa
open Go.RowKit
set_option maxRecDepth 100000

theorem OwnI.form2 {w : World} {v : Value} {l : List Int} (h : OwnI w v l) : ∃ pa cap, v = .slice pa l.length cap := by
  rcases h.form with ⟨rfl, rfl⟩ | ⟨g, cap, rfl⟩
  · exact ⟨none, 0, rfl⟩
  · exact ⟨_, _, rfl⟩
theorem OwnI.some {w : World} {pa : Option Addr} {n cap : Nat} {l : List Int} (h : OwnI w (.slice pa n cap) l) (h0 : 0 < l.length) : ∃ g, pa = some ⟨g, 0, none⟩ := by
  rcases h.form with ⟨_, rfl⟩ | ⟨g, cap, e⟩
  · simp at h0
  · injection e with e _ _
    exact ⟨g, e⟩
def madeOf : Value → Nat
  | .slice _ n _ => n
  | _ => 0
structure GoAt (w wr : World) (W S : List Int) (f s i k : Nat) (vi : Value) : Prop where
  own : OwnI wr vi (madeL W f s)
  que : Que W S f s 0 i k
  bel : Below w.heap.size w wr
  new : ∀ b, vi.ownBlock = some b → w.heap.size ≤ b
def GoR (w : World) (W S : List Int) (f : Nat) (v6 v7 v8 v9 v10 : Value) (wr : World) : Prop := ∃ (s i k : Nat) (vi : Value), vi = v6 ∧ v7 = .int .i64 (i : Int) ∧ v8 = .int .i64 (k : Int) ∧ v9 = .int .i64 (sumZ (stepC W f) s) ∧ v10 = .int .i64 (tkn W.length f s : Int) ∧ s ≤ need W.length f ∧ GoAt w wr W S f s i k vi
def GiR (wo : World) (W S : List Int) (f s : Nat) (v6 : Value) (v7 v8 v11 v12 : Value) (wr : World) : Prop := ∃ (j i k : Nat), v7 = .int .i64 (i : Int) ∧ v8 = .int .i64 (k : Int) ∧ v11 = .int .i64 (pkS (mkA W f s) j) ∧ v12 = .int .i64 (j : Int) ∧ j ≤ tkn W.length f s ∧ OwnI wr v6 (madeL W f s) ∧ Que W S f s j i k ∧ Below wo.heap.size wo wr
set_option maxHeartbeats 16000000 in
theorem ground_ok {w : World} {v : Value} {W S : List Int} {f : Nat} (hv : SlI w v S) (hW : Wts W) (hf : 2 ≤ f) (hf2 : f ≤ 64) (hn : 2 ≤ W.length) (hn2 : W.length ≤ 2048) (hp : S.Perm W) (hr : Rise S) : Calls Try.prog 29 #[v, .int .i64 (f : Int)] w (fun e w' => e = .returned (.int .i64 (sumZ (stepC W f) (need W.length f))) ∧ Below w.heap.size w w') := by
  have HW := Lib.hid hW
  have HP := Lib.hid hp
  have HR := Lib.hid hr
  have hlen := hp.length_eq
  have TOT := Lib.hid hW.tot
  have ND := Lib.hid (show need W.length f + 1 ≤ W.length from need_le hf hn)
  have MK := Lib.hid (fun s (h : s ≤ need W.length f) => mk_ok hW hf hn s h)
  obtain ⟨sb, so, c, rfl, hc, lb, hcell⟩ := hv.get (by rintro rfl; simp at hlen; omega)
  have HC := Lib.hid hcell
  have hmod : ((W.length : Int) - 2) % ((f : Int) - 1) = (((W.length - 2) % (f - 1) : Nat) : Int) := by
    have e5 : (W.length : Int) - 2 = ((W.length - 2 : Nat) : Int) := by omega
    have e6 : (f : Int) - 1 = ((f - 1 : Nat) : Int) := by omega
    rw [e5, e6]
    rfl
  have STK := Lib.hid (show tkn W.length f 0 = 2 + (W.length - 2) % (f - 1) from if_pos rfl)
  have hrlt := Nat.mod_lt (W.length - 2) (show 0 < f - 1 by omega)
  have ST := Lib.hid (show GoR w W S f (.slice none 0 0) (.int .i64 0) (.int .i64 0) (.int .i64 0) (.int .i64 (tkn W.length f 0 : Int)) w from ⟨0, 0, 0, _, rfl, rfl, rfl, rfl, rfl, Nat.zero_le _, OwnI.nil w, Que.start hW hp, Below.refl _ _, fun b hb => by cases hb⟩)
  rw [STK.out] at ST
  generalize (W.length - 2) % (f - 1) = r at *
  have b0 : decide ((W.length : Int) = 1) = false := decide_eq_false (by omega)
  have b0b : ((W.length : Int) == 1) = false := by simp; omega
  have b0c : (W.length == 1) = false := by simp; omega
  have b1 : (W.length : Int) ≤ 65536 := by omega
  have b2 : (2 : Int) ≤ (W.length : Int) := by omega
  have hfn : ¬ (f : Int) - 1 = 0 := by omega
  clear hv hW hp hr hcell STK
  go_enter Try.func29, Try.ntmps29
  go_wp2_with fail
  go_loopw [6, 7, 8, 9, 10] (fun v6 v7 v8 v9 v10 wr => GoR w W S f v6 v7 v8 v9 v10 wr) (fun v6 v7 v8 v9 v10 wr => W.length - madeOf v6)
  case atStart => exact ST.out
  case round =>
    clear ST hmod hfn hrlt
    obtain ⟨s, i, k, vi, rfl, rfl, rfl, rfl, rfl, hs, hg⟩ := hrel
    have G := Lib.hid hg
    obtain ⟨pa, cap, hvi⟩ := hg.own.form2
    rw [madeL_len] at hvi
    subst hvi
    obtain ⟨m1, m2⟩ := hg.que.more HW.out hf hn hs
    have q1 := hg.que.hi
    have q2 := hg.que.hk
    rw [hlen] at m1 m2 q1
    clear hg
    obtain ⟨wo, rfl⟩ : ∃ wo, wo = wr := ⟨wr, rfl⟩
    have hs2 : s ≤ 2048 := by have := ND.out; omega
    have SC := Lib.hid (fun j (h : j ≤ s) => show 0 ≤ sumZ (stepC W f) j ∧ sumZ (stepC W f) j ≤ 2199023255552 * (j : Int) from by
      induction j with
      | zero => simp [sumZ]
      | succ j ih =>
        obtain ⟨a1, a2⟩ := ih (by omega)
        obtain ⟨k1, k2⟩ := MK.out j (by omega)
        obtain ⟨t1, t2⟩ := left_step (n := W.length) (fan := f) (s := j) hf hn (by omega)
        obtain ⟨_, p2, p3⟩ := pk_ok (A := mkA W f j) (i := tkn W.length f j) (by omega)
        have := tot_nonneg (pkA (mkA W f j) (tkn W.length f j))
        have := TOT.out
        have e : stepC W f j = pkS (mkA W f j) (tkn W.length f j) := rfl
        rw [sumZ, e]
        omega)
    by_cases hlt : s < need W.length f
    · have hm := m2.2 hlt
      have t1 : decide (1 < (W.length : Int) - (i : Int) + (s : Int) - (k : Int)) = true := decide_eq_true (by omega)
      obtain ⟨k1, k2⟩ := MK.out s hs
      obtain ⟨l1, l2⟩ := left_step (n := W.length) (fan := f) (s := s) hf hn hlt
      have htk := tkn_le W.length f s hf
      have htk2 := tkn_ge W.length f s hf
      have PK := Lib.hid (fun i (h : i ≤ tkn W.length f s) => show 0 ≤ pkS (mkA W f s) i ∧ pkS (mkA W f s) i ≤ 2199023255552 from by
        obtain ⟨_, p2, p3⟩ := pk_ok (A := mkA W f s) (i := i) (by omega)
        have := tot_nonneg (pkA (mkA W f s) i)
        have := TOT.out
        omega)
      have SI := Lib.hid (show GiR wo W S f s (.slice pa s cap) (.int .i64 (i : Int)) (.int .i64 (k : Int)) (.int .i64 0) (.int .i64 0) wo from ⟨0, i, k, rfl, rfl, rfl, rfl, Nat.zero_le _, G.out.own, G.out.que, Below.refl _ _⟩)
      have HTK := Lib.hid (show ∃ tk, tk = tkn W.length f s from ⟨_, rfl⟩)
      obtain ⟨tk, hTK⟩ := HTK.out
      have HTK := Lib.hid hTK
      rw [← hTK] at htk htk2 ⊢
      clear m1 m2 hm k1 k2 l1 l2 hTK
      go_wp2_with fail
      go_loopw [7, 8, 11, 12] (fun v7 v8 v11 v12 wr => GiR wo W S f s (.slice pa s cap) v7 v8 v11 v12 wr) (fun _ _ _ v12 _ => tk - (intOf v12).toNat)
      case atStart => exact SI.out
      case round =>
        clear SI
        obtain ⟨j, i, k, rfl, rfl, rfl, rfl, hj, ho, hq, hb⟩ := hrel
        rw [← HTK.out] at hj
        have O := Lib.hid ho
        have Q := Lib.hid hq
        have B := Lib.hid hb
        have q3 := hq.hi
        have q4 := hq.hk
        rw [hlen] at q3
        clear ho hq hb
        have KB := Lib.hid (G.out.bel.trans (B.out.mono G.out.bel.size))
        by_cases hjt : j < tk
        · have u1 : decide ((j : Int) < (tk : Int)) = true := decide_eq_true (by omega)
          have u1n : decide (j < tk) = true := decide_eq_true hjt
          have PI := Lib.hid (Q.out.pick HW.out hf hn hlt (by rw [← HTK.out]; exact hjt) HR.out)
          have pj := PK.out j (by rw [← HTK.out]; omega)
          have pj1 := PK.out (j + 1) (by rw [← HTK.out]; omega)
          obtain ⟨z, hz⟩ : ∃ z, z = pkS (mkA W f s) j := ⟨_, rfl⟩
          have HZ := Lib.hid hz
          rw [← hz] at pj ⊢
          clear hz
          by_cases hi : i < W.length
          · have hi' : i < S.length := by omega
            have cx := ((bcell KB.out).1 sb _ lb).trans (HC.out i hi')
            have ex : S.getD i 0 = S[i] := by simp [hi']
            have EX := Lib.hid ex
            have lw := Nat.lt_of_lt_of_le lb KB.out.size
            clear ex
            generalize S[i] = x at *
            have v1 : decide ((i : Int) < (W.length : Int)) = true := decide_eq_true (by omega)
            have v1n : decide (i < W.length) = true := decide_eq_true hi
            have ii : (i : Int) < (W.length : Int) := by omega
            have ii0 : (0 : Int) ≤ (i : Int) := by omega
            by_cases hk : k < s
            · obtain ⟨g, rfl⟩ := O.out.some (by rw [madeL_len]; omega)
              have cy := O.out.cell k _ (madeL_at hk)
              have lg := O.out.lt'
              obtain ⟨y, hy⟩ : ∃ y, y = stepC W f k := ⟨_, rfl⟩
              have HY := Lib.hid hy
              rw [← hy] at cy
              clear hy
              have v2 : decide ((s : Int) ≤ (k : Int)) = false := decide_eq_false (by omega)
              have v2n : decide (s ≤ k) = false := decide_eq_false (by omega)
              have kk : (k : Int) < (s : Int) := by omega
              have kk0 : (0 : Int) ≤ (k : Int) := by omega
              by_cases hxy : x ≤ y
              · have v3 : decide (x ≤ y) = true := decide_eq_true hxy
                obtain ⟨e1, qn⟩ := PI.out.1 hi' (fun _ => by rw [EX.out, ← HY.out]; exact hxy)
                rw [EX.out, ← HZ.out] at e1
                have E1 := Lib.hid e1
                rw [e1] at pj1
                have NX := Lib.hid (fun n => show GiR wo W S f s (.slice (some ⟨g, 0, none⟩) s cap) (.int .i64 ((i : Int) + 1)) (.int .i64 (k : Int)) (.int .i64 (z + x)) (.int .i64 ((j : Int) + 1)) (wr.drewN n) from ⟨j + 1, i + 1, k, by congr 1, rfl, by rw [E1.out], by congr 1, by rw [← HTK.out]; exact hjt, O.out.below (below_drewN wr n), qn, B.out.trans ((below_drewN wr n).mono B.out.size)⟩)
                clear PI qn e1 hxy
                go_wp2_with fail
                go_quiet (fail)
                have cx2 : (wr.drewN nq).cell? ⟨sb, so + i, none⟩ = some (.int .i64 x) := cx
                have lw2 : sb < (wr.drewN nq).heap.size := lw
                have NX := Lib.hid (NX.out nq)
                clear cx lw cy lg
                generalize wr.drewN nq = wq at *
                go_wp2_with fail
                go_roundw
                case rel => exact NX.out
                case measure => simp [intOf]; omega
              · have v3 : decide (x ≤ y) = false := decide_eq_false hxy
                obtain ⟨_, e1, qn⟩ := PI.out.2 (fun _ => ⟨hk, by rw [EX.out, ← HY.out]; omega⟩)
                rw [← HY.out, ← HZ.out] at e1
                have E1 := Lib.hid e1
                rw [e1] at pj1
                have NX := Lib.hid (fun n => show GiR wo W S f s (.slice (some ⟨g, 0, none⟩) s cap) (.int .i64 (i : Int)) (.int .i64 ((k : Int) + 1)) (.int .i64 (z + y)) (.int .i64 ((j : Int) + 1)) (wr.drewN n) from ⟨j + 1, i, k + 1, rfl, by congr 1, by rw [E1.out], by congr 1, by rw [← HTK.out]; exact hjt, O.out.below (below_drewN wr n), qn, B.out.trans ((below_drewN wr n).mono B.out.size)⟩)
                clear PI qn e1 hxy
                go_wp2_with fail
                go_quiet (fail)
                have cy2 : (wr.drewN nq).cell? ⟨g, k, none⟩ = some (.int .i64 y) := cy
                have lg2 : g < (wr.drewN nq).heap.size := lg
                have NX := Lib.hid (NX.out nq)
                clear cx lw cy lg
                generalize wr.drewN nq = wq at *
                go_wp2_with fail
                go_roundw
                case rel => exact NX.out
                case measure => simp [intOf]; omega
            · have v2 : decide ((s : Int) ≤ (k : Int)) = true := decide_eq_true (by omega)
              have v2n : decide (s ≤ k) = true := decide_eq_true (by omega)
              obtain ⟨e1, qn⟩ := PI.out.1 hi' (fun h => absurd h hk)
              rw [EX.out, ← HZ.out] at e1
              have E1 := Lib.hid e1
              rw [e1] at pj1
              have NX := Lib.hid (fun n => show GiR wo W S f s (.slice pa s cap) (.int .i64 ((i : Int) + 1)) (.int .i64 (k : Int)) (.int .i64 (z + x)) (.int .i64 ((j : Int) + 1)) (wr.drewN n) from ⟨j + 1, i + 1, k, by congr 1, rfl, by rw [E1.out], by congr 1, by rw [← HTK.out]; exact hjt, O.out.below (below_drewN wr n), qn, B.out.trans ((below_drewN wr n).mono B.out.size)⟩)
              clear PI qn e1
              go_wp2_with fail
              go_quiet (fail)
              have cx2 : (wr.drewN nq).cell? ⟨sb, so + i, none⟩ = some (.int .i64 x) := cx
              have lw2 : sb < (wr.drewN nq).heap.size := lw
              have NX := Lib.hid (NX.out nq)
              clear cx lw
              generalize wr.drewN nq = wq at *
              go_wp2_with fail
              go_roundw
              case rel => exact NX.out
              case measure => simp [intOf]; omega
          · have v1 : decide ((i : Int) < (W.length : Int)) = false := decide_eq_false (by omega)
            have v1n : decide (i < W.length) = false := decide_eq_false hi
            obtain ⟨hk, e1, qn⟩ := PI.out.2 (fun h => absurd h (by omega))
            obtain ⟨g, rfl⟩ := O.out.some (by rw [madeL_len]; omega)
            have cy := O.out.cell k _ (madeL_at hk)
            have lg := O.out.lt'
            obtain ⟨y, hy⟩ : ∃ y, y = stepC W f k := ⟨_, rfl⟩
            rw [← hy] at cy e1
            clear hy
            have kk : (k : Int) < (s : Int) := by omega
            have kk0 : (0 : Int) ≤ (k : Int) := by omega
            rw [← HZ.out] at e1
            have E1 := Lib.hid e1
            rw [e1] at pj1
            have NX := Lib.hid (fun n => show GiR wo W S f s (.slice (some ⟨g, 0, none⟩) s cap) (.int .i64 (i : Int)) (.int .i64 ((k : Int) + 1)) (.int .i64 (z + y)) (.int .i64 ((j : Int) + 1)) (wr.drewN n) from ⟨j + 1, i, k + 1, rfl, by congr 1, by rw [E1.out], by congr 1, by rw [← HTK.out]; exact hjt, O.out.below (below_drewN wr n), qn, B.out.trans ((below_drewN wr n).mono B.out.size)⟩)
            clear PI qn e1
            go_wp2_with fail
            go_quiet (fail)
            have cy2 : (wr.drewN nq).cell? ⟨g, k, none⟩ = some (.int .i64 y) := cy
            have lg2 : g < (wr.drewN nq).heap.size := lg
            have NX := Lib.hid (NX.out nq)
            clear cy lg
            generalize wr.drewN nq = wq at *
            go_wp2_with fail
            go_roundw
            case rel => exact NX.out
            case measure => simp [intOf]; omega
        · have u1 : decide ((j : Int) < (tk : Int)) = false := decide_eq_false (by omega)
          have u1n : decide (j < tk) = false := decide_eq_false hjt
          have hjk : j = tk := by omega
          have ml : (madeL W f s).length = s := madeL_len W f s
          have ZE := Lib.hid (show pkS (mkA W f s) j = stepC W f s by rw [hjk, HTK.out]; rfl)
          have QN := Lib.hid (show Que W S f (s + 1) 0 i k from by
            have := Q.out
            rw [hjk, HTK.out] at this
            exact this.next HW.out hf hn hlt)
          have pz := PK.out j (by rw [← HTK.out]; omega)
          have sc := SC.out s (Nat.le_refl _)
          rw [ZE.out] at pz ⊢
          obtain ⟨z, hz⟩ : ∃ z, z = stepC W f s := ⟨_, rfl⟩
          have HZ := Lib.hid hz
          rw [← hz] at pz ⊢
          obtain ⟨cs0, hcs⟩ : ∃ cs0, cs0 = sumZ (stepC W f) s := ⟨_, rfl⟩
          have HCS := Lib.hid hcs
          rw [← hcs] at sc ⊢
          have sc2 : cs0 ≤ 4611686018427387904 := by omega
          have H1 := Lib.hid (show OwnI (wr.alloc (.cells #[.int .i64 z] 3)) (.slice pa s cap) (madeL W f s) from O.out.below (below_alloc wr _))
          have N1 := Lib.hid (BlkAt.new wr [.int .i64 z] 3)
          have GN := Lib.hid G.out.new
          clear hz hcs hjk hjt G Q SC hlen
          go_wp2_with (at_builtin; refine wp_apI rfl _ _ rfl (.slice pa s cap) (madeL W f s) rfl H1.out ⟨wr.heap.size, 0, none⟩ 1 1 [z] rfl rfl (by omega) (fun j hj => by
            have : j = 0 := by simp at hj; omega
            subst this
            exact N1.out.cell 0 _ rfl) (by omega) ?_; intro g3 cap3 w3 h1 h2 h3)
          have NX := Lib.hid (show GoR w W S f (.slice (some ⟨g3, 0, none⟩) (s + 1) cap3) (.int .i64 (i : Int)) (.int .i64 (k : Int)) (.int .i64 (cs0 + z)) (.int .i64 (f : Int)) w3 from by
            rw [ml, HZ.out, ← madeL_next] at h1
            have ka : Below w.heap.size w (wr.alloc (.cells #[.int .i64 z] 3)) := KB.out.trans ((below_alloc wr _).mono KB.out.size)
            have kb := h2.below ka.size GN.out
            refine ⟨s + 1, i, k, _, rfl, rfl, rfl, by rw [sumZ, HCS.out, HZ.out], by unfold tkn; rw [if_neg (by omega)], hlt, h1, QN.out, ka.trans kb, fun b hb => ?_⟩
            injection hb with hb
            subst hb
            rcases h3 with e | e
            · exact GN.out _ e
            · rw [e]; exact ka.size)
          clear h1 h2 h3 H1 N1 O
          go_wp2_with fail
          go_roundw
          case rel => exact NX.out
          case measure => have := ND.out; simp [madeOf]; omega
    · have hm : ¬ 1 < S.length + s - i - k := fun h => hlt (m2.1 (by rw [← hlen]; exact h))
      rw [hlen] at hm
      have t1 : decide (1 < (W.length : Int) - (i : Int) + (s : Int) - (k : Int)) = false := decide_eq_false (by omega)
      have F := Lib.hid (show sumZ (stepC W f) s = sumZ (stepC W f) (need W.length f) by rw [show s = need W.length f by omega])
      have K := Lib.hid G.out.bel
      clear m1 m2 hm hlt
      go_wp2_with fail
      go_ret
      exact ⟨by rw [F.out]; rfl, K.out⟩
end Go.Proofs.Ythajgfldjjgkiaa
