/- Cost. -/
import Derived.Test.YthajgfldjjgkiaaCm
import Derived.Test.YthajgfldjjgkiaaCk
import Derived.Test.YthajgfldjjgkiaaGr
namespace Go.Proofs.Ythajgfldjjgkiaa
open Go.RowKit
set_option maxRecDepth 100000

theorem ChkIs.cases0 {W : List Int} {fan : Int} {ss : List Stp} {E : Int} (h : ChkIs W fan ss E) : (E = 0 ∧ ∃ f : Nat, fan = (f : Int) ∧ givE W fan = 0 ∧ PlanOk W.length f ss) ∨ E ≠ 0 := by
  by_cases e : E = 0
  · obtain ⟨h1, h2⟩ := h.ok e
    have := (givE_ok h1).1
    exact Or.inl ⟨e, fan.toNat, by omega, h1, h2⟩
  · exact Or.inr e
structure CoAt (w wr : World) (g cap T : Nat) (f : Nat → Int) : Prop where
  own : OwnI wr (.slice (some ⟨g, 0, none⟩) T cap) (nL f T)
  bel : Below w.heap.size w wr
  ge : w.heap.size ≤ g
def CoR (w : World) (g cap T : Nat) (W : List Int) (ss : List Stp) (v9 v30 : Value) (wr : World) : Prop := ∃ k : Nat, v30 = .int .i64 (k : Int) ∧ v9 = .int .i64 (costF W ss k) ∧ k ≤ ss.length ∧ CoAt w wr g cap T (wtF W ss k)
def part (f : Nat → Int) (o : Nat) (l : List Int) : Nat → Int := updF f o (lsum (fun r => f r.toNat) l)
def CiR (w : World) (g cap T b : Nat) (bx : List Value) (f : Nat → Int) (o : Nat) (l : List Int) (v37 : Value) (wr : World) : Prop := ∃ i : Nat, v37 = .int .i64 (i : Int) ∧ i ≤ l.length ∧ CoAt w wr g cap T (part f o (l.take i)) ∧ BlkAt wr b 46 bx
def CostR (w : World) (W : List Int) (fan : Int) (ss : List Stp) (e : Ending) (w' : World) : Prop := ∃ x E : Int, e = .returned (.tuple #[.int .i64 x, .int .i64 E]) ∧ ChkIs W fan ss E ∧ x = (if E = 0 then costF W ss ss.length else 0) ∧ Below w.heap.size w w'
theorem CoAt.set {w wr : World} {g cap T : Nat} {f : Nat → Int} (h : CoAt w wr g cap T f) (j : Nat) (x : Int) : CoAt w (wr.setCell ⟨g, j, none⟩ (.int .i64 x)) g cap T (updF f j x) := by
  refine ⟨?_, h.bel.trans ((Kp.set wr g j (.int .i64 x)).below h.bel.size (fun y e => by rw [e]; exact h.ge)), h.ge⟩
  rw [← nL_set]
  exact h.own.set j x
theorem CoAt.below {w wr w' : World} {g cap T : Nat} {f : Nat → Int} (h : CoAt w wr g cap T f) (k : Below wr.heap.size wr w') : CoAt w w' g cap T f := ⟨h.own.below k, h.bel.trans (k.mono h.bel.size), h.ge⟩
theorem CoAt.cell {w wr : World} {g cap T : Nat} {f : Nat → Int} (h : CoAt w wr g cap T f) (j : Nat) (hj : j < T) : wr.cell? ⟨g, j, none⟩ = some (.int .i64 (f j)) := h.own.cell j _ (nL_at f T j hj)
theorem part_next {f : Nat → Int} {o : Nat} {l : List Int} {i : Nat} (h : i < l.length) (x : Nat) (hx : l[i] = (x : Int)) : updF (part f o (l.take i)) o (lsum (fun r => f r.toNat) (l.take i) + f x) = part f o (l.take (i + 1)) := by
  funext y
  unfold part updF
  by_cases e : y = o
  · rw [if_pos e, if_pos e, List.take_succ_eq_append_getElem h, lsum_snoc, hx]; rfl
  · rw [if_neg e, if_neg e, if_neg e]
set_option maxHeartbeats 8000000 in
theorem cost_ok {w : World} {v vs : Value} {W : List Int} {fan : Int} {ss : List Stp} (hv : SlI w v W) (hs : StAt w vs ss) :
    Calls Try.prog 14 #[v, .int .i64 fan, vs] w (CostR w W fan ss) := by
  have CK := Lib.hid (check_ok (fan := fan) hv hs)
  have HV := Lib.hid hv
  have HS := Lib.hid hs
  obtain ⟨a, c, rfl, hc, hc2⟩ := hv.form
  obtain ⟨sa, sc, rfl, hsc, hsc2⟩ := hs.form
  clear hv hs
  go_enter Try.func14, Try.ntmps14
  go_wp2_with fail
  refine CK.out.mono ?_
  rintro e w1 ⟨E, rfl, hE, k1⟩
  have K1 := Lib.hid k1
  have CI := Lib.hid hE
  rcases hE.cases0 with ⟨rfl, f, hf, hg, hp⟩ | hne
  · have P := Lib.hid hp
    obtain ⟨e1, e2, e3, e4, e5⟩ := givE_ok hg
    have HW := Lib.hid e5
    have hl1 := hp.some
    have hl2 := hp.few
    have HF := Lib.hid hf
    have hl3 : ss.length ≤ 65536 := by omega
    clear hE hp hg e5 k1 hf
    have S1 := Lib.hid (HS.out.below K1.out)
    have V1 := Lib.hid (HV.out.below K1.out)
    obtain ⟨T, hT⟩ : ∃ T, T = W.length + ss.length := ⟨_, rfl⟩
    have HT := Lib.hid hT
    clear hT
    go_wp2_with (at_make; refine wp_mk rfl _ _ 22 3 rfl (.int .i64 0) 1 8 Try.underlying22 info3 .i64 .i64 ss.length rfl rfl (by omega) (by omega) _ (iV_zero ss.length) ?_; intro w2 hb2 hbel2)
    have CO := Lib.hid (concat_ok (w := w2.alloc (.cells #[.slice a W.length c, .slice (some ⟨w1.heap.size, 0, none⟩) ss.length ss.length] 22)) (va := .slice a W.length c) (vb := .slice (some ⟨w1.heap.size, 0, none⟩) ss.length ss.length) (BlkAt.new w2 [.slice a W.length c, .slice (some ⟨w1.heap.size, 0, none⟩) ss.length ss.length] 22)
      ((V1.out.below hbel2).below (below_alloc w2 _))
      (show SlI _ _ (List.replicate ss.length 0) from by
        have q := (hb2.below (below_alloc w2 (.cells #[.slice a W.length c, .slice (some ⟨w1.heap.size, 0, none⟩) ss.length ss.length] 22))).sl (Nat.le_refl ss.length) (by omega) _ (fun j u hu => hu)
        unfold SlI
        rw [List.length_replicate]
        exact q)
      (by rintro rfl; simp at e3) (by intro e; have := congrArg List.length e; simp at this; rw [this] at hl1; simp at hl1) (by omega) (by simp; omega))
    have BE2 := Lib.hid (show Below w.heap.size w (w2.alloc (.cells #[.slice a W.length c, .slice (some ⟨w1.heap.size, 0, none⟩) ss.length ss.length] 22)) from by
      have q := K1.out.trans (hbel2.mono K1.out.size)
      exact q.alloc q.size _)
    clear hb2 hbel2 S1 V1
    refine CO.out.mono ?_
    rintro e w3 ⟨g, cap, rfl, h1, h2, h3⟩
    have ST := Lib.hid (show CoR w g cap T W ss (.int .i64 0) (.int .i64 0) w3 from by
      refine ⟨0, rfl, rfl, Nat.zero_le _, ?_, BE2.out.trans (h3.mono BE2.out.size), Nat.le_trans BE2.out.size h2⟩
      have q := nL_join W ss.length
      rw [← HT.out] at q
      have ql : (W ++ List.replicate ss.length 0).length = T := by rw [q, nL_len]
      rw [q, nL_len] at h1
      exact h1)
    have ql : (W ++ List.replicate ss.length 0).length = T := by rw [nL_join, nL_len, HT.out]
    rw [ql]
    clear h1 h2 h3 CO BE2 ql
    go_wp2_with fail
    go_loopw [9, 30] (fun v9 v30 wr => CoR w g cap T W ss v9 v30 wr) (fun _ v30 _ => ss.length - (intOf v30).toNat)
    case atStart => exact ST.out
    case round =>
      clear ST
      obtain ⟨k, rfl, rfl, hk, hco⟩ := hrel
      have C := Lib.hid hco
      clear hco
      by_cases hlt : k < ss.length
      · have t1 : decide ((k : Int) < (ss.length : Int)) = true := decide_eq_true (by omega)
        have t1n : decide (k < ss.length) = true := decide_eq_true hlt
        have ik : (k : Int) < (ss.length : Int) := by omega
        have ik0 : (0 : Int) ≤ (k : Int) := by omega
        obtain ⟨b1, o1, c1, f1, e1', _, l1, g1⟩ := HS.out.get (by rintro rfl; exact absurd hlt (Nat.not_lt_zero _))
        injection e1' with e1' _ e3'
        subst e1' e3'
        obtain ⟨q1, q2, q3⟩ := g1 k hlt
        rw [← Nat.add_assoc] at q2
        obtain ⟨xa, xc, hx, xc1, xc2⟩ := q3.form
        rw [hx] at q1 q3
        have PE := Lib.hid (P.out.each k hlt)
        rw [PE.out.out] at q2
        have XI := Lib.hid (SlI.below q3 C.out.bel)
        have XW := Lib.hid (show SlI w (.slice xa ss[k].inn.length xc) ss[k].inn from q3)
        have GL := Lib.hid C.out.own.lt'
        replace q1 := ((bcell C.out.bel).1 b1 _ l1).trans q1
        replace q2 := ((bcell C.out.bel).1 b1 _ l1).trans q2
        replace l1 := Nat.lt_of_lt_of_le l1 C.out.bel.size
        have WL := Lib.hid (P.out.wt_le e3 HW.out hlt)
        have CL := Lib.hid (P.out.cost_le e3 e4 HW.out k hk)
        have IN := Lib.hid (inOf_get hlt)
        rw [IN.out] at WL
        have ILT := Lib.hid PE.out.lt
        have IHI := Lib.hid PE.out.hi
        have CS := Lib.hid (show costF W ss (k + 1) = costF W ss k + lsum (fun r => wtF W ss k r.toNat) ss[k].inn by rw [costF, IN.out])
        have WS := Lib.hid (show wtF W ss (k + 1) = part (wtF W ss k) (W.length + k) ss[k].inn by rw [wtF, IN.out]; rfl)
        have PZ := Lib.hid (show CoAt w wr g cap T (part (wtF W ss k) (W.length + k) (ss[k].inn.take 0)) from by
          refine ⟨?_, C.out.bel, C.out.ge⟩
          have : nL (part (wtF W ss k) (W.length + k) (ss[k].inn.take 0)) T = nL (wtF W ss k) T := nL_congr fun y _ => by
            unfold part updF
            by_cases e : y = W.length + k
            · rw [if_pos e, e, wtF_hi (Nat.le_refl _)]; rfl
            · rw [if_neg e]
          rw [this]; exact C.out.own)
        clear g1 hx q3 PE IN C
        generalize ss[k].inn = xi at *
        obtain ⟨o, ho⟩ : ∃ o, o = W.length + k := ⟨_, rfl⟩
        have HO := Lib.hid ho
        rw [← ho] at q2 WS PZ ILT
        have oT : o < T := by have := HT.out; omega
        clear ho
        go_upto_region 9 with fail
        have BX := Lib.hid (BlkAt.new wr [.slice xa xi.length xc, .int .i64 (o : Int)] 46)
        have BA := Lib.hid (below_alloc wr (.cells #[.slice xa xi.length xc, .int .i64 (o : Int)] 46))
        have SX := Lib.hid (show SlI (wr.alloc (.cells #[.slice xa xi.length xc, .int .i64 (o : Int)] 46)) (.slice xa xi.length xc) xi from XI.out.below BA.out)
        have PX := Lib.hid (PZ.out.below BA.out)
        change Hid (BlkAt (wr.alloc (.cells #[.slice xa xi.length xc, .int .i64 (o : Int)] 46)) _ _ _) at BX
        clear q1 q2 l1 PZ XI
        have BNG := Lib.hid (show wr.heap.size ≠ g from fun e => by have := GL.out; omega)
        generalize wr.alloc (.cells #[.slice xa xi.length xc, .int .i64 (o : Int)] 46) = x1 at *
        generalize wr.heap.size = bxn at *
        have c0 := BX.out.cell 0 _ rfl
        have c1 := BX.out.cell 1 _ rfl
        have lx := BX.out.lt
        have SI := Lib.hid (show CiR w g cap T bxn [.slice xa xi.length xc, .int .i64 (o : Int)] (wtF W ss k) o xi (.int .i64 0) x1 from ⟨0, rfl, Nat.zero_le _, PX.out, BX.out⟩)
        go_wp2_with fail
        clear c0 c1 lx PX BX
        obtain ⟨fw, hfw⟩ : ∃ fw, fw = wtF W ss k := ⟨_, rfl⟩
        rw [← hfw] at WL CS WS SI
        have HFW := Lib.hid hfw
        clear hfw
        obtain ⟨ck, hck⟩ : ∃ ck, ck = costF W ss k := ⟨_, rfl⟩
        rw [← hck] at CL CS ⊢
        have HCK := Lib.hid hck
        clear hck
        go_loopw [37] (fun v37 wr => CiR w g cap T bxn [.slice xa xi.length xc, .int .i64 (o : Int)] fw o xi v37 wr) (fun v37 _ => xi.length - (intOf v37).toNat)
        case atStart => exact SI.out
        case round =>
          clear SI
          obtain ⟨i, rfl, hi, hco, hbx⟩ := hrel
          have C := Lib.hid hco
          have BX := Lib.hid hbx
          clear hco hbx
          by_cases hit : i < xi.length
          · have u1 : decide ((i : Int) < (xi.length : Int)) = true := decide_eq_true (by omega)
            have u1n : decide (i < xi.length) = true := decide_eq_true hit
            have ii : (i : Int) < (xi.length : Int) := by omega
            have ii0 : (0 : Int) ≤ (i : Int) := by omega
            obtain ⟨xb, xo, xc', e5, _, l5, g5⟩ := SlI.ne (XW.out.below C.out.bel) (by rintro rfl; exact absurd hit (Nat.not_lt_zero _))
            injection e5 with e5 _ e6
            subst e5 e6
            have q1 := g5 i hit
            obtain ⟨rr0, rr1⟩ := ILT.out _ (List.getElem_mem hit)
            obtain ⟨rn, hrn⟩ : ∃ rn : Nat, xi[i] = (rn : Int) := ⟨xi[i].toNat, by omega⟩
            have rlt : rn < o := by have := HO.out; omega
            obtain ⟨wl1, wl2, wl3⟩ := WL.out
            have hx := wl1 _ (List.getElem_mem hit)
            rw [hrn, Int.toNat_natCast] at hx
            have hs0 : 0 ≤ lsum (fun r => fw r.toNat) (xi.take i) := lsum_nonneg _ fun x hx => (wl1 x (List.mem_of_mem_take hx)).1
            have hs1 := Int.le_trans (lsum_take_le (f := fun r => fw r.toNat) (fun x hx => (wl1 x hx).1) i) wl3
            have PN := Lib.hid (part_next (f := fw) (o := o) hit rn hrn)
            have cn := C.out.cell o oT
            have cr := C.out.cell rn (by omega)
            have e7 : part fw o (xi.take i) o = lsum (fun r => fw r.toNat) (xi.take i) := updF_same _ _ _
            have e8 : part fw o (xi.take i) rn = fw rn := updF_other _ _ _ _ (by omega)
            rw [e7] at cn
            rw [e8] at cr
            rw [hrn] at q1
            have NX := Lib.hid (fun m => ((C.out.below (below_drewN wr m)).set o (lsum (fun r => fw r.toNat) (xi.take i) + fw rn)))
            rw [PN.out] at NX
            have fz := C.out.own.free o
            have lg := C.out.own.lt'
            have b0 := BX.out.cell 1 _ rfl
            have lb := BX.out.lt
            have NBX := Lib.hid (fun m => ((BX.out.below (below_drewN wr m)).other (fun e => BNG.out e.symm) o (.int .i64 (lsum (fun r => fw r.toNat) (xi.take i) + fw rn))))
            clear g5 hrn e7 e8 rr0 rr1 wl1 wl2 wl3 PN
            have cn' : wr.drew.cell? ⟨g, o, none⟩ = _ := cn
            have cr' : wr.drew.cell? ⟨g, rn, none⟩ = _ := cr
            have fz' : wr.drew.frozen? ⟨g, o, none⟩ = false := fz
            have b0' : wr.drew.cell? ⟨bxn, 1, none⟩ = _ := b0
            have hb64 : 1073741824 * (W.length : Int) ≤ 70368744177664 := by omega
            have sx : lsum (fun r => fw r.toNat) (xi.take i) + fw rn ≤ 140737488355328 := by omega
            have x0 := hx.1
            clear hx hs1
            generalize lsum (fun r => fw r.toNat) (xi.take i) = s at *
            generalize fw rn = x at *
            have io : (o : Int) < (T : Int) := by omega
            have io0 : (0 : Int) ≤ (o : Int) := by omega
            have ir : (rn : Int) < (T : Int) := by omega
            have ir0 : (0 : Int) ≤ (rn : Int) := by omega
            go_wp2_with fail
            go_region
            all_goals
              go_wp2_with fail
              go_roundw
              case rel => exact ⟨i + 1, by congr 1, hit, NX.out 1, NBX.out 1⟩
              case measure => simp [intOf]; omega
          · have u1 : decide ((i : Int) < (xi.length : Int)) = false := decide_eq_false (by omega)
            have u1n : decide (i < xi.length) = false := decide_eq_false hit
            have TK : xi.take i = xi := List.take_of_length_le (by omega)
            rw [TK] at C
            have cn := C.out.cell o oT
            have e7 : part fw o xi o = lsum (fun r => fw r.toNat) xi := updF_same _ _ _
            rw [e7] at cn
            obtain ⟨_, wl2, wl3⟩ := WL.out
            obtain ⟨cl1, cl2⟩ := CL.out
            have NX := Lib.hid (show CoR w g cap T W ss (.int .i64 (ck + lsum (fun r => fw r.toNat) xi)) (.int .i64 ((k : Int) + 1)) wr from ⟨k + 1, by congr 1, by rw [CS.out], hlt, by rw [WS.out]; exact C.out⟩)
            have b0 := BX.out.cell 1 _ rfl
            have lb := BX.out.lt
            have lg := C.out.own.lt'
            have sm : ck + lsum (fun r => fw r.toNat) xi ≤ 4611756387171565568 := by omega
            clear TK e7 wl3 cl2
            generalize lsum (fun r => fw r.toNat) xi = s at *
            have io : (o : Int) < (T : Int) := by omega
            have io0 : (0 : Int) ≤ (o : Int) := by omega
            go_wp2_with fail
            go_roundw
            case rel => exact NX.out
            case measure => simp [intOf]; omega
      · have t1 : decide ((k : Int) < (ss.length : Int)) = false := decide_eq_false (by omega)
        have t1n : decide (k < ss.length) = false := decide_eq_false hlt
        have hke : k = ss.length := by omega
        have F := Lib.hid (show CostR w W fan ss (.returned (.tuple #[.int .i64 (costF W ss k), .int .i64 0])) wr from ⟨_, 0, rfl, CI.out, by rw [if_pos rfl, hke], C.out.bel⟩)
        clear hke
        go_wp2_with fail
        go_ret2
        exact F.out
  · have F := Lib.hid (show CostR w W fan ss (.returned (.tuple #[.int .i64 0, .int .i64 E])) w1 from ⟨0, E, rfl, CI.out, by rw [if_neg hne], K1.out⟩)
    have t1 : decide (E = 0) = false := decide_eq_false hne
    have t2 : (E == 0) = false := by simpa using hne
    have t3 : (E != 0) = true := by simpa using hne
    clear hne hE k1
    go_wp2_with fail
    go_ret2
    exact F.out
end Go.Proofs.Ythajgfldjjgkiaa
