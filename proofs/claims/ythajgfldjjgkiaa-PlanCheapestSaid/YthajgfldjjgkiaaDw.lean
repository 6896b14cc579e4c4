/- Depth. -/
import Derived.Test.YthajgfldjjgkiaaCw
namespace Go.Proofs.Ythajgfldjjgkiaa
open Go.RowKit
set_option maxRecDepth 100000

theorem BlkAt.ownI {w : World} {g n : Nat} {l : List Int} (h : BlkAt w g 3 (iV l)) (hl : l.length = n) (hn : n ≤ 9223372036854775807) : OwnI w (.slice (some ⟨g, 0, none⟩) n n) l := by
  subst hl
  refine ⟨by rw [iV_len]; omega, .inr ⟨g, l.length, (iV l).toArray, rfl, Nat.zero_le _, h, Nat.le_refl _, by unfold maxLen; omega, by simp [iV_len], ?_⟩⟩
  rw [Nat.mul_one]
  exact List.take_of_length_le (by simp [iV])
def castF (h : Nat → Nat) : Nat → Int := fun x => (h x : Int)
theorem castF_up (h : Nat → Nat) (o z : Nat) : updF (castF h) o (z : Int) = castF (updF h o z) := by
  funext x
  unfold updF castF
  by_cases e : x = o
  · simp [e]
  · simp [e]
def partD (f : Nat → Nat) (o : Nat) (l : List Int) : Nat → Nat := updF f o (lmx (fun r => f r.toNat + 1) l)
theorem partD_next {f : Nat → Nat} {o : Nat} {l : List Int} {i : Nat} (h : i < l.length) (x : Nat) (hx : l[i] = (x : Int)) : updF (partD f o (l.take i)) o (max (lmx (fun r => f r.toNat + 1) (l.take i)) (f x + 1)) = partD f o (l.take (i + 1)) := by
  funext y
  unfold partD updF
  by_cases e : y = o
  · rw [if_pos e, if_pos e, List.take_succ_eq_append_getElem h, lmx_snoc, hx]; rfl
  · rw [if_neg e, if_neg e, if_neg e]
def DeR (w : World) (g cap T n : Nat) (ss : List Stp) (v29 : Value) (wr : World) : Prop := ∃ k : Nat, v29 = .int .i64 (k : Int) ∧ k ≤ ss.length ∧ CoAt w wr g cap T (castF (goF n ss k))
def DiR (w : World) (g cap T b : Nat) (bx : List Value) (f : Nat → Nat) (o : Nat) (l : List Int) (v36 : Value) (wr : World) : Prop := ∃ i : Nat, v36 = .int .i64 (i : Int) ∧ i ≤ l.length ∧ CoAt w wr g cap T (castF (partD f o (l.take i))) ∧ BlkAt wr b 46 bx
def DepthR (w : World) (W : List Int) (fan : Int) (ss : List Stp) (e : Ending) (w' : World) : Prop := ∃ x E : Int, e = .returned (.tuple #[.int .i64 x, .int .i64 E]) ∧ ChkIs W fan ss E ∧ x = (if E = 0 then (mxN (fun i => cntF W.length ss i ss.length) W.length : Int) else 0) ∧ Below w.heap.size w w'
set_option maxHeartbeats 8000000 in
theorem depth_ok {w : World} {v vs : Value} {W : List Int} {fan : Int} {ss : List Stp} (hv : SlI w v W) (hs : StAt w vs ss) :
    Calls Try.prog 15 #[v, .int .i64 fan, vs] w (DepthR w W fan ss) := by
  have CK := Lib.hid (check_ok (fan := fan) hv hs)
  have HS := Lib.hid hs
  obtain ⟨a, c, rfl, hc, hc2⟩ := hv.form
  obtain ⟨sa, sc, rfl, hsc, hsc2⟩ := hs.form
  clear hv hs
  go_enter Try.func15, Try.ntmps15
  go_wp2_with fail
  refine CK.out.mono ?_
  rintro e w1 ⟨E, rfl, hE, k1⟩
  have K1 := Lib.hid k1
  have CI := Lib.hid hE
  rcases hE.cases0 with ⟨rfl, f, hf, hg, hp⟩ | hne
  · have P := Lib.hid hp
    obtain ⟨e1, e2, e3, e4, e5⟩ := givE_ok hg
    have hl1 := hp.some
    have hl2 := hp.few
    have hl3 : ss.length ≤ 65536 := by omega
    clear hE hp hg e5 k1 hf
    obtain ⟨T, hT⟩ : ∃ T, T = W.length + ss.length := ⟨_, rfl⟩
    have HT := Lib.hid hT
    have HT2 := Lib.hid (show (W.length : Int) + (ss.length : Int) = (T : Int) by omega)
    have T0 : 0 < T := by omega
    have T1 : T ≤ 131072 := by omega
    clear hT
    go_wp2_with (at_make; refine wp_mkL rfl _ _ 22 3 rfl (.int .i64 0) 1 8 Try.underlying22 info3 .i64 .i64 _ T HT2.out rfl rfl (by omega) (by omega) _ (iV_zero T) ?_; intro w2 hb2 hbel2)
    have ST := Lib.hid (show DeR w w1.heap.size T T W.length ss (.int .i64 0) w2 from by
      refine ⟨0, rfl, Nat.zero_le _, ?_, K1.out.trans (hbel2.mono K1.out.size), K1.out.size⟩
      have : nL (castF (goF W.length ss 0)) T = List.replicate T 0 := nL_zero T
      rw [this]
      exact hb2.ownI (by simp) (by omega))
    clear hb2 hbel2
    generalize w1.heap.size = g at *
    go_loopw [29] (fun v29 wr => DeR w g T T W.length ss v29 wr) (fun v29 _ => ss.length - (intOf v29).toNat)
    case atStart => exact ST.out
    case round =>
      clear ST
      obtain ⟨k, rfl, hk, hco⟩ := hrel
      have C := Lib.hid hco
      clear hco
      by_cases hlt : k < ss.length
      · have t1 : decide ((k : Int) < (ss.length : Int)) = true := decide_eq_true (by omega)
        have t1n : decide (k < ss.length) = true := decide_eq_true hlt
        have ik : (k : Int) < (ss.length : Int) := by omega
        have ik0 : (0 : Int) ≤ (k : Int) := by omega
        obtain ⟨b1, o1, c1, f1, e1', _, l1, g1⟩ := HS.out.get (by rintro rfl; exact absurd hlt (Nat.not_lt_zero _))
        injection e1' with e1' _ e3'
        subst e1' e3'
        obtain ⟨q1, q2, q3⟩ := g1 k hlt
        rw [← Nat.add_assoc] at q2
        obtain ⟨xa, xc, hx, xc1, xc2⟩ := q3.form
        rw [hx] at q1 q3
        have PE := Lib.hid (P.out.each k hlt)
        rw [PE.out.out] at q2
        have XI := Lib.hid (SlI.below q3 C.out.bel)
        have XW := Lib.hid (show SlI w (.slice xa ss[k].inn.length xc) ss[k].inn from q3)
        have GL := Lib.hid C.out.own.lt'
        replace q1 := ((bcell C.out.bel).1 b1 _ l1).trans q1
        replace q2 := ((bcell C.out.bel).1 b1 _ l1).trans q2
        replace l1 := Nat.lt_of_lt_of_le l1 C.out.bel.size
        have IN := Lib.hid (inOf_get hlt)
        have ILT := Lib.hid PE.out.lt
        have WS := Lib.hid (show goF W.length ss (k + 1) = partD (goF W.length ss k) (W.length + k) ss[k].inn by rw [goF, IN.out]; rfl)
        have GB := Lib.hid (fun x => goF_le (n := W.length) (ss := ss) k x)
        have PZ := Lib.hid (show CoAt w wr g T T (castF (partD (goF W.length ss k) (W.length + k) (ss[k].inn.take 0))) from by
          have : partD (goF W.length ss k) (W.length + k) (ss[k].inn.take 0) = goF W.length ss k := by
            funext y
            unfold partD updF
            by_cases e : y = W.length + k
            · rw [if_pos e, e, goF_hi (Nat.le_refl _)]; rfl
            · rw [if_neg e]
          rw [this]; exact C.out)
        clear g1 hx q3 PE IN C
        generalize ss[k].inn = xi at *
        obtain ⟨o, ho⟩ : ∃ o, o = W.length + k := ⟨_, rfl⟩
        have HO := Lib.hid ho
        rw [← ho] at q2 WS PZ ILT
        have oT : o < T := by have := HT.out; omega
        clear ho
        go_upto_region 8 with fail
        have BX := Lib.hid (BlkAt.new wr [.slice xa xi.length xc, .int .i64 (o : Int)] 46)
        have BA := Lib.hid (below_alloc wr (.cells #[.slice xa xi.length xc, .int .i64 (o : Int)] 46))
        have PX := Lib.hid (PZ.out.below BA.out)
        change Hid (BlkAt (wr.alloc (.cells #[.slice xa xi.length xc, .int .i64 (o : Int)] 46)) _ _ _) at BX
        clear q1 q2 l1 PZ XI
        have BNG := Lib.hid (show wr.heap.size ≠ g from fun e => by have := GL.out; omega)
        generalize wr.alloc (.cells #[.slice xa xi.length xc, .int .i64 (o : Int)] 46) = x1 at *
        generalize wr.heap.size = bxn at *
        obtain ⟨fw, hfw⟩ : ∃ fw, fw = goF W.length ss k := ⟨_, rfl⟩
        rw [← hfw] at WS PX GB
        have HFW := Lib.hid hfw
        clear hfw
        have c0 := BX.out.cell 0 _ rfl
        have c1 := BX.out.cell 1 _ rfl
        have lx := BX.out.lt
        have SI := Lib.hid (show DiR w g T T bxn [.slice xa xi.length xc, .int .i64 (o : Int)] fw o xi (.int .i64 0) x1 from ⟨0, rfl, Nat.zero_le _, PX.out, BX.out⟩)
        go_wp2_with fail
        clear c0 c1 lx PX BX
        go_loopw [36] (fun v36 wr => DiR w g T T bxn [.slice xa xi.length xc, .int .i64 (o : Int)] fw o xi v36 wr) (fun v36 _ => xi.length - (intOf v36).toNat)
        case atStart => exact SI.out
        case round =>
          clear SI
          obtain ⟨i, rfl, hi, hco, hbx⟩ := hrel
          have C := Lib.hid hco
          have BX := Lib.hid hbx
          clear hco hbx
          by_cases hit : i < xi.length
          · have u1 : decide ((i : Int) < (xi.length : Int)) = true := decide_eq_true (by omega)
            have u1n : decide (i < xi.length) = true := decide_eq_true hit
            have ii : (i : Int) < (xi.length : Int) := by omega
            have ii0 : (0 : Int) ≤ (i : Int) := by omega
            obtain ⟨xb, xo, xc', e5, _, l5, g5⟩ := SlI.ne (XW.out.below C.out.bel) (by rintro rfl; exact absurd hit (Nat.not_lt_zero _))
            injection e5 with e5 _ e6
            subst e5 e6
            have q1 := g5 i hit
            obtain ⟨rr0, rr1⟩ := ILT.out _ (List.getElem_mem hit)
            obtain ⟨rn, hrn⟩ : ∃ rn : Nat, xi[i] = (rn : Int) := ⟨xi[i].toNat, by omega⟩
            have rlt : rn < o := by have := HO.out; omega
            have PN := Lib.hid (partD_next (f := fw) (o := o) hit rn hrn)
            have cn := C.out.cell o oT
            have cr := C.out.cell rn (by omega)
            have e7 : castF (partD fw o (xi.take i)) o = ((lmx (fun r => fw r.toNat + 1) (xi.take i) : Nat) : Int) := congrArg Int.ofNat (updF_same _ _ _)
            have e8 : castF (partD fw o (xi.take i)) rn = (fw rn : Int) := congrArg Int.ofNat (updF_other _ _ _ _ (by omega))
            rw [e7] at cn
            rw [e8] at cr
            rw [hrn] at q1
            have bs : lmx (fun r => fw r.toNat + 1) (xi.take i) ≤ k + 1 := lmx_le _ fun y _ => by have := GB.out y.toNat; omega
            have bx : fw rn ≤ k := GB.out rn
            have mx : max ((lmx (fun r => fw r.toNat + 1) (xi.take i) : Nat) : Int) ((fw rn : Int) + 1) = ((max (lmx (fun r => fw r.toNat + 1) (xi.take i)) (fw rn + 1) : Nat) : Int) := by omega
            have MX := Lib.hid mx
            have NX := Lib.hid (fun m => ((C.out.below (below_drewN wr m)).set o (max ((lmx (fun r => fw r.toNat + 1) (xi.take i) : Nat) : Int) ((fw rn : Int) + 1))))
            have NBX := Lib.hid (fun m => ((BX.out.below (below_drewN wr m)).other (fun e => BNG.out e.symm) o (.int .i64 (max ((lmx (fun r => fw r.toNat + 1) (xi.take i) : Nat) : Int) ((fw rn : Int) + 1)))))
            have CE := Lib.hid (show updF (castF (partD fw o (xi.take i))) o (max ((lmx (fun r => fw r.toNat + 1) (xi.take i) : Nat) : Int) ((fw rn : Int) + 1)) = castF (partD fw o (xi.take (i + 1))) by rw [mx, castF_up, PN.out])
            rw [CE.out] at NX
            have fz := C.out.own.free o
            have lg := C.out.own.lt'
            have b0 := BX.out.cell 1 _ rfl
            have lb := BX.out.lt
            clear g5 hrn e7 e8 rr0 rr1 PN mx MX CE
            have cn' : wr.drew.cell? ⟨g, o, none⟩ = _ := cn
            have cr' : wr.drew.cell? ⟨g, rn, none⟩ = _ := cr
            have fz' : wr.drew.frozen? ⟨g, o, none⟩ = false := fz
            have b0' : wr.drew.cell? ⟨bxn, 1, none⟩ = _ := b0
            generalize lmx (fun r => fw r.toNat + 1) (xi.take i) = s at *
            generalize fw rn = x at *
            have xb1 : (x : Int) ≤ 65536 := by omega
            have io : (o : Int) < (T : Int) := by omega
            have io0 : (0 : Int) ≤ (o : Int) := by omega
            have ir : (rn : Int) < (T : Int) := by omega
            have ir0 : (0 : Int) ≤ (rn : Int) := by omega
            go_wp2_with fail
            go_region
            all_goals
              go_wp2_with fail
              go_roundw
              case rel => exact ⟨i + 1, by congr 1, hit, NX.out 1, NBX.out 1⟩
              case measure => simp [intOf]; omega
          · have u1 : decide ((i : Int) < (xi.length : Int)) = false := decide_eq_false (by omega)
            have u1n : decide (i < xi.length) = false := decide_eq_false hit
            have TK : xi.take i = xi := List.take_of_length_le (by omega)
            rw [TK] at C
            have NX := Lib.hid (show DeR w g T T W.length ss (.int .i64 ((k : Int) + 1)) wr from ⟨k + 1, by congr 1, hlt, by rw [WS.out]; exact C.out⟩)
            clear TK
            go_wp2_with fail
            go_roundw
            case rel => exact NX.out
            case measure => simp [intOf]; omega
      · have t1 : decide ((k : Int) < (ss.length : Int)) = false := decide_eq_false (by omega)
        have t1n : decide (k < ss.length) = false := decide_eq_false hlt
        have hke : k = ss.length := by omega
        obtain ⟨t, ht⟩ : ∃ t, T = t + 1 := ⟨T - 1, by omega⟩
        have cl := C.out.cell t (by omega)
        have D := Lib.hid (show castF (goF W.length ss k) t = (mxN (fun i => cntF W.length ss i ss.length) W.length : Int) by
          rw [hke]
          unfold castF
          rw [← P.out.depth e3]
          congr 2
          have := HT.out; omega)
        rw [D.out] at cl
        have F := Lib.hid (show DepthR w W fan ss (.returned (.tuple #[.int .i64 (mxN (fun i => cntF W.length ss i ss.length) W.length : Int), .int .i64 0])) wr from ⟨_, 0, rfl, CI.out, by rw [if_pos rfl], C.out.bel⟩)
        have lg := C.out.own.lt'
        have et : (T : Int) - 1 = (t : Int) := by omega
        have it : (t : Int) < (T : Int) := by omega
        have it0 : (0 : Int) ≤ (t : Int) := by omega
        clear hke ht D
        go_wp2_with fail
        go_ret2
        exact F.out
  · have F := Lib.hid (show DepthR w W fan ss (.returned (.tuple #[.int .i64 0, .int .i64 E])) w1 from ⟨0, E, rfl, CI.out, by rw [if_neg hne], K1.out⟩)
    have t1 : decide (E = 0) = false := decide_eq_false hne
    have t2 : (E == 0) = false := by simpa using hne
    have t3 : (E != 0) = true := by simpa using hne
    clear hne hE k1
    go_wp2_with fail
    go_ret2
    exact F.out
end Go.Proofs.Ythajgfldjjgkiaa
