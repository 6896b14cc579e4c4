/- The heap: made of weights. -/
import Derived.Test.YthajgfldjjgkiaaHs
import Derived.Test.YthajgfldjjgkiaaMk
namespace Go.Proofs.Ythajgfldjjgkiaa
open Go.RowKit
set_option maxRecDepth 100000

theorem info70 : (Try.prog.info? 70).map (fun i => (i.zero, i.size, i.bytes)) = some (some (.agg #[.int .i64 0, .int .i64 0]), 2, 16) := by kernel_rfl
theorem info3 : (Try.prog.info? 3).map (fun i => (i.zero, i.size, i.bytes)) = some (some (.int .i64 0), 1, 8) := by kernel_rfl
theorem info46 : (Try.prog.info? 46).map (fun i => (i.zero, i.size, i.bytes)) = some (some (.agg #[.slice none 0 0, .int .i64 0]), 2, 32) := by kernel_rfl
/-- A row is made, all zero. -/
theorem wp_mk {w : World} {ops : Array Oper} {rest : List Oper} {o : Oper} {a : Act} {Q : Exit → Act → World → Prop} (hg : o.guard = none) (l c : Operand) (t e : TypeId) (hop : o.op = Op.makeSlice t l c)
    (z : Value) (size bytes : Nat) (h1 : Try.prog.underlying t = some (.slice e)) (hinfo : (Try.prog.info? e).map (fun i => (i.zero, i.size, i.bytes)) = some (some z, size, bytes))
    (kl kc : IntKind) (n : Nat) (hl : a.eval l = .int kl (n : Int)) (hc : a.eval c = .int kc (n : Int)) (hb : bytes * n ≤ 281474976710656) (hn : n ≤ 9223372036854775807) (xs : List Value) (hxs : madeCells z.cells (n * size) = xs.toArray)
    (hK : ∀ w', BlkAt w' w.heap.size e xs → Below w.heap.size w w' → wpList Try.prog ops Q rest (a.put o.dst (.slice (some ⟨w.heap.size, 0, none⟩) n n)) w') :
    wpList Try.prog ops Q (o :: rest) a w := by
  obtain ⟨i0, hi, hz0, hz1, hz2⟩ := info_parts hinfo
  refine wpList_plain hg fun K hK' => ?_
  have hr := run_make (P := Try.prog) w t e i0 z h1 hi hz0 kl kc (n : Int) (n : Int) (by omega) (Int.le_refl _) (by
    rw [hz2]
    have : ((bytes * n : Nat) : Int) ≤ 281474976710656 := by omega
    rwa [Int.natCast_mul] at this) (by omega)
  rw [Int.toNat_natCast, hz1, hxs] at hr
  unfold Oper.wp
  simp [execOp, hop, hl, hc, hr, Result.andThen]
  exact hK' _ _ (hK _ (BlkAt.new w xs e) (below_alloc w _))
def zRn : Rn := ⟨0, 0⟩
theorem rnV_zero (n : Nat) : madeCells (Value.agg #[.int .i64 0, .int .i64 0]).cells (n * 2) = (rnV (fun _ => zRn) n).toArray := by
  apply Array.ext_getElem?
  intro j
  by_cases hj : j < n * 2
  · have ej : j = j / 2 * 2 + j % 2 := by omega
    have hq : j / 2 < n := by omega
    have := rnV_at (fun _ => zRn) n (j / 2) hq
    have hr : j % 2 = 0 ∨ j % 2 = 1 := by omega
    have hL : (madeCells (Value.agg #[.int .i64 0, .int .i64 0]).cells (n * 2))[j]? = some (.int .i64 0) := by
      unfold madeCells
      rw [Array.getElem?_map, Array.getElem?_range]
      rw [if_pos hj]
      show some _ = _
      have hc : (Value.agg #[.int .i64 0, .int .i64 0]).cells = #[.int .i64 0, .int .i64 0] := rfl
      rw [hc]
      show some ((#[.int .i64 0, .int .i64 0] : Array Value)[j % 2]!) = _
      rcases hr with e | e <;> rw [e] <;> rfl
    rw [hL, List.getElem?_toArray]
    rcases hr with e | e
    · rw [ej, e, Nat.add_zero, this.1]; rfl
    · rw [ej, e, this.2]; rfl
  · rw [Array.getElem?_eq_none (by rw [size_madeCells]; omega), Array.getElem?_eq_none (by simp [rnV_len]; omega)]
/-- The first k runs. -/
def bldF (W : List Int) (k : Nat) : Nat → Rn := fun i => if i < k then ⟨(W.getD i 0).toNat, i⟩ else zRn
theorem bldF_step (W : List Int) (k : Nat) : upR (bldF W k) k ⟨(W.getD k 0).toNat, k⟩ = bldF W (k + 1) := by
  funext i
  unfold upR bldF
  by_cases e : i = k
  · rw [if_pos e, e, if_pos (Nat.lt_succ_self _)]
  · rw [if_neg e]
    by_cases h : i < k
    · rw [if_pos h, if_pos (by omega)]
    · rw [if_neg h, if_neg (by omega)]
theorem bld_cont {W : List Int} (hW : Wts W) : Cont (bldF W W.length) W.length (InL W) := by
  refine ⟨fun i hi => ?_, fun x hx => ?_, fun i j hi hj e => ?_⟩
  · unfold bldF InL
    rw [if_pos hi]
    have := hW _ (List.getElem_mem hi)
    simp only [List.getD_eq_getElem?_getD, List.getElem?_eq_getElem hi, Option.getD_some]
    rw [Int.toNat_of_nonneg this.1]
  · have hlt := (List.getElem?_eq_some_iff.1 hx).1
    refine ⟨x.num, hlt, ?_⟩
    obtain ⟨xw, xn⟩ := x
    unfold InL at hx
    simp only at hx hlt
    unfold bldF
    rw [if_pos hlt, List.getD_eq_getElem?_getD, hx]
    simp
  · unfold bldF at e
    rw [if_pos hi, if_pos hj] at e
    injection e
def B1R (W : List Int) (g : Nat) (w : World) (v12 : Value) (wr : World) : Prop := ∃ k : Nat, v12 = .int .i64 (k : Int) ∧ k ≤ W.length ∧ BlkAt wr g 70 (rnV (bldF W k) W.length) ∧ Kp w wr (fun k => k = g)
def B2R (W : List Int) (g : Nat) (w : World) (v29 : Value) (wr : World) : Prop := ∃ (k : Nat) (F : Nat → Rn), v29 = .int .i64 (k : Int) ∧ k ≤ W.length / 2 ∧ BlkAt wr g 70 (rnV F W.length) ∧ Heap (W.length / 2 - k) F W.length ∧ Cont F W.length (InL W) ∧ Kp w wr (fun k => k = g)
def HeapR (W : List Int) (w : World) (e : Ending) (w' : World) : Prop := ∃ g F, e = .returned (.slice (some ⟨g, 0, none⟩) W.length W.length) ∧ w.heap.size ≤ g ∧ BlkAt w' g 70 (rnV F W.length) ∧ Heap 0 F W.length ∧ Cont F W.length (InL W) ∧ Below w.heap.size w w'
set_option maxHeartbeats 4000000 in
theorem newHeap_ok {w : World} {v : Value} {W : List Int} (hv : SlI w v W) (hW : Wts W) (hn : W.length ≤ 65536) (h1 : 1 ≤ W.length) :
    Calls Try.prog 35 #[v] w (HeapR W w) := by
  have HV := Lib.hid hv
  have HW := Lib.hid hW
  obtain ⟨b, off, c, rfl, hc, _, _⟩ := hv.get (List.length_pos_iff.1 h1)
  have BC := Lib.hid (bld_cont hW)
  obtain ⟨n, hN⟩ : ∃ n, n = W.length := ⟨_, rfl⟩
  have HN := Lib.hid hN
  rw [← hN] at hc hn h1 ⊢
  clear hv hW hN
  have hsz := Lib.hid (Nat.le_refl w.heap.size)
  go_enter Try.func35, Try.ntmps35
  go_wp2_with (at_make; refine wp_mk rfl _ _ 59 70 rfl (.agg #[.int .i64 0, .int .i64 0]) 2 16 Try.underlying59 info70 .i64 .i64 n rfl rfl (by omega) (by omega) _ (rnV_zero n) ?_; intro w1 hb1 hbel1)
  have ST := Lib.hid (show B1R W w.heap.size w1 (.int .i64 0) w1 from ⟨0, rfl, Nat.zero_le _, by
    rw [HN.out] at hb1
    have : rnV (fun _ => zRn) W.length = rnV (bldF W 0) W.length := rnV_congr _ fun i _ => by unfold bldF; rw [if_neg (by omega)]
    rw [← this]; exact hb1, Kp.refl _ _⟩)
  have BEL := Lib.hid hbel1
  have hgw := Lib.hid hb1.lt
  clear hb1 hbel1
  generalize hG : w.heap.size = g at *
  have hGh := Lib.hid hG
  clear hG
  go_loopw [12] (fun v12 wr => B1R W g w1 v12 wr) (fun v12 _ => n - (intOf v12).toNat)
  case atStart => exact ST.out
  case round =>
    clear ST
    obtain ⟨k, rfl, hk, hb, hkp⟩ := hrel
    have HB := Lib.hid hb
    have HK := Lib.hid hkp
    clear hb hkp
    have hk2 : k ≤ n := by rw [HN.out]; exact hk
    clear hk
    by_cases hlt : k < n
    · have t1 : decide ((k : Int) < (n : Int)) = true := decide_eq_true (by omega)
      have t1n : decide (k < n) = true := decide_eq_true hlt
      have hltW : k < W.length := by rw [← HN.out]; exact hlt
      have hw := HW.out _ (List.getElem_mem hltW)
      obtain ⟨V2, hbl, _⟩ := (HV.out.below (show Below w.heap.size w wr from by rw [hGh.out]; exact BEL.out.trans (HK.out.below (B := g) (Nat.le_of_lt hgw.out) (fun x e => Nat.le_of_eq e.symm)))).at_ k hltW
      have wt0 := Int.toNat_of_nonneg hw.1
      have hgd : W.getD k 0 = W[k] := by simp [hltW]
      have NX := Lib.hid (blk_put HB.out k hltW ⟨(W.getD k 0).toNat, k⟩)
      rw [bldF_step, hgd] at NX
      simp only [wt0] at NX
      have c0 := HB.out.cell (k * 2) _ (rnV_at _ _ k hltW).1
      have c1 := HB.out.cell (k * 2 + 1) _ (rnV_at _ _ k hltW).2
      have f0 := HB.out.free (k * 2)
      have f1 := HB.out.free (k * 2 + 1)
      have lg := HB.out.lt
      have NK := Lib.hid (HK.out.tr ((Kp.set wr g (k * 2) (.int .i64 W[k])).tr (Kp.set _ g (k * 2 + 1) (.int .i64 (k : Int)))))
      clear hw wt0 hgd
      generalize W[k] = x at *
      have ik : (k : Int) < (n : Int) := by omega
      have ik0 : (0 : Int) ≤ (k : Int) := by omega
      go_wp2_with fail
      go_roundw
      case rel => exact ⟨k + 1, by congr 1, hltW, NX.out, NK.out⟩
      case measure => simp [intOf]; omega
    · have t1 : decide ((k : Int) < (n : Int)) = false := decide_eq_false (by omega)
      have t1n : decide (k < n) = false := decide_eq_false hlt
      have ek : k = W.length := by have := HN.out; omega
      have S2 := Lib.hid (show B2R W g wr (.int .i64 0) wr from ⟨0, bldF W k, rfl, Nat.zero_le _, HB.out, by rw [Nat.sub_zero]; exact Heap.top _ _, by rw [ek]; exact BC.out, Kp.refl _ _⟩)
      have B2 := Lib.hid (show Kp w1 wr (fun k => k = g) from HK.out)
      clear HB HK ek hlt
      obtain ⟨wo, rfl⟩ : ∃ wo, wo = wr := ⟨wr, rfl⟩
      have hq : (n : Int) / 2 = ((n / 2 : Nat) : Int) := by omega
      have HQ := Lib.hid hq
      obtain ⟨hf, hHf⟩ : ∃ hf, hf = n / 2 := ⟨_, rfl⟩
      have HHF := Lib.hid hHf
      have q0 : (n : Int) / 2 = (hf : Int) := by omega
      have q1 : hf ≤ 32768 := by omega
      clear hq hHf
      go_wp2_with fail
      clear q0
      go_loopw [29] (fun v29 wr => B2R W g wo v29 wr) (fun v29 _ => hf - (intOf v29).toNat)
      case atStart => exact S2.out
      case round =>
        clear S2
        obtain ⟨j, F, rfl, hj, hb, hh, hc2, hkp⟩ := hrel
        have HB := Lib.hid hb
        have HK := Lib.hid hkp
        have HH := Lib.hid hh
        have HC := Lib.hid hc2
        have hj2 : j ≤ hf := by have := HN.out; have := HHF.out; omega
        clear hb hkp hh hc2 hj
        by_cases hlt : j < hf
        · have t2 : decide ((j : Int) < (hf : Int)) = true := decide_eq_true (by omega)
          have t2n : decide (j < hf) = true := decide_eq_true hlt
          obtain ⟨lo, hlo⟩ : ∃ lo, lo = hf - 1 - j := ⟨_, rfl⟩
          have e1 : (hf : Int) - 1 - (j : Int) = (lo : Int) := by omega
          have SK := Lib.hid (sink_ok (w := wr) (lo := lo) HB.out (Nat.le_refl _) (by have := HN.out; have := HHF.out; omega) (by have := HN.out; omega) (by
            have : W.length / 2 - j = lo + 1 := by have := HN.out; have := HHF.out; omega
            rw [← this]; exact HH.out))
          rw [← HN.out] at SK
          have LO := Lib.hid hlo
          clear hlo
          go_wp2_with fail
          refine SK.out.mono ?_
          rintro e w3 ⟨rfl, G, g1, g2, g3⟩
          have NX := Lib.hid (show B2R W g wo (.int .i64 ((j : Int) + 1)) w3 from ⟨j + 1, G, by congr 1, by have := HN.out; have := HHF.out; omega, by rw [← HN.out]; exact g1, by
            have : W.length / 2 - (j + 1) = lo := by have := HN.out; have := HHF.out; have := LO.out; omega
            rw [this, ← HN.out]; exact g2.1, by rw [← HN.out]; exact g2.2 _ (by rw [HN.out]; exact HC.out), HK.out.tr g3⟩)
          clear g1 g2 g3
          go_wp2_with fail
          go_roundw
          case rel => exact NX.out
          case measure => simp [intOf]; omega
        · have t2 : decide ((j : Int) < (hf : Int)) = false := decide_eq_false (by omega)
          have t2n : decide (j < hf) = false := decide_eq_false hlt
          have FIN := Lib.hid (show HeapR W w (.returned (.slice (some ⟨g, 0, none⟩) W.length W.length)) wr from ⟨g, F, rfl, Nat.le_of_eq hGh.out, HB.out, by
            have : W.length / 2 - j = 0 := by have := HN.out; have := HHF.out; omega
            rw [← this]; exact HH.out, HC.out, by
            have k := (B2.out.tr HK.out).below (B := g) (Nat.le_of_lt hgw.out) (fun x e => Nat.le_of_eq e.symm)
            rw [hGh.out]; exact BEL.out.trans k⟩)
          rw [← HN.out] at FIN
          clear hlt
          go_wp2_with fail
          go_ret
          exact FIN.out
end Go.Proofs.Ythajgfldjjgkiaa
