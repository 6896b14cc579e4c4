/- Make. -/
import Derived.Test.YthajgfldjjgkiaaGv
namespace Go.Proofs.Ythajgfldjjgkiaa
open Go.RowKit
set_option maxRecDepth 100000

/-- A row is made, of so many as a sum says. -/
theorem wp_mkL {w : World} {ops : Array Oper} {rest : List Oper} {o : Oper} {a : Act} {Q : Exit → Act → World → Prop} (hg : o.guard = none) (l c : Operand) (t e : TypeId) (hop : o.op = Op.makeSlice t l c)
    (z : Value) (size bytes : Nat) (h1 : Try.prog.underlying t = some (.slice e)) (hinfo : (Try.prog.info? e).map (fun i => (i.zero, i.size, i.bytes)) = some (some z, size, bytes))
    (kl kc : IntKind) (L : Int) (n : Nat) (hL : L = (n : Int)) (hl : a.eval l = .int kl L) (hc : a.eval c = .int kc L) (hb : bytes * n ≤ 281474976710656) (hn : n ≤ 9223372036854775807) (xs : List Value) (hxs : madeCells z.cells (n * size) = xs.toArray)
    (hK : ∀ w', BlkAt w' w.heap.size e xs → Below w.heap.size w w' → wpList Try.prog ops Q rest (a.put o.dst (.slice (some ⟨w.heap.size, 0, none⟩) n n)) w') :
    wpList Try.prog ops Q (o :: rest) a w := by
  subst hL
  exact wp_mk hg l c t e hop z size bytes h1 hinfo kl kc n hl hc hb hn xs hxs hK
/-- The steps of Make. -/
def mkAll (W : List Int) (fan : Nat) : List Stp := if W.length = 1 then [⟨[0], 1⟩] else mkS W fan (need W.length fan)
theorem sV_zero (n : Nat) : madeCells (Value.agg #[.slice none 0 0, .int .i64 0]).cells (n * 2) = (sV (fun _ => .slice none 0 0) (fun _ => 0) n).toArray := by
  apply Array.ext_getElem?
  intro j
  by_cases hj : j < n * 2
  · have ej : j = j / 2 * 2 + j % 2 := by omega
    have hq : j / 2 < n := by omega
    have := sV_at (fun _ => .slice none 0 0) (fun _ => 0) n (j / 2) hq
    have hr : j % 2 = 0 ∨ j % 2 = 1 := by omega
    have hL : (madeCells (Value.agg #[.slice none 0 0, .int .i64 0]).cells (n * 2))[j]? = some ((#[.slice none 0 0, .int .i64 0] : Array Value)[j % 2]!) := by
      unfold madeCells
      rw [Array.getElem?_map, Array.getElem?_range]
      rw [if_pos hj]
      rfl
    rw [hL, List.getElem?_toArray]
    rcases hr with e | e
    · rw [ej, e, Nat.add_zero, this.1, Nat.mul_mod_left]; rfl
    · rw [ej, e, this.2, Nat.mul_add_mod_self_right]; rfl
  · rw [Array.getElem?_eq_none (by rw [size_madeCells]; omega), Array.getElem?_eq_none (by simp [sV_len]; omega)]
/-- Steps so far, in a row of many. -/
def slF (gi : Nat → Nat) (ss : List Stp) : Nat → Value := fun i => if i < ss.length then .slice (some ⟨gi i, 0, none⟩) (ss.getD i ⟨[], 0⟩).inn.length (ss.getD i ⟨[], 0⟩).inn.length else .slice none 0 0
theorem slF_snoc (gi : Nat → Nat) (ss : List Stp) (x : Stp) (g : Nat) : updF (slF gi ss) ss.length (.slice (some ⟨g, 0, none⟩) x.inn.length x.inn.length) = slF (updF gi ss.length g) (ss ++ [x]) := by
  funext i
  unfold slF
  by_cases e : i = ss.length
  · subst e
    rw [updF_same, updF_same, if_pos (by simp)]
    simp
  · rw [updF_other _ _ _ _ e, updF_other _ _ _ _ e]
    by_cases h : i < ss.length
    · rw [if_pos h, if_pos (by simp; omega)]
      simp [List.getElem?_append_left h]
    · rw [if_neg h, if_neg (by simp; omega)]
theorem outs_snoc (ss : List Stp) (x : Stp) : updF (outs ss) ss.length x.out = outs (ss ++ [x]) := by
  funext i
  unfold outs
  by_cases e : i = ss.length
  · subst e
    rw [updF_same]
    simp
  · rw [updF_other _ _ _ _ e]
    by_cases h : i < ss.length
    · simp [List.getElem?_append_left h]
    · rw [List.getD_eq_getElem?_getD, List.getD_eq_getElem?_getD, List.getElem?_eq_none (by omega), List.getElem?_eq_none (by simp; omega)]
structure MkAt (w wr : World) (hb g gs N T : Nat) (W : List Int) (fan s : Nat) : Prop where
  heap : ∃ F, HAt wr hb g (left W.length fan s) N F ∧ Heap 0 F (left W.length fan s) ∧ Cont F (left W.length fan s) (InL (mkA W fan s))
  row : ∃ gi, BlkAt wr gs 46 (sV (slF gi (mkS W fan s)) (outs (mkS W fan s)) T) ∧ (∀ i, i < s → BlkAt wr (gi i) 3 (iV ((mkS W fan s).getD i ⟨[], 0⟩).inn) ∧ w.heap.size ≤ gi i) ∧ ∀ i j, i < s → j < s → gi i = gi j → i = j
  bel : Below w.heap.size w wr
  r1 : w.heap.size ≤ hb
  r2 : w.heap.size ≤ g
  r3 : w.heap.size ≤ gs
def MkR (w : World) (hb g gs N T : Nat) (W : List Int) (fan : Nat) (v10 v43 : Value) (wr : World) : Prop := ∃ s : Nat, v43 = .int .i64 (s : Int) ∧ v10 = .int .i64 (tkn W.length fan s : Int) ∧ s ≤ T ∧ MkAt w wr hb g gs N T W fan s
def MakeR (w : World) (ss : List Stp) (e : Ending) (w' : World) : Prop := ∃ v g gi, e = .returned (.tuple #[v, .int .i64 0]) ∧ StOwn w' w.heap.size v ss g gi ∧ Below w.heap.size w w'
theorem MkAt.done {w wr : World} {hb g gs N T : Nat} {W : List Int} {fan : Nat} (h : MkAt w wr hb g gs N T W fan T) : MakeR w (mkS W fan T) (.returned (.tuple #[.slice (some ⟨gs, 0, none⟩) T T, .int .i64 0])) wr := by
  obtain ⟨gi, r1, r2, r3⟩ := h.row
  refine ⟨_, gs, gi, rfl, ⟨by rw [mkS_len], ?_, h.r3, ?_, ?_⟩, h.bel⟩
  · rw [mkS_len]
    rw [sV_congr (g := slF gi (mkS W fan T)) (p := outs (mkS W fan T)) T (fun i hi => ⟨by unfold slF; rw [if_pos (by rw [mkS_len]; exact hi)], rfl⟩)]
    exact r1
  · rw [mkS_len]; exact r2
  · rw [mkS_len]; exact r3
/-- One step more. -/
theorem MkAt.next {w wr w' : World} {hb g gs N T : Nat} {W : List Int} {fan s : Nat} (h : MkAt w wr hb g gs N T W fan s) (hf : 2 ≤ fan) (hn : 2 ≤ W.length) (hs : s < need W.length fan) (hT : T = need W.length fan) {v : Value} {out : Nat} (ho : out = W.length + s)
    (m : MergeR wr hb g (left W.length fan s) N (tkn W.length fan s) out (mkA W fan s) (.returned v) w') : ∃ gi, v = .agg #[.slice (some ⟨gi, 0, none⟩) (tkn W.length fan s) (tkn W.length fan s), .int .i64 (out : Int)] ∧
    (∃ x y, w'.cell? ⟨gs, s * 2, none⟩ = some x ∧ w'.cell? ⟨gs, s * 2 + 1, none⟩ = some y) ∧ (∀ j, w'.frozen? ⟨gs, j, none⟩ = false) ∧ gs < w'.heap.size ∧
    MkAt w ((w'.setCell ⟨gs, s * 2, none⟩ (.slice (some ⟨gi, 0, none⟩) (tkn W.length fan s) (tkn W.length fan s))).setCell ⟨gs, s * 2 + 1, none⟩ (.int .i64 (out : Int))) hb g gs N T W fan (s + 1) := by
  obtain ⟨g1, he, hg1, b1, G, k1, k2, k3, k4⟩ := m
  obtain ⟨F, f1, f2, f3⟩ := h.heap
  obtain ⟨gi, r1, r2, r3⟩ := h.row
  injection he with he
  have n1 : gs ≠ hb := blk_ne r1 f1.box (by decide)
  have n2 : gs ≠ g := blk_ne r1 f1.row (by decide)
  have r1' := r1.kp k4 (by unfold two; omega)
  have n3 : gs ≠ g1 := blk_ne r1' b1 (by decide)
  have n4 : hb ≠ gs := fun e => n1 e.symm
  have n5 : g ≠ gs := fun e => n2 e.symm
  have hl := left_step hf hn hs
  have hlen : (srt (pkL (mkA W fan s) (tkn W.length fan s))).length = tkn W.length fan s := by rw [srt_len, pkL_len]
  have K : Kp w' ((w'.setCell ⟨gs, s * 2, none⟩ (.slice (some ⟨g1, 0, none⟩) (tkn W.length fan s) (tkn W.length fan s))).setCell ⟨gs, s * 2 + 1, none⟩ (.int .i64 (out : Int))) (fun k => k = gs) := (Kp.set _ _ _ _).tr (Kp.set _ _ _ _)
  refine ⟨g1, he, ⟨_, _, r1'.cell (s * 2) _ (sV_at _ _ T s (by omega)).1, r1'.cell (s * 2 + 1) _ (sV_at _ _ T s (by omega)).2⟩, r1'.free, r1'.lt, ⟨⟨G, ?_, ?_, ?_⟩, ⟨updF gi s g1, ?_, ?_, ?_⟩, ?_, h.r1, h.r2, h.r3⟩⟩
  · have e : left W.length fan s - (tkn W.length fan s - 1) = left W.length fan (s + 1) := by have := tkn_ge W.length fan s hf; omega
    rw [← e]
    exact k1.kp K n4 n5
  · have e : left W.length fan s - (tkn W.length fan s - 1) = left W.length fan (s + 1) := by have := tkn_ge W.length fan s hf; omega
    rw [← e]; exact k2
  · have e : left W.length fan s - (tkn W.length fan s - 1) = left W.length fan (s + 1) := by have := tkn_ge W.length fan s hf; omega
    rw [← e]; exact k3
  · have := (r1'.set (s * 2) (.slice (some ⟨g1, 0, none⟩) (tkn W.length fan s) (tkn W.length fan s))).set (s * 2 + 1) (.int .i64 (out : Int))
    rw [sV_set _ _ _ _ T s (by omega)] at this
    have a1 := slF_snoc gi (mkS W fan s) ⟨srt (pkL (mkA W fan s) (tkn W.length fan s)), ((W.length + s : Nat) : Int)⟩ g1
    have a2 := outs_snoc (mkS W fan s) ⟨srt (pkL (mkA W fan s) (tkn W.length fan s)), ((W.length + s : Nat) : Int)⟩
    simp only [mkS_len, hlen] at a1 a2
    rw [a1, ho, a2] at this
    rw [ho]
    exact this
  · intro i hi
    by_cases e : i = s
    · subst e
      rw [updF_same, mkS]
      refine ⟨?_, by have := h.bel.size; omega⟩
      have : (mkS W fan i ++ [(⟨srt (pkL (mkA W fan i) (tkn W.length fan i)), ((W.length + i : Nat) : Int)⟩ : Stp)]).getD i ⟨[], 0⟩ = ⟨srt (pkL (mkA W fan i) (tkn W.length fan i)), ((W.length + i : Nat) : Int)⟩ := by
        rw [List.getD_eq_getElem?_getD, List.getElem?_append_right (by rw [mkS_len]; exact Nat.le_refl _), mkS_len, Nat.sub_self]; rfl
      rw [this]
      exact b1.kp K (fun e => n3 e.symm)
    · rw [updF_other _ _ _ _ e, mkS]
      have hi2 : i < s := by omega
      have q := r2 i hi2
      have : (mkS W fan s ++ [(⟨srt (pkL (mkA W fan s) (tkn W.length fan s)), ((W.length + s : Nat) : Int)⟩ : Stp)]).getD i ⟨[], 0⟩ = (mkS W fan s).getD i ⟨[], 0⟩ := by
        rw [List.getD_eq_getElem?_getD, List.getElem?_append_left (by rw [mkS_len]; exact hi2), List.getD_eq_getElem?_getD]
      rw [this]
      have m1 : gi i ≠ hb := blk_ne q.1 f1.box (by decide)
      have m2 : gi i ≠ g := blk_ne q.1 f1.row (by decide)
      have m3 : gi i ≠ gs := blk_ne q.1 r1 (by decide)
      exact ⟨(q.1.kp k4 (by unfold two; omega)).kp K m3, q.2⟩
  · intro i j hi hj e
    by_cases ei : i = s <;> by_cases ej : j = s
    · omega
    · subst ei
      rw [updF_same, updF_other _ _ _ _ ej] at e
      have := (r2 j (by omega)).1.lt
      omega
    · subst ej
      rw [updF_same, updF_other _ _ _ _ ei] at e
      have := (r2 i (by omega)).1.lt
      omega
    · rw [updF_other _ _ _ _ ei, updF_other _ _ _ _ ej] at e
      exact r3 i j (by omega) (by omega) e
  · have b0 := h.bel.size
    refine (h.bel.trans (k4.below b0 (fun x e => ?_))).trans (K.below (Nat.le_trans b0 k4.size) (fun x e => ?_))
    · have := h.r1; have := h.r2; rcases e with e | e <;> omega
    · have := h.r3; omega
set_option maxHeartbeats 4000000 in
theorem make_one {w : World} {v : Value} {W : List Int} {fan : Nat} (hv : SlI w v W) (hE : givE W fan = 0) (h1 : W.length = 1) :
    Calls Try.prog 25 #[v, .int .i64 (fan : Int)] w (MakeR w [⟨[0], 1⟩]) := by
  have GE := Lib.hid (may_ok (fan := (fan : Int)) hv)
  rw [hE] at GE
  obtain ⟨a, c, rfl, hc, hc2⟩ := hv.form
  rw [h1] at GE hc ⊢
  clear hv hE h1
  go_enter Try.func25, Try.ntmps25
  go_wp2_with fail
  refine GE.out.mono ?_
  rintro e w' ⟨rfl, rfl⟩
  have B1 := Lib.hid (BlkAt.new w [.int .i64 0] 3)
  have B2 := Lib.hid (BlkAt.new (w.alloc (.cells #[.int .i64 0] 3)) [.slice (some ⟨w.heap.size, 0, none⟩) 1 1, .int .i64 1] 46)
  have BE := Lib.hid (show Below w.heap.size w ((w.alloc (.cells #[.int .i64 0] 3)).alloc (.cells #[.slice (some ⟨w.heap.size, 0, none⟩) 1 1, .int .i64 1] 46)) from ((Below.refl _ _).alloc (Nat.le_refl _) _).alloc (by simp) _)
  have hs : (w.alloc (.cells #[.int .i64 0] 3)).heap.size = w.heap.size + 1 := by simp
  rw [hs] at B2
  clear hs
  go_wp2_with fail
  go_ret2
  refine ⟨_, w.heap.size + 1, fun _ => w.heap.size, rfl, ⟨rfl, B2.out, Nat.le_succ _, fun i hi => ?_, fun i j hi hj _ => ?_⟩, BE.out⟩
  · have : i = 0 := by simp at hi; omega
    subst this
    exact ⟨B1.out.alloc _, Nat.le_refl _⟩
  · simp at hi hj; omega
set_option maxHeartbeats 4000000 in
theorem make_many {w : World} {v : Value} {W : List Int} {fan : Nat} (hv : SlI w v W) (hE : givE W fan = 0) (h1 : 2 ≤ W.length) :
    Calls Try.prog 25 #[v, .int .i64 (fan : Int)] w (MakeR w (mkS W fan (need W.length fan))) := by
  have GE := Lib.hid (may_ok (fan := (fan : Int)) hv)
  rw [hE] at GE
  obtain ⟨e1, e2, _, e3, e4⟩ := givE_ok hE
  have NH := Lib.hid (newHeap_ok hv e4 e3 (by omega))
  have MK := Lib.hid (mk_ok (fan := fan) e4 (by omega) h1)
  have LS := Lib.hid (fun s => left_step (n := W.length) (fan := fan) (s := s) (by omega) h1)
  have TOT := Lib.hid e4.tot
  obtain ⟨a, c, rfl, hc, hc2⟩ := hv.form
  obtain ⟨T, hT⟩ : ∃ T, T = need W.length fan := ⟨_, rfl⟩
  have HT := Lib.hid hT
  rw [← hT]
  have NS := need_spec (fan := fan) (by omega) h1
  obtain ⟨q, q1, q2⟩ := NS
  rw [← hT] at q2
  have hdiv : ((W.length : Int) + (fan : Int) - 3) / ((fan : Int) - 1) = (T : Int) := by
    have : (W.length + fan - 3) / (fan - 1) = T := hT.symm
    have e5 : (W.length : Int) + (fan : Int) - 3 = ((W.length + fan - 3 : Nat) : Int) := by omega
    have e6 : (fan : Int) - 1 = ((fan - 1 : Nat) : Int) := by omega
    rw [e5, e6, ← this]
    rfl
  have hmod : ((W.length : Int) - 2) % ((fan : Int) - 1) = (((W.length - 2) % (fan - 1) : Nat) : Int) := by
    have e5 : (W.length : Int) - 2 = ((W.length - 2 : Nat) : Int) := by omega
    have e6 : (fan : Int) - 1 = ((fan - 1 : Nat) : Int) := by omega
    rw [e5, e6]
    rfl
  have TB := Lib.hid (show T ≤ 65536 from by
    have : q ≤ W.length - 2 := by rw [q1]; have := Nat.le_mul_of_pos_left q (show 0 < fan - 1 by omega); omega
    omega)
  obtain ⟨r, hr⟩ : ∃ r, r = (W.length - 2) % (fan - 1) := ⟨_, rfl⟩
  rw [← hr] at hmod q1
  have HR := Lib.hid hr
  have hrlt : r < fan - 1 := by rw [hr]; exact Nat.mod_lt _ (by omega)
  clear hv hE hT q1 q2 hr e4
  have HDIV := Lib.hid hdiv
  have HMOD := Lib.hid hmod
  have b1 : (W.length : Int) ≤ 65536 := by omega
  have b2 : (2 : Int) ≤ (W.length : Int) := by omega
  have b0 : decide ((W.length : Int) = 1) = false := decide_eq_false (by omega)
  have b0b : ((W.length : Int) == 1) = false := by simp; omega
  have b0c : (W.length == 1) = false := by simp; omega
  clear hdiv hmod
  go_enter Try.func25, Try.ntmps25
  go_wp2_with fail
  refine GE.out.mono ?_
  rintro e w' ⟨rfl, rfl⟩
  go_wp2_with fail
  refine NH.out.mono ?_
  rintro e w1 ⟨g, F, rfl, n1, n2, n3, n4, n5⟩
  have N1 := Lib.hid n1
  have N2 := Lib.hid n2
  have N3 := Lib.hid n3
  have N4 := Lib.hid n4
  have N5 := Lib.hid n5
  clear n1 n2 n3 n4 n5
  go_upto_region 8 with fail
  have BA := Lib.hid (below_alloc w1 (.cells #[.slice (some ⟨g, 0, none⟩) W.length W.length] 59))
  have HX := Lib.hid (show HAt (w1.alloc (.cells #[.slice (some ⟨g, 0, none⟩) W.length W.length] 59)) w1.heap.size g W.length W.length F from ⟨BlkAt.new w1 [.slice (some ⟨g, 0, none⟩) W.length W.length] 59, N2.out.below BA.out, Nat.le_refl _, e3⟩)
  have BX := Lib.hid (show Below w.heap.size w (w1.alloc (.cells #[.slice (some ⟨g, 0, none⟩) W.length W.length] 59)) from N5.out.trans (BA.out.mono N5.out.size))
  have HBX := Lib.hid N5.out.size
  clear N2 N5 BA GE NH
  generalize w1.heap.size = hb at *
  generalize w1.alloc (.cells #[.slice (some ⟨g, 0, none⟩) W.length W.length] 59) = x at *
  have hfn : ¬ (fan : Int) - 1 = 0 := by omega
  have hT5 := TB.out
  go_wp2_with (at_make; refine wp_mkL rfl _ _ 23 46 rfl (.agg #[.slice none 0 0, .int .i64 0]) 2 32 Try.underlying23 info46 .i64 .i64 _ T HDIV.out rfl rfl (by omega) (by omega) _ (sV_zero T) ?_; intro w2 hb2 hbel2; have hmod := HMOD.out)
  clear hmod
  have ST := Lib.hid (show MkR w hb g x.heap.size W.length T W fan (.int .i64 (2 + (r : Int))) (.int .i64 0) w2 from by
    have b0 := BX.out.size
    refine ⟨0, rfl, ?_, Nat.zero_le _, ⟨F, HX.out.below hbel2, N3.out, N4.out⟩, ⟨fun _ => 0, ?_, fun i hi => absurd hi (by omega), fun i j hi => absurd hi (by omega)⟩, BX.out.trans (hbel2.mono b0), HBX.out, N1.out, b0⟩
    · unfold tkn; rw [if_pos rfl, ← HR.out]; congr 1
    · have e : sV (slF (fun _ => 0) (mkS W fan 0)) (outs (mkS W fan 0)) T = sV (fun _ => .slice none 0 0) (fun _ => 0) T := sV_congr T (fun i hi => ⟨by unfold slF; rw [if_neg (by simp [mkS])], rfl⟩)
      rw [e]
      exact hb2)
  clear hb2 hbel2 HX BX
  generalize x.heap.size = gs at *
  go_loopw [10, 43] (fun v10 v43 wr => MkR w hb g gs W.length T W fan v10 v43 wr) (fun _ v43 _ => T - (intOf v43).toNat)
  case atStart => exact ST.out
  case round =>
    clear ST
    obtain ⟨s, rfl, rfl, hs, hmk⟩ := hrel
    have M := Lib.hid hmk
    clear hmk
    by_cases hlt : s < T
    · have t1 : decide ((s : Int) < (T : Int)) = true := decide_eq_true (by omega)
      have t1n : decide (s < T) = true := decide_eq_true hlt
      have hsn : s < need W.length fan := by rw [← HT.out]; exact hlt
      obtain ⟨k1, k2⟩ := MK.out s (by omega)
      obtain ⟨k3, k4⟩ := LS.out s hsn
      obtain ⟨F2, m1, m2, m3⟩ := M.out.heap
      have MG := Lib.hid (merge_ok (many := tkn W.length fan s) (out := W.length + s) m1 m2 m3 (by have := tkn_ge W.length fan s (by omega); omega) k3 k1 (by rw [k2]; have := TOT.out; omega) (by rw [mkA_len]) (by omega))
      have NX := Lib.hid (fun v w' => M.out.next (v := v) (w' := w') (by omega) h1 hsn HT.out rfl)
      have hn64 : (W.length : Int) + (s : Int) ≤ 131072 := by omega
      have LE := Lib.hid (show tkn W.length fan (s + 1) = fan by unfold tkn; rw [if_neg (by omega)])
      clear k1 k2 k3 k4 m1 m2 m3 hsn
      obtain ⟨out, ho⟩ : ∃ out, out = W.length + s := ⟨_, rfl⟩
      rw [← ho] at MG NX
      have eo : (W.length : Int) + (s : Int) = (out : Int) := by omega
      have HO := Lib.hid ho
      clear ho
      generalize tkn W.length fan s = tk at *
      go_wp2_with fail
      refine MG.out.mono ?_
      intro e w3 hm
      have hm2 := hm
      obtain ⟨g1, rfl, _⟩ := hm2
      obtain ⟨gi, hgi, ⟨x0, x1, c0, c1⟩, fz, lgs, nx⟩ := NX.out _ _ hm
      have NX2 := Lib.hid nx
      have FIN := Lib.hid (fun w4 (h : MkAt w w4 hb g gs W.length T W fan (s + 1)) => show MkR w hb g gs W.length T W fan (.int .i64 (fan : Int)) (.int .i64 ((s : Int) + 1)) w4 from ⟨s + 1, by congr 1, by rw [LE.out], hlt, h⟩)
      have HGI := Lib.hid hgi
      rw [hgi]
      clear hm nx NX hgi
      have fz0 := fz (s * 2)
      have fz1 := fz (s * 2 + 1)
      clear fz
      have ik : (s : Int) < (T : Int) := by omega
      have ik0 : (0 : Int) ≤ (s : Int) := by omega
      go_wp2_with fail
      go_roundw
      case rel => exact FIN.out _ NX2.out
      case measure => simp [intOf]; omega
    · have t1 : decide ((s : Int) < (T : Int)) = false := decide_eq_false (by omega)
      have t1n : decide (s < T) = false := decide_eq_false hlt
      have hsT : s = T := by omega
      subst hsT
      have D := Lib.hid M.out.done
      clear M
      go_wp2_with fail
      go_ret2
      exact D.out
theorem make_ok {w : World} {v : Value} {W : List Int} {fan : Nat} (hv : SlI w v W) (hE : givE W fan = 0) :
    Calls Try.prog 25 #[v, .int .i64 (fan : Int)] w (MakeR w (mkAll W fan)) := by
  unfold mkAll
  by_cases h1 : W.length = 1
  · rw [if_pos h1]; exact make_one hv hE h1
  · rw [if_neg h1]
    have := (givE_ok hE).2.2.1
    exact make_many hv hE (by omega)
theorem make_not {w : World} {v : Value} {W : List Int} {fan : Int} (hv : SlI w v W) (hE : givE W fan ≠ 0) :
    Calls Try.prog 25 #[v, .int .i64 fan] w (Same w (.tuple #[.slice none 0 0, .int .i64 (givE W fan)])) := by
  have GE := Lib.hid (may_ok (fan := fan) hv)
  obtain ⟨a, c, rfl, hc, hc2⟩ := hv.form
  clear hv
  generalize givE W fan = E at *
  have t1 : decide (E = 0) = false := decide_eq_false hE
  have t2 : (E == 0) = false := by simpa using hE
  have t3 : (E != 0) = true := by simpa using hE
  clear hE
  go_enter Try.func25, Try.ntmps25
  go_wp2_with fail
  refine GE.out.mono ?_
  rintro e w' ⟨rfl, rfl⟩
  go_wp2_with fail
  go_ret2
  exact ⟨rfl, rfl⟩
end Go.Proofs.Ythajgfldjjgkiaa
