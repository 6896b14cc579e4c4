/- The heap: merge. -/
import Derived.Test.YthajgfldjjgkiaaDp
namespace Go.Proofs.Ythajgfldjjgkiaa
open Go.RowKit
set_option maxRecDepth 100000

theorem putCells_iV (l t : List Int) (h : t.length = l.length) : Go.Sort.putCells (Value.int .i64) 0 t.toArray (iV l).toArray = (iV t).toArray := by
  apply Array.ext_getElem?
  intro j
  by_cases hj : j < t.length
  · simp [Go.Sort.putCells, iV, hj, show j < l.length by omega]
  · simp [Go.Sort.putCells, iV, hj, show ¬ j < l.length by omega]
def SortR (w : World) (g : Nat) (l : List Int) (e : Ending) (w' : World) : Prop := e = .returned (.tuple #[]) ∧ BlkAt w' g 3 (iV (srt l)) ∧ Kp w w' (fun k => k = g)
theorem sort_ok {w : World} {g : Nat} {l : List Int} (h : BlkAt w g 3 (iV l)) (hl : l.length ≤ 1000000) (cap : Nat) :
    Calls Try.prog 45 #[.slice (some ⟨g, 0, none⟩) l.length cap] w (SortR w g l) := by
  have hh : w.heap[g]? = some (.cells (iV l).toArray 3 (0, 0)) := h
  refine (Try.slices_Sort_int g 0 cap l w (holds_of_blockI hh (by simp [iV, List.take_of_length_le])) h.lt (by omega)).mono ?_
  rintro e w' ⟨rfl, n, os, rfl⟩
  refine ⟨rfl, ?_, ?_⟩
  · have := heap_sortedI (os := os) (n := n) (srt l).toArray hh
    rw [putCells_iV l (srt l) (srt_len l)] at this
    exact this
  · have g2 := grownBy_sortedI (w := w) (g := g) (n := n) (os := os) (srt l).toArray
    exact ⟨g2.os, g2.tape, g2.output, g2.size, fun k hk hn => g2.block k hk (fun e => hn (by injection e))⟩
theorem iV_zero (n : Nat) : madeCells (Value.int .i64 0).cells (n * 1) = (iV (List.replicate n 0)).toArray := by
  have hc : (Value.int .i64 0).cells = #[.int .i64 0] := rfl
  rw [hc]
  apply Array.ext'
  rw [toList_madeCells_one]
  simp [iV]
/-- So many are in, the rest is still zero. -/
def inZ (A : List Int) (i many : Nat) : List Int := pkL A i ++ List.replicate (many - i) 0
theorem inZ_len (A : List Int) (i many : Nat) (h : i ≤ many) : (inZ A i many).length = many := by unfold inZ; rw [List.length_append, pkL_len, List.length_replicate]; omega
theorem inZ_step (A : List Int) (i many : Nat) (h : i < many) : (inZ A i many).set i (ls (pkA A i) : Int) = inZ A (i + 1) many := by
  unfold inZ
  rw [List.set_append_right _ _ (by rw [pkL_len]; exact Nat.le_refl _), pkL_len, Nat.sub_self, show many - i = (many - (i + 1)) + 1 by omega, List.replicate_succ, List.set_cons_zero, pkL, List.append_assoc]
  rfl
structure MgAt (w wr : World) (hb g r0 gi mb M N many out : Nat) (A : List Int) (i : Nat) : Prop where
  heap : ∃ F, HAt wr hb g (M - (i - 1)) N F ∧ Heap 0 F (M - (i - 1)) ∧ Cont F (M - (i - 1)) (InL (pkA A (i - 1)))
  row : BlkAt wr gi 3 (iV (inZ A i many))
  made : BlkAt wr mb 70 [.int .i64 (pkS A i), .int .i64 (out : Int)]
  res : BlkAt wr r0 46 [.slice none 0 0, .int .i64 0]
  kp : Kp w wr (two hb g)
  r1 : w.heap.size ≤ r0
  r2 : w.heap.size ≤ gi
  r3 : w.heap.size ≤ mb
/-- The first one is there to be taken. -/
structure Mg2 (w wr : World) (hb g r0 gi mb M N many out : Nat) (A : List Int) (i : Nat) (F : Nat → Rn) : Prop where
  hat : HAt wr hb g (M - i) N F
  heap : Heap 0 F (M - i)
  cont : Cont F (M - i) (InL (pkA A i))
  row : BlkAt wr gi 3 (iV (inZ A i many))
  made : BlkAt wr mb 70 [.int .i64 (pkS A i), .int .i64 (out : Int)]
  res : BlkAt wr r0 46 [.slice none 0 0, .int .i64 0]
  kp : Kp w wr (two hb g)
  r1 : w.heap.size ≤ r0
  r2 : w.heap.size ≤ gi
  r3 : w.heap.size ≤ mb
theorem MgAt.zero {w wr : World} {hb g r0 gi mb M N many out : Nat} {A : List Int} (h : MgAt w wr hb g r0 gi mb M N many out A 0) : ∃ F, Mg2 w wr hb g r0 gi mb M N many out A 0 F := by
  obtain ⟨F, h1, h2, h3⟩ := h.heap
  exact ⟨F, h1, h2, h3, h.row, h.made, h.res, h.kp, h.r1, h.r2, h.r3⟩
theorem MgAt.ne {w wr : World} {hb g r0 gi mb M N many out : Nat} {A : List Int} {i : Nat} (h : MgAt w wr hb g r0 gi mb M N many out A i) (hl : hb < w.heap.size) (hg : g < w.heap.size) : ¬ two hb g gi ∧ ¬ two hb g mb ∧ ¬ two hb g r0 := by
  have h1 := h.r1
  have h2 := h.r2
  have h3 := h.r3
  unfold two
  omega
theorem MgAt.dropped {w wr w' : World} {hb g r0 gi mb M N many out : Nat} {A : List Int} {i : Nat} {F : Nat → Rn} {e : Ending} (h : MgAt w wr hb g r0 gi mb M N many out A (i + 1)) (hl : hb < w.heap.size) (hg : g < w.heap.size)
    (hc : Cont F (M - i) (InL (pkA A i))) (hh : Heap 0 F (M - i)) (hM : i + 1 < M) (d : DropR wr hb g (M - (i + 1)) N F (pkA A i) e w') : e = .returned (.tuple #[]) ∧ ∃ G, Mg2 w w' hb g r0 gi mb M N many out A (i + 1) G := by
  obtain ⟨rfl, G, d1, d2, d3, d4⟩ := d
  obtain ⟨n1, n2, n3⟩ := h.ne hl hg
  have e : (F 0).num = ls (pkA A i) := (first_isL hh hc (by omega)).ls
  rw [e] at d3
  exact ⟨rfl, G, d1, d2, d3, h.row.kp d4 n1, h.made.kp d4 n2, h.res.kp d4 n3, h.kp.tr d4, h.r1, h.r2, h.r3⟩
/-- It is taken. -/
theorem Mg2.taken {w wr w' : World} {hb g r0 gi mb M N many out : Nat} {A : List Int} {i : Nat} {F : Nat → Rn} (h : Mg2 w wr hb g r0 gi mb M N many out A i F) (hi : i < many) (hM : i < M) (hl : hb < w.heap.size) (hg : g < w.heap.size)
    (k : Below wr.heap.size wr w') : MgAt w ((w'.setCell ⟨gi, i, none⟩ (.int .i64 ((F 0).num : Int))).setCell ⟨mb, 0, none⟩ (.int .i64 (pkS A i + ((F 0).wt : Int)))) hb g r0 gi mb M N many out A (i + 1) := by
  have n1 : hb ≠ gi := by have := h.r2; omega
  have n2 : g ≠ gi := by have := h.r2; omega
  have n3 : hb ≠ mb := by have := h.r3; omega
  have n4 : g ≠ mb := by have := h.r3; omega
  have n5 := blk_ne h.row h.made (by decide)
  have n6 := blk_ne h.row h.res (by decide)
  have n7 := blk_ne h.made h.res (by decide)
  have e : (F 0).num = ls (pkA A i) := (first_isL h.heap h.cont (by omega)).ls
  have ew : ((F 0).wt : Int) = (pkA A i).getD (ls (pkA A i)) (-1) := by rw [← e]; exact (h.cont.1 0 (by omega)).getD.symm
  have K : Kp w' ((w'.setCell ⟨gi, i, none⟩ (.int .i64 ((F 0).num : Int))).setCell ⟨mb, 0, none⟩ (.int .i64 (pkS A i + ((F 0).wt : Int)))) (two gi mb) := ((Kp.set _ _ _ _).mono (fun _ _ e => Or.inl e)).tr ((Kp.set _ _ _ _).mono (fun _ _ e => Or.inr e))
  refine ⟨⟨F, (h.hat.below k).kp K (by unfold two; omega) (by unfold two; omega), h.heap, h.cont⟩, ?_, ?_, ((h.res.below k).other n6 _ _).other n7 _ _, ?_, h.r1, h.r2, h.r3⟩
  · have := ((h.row.below k).set i (.int .i64 ((F 0).num : Int))).other n5.symm 0 (.int .i64 (pkS A i + ((F 0).wt : Int)))
    rw [e] at this ⊢
    rw [← iV_set, inZ_step A i many hi] at this
    exact this
  · have := ((h.made.below k).other n5 i (.int .i64 ((F 0).num : Int))).set 0 (.int .i64 (pkS A i + ((F 0).wt : Int)))
    rw [ew] at this ⊢
    exact this
  · refine (h.kp.tr (Kp.of _ k)).trans K (fun _ _ e => e) (fun x hx e => ?_)
    have h2 := h.r2
    have h3 := h.r3
    rcases e with e | e <;> omega
def MgR (w : World) (hb g r0 gi mb M N many out : Nat) (A : List Int) (v16 : Value) (wr : World) : Prop := ∃ i : Nat, v16 = .int .i64 (i : Int) ∧ i ≤ many ∧ MgAt w wr hb g r0 gi mb M N many out A i
def MergeR (w : World) (hb g M N many out : Nat) (A : List Int) (e : Ending) (w' : World) : Prop := ∃ gi, e = .returned (.agg #[.slice (some ⟨gi, 0, none⟩) many many, .int .i64 (out : Int)]) ∧ w.heap.size ≤ gi ∧ BlkAt w' gi 3 (iV (srt (pkL A many))) ∧
  ∃ G, HAt w' hb g (M - (many - 1)) N G ∧ Heap 0 G (M - (many - 1)) ∧ Cont G (M - (many - 1)) (InL (pkA A many ++ [pkS A many])) ∧ Kp w w' (two hb g)
set_option maxHeartbeats 4000000 in
theorem merge_ok {w : World} {hb g M N many out : Nat} {F : Nat → Rn} {A : List Int} (h : HAt w hb g M N F) (hh : Heap 0 F M) (hc : Cont F M (InL A)) (hm : 1 ≤ many) (hM : many ≤ M) (hcnt : cnt A = M) (ht : tot A ≤ 70368744177664) (ho : out = A.length) (ho2 : out ≤ 1000000) :
    Calls Try.prog 36 #[.pointer (some ⟨hb, 0, none⟩), .int .i64 (many : Int), .int .i64 (out : Int)] w (MergeR w hb g M N many out A) := by
  have H := Lib.hid h
  have HH := Lib.hid hh
  have HC := Lib.hid hc
  have HCN := Lib.hid hcnt
  have HO := Lib.hid ho
  have hN := h.le
  have hN2 := h.lt
  clear h hh hc hcnt ho
  go_enter Try.func36, Try.ntmps36
  go_wp2_with (at_make; refine wp_mk rfl _ _ 22 3 rfl (.int .i64 0) 1 8 Try.underlying22 info3 .i64 .i64 many rfl rfl (by omega) (by omega) _ (iV_zero many) ?_; intro w1 hb1 hbel1)
  have ST := Lib.hid (show MgR w hb g w.heap.size (w.heap.size + 1) w1.heap.size M N many out A (.int .i64 0) (w1.alloc (.cells #[.int .i64 0, .int .i64 (out : Int)] 70)) from by
    have hs : (w.alloc (Obj.cells #[Value.slice none 0 0, Value.int IntKind.i64 0] 46)).heap.size = w.heap.size + 1 := by simp
    have hb2 := hb1
    rw [hs] at hb2
    have k1 : Below w.heap.size w w1 := (below_alloc w _).trans (hbel1.mono (by rw [hs]; omega))
    have r46 := (BlkAt.new w [Value.slice none 0 0, Value.int IntKind.i64 0] 46).below hbel1
    have bn := BlkAt.new w1 [.int .i64 0, .int .i64 (out : Int)] 70
    have ba := below_alloc w1 (.cells #[.int .i64 0, .int .i64 (out : Int)] 70)
    refine ⟨0, rfl, Nat.zero_le _, ⟨F, (H.out.below k1).below ba, HH.out, HC.out⟩, hb2.below ba, bn, r46.below ba, Kp.of _ (k1.trans (ba.mono k1.size)), Nat.le_refl _, Nat.le_succ _, k1.size⟩)
  have HL := Lib.hid (H.out.box.lt)
  have HG := Lib.hid (H.out.row.lt)
  clear hb1 hbel1 H HH HC
  generalize w.heap.size + 1 = gi at *
  generalize w1.heap.size = mb at *
  generalize w1.alloc (.cells #[.int .i64 0, .int .i64 (out : Int)] 70) = w2 at *
  go_loopw [16] (fun v16 wr => MgR w hb g w.heap.size gi mb M N many out A v16 wr) (fun v16 _ => many - (intOf v16).toNat)
  case atStart => exact ST.out
  case round =>
    clear ST
    obtain ⟨i, rfl, hi, hmg⟩ := hrel
    have MG := Lib.hid hmg
    clear hmg
    by_cases hlt : i < many
    · have t1 : decide ((i : Int) < (many : Int)) = true := decide_eq_true (by omega)
      have t1n : decide (i < many) = true := decide_eq_true hlt
      have hpk := pk_ok (A := A) (i := i) (by have := HCN.out; omega)
      by_cases h0 : i = 0
      · have t0 : decide ((0 : Int) < (i : Int)) = false := decide_eq_false (by omega)
        have t0n : decide (0 < i) = false := decide_eq_false (by omega)
        have m2 : ∃ F, Mg2 w wr hb g w.heap.size gi mb M N many out A i F := by subst h0; exact MG.out.zero
        obtain ⟨F2, m2⟩ := m2
        have M2 := Lib.hid m2
        clear m2 h0
        go_upto_region 8 with fail
        have c0 := M2.out.hat.box.cell 0 _ rfl
        have lhb := M2.out.hat.box.lt
        have e0 := M2.out.hat.row.cell 0 _ (rnV_at F2 N 0 (by omega)).1
        have e1 := M2.out.hat.row.cell 1 _ (rnV_at F2 N 0 (by omega)).2
        have lg := M2.out.hat.row.lt
        have i0 : (0 : Int) < ((M - i : Nat) : Int) := by omega
        have i0n : 0 < M - i := by omega
        have TK := Lib.hid (fun w' => M2.out.taken (w' := w') hlt (by omega) HL.out HG.out)
        have SM := Lib.hid (show pkS A i + ((F2 0).wt : Int) ≤ 70368744177664 by
          have hpk2 := pk_ok (A := A) (i := i + 1) (by have := HCN.out; omega)
          have tn := tot_nonneg (pkA A (i + 1))
          have q : (F2 0).num = ls (pkA A i) := (first_isL M2.out.heap M2.out.cont (by omega)).ls
          have ew : ((F2 0).wt : Int) = (pkA A i).getD (ls (pkA A i)) (-1) := by rw [← q]; exact (M2.out.cont.1 0 (by omega)).getD.symm
          have : pkS A (i + 1) = pkS A i + ((F2 0).wt : Int) := by rw [ew]; rfl
          omega)
        go_upto_region 9 with fail
        clear c0 e0 e1 lhb lg
        have FB := Lib.hid (BlkAt.new wr [.int .i64 ((F2 0).wt : Int), .int .i64 ((F2 0).num : Int)] 70)
        have BA := Lib.hid (below_alloc wr (.cells #[.int .i64 ((F2 0).wt : Int), .int .i64 ((F2 0).num : Int)] 70))
        have M3 := Lib.hid (show BlkAt (wr.alloc (.cells #[.int .i64 ((F2 0).wt : Int), .int .i64 ((F2 0).num : Int)] 70)) gi 3 (iV (inZ A i many)) from M2.out.row.below BA.out)
        have M4 := Lib.hid (show BlkAt (wr.alloc (.cells #[.int .i64 ((F2 0).wt : Int), .int .i64 ((F2 0).num : Int)] 70)) mb 70 [.int .i64 (pkS A i), .int .i64 (out : Int)] from M2.out.made.below BA.out)
        have NX := Lib.hid (TK.out _ BA.out)
        have N1 := Lib.hid (show wr.heap.size ≠ mb by have := M2.out.made.lt; omega)
        change Hid (BlkAt (wr.alloc (.cells #[.int .i64 ((F2 0).wt : Int), .int .i64 ((F2 0).num : Int)] 70)) _ _ _) at FB
        generalize wr.alloc (.cells #[.int .i64 ((F2 0).wt : Int), .int .i64 ((F2 0).num : Int)] 70) = x at *
        have g1 := FB.out.cell 0 _ rfl
        have g2 := FB.out.cell 1 _ rfl
        have lf := FB.out.lt
        have lgi := M3.out.lt
        have lmb := M4.out.lt
        have m0 := M4.out.cell 0 _ rfl
        have m1 := M4.out.free 0
        have r0 := M3.out.cell i _ (iV_at (inZ A i many) i (by rw [inZ_len A i many hi]; exact hlt))
        have r1 := M3.out.free i
        have n1 : ¬ gi = mb := blk_ne M3.out M4.out (by decide)
        have n2 : ¬ mb = gi := fun e => n1 e.symm
        have n3 : ¬ wr.heap.size = gi := blk_ne FB.out M3.out (by decide)
        have n4 : ¬ gi = wr.heap.size := fun e => n3 e.symm
        have n5 : ¬ wr.heap.size = mb := N1.out
        have n6 : ¬ mb = wr.heap.size := fun e => n5 e.symm
        have s0 := hpk.2.2
        have s1 := SM.out
        clear hpk
        generalize pkS A i = s at *
        generalize (F2 0).wt = a at *
        generalize (F2 0).num = b at *
        generalize (inZ A i many)[i]'_ = z at *
        generalize wr.heap.size = fb at *
        have ii : (i : Int) < (many : Int) := by omega
        have ii0 : (0 : Int) ≤ (i : Int) := by omega
        go_wp2_with fail
        go_roundw
        case rel => exact ⟨i + 1, by congr 1, hlt, NX.out⟩
        case measure => simp [intOf]; omega
      · have t0 : decide ((0 : Int) < (i : Int)) = true := decide_eq_true (by omega)
        have t0n : decide (0 < i) = true := decide_eq_true (by omega)
        obtain ⟨j, hj⟩ : ∃ j, i = j + 1 := ⟨i - 1, by omega⟩
        have MJ := MG.out
        rw [hj] at MJ
        obtain ⟨F1, f1, f2, f3⟩ := MJ.heap
        rw [Nat.add_sub_cancel] at f1 f2 f3
        have f1' : HAt wr hb g ((M - (j + 1)) + 1) N F1 := by rw [show M - (j + 1) + 1 = M - j by omega]; exact f1
        have f2' : Heap 0 F1 ((M - (j + 1)) + 1) := by rw [show M - (j + 1) + 1 = M - j by omega]; exact f2
        have f3' : Cont F1 ((M - (j + 1)) + 1) (InL (pkA A j)) := by rw [show M - (j + 1) + 1 = M - j by omega]; exact f3
        have DR := Lib.hid (drop_ok f1' f2' f3' (by omega))
        have DD := Lib.hid (fun e w' => MJ.dropped (e := e) (w' := w') HL.out HG.out f3 f2 (by omega))
        rw [← hj] at DR DD
        clear f1 f2 f3 f1' f2' f3' MJ hj h0
        go_wp2_with fail
        refine DR.out.mono ?_
        intro e w3 hd
        obtain ⟨rfl, F2, m2⟩ := DD.out e w3 hd
        have M2 := Lib.hid m2
        clear m2 hd DR DD
        go_upto_region 8 with fail
        have c0 := M2.out.hat.box.cell 0 _ rfl
        have lhb := M2.out.hat.box.lt
        have e0 := M2.out.hat.row.cell 0 _ (rnV_at F2 N 0 (by omega)).1
        have e1 := M2.out.hat.row.cell 1 _ (rnV_at F2 N 0 (by omega)).2
        have lg := M2.out.hat.row.lt
        have i0 : (0 : Int) < ((M - i : Nat) : Int) := by omega
        have i0n : 0 < M - i := by omega
        have TK := Lib.hid (fun w' => M2.out.taken (w' := w') hlt (by omega) HL.out HG.out)
        have SM := Lib.hid (show pkS A i + ((F2 0).wt : Int) ≤ 70368744177664 by
          have hpk2 := pk_ok (A := A) (i := i + 1) (by have := HCN.out; omega)
          have tn := tot_nonneg (pkA A (i + 1))
          have q : (F2 0).num = ls (pkA A i) := (first_isL M2.out.heap M2.out.cont (by omega)).ls
          have ew : ((F2 0).wt : Int) = (pkA A i).getD (ls (pkA A i)) (-1) := by rw [← q]; exact (M2.out.cont.1 0 (by omega)).getD.symm
          have : pkS A (i + 1) = pkS A i + ((F2 0).wt : Int) := by rw [ew]; rfl
          omega)
        go_upto_region 9 with fail
        clear c0 e0 e1 lhb lg
        have FB := Lib.hid (BlkAt.new w3 [.int .i64 ((F2 0).wt : Int), .int .i64 ((F2 0).num : Int)] 70)
        have BA := Lib.hid (below_alloc w3 (.cells #[.int .i64 ((F2 0).wt : Int), .int .i64 ((F2 0).num : Int)] 70))
        have M3 := Lib.hid (show BlkAt (w3.alloc (.cells #[.int .i64 ((F2 0).wt : Int), .int .i64 ((F2 0).num : Int)] 70)) gi 3 (iV (inZ A i many)) from M2.out.row.below BA.out)
        have M4 := Lib.hid (show BlkAt (w3.alloc (.cells #[.int .i64 ((F2 0).wt : Int), .int .i64 ((F2 0).num : Int)] 70)) mb 70 [.int .i64 (pkS A i), .int .i64 (out : Int)] from M2.out.made.below BA.out)
        have NX := Lib.hid (TK.out _ BA.out)
        have N1 := Lib.hid (show w3.heap.size ≠ mb by have := M2.out.made.lt; omega)
        change Hid (BlkAt (w3.alloc (.cells #[.int .i64 ((F2 0).wt : Int), .int .i64 ((F2 0).num : Int)] 70)) _ _ _) at FB
        generalize w3.alloc (.cells #[.int .i64 ((F2 0).wt : Int), .int .i64 ((F2 0).num : Int)] 70) = x at *
        have g1 := FB.out.cell 0 _ rfl
        have g2 := FB.out.cell 1 _ rfl
        have lf := FB.out.lt
        have lgi := M3.out.lt
        have lmb := M4.out.lt
        have m0 := M4.out.cell 0 _ rfl
        have m1 := M4.out.free 0
        have r0 := M3.out.cell i _ (iV_at (inZ A i many) i (by rw [inZ_len A i many hi]; exact hlt))
        have r1 := M3.out.free i
        have n1 : ¬ gi = mb := blk_ne M3.out M4.out (by decide)
        have n2 : ¬ mb = gi := fun e => n1 e.symm
        have n3 : ¬ w3.heap.size = gi := blk_ne FB.out M3.out (by decide)
        have n4 : ¬ gi = w3.heap.size := fun e => n3 e.symm
        have n5 : ¬ w3.heap.size = mb := N1.out
        have n6 : ¬ mb = w3.heap.size := fun e => n5 e.symm
        have s0 := hpk.2.2
        have s1 := SM.out
        clear hpk
        generalize pkS A i = s at *
        generalize (F2 0).wt = a at *
        generalize (F2 0).num = b at *
        generalize (inZ A i many)[i]'_ = z at *
        generalize w3.heap.size = fb at *
        have ii : (i : Int) < (many : Int) := by omega
        have ii0 : (0 : Int) ≤ (i : Int) := by omega
        go_wp2_with fail
        go_roundw
        case rel => exact ⟨i + 1, by congr 1, hlt, NX.out⟩
        case measure => simp [intOf]; omega
    · have t1 : decide ((i : Int) < (many : Int)) = false := decide_eq_false (by omega)
      have t1n : decide (i < many) = false := decide_eq_false hlt
      have hi' : i = many := by omega
      subst hi'
      have hpk := pk_ok (A := A) (i := i) (by have := HCN.out; omega)
      obtain ⟨F1, f1, f2, f3⟩ := MG.out.heap
      obtain ⟨m1, hm1⟩ : ∃ m, m = M - (i - 1) := ⟨_, rfl⟩
      have hm10 : 0 < m1 := by omega
      rw [← hm1] at f1 f2 f3
      obtain ⟨s, hs⟩ : ∃ s : Nat, pkS A i = (s : Int) := ⟨(pkS A i).toNat, (Int.toNat_of_nonneg hpk.2.2).symm⟩
      have CM := Lib.hid (show Cont (upR F1 0 ⟨s, out⟩) m1 (InL (pkA A i ++ [pkS A i])) by
        have q : (F1 0).num = ls (pkA A (i - 1)) := (first_isL f2 f3 hm10).ls
        have c := cont_made (s := s) f3 hm10
        rw [q, pkA_len, ← HO.out, ← hs] at c
        obtain ⟨j, hj⟩ : ∃ j, i = j + 1 := ⟨i - 1, by omega⟩
        have e2 : (pkA A (i - 1)).set (ls (pkA A (i - 1))) (-1) = pkA A i := by rw [hj, Nat.add_sub_cancel]; rfl
        rw [e2] at c
        exact c)
      have HP := Lib.hid (f2.put (Nat.le_refl m1) ⟨s, out⟩)
      have HF := Lib.hid f1
      have HM := Lib.hid hm1
      have HS := Lib.hid hs
      have M4 := Lib.hid (show BlkAt wr mb 70 [.int .i64 (s : Int), .int .i64 (out : Int)] from by rw [← hs]; exact MG.out.made)
      have hN1 := f1.le
      clear f1 f2 f3 hm1 hs hpk hlt
      have c0 := HF.out.box.cell 0 _ rfl
      have d0 := HF.out.box.drew.cell 0 _ rfl
      have a0 := M4.out.cell 0 _ rfl
      have a1 := M4.out.cell 1 _ rfl
      have b0 := M4.out.drew.cell 0 _ rfl
      have b1 := M4.out.drew.cell 1 _ rfl
      have lhb := HF.out.box.lt
      have z0 := HF.out.row.cell 0 _ (rnV_at F1 N 0 (by omega)).1
      have z1 := HF.out.row.cell 1 _ (rnV_at F1 N 0 (by omega)).2
      have y0 := HF.out.row.drew.cell 0 _ (rnV_at F1 N 0 (by omega)).1
      have y1 := HF.out.row.drew.cell 1 _ (rnV_at F1 N 0 (by omega)).2
      have f0 := HF.out.row.free 0
      have f1 := HF.out.row.free 1
      have g0 := HF.out.row.drew.free 0
      have g1 := HF.out.row.drew.free 1
      have lg := HF.out.row.lt
      have lmb := M4.out.lt
      have i0 : (0 : Int) < (m1 : Int) := by omega
      have P := Lib.hid (blk_put HF.out.row.drew 0 (by omega) ⟨s, out⟩)
      rw [show 0 * 2 = 0 from rfl, show 0 + 1 = 1 from rfl] at P
      have ne := HF.out.ne
      have BX := Lib.hid ((HF.out.box.drew.other ne.symm 0 (.int .i64 (s : Int))).other ne.symm 1 (.int .i64 (out : Int)))
      have KP := Lib.hid (show Kp w _ (two hb g) from (MG.out.kp.tr (Kp.of _ (below_drewN wr 1))).tr ((Kp.set (wr.drewN 1) g 0 (.int .i64 (s : Int))).tr (Kp.set _ g 1 (.int .i64 (out : Int))) |>.mono (fun _ _ e => Or.inr e)))
      have NG : ¬ gi = g := by have := MG.out.r2; have := HG.out; omega
      have NGB : ¬ gi = hb := by have := MG.out.r2; have := HL.out; omega
      have NR : ¬ w.heap.size = g := by have := HG.out; omega
      have NRB : ¬ w.heap.size = hb := by have := HL.out; omega
      have RW := Lib.hid ((MG.out.row.drew.other (fun e => NG e.symm) 0 (.int .i64 (s : Int))).other (fun e => NG e.symm) 1 (.int .i64 (out : Int)))
      have RS := Lib.hid ((MG.out.res.drew.other (fun e => NR e.symm) 0 (.int .i64 (s : Int))).other (fun e => NR e.symm) 1 (.int .i64 (out : Int)))
      have NGR := Lib.hid (blk_ne MG.out.row MG.out.res (by decide))
      have R2 := Lib.hid MG.out.r2
      have LEN := Lib.hid (inZ_len A i i (Nat.le_refl i))
      go_wp2_with fail
      go_region
      all_goals
        clear c0 d0 a0 a1 b0 b1 lhb z0 z1 y0 y1 f0 f1 g0 g1 lg lmb
        change Hid (BlkAt ((wr.setCell ⟨g, 0, none⟩ (.int .i64 (s : Int))).setCell ⟨g, 1, none⟩ (.int .i64 (out : Int))).drew g 70 _) at P
        change Hid (BlkAt ((wr.setCell ⟨g, 0, none⟩ (.int .i64 (s : Int))).setCell ⟨g, 1, none⟩ (.int .i64 (out : Int))).drew hb 59 _) at BX
        change Hid (BlkAt ((wr.setCell ⟨g, 0, none⟩ (.int .i64 (s : Int))).setCell ⟨g, 1, none⟩ (.int .i64 (out : Int))).drew gi 3 _) at RW
        change Hid (BlkAt ((wr.setCell ⟨g, 0, none⟩ (.int .i64 (s : Int))).setCell ⟨g, 1, none⟩ (.int .i64 (out : Int))).drew w.heap.size 46 _) at RS
        change Hid (Kp w ((wr.setCell ⟨g, 0, none⟩ (.int .i64 (s : Int))).setCell ⟨g, 1, none⟩ (.int .i64 (out : Int))).drew _) at KP
        generalize ((wr.setCell ⟨g, 0, none⟩ (.int .i64 (s : Int))).setCell ⟨g, 1, none⟩ (.int .i64 (out : Int))).drew = y at *
        have c0 := BX.out.cell 0 _ rfl
        have lhb := BX.out.lt
        have SK := Lib.hid (sink_ok (w := y) (lo := 0) P.out (show m1 ≤ N by omega) hm10 hN2 HP.out)
        go_wp2_with fail
        refine SK.out.mono ?_
        rintro e w4 ⟨rfl, G, k1, k2, k3⟩
        have RW4 := Lib.hid (RW.out.kp k3 NG)
        have RS4 := Lib.hid (RS.out.kp k3 NR)
        have HA4 := Lib.hid (show HAt w4 hb g m1 N G from ⟨BX.out.kp k3 ne, k1, hN1, hN2⟩)
        have K4 := Lib.hid (KP.out.tr (k3.mono (fun _ _ e => Or.inr e)))
        have SU := Lib.hid k2
        clear k1 k2 k3 c0 lhb RW RS KP BX P
        have inz : inZ A i i = pkL A i := by unfold inZ; rw [Nat.sub_self]; simp
        rw [inz] at RW4
        have SO := Lib.hid (sort_ok RW4.out (by rw [pkL_len]; omega) i)
        rw [pkL_len] at SO
        clear inz
        go_wp2_with fail
        refine SO.out.mono ?_
        rintro e w5 ⟨rfl, k1, k2⟩
        have FIN := Lib.hid (show ∀ w6, BlkAt w6 gi 3 (iV (srt (pkL A i))) → Kp w5 w6 (fun k => k = w.heap.size) → MergeR w hb g M N i out A (.returned (.agg #[.slice (some ⟨gi, 0, none⟩) i i, .int .i64 (out : Int)])) w6 from fun w6 b6 k6 => by
          refine ⟨gi, rfl, R2.out, b6, G, ?_⟩
          rw [← HM.out]
          refine ⟨((HA4.out.kp k2 (fun e => NGB e.symm) (fun e => NG e.symm))).kp k6 (fun e => NRB e.symm) (fun e => NR e.symm), SU.out.1, SU.out.2 _ CM.out, ?_⟩
          refine ((K4.out.trans k2 (fun _ _ e => e) (fun x hx e => ?_))).trans k6 (fun _ _ e => e) (fun x hx e => ?_)
          · have := R2.out; omega
          · omega)
        have B5 := Lib.hid k1
        have RS5 := Lib.hid (RS4.out.kp k2 (fun e => NGR.out e.symm))
        clear k1 k2 RS4 RW4
        have c0 := RS5.out.cell 0 _ rfl
        have c1 := RS5.out.cell 1 _ rfl
        have f0 := RS5.out.free 0
        have f1 := RS5.out.free 1
        have lr := RS5.out.lt
        go_wp2_with fail
        have RF := Lib.hid ((RS5.out.set 0 (.slice (some ⟨gi, 0, none⟩) i i)).set 1 (.int .i64 (out : Int)))
        have B6 := Lib.hid ((B5.out.other (fun e => NGR.out e.symm) 0 (.slice (some ⟨gi, 0, none⟩) i i)).other (fun e => NGR.out e.symm) 1 (.int .i64 (out : Int)))
        have K6 := Lib.hid ((Kp.set w5 w.heap.size 0 (.slice (some ⟨gi, 0, none⟩) i i)).tr (Kp.set _ w.heap.size 1 (.int .i64 (out : Int))))
        clear c0 c1 f0 f1 lr
        generalize (w5.setCell ⟨w.heap.size, 0, none⟩ (.slice (some ⟨gi, 0, none⟩) i i)).setCell ⟨w.heap.size, 1, none⟩ (.int .i64 (out : Int)) = w6 at *
        have c0 := RF.out.cell 0 (.slice (some ⟨gi, 0, none⟩) i i) rfl
        have c1 := RF.out.cell 1 (.int .i64 (out : Int)) rfl
        exact bodyPost_ret (v := .agg #[.slice (some ⟨gi, 0, none⟩) i i, .int .i64 (out : Int)]) (by simp [results, Try.results36, go_sem, c0, c1]) rfl (FIN.out _ B6.out K6.out)
end Go.Proofs.Ythajgfldjjgkiaa
