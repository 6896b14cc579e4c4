/- The lengths of both codes, read. -/
import Derived.Test.YtfbeipfpkikakaaDoorZa
import Derived.Deep.Upon
namespace Go.Proofs.YtfbeipfpkikakaaDoor
open Go.RowKit

set_option maxRecDepth 100000
/-- All blocks but one are kept. -/
structure KeepX (r : Nat) (w w' : World) : Prop where
  os : w'.os = w.os
  tape : w'.tape = w.tape
  output : w'.output = w.output
  size : w.heap.size ≤ w'.heap.size
  block : ∀ c, c < w.heap.size → c ≠ r → w'.heap[c]? = w.heap[c]?
theorem KeepX.refl (r : Nat) (w : World) : KeepX r w w := ⟨rfl, rfl, rfl, Nat.le_refl _, fun _ _ _ => rfl⟩
theorem KeepX.below {r : Nat} {w w' : World} (h : Below w.heap.size w w') : KeepX r w w' := ⟨h.os, h.tape, h.output, h.size, fun c hc _ => h.block c hc⟩
theorem KeepX.trans {r : Nat} {a b c : World} (h : KeepX r a b) (k : KeepX r b c) : KeepX r a c :=
  ⟨k.os.trans h.os, k.tape.trans h.tape, k.output.trans h.output, Nat.le_trans h.size k.size, fun g hg hr => (k.block g (Nat.lt_of_lt_of_le hg h.size) hr).trans (h.block g hg hr)⟩
theorem KeepX.set (r : Nat) (w : World) (j : Nat) (v : Value) : KeepX r w (w.setCell ⟨r, j, none⟩ v) :=
  ⟨rfl, rfl, rfl, by simp, fun c hc hr => World.heap_setCells_other w r j [v] hc hr⟩
theorem KeepX.to_below {r B : Nat} {w w' : World} (h : KeepX r w w') (hB : B ≤ r) (hs : B ≤ w.heap.size) : Below B w w' :=
  ⟨h.os, h.tape, h.output, h.size, fun c hc => h.block c (Nat.lt_of_lt_of_le hc hs) (by omega)⟩
theorem xcell {r : Nat} {w w' : World} (k : KeepX r w w') (b j : Nat) (hb : b < w.heap.size) (hr : b ≠ r) : w'.cell? ⟨b, j, none⟩ = w.cell? ⟨b, j, none⟩ ∧ w'.frozen? ⟨b, j, none⟩ = w.frozen? ⟨b, j, none⟩ := by
  have e := k.block b hb hr
  unfold World.cell? World.frozen?
  simp only [e, and_self]
theorem CellsAt.keepX {r : Nat} {w w' : World} {b : Nat} {vs : List Value} (h : CellsAt w b vs) (k : KeepX r w w') (hr : b ≠ r) : CellsAt w' b vs :=
  ⟨Nat.lt_of_lt_of_le h.lt k.size, fun j v hv => ((xcell k b j h.lt hr).1).trans (h.cell j v hv), fun j => ((xcell k b j h.lt hr).2).trans (h.free j)⟩
theorem HeldB.keepX {r : Nat} {w w' : World} {b off : Nat} {l : List UInt8} (h : HeldB w b off l) (k : KeepX r w w') (hr : b ≠ r) : HeldB w' b off l :=
  ⟨Nat.lt_of_lt_of_le h.lt k.size, fun j v hv => ((xcell k b (off + j) h.lt hr).1).trans (h.cell j v hv)⟩
theorem DecAt.keepX {r : Nat} {w w' : World} {d : Nat} {sy : Nat → Nat} {en sh : Nat → Int} (h : DecAt w d sy en sh) (k : KeepX r w w') (hr : d ≠ r) : DecAt w' d sy en sh :=
  ⟨Nat.lt_of_lt_of_le h.lt k.size, fun j hj => ((xcell k d j h.lt hr).1).trans (h.sym j hj), fun j hj => ((xcell k d (272 + j) h.lt hr).1).trans (h.ends j hj), fun j hj => ((xcell k d (288 + j) h.lt hr).1).trans (h.shifts j hj)⟩
theorem Rdr.other {w : World} {r b off cp a f c : Nat} {l : List UInt8} (h : Rdr w r b off cp l a f) (h1 : c ≠ r) (h2 : c ≠ b) (j : Nat) (v : Value) : Rdr (w.setCell ⟨c, j, none⟩ v) r b off cp l a f :=
  ⟨h.cells.other h1 _ _, h.held.other h2 _ _, h.ne, h.size, h.pos⟩

theorem HeldB.keep {w w' : World} {B b off : Nat} {l : List UInt8} (h : HeldB w b off l) (k : Below B w w') (hb : b < B) : HeldB w' b off l :=
  ⟨Nat.lt_of_lt_of_le h.lt k.size, fun j v hv => ((bcell k).1 b (off + j) hb).trans (h.cell j v hv)⟩
theorem Rdr.keep {w w' : World} {B r b off cp a f : Nat} {l : List UInt8} (h : Rdr w r b off cp l a f) (k : Below B w w') (h1 : r < B) (h2 : b < B) : Rdr w' r b off cp l a f :=
  ⟨h.cells.keep k h1, h.held.keep k h2, h.ne, h.size, h.pos⟩
theorem KeepX.up {r B : Nat} {w w' w'' : World} (h : KeepX r w w') (k : Below B w' w'') (hB : w.heap.size ≤ B) : KeepX r w w'' :=
  ⟨k.os.trans h.os, k.tape.trans h.tape, k.output.trans h.output, Nat.le_trans h.size k.size, fun c hc hr => (k.block c (by omega)).trans (h.block c hc hr)⟩
/-! What the bits say. -/
def lenK (l : List UInt8) (a k : Nat) : Nat := aheadN l (a + 8 * k) / 2048
def manyK (l : List UInt8) (a k : Nat) : Nat := aheadN l (a + 8 * k + 4) / 2048 + 1
def doneK (l : List UInt8) (a : Nat) : Nat → Nat
  | 0 => 0
  | k + 1 => doneK l a k + manyK l a k
def valsK (l : List UInt8) (a : Nat) : Nat → Nat → Nat
  | 0 => fun _ => 0
  | k + 1 => fun j => if doneK l a k ≤ j ∧ j < doneK l a (k + 1) then lenK l a k else valsK l a k j
theorem doneK_mono (l : List UInt8) (a : Nat) {k q : Nat} (h : k < q) : doneK l a k < doneK l a q := by
  induction q with
  | zero => omega
  | succ q ih =>
    have e : doneK l a (q + 1) = doneK l a q + (aheadN l (a + 8 * q + 4) / 2048 + 1) := rfl
    by_cases hk : k = q
    · subst hk; omega
    · have := ih (by omega); omega
theorem lenK_lt (l : List UInt8) (a k : Nat) : lenK l a k < 16 := by
  have : aheadN l (a + 8 * k) < 32768 := Nat.mod_lt _ (by omega)
  unfold lenK; omega
theorem manyK_le (l : List UInt8) (a k : Nat) : manyK l a k ≤ 16 := by
  have : aheadN l (a + 8 * k + 4) < 32768 := Nat.mod_lt _ (by omega)
  unfold manyK; omega
/-- A number of four bits is read. -/
theorem number4_ok {w : World} {r b off cp a f : Nat} {l : List UInt8} (h : Rdr w r b off cp l a f) (hn : a + 4 ≤ 8 * l.length) :
    Calls Tryd.prog 79 #[.pointer (some ⟨r, 0, none⟩), .int .i64 4] w (fun e w' => e = .returned (.int .i64 ((aheadN l a / 2048 : Nat) : Int)) ∧ Rdr w' r b off cp l (a + 4) f ∧ KeepX r w w') := by
  refine (number_ok h (n := 4) (by omega) hn).mono ?_
  rintro e w' ⟨he, v, hb, rfl⟩
  exact ⟨he, (h.step hb).go hn, (KeepX.below hb).trans (KeepX.set r v 1 _)⟩
theorem begin_x {w : World} {r b off cp a f : Nat} {l : List UInt8} (h : Rdr w r b off cp l a f) :
    Calls Tryd.prog 62 #[.pointer (some ⟨r, 0, none⟩)] w (fun e w' => e = .returned (.tuple #[]) ∧ Rdr w' r b off cp l a a ∧ KeepX r w w') := by
  refine (begin_ok h).mono ?_
  rintro e w' ⟨he, rfl⟩
  exact ⟨he, h.mark, KeepX.set r w 2 _⟩
def fillF (f : Nat → Nat) (d n x : Nat) : Nat → Nat := fun j => if d ≤ j ∧ j < d + n then x else f j
theorem fillF_zero (f : Nat → Nat) (d x : Nat) : fillF f d 0 x = f := by funext j; unfold fillF; rw [if_neg (by omega)]
theorem fillF_step (f : Nat → Nat) (d n x : Nat) : upd (fillF f d n x) (d + n) x = fillF f d (n + 1) x := by
  funext j; unfold upd fillF
  by_cases e : j = d + n
  · rw [if_pos e, if_pos ⟨by omega, by omega⟩]
  · rw [if_neg e]
    by_cases h : d ≤ j ∧ j < d + n
    · rw [if_pos h, if_pos ⟨h.1, by omega⟩]
    · rw [if_neg h, if_neg (by omega)]
theorem valsK_step (l : List UInt8) (a k : Nat) : fillF (valsK l a k) (doneK l a k) (manyK l a k) (lenK l a k) = valsK l a (k + 1) := rfl
/-- Between two runs. -/
def LnRel (w : World) (r b off cp a R q : Nat) (l : List UInt8) (d : Value) (wr : World) : Prop := ∃ k f : Nat, k ≤ q ∧ d = .int .i64 (doneK l a k : Int) ∧
  CellsAt wr (R + 1) (natL 302 (valsK l a k)) ∧ CellsAt wr R (natL 302 fun _ => 0) ∧ Rdr wr r b off cp l (a + 8 * k) f ∧ KeepX r w wr
/-- Within a run. -/
def LmRel (w : World) (r b off cp a R k : Nat) (l : List UInt8) (d i : Value) (wr : World) : Prop := ∃ n f : Nat, n ≤ manyK l a k ∧ i = .int .i64 (n : Int) ∧ d = .int .i64 ((doneK l a k + n : Nat) : Int) ∧
  CellsAt wr (R + 1) (natL 302 (fillF (valsK l a k) (doneK l a k) n (lenK l a k))) ∧ CellsAt wr R (natL 302 fun _ => 0) ∧ Rdr wr r b off cp l (a + 8 * (k + 1)) f ∧ KeepX r w wr
def RetLens (w : World) (r b off cp a q : Nat) (l : List UInt8) (e : Ending) (w' : World) : Prop := e = .returned (.agg (natL 302 (valsK l a q)).toArray) ∧ (∃ f, Rdr w' r b off cp l (a + 8 * q) f) ∧ KeepX r w w'
set_option maxHeartbeats 1600000 in
theorem lengths_ok {w : World} {r b off cp a f q : Nat} {l : List UInt8} (h : Rdr w r b off cp l a f) (hq : doneK l a q = 302) (hl : a + 8 * q ≤ 8 * l.length) :
    Calls Tryd.prog 75 #[.pointer (some ⟨r, 0, none⟩)] w (RetLens w r b off cp a q l) := by
  have HR := Lib.hid h
  have HQ := Lib.hid hq
  have hr := h.cells.lt
  have hbl := h.held.lt
  clear h hq
  have Z := Lib.hid zero69
  go_enter Tryd.func75, Tryd.ntmps75
  go_upto_region 2 with (guard_target =~ wpList _ _ _ (⟨some _, Op.alloc 69, _, _, _, _⟩ :: _) _ _; go_must (refine wp_alloc0 rfl 69 rfl _ Z.out ?_; simp only [Value.cells]))
  obtain ⟨R, hR⟩ : ∃ R, R = w.heap.size := ⟨_, rfl⟩
  have s1 : (w.alloc (Obj.cells (natL 302 fun _ => 0).toArray 69)).heap.size = w.heap.size + 1 := by simp
  have ST := Lib.hid (show LnRel w r b off cp a R q l (.int .i64 0) ((w.alloc (Obj.cells (natL 302 fun _ => 0).toArray 69)).alloc (Obj.cells (natL 302 fun _ => 0).toArray 69)) from by
    have k1 := KeepX.below (r := r) (below_alloc w (Obj.cells (natL 302 fun _ => 0).toArray 69))
    have k2 := KeepX.below (r := r) (below_alloc (w.alloc (Obj.cells (natL 302 fun _ => 0).toArray 69)) (Obj.cells (natL 302 fun _ => 0).toArray 69))
    have c1 := CellsAt.newA (w.alloc (Obj.cells (natL 302 fun _ => 0).toArray 69)) 302 (fun _ => 0) 69
    rw [s1, ← hR] at c1
    have c0 := (CellsAt.newA w 302 (fun _ => 0) 69).alloc (Obj.cells (natL 302 fun _ => 0).toArray 69)
    rw [← hR] at c0
    exact ⟨0, f, Nat.zero_le _, rfl, c1, c0, (HR.out.step (below_alloc _ _)).step (below_alloc _ _), k1.trans k2⟩)
  generalize (w.alloc (Obj.cells (natL 302 fun _ => 0).toArray 69)).alloc (Obj.cells (natL 302 fun _ => 0).toArray 69) = x2 at *
  have hrR : r < R := by omega
  have hbR : b < R := by omega
  rw [s1, ← hR]
  have QR := Lib.hid hR
  clear hR s1 HR Z
  go_wp2_with fail
  go_loopw [4, 5, 6, 24] (fun d _ _ _ wr => LnRel w r b off cp a R q l d wr) (fun d _ _ _ _ => (302 - intOf d).toNat)
  case atStart => exact ST.out
  case round =>
    clear ST
    obtain ⟨k, f', hk, rfl, h1, h0, hrd, hkx⟩ := hrel
    by_cases hlt : k < q
    · have dl : doneK l a k < 302 := by rw [← HQ.out]; exact doneK_mono l a hlt
      have d2 : doneK l a k + manyK l a k ≤ 302 := by
        rw [← HQ.out]
        rcases Nat.lt_or_ge (k + 1) q with h | h
        · exact Nat.le_of_lt (doneK_mono l a h)
        · obtain rfl : q = k + 1 := by omega
          exact Nat.le_refl _
      have ml := manyK_le l a k
      have ll := lenK_lt l a k
      have BC := Lib.hid (begin_x hrd)
      have H0 := Lib.hid h0
      have H1 := Lib.hid h1
      have KX := Lib.hid hkx
      clear h0 h1 hrd hkx
      obtain ⟨D, hD⟩ : ∃ D, D = doneK l a k := ⟨_, rfl⟩
      obtain ⟨M, hM⟩ : ∃ M, M = manyK l a k := ⟨_, rfl⟩
      obtain ⟨X, hX⟩ : ∃ X, X = lenK l a k := ⟨_, rfl⟩
      have e1 := Lib.hid (show aheadN l (a + 8 * k) / 2048 = X from hX.symm)
      have e2 := Lib.hid (show aheadN l (a + 8 * k + 4) / 2048 + 1 = M from hM.symm)
      have QD := Lib.hid hD
      have QM := Lib.hid hM
      have QX := Lib.hid hX
      rw [← hD] at dl d2 ⊢
      rw [← hM] at d2 ml
      rw [← hX] at ll
      clear hD hM hX
      have tt : decide ((D : Int) < 302) = true := decide_eq_true (by omega)
      go_wp2_with fail
      refine BC.out.mono ?_
      rintro e w3 ⟨rfl, h3, k3⟩
      have N3 := Lib.hid (number4_ok h3 (by omega))
      have K3 := Lib.hid (KX.out.trans k3)
      have C1 := Lib.hid (H1.out.keepX k3 (by omega))
      have C0 := Lib.hid (H0.out.keepX k3 (by omega))
      clear h3 k3 BC KX H1 H0
      go_wp2_with fail
      refine N3.out.mono ?_
      rintro e w4 ⟨rfl, h4, k4⟩
      have N4 := Lib.hid (number4_ok h4 (by omega))
      have K4 := Lib.hid (K3.out.trans k4)
      have C1' := Lib.hid (C1.out.keepX k4 (by omega))
      have C0' := Lib.hid (C0.out.keepX k4 (by omega))
      clear h4 k4 N3 K3 C1 C0
      rw [e1.out]
      go_wp2_with fail
      refine N4.out.mono ?_
      rintro e w5 ⟨rfl, h5, k5⟩
      have K5 := Lib.hid (K4.out.trans k5)
      have C1 := Lib.hid (C1'.out.keepX k5 (by omega))
      have C0 := Lib.hid (C0'.out.keepX k5 (by omega))
      have H5 := Lib.hid h5
      clear h5 k5 N4 K4 C1' C0'
      obtain ⟨M', hM'⟩ : ∃ M', M' = aheadN l (a + 8 * k + 4) / 2048 := ⟨_, rfl⟩
      have e2' := e2.out
      rw [← hM'] at e2' ⊢
      clear hM'
      have tm : ((M' : Int) + 1) = (M : Int) := by omega
      have t2 : decide (302 - (D : Int) < (M : Int)) = false := decide_eq_false (by omega)
      go_wp2_with fail
      have SM := Lib.hid (show LmRel w r b off cp a R k l (.int .i64 (D : Int)) (.int .i64 (0 : Nat)) w5 from ⟨0, _, Nat.zero_le _, rfl, by rw [← QD.out]; rfl, by rw [fillF_zero]; exact C1.out, C0.out, by rw [show a + 8 * (k + 1) = a + 8 * k + 4 + 4 by omega]; exact H5.out, K5.out⟩)
      clear C1 C0 H5 K5 e1 e2 e2' tm t2
      go_loopw [4, 24] (fun d i wr => LmRel w r b off cp a R k l d i wr) (fun _ i _ => (M - (intOf i).toNat))
      case atStart => exact SM.out
      case round =>
        clear SM
        obtain ⟨n, f2, hn, rfl, rfl, h1, h0, hrd, hkx⟩ := hrel
        rw [← QM.out] at hn
        rw [← QD.out]
        by_cases hlt2 : n < M
        · have g1 := h1.cell (D + n) _ (natL_get (by omega))
          have g2 := h1.free (D + n)
          have gl := h1.lt
          have FIN := Lib.hid (show LmRel w r b off cp a R k l (.int .i64 (((D + n : Nat) : Int) + 1)) (.int .i64 ((n : Int) + 1)) (wr.setCell ⟨R + 1, D + n, none⟩ (.int .i64 (X : Int))) from by
            have n1 := h1.set (D + n) (.int .i64 (X : Int)) (by rw [natL_len]; omega)
            rw [natL_set, ← QX.out, ← QD.out, fillF_step] at n1
            refine ⟨n + 1, f2, by rw [← QM.out]; omega, by go_num, by rw [← QD.out]; go_num, by rw [← QX.out, ← QD.out]; exact n1, h0.other (by omega) _ _, hrd.other (by omega) (by omega) _ _, ?_⟩
            exact hkx.up (Below.setCell (p := ⟨R + 1, D + n, none⟩) (Below.refl (R + 1) wr) (Nat.le_refl _) _) (by rw [← QR.out]; omega))
          have ME := Lib.hid (show M - ((n : Int) + 1).toNat < M - (n : Int).toNat by omega)
          obtain ⟨E, hE⟩ : ∃ E, E = D + n := ⟨_, rfl⟩
          rw [← hE] at g1 g2 FIN ⊢
          have el : E < 302 := by omega
          have tt2 : decide ((n : Int) < (M : Int)) = true := decide_eq_true (by omega)
          clear h1 h0 hrd hkx hE tt
          go_wp2_with fail
          exact ⟨FIN.out, ME.out⟩
        · obtain rfl : n = M := by omega
          have FIN := Lib.hid (show LnRel w r b off cp a R q l (.int .i64 ((D + n : Nat) : Int)) wr from by
            have h1' := h1
            rw [QM.out, valsK_step] at h1'
            exact ⟨k + 1, f2, by omega, by rw [QD.out, QM.out]; rfl, h1', h0, hrd, hkx⟩)
          have ME := Lib.hid (show (302 - ((D + n : Nat) : Int)).toNat < (302 - (D : Int)).toNat from by
            have := manyK l a k
            have h9 : 1 ≤ n := by rw [QM.out]; unfold manyK; omega
            omega)
          have tt2 : decide ((n : Int) < (n : Int)) = false := decide_eq_false (by omega)
          clear h1 h0 hrd hkx tt
          generalize D + n = E at *
          go_wp2_with fail
          exact ⟨FIN.out, ME.out⟩
    · obtain rfl : k = q := by omega
      have R2 := Lib.hid h1.range
      have T1 := Lib.hid (show wr.there R 0 (natL 302 (valsK l a k)).toArray.size by have := h0.there; simpa [natL_len] using this)
      have H1 := Lib.hid (h0.sets (us := natL 302 (valsK l a k)) (by simp [natL_len]))
      have FIN := Lib.hid (show RetLens w r b off cp a k l (.returned (.agg (natL 302 (valsK l a k)).toArray)) (wr.setCells R 0 (natL 302 (valsK l a k))) from
        have kb := below_sets R (Nat.le_refl R) (natL 302 (valsK l a k)) 0 (Below.refl R wr)
        ⟨rfl, ⟨f', hrd.keep kb hrR hbR⟩, hkx.up kb (by rw [← QR.out]; exact Nat.le_refl _)⟩)
      rw [HQ.out]
      clear h1 h0 hrd hkx
      go_wp2_with (first
        | (guard_target =~ wpList _ _ _ (⟨some _, Op.load 69 _, _, _, _, _⟩ :: _) _ _; go_must (refine wpList_load_mid rfl 69 _ rfl (R + 1) 0 rfl (natL 302 (valsK l a k)) _ R2.out Tryd.underlying69 rfl (info69n _) ?_))
        | (guard_target =~ wpList _ _ _ (⟨none, Op.store 69 _ _, _, _, _, _⟩ :: _) _ _; go_must (refine wpList_store_mid rfl 69 _ _ rfl R 0 (natL 302 (valsK l a k)).toArray rfl rfl T1.out (info69a _) (natL_one _ _) ?_)))
      exact bodyPost_ret (results_range rfl _ _ R _ _ rfl H1.out.range Tryd.underlying69 rfl (info69n _)) rfl FIN.out
end Go.Proofs.YtfbeipfpkikakaaDoor
