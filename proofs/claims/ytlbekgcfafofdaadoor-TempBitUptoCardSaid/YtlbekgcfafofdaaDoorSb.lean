/- Zeros made, bytes joined within their capacity, bytes read, numbers out of pieces. -/
import Derived.Test.YtlbekgcfafofdaaDoorDd
namespace Go.Proofs.YtlbekgcfafofdaaDoor
open Go.RowKit
set_option maxRecDepth 100000

/-- n zeros. -/
def zs (n : Nat) : List UInt8 := List.replicate n 0
theorem zs_len (n : Nat) : (zs n).length = n := List.length_replicate
theorem made_zs (n : Nat) : (madeCells (Value.int .u8 0).cells (n * 1)).toList = byV (zs n) := by
  apply List.ext_getElem
  · simp [madeCells, byV, zs]
  · intro i h1 h2
    simp [madeCells, byV, zs, Value.cells, Nat.mod_one]
theorem wp_mkz {w : World} {ops : Array Oper} {rest : List Oper} {o : Oper} {a : Act} {Q : Exit → Act → World → Prop} (hgd : o.guard = none) (x y : Operand) (ho : o.op = .makeSlice 29 x y)
    (n : Nat) (hn : n ≤ 4096) (hx : a.eval x = .int .i64 (n : Int)) (hy : a.eval y = .int .i64 (n : Int))
    (h : ∀ v w', OwnB w' w.heap.size v (zs n) → Below w.heap.size w w' → wpList Tryd.prog ops Q rest (a.put o.dst v) w') : wpList Tryd.prog ops Q (o :: rest) a w := by
  obtain ⟨i0, hi, hz0, hz1, hz2⟩ := info_parts info5
  refine wpList_make_full w hgd x y 29 ho w.heap.size 5 i0 (.int .u8 0) 1 Tryd.underlying29 hi hz0 hz1 .i64 .i64 n n n hx hy rfl rfl (by rw [hz2]; omega) (by unfold maxLen; omega) (Nat.le_refl _) ?_
  intro w1 hown hgrow
  refine h _ w1 ⟨?_, hgrow.size⟩ ((Below.refl _ _).grown hgrow (Nat.le_refl _) (fun k hk => by cases hk))
  rw [made_zs] at hown
  rw [zs_len]
  exact hown
def RetC (w : World) (l : List UInt8) (e : Ending) (w' : World) : Prop := ∃ b off c, e = .returned (.slice (some ⟨b, off, none⟩) l.length c) ∧ SlC w' (.slice (some ⟨b, off, none⟩) l.length c) l ∧ Below w.heap.size w w' ∧ w.heap.size ≤ b
set_option maxHeartbeats 800000 in
theorem joinc_ok (u v : Value) (a b : List UInt8) (w : World) (ha : SlB w u a) (hb : SlB w v b) (hlen : a.length + b.length ≤ 140737488355328) (hne : b ≠ []) : Calls Tryd.prog 39 #[u, v] w (RetC w (a ++ b)) := by
  have HA := Lib.hid ha
  have HB := Lib.hid hb
  have HO := Lib.hid (OwnB.nil w)
  have HL := Lib.hid hlen
  have HE := Lib.hid hne
  clear ha hb hlen hne
  go_enter Tryd.func39, Tryd.ntmps39
  go_wp2_with (at_builtin; refine wp_appv rfl _ _ rfl w.heap.size _ _ rfl HO.out _ a rfl HA.out (by have := HL.out; simp; omega) ?_)
  intro v1 w1 h1 h2 h3
  have O1 := Lib.hid h1
  have B1 := Lib.hid h2
  have S1 := Lib.hid (HB.out.below h2)
  clear h1 h2 h3 HO
  go_wp2_with (at_builtin; refine wp_appv rfl _ _ rfl w.heap.size _ _ rfl O1.out _ b rfl S1.out (by have := HL.out; simp; omega) ?_)
  intro v2 w2 h1 h2 h3
  have O2 := Lib.hid h1
  have B2 := Lib.hid (B1.out.trans h2)
  clear h1 h2 h3 O1
  go_wp2_with fail
  go_ret
  have K : SlC w2 v2 (a ++ b) := by have := O2.out.slc; simpa using this
  rcases K with ⟨_, h⟩ | ⟨bb, off, c, hv, h⟩
  · exact absurd (List.append_eq_nil_iff.1 h).2 HE.out
  · exact ⟨bb, off, c, by rw [← hv]; rfl, Or.inr ⟨bb, off, c, rfl, h⟩, B2.out, (O2.out.1.lt bb (by rw [hv]; rfl)).1⟩
/-- One byte of a slice. -/
theorem slc_byte {w : World} {bb off m c : Nat} {l : List UInt8} (h : SlC w (.slice (some ⟨bb, off, none⟩) m c) l) (j : Nat) (hj : j < l.length) : w.cell? ⟨bb, off + j, none⟩ = some (.int .u8 (valB (seg l j 1) : Int)) := by
  obtain ⟨_, _, _, _, hc⟩ := h.lens
  have := hc j l[j] (List.getElem?_eq_getElem hj)
  rw [this]
  have e : seg l j 1 = [l[j]] := by
    unfold seg
    rw [List.drop_eq_getElem_cons hj]
    rfl
  rw [e, valB_one]
theorem seg_zero (l : List UInt8) (n : Nat) : seg l 0 n = l.take n := by unfold seg; rw [List.drop_zero]
theorem seg_more (l t : List UInt8) {a n : Nat} (h : a + n ≤ l.length) : seg (l ++ t) a n = seg l a n := by
  unfold seg
  rw [List.drop_append_of_le_length (by omega), List.take_append_of_le_length (by rw [List.length_drop]; omega)]
theorem seg_lt (l : List UInt8) (a : Nat) : valB (seg l a 1) < 256 := by
  have h1 := valB_lt (seg l a 1)
  have h2 : 256 ^ (seg l a 1).length ≤ 256 ^ 1 := Nat.pow_le_pow_right (by omega) (seg_le _ _ _)
  omega
/-- What the document's seems gives. -/
def SeP (w : World) (F : List UInt8) (e : Ending) (w' : World) : Prop := ∃ u, e = .returned (eA (parX F) u) ∧ OwnIB w' w.heap.size u (parX F).inn ∧ Below w.heap.size w w'
theorem parX_more (F t : List UInt8) (hl : 400 ≤ F.length) (h3 : valB (F.take 1) ≠ 3) (h5 : valB (F.take 1) ≠ 5) : parX (F ++ t) = parX F := by
  have e0 : (F ++ t).take 1 = F.take 1 := List.take_append_of_le_length (by omega)
  have e1 : seg (F ++ t) 1 1 = seg F 1 1 := seg_more F t (by omega)
  have e8 : seg (F ++ t) 1 8 = seg F 1 8 := seg_more F t (by omega)
  have hn := seg_lt F 1
  have e2 : seg (F ++ t) 2 (valB (seg F 1 1)) = seg F 2 (valB (seg F 1 1)) := seg_more F t (by omega)
  unfold parX
  simp only [e0, e1, e8, e2, if_neg h3, if_neg h5]
theorem SeP.more {w : World} {F t : List UInt8} (hl : 400 ≤ F.length) (h3 : valB (F.take 1) ≠ 3) (h5 : valB (F.take 1) ≠ 5) {e : Ending} {w' : World} (h : SeP w F e w') : SeP w (F ++ t) e w' := by
  unfold SeP at *
  rw [parX_more F t hl h3 h5]
  exact h
def Z8' : List Value := [.int .u8 0, .int .u64 0, .string ⟨#[]⟩, .int .i64 0, .int .i64 0, .int .i64 0, .int .u32 0, .slice none 0 0]
/-- seems under way: its entry in block p, its result's block still empty, the bytes. -/
structure SeAt (w : World) (F : List UInt8) (fb fo m c p : Nat) (xs : List Value) (wr : World) : Prop where
  X : CellsAt wr p xs
  R : CellsAt wr w.heap.size Z8'
  S : SlC wr (.slice (some ⟨fb, fo, none⟩) m c) F
  hp : w.heap.size < p
  hf : p ≠ fb
  B : Below w.heap.size w wr
theorem SeAt.put {w : World} {F : List UInt8} {fb fo m c p : Nat} {xs : List Value} {wr : World} (h : SeAt w F fb fo m c p xs wr) (j : Nat) (x : Value) (hj : j < xs.length) : SeAt w F fb fo m c p (xs.set j x) (wr.setCell ⟨p, j, none⟩ x) := by
  refine ⟨h.X.set j x hj, h.R.other (Nat.ne_of_gt h.hp) j x, ?_, h.hp, h.hf, h.B.setCell (p := ⟨p, j, none⟩) (Nat.le_of_lt h.hp) x⟩
  obtain ⟨h1, h2, h3, h4, h5⟩ := h.S.lens
  subst h1
  exact Or.inr ⟨fb, fo, c, rfl, h2, h3, by simpa using h4, fun i u hu => (World.cell?_setCell_other _ _ _ _ (fun e => h.hf (congrArg Addr.block e))).trans (h5 i u hu)⟩
theorem SeAt.step {w : World} {F : List UInt8} {fb fo m c p : Nat} {xs : List Value} {wr w' : World} (h : SeAt w F fb fo m c p xs wr) (k : Below wr.heap.size wr w') : SeAt w F fb fo m c p xs w' :=
  ⟨h.X.step k, h.R.step k, h.S.below k, h.hp, h.hf, h.B.trans (k.mono h.B.size)⟩
theorem ent_end45 {K : Ending → World → Prop} {a : Act} {W : World} {p : Nat} {x0 x1 x2 x3 x4 x5 x6 x7 : Value} (ha : a.tmps.getD 2 undef = .pointer (some ⟨p, 0, none⟩)) (hd : a.defers = []) (h : CellsAt W p [x0, x1, x2, x3, x4, x5, x6, x7]) (hK : K (.returned (.agg #[x0, x1, x2, x3, x4, x5, x6, x7])) W) : bodyPost Tryd.prog Tryd.f45 K Exit.ret a W := by
  have ha2 : a.tmps[2]?.getD undef = .pointer (some ⟨p, 0, none⟩) := by simpa using ha
  have e0 := h.cell 0 _ rfl
  have e1 := h.cell 1 _ rfl
  have e2 := h.cell 2 _ rfl
  have e3 := h.cell 3 _ rfl
  have e4 := h.cell 4 _ rfl
  have e5 := h.cell 5 _ rfl
  have e6 := h.cell 6 _ rfl
  have e7 := h.cell 7 _ rfl
  exact bodyPost_ret (v := .agg #[x0, x1, x2, x3, x4, x5, x6, x7]) (by simp [results, Tryd.results45, go_sem, ha2, e0, e1, e2, e3, e4, e5, e6, e7]) hd hK
end Go.Proofs.YtlbekgcfafofdaaDoor
