/- The program's entryOf: what is under way. -/
import Derived.Test.YtlbekgcfafofdaaDoorCu
namespace Go.Proofs.YtlbekgcfafofdaaDoor
open Go.RowKit
set_option maxRecDepth 100000

/-- A cutter that has taken q bytes off, or all. -/
def CutQ (w : World) (p : Nat) (b : List UInt8) (q : Nat) (v : Value) : Prop := CutAt w p (b.drop q) (decide (b.length < q)) v
theorem cut_fl (b : List UInt8) (q n : Nat) : (decide (b.length < q) || decide ((b.drop q).length < n)) = decide (b.length < q + n) := by
  rw [Bool.eq_iff_iff]
  simp only [Bool.or_eq_true, decide_eq_true_eq, List.length_drop]
  omega
def CutP (w : World) (p : Nat) (b : List UInt8) (q n : Nat) (e : Ending) (w' : World) : Prop := ∃ v v', e = .returned v ∧ SlC w' v (seg b q n) ∧ CutQ w' p b (q + n) v' ∧ Kp w w' (fun k => k = p)
theorem cutq_ok {w : World} {p n : Nat} {b : List UInt8} {q : Nat} {v : Value} (hn : n ≤ 9223372036854775807) (h : CutQ w p b q v) : Calls Tryd.prog 50 #[.pointer (some ⟨p, 0, none⟩), .int .i64 n] w (CutP w p b q n) :=
  (cut_ok hn h).mono fun _ _ ⟨v, v', h1, h2, _, h3, h4⟩ => ⟨v, v', h1, h2, by rw [cut_fl, List.drop_drop] at h3; exact h3, h4⟩
def NumP (w : World) (p : Nat) (b : List UInt8) (q : Nat) (x : Value) (e : Ending) (w' : World) : Prop := e = .returned x ∧ ∃ v', CutQ w' p b q v' ∧ Kp w w' (fun k => k = p)
theorem numq_ok {w : World} {p n : Nat} {b : List UInt8} {q : Nat} {v : Value} (hn : n ≤ 8) (h : CutQ w p b q v) : Calls Tryd.prog 49 #[.pointer (some ⟨p, 0, none⟩), .int .i64 n] w (NumP w p b (q + n) (.int .u64 (valB (seg b q n) : Nat))) :=
  (cnum_ok hn h).mono fun _ _ ⟨h1, v', h3, h4⟩ => ⟨h1, v', by rw [cut_fl, List.drop_drop] at h3; exact h3, h4⟩
theorem countq_ok {w : World} {p n : Nat} {b : List UInt8} {q : Nat} {v : Value} (hn : n ≤ 8) (h : CutQ w p b q v) : Calls Tryd.prog 51 #[.pointer (some ⟨p, 0, none⟩), .int .i64 n] w (NumP w p b (q + n) (.int .i64 (iw (valB (seg b q n))))) :=
  (ccount_ok hn h).mono fun _ _ ⟨h1, v', h3, h4⟩ => ⟨h1, v', by rw [cut_fl, List.drop_drop] at h3; exact h3, h4⟩
abbrev Z8 : List Value := [.int .u8 0, .int .u64 0, .string ⟨#[]⟩, .int .i64 0, .int .i64 0, .int .i64 0, .int .u32 0, .slice none 0 0]
/-- The result's box, the cutter, the entry. -/
structure EoAt (w : World) (b : List UInt8) (q : Nat) (cs : List Value) (v : Value) (p : Nat) (wr : World) : Prop where
  hp : w.heap.size + 2 ≤ p
  r : CellsAt wr w.heap.size Z8
  c : CutQ wr (w.heap.size + 1) b q v
  x : CellsAt wr p cs
  bel : Below w.heap.size w wr
theorem CellsAt.kp {w w' : World} {p : Nat} {vs : List Value} {S : Nat → Prop} (h : CellsAt w p vs) (k : Kp w w' S) (hn : ¬ S p) : CellsAt w' p vs :=
  ⟨Nat.lt_of_lt_of_le h.lt k.size, fun j v hv => (World.cell?_of_block (a := ⟨p, j, none⟩) (k.block p h.lt hn)).trans (h.cell j v hv), fun j => (World.frozen?_of_block (a := ⟨p, j, none⟩) (k.block p h.lt hn)).trans (h.free j)⟩
theorem CutQ.kp {w w' : World} {p : Nat} {b : List UInt8} {q : Nat} {v : Value} {S : Nat → Prop} (h : CutQ w p b q v) (k : Kp w w' S) (hn : ∀ x, x ≤ p → ¬ S x) : CutQ w' p b q v :=
  ⟨h.blk.kp k (hn p (Nat.le_refl _)), h.sl.kp k (fun x hx => hn x (Nat.le_of_lt (h.low x hx))), h.low⟩
/-- The cutter has gone on. -/
theorem EoAt.cut {w : World} {b : List UInt8} {q q' : Nat} {cs : List Value} {v v' : Value} {p : Nat} {wr w' : World} (h : EoAt w b q cs v p wr) (c : CutQ w' (w.heap.size + 1) b q' v') (k : Kp wr w' (fun x => x = w.heap.size + 1)) : EoAt w b q' cs v' p w' :=
  ⟨h.hp, h.r.kp k (by omega), c, h.x.kp k (by have := h.hp; omega), h.bel.trans (k.below h.bel.size fun x e => by omega)⟩
/-- A field is written. -/
theorem EoAt.put {w : World} {b : List UInt8} {q : Nat} {cs : List Value} {v : Value} {p : Nat} {wr : World} (h : EoAt w b q cs v p wr) (j : Nat) (y : Value) (hj : j < cs.length) : EoAt w b q (cs.set j y) v p (wr.setCell ⟨p, j, none⟩ y) :=
  have hp := h.hp
  have k : Kp wr (wr.setCell ⟨p, j, none⟩ y) (fun x => x = p) := Kp.set wr _ j y
  ⟨hp, h.r.kp k (by omega), h.c.kp k (fun x hx => by omega), h.x.set j y hj, h.bel.trans (k.below h.bel.size fun x e => by omega)⟩
theorem EoAt.below {w : World} {b : List UInt8} {q : Nat} {cs : List Value} {v : Value} {p : Nat} {wr w' : World} (h : EoAt w b q cs v p wr) (k : Below wr.heap.size wr w') : EoAt w b q cs v p w' :=
  ⟨h.hp, h.r.step k, h.c.kp (Kp.of (fun _ => False) k) (fun _ _ => id), h.x.step k, h.bel.trans (k.mono h.bel.size)⟩
theorem EoAt.up {w : World} {b : List UInt8} {q : Nat} {cs : List Value} {v : Value} {p : Nat} {wr w' : World} (h : EoAt w b q cs v p wr) (k : Below (p + 1) wr w') : EoAt w b q cs v p w' := by
  have hp := h.hp
  refine ⟨hp, h.r.keep k (by omega), ⟨?_, ?_, h.c.low⟩, h.x.keep k (by omega), h.bel.trans (k.mono (by omega))⟩
  · exact (k.block _ (by omega)).trans h.c.blk
  · rcases h.c.sl with h0 | ⟨b', off, c, hv, h1, h2, h3, h4⟩
    · exact Or.inl h0
    · have := h.c.low b' (by rw [hv]; rfl)
      exact Or.inr ⟨b', off, c, hv, h1, h2, Nat.lt_of_lt_of_le h3 k.size, fun j u hu => ((bcell k).1 b' (off + j) (by omega)).trans (h4 j u hu)⟩
theorem SlC.drew {w : World} {v : Value} {l : List UInt8} (h : SlC w v l) : SlC w.drew v l := h
theorem EoAt.drew {w : World} {b : List UInt8} {q : Nat} {cs : List Value} {v : Value} {p : Nat} {wr : World} (h : EoAt w b q cs v p wr) : EoAt w b q cs v p wr.drew := h.below (below_drewN wr 1)
/-- The start: two boxes and the kind. -/
theorem eo_start {w w1 : World} {v : Value} {b : List UInt8} (h : SlC w v b) (e1 : w1 = (w.alloc (.cells Z8.toArray 27)).alloc (.cells #[v, .bool false] 82)) : CutQ w1 (w.heap.size + 1) b 0 v ∧ CellsAt w1 w.heap.size Z8 ∧ Below w.heap.size w w1 ∧ w1.heap.size = w.heap.size + 2 := by
  subst e1
  have hz : (w.alloc (.cells Z8.toArray 27)).heap.size = w.heap.size + 1 := by simp
  refine ⟨⟨?_, ?_, ?_⟩, ?_, (inferInstance : Gr w _).h, by simp⟩
  · have := BlkAt.new (w.alloc (.cells Z8.toArray 27)) [v, .bool false] 82
    rw [hz] at this
    simpa using this
  · rw [List.drop_zero]
    exact h.below (inferInstance : Gr w _).h
  · intro x hx
    rcases h with ⟨h0, _⟩ | ⟨b', off, c, hv, _, _, h3, _⟩
    · rw [h0] at hx; cases hx
    · rw [hv] at hx
      injection hx with hx
      simp only at hx
      omega
  · exact (CellsAt.new w Z8 27).gr
theorem cell_set8 {w : World} {p b : Nat} {j : Nat} (hb : b ≠ p) (x0 x1 x2 x3 x4 x5 x6 x7 : Value) :
    ((((((((w.setCell ⟨p, 0, none⟩ x0).setCell ⟨p, 1, none⟩ x1).setCell ⟨p, 2, none⟩ x2).setCell ⟨p, 3, none⟩ x3).setCell ⟨p, 4, none⟩ x4).setCell ⟨p, 5, none⟩ x5).setCell ⟨p, 6, none⟩ x6).setCell ⟨p, 7, none⟩ x7).cell? ⟨b, j, none⟩ = w.cell? ⟨b, j, none⟩ := by
  have h : ∀ (W : World) (i : Nat) (x : Value), (W.setCell ⟨p, i, none⟩ x).cell? ⟨b, j, none⟩ = W.cell? ⟨b, j, none⟩ := fun W i x => World.cell?_setCell_other _ _ _ _ (fun e => hb (congrArg Addr.block e).symm)
  rw [h, h, h, h, h, h, h, h]
/-- The entry's box is made. -/
theorem eo_box {w w2 : World} {b : List UInt8} {q : Nat} {v : Value} {cs : List Value} (hr : CellsAt w2 w.heap.size Z8) (hc : CutQ w2 (w.heap.size + 1) b q v) (hb : Below w.heap.size w w2) (hz : w.heap.size + 2 ≤ w2.heap.size) : EoAt w b q cs v w2.heap.size (w2.alloc (.cells cs.toArray 27)) :=
  ⟨hz, hr.alloc _, hc.kp (Kp.of (fun _ => False) (below_alloc w2 _)) (fun _ _ => id), CellsAt.new w2 cs 27, hb.trans ((below_alloc w2 _).mono hb.size)⟩
def EoP (w : World) (b : List UInt8) (e : Ending) (w' : World) : Prop := ∃ u, e = .returned (.tuple #[eA (parX b) u, .bool (okE b)]) ∧ OwnIB w' w.heap.size u (parX b).inn ∧ Below w.heap.size w w'
/-- The end of a function that answers an entry and one thing more. -/
theorem ent_end43 {K : Ending → World → Prop} {a : Act} {W : World} {p : Nat} {x0 x1 x2 x3 x4 x5 x6 x7 y : Value} (ha : a.tmps.getD 2 undef = .pointer (some ⟨p, 0, none⟩)) (hy : a.tmps.getD 3 undef = y) (hd : a.defers = []) (h : CellsAt W p [x0, x1, x2, x3, x4, x5, x6, x7]) (hK : K (.returned (.tuple #[.agg #[x0, x1, x2, x3, x4, x5, x6, x7], y])) W) : bodyPost Tryd.prog Tryd.f43 K Exit.ret a W := by
  have ha2 : a.tmps[2]?.getD undef = .pointer (some ⟨p, 0, none⟩) := by simpa using ha
  have hy2 : a.tmps[3]?.getD undef = y := by simpa using hy
  have e0 := h.cell 0 _ rfl
  have e1 := h.cell 1 _ rfl
  have e2 := h.cell 2 _ rfl
  have e3 := h.cell 3 _ rfl
  have e4 := h.cell 4 _ rfl
  have e5 := h.cell 5 _ rfl
  have e6 := h.cell 6 _ rfl
  have e7 := h.cell 7 _ rfl
  exact bodyPost_ret (v := .tuple #[.agg #[x0, x1, x2, x3, x4, x5, x6, x7], y]) (by simp [results, Tryd.results43, go_sem, ha2, hy2, e0, e1, e2, e3, e4, e5, e6, e7]) hd hK
end Go.Proofs.YtlbekgcfafofdaaDoor
