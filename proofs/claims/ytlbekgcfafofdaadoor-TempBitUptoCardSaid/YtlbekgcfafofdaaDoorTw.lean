/- Rows of numbers of one's own; an entry of one's own. -/
import Derived.Test.YtlbekgcfafofdaaDoorSf
namespace Go.Proofs.YtlbekgcfafofdaaDoor
open Go.RowKit
set_option maxRecDepth 100000

/-- All whole blocks but those of this type are kept. -/
def KeepT (t0 : TypeId) (w w' : World) : Prop := ∀ (g : Nat) (t : TypeId) (cs : Array Value), t ≠ t0 → w.heap[g]? = some (.cells cs t (0, 0)) → w'.heap[g]? = some (.cells cs t (0, 0))
theorem KeepT.refl (t0 : TypeId) (w : World) : KeepT t0 w w := fun _ _ _ _ h => h
theorem KeepT.trans {t0 : TypeId} {a b c : World} (h : KeepT t0 a b) (k : KeepT t0 b c) : KeepT t0 a c := fun g t cs ht x => k g t cs ht (h g t cs ht x)
theorem KeepT.below {t0 : TypeId} {w w' : World} (h : Below w.heap.size w w') : KeepT t0 w w' := fun g _ _ _ x => (h.block g (lt_of_heap x)).trans x
/-- A row of numbers of the call's own, from block B on. -/
def OwnIB (w : World) (B : Nat) (v : Value) (l : List Int) : Prop := w.ownsRow B 3 1 v l.length (iV l) ∧ B ≤ w.heap.size
theorem OwnIB.nil (w : World) (B : Nat) (h : B ≤ w.heap.size) : OwnIB w B (.slice none 0 0) [] := ⟨World.ownsRow_nil _ _ _ _, h⟩
theorem OwnIB.own {w : World} {B : Nat} {v : Value} {l : List Int} (h : OwnIB w B v l) : OwnI w v l := by
  refine ⟨h.1.1, ?_⟩
  rcases h.1.2 with hn | ⟨g, cap, cur, hv, _, hgg, rest⟩
  · exact .inl hn
  · exact .inr ⟨g, cap, cur, hv, Nat.zero_le _, hgg, rest⟩
theorem OwnIB.sl {w : World} {B : Nat} {v : Value} {l : List Int} (h : OwnIB w B v l) : SlI w v l := h.own.sl
theorem OwnIB.below {w w' : World} {B : Nat} {v : Value} {l : List Int} (h : OwnIB w B v l) (k : Below w.heap.size w w') : OwnIB w' B v l := by
  refine ⟨⟨h.1.1, ?_⟩, Nat.le_trans h.2 k.size⟩
  rcases h.1.2 with hn | ⟨g, cap, cur, hv, hb, hgg, rest⟩
  · exact .inl hn
  · exact .inr ⟨g, cap, cur, hv, hb, (k.block g (lt_of_heap hgg)).trans hgg, rest⟩
theorem OwnIB.keepT {w w' : World} {B : Nat} {v : Value} {l : List Int} {t0 : TypeId} (h : OwnIB w B v l) (ht : 3 ≠ t0) (k : KeepT t0 w w') (hs : w.heap.size ≤ w'.heap.size) : OwnIB w' B v l := by
  refine ⟨⟨h.1.1, ?_⟩, Nat.le_trans h.2 hs⟩
  rcases h.1.2 with hn | ⟨g, cap, cur, hv, hb, hgg, rest⟩
  · exact .inl hn
  · exact .inr ⟨g, cap, cur, hv, hb, k g 3 cur ht hgg, rest⟩
theorem OwnIB.base {w : World} {B B' : Nat} {v : Value} {l : List Int} (h : OwnIB w B v l) (hB : B' ≤ B) : OwnIB w B' v l := by
  refine ⟨⟨h.1.1, ?_⟩, Nat.le_trans hB h.2⟩
  rcases h.1.2 with hn | ⟨g, cap, cur, hv, hb, hgg, rest⟩
  · exact .inl hn
  · exact .inr ⟨g, cap, cur, hv, Nat.le_trans hB hb, hgg, rest⟩
theorem OwnIB.grown {w w' : World} {B : Nat} {v : Value} {l : List Int} (h : OwnIB w B v l) (g : w.grownBy w' v.ownBlock) : Below B w w' :=
  (Below.refl B w).grown g h.2 (fun k hk => (h.1.lt k hk).1)
theorem OwnIB.keeps {w w' : World} {B : Nat} {v : Value} {l : List Int} (h : OwnIB w B v l) (g : w.grownBy w' v.ownBlock) : KeepT 3 w w' := by
  intro k t cs ht x
  refine (g.block k (lt_of_heap x) ?_).trans x
  intro e
  rcases h.1.2 with ⟨hv, _⟩ | ⟨g', cap, cur, hv, _, hgg, _⟩
  · rw [hv] at e; simp [Value.ownBlock] at e
  · rw [hv] at e
    have : k = g' := by simpa [Value.ownBlock] using e
    subst this
    rw [hgg] at x
    injection x with x
    injection x with _ y
    exact ht y.symm
/-- A slice of numbers is appended onto a row of the call's own. -/
theorem wp_apvI {w : World} {ops : Array Oper} {rest : List Oper} {o : Oper} {a : Act} {Q : Exit → Act → World → Prop} (hgd : o.guard = none) (s x : Operand)
    (ho : o.op = .call { callee := .builtin .append, args := #[s, x], argTypes := #[25, 25] })
    (B : Nat) (v : Value) (l : List Int) (hs : a.eval s = v) (hown : OwnIB w B v l) (u : Value) (c : List Int) (hx : a.eval x = u) (hc : SlI w u c) (hlen : l.length + c.length ≤ 17592186044416)
    (h : ∀ v' w', OwnIB w' B v' (l ++ c) → Below B w w' → KeepT 3 w w' → wpList Tryd.prog ops Q rest (a.put o.dst v') w') :
    wpList Tryd.prog ops Q (o :: rest) a w := by
  obtain ⟨i0, hi, hz0, hz1, hz2⟩ := info_parts info3
  have hB := hown.2
  have key : ∀ (ad : Addr) (cp : Nat), a.eval x = .slice (some ad) c.length cp → (∀ j u, (iV c)[j]? = some u → w.cell? (ad.add j) = some u) → wpList Tryd.prog ops Q (o :: rest) a w := by
    intro ad cp hx2 hcell
    refine wpList_append_own _ hgd s x 25 ho B 3 i0 (.int .i64 0) 1 8 Tryd.underlying25 hi hz0 hz1 hz2 rfl (by decide) v l.length (iV l) hs hown.1 ad c.length cp (iV c) hx2 (by rw [iV_len]; simp) hcell ?_ ?_ ?_ hB ?_
    · intro u hu
      obtain ⟨c', _, rfl⟩ := List.mem_map.1 hu
      rfl
    · unfold maxLen; omega
    · omega
    · intro v' w' h1 h2 _
      have hsz := h2.size
      refine h v' w' ⟨?_, Nat.le_trans hB hsz⟩ (hown.grown h2) (hown.keeps h2)
      rw [List.length_append, iV_app]; exact h1
  obtain ⟨ad, cp, hu, hle, hmx, hnn, hcs⟩ := hc
  subst hu
  cases ad with
  | none =>
    obtain rfl := hnn rfl
    have : c = [] := List.eq_nil_of_length_eq_zero (by omega)
    subst this
    refine wpList_append_own_none hgd s x 25 ho B 3 i0 1 Tryd.underlying25 hi v l.length (iV l) hs hown.1 hx ?_
    have := h v w (by rw [List.append_nil]; exact hown) (Below.refl _ _) (KeepT.refl _ _)
    exact this
  | some ad =>
    refine key ad cp hx ?_
    rcases hcs with h0 | ⟨b, off, hb, _, hcell⟩
    · intro j u hu; rw [h0] at hu; cases hu
    · cases hb
      intro j u hu
      rw [add_plain]
      exact hcell j u hu
/-- Eight cells stored over eight cells. -/
theorem CellsAt.set8 {w : World} {b : Nat} {a0 a1 a2 a3 a4 a5 a6 a7 : Value} (h : CellsAt w b [a0, a1, a2, a3, a4, a5, a6, a7]) (x0 x1 x2 x3 x4 x5 x6 x7 : Value) :
    CellsAt ((((((((w.setCell ⟨b, 0, none⟩ x0).setCell ⟨b, 1, none⟩ x1).setCell ⟨b, 2, none⟩ x2).setCell ⟨b, 3, none⟩ x3).setCell ⟨b, 4, none⟩ x4).setCell ⟨b, 5, none⟩ x5).setCell ⟨b, 6, none⟩ x6).setCell ⟨b, 7, none⟩ x7) b [x0, x1, x2, x3, x4, x5, x6, x7] :=
  (((((((h.set 0 x0 (by simp)).set 1 x1 (by simp)).set 2 x2 (by simp)).set 3 x3 (by simp)).set 4 x4 (by simp)).set 5 x5 (by simp)).set 6 x6 (by simp)).set 7 x7 (by simp)
theorem below_set8 {B : Nat} {w0 w : World} {b : Nat} (h : Below B w0 w) (hb : B ≤ b) (x0 x1 x2 x3 x4 x5 x6 x7 : Value) :
    Below B w0 ((((((((w.setCell ⟨b, 0, none⟩ x0).setCell ⟨b, 1, none⟩ x1).setCell ⟨b, 2, none⟩ x2).setCell ⟨b, 3, none⟩ x3).setCell ⟨b, 4, none⟩ x4).setCell ⟨b, 5, none⟩ x5).setCell ⟨b, 6, none⟩ x6).setCell ⟨b, 7, none⟩ x7) :=
  (((((((h.setCell (p := ⟨b, 0, none⟩) hb _).setCell (p := ⟨b, 1, none⟩) hb _).setCell (p := ⟨b, 2, none⟩) hb _).setCell (p := ⟨b, 3, none⟩) hb _).setCell (p := ⟨b, 4, none⟩) hb _).setCell (p := ⟨b, 5, none⟩) hb _).setCell (p := ⟨b, 6, none⟩) hb _).setCell (p := ⟨b, 7, none⟩) hb _
theorem OwnIB.setLow {w : World} {B : Nat} {v : Value} {l : List Int} (h : OwnIB w B v l) {b : Nat} (hb : b < B) (j : Nat) (x : Value) : OwnIB (w.setCell ⟨b, j, none⟩ x) B v l := by
  refine ⟨⟨h.1.1, ?_⟩, by simpa using h.2⟩
  rcases h.1.2 with hn | ⟨g, cap, cur, hv, hg, hgg, rest⟩
  · exact .inl hn
  · exact .inr ⟨g, cap, cur, hv, hg, by rw [heap_setCell_other w ⟨b, j, none⟩ g x (show g ≠ b by omega)]; exact hgg, rest⟩
theorem OwnIB.setLow8 {w : World} {B : Nat} {v : Value} {l : List Int} (h : OwnIB w B v l) {b : Nat} (hb : b < B) (x0 x1 x2 x3 x4 x5 x6 x7 : Value) :
    OwnIB ((((((((w.setCell ⟨b, 0, none⟩ x0).setCell ⟨b, 1, none⟩ x1).setCell ⟨b, 2, none⟩ x2).setCell ⟨b, 3, none⟩ x3).setCell ⟨b, 4, none⟩ x4).setCell ⟨b, 5, none⟩ x5).setCell ⟨b, 6, none⟩ x6).setCell ⟨b, 7, none⟩ x7) B v l :=
  (((((((h.setLow hb 0 x0).setLow hb 1 x1).setLow hb 2 x2).setLow hb 3 x3).setLow hb 4 x4).setLow hb 5 x5).setLow hb 6 x6).setLow hb 7 x7
/-- The end of a function that answers an entry. -/
theorem ent_end8 {K : Ending → World → Prop} {a : Act} {W : World} {p : Nat} {x0 x1 x2 x3 x4 x5 x6 x7 : Value} (ha : a.tmps.getD 2 undef = .pointer (some ⟨p, 0, none⟩)) (hd : a.defers = []) (h : CellsAt W p [x0, x1, x2, x3, x4, x5, x6, x7]) (hK : K (.returned (.agg #[x0, x1, x2, x3, x4, x5, x6, x7])) W) : bodyPost Tryd.prog Tryd.f8 K Exit.ret a W := by
  have ha2 : a.tmps[2]?.getD undef = .pointer (some ⟨p, 0, none⟩) := by simpa using ha
  have e0 := h.cell 0 _ rfl
  have e1 := h.cell 1 _ rfl
  have e2 := h.cell 2 _ rfl
  have e3 := h.cell 3 _ rfl
  have e4 := h.cell 4 _ rfl
  have e5 := h.cell 5 _ rfl
  have e6 := h.cell 6 _ rfl
  have e7 := h.cell 7 _ rfl
  exact bodyPost_ret (v := .agg #[x0, x1, x2, x3, x4, x5, x6, x7]) (by simp [results, Tryd.results8, go_sem, ha2, e0, e1, e2, e3, e4, e5, e6, e7]) hd hK
/-- An entry is answered; its list is the call's own. -/
def RetEO (w : World) (x : Ent) (e : Ending) (w' : World) : Prop := ∃ v, e = .returned (eA x v) ∧ OwnIB w' w.heap.size v x.inn ∧ Below w.heap.size w w'
set_option maxHeartbeats 3200000 in
theorem twin_ok (x : Ent) {u : Value} {w : World} (hx : x.inn.length ≤ 17592186044416) (hu : SlI w u x.inn) : Calls Tryd.prog 8 #[eA x u] w (RetEO w x) := by
  obtain ⟨k, pr, nm, ru, re, li, su, l⟩ := x
  simp only at hx hu
  unfold RetEO eA
  simp only
  generalize bs nm = s
  have EA := CellsAt.new w [.int .u8 k, .int .u64 pr, .string s, .int .i64 ru, .int .i64 re, .int .i64 li, .int .u32 su, u] 27
  have ER := CellsAt.new (w.alloc (.cells #[.int .u8 k, .int .u64 pr, .string s, .int .i64 ru, .int .i64 re, .int .i64 li, .int .u32 su, u] 27)) [.int .u8 0, .int .u64 0, .string ⟨#[]⟩, .int .i64 0, .int .i64 0, .int .i64 0, .int .u32 0, .slice none 0 0] 27
  have hz : (w.alloc (.cells #[.int .u8 k, .int .u64 pr, .string s, .int .i64 ru, .int .i64 re, .int .i64 li, .int .u32 su, u] 27)).heap.size = w.heap.size + 1 := by simp
  rw [hz] at ER
  clear hz
  have EA2 : CellsAt ((w.alloc (.cells #[.int .u8 k, .int .u64 pr, .string s, .int .i64 ru, .int .i64 re, .int .i64 li, .int .u32 su, u] 27)).alloc (.cells #[.int .u8 0, .int .u64 0, .string ⟨#[]⟩, .int .i64 0, .int .i64 0, .int .i64 0, .int .u32 0, .slice none 0 0] 27)) w.heap.size _ := EA.gr
  have GB := (inferInstance : Gr w ((w.alloc (.cells #[.int .u8 k, .int .u64 pr, .string s, .int .i64 ru, .int .i64 re, .int .i64 li, .int .u32 su, u] 27)).alloc (.cells #[.int .u8 0, .int .u64 0, .string ⟨#[]⟩, .int .i64 0, .int .i64 0, .int .i64 0, .int .u32 0, .slice none 0 0] 27))).h
  clear EA
  go_enter Tryd.func8, Tryd.ntmps8
  go_upto_region 1 with fail
  change CellsAt ((w.alloc (.cells #[.int .u8 k, .int .u64 pr, .string s, .int .i64 ru, .int .i64 re, .int .i64 li, .int .u32 su, u] 27)).alloc (.cells #[.int .u8 0, .int .u64 0, .string ⟨#[]⟩, .int .i64 0, .int .i64 0, .int .i64 0, .int .u32 0, .slice none 0 0] 27)) _ _ at ER
  generalize (w.alloc (.cells #[.int .u8 k, .int .u64 pr, .string s, .int .i64 ru, .int .i64 re, .int .i64 li, .int .u32 su, u] 27)).alloc (.cells #[.int .u8 0, .int .u64 0, .string ⟨#[]⟩, .int .i64 0, .int .i64 0, .int .i64 0, .int .u32 0, .slice none 0 0] 27) = w0 at *
  have c7 := EA2.cell 7 _ rfl
  have O0 := Lib.hid (OwnIB.nil w0 w0.heap.size (Nat.le_refl _))
  have U0 := Lib.hid (hu.below GB)
  have HL := Lib.hid hx
  have HG := Lib.hid GB
  clear hu hx GB
  go_wp2_with (at_builtin; refine wp_apvI rfl _ _ rfl w0.heap.size _ _ rfl O0.out _ l rfl U0.out (by have := HL.out; simpa using this) ?_)
  intro v1 w1 h1 h2 h3
  have O1 := Lib.hid h1
  have EA3 := Lib.hid (EA2.step h2)
  have ER3 := Lib.hid (ER.step h2)
  have B1 := Lib.hid (HG.out.trans (h2.mono HG.out.size))
  have Z0 := Lib.hid HG.out.size
  have hlt := EA2.lt
  have HLT := Lib.hid hlt
  have HLR := Lib.hid ER.lt
  clear h1 h2 h3 O0 U0 EA2 ER c7 hlt HG
  have f7 := EA3.out.free 7
  have c7 := EA3.out.cell 7 _ rfl
  obtain ⟨va, vc, hv, _⟩ := O1.out.sl.form
  subst hv
  have EA4 := EA3.out.set 7 (.slice va l.length vc) (by simp)
  have ER4 := ER3.out.other (c := w.heap.size) (by omega) 7 (.slice va l.length vc)
  have O4 := Lib.hid (show OwnIB (w1.setCell ⟨w.heap.size, 7, none⟩ (.slice va l.length vc)) w0.heap.size (.slice va l.length vc) l from
    O1.out.setLow HLT.out 7 _)
  have B4 := Lib.hid (B1.out.setCell (p := ⟨w.heap.size, 7, none⟩) (Nat.le_refl _) (.slice va l.length vc))
  simp only [List.set_cons_succ, List.set_cons_zero] at EA4
  clear O1 B1 EA3 ER3
  go_upto_region 3 with fail
  clear f7 c7
  generalize w1.setCell ⟨w.heap.size, 7, none⟩ (.slice va l.length vc) = w2 at *
  have c0 := EA4.cell 0 _ rfl
  have c1 := EA4.cell 1 _ rfl
  have c2 := EA4.cell 2 _ rfl
  have c3 := EA4.cell 3 _ rfl
  have c4 := EA4.cell 4 _ rfl
  have c5 := EA4.cell 5 _ rfl
  have c6 := EA4.cell 6 _ rfl
  have c7 := EA4.cell 7 _ rfl
  have d0 := ER4.cell 0 _ rfl
  have d1 := ER4.cell 1 _ rfl
  have d2 := ER4.cell 2 _ rfl
  have d3 := ER4.cell 3 _ rfl
  have d4 := ER4.cell 4 _ rfl
  have d5 := ER4.cell 5 _ rfl
  have d6 := ER4.cell 6 _ rfl
  have d7 := ER4.cell 7 _ rfl
  have f0 := ER4.free 0
  have f1 := ER4.free 1
  have f2 := ER4.free 2
  have f3 := ER4.free 3
  have f4 := ER4.free 4
  have f5 := ER4.free 5
  have f6 := ER4.free 6
  have f7 := ER4.free 7
  have ES := Lib.hid (ER4.set8 (.int .u8 k) (.int .u64 pr) (.string s) (.int .i64 ru) (.int .i64 re) (.int .i64 li) (.int .u32 su) (.slice va l.length vc))
  clear EA4 ER4
  have OS := Lib.hid (O4.out.setLow8 HLR.out (.int .u8 k) (.int .u64 pr) (.string s) (.int .i64 ru) (.int .i64 re) (.int .i64 li) (.int .u32 su) (.slice va l.length vc))
  have BS := Lib.hid (below_set8 B4.out (show w.heap.size ≤ w.heap.size + 1 by omega) (.int .u8 k) (.int .u64 pr) (.string s) (.int .i64 ru) (.int .i64 re) (.int .i64 li) (.int .u32 su) (.slice va l.length vc))
  go_wp2_with fail
  generalize ((((((((w2.setCell ⟨w.heap.size + 1, 0, none⟩ (.int .u8 k)).setCell ⟨w.heap.size + 1, 1, none⟩ (.int .u64 pr)).setCell ⟨w.heap.size + 1, 2, none⟩ (.string s)).setCell ⟨w.heap.size + 1, 3, none⟩ (.int .i64 ru)).setCell ⟨w.heap.size + 1, 4, none⟩ (.int .i64 re)).setCell ⟨w.heap.size + 1, 5, none⟩ (.int .i64 li)).setCell ⟨w.heap.size + 1, 6, none⟩ (.int .u32 su)).setCell ⟨w.heap.size + 1, 7, none⟩ (.slice va l.length vc)) = W at *
  exact ent_end8 rfl rfl ES.out ⟨_, rfl, OS.out.base Z0.out, BS.out⟩
end Go.Proofs.YtlbekgcfafofdaaDoor
