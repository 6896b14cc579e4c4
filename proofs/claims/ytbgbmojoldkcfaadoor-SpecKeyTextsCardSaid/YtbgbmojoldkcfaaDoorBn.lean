/- The document's Long, whole; byName. -/
import Derived.Test.YtbgbmojoldkcfaaDoorLr
namespace Go.Proofs.YtbgbmojoldkcfaaDoor
open Go.RowKit

theorem rS_err (s : Bs) : ∀ (L : List Bs) (n : Nat) (f : Bs), (rS s n f L).2 ≠ 0 → (rS s n f L).1 = []
  | [], n, f => by
    rw [rS]
    split
    · intro _; rfl
    · split
      · intro _; rfl
      · intro h; exact absurd rfl h
  | x :: r, n, f => by
    rw [rS]
    split
    · intro h; exact absurd rfl h
    · split
      · exact rS_err s r _ _
      · exact rS_err s r _ _
def RetStr (w : World) (p : Bs × Int) (e : Ending) (w' : World) : Prop := e = .returned (.tuple #[.string (bs p.1), .int .i64 p.2]) ∧ Below w.heap.size w w'
theorem refLong_ok (s : ByteArray) (w : World) (T : Tabs w) : Calls Tryd.prog 9 #[.string s] w (RetStr w (rS s.data.toList 0 [] rNames)) := by
  obtain ⟨b, off, c, hh, hcell⟩ := names_at T
  have C := Lib.hid (rlong_ok s w T)
  have HE := Lib.hid (rS_err s.data.toList rNames 0 [])
  clear T
  generalize rS s.data.toList 0 [] rNames = p at *
  obtain ⟨nm, er⟩ := p
  have HC := Lib.hid hcell
  clear hcell
  go_enter Tryd.func9, Tryd.ntmps9
  go_wp2_with fail
  refine C.out.mono ?_
  rintro e w' ⟨ix, rfl, hix, rfl⟩
  by_cases h0 : er = 0
  · obtain ⟨j, hj, rfl, hnm⟩ := hix h0
    subst h0
    have cj := HC.out j hj
    rw [hnm] at cj
    clear hix hnm
    go_wp2_with fail
    go_ret2
    exact ⟨rfl, Below.refl _ _⟩
  · have t1 : (er != 0) = true := by simpa using h0
    have hnil := HE.out h0
    obtain rfl : nm = [] := hnil
    clear hix h0
    go_wp2_with fail
    go_ret2
    exact ⟨rfl, Below.refl _ _⟩

theorem bcell {W w1 : World} {B : Nat} (hb : RowKit.Below B W w1) : (∀ b o, b < B → w1.cell? ⟨b, o, none⟩ = W.cell? ⟨b, o, none⟩) ∧ (∀ b o, b < B → w1.frozen? ⟨b, o, none⟩ = W.frozen? ⟨b, o, none⟩) :=
  ⟨fun b o h => hb.cell (p := ⟨b, o, none⟩) h, fun b o h => hb.frozen (p := ⟨b, o, none⟩) h⟩
/-- A block whose cells are known, and may be written. -/
structure CellsAt (w : World) (b : Nat) (vs : List Value) : Prop where
  lt : b < w.heap.size
  cell : ∀ (j : Nat) v, vs[j]? = some v → w.cell? ⟨b, j, none⟩ = some v
  free : ∀ j, w.frozen? ⟨b, j, none⟩ = false
theorem CellsAt.keep {w w' : World} {B b : Nat} {vs : List Value} (h : CellsAt w b vs) (k : Below B w w') (hb : b < B) : CellsAt w' b vs :=
  ⟨Nat.lt_of_lt_of_le h.lt k.size, fun j v hv => ((bcell k).1 b j hb).trans (h.cell j v hv), fun j => ((bcell k).2 b j hb).trans (h.free j)⟩
theorem CellsAt.step {w w' : World} {b : Nat} {vs : List Value} (h : CellsAt w b vs) (k : Below w.heap.size w w') : CellsAt w' b vs := h.keep k h.lt
theorem CellsAt.new (w : World) (vs : List Value) (t : TypeId) : CellsAt (w.alloc (.cells vs.toArray t)) w.heap.size vs :=
  ⟨by simp, fun j v hv => by rw [World.cell?_alloc_at _ _ _ _ rfl]; simpa using hv, fun j => by simp⟩
theorem CellsAt.set {w : World} {b : Nat} {vs : List Value} (h : CellsAt w b vs) (j : Nat) (x : Value) (hj : j < vs.length) : CellsAt (w.setCell ⟨b, j, none⟩ x) b (vs.set j x) := by
  refine ⟨by simpa using h.lt, fun i v hv => ?_, fun i => by rw [World.frozen?_setCell]; exact h.free i⟩
  rw [List.getElem?_set] at hv
  by_cases e : j = i
  · subst e
    rw [if_pos rfl, if_pos hj] at hv
    cases hv
    exact World.cell?_setCell_same _ _ _ (h.cell j vs[j] (List.getElem?_eq_getElem hj))
  · rw [if_neg e] at hv
    rw [World.cell?_setCell_other _ _ _ _ (by simp; try omega)]
    exact h.cell i v hv
/-- Four cells set. -/
theorem CellsAt.four {w : World} {b : Nat} {vs : List Value} (h : CellsAt w b vs) (hl : vs.length = 4) (x0 x1 x2 x3 : Value) : CellsAt ((((w.setCell ⟨b, 0, none⟩ x0).setCell ⟨b, 1, none⟩ x1).setCell ⟨b, 2, none⟩ x2).setCell ⟨b, 3, none⟩ x3) b [x0, x1, x2, x3] := by
  match vs, hl with
  | [v0, v1, v2, v3], _ => exact (((h.set 0 x0 (by simp)).set 1 x1 (by simp)).set 2 x2 (by simp)).set 3 x3 (by simp)
theorem below_four {B : Nat} {a w : World} (h : Below B a w) {b : Nat} (hb : B ≤ b) (x0 x1 x2 x3 : Value) : Below B a ((((w.setCell ⟨b, 0, none⟩ x0).setCell ⟨b, 1, none⟩ x1).setCell ⟨b, 2, none⟩ x2).setCell ⟨b, 3, none⟩ x3) :=
  (((h.setCell (p := ⟨b, 0, none⟩) hb x0).setCell (p := ⟨b, 1, none⟩) hb x1).setCell (p := ⟨b, 2, none⟩) hb x2).setCell (p := ⟨b, 3, none⟩) hb x3
theorem CellsAt.alloc {w : World} {b : Nat} {vs : List Value} (h : CellsAt w b vs) (o : Obj) : CellsAt (w.alloc o) b vs := h.step ((Below.refl _ _).alloc (Nat.le_refl _) o)

def zero4 : List Value := [.string ⟨#[]⟩, .int .u8 0, .bool false, .string ⟨#[]⟩]
def nmO (k : Nat) : Bs := (optL.getD k ([], 0, false, [])).1
theorem oNames_drop (k : Nat) (h : k < 27) : oNames.drop k = nmO k :: oNames.drop (k + 1) := by
  have hl : k < oNames.length := h
  have hk : k < optL.length := h
  have h2 : oNames[k]? = some (nmO k) := by
    unfold oNames nmO
    rw [List.getElem?_map, List.getD_eq_getElem?_getD, List.getElem?_eq_getElem hk]; rfl
  have h3 : oNames[k] = nmO k := Option.some.inj ((List.getElem?_eq_getElem hl).symm.trans h2)
  rw [List.drop_eq_getElem_cons hl]
  exact congrArg (· :: _) h3
def RetOpt (w : World) (nm : Bs) (v2 : Value) (e : Ending) (w' : World) : Prop :=
  ∃ l wa lo, e = .returned (.tuple #[.agg #[.string (bs nm), .int .u8 l, .bool wa, .string lo], v2]) ∧ Below w.heap.size w w'
def RetBn (w : World) (s : Bs) (e : Ending) (w' : World) : Prop := (s ∈ oNames ∧ RetOpt w s (.bool true) e w') ∨ (s ∉ oNames ∧ RetOpt w [] (.bool false) e w')

set_option maxRecDepth 100000
set_option maxHeartbeats 1600000 in
theorem byName_ok (s : ByteArray) (w : World) (T : Tabs w) : Calls Tryd.prog 35 #[.string s] w (RetBn w s.data.toList) := by
  have A0 := Lib.hid (CellsAt.new w zero4 47)
  have B0 := Lib.hid ((Below.refl w.heap.size w).alloc (Nat.le_refl _) (Obj.cells zero4.toArray 47))
  obtain ⟨t0, fr0, hm⟩ := (T.below B0.out).options
  have HM := Lib.hid hm
  clear hm T
  go_enter Tryd.func35, Tryd.ntmps35
  go_wp2_with (refine wpList_load_row rfl _ _ rfl 1 rfl t0 cOptions fr0 _ HM.out Tryd.underlying82 rfl infoOpts ?_)
  go_loopw [7] (fun i wr => ∃ k : Nat, k ≤ 27 ∧ i = .int .i64 k ∧ (s.data.toList ∈ oNames ↔ s.data.toList ∈ oNames.drop k) ∧ CellsAt wr w.heap.size zero4 ∧ Below w.heap.size w wr) (fun i _ => 27 - (intOf i).toNat)
  case atStart => exact ⟨0, by omega, rfl, Iff.rfl, A0.out, B0.out⟩
  case round =>
    obtain ⟨k, hk, rfl, hmem, hA, hB⟩ := hrel
    have HMEM := Lib.hid hmem
    have HA := Lib.hid hA
    have HB := Lib.hid hB
    clear hmem hA hB A0 B0
    by_cases hlt : k < 27
    · have t1 : decide ((k : Int) < 27) = true := by simp only [decide_eq_true_eq]; omega
      have hx := index_opts k hlt
      have hd := oNames_drop k hlt
      have hnm : nmO k = (optL.getD k ([], 0, false, [])).1 := rfl
      generalize optL.getD k ([], 0, false, []) = p at *
      obtain ⟨nm, l, wa, lo⟩ := p
      simp only at hnm
      rw [hnm] at hd
      replace hx : ∀ w, (Instr.index 82 (.agg cOptions) (.int .i64 k)).run Tryd.prog w = .ok (.agg #[.string (bs nm), .int .u8 (l : Int), .bool wa, .string (bs lo)]) w := hx
      have hnb := bs_list nm
      have HD := Lib.hid hd
      clear hd hnm
      have a0 := HA.out.cell 0 _ rfl
      have a1 := HA.out.cell 1 _ rfl
      have a2 := HA.out.cell 2 _ rfl
      have a3 := HA.out.cell 3 _ rfl
      have f0 := HA.out.free 0
      have f1 := HA.out.free 1
      have f2 := HA.out.free 2
      have f3 := HA.out.free 3
      have hl := HA.out.lt
      by_cases he : nm = s.data.toList
      · have t2 := str_eq hnb he
        have HMM := Lib.hid (show s.data.toList ∈ oNames from HMEM.out.2 (by rw [HD.out, he]; exact List.mem_cons_self ..))
        have HEQ := Lib.hid he
        clear he
        have HNB := Lib.hid hnb
        clear hnb
        go_wp2_with fail
        have R := (HA.out.four rfl (.string (bs nm)) (.int .u8 (l : Int)) (.bool wa) (.string (bs lo))).alloc (.cells #[.string (bs nm), .int .u8 (l : Int), .bool wa, .string (bs lo)] 47)
        have R0 := R.cell 0 _ rfl
        have R1 := R.cell 1 _ rfl
        have R2 := R.cell 2 _ rfl
        have R3 := R.cell 3 _ rfl
        have BB := (below_four HB.out (Nat.le_refl _) (.string (bs nm)) (.int .u8 (l : Int)) (.bool wa) (.string (bs lo))).alloc (by simpa using HB.out.size) (.cells #[.string (bs nm), .int .u8 (l : Int), .bool wa, .string (bs lo)] 47)
        refine bodyPost_ret (v := .tuple #[.agg #[.string (bs nm), .int .u8 (l : Int), .bool wa, .string (bs lo)], .bool true]) (by simp [results, Tryd.results35, go_sem, R0, R1, R2, R3]) rfl (Or.inl ⟨HMM.out, ?_⟩)
        rw [← HEQ.out]
        exact ⟨_, _, _, rfl, BB⟩
      · have t2 := str_ne hnb he
        have HMM := Lib.hid (show s.data.toList ∈ oNames ↔ s.data.toList ∈ oNames.drop (k + 1) from HMEM.out.trans (by
          rw [HD.out, List.mem_cons]
          exact ⟨fun h => h.resolve_left (fun e => he e.symm), Or.inr⟩))
        clear he hnb
        go_wp2_with fail
        exact ⟨⟨k + 1, by omega, by go_num, HMM.out, HA.out.alloc _, HB.out.alloc HB.out.size _⟩, by simp [intOf]; omega⟩
    · have t1 : decide ((k : Int) < 27) = false := by simp only [decide_eq_false_iff_not]; omega
      have hk27 : k = 27 := by omega
      subst hk27
      have hno : s.data.toList ∉ oNames := fun h => by
        have := HMEM.out.1 h
        rw [show oNames.drop 27 = [] from rfl] at this
        cases this
      have HNO := Lib.hid hno
      clear hno
      have a0 := HA.out.cell 0 _ rfl
      have a1 := HA.out.cell 1 _ rfl
      have a2 := HA.out.cell 2 _ rfl
      have a3 := HA.out.cell 3 _ rfl
      have f0 := HA.out.free 0
      have f1 := HA.out.free 1
      have f2 := HA.out.free 2
      have f3 := HA.out.free 3
      have hl := HA.out.lt
      go_wp2_with fail
      refine bodyPost_ret (v := .tuple #[.agg #[.string ⟨#[]⟩, .int .u8 0, .bool false, .string ⟨#[]⟩], .bool false]) (by simp [results, Tryd.results35, go_sem, a0, a1, a2, a3]) rfl (Or.inr ⟨HNO.out, ?_⟩)
      exact ⟨_, _, _, rfl, (((HB.out.setCell (p := ⟨w.heap.size, 0, none⟩) (Nat.le_refl _) _).setCell (p := ⟨w.heap.size, 1, none⟩) (Nat.le_refl _) _).setCell (p := ⟨w.heap.size, 2, none⟩) (Nat.le_refl _) _).setCell (p := ⟨w.heap.size, 3, none⟩) (Nat.le_refl _) _⟩
end Go.Proofs.YtbgbmojoldkcfaaDoor
