/- numeral scan, whole. -/
import Derived.Test.YtnpnccjeapejdaaGreatDoorNumWord
import Derived.Lib.QuietBelow
namespace Go.Proofs.YtnpnccjeapejdaaGreatDoor.Num
section
section
section
section
open Go.RowKit

/-- The two heads that scan makes: its answer's (zero until the end), and the one that it fills. -/
structure ScW (w wr : World) (ng : Bool) (wh fr : ByteArray) (ex : Int) : Prop where
  below : Below w.heap.size w wr
  size : w.heap.size + 1 < wr.heap.size
  a0 : wr.cell? ⟨w.heap.size, 0, none⟩ = some (.int .u8 0)
  a1 : wr.cell? ⟨w.heap.size, 1, none⟩ = some (.bool false)
  a2 : wr.cell? ⟨w.heap.size, 2, none⟩ = some (.string ⟨#[]⟩)
  a3 : wr.cell? ⟨w.heap.size, 3, none⟩ = some (.string ⟨#[]⟩)
  a4 : wr.cell? ⟨w.heap.size, 4, none⟩ = some (.int .i64 0)
  a5 : wr.cell? ⟨w.heap.size, 5, none⟩ = some (.int .i64 0)
  af : ∀ o, wr.frozen? ⟨w.heap.size, o, none⟩ = false
  h0 : wr.cell? ⟨w.heap.size + 1, 0, none⟩ = some (.int .u8 0)
  h1 : wr.cell? ⟨w.heap.size + 1, 1, none⟩ = some (.bool ng)
  h2 : wr.cell? ⟨w.heap.size + 1, 2, none⟩ = some (.string wh)
  h3 : wr.cell? ⟨w.heap.size + 1, 3, none⟩ = some (.string fr)
  h4 : wr.cell? ⟨w.heap.size + 1, 4, none⟩ = some (.int .i64 ex)
  h5 : wr.cell? ⟨w.heap.size + 1, 5, none⟩ = some (.int .i64 0)
  hf : ∀ o, wr.frozen? ⟨w.heap.size + 1, o, none⟩ = false

theorem ScW.step {w wr w' : World} {ng : Bool} {wh fr : ByteArray} {ex : Int} (h : ScW w wr ng wh fr ex) (b : Below wr.heap.size wr w') : ScW w w' ng wh fr ex := by
  have hz := h.size
  have c := fun o => (bcell b).1 w.heap.size o (by omega)
  have d := fun o => (bcell b).1 (w.heap.size + 1) o (by omega)
  have cf := fun o => (bcell b).2 w.heap.size o (by omega)
  have df := fun o => (bcell b).2 (w.heap.size + 1) o (by omega)
  exact ⟨h.below.trans (b.mono h.below.size), by have := b.size; omega, (c 0).trans h.a0, (c 1).trans h.a1, (c 2).trans h.a2, (c 3).trans h.a3, (c 4).trans h.a4, (c 5).trans h.a5, fun o => (cf o).trans (h.af o),
    (d 0).trans h.h0, (d 1).trans h.h1, (d 2).trans h.h2, (d 3).trans h.h3, (d 4).trans h.h4, (d 5).trans h.h5, fun o => (df o).trans (h.hf o)⟩
theorem ScW.drewN {w wr : World} {ng : Bool} {wh fr : ByteArray} {ex : Int} (h : ScW w wr ng wh fr ex) (n : Nat) : ScW w (wr.drewN n) ng wh fr ex := h.step (below_drewN wr n)
theorem ScW.neg {w wr : World} {ng : Bool} {wh fr : ByteArray} {ex : Int} (h : ScW w wr ng wh fr ex) (x : Bool) : ScW w (wr.setCell ⟨w.heap.size + 1, 1, none⟩ (.bool x)) x wh fr ex :=
  ⟨h.below.setCell (p := ⟨w.heap.size + 1, 1, none⟩) (by simp) _, by simpa using h.size, by rw [World.cell?_setCell_other _ _ _ _ (by simp)]; exact h.a0, by rw [World.cell?_setCell_other _ _ _ _ (by simp)]; exact h.a1, by rw [World.cell?_setCell_other _ _ _ _ (by simp)]; exact h.a2, by rw [World.cell?_setCell_other _ _ _ _ (by simp)]; exact h.a3, by rw [World.cell?_setCell_other _ _ _ _ (by simp)]; exact h.a4, by rw [World.cell?_setCell_other _ _ _ _ (by simp)]; exact h.a5, fun o => by rw [World.frozen?_setCell]; exact h.af o, by rw [World.cell?_setCell_other _ _ _ _ (by simp)]; exact h.h0, World.cell?_setCell_same _ _ _ h.h1, by rw [World.cell?_setCell_other _ _ _ _ (by simp)]; exact h.h2, by rw [World.cell?_setCell_other _ _ _ _ (by simp)]; exact h.h3, by rw [World.cell?_setCell_other _ _ _ _ (by simp)]; exact h.h4, by rw [World.cell?_setCell_other _ _ _ _ (by simp)]; exact h.h5, fun o => by rw [World.frozen?_setCell]; exact h.hf o⟩
theorem ScW.whole {w wr : World} {ng : Bool} {wh fr : ByteArray} {ex : Int} (h : ScW w wr ng wh fr ex) (x : ByteArray) : ScW w (wr.setCell ⟨w.heap.size + 1, 2, none⟩ (.string x)) ng x fr ex :=
  ⟨h.below.setCell (p := ⟨w.heap.size + 1, 2, none⟩) (by simp) _, by simpa using h.size, by rw [World.cell?_setCell_other _ _ _ _ (by simp)]; exact h.a0, by rw [World.cell?_setCell_other _ _ _ _ (by simp)]; exact h.a1, by rw [World.cell?_setCell_other _ _ _ _ (by simp)]; exact h.a2, by rw [World.cell?_setCell_other _ _ _ _ (by simp)]; exact h.a3, by rw [World.cell?_setCell_other _ _ _ _ (by simp)]; exact h.a4, by rw [World.cell?_setCell_other _ _ _ _ (by simp)]; exact h.a5, fun o => by rw [World.frozen?_setCell]; exact h.af o, by rw [World.cell?_setCell_other _ _ _ _ (by simp)]; exact h.h0, by rw [World.cell?_setCell_other _ _ _ _ (by simp)]; exact h.h1, World.cell?_setCell_same _ _ _ h.h2, by rw [World.cell?_setCell_other _ _ _ _ (by simp)]; exact h.h3, by rw [World.cell?_setCell_other _ _ _ _ (by simp)]; exact h.h4, by rw [World.cell?_setCell_other _ _ _ _ (by simp)]; exact h.h5, fun o => by rw [World.frozen?_setCell]; exact h.hf o⟩
theorem ScW.frac {w wr : World} {ng : Bool} {wh fr : ByteArray} {ex : Int} (h : ScW w wr ng wh fr ex) (x : ByteArray) : ScW w (wr.setCell ⟨w.heap.size + 1, 3, none⟩ (.string x)) ng wh x ex :=
  ⟨h.below.setCell (p := ⟨w.heap.size + 1, 3, none⟩) (by simp) _, by simpa using h.size, by rw [World.cell?_setCell_other _ _ _ _ (by simp)]; exact h.a0, by rw [World.cell?_setCell_other _ _ _ _ (by simp)]; exact h.a1, by rw [World.cell?_setCell_other _ _ _ _ (by simp)]; exact h.a2, by rw [World.cell?_setCell_other _ _ _ _ (by simp)]; exact h.a3, by rw [World.cell?_setCell_other _ _ _ _ (by simp)]; exact h.a4, by rw [World.cell?_setCell_other _ _ _ _ (by simp)]; exact h.a5, fun o => by rw [World.frozen?_setCell]; exact h.af o, by rw [World.cell?_setCell_other _ _ _ _ (by simp)]; exact h.h0, by rw [World.cell?_setCell_other _ _ _ _ (by simp)]; exact h.h1, by rw [World.cell?_setCell_other _ _ _ _ (by simp)]; exact h.h2, World.cell?_setCell_same _ _ _ h.h3, by rw [World.cell?_setCell_other _ _ _ _ (by simp)]; exact h.h4, by rw [World.cell?_setCell_other _ _ _ _ (by simp)]; exact h.h5, fun o => by rw [World.frozen?_setCell]; exact h.hf o⟩
theorem ScW.exp {w wr : World} {ng : Bool} {wh fr : ByteArray} {ex : Int} (h : ScW w wr ng wh fr ex) (x : Int) : ScW w (wr.setCell ⟨w.heap.size + 1, 4, none⟩ (.int .i64 x)) ng wh fr x :=
  ⟨h.below.setCell (p := ⟨w.heap.size + 1, 4, none⟩) (by simp) _, by simpa using h.size, by rw [World.cell?_setCell_other _ _ _ _ (by simp)]; exact h.a0, by rw [World.cell?_setCell_other _ _ _ _ (by simp)]; exact h.a1, by rw [World.cell?_setCell_other _ _ _ _ (by simp)]; exact h.a2, by rw [World.cell?_setCell_other _ _ _ _ (by simp)]; exact h.a3, by rw [World.cell?_setCell_other _ _ _ _ (by simp)]; exact h.a4, by rw [World.cell?_setCell_other _ _ _ _ (by simp)]; exact h.a5, fun o => by rw [World.frozen?_setCell]; exact h.af o, by rw [World.cell?_setCell_other _ _ _ _ (by simp)]; exact h.h0, by rw [World.cell?_setCell_other _ _ _ _ (by simp)]; exact h.h1, by rw [World.cell?_setCell_other _ _ _ _ (by simp)]; exact h.h2, by rw [World.cell?_setCell_other _ _ _ _ (by simp)]; exact h.h3, World.cell?_setCell_same _ _ _ h.h4, by rw [World.cell?_setCell_other _ _ _ _ (by simp)]; exact h.h5, fun o => by rw [World.frozen?_setCell]; exact h.hf o⟩

def scL (s : ByteArray) : List UInt8 := s.data.toList
def scB (s : ByteArray) : Nat := spanN isBlank (scL s)
def scR (s : ByteArray) : List UInt8 := (scL s).drop (scB s)
def scNeg (s : ByteArray) : Bool := atB (scR s) 0 == 45
/-- Where the digits ahead of the point begin, and what stands there. -/
def scF (s : ByteArray) (g : Bool) : Nat := scB s + signN (scR s) g
def scR1 (s : ByteArray) (g : Bool) : List UInt8 := (scR s).drop (signN (scR s) g)
def scW (s : ByteArray) (g : Bool) : Nat := spanN isDig (scR1 s g)
def scR2 (s : ByteArray) (g : Bool) : List UInt8 := (scR1 s g).dropWhile isDig
def scWhole (s : ByteArray) (g : Bool) : List UInt8 := (scR1 s g).takeWhile isDig

def scWord (s : ByteArray) (g : Bool) : Prop := g = true ∧ 0 < (wordS (scR1 s g) (scNeg s)).2

/-- A slot of a frame. -/
def slot (t : Array Value) (n : Nat) : Value := t.getD n undef
theorem slots_all (t : Array Value) (n : Nat) (h : t.size = n) : t = ((List.range n).map (slot t)).toArray := by
  apply Array.ext
  · simp [h]
  · intro k h1 h2
    simp [slot, Array.getD, h1]
theorem frame105 {s : ByteArray} {g : Bool} {w : World} {i f : Int} (a : Act) (hd : a.defers = []) (hn : a.tmps.size = 105) (h0 : slot a.tmps 0 = .string s) (h1 : slot a.tmps 1 = .bool g) (h4 : slot a.tmps 4 = .pointer (some ⟨w.heap.size, 0, none⟩)) (h5 : slot a.tmps 5 = .pointer (some ⟨w.heap.size + 1, 0, none⟩)) (h6 : slot a.tmps 6 = .int .i64 i) (h7 : slot a.tmps 7 = .int .i64 f) :
    ∃ t : Nat → Value, a = { tmps := #[.string s, .bool g, t 2, t 3, .pointer (some ⟨w.heap.size, 0, none⟩), .pointer (some ⟨w.heap.size + 1, 0, none⟩), .int .i64 i, .int .i64 f, t 8, t 9, t 10, t 11, t 12, t 13, t 14, t 15, t 16, t 17, t 18, t 19, t 20, t 21, t 22, t 23, t 24, t 25, t 26, t 27, t 28, t 29, t 30, t 31, t 32, t 33, t 34, t 35, t 36, t 37, t 38, t 39, t 40, t 41, t 42, t 43, t 44, t 45, t 46, t 47, t 48, t 49, t 50, t 51, t 52, t 53, t 54, t 55, t 56, t 57, t 58, t 59, t 60, t 61, t 62, t 63, t 64, t 65, t 66, t 67, t 68, t 69, t 70, t 71, t 72, t 73, t 74, t 75, t 76, t 77, t 78, t 79, t 80, t 81, t 82, t 83, t 84, t 85, t 86, t 87, t 88, t 89, t 90, t 91, t 92, t 93, t 94, t 95, t 96, t 97, t 98, t 99, t 100, t 101, t 102, t 103, t 104], defers := [] } := by
  obtain ⟨tm, df⟩ := a
  refine ⟨slot tm, ?_⟩
  have e := slots_all tm 105 hn
  have e2 : tm = #[slot tm 0, slot tm 1, slot tm 2, slot tm 3, slot tm 4, slot tm 5, slot tm 6, slot tm 7, slot tm 8, slot tm 9, slot tm 10, slot tm 11, slot tm 12, slot tm 13, slot tm 14, slot tm 15, slot tm 16, slot tm 17, slot tm 18, slot tm 19, slot tm 20, slot tm 21, slot tm 22, slot tm 23, slot tm 24, slot tm 25, slot tm 26, slot tm 27, slot tm 28, slot tm 29, slot tm 30, slot tm 31, slot tm 32, slot tm 33, slot tm 34, slot tm 35, slot tm 36, slot tm 37, slot tm 38, slot tm 39, slot tm 40, slot tm 41, slot tm 42, slot tm 43, slot tm 44, slot tm 45, slot tm 46, slot tm 47, slot tm 48, slot tm 49, slot tm 50, slot tm 51, slot tm 52, slot tm 53, slot tm 54, slot tm 55, slot tm 56, slot tm 57, slot tm 58, slot tm 59, slot tm 60, slot tm 61, slot tm 62, slot tm 63, slot tm 64, slot tm 65, slot tm 66, slot tm 67, slot tm 68, slot tm 69, slot tm 70, slot tm 71, slot tm 72, slot tm 73, slot tm 74, slot tm 75, slot tm 76, slot tm 77, slot tm 78, slot tm 79, slot tm 80, slot tm 81, slot tm 82, slot tm 83, slot tm 84, slot tm 85, slot tm 86, slot tm 87, slot tm 88, slot tm 89, slot tm 90, slot tm 91, slot tm 92, slot tm 93, slot tm 94, slot tm 95, slot tm 96, slot tm 97, slot tm 98, slot tm 99, slot tm 100, slot tm 101, slot tm 102, slot tm 103, slot tm 104] := e.trans rfl
  simp only at hd h0 h1 h4 h5 h6 h7
  rw [h0, h1, h4, h5, h6, h7] at e2
  rw [hd]
  exact congrArg (fun x => ({ tmps := x, defers := [] } : Act)) e2

def ScJ (s : ByteArray) (g : Bool) (w : World) (l : Nat) (a : Act) (wr : World) : Prop :=
  ∃ (i f : Int), a.defers = [] ∧ a.tmps.size = 105 ∧ slot a.tmps 0 = .string s ∧ slot a.tmps 1 = .bool g ∧ slot a.tmps 4 = .pointer (some ⟨w.heap.size, 0, none⟩) ∧ slot a.tmps 5 = .pointer (some ⟨w.heap.size + 1, 0, none⟩) ∧ slot a.tmps 6 = .int .i64 i ∧ slot a.tmps 7 = .int .i64 f ∧
    ((l = 0 ∧ ScW w wr false ⟨#[]⟩ ⟨#[]⟩ 0 ∧ f = 0 ∧ ∃ k : Nat, k ≤ scB s ∧ i = k) ∨
     (l = 1 ∧ ¬ scWord s g ∧ ScW w wr (scNeg s) ⟨#[]⟩ ⟨#[]⟩ 0 ∧ f = scF s g ∧ ∃ k : Nat, k ≤ scW s g ∧ i = scF s g + k) ∨
     (l = 3 ∧ ¬ scWord s g ∧ atB (scR2 s g) 0 = 46 ∧ ScW w wr (scNeg s) (bs (scWhole s g)) ⟨#[]⟩ 0 ∧ f = scF s g + scW s g + 1 ∧ ∃ k : Nat, k ≤ spanN isDig ((scR2 s g).drop 1) ∧ i = scF s g + scW s g + 1 + k) ∨
     (l = 2 ∧ ¬ scWord s g ∧ ScW w wr (scNeg s) (bs (scWhole s g)) (bs (fracS (scR2 s g))) 0 ∧ i = scF s g + scW s g + fracN (scR2 s g)))
def scRank (l : Nat) : Nat := if l = 0 then 3 else if l = 1 then 2 else if l = 3 then 1 else 0
def ScM (s : ByteArray) (l : Nat) (a : Act) (_ : World) : Nat := scRank l * (s.size + 2) + (s.size + 1 - (intOf (a.tmps.getD 6 undef)).toNat)

def headV (h : Hd) : Value := .agg #[.int .u8 h.cls, .bool h.neg, .string (bs h.whole), .string (bs h.frac), .int .i64 h.exp, .int .i64 h.size]
/-- The body of scan's scope. -/
noncomputable def scBody : Code := match Tryz.f57.body with | some (.seq _ (.scope c)) => c | _ => .skip

theorem jumps_mono {J J' : Nat → Act → World → Prop} {Q : Exit → Act → World → Prop} (h : ∀ l a w, J l a w → J' l a w) : ∀ e a w, jumps J Q e a w → jumps J' Q e a w := fun e a w => by
  cases e with
  | goto l => exact h l a w
  | _ => exact id

abbrev ScQ (s : ByteArray) (g : Bool) (w : World) : Exit → Act → World → Prop := bodyPost Tryz.prog Tryz.f57 (RetBelow w (headV (scanS (scL s) g)))

theorem pos_drop (s : ByteArray) (g : Bool) : expL s (scF s g + scW s g + fracN (scR2 s g)) = (scR2 s g).drop (fracN (scR2 s g)) := by
  unfold expL
  rw [show scR2 s g = s.data.toList.drop (scF s g + scW s g) by
    unfold scR2 scF scW
    rw [← drop_spanN]
    unfold scR1 scR scL
    rw [List.drop_drop, List.drop_drop]
    congr 1
    omega]
  rw [List.drop_drop]
theorem fracN_le (l : List UInt8) : fracN l ≤ l.length := by
  unfold fracN
  split
  · rename_i h
    have h1 : 0 < l.length := by
      cases l with
      | nil => simp [atB] at h
      | cons x r => simp
    have := spanN_le isDig (l.drop 1)
    simp only [List.length_drop] at this
    omega
  · omega
theorem signN_le (l : List UInt8) (g : Bool) : signN l g ≤ l.length := by
  unfold signN
  split
  · rename_i h
    cases l with
    | nil => simp [atB] at h
    | cons x r => simp
  · omega
theorem pos_le (s : ByteArray) (g : Bool) : scF s g + scW s g + fracN (scR2 s g) ≤ s.size := by
  have h1 := spanN_le isBlank (scL s)
  have h2 := signN_le (scR s) g
  have h3 := spanN_le isDig (scR1 s g)
  have h4 := fracN_le (scR2 s g)
  have e1 : (scR s).length = (scL s).length - scB s := by unfold scR; simp
  have e2 : (scR1 s g).length = (scR s).length - signN (scR s) g := by unfold scR1; simp
  have e3 : (scR2 s g).length = (scR1 s g).length - scW s g := by unfold scR2 scW; rw [← drop_spanN]; simp
  have e4 : (scL s).length = s.size := (Lib.size_eq s).symm
  unfold scF
  unfold scB at *
  unfold scW at *
  omega
theorem scan_num (s : ByteArray) (g : Bool) (h : ¬ scWord s g) : scanS (scL s) g = numberS (scR1 s g) g (scNeg s) (scF s g) := by
  unfold scanS
  simp only
  rw [if_neg]
  · rfl
  · intro hc
    simp only [Bool.and_eq_true, decide_eq_true_eq] at hc
    exact h hc

set_option maxRecDepth 100000 in
set_option maxHeartbeats 1600000 in
theorem scan2 (s : ByteArray) (g : Bool) (w : World) (hs : s.size ≤ 1125899906842624) (X : Code) (hX : findLabel scBody 2 = some (Code.seq .skip X)) (a : Act) (wr : World) (hJ : ScJ s g w 2 a wr) :
    X.wp Tryz.prog (jumps (fun l' a' w' => ScJ s g w l' a' w' ∧ ScM s l' a' w' < ScM s 2 a wr) (ScQ s g w)) a wr := by
  suffices h : ∃ X, findLabel scBody 2 = some (Code.seq .skip X) ∧ X.wp Tryz.prog (jumps (fun l' a' w' => ScJ s g w l' a' w' ∧ ScM s l' a' w' < ScM s 2 a wr) (ScQ s g w)) a wr by
    obtain ⟨X', e', h'⟩ := h
    rw [e'] at hX
    cases hX
    exact h'
  unfold scBody
  unfold Tryz.f57
  simp only [findLabel]
  refine ⟨_, rfl, ?_⟩
  obtain ⟨i, f, e1, e2, e3, e4, e5, e6, e7, e8, (⟨h, _⟩ | ⟨h, _⟩ | ⟨h, _⟩ | ⟨_, hnw, hw, hi⟩)⟩ := hJ
  · cases h
  · cases h
  · cases h
  obtain ⟨t, rfl⟩ := frame105 a e1 e2 e3 e4 e5 e6 e7 e8
  clear e1 e2 e3 e4 e5 e6 e7 e8
  obtain ⟨hb, hz, a0, a1, a2, a3, a4, a5, af, h0, h1, h2, h3, h4, h5, hf⟩ := hw
  have HW := Lib.hid (ScW.mk hb hz a0 a1 a2 a3 a4 a5 af h0 h1 h2 h3 h4 h5 hf)
  have af0 := af 0; have af1 := af 1; have af2 := af 2; have af3 := af 3; have af4 := af 4; have af5 := af 5
  have hf0 := hf 0; have hf1 := hf 1; have hf2 := hf 2; have hf3 := hf 3; have hf4 := hf 4; have hf5 := hf 5
  clear af hf
  have NUM := Lib.hid (scan_num s g hnw)
  have emp : ∀ x : List UInt8, x = [] → (bs x).toList = [] ∧ (bs x).toList.isEmpty = true := fun x h => by rw [Lib.toList_data, bs_list, h]; exact ⟨rfl, rfl⟩
  have nem : ∀ x : List UInt8, ¬ x = [] → ¬ (bs x).toList = [] ∧ (bs x).toList.isEmpty = false := fun x h => by rw [Lib.toList_data, bs_list]; exact ⟨h, by cases hx : x <;> simp_all⟩
  obtain ⟨n, hn⟩ : ∃ n : Nat, n = scF s g + scW s g + fracN (scR2 s g) := ⟨_, rfl⟩
  obtain rfl : i = (n : Int) := by omega
  have hnle : n ≤ s.size := by rw [hn]; exact pos_le s g
  have HEX := Lib.hid (show expL s n = (scR2 s g).drop (fracN (scR2 s g)) by rw [hn]; exact pos_drop s g)
  have HN := Lib.hid (show n = scF s g + spanN isDig (scR1 s g) + fracN ((scR1 s g).dropWhile isDig) from hn)
  clear hi hnw hb hn
  by_cases hw0 : scWhole s g = []
  · by_cases hf0' : fracS (scR2 s g) = []
    · obtain ⟨x1, x2⟩ := emp _ hw0
      obtain ⟨y1, y2⟩ := emp _ hf0'
      have E := Lib.hid (show scanS (scL s) g = Hd.none by rw [NUM.out]; unfold numberS; rw [if_pos ⟨hw0, hf0'⟩])
      clear emp nem hw0 hf0'
      generalize bs (scWhole s g) = Wb at *
      generalize bs (fracS (scR2 s g)) = Fb at *
      go_wp2_with fail
      simp only [jumps]
      exact bodyPost_ret (v := headV Hd.none) (by simp [results, Tryz.results57, go_sem, a0, a1, a2, a3, a4, a5, headV, Hd.none]; rfl) rfl ⟨by rw [E.out], (((((HW.out.below.setCell (p := ⟨w.heap.size, 0, none⟩) (Nat.le_refl _) _).setCell (p := ⟨w.heap.size, 1, none⟩) (Nat.le_refl _) _).setCell (p := ⟨w.heap.size, 2, none⟩) (Nat.le_refl _) _).setCell (p := ⟨w.heap.size, 3, none⟩) (Nat.le_refl _) _).setCell (p := ⟨w.heap.size, 4, none⟩) (Nat.le_refl _) _).setCell (p := ⟨w.heap.size, 5, none⟩) (Nat.le_refl _) _⟩
    · obtain ⟨x1, x2⟩ := emp _ hw0
      obtain ⟨y1, y2⟩ := nem _ hf0'
      have hne : ¬ ((scR1 s g).takeWhile isDig = [] ∧ fracS ((scR1 s g).dropWhile isDig) = []) := fun h => hf0' h.2
      clear hw0 hf0'
      cases g with
      | true =>
        have E := Lib.hid (show scanS (scL s) true = ⟨3, scNeg s, scWhole s true, fracS (scR2 s true), (expS (expL s n)).1, n + (expS (expL s n)).2⟩ by
          rw [NUM.out, HEX.out, HN.out]; unfold numberS; rw [if_neg hne, if_pos rfl]; rfl)
        clear emp nem hne
        generalize fracS (scR2 s true) = Fl at *
        generalize scWhole s true = Wl at *
        have EB := Lib.hid (⟨rfl, rfl⟩ : bs Wl = bs Wl ∧ bs Fl = bs Fl)
        go_wp2_with (refine (exponent_ok s n _ hs hnle).mono ?_; rintro e w' ⟨rfl, rfl⟩)
        simp only [jumps]
        exact bodyPost_ret (v := headV ⟨3, scNeg s, Wl, Fl, (expS (expL s n)).1, n + (expS (expL s n)).2⟩) (by simp [results, Tryz.results57, go_sem, a0, a1, a2, a3, a4, a5, headV]) rfl ⟨by rw [E.out], (((((((((HW.out.below.setCell (p := ⟨w.heap.size + 1, 4, none⟩) (by simp) _).setCell (p := ⟨w.heap.size + 1, 0, none⟩) (by simp) _).setCell (p := ⟨w.heap.size + 1, 5, none⟩) (by simp) _).setCell (p := ⟨w.heap.size, 0, none⟩) (by simp) _).setCell (p := ⟨w.heap.size, 1, none⟩) (by simp) _).setCell (p := ⟨w.heap.size, 2, none⟩) (by simp) _).setCell (p := ⟨w.heap.size, 3, none⟩) (by simp) _).setCell (p := ⟨w.heap.size, 4, none⟩) (by simp) _).setCell (p := ⟨w.heap.size, 5, none⟩) (by simp) _)⟩
      | false =>
        have E := Lib.hid (show scanS (scL s) false = ⟨3, scNeg s, scWhole s false, fracS (scR2 s false), 0, n⟩ by
          rw [NUM.out, HN.out]; unfold numberS; rw [if_neg hne, if_neg (by simp)]; rfl)
        clear emp nem hne
        generalize fracS (scR2 s false) = Fl at *
        generalize scWhole s false = Wl at *
        go_wp2_with fail
        simp only [jumps]
        exact bodyPost_ret (v := headV ⟨3, scNeg s, Wl, Fl, 0, n⟩) (by simp [results, Tryz.results57, go_sem, a0, a1, a2, a3, a4, a5, headV]) rfl ⟨by rw [E.out], ((((((((HW.out.below.setCell (p := ⟨w.heap.size + 1, 0, none⟩) (by simp) _).setCell (p := ⟨w.heap.size + 1, 5, none⟩) (by simp) _).setCell (p := ⟨w.heap.size, 0, none⟩) (by simp) _).setCell (p := ⟨w.heap.size, 1, none⟩) (by simp) _).setCell (p := ⟨w.heap.size, 2, none⟩) (by simp) _).setCell (p := ⟨w.heap.size, 3, none⟩) (by simp) _).setCell (p := ⟨w.heap.size, 4, none⟩) (by simp) _).setCell (p := ⟨w.heap.size, 5, none⟩) (by simp) _)⟩
  · obtain ⟨x1, x2⟩ := nem _ hw0
    have hne : ¬ ((scR1 s g).takeWhile isDig = [] ∧ fracS ((scR1 s g).dropWhile isDig) = []) := fun h => hw0 h.1
    clear hw0
    cases g with
    | true =>
      have E := Lib.hid (show scanS (scL s) true = ⟨3, scNeg s, scWhole s true, fracS (scR2 s true), (expS (expL s n)).1, n + (expS (expL s n)).2⟩ by
        rw [NUM.out, HEX.out, HN.out]; unfold numberS; rw [if_neg hne, if_pos rfl]; rfl)
      clear emp nem hne
      generalize fracS (scR2 s true) = Fl at *
      generalize scWhole s true = Wl at *
      have EB := Lib.hid (⟨rfl, rfl⟩ : bs Wl = bs Wl ∧ bs Fl = bs Fl)
      go_wp2_with (refine (exponent_ok s n _ hs hnle).mono ?_; rintro e w' ⟨rfl, rfl⟩)
      simp only [jumps]
      exact bodyPost_ret (v := headV ⟨3, scNeg s, Wl, Fl, (expS (expL s n)).1, n + (expS (expL s n)).2⟩) (by simp [results, Tryz.results57, go_sem, a0, a1, a2, a3, a4, a5, headV]) rfl ⟨by rw [E.out], (((((((((HW.out.below.setCell (p := ⟨w.heap.size + 1, 4, none⟩) (by simp) _).setCell (p := ⟨w.heap.size + 1, 0, none⟩) (by simp) _).setCell (p := ⟨w.heap.size + 1, 5, none⟩) (by simp) _).setCell (p := ⟨w.heap.size, 0, none⟩) (by simp) _).setCell (p := ⟨w.heap.size, 1, none⟩) (by simp) _).setCell (p := ⟨w.heap.size, 2, none⟩) (by simp) _).setCell (p := ⟨w.heap.size, 3, none⟩) (by simp) _).setCell (p := ⟨w.heap.size, 4, none⟩) (by simp) _).setCell (p := ⟨w.heap.size, 5, none⟩) (by simp) _)⟩
    | false =>
      have E := Lib.hid (show scanS (scL s) false = ⟨3, scNeg s, scWhole s false, fracS (scR2 s false), 0, n⟩ by
        rw [NUM.out, HN.out]; unfold numberS; rw [if_neg hne, if_neg (by simp)]; rfl)
      clear emp nem hne
      generalize fracS (scR2 s false) = Fl at *
      generalize scWhole s false = Wl at *
      go_wp2_with fail
      simp only [jumps]
      exact bodyPost_ret (v := headV ⟨3, scNeg s, Wl, Fl, 0, n⟩) (by simp [results, Tryz.results57, go_sem, a0, a1, a2, a3, a4, a5, headV]) rfl ⟨by rw [E.out], ((((((((HW.out.below.setCell (p := ⟨w.heap.size + 1, 0, none⟩) (by simp) _).setCell (p := ⟨w.heap.size + 1, 5, none⟩) (by simp) _).setCell (p := ⟨w.heap.size, 0, none⟩) (by simp) _).setCell (p := ⟨w.heap.size, 1, none⟩) (by simp) _).setCell (p := ⟨w.heap.size, 2, none⟩) (by simp) _).setCell (p := ⟨w.heap.size, 3, none⟩) (by simp) _).setCell (p := ⟨w.heap.size, 4, none⟩) (by simp) _).setCell (p := ⟨w.heap.size, 5, none⟩) (by simp) _)⟩
end
section
open Go.RowKit

theorem scR2_drop (s : ByteArray) (g : Bool) : scR2 s g = s.data.toList.drop (scF s g + scW s g) := by
  unfold scR2 scF scW
  rw [← drop_spanN]
  unfold scR1 scR scL
  rw [List.drop_drop, List.drop_drop]
  congr 1
  omega
theorem scR2_at (s : ByteArray) (g : Bool) (k : Nat) : atB (scR2 s g) k = atB (scL s) (scF s g + scW s g + k) := by
  rw [scR2_drop, drop_atB]; rfl

set_option maxRecDepth 100000 in
set_option maxHeartbeats 1600000 in
theorem scan3 (s : ByteArray) (g : Bool) (w : World) (hs : s.size ≤ 1125899906842624) (X : Code) (hX : findLabel scBody 3 = some (Code.seq .skip X)) (a : Act) (wr : World) (hJ : ScJ s g w 3 a wr) :
    X.wp Tryz.prog (jumps (fun l' a' w' => ScJ s g w l' a' w' ∧ ScM s l' a' w' < ScM s 3 a wr) (ScQ s g w)) a wr := by
  suffices h : ∃ X, findLabel scBody 3 = some (Code.seq .skip X) ∧ X.wp Tryz.prog (jumps (fun l' a' w' => ScJ s g w l' a' w' ∧ ScM s l' a' w' < ScM s 3 a wr) (ScQ s g w)) a wr by
    obtain ⟨X', e', h'⟩ := h
    rw [e'] at hX
    cases hX
    exact h'
  unfold scBody
  unfold Tryz.f57
  simp only [findLabel]
  refine ⟨_, rfl, ?_⟩
  obtain ⟨i, f, e1, e2, e3, e4, e5, e6, e7, e8, (⟨h, _⟩ | ⟨h, _⟩ | ⟨_, hnw, hdot, hw, hf, k, hk, hi⟩ | ⟨h, _⟩)⟩ := hJ
  · cases h
  · cases h
  rotate_left
  · cases h
  obtain ⟨t, rfl⟩ := frame105 a e1 e2 e3 e4 e5 e6 e7 e8
  clear e1 e2 e3 e4 e5 e6 e7 e8
  have hsp := spanN_le isDig ((scR2 s g).drop 1)
  have hpl := pos_le s g
  have hfn : fracN (scR2 s g) = 1 + spanN isDig ((scR2 s g).drop 1) := by unfold fracN; rw [hdot]; rfl
  obtain ⟨b, hb⟩ : ∃ b : Nat, b = scF s g + scW s g + 1 := ⟨_, rfl⟩
  obtain ⟨n, hn⟩ : ∃ n : Nat, n = b + k := ⟨_, rfl⟩
  obtain rfl : i = (n : Int) := by omega
  obtain rfl : f = (b : Int) := by omega
  have hns : n ≤ s.size := by omega
  have hbn : b ≤ n := by omega
  have fb := Lib.hid (show atB s.data.toList n = atB ((scR2 s g).drop 1) k by
    rw [drop_atB, scR2_at, hn, hb]; unfold scL; congr 1; omega)
  have HW := Lib.hid hw
  have HNW := Lib.hid hnw
  have HDOT := Lib.hid hdot
  have HFN := Lib.hid hfn
  have HB := Lib.hid hb
  have HN := Lib.hid hn
  have HK := Lib.hid hk
  obtain ⟨_, hz, _, _, _, _, _, _, _, h0, h1, h2, h3, h4, h5, hfz⟩ := hw
  have hf3 := hfz 3
  clear hfz hnw hdot hfn hb hn hf hi hpl hsp
  obtain ⟨c, hc⟩ : ∃ c, c = atB ((scR2 s g).drop 1) k := ⟨_, rfl⟩
  rw [← hc] at fb
  have HC := Lib.hid hc
  clear hc
  cases hd : isDig c with
  | true =>
    have HD := Lib.hid hd
    have HK1 := Lib.hid (spanN_on hk (by decide) (by rw [← HC.out]; exact hd))
    clear hd hk
    have hlt : n < s.size := by
      rcases Nat.lt_or_ge n s.size with h | h
      · exact h
      · exfalso
        have := fb.out
        rw [atB_end s n (by omega)] at this
        have hd := HD.out
        rw [← this] at hd
        exact absurd hd (by decide)
    go_wp2_with (first | (go_at_call 85; refine (at_ok s n _).mono ?_; rintro e w' ⟨rfl, rfl⟩; rw [fb.out]) | (go_at_call 87; refine (isDigit_ok _ _).mono ?_; rintro e w' ⟨rfl, rfl⟩; rw [HD.out]))
    go_step3
    refine ⟨⟨_, _, rfl, rfl, rfl, rfl, rfl, rfl, rfl, rfl, Or.inr (Or.inr (Or.inl ⟨rfl, HNW.out, HDOT.out, HW.out, by rw [HB.out]; omega, k + 1, HK1.out, by have := HN.out; have := HB.out; omega⟩))⟩, ?_⟩
    show 1 * (s.size + 2) + (s.size + 1 - (intOf (.int .i64 ((n : Int) + 1))).toNat) < 1 * (s.size + 2) + (s.size + 1 - (intOf (.int .i64 (n : Int))).toNat)
    simp [intOf]; omega
  | false =>
    have HD := Lib.hid hd
    have HK1 := Lib.hid (spanN_end hk (by rw [← HC.out]; exact hd))
    clear hd hk
    have EX := Lib.hid (show s.extract b n = bs (fracS (scR2 s g)) by
      rw [extract_bs]
      congr 1
      unfold fracS
      rw [HDOT.out, if_pos (by rfl), ← take_spanN, HK1.out, HN.out, Nat.add_sub_cancel_left]
      congr 1
      rw [scR2_drop, HB.out, List.drop_drop])
    go_wp2_with (first | (go_at_call 85; refine (at_ok s n _).mono ?_; rintro e w' ⟨rfl, rfl⟩; rw [fb.out]) | (go_at_call 87; refine (isDigit_ok _ _).mono ?_; rintro e w' ⟨rfl, rfl⟩; rw [HD.out]))
    go_step3
    rename_i hKK
    refine hKK _ _ ?_
    refine Code.wp_mono (jumps_mono fun l' a' w' h => ?_) (scan2 s g w hs _ ?_ _ _ ?_)
    · refine ⟨h.1, Nat.lt_of_lt_of_le h.2 ?_⟩
      show 0 * (s.size + 2) + (s.size + 1 - (intOf (.int .i64 (n : Int))).toNat) ≤ 1 * (s.size + 2) + (s.size + 1 - (intOf (.int .i64 (n : Int))).toNat)
      omega
    · unfold scBody
      unfold Tryz.f57
      simp only [findLabel]
      rfl
    · refine ⟨_, _, rfl, rfl, rfl, rfl, rfl, rfl, rfl, rfl, Or.inr (Or.inr (Or.inr ⟨rfl, HNW.out, ?_, ?_⟩))⟩
      · rw [EX.out]; exact HW.out.frac _
      · have := HN.out; have := HB.out; have := HFN.out; have := HK1.out; omega
end
end
section
open Go.RowKit

theorem scR1_drop (s : ByteArray) (g : Bool) : scR1 s g = s.data.toList.drop (scF s g) := by
  unfold scR1 scF scR scL
  rw [List.drop_drop]

set_option maxRecDepth 100000 in
set_option maxHeartbeats 1600000 in
theorem scan1 (s : ByteArray) (g : Bool) (w : World) (hs : s.size ≤ 1125899906842624) (X : Code) (hX : findLabel scBody 1 = some (Code.seq .skip X)) (a : Act) (wr : World) (hJ : ScJ s g w 1 a wr) :
    X.wp Tryz.prog (jumps (fun l' a' w' => ScJ s g w l' a' w' ∧ ScM s l' a' w' < ScM s 1 a wr) (ScQ s g w)) a wr := by
  suffices h : ∃ X, findLabel scBody 1 = some (Code.seq .skip X) ∧ X.wp Tryz.prog (jumps (fun l' a' w' => ScJ s g w l' a' w' ∧ ScM s l' a' w' < ScM s 1 a wr) (ScQ s g w)) a wr by
    obtain ⟨X', e', h'⟩ := h
    rw [e'] at hX
    cases hX
    exact h'
  unfold scBody
  unfold Tryz.f57
  simp only [findLabel]
  refine ⟨_, rfl, ?_⟩
  obtain ⟨i, f, e1, e2, e3, e4, e5, e6, e7, e8, (⟨h, _⟩ | ⟨_, hnw, hw, hf, k, hk, hi⟩ | ⟨h, _⟩ | ⟨h, _⟩)⟩ := hJ
  · cases h
  rotate_left
  · cases h
  · cases h
  obtain ⟨t, rfl⟩ := frame105 a e1 e2 e3 e4 e5 e6 e7 e8
  clear e1 e2 e3 e4 e5 e6 e7 e8
  have hpl := pos_le s g
  have hk' : k ≤ spanN isDig (scR1 s g) := hk
  obtain ⟨b, hb⟩ : ∃ b : Nat, b = scF s g := ⟨_, rfl⟩
  obtain ⟨n, hn⟩ : ∃ n : Nat, n = b + k := ⟨_, rfl⟩
  obtain rfl : i = (n : Int) := by omega
  obtain rfl : f = (b : Int) := by omega
  have hns : n ≤ s.size := by omega
  have hbn : b ≤ n := by omega
  have fb := Lib.hid (show atB s.data.toList n = atB (scR1 s g) k by
    rw [scR1_drop, drop_atB, hn, hb])
  have HW := Lib.hid hw
  have HNW := Lib.hid hnw
  have HB := Lib.hid hb
  have HN := Lib.hid hn
  obtain ⟨_, hz, _, _, _, _, _, _, _, h0, h1, h2, h3, h4, h5, hfz⟩ := hw
  have hf2 := hfz 2
  clear hfz hnw hb hn hf hi hpl hk
  obtain ⟨c, hc⟩ : ∃ c, c = atB (scR1 s g) k := ⟨_, rfl⟩
  rw [← hc] at fb
  have HC := Lib.hid hc
  clear hc
  cases hd : isDig c with
  | true =>
    have HD := Lib.hid hd
    have HK1 := Lib.hid (spanN_on hk' (by decide) (by rw [← HC.out]; exact hd))
    clear hd hk'
    have hlt : n < s.size := by
      rcases Nat.lt_or_ge n s.size with h | h
      · exact h
      · exfalso
        have := fb.out
        rw [atB_end s n (by omega)] at this
        have hd := HD.out
        rw [← this] at hd
        exact absurd hd (by decide)
    go_wp2_with (first | (go_at_call 85; refine (at_ok s n _).mono ?_; rintro e w' ⟨rfl, rfl⟩; rw [fb.out]) | (go_at_call 87; refine (isDigit_ok _ _).mono ?_; rintro e w' ⟨rfl, rfl⟩; rw [HD.out]))
    go_step3
    refine ⟨⟨_, _, rfl, rfl, rfl, rfl, rfl, rfl, rfl, rfl, Or.inr (Or.inl ⟨rfl, HNW.out, HW.out, by rw [HB.out], k + 1, HK1.out, by have := HN.out; have := HB.out; omega⟩)⟩, ?_⟩
    show 2 * (s.size + 2) + (s.size + 1 - (intOf (.int .i64 ((n : Int) + 1))).toNat) < 2 * (s.size + 2) + (s.size + 1 - (intOf (.int .i64 (n : Int))).toNat)
    simp [intOf]; omega
  | false =>
    have HD := Lib.hid hd
    have HK1 := Lib.hid (spanN_end hk' (by rw [← HC.out]; exact hd))
    clear hd hk'
    have EX := Lib.hid (show s.extract b n = bs (scWhole s g) by
      rw [extract_bs]
      congr 1
      unfold scWhole
      rw [← take_spanN, HK1.out, HN.out, Nat.add_sub_cancel_left, scR1_drop, HB.out])
    have E2 := Lib.hid (show c = atB (scR2 s g) 0 by
      rw [HC.out, scR2_at, scR1_drop, drop_atB]
      unfold scL scW
      rw [HK1.out]; rfl)
    by_cases hdot : c = 46
    · have t1 : ((c.toNat : Int) != 46) = false := by rw [hdot]; rfl
      have HDOT := Lib.hid hdot
      have hlt : n < s.size := by
        rcases Nat.lt_or_ge n s.size with h | h
        · exact h
        · exfalso
          have := fb.out
          rw [atB_end s n (by omega), hdot] at this
          exact absurd this (by decide)
      clear hdot
      go_wp2_with (first | (go_at_call 85; refine (at_ok s n _).mono ?_; rintro e w' ⟨rfl, rfl⟩; rw [fb.out]) | (go_at_call 87; refine (isDigit_ok _ _).mono ?_; rintro e w' ⟨rfl, rfl⟩; rw [HD.out]))
      go_step3
      rename_i hKK
      refine hKK _ _ ?_
      refine Code.wp_mono (jumps_mono fun l' a' w' h => ?_) (scan3 s g w hs _ ?_ _ _ ?_)
      · refine ⟨h.1, Nat.lt_of_lt_of_le h.2 ?_⟩
        show 1 * (s.size + 2) + (s.size + 1 - (intOf (.int .i64 ((n : Int) + 1))).toNat) ≤ 2 * (s.size + 2) + (s.size + 1 - (intOf (.int .i64 (n : Int))).toNat)
        simp [intOf]; omega
      · unfold scBody
        unfold Tryz.f57
        simp only [findLabel]
        rfl
      · refine ⟨_, _, rfl, rfl, rfl, rfl, rfl, rfl, rfl, rfl, Or.inr (Or.inr (Or.inl ⟨rfl, HNW.out, E2.out.symm.trans HDOT.out, ?_, ?_, 0, Nat.zero_le _, ?_⟩))⟩
        · rw [EX.out]; exact HW.out.whole _
        · have := HN.out; have := HB.out; have := HK1.out; unfold scW; omega
        · have := HN.out; have := HB.out; have := HK1.out; unfold scW; omega
    · have t1 : ((c.toNat : Int) != 46) = true := by
        rw [bne_iff_ne]; intro h; exact hdot (UInt8.toNat_inj.1 (by show _ = (46 : UInt8).toNat; simp; omega))
      have HDOT := Lib.hid (show (atB (scR2 s g) 0 == 46) = false by rw [← E2.out, beq_eq_false_iff_ne]; exact hdot)
      clear hdot
      go_wp2_with (first | (go_at_call 85; refine (at_ok s n _).mono ?_; rintro e w' ⟨rfl, rfl⟩; rw [fb.out]) | (go_at_call 87; refine (isDigit_ok _ _).mono ?_; rintro e w' ⟨rfl, rfl⟩; rw [HD.out]))
      go_step3
      refine ⟨⟨_, _, rfl, rfl, rfl, rfl, rfl, rfl, rfl, rfl, Or.inr (Or.inr (Or.inr ⟨rfl, HNW.out, ?_, ?_⟩))⟩, ?_⟩
      · have e0 : fracS (scR2 s g) = [] := by unfold fracS; rw [HDOT.out]; rfl
        rw [EX.out, e0]; exact HW.out.whole _
      · have e0 : fracN (scR2 s g) = 0 := by unfold fracN; rw [HDOT.out]; rfl
        have := HN.out; have := HB.out; have := HK1.out; unfold scW; omega
      · show 0 * (s.size + 2) + (s.size + 1 - (intOf (.int .i64 (n : Int))).toNat) < 2 * (s.size + 2) + (s.size + 1 - (intOf (.int .i64 (n : Int))).toNat)
        omega
end
end
section
open Go.RowKit Go.Sort
theorem wordS_le (l : List UInt8) (n : Bool) : (wordS l n).2 ≤ 8 := by
  unfold wordS
  repeat' split
  all_goals simp
theorem scan_word (s : ByteArray) (h : scWord s true) : scanS (scL s) true = ⟨(wordS (scR1 s true) (scNeg s)).1, false, [], [], 0, scF s true + (wordS (scR1 s true) (scNeg s)).2⟩ := by
  unfold scanS
  simp only
  rw [if_pos]
  · rfl
  · simp only [Bool.true_and, decide_eq_true_eq]; exact h.2

set_option maxRecDepth 100000 in
set_option maxHeartbeats 1600000 in
theorem scan0 (s : ByteArray) (g : Bool) (w : World) (hs : s.size ≤ 1125899906842624) (T : Tabs w) (X : Code) (hX : findLabel scBody 0 = some (Code.seq .skip X)) (a : Act) (wr : World) (hJ : ScJ s g w 0 a wr) :
    X.wp Tryz.prog (jumps (fun l' a' w' => ScJ s g w l' a' w' ∧ ScM s l' a' w' < ScM s 0 a wr) (ScQ s g w)) a wr := by
  suffices h : ∃ X, findLabel scBody 0 = some (Code.seq .skip X) ∧ X.wp Tryz.prog (jumps (fun l' a' w' => ScJ s g w l' a' w' ∧ ScM s l' a' w' < ScM s 0 a wr) (ScQ s g w)) a wr by
    obtain ⟨X', e', h'⟩ := h
    rw [e'] at hX
    cases hX
    exact h'
  unfold scBody
  unfold Tryz.f57
  simp only [findLabel]
  refine ⟨_, rfl, ?_⟩
  obtain ⟨i, f, e1, e2, e3, e4, e5, e6, e7, e8, (⟨_, hw, hf, k, hk, hi⟩ | ⟨h, _⟩ | ⟨h, _⟩ | ⟨h, _⟩)⟩ := hJ
  rotate_left
  · cases h
  · cases h
  · cases h
  obtain ⟨t, rfl⟩ := frame105 a e1 e2 e3 e4 e5 e6 e7 e8
  clear e1 e2 e3 e4 e5 e6 e7 e8
  have hpl := pos_le s g
  have hsl : scB s ≤ s.size := by unfold scF at hpl; omega
  have hk' : k ≤ spanN isBlank (scL s) := hk
  obtain rfl : i = (k : Int) := by omega
  subst hf
  have hns : k ≤ s.size := by omega
  have HW := Lib.hid hw
  have HT := Lib.hid (T.below hw.below)
  have HPL := Lib.hid hpl
  obtain ⟨_, hz, _, _, _, _, _, _, _, h0, h1, h2, h3, h4, h5, hfz⟩ := hw
  have hf1 := hfz 1
  clear hfz hi hk hpl
  obtain ⟨c, hc⟩ : ∃ c, c = atB s.data.toList k := ⟨_, rfl⟩
  have fb := Lib.hid hc.symm
  have HC := Lib.hid (show c = atB (scL s) k from hc)
  clear hc
  cases hd : isBlank c with
  | true =>
    have HK1 := Lib.hid (spanN_on hk' (by decide) (by rw [← HC.out]; exact hd))
    have hlt : k < s.size := by
      rcases Nat.lt_or_ge k s.size with h | h
      · exact h
      · exfalso
        have := fb.out
        rw [atB_end s k (by omega)] at this
        rw [← this] at hd
        exact absurd hd (by decide)
    have ht : (((c.toNat : Int) == 32) = true) ∨ ((((c.toNat : Int) == 32) = false) ∧ (((c.toNat : Int) == 9) = true)) := by
      unfold isBlank at hd
      rcases (Bool.or_eq_true _ _).mp hd with h | h
      · left; rw [beq_iff_eq] at h; subst h; rfl
      · right; rw [beq_iff_eq] at h; subst h; exact ⟨rfl, rfl⟩
    clear hd hk'
    rcases ht with t1 | ⟨t1, t2⟩
    all_goals
      go_wp2_with (refine (at_ok s k _).mono ?_; rintro e w' ⟨rfl, rfl⟩; rw [fb.out])
      go_step3
      refine ⟨⟨_, _, rfl, rfl, rfl, rfl, rfl, rfl, rfl, rfl, Or.inl ⟨rfl, HW.out, rfl, k + 1, HK1.out, by omega⟩⟩, ?_⟩
      show 3 * (s.size + 2) + (s.size + 1 - (intOf (.int .i64 ((k : Int) + 1))).toNat) < 3 * (s.size + 2) + (s.size + 1 - (intOf (.int .i64 (k : Int))).toNat)
      simp [intOf]; omega
  | false =>
    have HK1 := Lib.hid (show scB s = k from spanN_end hk' (by rw [← HC.out]; exact hd))
    have u32 : ((c.toNat : Int) == 32) = false := by
      unfold isBlank at hd; simp only [Bool.or_eq_false_iff] at hd
      rw [beq_eq_false_iff_ne]; intro h; exact (beq_eq_false_iff_ne.1 hd.1) (UInt8.toNat_inj.1 (by show _ = (32 : UInt8).toNat; simp; omega))
    have u9 : ((c.toNat : Int) == 9) = false := by
      unfold isBlank at hd; simp only [Bool.or_eq_false_iff] at hd
      rw [beq_eq_false_iff_ne]; intro h; exact (beq_eq_false_iff_ne.1 hd.2) (UInt8.toNat_inj.1 (by show _ = (9 : UInt8).toNat; simp; omega))
    have HR := Lib.hid (show c = atB (scR s) 0 by rw [HC.out]; unfold scR; rw [drop_atB, HK1.out]; rfl)
    clear hd hk'
    have byte_lit : ∀ (x : UInt8) (n : Nat), n < 256 → ((x.toNat : Int) == (n : Int)) = (x == UInt8.ofNat n) := fun x n hn => by
      rw [Bool.eq_iff_iff, beq_iff_eq, beq_iff_eq, ← UInt8.toNat_inj]
      have : (UInt8.ofNat n).toNat = n := by simp; omega
      rw [this]; omega
    cases g with
    | false =>
      cases c45 : (c == 45) with
      | true =>
        have HNEG := Lib.hid (show scNeg s = true by unfold scNeg; rw [← HR.out]; exact c45)
        have HSN := Lib.hid (show signN (scR s) false = 1 by unfold signN; rw [← HR.out, c45]; rfl)
        have HF := Lib.hid (show scF s false = k + 1 by unfold scF; rw [HSN.out, HK1.out]; try rfl)
        have hnn : k + 1 ≤ s.size := by have := HPL.out; rw [HF.out] at this; omega
        have v45 : ((c.toNat : Int) == 45) = true := by rw [← c45]; exact byte_lit c 45 (by omega)
        clear c45
        have HNWD := Lib.hid (show ¬ scWord s false from fun h => by cases h.1)
        go_wp2_with (refine (at_ok s k _).mono ?_; rintro e w' ⟨rfl, rfl⟩; rw [fb.out])
        go_step3
        rename_i hKK
        refine hKK _ _ ?_
        refine Code.wp_mono (jumps_mono fun l' a' w' h => ?_) (scan1 s false w hs _ ?_ _ _ ?_)
        · refine ⟨h.1, Nat.lt_of_lt_of_le h.2 ?_⟩
          show 2 * (s.size + 2) + (s.size + 1 - (intOf (.int .i64 ((k : Int) + 1))).toNat) ≤ 3 * (s.size + 2) + (s.size + 1 - (intOf (.int .i64 (k : Int))).toNat)
          simp [intOf]; omega
        · unfold scBody
          unfold Tryz.f57
          simp only [findLabel]
          rfl
        · refine ⟨_, _, rfl, rfl, rfl, rfl, rfl, rfl, rfl, rfl, Or.inr (Or.inl ⟨rfl, HNWD.out, ?_, ?_, 0, Nat.zero_le _, ?_⟩)⟩
          · rw [HNEG.out]; exact HW.out.neg true
          · rw [HF.out]; try omega
          · rw [HF.out]; try omega
      | false =>
        cases c43 : (c == 43) with
        | true =>
          have HNEG := Lib.hid (show scNeg s = false by unfold scNeg; rw [← HR.out]; exact c45)
          have HSN := Lib.hid (show signN (scR s) false = 0 by unfold signN; rw [← HR.out, c45, c43]; rfl)
          have HF := Lib.hid (show scF s false = k by unfold scF; rw [HSN.out, HK1.out]; try rfl)
          have hnn : k ≤ s.size := by have := HPL.out; rw [HF.out] at this; omega
          have v45 : ((c.toNat : Int) == 45) = false := by rw [← c45]; exact byte_lit c 45 (by omega)
          have v43 : ((c.toNat : Int) == 43) = true := by rw [← c43]; exact byte_lit c 43 (by omega)
          clear c45 c43
          have HNWD := Lib.hid (show ¬ scWord s false from fun h => by cases h.1)
          go_wp2_with (refine (at_ok s k _).mono ?_; rintro e w' ⟨rfl, rfl⟩; rw [fb.out])
          go_step3
          rename_i hKK
          refine hKK _ _ ?_
          refine Code.wp_mono (jumps_mono fun l' a' w' h => ?_) (scan1 s false w hs _ ?_ _ _ ?_)
          · refine ⟨h.1, Nat.lt_of_lt_of_le h.2 ?_⟩
            show 2 * (s.size + 2) + (s.size + 1 - (intOf (.int .i64 (k : Int))).toNat) ≤ 3 * (s.size + 2) + (s.size + 1 - (intOf (.int .i64 (k : Int))).toNat)
            simp [intOf]; omega
          · unfold scBody
            unfold Tryz.f57
            simp only [findLabel]
            rfl
          · refine ⟨_, _, rfl, rfl, rfl, rfl, rfl, rfl, rfl, rfl, Or.inr (Or.inl ⟨rfl, HNWD.out, ?_, ?_, 0, Nat.zero_le _, ?_⟩)⟩
            · rw [HNEG.out]; exact HW.out
            · rw [HF.out]; try omega
            · rw [HF.out]; try omega
        | false =>
          have HNEG := Lib.hid (show scNeg s = false by unfold scNeg; rw [← HR.out]; exact c45)
          have HSN := Lib.hid (show signN (scR s) false = 0 by unfold signN; rw [← HR.out, c45, c43]; rfl)
          have HF := Lib.hid (show scF s false = k by unfold scF; rw [HSN.out, HK1.out]; try rfl)
          have hnn : k ≤ s.size := by have := HPL.out; rw [HF.out] at this; omega
          have v45 : ((c.toNat : Int) == 45) = false := by rw [← c45]; exact byte_lit c 45 (by omega)
          have v43 : ((c.toNat : Int) == 43) = false := by rw [← c43]; exact byte_lit c 43 (by omega)
          clear c45 c43
          have HNWD := Lib.hid (show ¬ scWord s false from fun h => by cases h.1)
          go_wp2_with (refine (at_ok s k _).mono ?_; rintro e w' ⟨rfl, rfl⟩; rw [fb.out])
          go_step3
          rename_i hKK
          refine hKK _ _ ?_
          refine Code.wp_mono (jumps_mono fun l' a' w' h => ?_) (scan1 s false w hs _ ?_ _ _ ?_)
          · refine ⟨h.1, Nat.lt_of_lt_of_le h.2 ?_⟩
            show 2 * (s.size + 2) + (s.size + 1 - (intOf (.int .i64 (k : Int))).toNat) ≤ 3 * (s.size + 2) + (s.size + 1 - (intOf (.int .i64 (k : Int))).toNat)
            simp [intOf]; omega
          · unfold scBody
            unfold Tryz.f57
            simp only [findLabel]
            rfl
          · refine ⟨_, _, rfl, rfl, rfl, rfl, rfl, rfl, rfl, rfl, Or.inr (Or.inl ⟨rfl, HNWD.out, ?_, ?_, 0, Nat.zero_le _, ?_⟩)⟩
            · rw [HNEG.out]; exact HW.out
            · rw [HF.out]; try omega
            · rw [HF.out]; try omega
    | true =>
      cases c45 : (c == 45) with
      | true =>
        have HNEG := Lib.hid (show scNeg s = true by unfold scNeg; rw [← HR.out]; exact c45)
        have HSN := Lib.hid (show signN (scR s) true = 1 by unfold signN; rw [← HR.out, c45]; rfl)
        have HF := Lib.hid (show scF s true = k + 1 by unfold scF; rw [HSN.out, HK1.out]; try rfl)
        have hnn : k + 1 ≤ s.size := by have := HPL.out; rw [HF.out] at this; omega
        have v45 : ((c.toNat : Int) == 45) = true := by rw [← c45]; exact byte_lit c 45 (by omega)
        clear c45
        have HLL := Lib.hid (show (s.extract (k + 1) s.size).data.toList = scR1 s true by rw [extract_bs, bs_list, scR1_drop, HF.out, List.take_of_length_le (by simp)])
        have hel : (s.extract (k + 1) s.size).size ≤ 1125899906842624 := by rw [ByteArray.size_extract]; omega
        have HCW := Lib.hid (fun (W : World) (hT : Tabs W) => wordAt_ok (s.extract (k + 1) s.size) true W hel hT)
        go_wp2_with (refine (at_ok s k _).mono ?_; rintro e w' ⟨rfl, rfl⟩; rw [fb.out])
        obtain ⟨m, hm⟩ : ∃ m : Nat, m = k + 1 := ⟨_, rfl⟩
        rw [← hm] at HF HLL hel HCW hnn
        rw [show ((k : Int) + 1) = (m : Int) by omega]
        have hmk : k ≤ m := by omega
        clear hm
        have SW := HW.out.neg true
        clear HW h0 h1 h2 h3 h4 h5 hf1 HT
        generalize wr.setCell ⟨w.heap.size + 1, 1, none⟩ (.bool true) = W1 at *
        have j1 := cell_regrown SW.h1
        have HSW := Lib.hid SW
        have HT1 := Lib.hid (T.below SW.below)
        clear SW
        obtain ⟨ext, hext⟩ : ∃ ext, ext = s.extract m s.size := ⟨_, rfl⟩
        rw [← hext] at HCW HLL
        have HEXT := Lib.hid hext.symm
        clear hext
        have cP : ∀ dd os, Calls Tryz.prog 86 #[.string ext, .bool true] (grow (redrawn W1 dd) os) fun e w'' => e = .returned (.tuple #[.int .u8 ((wordS ext.data.toList true).1 : Nat), .int .i64 ((wordS ext.data.toList true).2 : Nat)]) ∧ ∃ r : Regrown, w'' = grow (redrawn W1 r.d) r.os := fun dd os => Calls.regrown_of (HCW.out _ (HT1.out.below (below_regrown W1 dd os)))
        refine wp_region_quiet_below (by kernel_rfl) (by kernel_rfl) ?_
        repeat (quiet_step (first | (rw [HEXT.out]; exact cP _ _) | exact cP _ _))
        refine wpQuiet_nil ?_
        intro _ hw'
        obtain ⟨⟨dq, osq⟩, hw''⟩ := hw'
        subst hw''
        have SW2 := HSW.out.step (below_regrown W1 dq osq)
        clear cP j1
        have HWS := Lib.hid (show wordS ext.data.toList true = wordS (scR1 s true) (scNeg s) by rw [HLL.out, HNEG.out])
        generalize grow (redrawn W1 dq) osq = W2 at *
        obtain ⟨wc, hwc⟩ : ∃ wc, wc = (wordS ext.data.toList true).1 := ⟨_, rfl⟩
        obtain ⟨wz, hwz⟩ : ∃ wz, wz = (wordS ext.data.toList true).2 := ⟨_, rfl⟩
        rw [← hwc, ← hwz]
        have HWC := Lib.hid (show wc = (wordS (scR1 s true) (scNeg s)).1 by rw [hwc, HWS.out])
        have HWZ := Lib.hid (show wz = (wordS (scR1 s true) (scNeg s)).2 by rw [hwz, HWS.out])
        have hwz8 : wz ≤ 8 := by rw [hwz]; exact wordS_le _ _
        clear hwc hwz
        have HSW2 := Lib.hid SW2
        obtain ⟨_, hz2, a0, a1, a2, a3, a4, a5, af, _, _, _, _, _, _, _⟩ := SW2
        have af0 := af 0; have af1 := af 1; have af2 := af 2; have af3 := af 3; have af4 := af 4; have af5 := af 5
        clear af
        by_cases hpos : 0 < wz
        · have E := Lib.hid (show scanS (scL s) true = ⟨wc, false, [], [], 0, m + wz⟩ by
            rw [scan_word s ⟨rfl, by rw [← HWZ.out]; exact hpos⟩, HWC.out, HWZ.out, HF.out])
          go_wp2_with fail
          simp only [jumps]
          exact bodyPost_ret (v := headV ⟨wc, false, [], [], 0, m + wz⟩) (by simp [results, Tryz.results57, go_sem, a0, a1, a2, a3, a4, a5, headV]; try rfl) rfl ⟨by rw [E.out], ((((((HSW2.out.below.setCell (p := ⟨w.heap.size, 0, none⟩) (Nat.le_refl _) _).setCell (p := ⟨w.heap.size, 1, none⟩) (Nat.le_refl _) _).setCell (p := ⟨w.heap.size, 2, none⟩) (Nat.le_refl _) _).setCell (p := ⟨w.heap.size, 3, none⟩) (Nat.le_refl _) _).setCell (p := ⟨w.heap.size, 4, none⟩) (Nat.le_refl _) _).setCell (p := ⟨w.heap.size, 5, none⟩) (Nat.le_refl _) _)⟩
        · have HNWD := Lib.hid (show ¬ scWord s true from fun h => hpos (by rw [HWZ.out]; exact h.2))
          have hz0 : ¬ ((0 : Int) < (wz : Int)) := by omega
          clear hpos
          go_wp2_with fail
          go_step3
          rename_i hKK
          refine hKK _ _ ?_
          refine Code.wp_mono (jumps_mono fun l' a' w' h => ?_) (scan1 s true w hs _ ?_ _ _ ?_)
          · refine ⟨h.1, Nat.lt_of_lt_of_le h.2 ?_⟩
            show 2 * (s.size + 2) + (s.size + 1 - (intOf (.int .i64 (m : Int))).toNat) ≤ 3 * (s.size + 2) + (s.size + 1 - (intOf (.int .i64 (k : Int))).toNat)
            simp [intOf]; omega
          · unfold scBody
            unfold Tryz.f57
            simp only [findLabel]
            rfl
          · refine ⟨_, _, rfl, rfl, rfl, rfl, rfl, rfl, rfl, rfl, Or.inr (Or.inl ⟨rfl, HNWD.out, ?_, ?_, 0, Nat.zero_le _, ?_⟩)⟩
            · rw [HNEG.out]; exact HSW2.out
            · rw [HF.out]; try omega
            · rw [HF.out]; try omega
      | false =>
        cases c43 : (c == 43) with
        | true =>
          have HNEG := Lib.hid (show scNeg s = false by unfold scNeg; rw [← HR.out]; exact c45)
          have HSN := Lib.hid (show signN (scR s) true = 1 by unfold signN; rw [← HR.out, c45, c43]; rfl)
          have HF := Lib.hid (show scF s true = k + 1 by unfold scF; rw [HSN.out, HK1.out]; try rfl)
          have hnn : k + 1 ≤ s.size := by have := HPL.out; rw [HF.out] at this; omega
          have v45 : ((c.toNat : Int) == 45) = false := by rw [← c45]; exact byte_lit c 45 (by omega)
          have v43 : ((c.toNat : Int) == 43) = true := by rw [← c43]; exact byte_lit c 43 (by omega)
          clear c45 c43
          have HLL := Lib.hid (show (s.extract (k + 1) s.size).data.toList = scR1 s true by rw [extract_bs, bs_list, scR1_drop, HF.out, List.take_of_length_le (by simp)])
          have hel : (s.extract (k + 1) s.size).size ≤ 1125899906842624 := by rw [ByteArray.size_extract]; omega
          have HCW := Lib.hid (fun (W : World) (hT : Tabs W) => wordAt_ok (s.extract (k + 1) s.size) false W hel hT)
          go_wp2_with (refine (at_ok s k _).mono ?_; rintro e w' ⟨rfl, rfl⟩; rw [fb.out])
          obtain ⟨m, hm⟩ : ∃ m : Nat, m = k + 1 := ⟨_, rfl⟩
          rw [← hm] at HF HLL hel HCW hnn
          rw [show ((k : Int) + 1) = (m : Int) by omega]
          have hmk : k ≤ m := by omega
          clear hm
          have SW := HW.out
          clear HW h0 h1 h2 h3 h4 h5 hf1 HT
          obtain ⟨W1, hW1⟩ : ∃ W1, W1 = wr := ⟨_, rfl⟩
          subst hW1
          have j1 := cell_regrown SW.h1
          have HSW := Lib.hid SW
          have HT1 := Lib.hid (T.below SW.below)
          clear SW
          obtain ⟨ext, hext⟩ : ∃ ext, ext = s.extract m s.size := ⟨_, rfl⟩
          rw [← hext] at HCW HLL
          have HEXT := Lib.hid hext.symm
          clear hext
          have cP : ∀ dd os, Calls Tryz.prog 86 #[.string ext, .bool false] (grow (redrawn W1 dd) os) fun e w'' => e = .returned (.tuple #[.int .u8 ((wordS ext.data.toList false).1 : Nat), .int .i64 ((wordS ext.data.toList false).2 : Nat)]) ∧ ∃ r : Regrown, w'' = grow (redrawn W1 r.d) r.os := fun dd os => Calls.regrown_of (HCW.out _ (HT1.out.below (below_regrown W1 dd os)))
          refine wp_region_quiet_below (by kernel_rfl) (by kernel_rfl) ?_
          repeat (quiet_step (first | (rw [HEXT.out]; exact cP _ _) | exact cP _ _))
          refine wpQuiet_nil ?_
          intro _ hw'
          obtain ⟨⟨dq, osq⟩, hw''⟩ := hw'
          subst hw''
          have SW2 := HSW.out.step (below_regrown W1 dq osq)
          clear cP j1
          have HWS := Lib.hid (show wordS ext.data.toList false = wordS (scR1 s true) (scNeg s) by rw [HLL.out, HNEG.out])
          generalize grow (redrawn W1 dq) osq = W2 at *
          obtain ⟨wc, hwc⟩ : ∃ wc, wc = (wordS ext.data.toList false).1 := ⟨_, rfl⟩
          obtain ⟨wz, hwz⟩ : ∃ wz, wz = (wordS ext.data.toList false).2 := ⟨_, rfl⟩
          rw [← hwc, ← hwz]
          have HWC := Lib.hid (show wc = (wordS (scR1 s true) (scNeg s)).1 by rw [hwc, HWS.out])
          have HWZ := Lib.hid (show wz = (wordS (scR1 s true) (scNeg s)).2 by rw [hwz, HWS.out])
          have hwz8 : wz ≤ 8 := by rw [hwz]; exact wordS_le _ _
          clear hwc hwz
          have HSW2 := Lib.hid SW2
          obtain ⟨_, hz2, a0, a1, a2, a3, a4, a5, af, _, _, _, _, _, _, _⟩ := SW2
          have af0 := af 0; have af1 := af 1; have af2 := af 2; have af3 := af 3; have af4 := af 4; have af5 := af 5
          clear af
          by_cases hpos : 0 < wz
          · have E := Lib.hid (show scanS (scL s) true = ⟨wc, false, [], [], 0, m + wz⟩ by
              rw [scan_word s ⟨rfl, by rw [← HWZ.out]; exact hpos⟩, HWC.out, HWZ.out, HF.out])
            go_wp2_with fail
            simp only [jumps]
            exact bodyPost_ret (v := headV ⟨wc, false, [], [], 0, m + wz⟩) (by simp [results, Tryz.results57, go_sem, a0, a1, a2, a3, a4, a5, headV]; try rfl) rfl ⟨by rw [E.out], ((((((HSW2.out.below.setCell (p := ⟨w.heap.size, 0, none⟩) (Nat.le_refl _) _).setCell (p := ⟨w.heap.size, 1, none⟩) (Nat.le_refl _) _).setCell (p := ⟨w.heap.size, 2, none⟩) (Nat.le_refl _) _).setCell (p := ⟨w.heap.size, 3, none⟩) (Nat.le_refl _) _).setCell (p := ⟨w.heap.size, 4, none⟩) (Nat.le_refl _) _).setCell (p := ⟨w.heap.size, 5, none⟩) (Nat.le_refl _) _)⟩
          · have HNWD := Lib.hid (show ¬ scWord s true from fun h => hpos (by rw [HWZ.out]; exact h.2))
            have hz0 : ¬ ((0 : Int) < (wz : Int)) := by omega
            clear hpos
            go_wp2_with fail
            go_step3
            rename_i hKK
            refine hKK _ _ ?_
            refine Code.wp_mono (jumps_mono fun l' a' w' h => ?_) (scan1 s true w hs _ ?_ _ _ ?_)
            · refine ⟨h.1, Nat.lt_of_lt_of_le h.2 ?_⟩
              show 2 * (s.size + 2) + (s.size + 1 - (intOf (.int .i64 (m : Int))).toNat) ≤ 3 * (s.size + 2) + (s.size + 1 - (intOf (.int .i64 (k : Int))).toNat)
              simp [intOf]; omega
            · unfold scBody
              unfold Tryz.f57
              simp only [findLabel]
              rfl
            · refine ⟨_, _, rfl, rfl, rfl, rfl, rfl, rfl, rfl, rfl, Or.inr (Or.inl ⟨rfl, HNWD.out, ?_, ?_, 0, Nat.zero_le _, ?_⟩)⟩
              · rw [HNEG.out]; exact HSW2.out
              · rw [HF.out]; try omega
              · rw [HF.out]; try omega
        | false =>
          have HNEG := Lib.hid (show scNeg s = false by unfold scNeg; rw [← HR.out]; exact c45)
          have HSN := Lib.hid (show signN (scR s) true = 0 by unfold signN; rw [← HR.out, c45, c43]; rfl)
          have HF := Lib.hid (show scF s true = k by unfold scF; rw [HSN.out, HK1.out]; try rfl)
          have hnn : k ≤ s.size := by have := HPL.out; rw [HF.out] at this; omega
          have v45 : ((c.toNat : Int) == 45) = false := by rw [← c45]; exact byte_lit c 45 (by omega)
          have v43 : ((c.toNat : Int) == 43) = false := by rw [← c43]; exact byte_lit c 43 (by omega)
          clear c45 c43
          have HLL := Lib.hid (show (s.extract (k) s.size).data.toList = scR1 s true by rw [extract_bs, bs_list, scR1_drop, HF.out, List.take_of_length_le (by simp)])
          have hel : (s.extract (k) s.size).size ≤ 1125899906842624 := by rw [ByteArray.size_extract]; omega
          have HCW := Lib.hid (fun (W : World) (hT : Tabs W) => wordAt_ok (s.extract (k) s.size) false W hel hT)
          go_wp2_with (refine (at_ok s k _).mono ?_; rintro e w' ⟨rfl, rfl⟩; rw [fb.out])
          have SW := HW.out
          clear HW h0 h1 h2 h3 h4 h5 hf1 HT
          obtain ⟨W1, hW1⟩ : ∃ W1, W1 = wr := ⟨_, rfl⟩
          subst hW1
          have j1 := cell_regrown SW.h1
          have HSW := Lib.hid SW
          have HT1 := Lib.hid (T.below SW.below)
          clear SW
          obtain ⟨ext, hext⟩ : ∃ ext, ext = s.extract (k) s.size := ⟨_, rfl⟩
          rw [← hext] at HCW HLL
          have HEXT := Lib.hid hext.symm
          clear hext
          have cP : ∀ dd os, Calls Tryz.prog 86 #[.string ext, .bool false] (grow (redrawn W1 dd) os) fun e w'' => e = .returned (.tuple #[.int .u8 ((wordS ext.data.toList false).1 : Nat), .int .i64 ((wordS ext.data.toList false).2 : Nat)]) ∧ ∃ r : Regrown, w'' = grow (redrawn W1 r.d) r.os := fun dd os => Calls.regrown_of (HCW.out _ (HT1.out.below (below_regrown W1 dd os)))
          refine wp_region_quiet_below (by kernel_rfl) (by kernel_rfl) ?_
          repeat (quiet_step (first | (rw [HEXT.out]; exact cP _ _) | exact cP _ _))
          refine wpQuiet_nil ?_
          intro _ hw'
          obtain ⟨⟨dq, osq⟩, hw''⟩ := hw'
          subst hw''
          have SW2 := HSW.out.step (below_regrown W1 dq osq)
          clear cP j1
          have HWS := Lib.hid (show wordS ext.data.toList false = wordS (scR1 s true) (scNeg s) by rw [HLL.out, HNEG.out])
          generalize grow (redrawn W1 dq) osq = W2 at *
          obtain ⟨wc, hwc⟩ : ∃ wc, wc = (wordS ext.data.toList false).1 := ⟨_, rfl⟩
          obtain ⟨wz, hwz⟩ : ∃ wz, wz = (wordS ext.data.toList false).2 := ⟨_, rfl⟩
          rw [← hwc, ← hwz]
          have HWC := Lib.hid (show wc = (wordS (scR1 s true) (scNeg s)).1 by rw [hwc, HWS.out])
          have HWZ := Lib.hid (show wz = (wordS (scR1 s true) (scNeg s)).2 by rw [hwz, HWS.out])
          have hwz8 : wz ≤ 8 := by rw [hwz]; exact wordS_le _ _
          clear hwc hwz
          have HSW2 := Lib.hid SW2
          obtain ⟨_, hz2, a0, a1, a2, a3, a4, a5, af, _, _, _, _, _, _, _⟩ := SW2
          have af0 := af 0; have af1 := af 1; have af2 := af 2; have af3 := af 3; have af4 := af 4; have af5 := af 5
          clear af
          by_cases hpos : 0 < wz
          · have E := Lib.hid (show scanS (scL s) true = ⟨wc, false, [], [], 0, k + wz⟩ by
              rw [scan_word s ⟨rfl, by rw [← HWZ.out]; exact hpos⟩, HWC.out, HWZ.out, HF.out])
            go_wp2_with fail
            simp only [jumps]
            exact bodyPost_ret (v := headV ⟨wc, false, [], [], 0, k + wz⟩) (by simp [results, Tryz.results57, go_sem, a0, a1, a2, a3, a4, a5, headV]; try rfl) rfl ⟨by rw [E.out], ((((((HSW2.out.below.setCell (p := ⟨w.heap.size, 0, none⟩) (Nat.le_refl _) _).setCell (p := ⟨w.heap.size, 1, none⟩) (Nat.le_refl _) _).setCell (p := ⟨w.heap.size, 2, none⟩) (Nat.le_refl _) _).setCell (p := ⟨w.heap.size, 3, none⟩) (Nat.le_refl _) _).setCell (p := ⟨w.heap.size, 4, none⟩) (Nat.le_refl _) _).setCell (p := ⟨w.heap.size, 5, none⟩) (Nat.le_refl _) _)⟩
          · have HNWD := Lib.hid (show ¬ scWord s true from fun h => hpos (by rw [HWZ.out]; exact h.2))
            have hz0 : ¬ ((0 : Int) < (wz : Int)) := by omega
            clear hpos
            go_wp2_with fail
            go_step3
            rename_i hKK
            refine hKK _ _ ?_
            refine Code.wp_mono (jumps_mono fun l' a' w' h => ?_) (scan1 s true w hs _ ?_ _ _ ?_)
            · refine ⟨h.1, Nat.lt_of_lt_of_le h.2 ?_⟩
              show 2 * (s.size + 2) + (s.size + 1 - (intOf (.int .i64 (k : Int))).toNat) ≤ 3 * (s.size + 2) + (s.size + 1 - (intOf (.int .i64 (k : Int))).toNat)
              simp [intOf]; omega
            · unfold scBody
              unfold Tryz.f57
              simp only [findLabel]
              rfl
            · refine ⟨_, _, rfl, rfl, rfl, rfl, rfl, rfl, rfl, rfl, Or.inr (Or.inl ⟨rfl, HNWD.out, ?_, ?_, 0, Nat.zero_le _, ?_⟩)⟩
              · rw [HNEG.out]; exact HSW2.out
              · rw [HF.out]; try omega
              · rw [HF.out]; try omega
end
end
section
open Go.RowKit

set_option maxRecDepth 100000 in
set_option maxHeartbeats 1600000 in
theorem scan_ok (s : ByteArray) (g : Bool) (w : World) (hs : s.size ≤ 1125899906842624) (T : Tabs w) :
    Calls Tryz.prog 57 #[.string s, .bool g] w (RetBelow w (headV (scanS s.data.toList g))) := by
  go_enter Tryz.func57, Tryz.ntmps57
  go_wp2_with fail
  refine wp_scope_labels (ScJ s g w) (ScM s) ?_ ?_
  · go_wp2_with fail
    go_step3
    rename_i hKK
    refine hKK _ _ ?_
    refine Code.wp_mono (jumps_mono fun l' a' w' h => h.1) (scan0 s g w hs T _ ?_ _ _ ?_)
    · unfold scBody
      unfold Tryz.f57
      simp only [findLabel]
      rfl
    · refine ⟨0, 0, rfl, rfl, rfl, rfl, rfl, rfl, rfl, rfl, Or.inl ⟨rfl, ?_, rfl, 0, Nat.zero_le _, rfl⟩⟩
      refine ⟨(((Below.refl _ _).alloc (Nat.le_refl _) _).alloc (by simp) _), by simp, ?_, ?_, ?_, ?_, ?_, ?_, ?_, ?_, ?_, ?_, ?_, ?_, ?_, ?_⟩
      all_goals first | (intro o; simp) | simp
  · intro l a w' hJ
    have pass : ∀ X, findLabel scBody l = some (Code.seq .skip X) → (Code.seq .skip X).wp Tryz.prog (jumps (fun l' a' w'' => ScJ s g w l' a' w'' ∧ ScM s l' a' w'' < ScM s l a w') (ScQ s g w)) a w' := fun X hX => by
      refine wp_seq (wp_skip ?_)
      show X.wp Tryz.prog _ a w'
      have hJ2 := hJ
      obtain ⟨_, _, _, _, _, _, _, _, _, _, (⟨rfl, _⟩ | ⟨rfl, _⟩ | ⟨rfl, _⟩ | ⟨rfl, _⟩)⟩ := hJ2
      · exact scan0 s g w hs T X hX a w' hJ
      · exact scan1 s g w hs X hX a w' hJ
      · exact scan3 s g w hs X hX a w' hJ
      · exact scan2 s g w hs X hX a w' hJ
    have ex : ∃ X, findLabel scBody l = some (Code.seq .skip X) := by
      obtain ⟨_, _, _, _, _, _, _, _, _, _, (⟨rfl, _⟩ | ⟨rfl, _⟩ | ⟨rfl, _⟩ | ⟨rfl, _⟩)⟩ := hJ
      all_goals
        unfold scBody
        unfold Tryz.f57
        simp only [findLabel]
        exact ⟨_, rfl⟩
    obtain ⟨X, hX⟩ := ex
    exact ⟨_, hX, pass X hX⟩
end
end Go.Proofs.YtnpnccjeapejdaaGreatDoor.Num
