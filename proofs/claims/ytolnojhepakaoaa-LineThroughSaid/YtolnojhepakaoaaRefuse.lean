/- Names that may be, and what refuses an Open: the ways on which nothing does. -/
import Derived.Test.YtolnojhepakaoaaCall
import Derived.Test.YtolnojhepakaoaaMap
import Derived.Test.YtolnojhepakaoaaShelf
import Derived.Test.YtolnojhepakaoaaLocks
import Derived.Conc.MuLone
namespace Go.Proofs.Ytolnojhepakaoaa
open Go.RowKit Go.Maps
theorem law9 : Keyed Try.prog 9 := string_keyed Try.underlying9
/-- A name that may be. -/
structure Nam (s : ByteArray) : Prop where
  pos : 1 ≤ s.size
  le : s.size ≤ 64
  nul : Lib.indexByte s.data.toList 0 = -1
set_option maxHeartbeats 400000 in
theorem nameHolds_ok (s : ByteArray) (w : World) (h : Nam s) : Calls Try.prog 50 #[.string s] w fun e w' => e = .returned (.bool true) ∧ w = w' := by
  have h1 := h.pos
  have h2 := h.le
  have H3 := Lib.hid h.nul
  clear h
  go_enter Try.func50, Try.ntmps50
  go_wp2_with fail
  refine (Try.strings_IndexByte _ _ _).mono ?_
  rintro e w' ⟨rfl, rfl⟩
  have e0 : (Int.toNat 0).toUInt8 = (0 : UInt8) := rfl
  rw [e0, H3.out]
  go_wp2_with fail
  go_ret
  exact ⟨rfl, rfl⟩

def key (s : ByteArray) : Lit := .string s.data.toList
theorem key_of {s : ByteArray} (h : Nam s) : keyOf Try.prog 9 (.string s) = some (key s) := WideMaps.keyOf_string_mk Try.underlying9 (by have := h.le; unfold maxLen; omega)

set_option maxRecDepth 100000 in
set_option maxHeartbeats 1600000 in
/-- refuseOpen, a file that isn't there and is to be made. -/
theorem refuseOpen_new (b : Nat) (l : Int) (s : FSt) (n : Nat) (D : DataW Value) (nm : ByteArray) (m : Int) (w : World) (hb : FsAt w b l s) (hn : Nam nm) (hown : w.ownsMap Try.prog 9 heldR s.mp n D)
    (hat : D.atKey (key nm) (.held (.pointer none)) = .held (.pointer none)) (hm1 : 2 ≤ m) (hm2 : m ≤ 4) (hf : (n : Int) < s.mf) (hh : s.opn < s.mh) (hs : Maps.size D = n) :
    Calls Try.prog 66 #[.pointer (some ⟨b, 0, none⟩), .string nm, .int .u8 m] w fun e w' => e = .returned (.int .i64 0) ∧ ∃ q, w' = w.drewN q := by
  have g12 : w.cell? ⟨b, 12, none⟩ = some (.map (some s.mp)) := by rw [hb.cell]; rfl
  have hkey := key_of hn
  have Hat := Lib.hid hat
  have Hs := Lib.hid hs
  have Hown := Lib.hid hown
  have Hb := Lib.hid hb
  have Hkey := Lib.hid hkey
  have Hn := Lib.hid hn
  clear hat hs hown hb hkey hn
  go_enter Try.func66, Try.ntmps66
  go_wp2_with fail
  refine (nameHolds_ok _ _ Hn.out).mono ?_
  rintro e w' ⟨rfl, rfl⟩
  go_wp2_with (at_lookup; refine wpList_lookup_held _ rfl _ _ 90 rfl 9 94 law9 Try.underlying90 (Try.zeroValue94 _) s.mp n D rfl Hown.out _ _ rfl Hkey.out (.pointer none) Hat.out ?_)
  all_goals
    have g3 : w.cell? ⟨b, 3, none⟩ = some (.int .i64 s.mf) := by rw [Hb.out.cell]; rfl
    have g4 : w.cell? ⟨b, 4, none⟩ = some (.int .i64 s.mh) := by rw [Hb.out.cell]; rfl
    have g25 : w.cell? ⟨b, 25, none⟩ = some (.int .i64 s.opn) := by rw [Hb.out.cell]; rfl
    have hl : ∀ q : Nat, (Builtin.len_ #[90] 3 #[.map (some s.mp)]).run Try.prog (w.drewN q) = .ok (.int .i64 n) (w.drewN q) := fun q => by
      have h := (ownsMap_keeps Hown.out ((Keeps.refl [] w).drewN q) (by simp)).len Try.underlying90 3
      rw [Hs.out] at h; exact h
    have t1 : decide (s.mf ≤ (n : Int)) = false := by rw [decide_eq_false_iff_not]; omega
    go_quiet (fail)
    go_wp2_with fail
    generalize hw2 : w.drewN _ = w2 at *
    clear g3 g4 g25 hl t1
    have hb2 := Hb.out.ofDrewN hw2
    have g4 : w2.cell? ⟨b, 4, none⟩ = some (.int .i64 s.mh) := by rw [hb2.cell]; rfl
    have g25 : w2.cell? ⟨b, 25, none⟩ = some (.int .i64 s.opn) := by rw [hb2.cell]; rfl
    have t2 : decide (s.mh ≤ s.opn) = false := by rw [decide_eq_false_iff_not]; omega
    have Hw2 := Lib.hid hw2
    clear hw2 hb2
    go_quiet (fail)
    go_wp2_with fail
    go_ret
    exact ⟨rfl, _, by rw [← Hw2.out]; exact World.drewN_drewN _ _ _⟩

/-- A file's or a stream's bytes, in memory. -/
def BodyAt (w : World) (g : Nat) (v : Value) (sy op : Int) (wr : Bool) : Prop := w.heap[g]? = some (.cells #[v, .int .i64 sy, .int .i64 op, .bool wr] 97 (0, 0))

set_option maxRecDepth 100000 in
set_option maxHeartbeats 1600000 in
/-- refuseOpen, to read a file that nobody writes. -/
theorem refuseOpen_read (b g : Nat) (l : Int) (s : FSt) (n : Nat) (D : DataW Value) (nm : ByteArray) (v : Value) (sy op : Int) (w : World) (hb : FsAt w b l s) (hn : Nam nm) (hown : w.ownsMap Try.prog 9 heldR s.mp n D)
    (hat : D.atKey (key nm) (.held (.pointer none)) = .held (.pointer (some ⟨g, 0, none⟩))) (hg : BodyAt w g v sy op false) (hh : s.opn < s.mh) :
    Calls Try.prog 66 #[.pointer (some ⟨b, 0, none⟩), .string nm, .int .u8 1] w fun e w' => e = .returned (.int .i64 0) ∧ ∃ q, w' = w.drewN q := by
  have g12 : w.cell? ⟨b, 12, none⟩ = some (.map (some s.mp)) := by rw [hb.cell]; rfl
  have k3 : w.cell? ⟨g, 3, none⟩ = some (.bool false) := by rw [cell_of hg]; rfl
  have hkey := key_of hn
  have Hat := Lib.hid hat
  have Hown := Lib.hid hown
  have Hb := Lib.hid hb
  have Hkey := Lib.hid hkey
  have Hn := Lib.hid hn
  clear hat hown hb hkey hn hg
  go_enter Try.func66, Try.ntmps66
  go_wp2_with fail
  refine (nameHolds_ok _ _ Hn.out).mono ?_
  rintro e w' ⟨rfl, rfl⟩
  go_wp2_with (at_lookup; refine wpList_lookup_held _ rfl _ _ 90 rfl 9 94 law9 Try.underlying90 (Try.zeroValue94 _) s.mp n D rfl Hown.out _ _ rfl Hkey.out (.pointer (some ⟨g, 0, none⟩)) Hat.out ?_)
  go_quiet (fail)
  generalize hw2 : w.drewN _ = w2 at *
  have hb2 := Hb.out.ofDrewN hw2
  have g4 : w2.cell? ⟨b, 4, none⟩ = some (.int .i64 s.mh) := by rw [hb2.cell]; rfl
  have g25 : w2.cell? ⟨b, 25, none⟩ = some (.int .i64 s.opn) := by rw [hb2.cell]; rfl
  have t2 : decide (s.mh ≤ s.opn) = false := by rw [decide_eq_false_iff_not]; omega
  have Hw2 := Lib.hid hw2
  clear hw2 hb2 g12 k3
  go_wp2_with fail
  go_quiet (fail)
  go_wp2_with fail
  go_ret
  exact ⟨rfl, _, by rw [← Hw2.out]; exact World.drewN_drewN _ _ _⟩

set_option maxRecDepth 100000 in
set_option maxHeartbeats 1600000 in
/-- refuseOpen, to write behind a file that is not open. -/
theorem refuseOpen_append (b g : Nat) (l : Int) (s : FSt) (n : Nat) (D : DataW Value) (nm : ByteArray) (v : Value) (sy : Int) (wr : Bool) (w : World) (hb : FsAt w b l s) (hn : Nam nm) (hown : w.ownsMap Try.prog 9 heldR s.mp n D)
    (hat : D.atKey (key nm) (.held (.pointer none)) = .held (.pointer (some ⟨g, 0, none⟩))) (hg : BodyAt w g v sy 0 wr) (hh : s.opn < s.mh) :
    Calls Try.prog 66 #[.pointer (some ⟨b, 0, none⟩), .string nm, .int .u8 4] w fun e w' => e = .returned (.int .i64 0) ∧ ∃ q, w' = w.drewN q := by
  have g12 : w.cell? ⟨b, 12, none⟩ = some (.map (some s.mp)) := by rw [hb.cell]; rfl
  have k2 : w.cell? ⟨g, 2, none⟩ = some (.int .i64 0) := by rw [cell_of hg]; rfl
  have hkey := key_of hn
  have Hat := Lib.hid hat
  have Hown := Lib.hid hown
  have Hb := Lib.hid hb
  have Hkey := Lib.hid hkey
  have Hn := Lib.hid hn
  clear hat hown hb hkey hn hg
  go_enter Try.func66, Try.ntmps66
  go_wp2_with fail
  refine (nameHolds_ok _ _ Hn.out).mono ?_
  rintro e w' ⟨rfl, rfl⟩
  go_wp2_with (at_lookup; refine wpList_lookup_held _ rfl _ _ 90 rfl 9 94 law9 Try.underlying90 (Try.zeroValue94 _) s.mp n D rfl Hown.out _ _ rfl Hkey.out (.pointer (some ⟨g, 0, none⟩)) Hat.out ?_)
  go_quiet (fail)
  generalize hw2 : w.drewN _ = w2 at *
  have hb2 := Hb.out.ofDrewN hw2
  have g4 : w2.cell? ⟨b, 4, none⟩ = some (.int .i64 s.mh) := by rw [hb2.cell]; rfl
  have g25 : w2.cell? ⟨b, 25, none⟩ = some (.int .i64 s.opn) := by rw [hb2.cell]; rfl
  have t2 : decide (s.mh ≤ s.opn) = false := by rw [decide_eq_false_iff_not]; omega
  have Hw2 := Lib.hid hw2
  clear hw2 hb2 g12 k2
  go_wp2_with fail
  go_quiet (fail)
  go_wp2_with fail
  go_ret
  exact ⟨rfl, _, by rw [← Hw2.out]; exact World.drewN_drewN _ _ _⟩
end Go.Proofs.Ytolnojhepakaoaa
