/- A symbol is read; the end of a body. -/
import Derived.Test.YtfbeipfpkikakaaDoorVb
namespace Go.Proofs.YtfbeipfpkikakaaDoor
open Go.RowKit

set_option maxRecDepth 100000
set_option maxHeartbeats 800000 in
theorem end_ok {w : World} {r b off cp a f : Nat} {l : List UInt8} (h : Rdr w r b off cp l a f) (h8 : 8 * l.length - a < 8) (h0 : aheadN l a = 0) : Calls Tryd.prog 68 #[.pointer (some ⟨r, 0, none⟩)] w (fun e w' => e = .returned (.tuple #[]) ∧ Below w.heap.size (w.setCell ⟨r, 2, none⟩ (.int .i64 a)) w') := by
  have BC := Lib.hid (begin_ok h)
  have HM := Lib.hid h.mark
  have LC := Lib.hid (left_ok h.mark)
  have AC := Lib.hid (fun (W : World) (k : Below (w.setCell ⟨r, 2, none⟩ (.int .i64 a)).heap.size (w.setCell ⟨r, 2, none⟩ (.int .i64 a)) W) => ahead_ok (HM.out.step k))
  rw [h0] at AC
  have hs : (w.setCell ⟨r, 2, none⟩ (.int .i64 a)).heap.size = w.heap.size := by simp
  have HS := Lib.hid hs
  generalize w.setCell ⟨r, 2, none⟩ (.int .i64 a) = w1 at *
  obtain ⟨z, hz⟩ : ∃ z, z = 8 * l.length - a := ⟨_, rfl⟩
  rw [← hz] at LC h8
  have t1 : decide (8 ≤ (z : Int)) = false := decide_eq_false (by omega)
  clear hz h h0 hs
  go_enter Tryd.func68, Tryd.ntmps68
  go_wp2_with fail
  refine BC.out.mono ?_
  rintro e w2 ⟨rfl, rfl⟩
  go_wp2_with fail
  refine LC.out.mono ?_
  rintro e w2 ⟨rfl, hb⟩
  have B1 := Lib.hid hb
  clear hb
  go_wp2_with fail
  refine (AC.out _ B1.out).mono ?_
  rintro e w3 ⟨rfl, rfl⟩
  go_wp2_with fail
  go_end0
  exact ⟨rfl, B1.out.mono (by rw [HS.out]; exact Nat.le_refl _)⟩
/-- A decoder. -/
structure DecAt (w : World) (d : Nat) (sy : Nat → Nat) (en sh : Nat → Int) : Prop where
  lt : d < w.heap.size
  sym : ∀ j, j < 272 → w.cell? ⟨d, j, none⟩ = some (.int .u16 (sy j))
  ends : ∀ j, j < 16 → w.cell? ⟨d, 272 + j, none⟩ = some (.int .i64 (en j))
  shifts : ∀ j, j < 16 → w.cell? ⟨d, 288 + j, none⟩ = some (.int .i64 (sh j))
set_option maxHeartbeats 1600000 in
theorem symbol_ok {w : World} {r b off cp a f d : Nat} {l : List UInt8} {sy : Nat → Nat} {en sh : Nat → Int} (h : Rdr w r b off cp l a f) (D : DecAt w d sy en sh) (m : Nat) (hm : 1 ≤ m ∧ m ≤ 15)
    (hlt : ∀ j, 1 ≤ j → j < m → en j ≤ aheadN l a) (hen : (aheadN l a : Int) < en m) (hn : a + m ≤ 8 * l.length) (ix : Nat) (hix : sh m + ((aheadN l a / 2 ^ (15 - m) : Nat) : Int) = ix) (h272 : ix < 272) (hsy : sy ix < 65536) (hsh : -100000 ≤ sh m ∧ sh m ≤ 100000) (hdr : d ≠ r) :
    Calls Tryd.prog 63 #[.pointer (some ⟨r, 0, none⟩), .pointer (some ⟨d, 0, none⟩)] w (fun e w' => e = .returned (.int .i64 (sy ix)) ∧ ∃ v, Below w.heap.size w v ∧ Below v.heap.size (v.setCell ⟨r, 1, none⟩ (.int .i64 ((a + m : Nat) : Int))) w') := by
  have AC := Lib.hid (ahead_ok h)
  have SC := Lib.hid (skip_ok h hn)
  have al : aheadN l a < 32768 := Nat.mod_lt _ (by omega)
  generalize aheadN l a = x at *
  have DE := Lib.hid D.ends
  have DS := Lib.hid D.shifts
  have DY := Lib.hid D.sym
  have hdl := D.lt
  have cy := DY.out ix h272
  obtain ⟨y, hy⟩ : ∃ y, y = sy ix := ⟨_, rfl⟩
  rw [← hy] at cy hsy ⊢
  clear D hy
  go_enter Tryd.func63, Tryd.ntmps63
  go_wp2_with fail
  refine AC.out.mono ?_
  rintro e w1 ⟨rfl, rfl⟩
  go_wp2_with fail
  go_loop [6] (fun i => ∃ k : Nat, 1 ≤ k ∧ k ≤ m ∧ i = .int .i64 (k : Int)) (fun i => (16 - intOf i).toNat)
  case atStart => exact ⟨1, by omega, hm.1, rfl⟩
  case round =>
    obtain ⟨k, hk1, hk, rfl⟩ := hrel
    have ce := DE.out k (by omega)
    by_cases hkm : k < m
    · have hh := hlt k hk1 hkm
      have t1 : decide ((x : Int) < en k) = false := decide_eq_false (by omega)
      have K1 := Lib.hid (show ∃ k2 : Nat, 1 ≤ k2 ∧ k2 ≤ m ∧ (.int .i64 ((k : Int) + 1) : Value) = .int .i64 (k2 : Int) from ⟨k + 1, by omega, by omega, by go_num⟩)
      have M1 := Lib.hid (show (16 - ((k : Int) + 1)).toNat < (16 - (k : Int)).toNat by omega)
      have k15 : k < 15 := by omega
      generalize en k = ek at *
      clear hh hlt hen hix hsh hn
      go_wp2_with fail
      exact ⟨K1.out, M1.out⟩
    · obtain rfl : k = m := by omega
      have t1 : decide ((x : Int) < en k) = true := decide_eq_true hen
      have cs := DS.out k (by omega)
      generalize en k = ek at *
      generalize sh k = sk at *
      clear hlt hen
      have HIX := Lib.hid hix
      have hm15 := hm.2
      have hm1 := hm.1
      clear hix DE DS DY hm
      go_wp2_with fail
      refine SC.out.mono ?_
      rintro e w2 ⟨rfl, v, hb, rfl⟩
      have BV := Lib.hid hb
      have cs2 : (v.setCell ⟨r, 1, none⟩ (.int .i64 ((a + k : Nat) : Int))).cell? ⟨d, 288 + k, none⟩ = some (.int .i64 sk) := by
        rw [World.cell?_setCell_other _ _ _ _ (fun e => hdr (congrArg Addr.block e).symm), (bcell hb).1 _ _ hdl]; exact cs
      have cy2 : (v.setCell ⟨r, 1, none⟩ (.int .i64 ((a + k : Nat) : Int))).cell? ⟨d, ix, none⟩ = some (.int .u16 y) := by
        rw [World.cell?_setCell_other _ _ _ _ (fun e => hdr (congrArg Addr.block e).symm), (bcell hb).1 _ _ hdl]; exact cy
      have hs3 : v.heap.size = (v.setCell ⟨r, 1, none⟩ (.int .i64 ((a + k : Nat) : Int))).heap.size := by simp
      obtain ⟨w3, h3⟩ : ∃ w3, w3 = v.setCell ⟨r, 1, none⟩ (.int .i64 ((a + k : Nat) : Int)) := ⟨_, rfl⟩
      rw [← h3] at cs2 cy2 hs3 ⊢
      have H3 := Lib.hid h3
      have HS3 := Lib.hid hs3
      clear cs cy hb h3 hs3 ce
      obtain ⟨z, hz⟩ : ∃ z, z = x / 2 ^ (15 - k) := ⟨_, rfl⟩
      have zx : (x : Int) / 2 ^ (15 - k) = (z : Int) := by rw [hz, Int.natCast_ediv, Int.natCast_pow]; rfl
      have s1 : sk + (z : Int) = (ix : Int) := by rw [hz]; exact HIX.out
      have z1 : z < 32768 := by rw [hz]; exact Nat.lt_of_le_of_lt (Nat.div_le_self _ _) al
      clear hz HIX
      go_upto_region 7 with fail
      have i1 : IntKind.i64.wrap (15 - (k : Int)) = 15 - (k : Int) := IntWalk.i64_in _ (by omega)
      have i2 : (15 - (k : Int)).toNat = 15 - k := by omega
      have i3 : 0 ≤ 15 - (k : Int) := by omega
      have i4 : IntKind.i64.wrap (sk + (z : Int)) = (ix : Int) := by rw [s1]; exact IntWalk.i64_in _ (by omega)
      have i5 : IntKind.i64.wrap (y : Int) = (y : Int) := IntWalk.i64_in _ (by omega)
      have i6 : (ix : Int) < 272 := by omega
      clear s1
      go_quiet (fail)
      clear i1 i2 i3 i4 i5 i6
      go_wp2_with fail
      go_ret
      exact ⟨rfl, v, BV.out, by rw [← H3.out, HS3.out]; exact below_drewN _ _⟩
end Go.Proofs.YtfbeipfpkikakaaDoor
