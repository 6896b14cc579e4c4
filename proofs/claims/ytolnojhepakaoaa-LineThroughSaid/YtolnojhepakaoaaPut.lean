import Derived.Test.YtolnojhepakaoaaWrite
import Derived.Test.YtolnojhepakaoaaOpenR
namespace Go.Proofs.Ytolnojhepakaoaa
open Go.RowKit Go.Maps Go.MuLone

theorem row_up {w : World} {B B' : Nat} {v : Value} {n : Nat} {xs : List Value} (h : w.ownsRow B 5 1 v n xs) (hB : B' ≤ B) : w.ownsRow B' 5 1 v n xs := by
  refine ⟨h.1, ?_⟩
  rcases h.2 with h3 | ⟨g', c', cur, h3, h4, h5⟩
  · exact .inl h3
  · exact .inr ⟨g', c', cur, h3, Nat.le_trans hB h4, h5⟩

/-- The world behind the map's update in Put. -/
theorem put_map (w3 w5 : World) (b mp k : Nat) (D : DataW Value) (nm : ByteArray) (ua : Option Addr) (n uc : Nat) (hkey : keyOf Try.prog 9 (.string nm) = some (key nm)) (hown3 : w3.ownsMap Try.prog 9 heldR mp k D) (hkN : k < 4611686018427387904) (hne : mp ≠ b)
    (hblt : b < w3.heap.size) (hbel : Below w3.heap.size w3 w5) (g12 : w3.cell? ⟨b, 12, none⟩ = some (.map (some mp))) :
    ∃ w6, w5.ownsMap Try.prog 9 heldR mp k D ∧ (Instr.mapUpdate 90 (.map (some mp)) (.string nm) (.pointer (some ⟨w5.heap.size, 0, none⟩))).run Try.prog (w5.alloc (.cells #[.slice ua n uc, .int .i64 n, .int .i64 0, .bool false] 97)) = .ok () w6 ∧
      w6.ownsMap Try.prog 9 heldR mp (k + 1) (D.put (key nm) (.held (.pointer (some ⟨w5.heap.size, 0, none⟩)))) ∧ (w5.alloc (.cells #[.slice ua n uc, .int .i64 n, .int .i64 0, .bool false] 97)).grownBy w6 (some mp) ∧
      w5.cell? ⟨b, 12, none⟩ = some (.map (some mp)) ∧ (w5.alloc (.cells #[.slice ua n uc, .int .i64 n, .int .i64 0, .bool false] 97)).cell? ⟨b, 12, none⟩ = some (.map (some mp)) ∧ w6.cell? ⟨b, 12, none⟩ = some (.map (some mp)) := by
  have hown5 := ownsMap_keeps hown3 (show Keeps [] w3 w5 from ⟨hbel.os, hbel.tape, hbel.output, hbel.size, fun k hk _ => hbel.block k hk⟩) (by simp)
  obtain ⟨w6, hrun6, hown6, hgrow6⟩ := (hown5.alloc (.cells #[.slice ua n uc, .int .i64 n, .int .i64 0, .bool false] 97)).update law9 Try.underlying90 (show k < maxLen by unfold maxLen; omega) hkey (show heldR (.pointer (some ⟨w5.heap.size, 0, none⟩)) = some (.held (.pointer (some ⟨w5.heap.size, 0, none⟩)), []) from rfl)
  have hb5 : b < w5.heap.size := Nat.lt_of_lt_of_le hblt hbel.size
  have a5 : w5.cell? ⟨b, 12, none⟩ = some (.map (some mp)) := (World.cell?_of_block (hbel.block b hblt)).trans g12
  have a6 := (World.cell?_of_block (a := ⟨b, 12, none⟩) (Below.heap_alloc w5 (.cells #[.slice ua n uc, .int .i64 n, .int .i64 0, .bool false] 97) b hb5)).trans a5
  exact ⟨w6, hown5, hrun6, hown6, hgrow6, a5, a6, (World.cell?_of_block (hgrow6.block b (Nat.lt_of_lt_of_le hb5 ((Keeps.refl [] w5).alloc _).size) (fun e => hne (Option.some.inj e).symm))).trans a6⟩

set_option maxRecDepth 100000 in
set_option maxHeartbeats 1600000 in
/-- Put, under a name that isn't there, of bytes behind an address. -/
theorem put_any (b : Nat) (s : FSt) (k : Nat) (D : DataW Value) (nm : ByteArray) (a : Option Addr) (n c : Nat) (zs : List Int) (w : World) (hb : FsAt w b 0 s) (hn : Nam nm) (hown : w.ownsMap Try.prog 9 heldR s.mp k D) (hne : s.mp ≠ b)
    (hat : D.atKey (key nm) (.held (.pointer none)) = .held (.pointer none)) (hk : (k : Int) < s.mf) (hs : Maps.size D = k) (hkN : k < 4611686018427387904)
    (hcl : ∀ W, Keeps [b] w W → Calls Try.prog 44 #[.slice a n c] W fun e w' => ∃ v', e = .returned v' ∧ w'.ownsRow W.heap.size 5 1 v' n (zs.map (Value.int .u8)) ∧ Below W.heap.size W w') (hroom : (n : Int) ≤ s.mb - s.used) (u0 : 0 ≤ s.used) (b1 : s.mb ≤ 67108864) :
    Calls Try.prog 25 #[.pointer (some ⟨b, 0, none⟩), .string nm, .slice a n c] w fun e w' => ∃ (g : Nat) (v : Value), e = .returned (.int .i64 0) ∧
      FsAt w' b 0 (s.grown n) ∧ BodyAt w' g v n 0 false ∧ w'.ownsRow w.heap.size 5 1 v n (zs.map (Value.int .u8)) ∧ w'.ownsMap Try.prog 9 heldR s.mp (k + 1) (D.put (key nm) (.held (.pointer (some ⟨g, 0, none⟩)))) ∧ Keeps [b, s.mp] w w' ∧ w.heap.size ≤ g ∧ v.ownBlock ≠ some g := by
  have hkey := key_of hn
  have z0 : w.cell? ⟨b, 0, none⟩ = some (.int .i32 0) := by rw [hb.cell]; rfl
  have f0 := hb.free 0
  have Hat := Lib.hid hat
  have Hown := Lib.hid hown
  have Hkey := Lib.hid hkey
  have Hn := Lib.hid hn
  have Hb := Lib.hid hb
  have Hcl := Lib.hid hcl
  have Hs := Lib.hid hs
  clear hat hown hkey hb hcl hn hs
  go_enter_defers Try.func25, Try.ntmps25
  go_wp2_with fail
  refine (lock_free Try.muLib ⟨b, 0, none⟩ _ z0 f0).mono ?_
  rintro e w1 ⟨rfl, hw1⟩
  have hb1 : FsAt w1 b 1 s := by rw [hw1]; exact Hb.out.set 0 _ rfl
  have kp1 : Keeps [b] w w1 := by rw [hw1]; exact (Keeps.refl _ _).setCell (by simp) _
  clear z0 f0
  have Hw1 := Lib.hid hw1
  clear hw1
  have hown1 := ownsMap_keeps Hown.out kp1 (by simpa using hne)
  have g12 : w1.cell? ⟨b, 12, none⟩ = some (.map (some s.mp)) := by rw [hb1.cell]; rfl
  have g3 : w1.cell? ⟨b, 3, none⟩ = some (.int .i64 s.mf) := by rw [hb1.cell]; rfl
  have hl : ∀ q : Nat, (Builtin.len_ #[90] 3 #[.map (some s.mp)]).run Try.prog (w1.drewN q) = .ok (.int .i64 k) (w1.drewN q) := fun q => by
    have h := (ownsMap_keeps hown1 ((Keeps.refl [] w1).drewN q) (by simp)).len Try.underlying90 3
    rw [Hs.out] at h; exact h
  have t1 : decide (s.mf ≤ (k : Int)) = false := by rw [decide_eq_false_iff_not]; omega
  have Hb1 := Lib.hid hb1
  have Kp1 := Lib.hid kp1
  have Hown1 := Lib.hid hown1
  clear hb1 kp1 hown1
  go_wp2_with fail
  refine (nameHolds_ok _ _ Hn.out).mono ?_
  rintro e w' ⟨rfl, rfl⟩
  go_wp2_with (at_lookup; go_must (refine wpList_lookup_held _ rfl _ _ 90 rfl 9 94 law9 Try.underlying90 (Try.zeroValue94 _) s.mp k D rfl Hown1.out _ _ rfl Hkey.out (.pointer none) Hat.out ?_))
  refine wp_goes fun J hJ => ?_
  go_quiet (fail)
  refine hJ _ _ ?_
  clear hJ
  generalize hw2 : w1.drewN _ = w2 at *
  have hb2 := Hb1.out.ofDrewN hw2
  have kp2 := Kp1.out.ofDrewN hw2
  have kp12 := (Keeps.refl [] w1).ofDrewN hw2
  clear g12 g3 hl t1 hw2
  have g2 : w2.cell? ⟨b, 2, none⟩ = some (.int .i64 s.mb) := by rw [hb2.cell]; rfl
  have g27 : w2.cell? ⟨b, 27, none⟩ = some (.int .i64 s.used) := by rw [hb2.cell]; rfl
  have t2 : decide (s.mb - s.used + 0 < (n : Int)) = false := by rw [decide_eq_false_iff_not]; omega
  have t2' : decide (s.mb - s.used < (n : Int)) = false := by rw [decide_eq_false_iff_not]; omega
  have Hb2 := Lib.hid hb2
  have Kp2 := Lib.hid kp2
  have Kp12 := Lib.hid kp12
  clear hb2 kp2 kp12
  go_wp2_with fail
  refine wp_goes fun J hJ => ?_
  go_quiet (fail)
  refine hJ _ _ ?_
  clear hJ g2 g27 t2 t2'
  generalize hw3 : w2.drewN _ = w3 at *
  have hb3 := Hb2.out.ofDrewN hw3
  have kp3 := Kp2.out.ofDrewN hw3
  have kp13 := Kp12.out.ofDrewN hw3
  have g12 : w3.cell? ⟨b, 12, none⟩ = some (.map (some s.mp)) := by rw [hb3.cell]; rfl
  have hown3 := ownsMap_keeps Hown1.out kp13 (by simp)
  have Hb3 := Lib.hid hb3
  have Kp3 := Lib.hid kp3
  have Hown3 := Lib.hid hown3
  clear hw3 hb3 kp3 kp13 hown3
  go_wp2_with fail
  refine wp_goes fun J hJ => ?_
  have hblt : b < w3.drew.heap.size := lt_of_block Hb3.out
  have Hblt := Lib.hid hblt
  clear hblt
  go_region_held_law (fun w' => w'.cell? ⟨b, 12, none⟩ = some (.map (some s.mp))) (first | exact g12 | exact g12a | exact g12b | exact g12c) ((go_simp; go_at_call 44; refine (Hcl.out w3.drew (Kp3.out.drewN 1)).mono ?_; rintro e w5 ⟨u, rfl, hu5, hbel⟩; obtain ⟨ua, uc, rfl⟩ := ownsRow_slice hu5; obtain ⟨w6, hown5, hrun6, hown6, hgrow6, g12a, g12b, g12c⟩ := put_map w3.drew w5 b s.mp k D nm ua n uc Hkey.out Hown3.out.drew hkN hne Hblt.out hbel g12; dsimp only))
  refine hJ _ _ ?_
  clear hJ g12 g12a g12b g12c hrun6
  have hb5 : FsAt w5 b 1 s := (hbel.block b Hblt.out).trans Hb3.out
  have kp35 : Keeps [] w3 w5 := ⟨hbel.os, hbel.tape, hbel.output, hbel.size, fun k hk _ => hbel.block k hk⟩
  have kp5 : Keeps [b] w w5 := Kp3.out.trans (kp35.mono (by simp))
  have hmp5 : s.mp < w5.heap.size := hown5.lt
  have hmp : s.mp < w.heap.size := Hown.out.lt
  have hlt3 := Kp3.out.size
  obtain ⟨hb6, hg6, kp6, hlt6⟩ := after_put hb5 kp5 hgrow6 hne hmp5
  have hrow5 := (hu5.alloc (.cells #[.slice ua n uc, .int .i64 n, .int .i64 0, .bool false] 97)).kept hgrow6 (.inr fun e => by have := (hu5.lt _ e).1; simp at this; omega)
  have hrow6 : w6.ownsRow w.heap.size 5 1 (.slice ua n uc) n (zs.map (Value.int .u8)) := row_up hrow5 (by simpa using hlt3)
  have hbz : w.heap.size ≤ w5.heap.size := kp5.size
  have hown_ne : (Value.slice ua n uc).ownBlock ≠ some w5.heap.size := fun e => by have := (hu5.lt _ e).2; omega
  generalize w5.heap.size = g at *
  have Hb6 := Lib.hid hb6
  have hg6' : BodyAt w6 g (.slice ua n uc) n 0 false := hg6
  have hlg6 := lt_of_block hg6
  have hmp6 := hown6.lt
  have hb6lt := lt_of_block hb6
  have Hg6 := Lib.hid hg6'
  have Kp6 := Lib.hid kp6
  have Hown6 := Lib.hid hown6
  have Hrow6 := Lib.hid hrow6
  clear hb6 hg6 hg6' kp6 hown6 hrow6 hrow5 hu5 hbel hgrow6 hown5 hb5 kp35 kp5
  go_wp2_with fail
  refine (grow_ok b 1 n s _ Hb6.out (by omega) (by omega)).mono ?_
  rintro e w7 ⟨rfl, hb7, kp7⟩
  have Hb7 := Lib.hid hb7
  have Kp7 := Lib.hid kp7
  clear hb7 kp7
  go_wp2_with fail
  refine leaves_cons (f := 43) (args := #[.pointer (some ⟨b, 0, none⟩)]) (by simp) (by simp [go_sem]) ?_
  refine (unlock_deferred Try.muLib ⟨b, 0, none⟩ .returning _ ?_ ?_).mono ?_
  · rw [Hb7.out.cell]; rfl
  · exact Hb7.out.free 0
  rintro e u' w'' ⟨rfl, rfl, rfl⟩
  have kp8 : Keeps [b] w6 (w7.setCell ⟨b, 0, none⟩ (.int .i32 0)) := Kp7.out.setCell (by simp) _
  have hgb : g ≠ b := fun e => by have := lt_of_block Hb.out; omega
  refine ⟨_, results_tmp rfl _ _ _, g, _, rfl, Hb7.out.set 0 _ rfl, Hg6.out.keeps kp8 (by simpa using hgb), ownsRow_keeps Hrow6.out kp8 ?_, ownsMap_keeps Hown6.out kp8 (by simpa using hne), ?_, hbz, hown_ne⟩
  · intro j hj
    have := (Hrow6.out.lt j hj).1
    have := lt_of_block Hb.out
    simp; omega
  · exact (Kp6.out.trans (kp8.mono (by simp))).mono (by simp)
end Go.Proofs.Ytolnojhepakaoaa
