/- Put of a nil slice under a new name: the walk; what a map of two names says. -/
import Derived.Test.YtfplfnhhiipgcaaDk
namespace Go.Proofs.Ytfplfnhhiipgcaa
open Go.RowKit Go.Maps Go.MuLone Go.ChangeMaps

set_option maxRecDepth 100000 in
set_option maxHeartbeats 1600000 in
/-- Put, under a name that isn't there, of no bytes: a nil slice. -/
theorem put_nil (b : Nat) (s : FSt) (k : Nat) (D : DataW Value) (nm : ByteArray) (c : Nat) (w : World) (hb : FsAt w b 0 s) (hn : Nam nm) (hown : w.ownsMap Try.prog 9 heldR s.mp k D) (hne : s.mp ≠ b)
    (hat : D.atKey (key nm) (.held (.pointer none)) = .held (.pointer none)) (hk : (k : Int) < s.mf) (hs : Maps.size D = k) (hkN : k < 4611686018427387904)
    (hroom : 0 ≤ s.mb - s.used) (u0 : 0 ≤ s.used) (b1 : s.mb ≤ 67108864) :
    Calls Try.prog 20 #[.pointer (some ⟨b, 0, none⟩), .string nm, .slice none 0 c] w fun e w' => ∃ g : Nat, e = .returned (.int .i64 0) ∧
      FsAt w' b 0 (s.grown 0) ∧ BodyAt w' g (.slice none 0 0) 0 0 false ∧ w'.ownsMap Try.prog 9 heldR s.mp (k + 1) (D.put (key nm) (.held (.pointer (some ⟨g, 0, none⟩)))) ∧ Keeps [b, s.mp] w w' ∧ w.heap.size ≤ g := by
  have hkey := key_of hn
  have z0 : w.cell? ⟨b, 0, none⟩ = some (.int .i32 0) := by rw [hb.cell]; rfl
  have f0 := hb.free 0
  have Hat := Lib.hid hat
  have Hown := Lib.hid hown
  have Hkey := Lib.hid hkey
  have Hn := Lib.hid hn
  have Hb := Lib.hid hb
  have Hs := Lib.hid hs
  clear hat hown hkey hb hn hs
  go_enter_defers Try.func20, Try.ntmps20
  go_wp2_with fail
  refine (lock_free Try.muLib ⟨b, 0, none⟩ _ z0 f0).mono ?_
  rintro e w1 ⟨rfl, hw1⟩
  have hb1 : FsAt w1 b 1 s := by rw [hw1]; exact Hb.out.set 0 _ rfl
  have kp1 : Keeps [b] w w1 := by rw [hw1]; exact (Keeps.refl _ _).setCell (by simp) _
  clear z0 f0
  have Hw1 := Lib.hid hw1
  clear hw1
  have hown1 := ownsMap_keeps Hown.out kp1 (by simpa using hne)
  have g12 : w1.cell? ⟨b, 12, none⟩ = some (.map (some s.mp)) := by rw [hb1.cell]; rfl
  have g3 : w1.cell? ⟨b, 3, none⟩ = some (.int .i64 s.mf) := by rw [hb1.cell]; rfl
  have hl : ∀ q : Nat, (Builtin.len_ #[91] 3 #[.map (some s.mp)]).run Try.prog (w1.drewN q) = .ok (.int .i64 k) (w1.drewN q) := fun q => by
    have h := (ownsMap_keeps hown1 ((Keeps.refl [] w1).drewN q) (by simp)).len Try.underlying91 3
    rw [Hs.out] at h; exact h
  have t1 : decide (s.mf ≤ (k : Int)) = false := by rw [decide_eq_false_iff_not]; omega
  have Hb1 := Lib.hid hb1
  have Kp1 := Lib.hid kp1
  have Hown1 := Lib.hid hown1
  clear hb1 kp1 hown1
  go_wp2_with fail
  refine (nameHolds_ok _ _ Hn.out).mono ?_
  rintro e w' ⟨rfl, rfl⟩
  go_wp2_with (at_lookup; go_must (refine wpList_lookup_held _ rfl _ _ 91 rfl 9 97 law9 Try.underlying91 (Try.zeroValue97 _) s.mp k D rfl Hown1.out _ _ rfl Hkey.out (.pointer none) Hat.out ?_))
  refine wp_goes fun J hJ => ?_
  go_quiet (fail)
  refine hJ _ _ ?_
  clear hJ
  generalize hw2 : w1.drewN _ = w2 at *
  have hb2 := Hb1.out.ofDrewN hw2
  have kp2 := Kp1.out.ofDrewN hw2
  have kp12 := (Keeps.refl [] w1).ofDrewN hw2
  clear g12 g3 hl t1 hw2
  have g2 : w2.cell? ⟨b, 2, none⟩ = some (.int .i64 s.mb) := by rw [hb2.cell]; rfl
  have g27 : w2.cell? ⟨b, 27, none⟩ = some (.int .i64 s.used) := by rw [hb2.cell]; rfl
  have t2 : decide (s.mb - s.used + 0 < 0) = false := by rw [decide_eq_false_iff_not]; omega
  have t2' : decide (s.mb - s.used < 0) = false := by rw [decide_eq_false_iff_not]; omega
  have Hb2 := Lib.hid hb2
  have Kp2 := Lib.hid kp2
  have Kp12 := Lib.hid kp12
  clear hb2 kp2 kp12
  go_wp2_with fail
  refine wp_goes fun J hJ => ?_
  go_quiet (fail)
  refine hJ _ _ ?_
  clear hJ g2 g27 t2 t2'
  generalize hw3 : w2.drewN _ = w3 at *
  have hb3 := Hb2.out.ofDrewN hw3
  have kp3 := Kp2.out.ofDrewN hw3
  have kp13 := Kp12.out.ofDrewN hw3
  have g12 : w3.cell? ⟨b, 12, none⟩ = some (.map (some s.mp)) := by rw [hb3.cell]; rfl
  have hown3 := ownsMap_keeps Hown1.out kp13 (by simp)
  have Hb3 := Lib.hid hb3
  have Kp3 := Lib.hid kp3
  have Hown3 := Lib.hid hown3
  clear hw3 hb3 kp3 kp13 hown3
  go_wp2_with fail
  refine wp_goes fun J hJ => ?_
  have hblt : b < w3.drew.heap.size := lt_of_block Hb3.out
  have Hblt := Lib.hid hblt
  clear hblt
  go_region_held_law (fun w' => w'.cell? ⟨b, 12, none⟩ = some (.map (some s.mp))) (first | exact g12 | exact g12a | exact g12b | exact g12c) ((go_simp; go_at_call 50; refine (Try.bytes_Clone_nil 0 c w3.drew).mono ?_; rintro e w5 ⟨rfl, rfl⟩; have hbel : Below w3.drew.heap.size w3.drew w3.drew := Below.refl _ _; obtain ⟨w6, hown5, hrun6, hown6, hgrow6, g12a, g12b, g12c⟩ := put_map w3.drew w3.drew b s.mp k D nm none 0 0 Hkey.out Hown3.out.drew hkN hne Hblt.out hbel g12; have hrun6' : (Instr.mapUpdate 91 (.map (some s.mp)) (.string nm) (.pointer (some ⟨w3.heap.size, 0, none⟩))).run Try.prog (w3.alloc (.cells #[.slice none 0 0, .int .i64 0, .int .i64 0, .bool false] 99)).drew = .ok () w6 := hrun6; dsimp only))
  refine hJ _ _ ?_
  clear hJ g12 g12a g12b g12c hrun6 hrun6'
  have hb5 : FsAt w3.drew b 1 s := Hb3.out
  have kp5 : Keeps [b] w w3.drew := Kp3.out.drew
  have hmp5 : s.mp < w3.drew.heap.size := hown5.lt
  obtain ⟨hb6, hg6, kp6, hlt6⟩ := after_put hb5 kp5 hgrow6 hne hmp5
  have hbz : w.heap.size ≤ w3.drew.heap.size := kp5.size
  generalize w3.drew.heap.size = g at *
  have Hb6 := Lib.hid hb6
  have hg6' : BodyAt w6 g (.slice none 0 0) 0 0 false := hg6
  have hlg6 := lt_of_block hg6
  have hmp6 := hown6.lt
  have hb6lt := lt_of_block hb6
  have Hg6 := Lib.hid hg6'
  have Kp6 := Lib.hid kp6
  have Hown6 := Lib.hid hown6
  clear hb6 hg6 hg6' kp6 hown6 hbel hgrow6 hown5 hb5 kp5
  go_wp2_with fail
  refine (grow_ok b 1 0 s _ Hb6.out (by omega) (by omega)).mono ?_
  rintro e w7 ⟨rfl, hb7, kp7⟩
  have Hb7 := Lib.hid hb7
  have Kp7 := Lib.hid kp7
  clear hb7 kp7
  go_wp2_with fail
  refine leaves_cons (f := 42) (args := #[.pointer (some ⟨b, 0, none⟩)]) (by simp) (by simp [go_sem]) ?_
  refine (unlock_deferred Try.muLib ⟨b, 0, none⟩ .returning _ ?_ ?_).mono ?_
  · rw [Hb7.out.cell]; rfl
  · exact Hb7.out.free 0
  rintro e u' w'' ⟨rfl, rfl, rfl⟩
  have kp8 : Keeps [b] w6 (w7.setCell ⟨b, 0, none⟩ (.int .i32 0)) := Kp7.out.setCell (by simp) _
  have hgb : g ≠ b := fun e => by have := lt_of_block Hb.out; omega
  exact ⟨_, results_tmp rfl _ _ _, g, rfl, Hb7.out.set 0 _ rfl, Hg6.out.keeps kp8 (by simpa using hgb), ownsMap_keeps Hown6.out kp8 (by simpa using hne), (Kp6.out.trans (kp8.mono (by simp))).mono (by simp), hbz⟩

/-- The number of a map that is owned is a bound: any bound that holds does. -/
theorem ownsMap_bound {P : Program} {k : TypeId} {R : Value → Option (DataW Value × List MemPlace)} {w : World} {b n m : Nat} {D : DataW Value} (h : w.ownsMap P k R b n D) (hm : Maps.size D ≤ m) : w.ownsMap P k R b m D := by
  obtain ⟨es, clock, h1, F, _, rfl⟩ := h
  refine ⟨es, clock, h1, F, ?_, rfl⟩
  have e : Maps.size (DataW.map ((es.toList.map (WideElems.rg P k R)).foldr DataW.insert [])) = es.size := by
    rw [Maps.size_eq, length_sorted]; simp
  omega

/-- The names 'target' and 'target.new'. -/
def target : ByteArray := ⟨#[116, 97, 114, 103, 101, 116]⟩
def fresh : ByteArray := ⟨#[116, 97, 114, 103, 101, 116, 46, 110, 101, 119]⟩
theorem target_nam : Nam target := ⟨by decide, by decide, by decide⟩
theorem fresh_nam : Nam fresh := ⟨by decide, by decide, by decide⟩

def ptrD (g : Nat) : DataW Value := .held (.pointer (some ⟨g, 0, none⟩))
theorem files_one (g : Nat) : (DataW.map []).put (key target) (ptrD g) = .map [(key target, ptrD g)] := by rfl
theorem files_two (g h : Nat) : ((DataW.map []).put (key target) (ptrD g)).put (key fresh) (ptrD h) = .map [(key target, ptrD g), (key fresh, ptrD h)] := by rfl
theorem files_swapped (g h : Nat) : ((DataW.map [(key target, ptrD g), (key fresh, ptrD h)]).del (key fresh)).put (key target) (ptrD h) = .map [(key target, ptrD h)] := by rfl
theorem same_str {s : List UInt8} {z : Lit} (h : (Lit.string s).sameKey z = true) : z = .string s := by
  cases z <;> simp [Lit.sameKey] at h
  rw [h]
theorem has_one {nm : ByteArray} {d : DataW Value} {z : Lit} (h : Maps.has (.map [(key nm, d)]) z = true) : z = key nm := by
  simp [Maps.has] at h
  exact same_str h
theorem has_two {n1 n2 : ByteArray} {d1 d2 : DataW Value} {z : Lit} (h : Maps.has (.map [(key n1, d1), (key n2, d2)]) z = true) : z = key n1 ∨ z = key n2 := by
  simp [Maps.has] at h
  rcases h with h | h
  · exact .inl (same_str h)
  · exact .inr (same_str h)
theorem target_ne : (fresh.toList == target.toList) = false := by kernel_rfl
theorem keys_ne : key target ≠ key fresh := by simp [key, target, fresh]
end Go.Proofs.Ytfplfnhhiipgcaa
