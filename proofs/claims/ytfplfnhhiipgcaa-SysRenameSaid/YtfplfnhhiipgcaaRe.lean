/- Reboot: the walk. -/
import Derived.Test.YtfplfnhhiipgcaaRb
import Derived.Test.YtfplfnhhiipgcaaBegin
import Derived.Maps.RangeWalk
namespace Go.Proofs.Ytfplfnhhiipgcaa
open Go.RowKit Go.Maps Go.MuLone

/-- What a file's body is: its block, its bytes' slice, what is synced, how many have it open, whether it is written to. -/
structure Bd where
  g : Nat
  ao : Option Addr
  n : Nat
  cp : Nat
  sy : Int
  op : Int
  wr : Bool

def Bd.At (d : Bd) (w : World) : Prop := BodyAt w d.g (.slice d.ao d.n d.cp) d.sy d.op d.wr
def Bd.kept (d : Bd) (keep : Int) : Int := d.sy + min keep ((d.n : Int) - d.sy)
/-- .. behind a loss of power. -/
def Bd.back (d : Bd) (keep : Int) : Bd := { d with n := (d.kept keep).toNat, sy := d.kept keep, op := 0, wr := false }
structure Bd.Ok (d : Bd) (S : List Nat) : Prop where
  s0 : 0 ≤ d.sy
  s1 : d.sy ≤ d.n
  hn : d.n ≤ d.cp
  hc : d.cp ≤ 9223372036854775807
  hS : d.g ∈ S

theorem ranges_keeps {S : List Nat} {w w' : World} {b r n cnt : Nat} {D : DataW Value} {left : Lit → Bool} (h : w.ranges Try.prog 9 heldR b r n D left cnt) (hk : Keeps S w w') (hb : b ∉ S) (hr : r ∉ S) : w'.ranges Try.prog 9 heldR b r n D left cnt := by
  obtain ⟨es, clock, since, seen, c0, h1, h2, h3, h4, h5, h6⟩ := h
  exact ⟨es, clock, since, seen, c0, (hk.block b (lt_of_block h1) hb).trans h1, h2, h3, h4, (hk.block r (lt_of_block h5) hr).trans h5, h6⟩

theorem inv9 (key : Value) (kl : Lit) (h : keyOf Try.prog 9 key = some kl) : ∃ x, key = Value.string x := by
  cases key <;> simp [keyOf, Try.underlying9, mapKey] at h
  exact ⟨_, rfl⟩

/-- The system as Reboot leaves it ahead of begin: u bytes are in its files. -/
def FSt.dead (s : FSt) (u : Int) : FSt := { s with life := s.life + 1, calls := 0, ops := fun _ => 0, made := 0, written := 0, opn := 0, peak := 0, used := u, most := 0, stp := false, drk := false }
def deadL (u : Int) : List Value := [.int .i64 0, .int .i64 0, .int .i64 0, .int .i64 0, .int .i64 0, .int .i64 0, .int .i64 0, .int .i64 0, .int .i64 0, .int .i64 0, .int .i64 0, .int .i64 0, .int .i64 0, .int .i64 0, .int .i64 u, .int .i64 0, .bool false, .bool false]
theorem deadL_one (u : Int) : (deadL u).toArray.all (·.oneCell') = true := by simp [deadL, Value.oneCell']
theorem dead_sets {w : World} {b : Nat} {s : FSt} {l u : Int} (h : FsAt w b l { s with life := s.life + 1 }) : FsAt (w.setCells b 13 (deadL u)) b l (s.dead u) := by
  have h1 := heap_sets (deadL u) 13 w _ h
  have e : setAll (FSt.arr l { s with life := s.life + 1 }) 13 (deadL u) = (s.dead u).arr l := by simp [setAll, deadL, FSt.arr, FSt.dead]
  rw [e] at h1
  exact h1

/-- Between two rounds of Reboot's loop: what is still to come is as it was, the rest is as it comes back. -/
def ReRel (w : World) (b mp r k : Nat) (s : FSt) (D : DataW Value) (keep : Int) (S : List Nat) (F : Lit → Bd) (T : (Lit → Bool) → Int) (u : Value) (wr : World) : Prop :=
  ∃ (left : Lit → Bool) (cnt : Nat), u = .int .i64 (T (Maps.has D) - T left) ∧ wr.ranges Try.prog 9 heldR mp r k D left cnt ∧ (∀ z, left z = true → Maps.has D z = true) ∧ (∀ z, Maps.has D z = true → left z = true → (F z).At wr) ∧
    (∀ z, Maps.has D z = true → left z = false → ((F z).back keep).At wr) ∧ FsAt wr b 1 s ∧ Keeps (b :: r :: S) w wr

set_option maxRecDepth 100000 in
set_option maxHeartbeats 1600000 in
/-- Reboot, whatever files there are. -/
theorem reboot_ok (b : Nat) (s : FSt) (k : Nat) (D : DataW Value) (keep : Int) (S : List Nat) (F : Lit → Bd) (T : (Lit → Bool) → Int) (w : World) (hb : FsAt w b 0 s) (hown : w.ownsMap Try.prog 9 heldR s.mp k D) (hne : s.mp ≠ b)
    (hF : ∀ kl, Maps.has D kl = true → (∀ zd, D.atKey kl zd = .held (.pointer (some ⟨(F kl).g, 0, none⟩))) ∧ (F kl).At w ∧ (F kl).Ok S)
    (hdist : ∀ k1 k2, Maps.has D k1 = true → Maps.has D k2 = true → (F k1).g = (F k2).g → k1.sameKey k2 = true)
    (hsame : ∀ z kl, Maps.has D z = true → Maps.has D kl = true → z.sameKey kl = true → z = kl) (hSl : ∀ g ∈ S, g < w.heap.size)
    (l0 : 0 ≤ s.life) (l1 : s.life < 4611686018427387904)
    (hSb : b ∉ S) (hSm : s.mp ∉ S) (k0 : 0 ≤ keep) (k1 : keep ≤ 9223372036854775807)
    (hT0 : ∀ left : Lit → Bool, (∀ kl, left kl = false) → T left = 0) (hT1 : ∀ (left : Lit → Bool) kl, left kl = true → Maps.has D kl = true → T left = T (fun z => left z && !z.sameKey kl) + (F kl).kept keep)
    (hTb : ∀ left, 0 ≤ T left ∧ T left ≤ 4611686018427387904) :
    Calls Try.prog 23 #[.pointer (some ⟨b, 0, none⟩), .int .i64 keep] w fun e w' => ∃ sh' d, e = .returned (.int .i64 0) ∧
      FsAt w' b 0 ((s.dead (T (Maps.has D))).begun 0 0 0 0 0 sh' d) ∧ ShortAt w' sh' b ∧ (∀ z, Maps.has D z = true → ((F z).back keep).At w') ∧ w'.ownsMap Try.prog 9 heldR s.mp k D ∧ Keeps (b :: S) w w' := by
  have z0 : w.cell? ⟨b, 0, none⟩ = some (.int .i32 0) := by rw [hb.cell]; rfl
  have f0 := hb.free 0
  have Hb := Lib.hid hb

  have Hown := Lib.hid hown
  have HF := Lib.hid hF
  have Hdist := Lib.hid hdist
  have Hsame := Lib.hid hsame
  have HT0 := Lib.hid hT0
  have HT1 := Lib.hid hT1
  have HTb := Lib.hid hTb
  clear hb hown hF hdist hsame hT0 hT1 hTb
  go_enter_defers Try.func23, Try.ntmps23
  go_wp2_with fail
  refine (lock_free Try.muLib ⟨b, 0, none⟩ _ z0 f0).mono ?_
  rintro e w1 ⟨rfl, hw1⟩
  have hb1 : FsAt w1 b 1 s := by rw [hw1]; exact Hb.out.set 0 _ rfl
  have kp1 : Keeps [b] w w1 := by rw [hw1]; exact (Keeps.refl _ _).setCell (by simp) _
  clear z0 f0 hw1
  have hown1 := ownsMap_keeps Hown.out kp1 (by simpa using hne)
  have g12 : w1.cell? ⟨b, 12, none⟩ = some (.map (some s.mp)) := by rw [hb1.cell]; rfl
  have Hb1 := Lib.hid hb1
  have Kp1 := Lib.hid kp1
  have Hown1 := Lib.hid hown1
  clear hb1 kp1 hown1
  go_wp2_with (at_range; go_must (refine wpList_range_own _ rfl _ 91 rfl 9 97 law9 Try.underlying91 heldR s.mp k D rfl Hown1.out ?_; intro w2 hrg2 hgr2 hsz2))
  have hmw : s.mp < w.heap.size := Hown.out.lt
  have hbw : b < w.heap.size := lt_of_block Hb.out
  have hr1 := Kp1.out.size
  have Hr1 := Lib.hid hr1
  generalize hrd : w1.heap.size = r at *
  have kp12 : Keeps [] w1 w2 := ⟨hgr2.os, hgr2.tape, hgr2.output, hgr2.size, fun i hi _ => hgr2.block i hi (by simp)⟩
  have hb2 : FsAt w2 b 1 s := Hb1.out.keeps kp12 (by simp)
  have kp2 : Keeps [b] w w2 := Kp1.out.trans (kp12.mono (by simp))
  have Hrel : ReRel w b s.mp r k s D keep S F T (.int .i64 0) w2 := by
    refine ⟨Maps.has D, Maps.size D, by simp, hrg2, fun _ h => h, fun z hz _ => ?_, fun z hz h => (by rw [hz] at h; cases h), hb2, kp2.mono (by simp)⟩
    obtain ⟨_, h1, h2⟩ := HF.out z hz
    exact BodyAt.keeps h1 kp2 (by simp; intro e; exact hSb (e ▸ h2.hS))
  have hrS : r ∉ S := fun h => by have := hSl r h; have := Hr1.out; omega
  have hrb : r ≠ b := by have := Hr1.out; omega
  have hrm : r ≠ s.mp := by have := Hr1.out; omega
  clear hrg2 hgr2 hsz2 kp12 hb2 kp2 hr1 g12
  go_frame
  go_loopw [5] (fun u wr => ReRel w b s.mp r k s D keep S F T u wr) (fun _ wr => wr.rangeLeft s.mp r)
  case atStart => exact Hrel
  case round =>
    obtain ⟨left, cnt, rfl, hrg, hlh, hA, hB, hb3, kp3⟩ := hrel
    clear Hrel
    have Hrg := Lib.hid hrg
    have Hlh := Lib.hid hlh
    have HA := Lib.hid hA
    have HB := Lib.hid hB
    have Hb3 := Lib.hid hb3
    have Kp3 := Lib.hid kp3
    clear hrg hlh hA hB hb3 kp3
    go_wp2_with (at_next; go_must (refine wpList_next_ranges _ rfl _ rfl 9 law9 heldR Value.string (fun v : Value => v) inv9 (fun v _ _ => ⟨v, rfl⟩) s.mp r k D left cnt rfl Hrg.out ?_ ?_))
    · intro _ hl0
      have eT := HT0.out left hl0
      rw [eT, Int.sub_zero]
      have g32 : wr.cell? ⟨b, 32, none⟩ = some (.int .i64 s.life) := by rw [Hb3.out.cell]; rfl
      have f32 := Hb3.out.free 32
      have hown3 : wr.ownsMap Try.prog 9 heldR s.mp k D := Hrg.out.owns
      have hback : ∀ z, Maps.has D z = true → ((F z).back keep).At wr := fun z hz => HB.out z hz (hl0 z)
      have Hown3 := Lib.hid hown3
      have Hback := Lib.hid hback
      have hb4 : FsAt (wr.setCell ⟨b, 32, none⟩ (.int .i64 (s.life + 1))) b 1 { s with life := s.life + 1 } := Hb3.out.set 32 _ rfl
      have ht4 := stats_there hb4
      have Hb4 := Lib.hid hb4
      clear hown3 hback eT hb4
      go_wp2_with (guard_target =~ wpList _ _ _ (⟨none, Op.store 47 _ _, _, _, _, _⟩ :: _) _ _; go_must (refine wpList_store_mid rfl 47 _ _ rfl b 13 (deadL (T (Maps.has D))).toArray rfl rfl ht4 info47 (deadL_one _) ?_; rw [List.toList_toArray]))
      clear g32 f32 ht4
      have hb5 := dead_sets (u := T (Maps.has D)) Hb4.out
      have kp5 : Keeps [b] wr ((wr.setCell ⟨b, 32, none⟩ (.int .i64 (s.life + 1))).setCells b 13 (deadL (T (Maps.has D)))) := keeps_sets (by simp) _ _ _ ((Keeps.refl [b] wr).setCell (by simp) _)
      refine (begin_ok b 1 _ 0 0 0 0 0 _ _ hb5 (.inl ⟨none, 0, rfl⟩)).mono ?_
      rintro e w6 ⟨sh', d, rfl, hb6, hs6, kp6⟩
      have kp36 := kp5.trans kp6
      have Hb6 := Lib.hid hb6
      have Hs6 := Lib.hid hs6
      have Kp36 := Lib.hid kp36
      clear hb5 kp5 hb6 hs6 kp6 kp36
      go_wp2_with fail
      refine leaves_cons (f := 42) (args := #[.pointer (some ⟨b, 0, none⟩)]) (by simp) (by simp [go_sem]) ?_
      refine (unlock_deferred Try.muLib ⟨b, 0, none⟩ .returning _ ?_ ?_).mono ?_
      · rw [Hb6.out.cell]; rfl
      · exact Hb6.out.free 0
      rintro e u' w'' ⟨rfl, rfl, rfl⟩
      have kp7 : Keeps [b] w6 (w6.setCell ⟨b, 0, none⟩ (.int .i32 0)) := (Keeps.refl _ _).setCell (by simp) _
      have kp37 := Kp36.out.trans kp7
      refine ⟨_, results_tmp rfl _ _ _, sh', d, rfl, Hb6.out.set 0 _ rfl, ?_, ?_, ownsMap_keeps Hown3.out kp37 (by simpa using hne), ?_⟩
      · exact Hs6.out.keeps kp7 (fun so3 sb3 sn3 sc3 e h0 => by
          rcases Hs6.out with ⟨so2, sc2, h'⟩ | ⟨sb2, so2, sn2, sc2, z, h', _, _, h2, _⟩
          · rw [h'] at e; simp at e; omega
          · rw [h'] at e; simp at e; simp; omega)
      · intro z hz
        have hzS := (HF.out z hz).2.2.hS
        exact BodyAt.keeps (Hback.out z hz) kp37 (by simp; exact fun e => hSb (e ▸ hzS))
      · have hr := Hr1.out
        exact (Kp3.out.trans (kp37.mono (T := b :: r :: S) (by simp))).drop (fun j hj => by simp at hj ⊢; rcases hj with e | e | e <;> first | (subst e; simp; done) | exact .inl (.inr e) | (right; omega))
    · intro x c kl ya yb w4 cnt4 _ hl hv hat hrg4 hlt4 hgr4 _ hen
      have hkl := Hlh.out kl hl
      obtain ⟨hat2, _, hok⟩ := HF.out kl hkl
      have hc : c = .pointer (some ⟨(F kl).g, 0, none⟩) := by
        have h1 := hat2 (.held (.pointer none))
        rw [hat] at h1
        simp only [heldR, Option.some.injEq, Prod.mk.injEq] at hv
        rw [← hv.1] at h1
        exact DataW.held.inj h1
      subst hc
      have kp4 : Keeps [r] wr w4 := (Keeps.refl _ wr).grown hgr4 (fun j hj => .inl (by cases hj; simp))
      have hgS := hok.hS
      have hgr : (F kl).g ≠ r := fun e => hrS (e ▸ hgS)
      have hgb : (F kl).g ≠ b := fun e => hSb (e ▸ hgS)
      have hgm : (F kl).g ≠ s.mp := fun e => hSm (e ▸ hgS)
      have hA4 : (F kl).At w4 := BodyAt.keeps (HA.out kl hkl hl) kp4 (by simpa using hgr)
      have Hrg4 := Lib.hid hrg4
      have Hok := Lib.hid hok
      have Kp4 := Lib.hid kp4
      have HA4 := Lib.hid hA4
      clear hrg4 hok kp4 hA4 hat hat2 hv hgr4
      go_wp2_with fail
      refine (bodyReboot_ok (F kl).g (F kl).ao (F kl).n (F kl).cp (F kl).sy (F kl).op keep (F kl).wr w4 HA4.out k0 k1 Hok.out.s0 Hok.out.s1 Hok.out.hn Hok.out.hc).mono ?_
      rintro e w5 ⟨rfl, hB5, kp5⟩
      have c05 := (body_facts hB5).1
      have HB5 := Lib.hid hB5
      have Kp5 := Lib.hid kp5
      clear hB5 kp5
      go_wp2_with fail
      have hs0 := Hok.out.s0
      have hs1 := Hok.out.s1
      have ek : max ((F kl).sy + min keep (((F kl).n : Int) - (F kl).sy)) 0 = (F kl).kept keep := by unfold Bd.kept; omega
      have eT := HT1.out left kl hl hkl
      have b1 := HTb.out (Maps.has D)
      have b2 := HTb.out left
      have b3 := HTb.out (fun z => left z && !z.sameKey kl)
      have ekk : 0 ≤ (F kl).kept keep := by unfold Bd.kept; omega
      have kp45 : Keeps [r, (F kl).g] wr w5 := (Kp4.out.mono (by simp)).trans (Kp5.out.mono (by simp))
      have hrg5 := ranges_keeps Hrg4.out Kp5.out (by simpa using hgm.symm) (by simpa using hgr.symm)
      refine ⟨⟨fun z => left z && !z.sameKey kl, cnt4, ?_, hrg5, ?_, ?_, ?_, Hb3.out.keeps kp45 (by simp; exact ⟨hrb.symm, hgb.symm⟩), ?_⟩, ?_⟩
      · rw [ek]; unfold wrap64; congr 1; omega
      · intro z hz
        simp at hz
        exact Hlh.out z hz.1
      · intro z hz hlz
        simp at hlz
        have hgz : (F z).g ≠ (F kl).g := fun e => by have h2 := Hdist.out z kl hz hkl e; rw [h2] at hlz; simp at hlz
        have hzS := (HF.out z hz).2.2.hS
        exact BodyAt.keeps (HA.out z hz hlz.1) kp45 (by simp; exact ⟨fun e => hrS (e ▸ hzS), hgz⟩)
      · intro z hz hlz
        by_cases hzk : z.sameKey kl = true
        · have e := Hsame.out z kl hz hkl hzk
          rw [e]; exact HB5.out
        · simp at hlz
          have hl0 : left z = false := by
            cases hlz0 : left z with
            | false => rfl
            | true => exact absurd (hlz hlz0) hzk
          have hgz : (F z).g ≠ (F kl).g := fun e => hzk (Hdist.out z kl hz hkl e)
          have hzS := (HF.out z hz).2.2.hS
          exact BodyAt.keeps (HB.out z hz hl0) kp45 (by simp; exact ⟨fun e => hrS (e ▸ hzS), hgz⟩)
      · exact Kp3.out.trans (kp45.mono (fun j hj => by simp at hj ⊢; rcases hj with e | e <;> subst e <;> simp [hgS]))
      · rw [hrg5.left_eq, Hrg.out.left_eq]; exact hlt4
end Go.Proofs.Ytfplfnhhiipgcaa
