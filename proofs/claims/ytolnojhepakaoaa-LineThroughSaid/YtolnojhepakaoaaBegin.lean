/- begin: the counts begin anew under a plan: the walk. -/
import Derived.Test.YtolnojhepakaoaaPlan
import Derived.Test.YtolnojhepakaoaaStats
import Derived.Test.YtolnojhepakaoaaRead
import Derived.StillTailTactics
import Derived.Laws.EntriesVeiled
namespace Go.Proofs.Ytolnojhepakaoaa
open Go.RowKit Go.Maps Go.MuLone

/-- slices.Clone of a list of short reads: the copy may be read as it was, and lies in new memory. -/
theorem clone_short (sh : Value) (w : World) (hs : ShortOk w sh) :
    Calls Try.prog 71 #[sh] w fun e w' => ∃ so sn sc, e = .returned (.slice so sn sc) ∧ ShortOk w' (.slice so sn sc) ∧ (∀ a, so = some a → w.heap.size ≤ a.block) ∧ Keeps [] w w' := by
  have hK : ∀ {w w' : World}, Below w.heap.size w w' → Keeps [] w w' := fun hbel => ⟨hbel.os, hbel.tape, hbel.output, hbel.size, fun k hk _ => hbel.block k hk⟩
  rcases hs with ⟨so, sc, rfl⟩ | ⟨sb, so, sn, sc, z, rfl, h0, h1, h2⟩
  · cases so with
    | none =>
      refine (Try.slices_Clone_int_nil 0 sc w).mono ?_
      rintro e w' ⟨rfl, rfl⟩
      exact ⟨none, 0, 0, rfl, .inl ⟨_, _, rfl⟩, (fun a h => by cases h), Keeps.refl _ _⟩
    | some a =>
      refine (Try.slices_Clone_int_zero a sc w).mono ?_
      rintro e w' ⟨v', rfl, hown, hne, hbel⟩
      rcases hown.2 with ⟨rfl, _⟩ | ⟨g, cap, cur, rfl, hg, _⟩
      · exact absurd rfl hne
      · exact ⟨_, 0, cap, rfl, .inl ⟨_, _, rfl⟩, (fun a h => by cases h; exact hg), hK hbel⟩
  · have hzs : ((List.range sn).map z).length = sn := by simp
    have hget : ∀ j, j < sn → ((List.range sn).map z).getD j 0 = z j := fun j hj => by simp [List.getD, hj]
    refine (Try.slices_Clone_int sb so sn sc ((List.range sn).map z) w (by omega) (by omega) (fun j hj => by rw [hget j (by omega)]; exact (h2 j (by omega)).1)).mono ?_
    rintro e w' ⟨v', rfl, hown, hne, hbel⟩
    have hlen := hown.1
    rcases hown.2 with ⟨rfl, h⟩ | ⟨g, cap, cur, rfl, hg, hgg, _, _, _, htake⟩
    · omega
    · refine ⟨_, sn, cap, rfl, .inr ⟨g, 0, sn, cap, z, rfl, h0, h1, fun j hj => ⟨?_, (h2 j hj).2⟩⟩, (fun a h => by cases h; exact hg), hK hbel⟩
      have := hown.cells (g := g) rfl j (.int .i64 (z j)) (by rw [List.take_of_length_le (by omega)]; simp [hj])
      rw [Addr.add_mid] at this
      exact this

set_option maxHeartbeats 400000 in
theorem clone_fault (w : World) : Calls Try.prog 72 #[.slice none 0 0] w fun e w' => e = .returned (.slice none 0 0) ∧ w = w' := by
  have q : ∀ w : World, (binOp .eql 57 (.slice none 0 0) (.slice none 0 0)).run Try.prog w = .ok (.bool true) w := fun w => by kernel_rfl
  go_enter Try.func72, Try.ntmps72
  go_wp2_with fail
  go_ret
  exact ⟨rfl, rfl⟩

theorem ShortAt.ok {w : World} {sh : Value} {b : Nat} (h : ShortAt w sh b) : ShortOk w sh := by
  rcases h with h | ⟨sb, so, sn, sc, z, rfl, h0, h1, _, h3⟩
  · exact .inl h
  · exact .inr ⟨sb, so, sn, sc, z, rfl, h0, h1, h3⟩
theorem ShortOk.at {w : World} {so : Option Addr} {sn sc b : Nat} (h : ShortOk w (.slice so sn sc)) (hb : ∀ a, so = some a → b ≠ a.block) : ShortAt w (.slice so sn sc) b := by
  rcases h with h | ⟨sb, so', sn', sc', z, e, h0, h1, h3⟩
  · exact .inl h
  · simp only [Value.slice.injEq] at e
    obtain ⟨rfl, rfl, rfl⟩ := e
    exact .inr ⟨sb, so', sn, sc, z, rfl, h0, h1, fun e => hb _ rfl e.symm, h3⟩

/-- What begin makes of the system's block. -/
def FSt.begun (s : FSt) (mb mf mh pi pp : Int) (sh d : Value) : FSt := { s with pc := mb, pf := mf, ph := mh, sh := sh, fa := .slice none 0 0, pi := pi, pp := pp, calls := 0, ops := fun _ => 0, made := 0, written := 0, peak := s.opn, most := s.used, stp := false, drk := false, done := d }

/-- What Stats tells when the counts begin. -/
def FSt.freshL (s : FSt) : List Value := [.int .i64 0, .int .i64 0, .int .i64 0, .int .i64 0, .int .i64 0, .int .i64 0, .int .i64 0, .int .i64 0, .int .i64 0, .int .i64 0, .int .i64 0, .int .i64 0, .int .i64 s.opn, .int .i64 s.opn, .int .i64 s.used, .int .i64 s.used, .bool false, .bool false]
theorem freshL_one (s : FSt) : s.freshL.toArray.all (·.oneCell') = true := by simp [FSt.freshL, Value.oneCell']
theorem stats_there {w : World} {b : Nat} {l : Int} {s : FSt} (h : FsAt w b l s) : w.there b 13 18 := by
  intro j hj
  have hl : j < 18 := hj
  refine ⟨?_, h.free _⟩
  rw [h.cell]
  have hs : (s.arr l).size = 33 := rfl
  rw [Array.getElem?_eq_getElem (by omega)]
  rfl
def setAll : Array Value → Nat → List Value → Array Value
  | c, _, [] => c
  | c, o, v :: r => setAll (c.setIfInBounds o v) (o + 1) r
theorem heap_sets {b : Nat} {T : TypeId} {f : Nat × Nat} : ∀ (vs : List Value) (o : Nat) (w : World) (c : Array Value), w.heap[b]? = some (.cells c T f) → (w.setCells b o vs).heap[b]? = some (.cells (setAll c o vs) T f)
  | [], _, _, _, h => h
  | v :: r, o, w, _, h => heap_sets r (o + 1) (w.setCell ⟨b, o, none⟩ v) _ (heap_set h v)
theorem keeps_sets {S : List Nat} {b : Nat} (hb : b ∈ S) {a : World} : ∀ (vs : List Value) (o : Nat) (w : World), Keeps S a w → Keeps S a (w.setCells b o vs)
  | [], _, _, h => h
  | v :: r, o, _, h => keeps_sets hb r (o + 1) _ (h.setCell hb v)

theorem begun_arr (s : FSt) (l mb mf mh pi pp : Int) (sh : Value) : setAll (FSt.arr l { s with pc := mb, pf := mf, ph := mh, sh := sh, fa := .slice none 0 0, pi := pi, pp := pp }) 13 s.freshL = (s.begun mb mf mh pi pp sh s.done).arr l := by
  simp [setAll, FSt.freshL, FSt.arr, FSt.begun]
theorem begun_sets {w : World} {b : Nat} {s : FSt} {l mb mf mh pi pp : Int} {sh : Value} (h : FsAt w b l { s with pc := mb, pf := mf, ph := mh, sh := sh, fa := .slice none 0 0, pi := pi, pp := pp }) : FsAt (w.setCells b 13 s.freshL) b l (s.begun mb mf mh pi pp sh s.done) := by
  have h1 := heap_sets s.freshL 13 w _ h
  rw [begun_arr] at h1
  exact h1

set_option maxRecDepth 100000 in
set_option maxHeartbeats 1600000 in
theorem begin_ok (b : Nat) (l : Int) (s : FSt) (mb mf mh pi pp : Int) (sh : Value) (w : World) (hb : FsAt w b l s) (hs : ShortAt w sh b) :
    Calls Try.prog 55 #[.pointer (some ⟨b, 0, none⟩), .agg #[.int .i64 mb, .int .i64 mf, .int .i64 mh, sh, .slice none 0 0, .int .i64 pi, .int .i64 pp]] w fun e w' => ∃ sh' d, e = .returned (.tuple #[]) ∧
      FsAt w' b l (s.begun mb mf mh pi pp sh' d) ∧ ShortAt w' sh' b ∧ Keeps [b] w w' := by
  obtain ⟨so, sn, sc, rfl, hn⟩ := hs.ok.slice
  have f5 := hb.free 5
  have f6 := hb.free 6
  have f7 := hb.free 7
  have f8 := hb.free 8
  have f9 := hb.free 9
  have f10 := hb.free 10
  have f11 := hb.free 11
  have g5 : w.cell? ⟨b, 5, none⟩ = some (.int .i64 s.pc) := by rw [hb.cell]; rfl
  have g6 : w.cell? ⟨b, 6, none⟩ = some (.int .i64 s.pf) := by rw [hb.cell]; rfl
  have g7 : w.cell? ⟨b, 7, none⟩ = some (.int .i64 s.ph) := by rw [hb.cell]; rfl
  have g8 : w.cell? ⟨b, 8, none⟩ = some s.sh := by rw [hb.cell]; rfl
  have g9 : w.cell? ⟨b, 9, none⟩ = some s.fa := by rw [hb.cell]; rfl
  have g10 : w.cell? ⟨b, 10, none⟩ = some (.int .i64 s.pi) := by rw [hb.cell]; rfl
  have g11 : w.cell? ⟨b, 11, none⟩ = some (.int .i64 s.pp) := by rw [hb.cell]; rfl
  have hlt := lt_of_block hb
  have d1 : ¬ (w.heap.size = b) := by omega
  have d2 : ¬ (b = w.heap.size) := by omega
  have Hs := Lib.hid hs
  have Hb := Lib.hid hb
  clear hs hb
  have hmk : ∀ w : World, (Instr.makeChan 91 (.int .i64 0)).run Try.prog w = .ok (.chan (some w.heap.size)) (w.alloc (.chan 0 #[] false 0 0 false)) := fun _ => by kernel_rfl
  go_enter Try.func55, Try.ntmps55
  go_wp2_with fail
  have hb1 : FsAt ((((((((w.setCell ⟨b, 5, none⟩ (.int .i64 mb)).setCell ⟨b, 6, none⟩ (.int .i64 mf)).setCell ⟨b, 7, none⟩ (.int .i64 mh)).setCell ⟨b, 8, none⟩ (.slice so sn sc)).setCell ⟨b, 9, none⟩ (.slice none 0 0)).setCell ⟨b, 10, none⟩ (.int .i64 pi)).setCell ⟨b, 11, none⟩ (.int .i64 pp)).alloc (.cells #[.int .i64 mb, .int .i64 mf, .int .i64 mh, .slice so sn sc, .slice none 0 0, .int .i64 pi, .int .i64 pp] 59)) b l { s with pc := mb, pf := mf, ph := mh, sh := .slice so sn sc, fa := .slice none 0 0, pi := pi, pp := pp } := by
    refine FsAt.alloc ?_ _
    unfold FsAt
    rw [heap_set (heap_set (heap_set (heap_set (heap_set (heap_set (heap_set Hb.out _) _) _) _) _) _) _]
    rfl
  have kp1 : Keeps [b] w ((((((((w.setCell ⟨b, 5, none⟩ (.int .i64 mb)).setCell ⟨b, 6, none⟩ (.int .i64 mf)).setCell ⟨b, 7, none⟩ (.int .i64 mh)).setCell ⟨b, 8, none⟩ (.slice so sn sc)).setCell ⟨b, 9, none⟩ (.slice none 0 0)).setCell ⟨b, 10, none⟩ (.int .i64 pi)).setCell ⟨b, 11, none⟩ (.int .i64 pp)).alloc (.cells #[.int .i64 mb, .int .i64 mf, .int .i64 mh, .slice so sn sc, .slice none 0 0, .int .i64 pi, .int .i64 pp] 59)) :=
    ((((((((Keeps.refl [b] w).setCell (by simp) _).setCell (by simp) _).setCell (by simp) _).setCell (by simp) _).setCell (by simp) _).setCell (by simp) _).setCell (by simp) _).alloc _
  have hr1 : ((((((((w.setCell ⟨b, 5, none⟩ (.int .i64 mb)).setCell ⟨b, 6, none⟩ (.int .i64 mf)).setCell ⟨b, 7, none⟩ (.int .i64 mh)).setCell ⟨b, 8, none⟩ (.slice so sn sc)).setCell ⟨b, 9, none⟩ (.slice none 0 0)).setCell ⟨b, 10, none⟩ (.int .i64 pi)).setCell ⟨b, 11, none⟩ (.int .i64 pp)).alloc (.cells #[.int .i64 mb, .int .i64 mf, .int .i64 mh, .slice so sn sc, .slice none 0 0, .int .i64 pi, .int .i64 pp] 59)).heap[w.heap.size]? = some (.cells #[.int .i64 mb, .int .i64 mf, .int .i64 mh, .slice so sn sc, .slice none 0 0, .int .i64 pi, .int .i64 pp] 59 (0, 0)) := by
    have h := heap_alloc_new (((((((w.setCell ⟨b, 5, none⟩ (.int .i64 mb)).setCell ⟨b, 6, none⟩ (.int .i64 mf)).setCell ⟨b, 7, none⟩ (.int .i64 mh)).setCell ⟨b, 8, none⟩ (.slice so sn sc)).setCell ⟨b, 9, none⟩ (.slice none 0 0)).setCell ⟨b, 10, none⟩ (.int .i64 pi)).setCell ⟨b, 11, none⟩ (.int .i64 pp)) (.cells #[.int .i64 mb, .int .i64 mf, .int .i64 mh, .slice so sn sc, .slice none 0 0, .int .i64 pi, .int .i64 pp] 59)
    simpa [World.setCell] using h
  clear f5 f6 f7 f8 f9 f10 f11 g5 g6 g7 g8 g9 g10 g11
  generalize ((((((((w.setCell ⟨b, 5, none⟩ (.int .i64 mb)).setCell ⟨b, 6, none⟩ (.int .i64 mf)).setCell ⟨b, 7, none⟩ (.int .i64 mh)).setCell ⟨b, 8, none⟩ (.slice so sn sc)).setCell ⟨b, 9, none⟩ (.slice none 0 0)).setCell ⟨b, 10, none⟩ (.int .i64 pi)).setCell ⟨b, 11, none⟩ (.int .i64 pp)).alloc (.cells #[.int .i64 mb, .int .i64 mf, .int .i64 mh, .slice so sn sc, .slice none 0 0, .int .i64 pi, .int .i64 pp] 59)) = w1 at *
  generalize hR : w.heap.size = R at *
  have hs1 : ShortOk w1 (.slice so sn sc) := (Hs.out.keeps kp1 (fun so' sb sn' sc' e h0 => by
    rcases Hs.out with ⟨so2, sc2, h'⟩ | ⟨sb2, so2, sn2, sc2, z, h', _, _, h2, _⟩
    · rw [h'] at e; simp at e; omega
    · rw [h'] at e; simp at e; simp; omega)).ok
  refine (clone_short _ w1 hs1).mono ?_
  rintro e w2 ⟨so', sn', sc', rfl, hs2, ha2, kp2⟩
  have hb2 := hb1.keeps kp2 (by simp)
  have hr2 := (kp2.block R (lt_of_block hr1) (by simp)).trans hr1
  have hbR : b < w1.heap.size := lt_of_block hb1
  have hs2b := hs2.at (b := b) (fun a ha => by have := ha2 a ha; omega)
  have kp2 := kp1.trans (kp2.mono (T := [b]) (by simp))
  have c4 : w2.cell? ⟨R, 4, none⟩ = some (.slice none 0 0) := by rw [cell_of hr2]; rfl
  have g8 : w2.cell? ⟨b, 8, none⟩ = some (.slice so sn sc) := by rw [hb2.cell]; rfl
  have f8 := hb2.free 8
  have Hb2 := Lib.hid hb2
  have Kp2 := Lib.hid kp2
  have Hs2 := Lib.hid hs2b
  clear hb1 kp1 hr1 hs1 hs2 ha2 hb2 hr2 kp2 hs2b
  go_wp2_with fail
  refine (clone_fault _).mono ?_
  rintro e w3 ⟨rfl, rfl⟩
  have hb3 := Hb2.out.set (s' := { s with pc := mb, pf := mf, ph := mh, sh := .slice so' sn' sc', fa := .slice none 0 0, pi := pi, pp := pp }) (l' := l) 8 (.slice so' sn' sc') rfl
  have kp3 := Kp2.out.setCell (p := ⟨b, 8, none⟩) (by simp) (.slice so' sn' sc')
  have hs3 := Hs2.out.keeps ((Keeps.refl [b] w2).setCell (p := ⟨b, 8, none⟩) (by simp) (.slice so' sn' sc')) (fun so3 sb3 sn3 sc3 e h0 => by
    rcases Hs2.out with ⟨so2, sc2, h'⟩ | ⟨sb2, so2, sn2, sc2, z, h', _, _, h2, _⟩
    · rw [h'] at e; simp at e; omega
    · rw [h'] at e; simp at e; simp; omega)
  clear g8 f8 c4
  generalize w2.setCell ⟨b, 8, none⟩ (.slice so' sn' sc') = w3 at *
  have g9 : w3.cell? ⟨b, 9, none⟩ = some (.slice none 0 0) := by rw [hb3.cell]; rfl
  have f9 := hb3.free 9
  have Hb3 := Lib.hid hb3
  have Kp3 := Lib.hid kp3
  have Hs3 := Lib.hid hs3
  clear hb3 kp3 hs3
  go_wp2_with fail
  have hb4 := Hb3.out.set (s' := { s with pc := mb, pf := mf, ph := mh, sh := .slice so' sn' sc', fa := .slice none 0 0, pi := pi, pp := pp }) (l' := l) 9 (.slice none 0 0) rfl
  have kp4 := Kp3.out.setCell (p := ⟨b, 9, none⟩) (by simp) (.slice none 0 0)
  have hs4 := Hs3.out.keeps ((Keeps.refl [b] w3).setCell (p := ⟨b, 9, none⟩) (by simp) (.slice none 0 0)) (fun so3 sb3 sn3 sc3 e h0 => by
    rcases Hs3.out with ⟨so2, sc2, h'⟩ | ⟨sb2, so2, sn2, sc2, z, h', _, _, h2, _⟩
    · rw [h'] at e; simp at e; omega
    · rw [h'] at e; simp at e; simp; omega)
  clear g9 f9
  generalize w3.setCell ⟨b, 9, none⟩ (.slice none 0 0) = w4 at *
  have g25 : w4.cell? ⟨b, 25, none⟩ = some (.int .i64 s.opn) := by rw [hb4.cell]; rfl
  have g27 : w4.cell? ⟨b, 27, none⟩ = some (.int .i64 s.used) := by rw [hb4.cell]; rfl
  have Hb4 := Lib.hid hb4
  have Kp4 := Lib.hid kp4
  have Hs4 := Lib.hid hs4
  clear hb4 kp4 hs4
  go_still_tail 24, (by kernel_rfl)
  change wpList _ _ _ _ _ w4.drew
  refine wpList_store_mid rfl 71 _ _ rfl b 13 s.freshL.toArray rfl rfl (stats_there Hb4.out.drew) info47 (freshL_one s) ?_
  rw [List.toList_toArray]
  have hb5 := begun_sets Hb4.out.drew
  have kp5 : Keeps [b] w (w4.drew.setCells b 13 s.freshL) := keeps_sets (b := b) (by simp) _ _ _ Kp4.out.drew
  have hs5 := Hs4.out.keeps (keeps_sets (S := [b]) (b := b) (by simp) s.freshL 13 w4.drew (Keeps.refl [b] w4).drew) (fun so3 sb3 sn3 sc3 e h0 => by
    rcases Hs4.out with ⟨so2, sc2, h'⟩ | ⟨sb2, so2, sn2, sc2, z, h', _, _, h2, _⟩
    · rw [h'] at e; simp at e; omega
    · rw [h'] at e; simp at e; simp; omega)
  clear g25 g27
  generalize w4.drew.setCells b 13 s.freshL = w5 at *
  have g31 : w5.cell? ⟨b, 31, none⟩ = some s.done := by rw [hb5.cell]; rfl
  have f31 := hb5.free 31
  have g31a : ∀ o, (w5.alloc o).cell? ⟨b, 31, none⟩ = some s.done := fun o => by rw [(hb5.alloc o).cell]; rfl
  have f31a : ∀ o, (w5.alloc o).frozen? ⟨b, 31, none⟩ = false := fun o => (hb5.alloc o).free 31
  have Hb5 := Lib.hid hb5
  have Kp5 := Lib.hid kp5
  have Hs5 := Lib.hid hs5
  clear hb5 kp5 hs5 g31 f31
  go_wp2_with fail
  go_end0
  refine ⟨.slice so' sn' sc', .chan (some w5.heap.size), rfl, (Hb5.out.alloc _).set 31 _ rfl, ?_, (Kp5.out.alloc _).setCell (by simp) _⟩
  exact Hs5.out.keeps (((Keeps.refl [b] w5).alloc _).setCell (by simp) _) (fun so3 sb3 sn3 sc3 e h0 => by
    rcases Hs5.out with ⟨so2, sc2, h'⟩ | ⟨sb2, so2, sn2, sc2, z, h', _, _, h2, _⟩
    · rw [h'] at e; simp at e; omega
    · rw [h'] at e; simp at e; simp; omega)
end Go.Proofs.Ytolnojhepakaoaa
