/- SysRename: what its loop keeps, and what it leaves behind: plain steps over the calls. -/
import Derived.Test.YtfplfnhhiipgcaaBt
import Derived.Test.YtfplfnhhiipgcaaTapeWalks
namespace Go.Proofs.Ytfplfnhhiipgcaa
open Go.RowKit Go.Maps Go.MuLone

/-- What stays true of the system's numbers, whether the power is there or not. -/
structure Calm (s : FSt) (cut : Int) (mp : Nat) (N : Int) : Prop where
  fa : s.fa = .slice none 0 0
  pi : s.pi = 0
  pp : s.pp = cut
  mpe : s.mp = mp
  life : s.life = 0
  c0 : 0 ≤ s.calls
  c1 : s.calls ≤ N
  o0 : ∀ k, 0 ≤ s.ops k
  o1 : ∀ k, s.ops k ≤ N
  mb : s.mb = 67108864
theorem Calm.called {s : FSt} {cut N : Int} {mp : Nat} (h : Calm s cut mp N) (k : Nat) (d : Bool) : Calm (s.called k d) cut mp (N + 1) :=
  ⟨h.fa, h.pi, h.pp, h.mpe, h.life, by have := h.c0; show 0 ≤ s.calls + 1; omega, by have := h.c1; show s.calls + 1 ≤ N + 1; omega,
    fun j => by show 0 ≤ upd s.ops k (s.ops k + 1) j; unfold upd; have h1 := h.o0 k; have h2 := h.o0 j; split <;> omega,
    fun j => by show upd s.ops k (s.ops k + 1) j ≤ N + 1; unfold upd; have h1 := h.o1 k; have h2 := h.o1 j; split <;> omega, h.mb⟩

/-- The state of the loop that writes the pieces to the new file: v, its row, holds kv of them; want holds kw; n calls were made behind Open; d: the power is gone; sy, op, wt, shut: what the new file's body and its File say. -/
structure RenIn (w w2 : World) (B b mp g hh f m : Nat) (X : Nat → List Int) (L : Nat → Nat) (cut : Int) (kv kw n : Nat) (d : Bool) (sy op : Int) (wt shut : Bool) (v want : Value) (s : FSt) (wr : World) : Prop where
  fs : FsAt wr b 0 s
  calm : Calm s cut mp (1 + (n : Int))
  drk : s.drk = d
  dk : d = true → cut ≠ 0
  used : s.used = m + (tot L kv : Nat)
  w0 : 0 ≤ s.written
  w1 : s.written ≤ (tot L kv : Nat)
  opn : s.opn = op
  file : FileAt wr f b 0 fresh true true shut hh 0 0
  body : BodyAt wr hh v sy op wt
  rowV : wr.ownsRow B 5 1 v (tot L kv) ((cat X kv).map (Value.int .u8))
  rowW : wr.ownsRow B 5 1 want (tot L kw) ((cat X kw).map (Value.int .u8))
  hB : B ≤ wr.heap.size
  bB : b < B
  mB : mp < B
  gB : g < B
  fB : B ≤ f
  hhB : B ≤ hh
  fh : f ≠ hh
  vh : v.ownBlock ≠ some hh
  vf : v.ownBlock ≠ some f
  wh : want.ownBlock ≠ some hh
  wf : want.ownBlock ≠ some f
  vw : ∀ j, v.ownBlock = some j → want.ownBlock ≠ some j
  map : wr.ownsMap Try.prog 9 heldR mp 2 (.map [(key target, ptrD g), (key fresh, ptrD hh)])
  wB : w.heap.size ≤ b ∧ w.heap.size ≤ mp
  bm : mp ≠ b
  B2 : w2.heap.size = B
  old : Keeps [] w wr
  two : Keeps [b, mp] w2 wr

theorem ren_old {S : List Nat} {w wr w' : World} {b B : Nat} (h : Keeps [] w wr) (k : Keeps S wr w') (hb : w.heap.size ≤ b) (hB : b < B) (hin : ∀ j ∈ S, j = b ∨ B ≤ j) : Keeps [] w w' :=
  ((h.mono (by simp)).trans k).drop (fun j hj => .inr (by rcases hin j hj with h9 | h9 <;> omega))
theorem ren_two {S : List Nat} {w2 wr w' : World} {b mp B : Nat} (h : Keeps [b, mp] w2 wr) (k : Keeps S wr w') (hB : w2.heap.size = B) (hin : ∀ j ∈ S, j = b ∨ B ≤ j) : Keeps [b, mp] w2 w' :=
  ((h.mono (T := [b, mp] ++ S) (fun j hj => List.mem_append.2 (.inl hj))).trans (k.mono (fun j hj => List.mem_append.2 (.inr hj)))).drop (fun j hj => by
    rcases List.mem_append.1 hj with h9 | h9
    · exact .inl h9
    · rcases hin j h9 with h8 | h8
      · exact .inl (by simp [h8])
      · exact .inr (by omega))

/-- A call in the dark: nothing but the system's own block is another. -/
theorem RenIn.dark {w w2 : World} {B b mp g hh f m : Nat} {X : Nat → List Int} {L : Nat → Nat} {cut : Int} {kv kw n : Nat} {d : Bool} {sy op : Int} {wt shut : Bool} {v want : Value} {s : FSt} {wr w' : World} (h : RenIn w w2 B b mp g hh f m X L cut kv kw n d sy op wt shut v want s wr) (q : Nat)
    (hp : s.pp ≠ 0) (h1 : FsAt w' b 0 (s.called q true)) (h5 : Keeps [b] wr w') : RenIn w w2 B b mp g hh f m X L cut kv kw (n + 1) true sy op wt shut v want (s.called q true) w' := by
  have hin : ∀ j ∈ [b], j = b := fun j hj => by simpa using hj
  have hfb : f ≠ b := by have := h.fB; have := h.bB; omega
  have hgb : hh ≠ b := by have := h.hhB; have := h.bB; omega
  refine { fs := h1, calm := ?_, drk := rfl, dk := fun _ => by rw [← h.calm.pp]; exact hp, used := h.used, w0 := h.w0, w1 := h.w1, opn := h.opn, file := h.file.keeps h5 (by simpa using hfb), body := h.body.keeps h5 (by simpa using hgb), rowV := ownsRow_keeps h.rowV h5 (fun j hj => by have h6 := (h.rowV.lt j hj).1; have h7 := h.bB; simp; omega), rowW := ownsRow_keeps h.rowW h5 (fun j hj => by have h6 := (h.rowW.lt j hj).1; have h7 := h.bB; simp; omega), hB := Nat.le_trans h.hB h5.size, bB := h.bB, mB := h.mB, gB := h.gB, fB := h.fB, hhB := h.hhB, fh := h.fh, vh := h.vh, vf := h.vf, wh := h.wh, wf := h.wf, vw := h.vw, map := ownsMap_keeps h.map h5 (by have := h.bm; simpa using this), wB := h.wB, bm := h.bm, B2 := h.B2, old := ren_old h.old h5 h.wB.1 h.bB (fun j hj => .inl (hin j hj)), two := ren_two h.two h5 h.B2 (fun j hj => .inl (hin j hj)) }
  have h8 := h.calm.called q true
  have e : (1 : Int) + ((n + 1 : Nat) : Int) = 1 + (n : Int) + 1 := by omega
  rw [e]; exact h8

/-- What a Write of the loop may answer. -/
def RenWrote (w w2 : World) (B b mp g hh f m : Nat) (X : Nat → List Int) (L : Nat → Nat) (cut : Int) (k : Nat) (v want : Value) (e : Ending) (w' : World) : Prop :=
  (∃ v' s', e = .returned (.tuple #[.int .i64 (L k), .int .i64 0]) ∧ RenIn w w2 B b mp g hh f m X L cut (k + 1) k (k + 1) false 0 1 true false v' want s' w') ∨
    (∃ s', e = .returned (.tuple #[.int .i64 0, .int .i64 4]) ∧ RenIn w w2 B b mp g hh f m X L cut k k (k + 1) true 0 1 true false v want s' w')

theorem ren_write {w w2 : World} {B b mp g hh f m : Nat} {X : Nat → List Int} {L : Nat → Nat} {cut : Int} {k : Nat} {v want : Value} {s : FSt} {wr : World} (h : RenIn w w2 B b mp g hh f m X L cut k k k false 0 1 true false v want s wr) {A : Option Addr} {C : Nat} (hp : PieceAt w A (L k) C (X k))
    (htot : tot L (k + 1) ≤ 1048576) (hm : m ≤ 1048576) (hk : k ≤ 5864062014805) :
    Calls Try.prog 15 #[.pointer (some ⟨f, 0, none⟩), .slice A (L k) C] wr (RenWrote w w2 B b mp g hh f m X L cut k v want) := by
  have hF := h.calm
  have hc1 := hF.c1
  have ho1 := hF.o1 2
  have ht : tot L (k + 1) = tot L k + L k := rfl
  have hu := h.used
  have hw0 := h.w0
  have hw1 := h.w1
  have hmb := hF.mb
  have hfile : FileAt wr f b s.life fresh true true false hh 0 0 := by rw [hF.life]; exact h.file
  have hfb : f ≠ b := by have := h.fB; have := h.bB; omega
  have hgb : hh ≠ b := by have := h.hhB; have := h.bB; omega
  have hvb : v.ownBlock ≠ some b := fun e => by have := (h.rowV.lt _ e).1; have := h.bB; omega
  obtain ⟨ao, cp, hve⟩ := ownsRow_slice h.rowV
  by_cases hdk : s.pp ≠ 0 ∧ s.pp ≤ s.calls + 1
  · refine (write_dark f b hh s fresh true true false 0 0 s.life (.slice A (L k) C) wr h.fs hfile hF.pi hF.c0 (by omega) (hF.o0 2) (by omega) hdk.1 hdk.2).mono ?_
    rintro e w' ⟨rfl, h1, h5⟩
    exact .inr ⟨_, rfl, h.dark 2 hdk.1 h1 h5⟩
  have hlive : s.pp = 0 ∨ s.calls + 1 < s.pp := by omega
  have calm' : ∀ q : Nat, Calm (((s.called 2 false).wrote q).grown q) cut mp (1 + ((k + 1 : Nat) : Int)) := fun q => by
    have h8 := hF.called 2 false
    have e : (1 : Int) + ((k + 1 : Nat) : Int) = 1 + (k : Int) + 1 := by omega
    rw [e]
    exact ⟨h8.fa, h8.pi, h8.pp, h8.mpe, h8.life, h8.c0, h8.c1, h8.o0, h8.o1, h8.mb⟩
  suffices hs : Calls Try.prog 15 #[.pointer (some ⟨f, 0, none⟩), .slice A (L k) C] wr (fun e w' => ∃ v' s', e = .returned (.tuple #[.int .i64 (L k), .int .i64 0]) ∧ RenIn w w2 B b mp g hh f m X L cut (k + 1) k (k + 1) false 0 1 true false v' want s' w') from hs.mono (fun e w' h => .inl h)
  cases A with
  | none =>
    have hC : C = 0 := hp.2.2.2.1 rfl
    have hL : L k = 0 := by have := hp.1; omega
    have hX : X k = [] := List.eq_nil_of_length_eq_zero (by rw [hp.2.2.1, hL])
    subst hve
    rw [hC, hL]
    refine (write_nil f b hh s fresh 0 0 ao cp 0 1 true (tot L k) _ wr h.fs hfile h.body (row_up h.rowV (Nat.zero_le _)) hfb hgb h.fh hvb h.vh (by omega) (by omega) (by omega) (by omega) (by omega) hF.fa hF.pi hF.c0 (by omega) (hF.o0 2) (by omega) hlive h.drk).mono ?_
    rintro e w' ⟨rfl, h1, h2, h3, h4, h5⟩
    have hrow : w'.ownsRow B 5 1 (.slice ao (tot L k) cp) (tot L k) ((cat X k).map (Value.int .u8)) := ownsRow_keeps h.rowV h5 (fun j hj => by simp; exact ⟨fun e => hvb (e ▸ hj), fun e => h.vh (e ▸ hj)⟩)
    have hroww := ownsRow_keeps h.rowW h5 (fun j hj => by have h6 := (h.rowW.lt j hj).1; have h7 := h.bB; simp; exact ⟨by omega, fun e => h.wh (e ▸ hj)⟩)
    have htk : tot L (k + 1) = tot L k := by omega
    have hcat : cat X (k + 1) = cat X k := by show cat X k ++ X k = cat X k; rw [hX, List.append_nil]
    have hBw := h.hB
    have hhl : hh < wr.heap.size := lt_of_block h.body
    have hin : ∀ j ∈ [b, hh], j = b ∨ B ≤ j := fun j hj => by have := h.hhB; simp at hj; omega
    exact ⟨.slice ao (tot L k) cp, _, rfl, { fs := h1, calm := calm' 0, drk := rfl, dk := (fun e => by cases e), used := (by show s.used + 0 = _; rw [htk]; omega), w0 := (by show 0 ≤ s.written + 0; omega), w1 := (by show s.written + 0 ≤ _; rw [htk]; omega), opn := h.opn, file := (by rw [hF.life] at h2; exact h2), body := h3, rowV := (by rw [htk, hcat]; exact hrow), rowW := hroww, hB := Nat.le_trans h.hB h5.size, bB := h.bB, mB := h.mB, gB := h.gB, fB := h.fB, hhB := h.hhB, fh := h.fh, vh := h.vh, vf := h.vf, wh := h.wh, wf := h.wf, vw := h.vw, map := ownsMap_keeps h.map h5 (fun hm => by have := h.mB; rcases hin mp hm with h8 | h8 <;> first | exact h.bm h8 | omega), wB := h.wB, bm := h.bm, B2 := h.B2, old := ren_old h.old h5 h.wB.1 h.bB hin, two := ren_two h.two h5 h.B2 hin }⟩
  | some a =>
    have hX : (X k).length = L k := hp.2.2.1
    refine (write_ok f b hh s fresh 0 0 v 0 1 true (tot L k) _ a (L k) C ((X k).map (Value.int .u8)) wr h.fs hfile h.body (row_up h.rowV (Nat.zero_le _)) (by simp [hX]) (hp.cells h.old rfl) (oneCell_bytes _) hp.1 (by have := hp.2.1; unfold maxLen; omega) hfb hgb h.fh hvb h.vh h.vf (hp.away rfl h.wB.1) (by omega) (by omega) (by omega) (by omega) (by omega) (by omega) hF.fa hF.pi hF.c0 (by omega) (hF.o0 2) (by omega) hlive h.drk).mono ?_
    rintro e w' ⟨v', rfl, h1, h2, h3, h4, h5, h6⟩
    have hvB : ∀ j, v.ownBlock = some j → B ≤ j := fun j hj => (h.rowV.lt j hj).1
    have hv'B : ∀ j, v'.ownBlock = some j → v.ownBlock = some j ∨ wr.heap.size ≤ j := fun j hj => by
      rcases h6 with h7 | ⟨i, h7, h8⟩
      · exact .inl (h7 ▸ hj)
      · rw [h7] at hj; cases hj; exact .inr h8
    have hgl : hh < wr.heap.size := lt_of_block h.body
    have hfl : f < wr.heap.size := lt_of_block h.file
    have hBw := h.hB
    have hin0 : ∀ j ∈ [b, hh] ++ v.ownBlock.toList, j = b ∨ (B ≤ j ∧ (j = hh ∨ v.ownBlock = some j)) := fun j hj => by
      simp at hj
      rcases hj with rfl | rfl | hj
      · exact .inl rfl
      · exact .inr ⟨h.hhB, .inl rfl⟩
      · exact .inr ⟨hvB j hj, .inr hj⟩
    have hin : ∀ j ∈ [b, hh] ++ v.ownBlock.toList, j = b ∨ B ≤ j := fun j hj => by
      rcases hin0 j hj with h8 | ⟨h8, _⟩
      · exact .inl h8
      · exact .inr h8
    have hrow : w'.ownsRow B 5 1 v' (tot L (k + 1)) ((cat X (k + 1)).map (Value.int .u8)) := by
      have h7 := row_base h4 (B := B) (fun j hj => by rcases hv'B j hj with h8 | h8 <;> first | exact hvB j h8 | (omega))
      show w'.ownsRow B 5 1 v' (tot L k + L k) ((cat X k ++ X k).map (Value.int .u8))
      rw [List.map_append]
      exact h7
    have hroww := ownsRow_keeps h.rowW h5 (fun j hj hm => by
      have h7 := (h.rowW.lt j hj).1
      rcases hin0 j hm with rfl | ⟨_, rfl | h8⟩
      · have := h.bB; omega
      · exact h.wh hj
      · exact h.vw j h8 hj)
    exact ⟨v', _, rfl, { fs := h1, calm := calm' (L k), drk := rfl, dk := (fun e => by cases e), used := (by show s.used + (L k : Int) = _; omega), w0 := (by show 0 ≤ s.written + (L k : Int); omega), w1 := (by show s.written + (L k : Int) ≤ _; omega), opn := h.opn, file := (by rw [hF.life] at h2; exact h2), body := h3, rowV := hrow, rowW := hroww, hB := Nat.le_trans h.hB h5.size, bB := h.bB, mB := h.mB, gB := h.gB, fB := h.fB, hhB := h.hhB, fh := h.fh, vh := (fun e => by rcases hv'B hh e with h8 | h8 <;> first | exact h.vh h8 | (omega)), vf := (fun e => by rcases hv'B f e with h8 | h8 <;> first | exact h.vf h8 | (omega)), wh := h.wh, wf := h.wf, vw := (fun j hj e => by rcases hv'B j hj with h8 | h8 <;> first | exact h.vw j h8 e | (have := (h.rowW.lt j e).2; omega)), map := ownsMap_keeps h.map h5 (fun hm => by have := h.mB; rcases hin mp hm with h8 | h8 <;> first | exact h.bm h8 | omega), wB := h.wB, bm := h.bm, B2 := h.B2, old := ren_old h.old h5 h.wB.1 h.bB hin, two := ren_two h.two h5 h.B2 hin }⟩

/-- Behind the append: the loop's state at the next round. -/
theorem ren_next {w w2 : World} {B b mp g hh f m : Nat} {X : Nat → List Int} {L : Nat → Nat} {cut : Int} {kv k n : Nat} {d : Bool} {sy op : Int} {wt shut : Bool} {v want want' : Value} {s : FSt} {wr w' : World} (h : RenIn w w2 B b mp g hh f m X L cut kv k n d sy op wt shut v want s wr)
    (h1 : w'.ownsRow B 5 1 want' (tot L k + L k) ((cat X k).map (Value.int .u8) ++ (X k).map (Value.int .u8))) (h2 : wr.grownBy w' want.ownBlock) (h3 : want'.ownBlock = want.ownBlock ∨ want'.ownBlock = some wr.heap.size) :
    RenIn w w2 B b mp g hh f m X L cut kv (k + 1) n d sy op wt shut v want' s w' := by
  have hwB : ∀ j, want.ownBlock = some j → B ≤ j := fun j hj => (h.rowW.lt j hj).1
  have hnb : ∀ j, j < B → want.ownBlock ≠ some j := fun j hj e => by have := hwB j e; omega
  have hgl : hh < wr.heap.size := lt_of_block h.body
  have hfl : f < wr.heap.size := lt_of_block h.file
  have hkp : Keeps want.ownBlock.toList wr w' := (Keeps.refl _ wr).grown h2 (fun j hj => .inl (by simp [hj]))
  have hkm : ∀ j, j ∈ want.ownBlock.toList → want.ownBlock = some j := fun j hj => by simpa using hj
  have hnew : ∀ j, want'.ownBlock = some j → want.ownBlock = some j ∨ j = wr.heap.size := fun j hj => by
    rcases h3 with h4 | h4
    · exact .inl (h4 ▸ hj)
    · rw [h4] at hj; cases hj; exact .inr rfl
  have hin : ∀ j ∈ want.ownBlock.toList, j = b ∨ B ≤ j := fun j hj => .inr (hwB j (hkm j hj))
  exact { fs := h.fs.keeps hkp (fun hm => hnb b h.bB (hkm b hm)), calm := h.calm, drk := h.drk, dk := h.dk, used := h.used, w0 := h.w0, w1 := h.w1, opn := h.opn, file := h.file.keeps hkp (fun hm => h.wf (hkm f hm)), body := h.body.keeps hkp (fun hm => h.wh (hkm hh hm)), rowV := ownsRow_keeps h.rowV hkp (fun j hj hm => h.vw j hj (hkm j hm)), rowW := (by show w'.ownsRow B 5 1 want' (tot L k + L k) ((cat X k ++ X k).map (Value.int .u8)); rw [List.map_append]; exact h1), hB := Nat.le_trans h.hB h2.size, bB := h.bB, mB := h.mB, gB := h.gB, fB := h.fB, hhB := h.hhB, fh := h.fh, vh := h.vh, vf := h.vf, wh := (fun e => by rcases hnew hh e with h4 | h4 <;> first | exact h.wh h4 | omega), wf := (fun e => by rcases hnew f e with h4 | h4 <;> first | exact h.wf h4 | omega), vw := (fun j hj e => by rcases hnew j e with h4 | h4 <;> first | exact h.vw j hj h4 | (have := (h.rowV.lt j hj).2; omega)), map := ownsMap_keeps h.map hkp (fun hm => hnb mp h.mB (hkm mp hm)), wB := h.wB, bm := h.bm, B2 := h.B2, old := ren_old h.old hkp h.wB.1 h.bB hin, two := ren_two h.two hkp h.B2 hin }

/-- What is left where the renaming has not been: the old file as it was; perhaps a second one. -/
def LeftOld (w2 : World) (b mp g : Nat) (wr : World) : Prop :=
  ∃ s, FsAt wr b 0 s ∧ s.life = 0 ∧ s.mp = mp ∧ Keeps [b, mp] w2 wr ∧ (wr.ownsMap Try.prog 9 heldR mp 1 (.map [(key target, ptrD g)]) ∨
    ∃ (hh n : Nat) (ao : Option Addr) (cp : Nat) (sy op : Int) (wt : Bool), w2.heap.size ≤ hh ∧ wr.ownsMap Try.prog 9 heldR mp 2 (.map [(key target, ptrD g), (key fresh, ptrD hh)]) ∧ BodyAt wr hh (.slice ao n cp) sy op wt ∧ 0 ≤ sy ∧ sy ≤ n ∧ n ≤ cp ∧ cp ≤ 9223372036854775807 ∧ n ≤ 67108864)

/-- What is left where it has: the new file, all of it synced; want says what it holds. -/
def LeftNew (w2 : World) (b mp : Nat) (xs : List Int) (n : Nat) (want : Value) (wr : World) : Prop :=
  ∃ (s : FSt) (hh : Nat) (ao : Option Addr) (cp : Nat) (op : Int) (wt : Bool), FsAt wr b 0 s ∧ s.life = 0 ∧ s.mp = mp ∧ w2.heap.size ≤ hh ∧ wr.ownsMap Try.prog 9 heldR mp 1 (.map [(key target, ptrD hh)]) ∧ BodyAt wr hh (.slice ao n cp) n op wt ∧
    wr.ownsRow w2.heap.size 5 1 (.slice ao n cp) n (xs.map (Value.int .u8)) ∧ wr.ownsRow w2.heap.size 5 1 want n (xs.map (Value.int .u8)) ∧ n ≤ cp ∧ cp ≤ 9223372036854775807 ∧ n ≤ 67108864

def RenTail (w w2 : World) (b mp g : Nat) (cut : Int) (xs : List Int) (n : Nat) (done want : Value) (wr : World) : Prop :=
  Keeps [] w wr ∧ ((done = .bool false ∧ cut ≠ 0 ∧ LeftOld w2 b mp g wr) ∨ (done = .bool true ∧ LeftNew w2 b mp xs n want wr))

theorem row_cap {w : World} {base : Nat} {ao : Option Addr} {n cp : Nat} {xs : List Value} (h : w.ownsRow base 5 1 (.slice ao n cp) n xs) : n ≤ cp ∧ cp ≤ 9223372036854775807 := by
  rcases h.2 with ⟨e, h0⟩ | ⟨g, cap, cur, e, _, _, h1, h2, _⟩
  · cases e; omega
  · cases e
    unfold maxLen at h2
    omega

theorem RenIn.left {w w2 : World} {B b mp g hh f m : Nat} {X : Nat → List Int} {L : Nat → Nat} {cut : Int} {kv kw n : Nat} {d : Bool} {sy op : Int} {wt shut : Bool} {v want : Value} {s : FSt} {wr : World} (h : RenIn w w2 B b mp g hh f m X L cut kv kw n d sy op wt shut v want s wr) (ht : tot L kv ≤ 1048576) (y0 : 0 ≤ sy) (y1 : sy ≤ (tot L kv : Nat)) : LeftOld w2 b mp g wr := by
  obtain ⟨ao, cp, rfl⟩ := ownsRow_slice h.rowV
  have hc := row_cap h.rowV
  exact ⟨s, h.fs, h.calm.life, h.calm.mpe, h.two, .inr ⟨hh, _, ao, cp, sy, op, wt, by have := h.B2; have := h.hhB; omega, h.map, h.body, y0, y1, hc.1, hc.2, by omega⟩⟩

/-- Sync of the new file. -/
def RenSynced (w w2 : World) (B b mp g hh f m : Nat) (X : Nat → List Int) (L : Nat → Nat) (cut : Int) (k n : Nat) (v want : Value) (e : Ending) (w' : World) : Prop :=
  (∃ s', e = .returned (.int .i64 0) ∧ RenIn w w2 B b mp g hh f m X L cut k k (n + 1) false (tot L k : Nat) 1 true false v want s' w') ∨
    (∃ s', e = .returned (.int .i64 4) ∧ RenIn w w2 B b mp g hh f m X L cut k k (n + 1) true 0 1 true false v want s' w')
theorem calm_called {s : FSt} {cut : Int} {mp n : Nat} (h : Calm s cut mp (1 + (n : Int))) (q : Nat) (d : Bool) : Calm (s.called q d) cut mp (1 + ((n + 1 : Nat) : Int)) := by
  have h8 := h.called q d
  have e : (1 : Int) + ((n + 1 : Nat) : Int) = 1 + (n : Int) + 1 := by omega
  rw [e]; exact h8
theorem ren_sync {w w2 : World} {B b mp g hh f m : Nat} {X : Nat → List Int} {L : Nat → Nat} {cut : Int} {k n : Nat} {v want : Value} {s : FSt} {wr : World} (h : RenIn w w2 B b mp g hh f m X L cut k k n false 0 1 true false v want s wr) (hn : n ≤ 5864062014805) :
    Calls Try.prog 21 #[.pointer (some ⟨f, 0, none⟩)] wr (RenSynced w w2 B b mp g hh f m X L cut k n v want) := by
  have hF := h.calm
  have hc1 := hF.c1
  have ho1 := hF.o1 3
  have hfile : FileAt wr f b s.life fresh true true false hh 0 0 := by rw [hF.life]; exact h.file
  have hfb : f ≠ b := by have := h.fB; have := h.bB; omega
  have hgb : hh ≠ b := by have := h.hhB; have := h.bB; omega
  obtain ⟨ao, cp, hve⟩ := ownsRow_slice h.rowV
  by_cases hdk : s.pp ≠ 0 ∧ s.pp ≤ s.calls + 1
  · refine (sync_dark f b hh s fresh true true false 0 0 s.life wr h.fs hfile hF.pi hF.c0 (by omega) (hF.o0 3) (by omega) hdk.1 hdk.2).mono ?_
    rintro e w' ⟨rfl, h1, h5⟩
    exact .inr ⟨_, rfl, h.dark 3 hdk.1 h1 h5⟩
  have hlive : s.pp = 0 ∨ s.calls + 1 < s.pp := by omega
  subst hve
  refine (sync_ok f b hh s fresh 0 0 ao (tot L k) cp 0 1 true wr h.fs hfile h.body hfb hgb h.fh hF.fa hF.pi hF.c0 (by omega) (hF.o0 3) (by omega) hlive h.drk).mono ?_
  rintro e w' ⟨rfl, h1, h2, h3, h5⟩
  have hin : ∀ j ∈ [b, hh], j = b ∨ B ≤ j := fun j hj => by have := h.hhB; simp at hj; omega
  exact .inl ⟨_, rfl, { fs := h1, calm := calm_called hF 3 false, drk := rfl, dk := (fun e => by cases e), used := h.used, w0 := h.w0, w1 := h.w1, opn := h.opn, file := (by rw [hF.life] at h2; exact h2), body := h3, rowV := ownsRow_keeps h.rowV h5 (fun j hj => by have h6 := (h.rowV.lt j hj).1; have h7 := h.bB; simp; exact ⟨by omega, fun e => h.vh (e ▸ hj)⟩), rowW := ownsRow_keeps h.rowW h5 (fun j hj => by have h6 := (h.rowW.lt j hj).1; have h7 := h.bB; simp; exact ⟨by omega, fun e => h.wh (e ▸ hj)⟩), hB := Nat.le_trans h.hB h5.size, bB := h.bB, mB := h.mB, gB := h.gB, fB := h.fB, hhB := h.hhB, fh := h.fh, vh := h.vh, vf := h.vf, wh := h.wh, wf := h.wf, vw := h.vw, map := ownsMap_keeps h.map h5 (fun hm => by have := h.mB; rcases hin mp hm with h8 | h8 <;> first | exact h.bm h8 | omega), wB := h.wB, bm := h.bm, B2 := h.B2, old := ren_old h.old h5 h.wB.1 h.bB hin, two := ren_two h.two h5 h.B2 hin }⟩

/-- Close of the new file. -/
def RenClosed (w w2 : World) (B b mp g hh f m : Nat) (X : Nat → List Int) (L : Nat → Nat) (cut : Int) (k n : Nat) (sy : Int) (v want : Value) (e : Ending) (w' : World) : Prop :=
  (∃ s', e = .returned (.int .i64 0) ∧ RenIn w w2 B b mp g hh f m X L cut k k (n + 1) false sy 0 false true v want s' w') ∨
    (∃ s', e = .returned (.int .i64 4) ∧ RenIn w w2 B b mp g hh f m X L cut k k (n + 1) true sy 1 true false v want s' w')
theorem ren_close {w w2 : World} {B b mp g hh f m : Nat} {X : Nat → List Int} {L : Nat → Nat} {cut : Int} {k n : Nat} {sy : Int} {v want : Value} {s : FSt} {wr : World} (h : RenIn w w2 B b mp g hh f m X L cut k k n false sy 1 true false v want s wr) (hn : n ≤ 5864062014806) :
    Calls Try.prog 14 #[.pointer (some ⟨f, 0, none⟩)] wr (RenClosed w w2 B b mp g hh f m X L cut k n sy v want) := by
  have hF := h.calm
  have hc1 := hF.c1
  have ho1 := hF.o1 4
  have hopn := h.opn
  have hfile : FileAt wr f b s.life fresh true true false hh 0 0 := by rw [hF.life]; exact h.file
  have hfb : f ≠ b := by have := h.fB; have := h.bB; omega
  have hgb : hh ≠ b := by have := h.hhB; have := h.bB; omega
  by_cases hdk : s.pp ≠ 0 ∧ s.pp ≤ s.calls + 1
  · refine (close_dark f b hh s fresh true true false 0 0 s.life wr h.fs hfile hF.pi hF.c0 (by omega) (hF.o0 4) (by omega) hdk.1 hdk.2).mono ?_
    rintro e w' ⟨rfl, h1, h5⟩
    exact .inr ⟨_, rfl, h.dark 4 hdk.1 h1 h5⟩
  have hlive : s.pp = 0 ∨ s.calls + 1 < s.pp := by omega
  refine (close_ok f b hh s fresh true 0 0 v sy 1 true wr h.fs hfile h.body hfb hgb h.fh (by omega) (by omega) (by omega) (by omega) hF.fa hF.pi hF.c0 (by omega) (hF.o0 4) (by omega) hlive h.drk).mono ?_
  rintro e w' ⟨rfl, h1, h2, h3, h5⟩
  have hin : ∀ j ∈ [b, f, hh], j = b ∨ B ≤ j := fun j hj => by have := h.hhB; have := h.fB; simp at hj; omega
  have h8 := calm_called hF 4 false
  exact .inl ⟨_, rfl, { fs := h1, calm := ⟨h8.fa, h8.pi, h8.pp, h8.mpe, h8.life, h8.c0, h8.c1, h8.o0, h8.o1, h8.mb⟩, drk := rfl, dk := (fun e => by cases e), used := h.used, w0 := h.w0, w1 := h.w1, opn := (by show s.opn - 1 = 0; omega), file := (by rw [hF.life] at h2; exact h2), body := h3, rowV := ownsRow_keeps h.rowV h5 (fun j hj hm => by have h6 := (h.rowV.lt j hj).1; have h7 := h.bB; simp at hm; rcases hm with rfl | rfl | rfl <;> first | (omega) | exact h.vf hj | exact h.vh hj), rowW := ownsRow_keeps h.rowW h5 (fun j hj hm => by have h6 := (h.rowW.lt j hj).1; have h7 := h.bB; simp at hm; rcases hm with rfl | rfl | rfl <;> first | (omega) | exact h.wf hj | exact h.wh hj), hB := Nat.le_trans h.hB h5.size, bB := h.bB, mB := h.mB, gB := h.gB, fB := h.fB, hhB := h.hhB, fh := h.fh, vh := h.vh, vf := h.vf, wh := h.wh, wf := h.wf, vw := h.vw, map := ownsMap_keeps h.map h5 (fun hm => by have := h.mB; rcases hin mp hm with h8 | h8 <;> first | exact h.bm h8 | omega), wB := h.wB, bm := h.bm, B2 := h.B2, old := ren_old h.old h5 h.wB.1 h.bB hin, two := ren_two h.two h5 h.B2 hin }⟩

/-- Rename over the old file. -/
def RenRenamed (w w2 : World) (B b mp g hh f m : Nat) (X : Nat → List Int) (L : Nat → Nat) (cut : Int) (k n : Nat) (v want : Value) (e : Ending) (w' : World) : Prop :=
  (e = .returned (.int .i64 0) ∧ LeftNew w2 b mp (cat X k) (tot L k) want w' ∧ Keeps [] w w') ∨
    (∃ s', e = .returned (.int .i64 4) ∧ RenIn w w2 B b mp g hh f m X L cut k k (n + 1) true (tot L k : Nat) 0 false true v want s' w')
theorem ren_rename {w w2 : World} {B b mp g hh f m : Nat} {X : Nat → List Int} {L : Nat → Nat} {cut : Int} {k n : Nat} {v want : Value} {s : FSt} {wr : World} (h : RenIn w w2 B b mp g hh f m X L cut k k n false (tot L k : Nat) 0 false true v want s wr) (hn : n ≤ 5864062014807)
    {ao : Option Addr} {cp : Nat} (hg : BodyAt w2 g (.slice ao m cp) m 0 false) (e1 : g ≠ b) (e2 : g ≠ mp) (ht : tot L k ≤ 1048576) (hm : m ≤ 1048576) :
    Calls Try.prog 22 #[.pointer (some ⟨b, 0, none⟩), .string fresh, .string target] wr (RenRenamed w w2 B b mp g hh f m X L cut k n v want) := by
  have hF := h.calm
  have hc1 := hF.c1
  have ho1 := hF.o1 6
  have hu := h.used
  have hgb : hh ≠ b := by have := h.hhB; have := h.bB; omega
  by_cases hdk : s.pp ≠ 0 ∧ s.pp ≤ s.calls + 1
  · refine (rename_dark b s fresh target wr h.fs hF.pi hF.c0 (by omega) (hF.o0 6) (by omega) hdk.1 hdk.2).mono ?_
    rintro e w' ⟨rfl, h1, h5⟩
    exact .inr ⟨_, rfl, h.dark 6 hdk.1 h1 h5⟩
  have hlive : s.pp = 0 ∨ s.calls + 1 < s.pp := by omega
  have hg' : BodyAt wr g (.slice ao m cp) m 0 false := hg.keeps h.two (by simp; exact ⟨e1, e2⟩)
  refine (rename_ok b hh g s 2 _ fresh target v (tot L k : Nat) false ao m cp m false wr h.fs fresh_nam target_nam (by rw [hF.mpe]; exact h.map) (by rw [hF.mpe]; exact h.bm) (by omega) rfl rfl h.body hg' target_ne hgb e1 hF.fa hF.pi hF.c0 (by omega) (hF.o0 6) (by omega) hlive h.drk (by omega) (by omega)).mono ?_
  rintro e w' ⟨rfl, h1, h2, h5⟩
  rw [hF.mpe] at h2 h5
  have h2' := ownsMap_bound (m := 1) h2 (by rw [show ((DataW.map [(key target, ptrD g), (key fresh, ptrD hh)]).del (key fresh)).put (key target) (.held (.pointer (some ⟨hh, 0, none⟩))) = .map [(key target, ptrD hh)] from files_swapped g hh]; simp [Maps.size])
  rw [show ((DataW.map [(key target, ptrD g), (key fresh, ptrD hh)]).del (key fresh)).put (key target) (.held (.pointer (some ⟨hh, 0, none⟩))) = .map [(key target, ptrD hh)] from files_swapped g hh] at h2'
  obtain ⟨ao2, cp2, hve⟩ := ownsRow_slice h.rowV
  have hb2 := h.body.keeps h5 (by have := h.hhB; have := h.bB; have := h.mB; simp; omega)
  have hv2 := ownsRow_keeps h.rowV h5 (fun j hj => by have h6 := (h.rowV.lt j hj).1; have := h.bB; have := h.mB; simp; omega)
  have hw2 := ownsRow_keeps h.rowW h5 (fun j hj => by have h6 := (h.rowW.lt j hj).1; have := h.bB; have := h.mB; simp; omega)
  have hB := h.B2
  subst hve
  have hc := row_cap hv2
  subst hB
  refine .inl ⟨rfl, ⟨_, hh, ao2, cp2, 0, false, h1, hF.life, hF.mpe, h.hhB, h2', hb2, hv2, hw2, hc.1, hc.2, by omega⟩, ?_⟩
  exact ((h.old.mono (by simp)).trans h5).drop (fun j hj => .inr (by have h6 := h.wB; simp at hj; omega))

theorem row_ne {w : World} {B b T : Nat} {v : Value} {n : Nat} {xs : List Value} {c : Array Value} {fz : Nat × Nat} (h : w.ownsRow B 5 1 v n xs) (hb : w.heap[b]? = some (.cells c T fz)) (hT : T ≠ 5) : ∀ j, v.ownBlock = some j → j ≠ b := by
  intro j hj e
  subst e
  rcases h.2 with ⟨rfl, _⟩ | ⟨g, cap, cur, rfl, _, h1, _⟩
  · simp [Value.ownBlock] at hj
  · simp [Value.ownBlock] at hj
    subst hj
    rw [h1] at hb
    simp at hb
    exact hT hb.2.1.symm

/-- What is there behind Reboot: a file with these bytes under the old name. -/
def RenBack (w : World) (b mp : Nat) (zs : List Int) (n : Nat) (e : Ending) (w' : World) : Prop :=
  ∃ (s : FSt) (k : Nat) (D : DataW Value) (hh : Nat) (v : Value) (sy : Int), e = .returned (.int .i64 0) ∧ FsAt w' b 0 s ∧ s.mp = mp ∧ w'.ownsMap Try.prog 9 heldR mp k D ∧ D.atKey (key target) (.held (.pointer none)) = .held (.pointer (some ⟨hh, 0, none⟩)) ∧ BodyAt w' hh v sy 0 false ∧ hh ≠ b ∧
    w'.ownsRow 0 5 1 v n (zs.map (Value.int .u8)) ∧ v.ownBlock ≠ some b ∧ n ≤ 67108864 ∧ Keeps [] w w'

theorem ren_reboot_old {w w2 wr : World} {b mp g m cp : Nat} {ao : Option Addr} {zs : List Int} {B0 : Nat} (keep : Int) (h : LeftOld w2 b mp g wr) (hk : Keeps [] w wr) (hg : BodyAt w2 g (.slice ao m cp) m 0 false) (hr : w2.ownsRow B0 5 1 (.slice ao m cp) m (zs.map (Value.int .u8)))
    (hb : b < w2.heap.size) (hmp : mp < w2.heap.size) (e1 : g ≠ b) (e2 : g ≠ mp) (e3 : mp ≠ b) (hwb : w.heap.size ≤ b) (hwg : w.heap.size ≤ g) (hm : m ≤ 1048576) (hmT : ∀ j, (Value.slice ao m cp).ownBlock = some j → j ≠ b ∧ j ≠ mp) (k0 : 0 ≤ keep) (k1 : keep ≤ 9223372036854775807) :
    Calls Try.prog 23 #[.pointer (some ⟨b, 0, none⟩), .int .i64 keep] wr (RenBack w b mp zs m) := by
  obtain ⟨s, hs, hl, hmpe, h2, hcase⟩ := h
  have hg' : BodyAt wr g (.slice ao m cp) m 0 false := hg.keeps h2 (by simp; exact ⟨e1, e2⟩)
  have hr' := ownsRow_keeps hr h2 (fun j hj => by have := hmT j hj; simp; exact this)
  have hc := row_cap hr
  have hgl : g < w2.heap.size := lt_of_block hg
  subst hmpe
  rcases hcase with hmap | ⟨hh, n, ao2, cp2, sy, op, wt, hhl, hmap, hbody, y0, y1, c0, c1, hn⟩
  · refine (reboot_one b g s ao m cp 0 false keep wr hs hmap e3 hg' hc.1 hc.2 (by omega) e1 (fun e => e2 e.symm) k0 k1 (by omega) (by omega)).mono ?_
    rintro e w' ⟨s', rfl, h3, h4, h5, h6, h7⟩
    refine ⟨s', 1, _, g, _, m, rfl, h3, h4, h6, rfl, h5, e1, row_up (ownsRow_keeps hr' h7 (fun j hj => by simp; exact ⟨(hmT j hj).1, row_ne hr' hg' (by decide) j hj⟩)) (Nat.zero_le _), fun e => (hmT b e).1 rfl, by omega, ?_⟩
    exact ((hk.mono (by simp)).trans h7).drop (fun j hj => .inr (by simp at hj; omega))
  · refine (reboot_two b g hh s ao m cp 0 false ao2 n cp2 sy op wt keep wr hs hmap e3 hg' hc.1 hc.2 (by omega) hbody y0 y1 c0 c1 hn e1 (fun e => e2 e.symm) (by omega) (by omega) (by omega) k0 k1 (by omega) (by omega)).mono ?_
    rintro e w' ⟨s', rfl, h3, h4, h5, h6, h7⟩
    refine ⟨s', 2, _, g, _, m, rfl, h3, h4, h6, rfl, h5, e1, row_up (ownsRow_keeps hr' h7 (fun j hj => by simp; exact ⟨(hmT j hj).1, row_ne hr' hg' (by decide) j hj, row_ne hr' hbody (by decide) j hj⟩)) (Nat.zero_le _), fun e => (hmT b e).1 rfl, by omega, ?_⟩
    exact ((hk.mono (by simp)).trans h7).drop (fun j hj => .inr (by simp at hj; omega))

theorem ren_reboot_new {w w2 wr : World} {b mp : Nat} {xs : List Int} {n : Nat} {want : Value} (keep : Int) (h : LeftNew w2 b mp xs n want wr) (hk : Keeps [] w wr) (hb : b < w2.heap.size) (hmp : mp < w2.heap.size) (e3 : mp ≠ b) (hwb : w.heap.size ≤ b) (k0 : 0 ≤ keep) (k1 : keep ≤ 9223372036854775807) :
    Calls Try.prog 23 #[.pointer (some ⟨b, 0, none⟩), .int .i64 keep] wr fun e w' => RenBack w b mp xs n e w' ∧ w'.ownsRow w2.heap.size 5 1 want n (xs.map (Value.int .u8)) := by
  obtain ⟨s, hh, ao, cp, op, wt, hs, hl, hmpe, hhl, hmap, hbody, hv, hw, c0, c1, hn⟩ := h
  subst hmpe
  refine (reboot_one b hh s ao n cp op wt keep wr hs hmap e3 hbody c0 c1 hn (by omega) (by omega) k0 k1 (by omega) (by omega)).mono ?_
  rintro e w' ⟨s', rfl, h3, h4, h5, h6, h7⟩
  refine ⟨⟨s', 1, _, hh, _, n, rfl, h3, h4, h6, rfl, h5, by omega, row_up (ownsRow_keeps hv h7 (fun j hj => by simp; exact ⟨row_ne hv hs (by decide) j hj, row_ne hv hbody (by decide) j hj⟩)) (Nat.zero_le _), fun e => row_ne hv hs (by decide) b e rfl, hn, ?_⟩, ownsRow_keeps hw h7 (fun j hj => by simp; exact ⟨row_ne hw hs (by decide) j hj, row_ne hw hbody (by decide) j hj⟩)⟩
  exact ((hk.mono (by simp)).trans h7).drop (fun j hj => .inr (by have := hk.size; simp at hj; rcases hj with rfl | rfl <;> omega))

/-- Put of the old file, whatever slice it comes in. -/
theorem put_any (b : Nat) (s : FSt) (k : Nat) (D : DataW Value) (nm : ByteArray) (A : Option Addr) (n c : Nat) (zs : List Int) (w0 w : World) (hb : FsAt w b 0 s) (hn : Nam nm) (hown : w.ownsMap Try.prog 9 heldR s.mp k D) (hne : s.mp ≠ b)
    (hat : D.atKey (key nm) (.held (.pointer none)) = .held (.pointer none)) (hk : (k : Int) < s.mf) (hs : Maps.size D = k) (hkN : k < 4611686018427387904)
    (hp : PieceAt w0 A n c zs) (hkp : Keeps [] w0 w) (hwb : w0.heap.size ≤ b) (hroom : (n : Int) ≤ s.mb - s.used) (u0 : 0 ≤ s.used) (b1 : s.mb ≤ 67108864) :
    Calls Try.prog 20 #[.pointer (some ⟨b, 0, none⟩), .string nm, .slice A n c] w fun e w' => ∃ (g : Nat) (v : Value), e = .returned (.int .i64 0) ∧
      FsAt w' b 0 (s.grown n) ∧ BodyAt w' g v n 0 false ∧ w'.ownsRow w.heap.size 5 1 v n (zs.map (Value.int .u8)) ∧ w'.ownsMap Try.prog 9 heldR s.mp (k + 1) (D.put (key nm) (.held (.pointer (some ⟨g, 0, none⟩)))) ∧ Keeps [b, s.mp] w w' ∧ w.heap.size ≤ g ∧ v.ownBlock ≠ some g := by
  cases A with
  | none =>
    have hC : c = 0 := hp.2.2.2.1 rfl
    have hL : n = 0 := by have := hp.1; omega
    have hX : zs = [] := List.eq_nil_of_length_eq_zero (by rw [hp.2.2.1, hL])
    subst hL hX
    refine (put_nil b s k D nm c w hb hn hown hne hat hk hs hkN (by omega) u0 b1).mono ?_
    rintro e w' ⟨g, rfl, h1, h2, h3, h4, h5⟩
    exact ⟨g, .slice none 0 0, rfl, h1, h2, World.ownsRow_nil _ _ _ _, h3, h4, h5, by simp [Value.ownBlock]⟩
  | some a =>
    have hcs := hp.2.2.2.2 a rfl
    refine put_new b s k D nm a n c zs w hb hn hown hne hat hk hs hkN hp.2.2.1 (fun j hj => ?_) (hp.away rfl hwb) hroom u0 b1
    have h0 := hcs j hj
    exact (World.cell?_of_block (hkp.block _ (World.block_lt_of_cell? w0 _ h0) (by simp))).trans h0

theorem bytes_piece {w w' : World} {A : Option Addr} {n c : Nat} {zs : List Int} (hp : PieceAt w A n c zs) (hk : Keeps [] w w') : BytesAt w' (.slice A n c) zs := by
  obtain ⟨h0, h1, h2, h3, h4⟩ := hp
  cases A with
  | none =>
    have hc := h3 rfl
    have hn : n = 0 := by omega
    have hz : zs = [] := List.eq_nil_of_length_eq_zero (by omega)
    subst hc hn hz
    exact bytes_row (World.ownsRow_nil w' 0 5 1)
  | some a =>
    subst h2
    refine ⟨?_, ⟨_, _, rfl⟩⟩
    rw [run_convert_bytes_string w' 36 9 5 _ _ _ Try.underlying36 Try.underlying5 Try.underlying9]
    have hc : ∀ j u, (zs.map (Value.int .u8))[j]? = some u → w'.cell? (a.add j) = some u := PieceAt.cells ⟨h0, h1, rfl, h3, h4⟩ hk rfl
    have hl := run_loadCells_list (P := Try.prog) w' a (zs.map (Value.int .u8)) hc
    rw [List.length_map] at hl
    exact run_bytesToString w' a _ c zs hl
end Go.Proofs.Ytfplfnhhiipgcaa
