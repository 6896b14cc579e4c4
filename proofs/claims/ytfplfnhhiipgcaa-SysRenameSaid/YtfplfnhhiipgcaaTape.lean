/- What the writing loop of SysTape keeps: plain steps over the calls. -/
import Derived.Test.YtfplfnhhiipgcaaAll
import Derived.Test.YtfplfnhhiipgcaaWide
import Derived.Test.YtfplfnhhiipgcaaWriteNil
import Derived.Test.YtfplfnhhiipgcaaOpenA
import Derived.Test.YtfplfnhhiipgcaaLook
namespace Go.Proofs.Ytfplfnhhiipgcaa
open Go.RowKit Go.Maps Go.MuLone

/-- The name 'tape'. -/
def tape : ByteArray := ⟨#[116, 97, 112, 101]⟩
theorem tape_nam : Nam tape := ⟨by decide, by decide, by decide⟩

/-- The first k pieces' bytes, one behind the other. -/
def cat (X : Nat → List Int) : Nat → List Int
  | 0 => []
  | k + 1 => cat X k ++ X k

/-- The state of the loop that writes the pieces: v, the file's row, holds kv of them; want holds kw. -/
structure TapeIn (w : World) (B b mp g : Nat) (sh : Value) (X : Nat → List Int) (L : Nat → Nat) (M : Int) (kv kw f : Nat) (v want : Value) (s : FSt) (wr : World) : Prop where
  fs : FsAt wr b 0 s
  fine : Fine s (M + 4 * (kw : Int))
  used : s.used = (tot L kv : Nat)
  written : s.written = (tot L kv : Nat)
  mpe : s.mp = mp
  she : s.sh = sh
  life : s.life = 0
  opn : s.opn = 1
  file : FileAt wr f b 0 tape true true false g 0 0
  body : BodyAt wr g v 0 1 true
  rowV : wr.ownsRow B 5 1 v (tot L kv) ((cat X kv).map (Value.int .u8))
  rowW : wr.ownsRow B 5 1 want (tot L kw) ((cat X kw).map (Value.int .u8))
  hB : B ≤ wr.heap.size
  bB : b < B
  mB : mp < B
  fB : B ≤ f
  gB : B ≤ g
  fg : f ≠ g
  vg : v.ownBlock ≠ some g
  vf : v.ownBlock ≠ some f
  wg : want.ownBlock ≠ some g
  wf : want.ownBlock ≠ some f
  vw : ∀ j, v.ownBlock = some j → want.ownBlock ≠ some j
  map : wr.ownsMap Try.prog 9 heldR mp 1 ((DataW.map []).put (key tape) (.held (.pointer (some ⟨g, 0, none⟩))))
  short : ShortAt wr sh b
  shB : ∀ so sb sn sc, sh = .slice (some ⟨sb, so, none⟩) sn sc → 0 < sn → sb < B
  wB : w.heap.size ≤ b ∧ w.heap.size ≤ mp
  bm : mp ≠ b
  old : Keeps [] w wr

/-- What one of the pieces is, in the world in which the statement was called. -/
def PieceAt (w : World) (A : Option Addr) (L C : Nat) (X : List Int) : Prop :=
  L ≤ C ∧ C ≤ 4611686018427387904 ∧ X.length = L ∧ (A = none → C = 0) ∧ ∀ a, A = some a → ∀ j, j < L → w.cell? (a.add j) = some (.int .u8 (X.getD j 0))

theorem PieceAt.cells {w w' : World} {A : Option Addr} {L C : Nat} {X : List Int} (h : PieceAt w A L C X) (k : Keeps [] w w') {a : Addr} (ha : A = some a) : ∀ j u, (X.map (Value.int .u8))[j]? = some u → w'.cell? (a.add j) = some u := by
  intro j u hu
  obtain ⟨_, _, hX, _, hc⟩ := h
  have hj : j < L := by
    rcases Nat.lt_or_ge j L with h' | h'
    · exact h'
    · rw [List.getElem?_eq_none (by simp; omega)] at hu; cases hu
  have h0 := hc a ha j hj
  have h1 := (World.cell?_of_block (k.block _ (World.block_lt_of_cell? w _ h0) (by simp))).trans h0
  rw [h1, ← hu]
  simp [List.getElem?_eq_getElem (by omega : j < X.length)]
theorem PieceAt.away {w : World} {A : Option Addr} {L C : Nat} {X : List Int} (h : PieceAt w A L C X) {a : Addr} (ha : A = some a) {b : Nat} (hb : w.heap.size ≤ b) : L = 0 ∨ a.block ≠ b := by
  rcases Nat.eq_zero_or_pos L with h0 | h0
  · exact .inl h0
  · right
    have h1 := World.block_lt_of_cell? w _ (h.2.2.2.2 a ha 0 h0)
    have h2 : (a.add 0).block = a.block := by unfold Addr.add; split <;> rfl
    rw [h2] at h1; omega
theorem oneCell_bytes (zs : List Int) : ∀ u ∈ zs.map (Value.int .u8), u.oneCell' = true := fun u hu => by obtain ⟨x, _, rfl⟩ := List.mem_map.1 hu; rfl

theorem row_base {w : World} {B B' : Nat} {v : Value} {n : Nat} {xs : List Value} (h : w.ownsRow B' 5 1 v n xs) (hB : ∀ j, v.ownBlock = some j → B ≤ j) : w.ownsRow B 5 1 v n xs := by
  refine ⟨h.1, ?_⟩
  rcases h.2 with h3 | ⟨g', c', cur, rfl, h4, h5⟩
  · exact .inl h3
  · exact .inr ⟨g', c', cur, rfl, hB g' rfl, h5⟩
theorem ShortAt.keepsB {S : List Nat} {w w' : World} {sh : Value} {b B : Nat} (h : ShortAt w sh b) (k : Keeps S w w') (hB : ∀ so sb sn sc, sh = .slice (some ⟨sb, so, none⟩) sn sc → 0 < sn → sb < B) (hS : ∀ j ∈ S, j = b ∨ B ≤ j) : ShortAt w' sh b := by
  rcases h with h | ⟨sb, so, sn, sc, z, rfl, h0, h1, h2, h3⟩
  · exact .inl h
  · have hb := hB so sb sn sc rfl h0
    refine .inr ⟨sb, so, sn, sc, z, rfl, h0, h1, h2, fun j hj => ⟨?_, (h3 j hj).2⟩⟩
    have h4 := (h3 j hj).1
    exact (World.cell?_of_block (k.block _ (World.block_lt_of_cell? w _ h4) (fun hm => by rcases hS _ hm with h | h <;> simp at h <;> omega))).trans h4

theorem tape_write {w : World} {B b mp g : Nat} {sh : Value} {X : Nat → List Int} {L : Nat → Nat} {M : Int} {k f : Nat} {v want : Value} {s : FSt} {wr : World} (h : TapeIn w B b mp g sh X L M k k f v want s wr) {A : Option Addr} {C : Nat} (hp : PieceAt w A (L k) C (X k))
    (htot : tot L (k + 1) ≤ 1048576) (hM : M + 4 * (k : Int) < 1152921504606846976) :
    Calls Try.prog 15 #[.pointer (some ⟨f, 0, none⟩), .slice A (L k) C] wr fun e w' => ∃ v' s', e = .returned (.tuple #[.int .i64 (L k), .int .i64 0]) ∧ TapeIn w B b mp g sh X L (M + 1) (k + 1) k f v' want s' w' := by
  have hF := h.fine
  have hc1 := hF.c1
  have ho1 := hF.o1 2
  have ht : tot L (k + 1) = tot L k + L k := rfl
  have hu := h.used
  have hw := h.written
  have hmb := hF.mb
  have hfile : FileAt wr f b s.life tape true true false g 0 0 := by rw [h.life]; exact h.file
  have hfb : f ≠ b := by have := h.fB; have := h.bB; omega
  have hgb : g ≠ b := by have := h.gB; have := h.bB; omega
  have hvb : v.ownBlock ≠ some b := fun e => by have := (h.rowV.lt _ e).1; have := h.bB; omega
  obtain ⟨ao, cp, hve⟩ := ownsRow_slice h.rowV
  have fine' : ∀ m : Nat, m = L k → Fine (((s.called 2 false).wrote m).grown m) (M + 1 + 4 * (k : Int)) := fun m hm => by
    have h1 := Fine.mono (hF.called 2) (show M + 4 * (k : Int) + 1 ≤ M + 1 + 4 * (k : Int) by omega)
    exact ⟨h1.fa, h1.pi, h1.pp, h1.drk, h1.c0, h1.c1, h1.o0, h1.o1, h1.m0, h1.m1, h1.n0, h1.mh, h1.mb, h1.mf, by show 0 ≤ s.written + m; omega, by show s.written + m ≤ 67108864; omega⟩
  cases A with
  | none =>
    have hC : C = 0 := hp.2.2.2.1 rfl
    have hL : L k = 0 := by have := hp.1; omega
    have hX : X k = [] := List.eq_nil_of_length_eq_zero (by rw [hp.2.2.1, hL])
    subst hve
    rw [hC, hL]
    refine (write_nil f b g s tape 0 0 ao cp 0 1 true (tot L k) _ wr h.fs hfile h.body (row_up h.rowV (Nat.zero_le _)) hfb hgb h.fg hvb h.vg (by omega) (by omega) (by omega) (by omega) (by omega) hF.fa hF.pi hF.c0 (by omega) (hF.o0 2) (by omega) (.inl hF.pp) hF.drk).mono ?_
    rintro e w' ⟨rfl, h1, h2, h3, h4, h5⟩
    have hrow : w'.ownsRow B 5 1 (.slice ao (tot L k) cp) (tot L k) ((cat X k).map (Value.int .u8)) := ownsRow_keeps h.rowV h5 (fun j hj => by simp; exact ⟨fun e => hvb (e ▸ hj), fun e => h.vg (e ▸ hj)⟩)
    have hroww := ownsRow_keeps h.rowW h5 (fun j hj => by have h6 := (h.rowW.lt j hj).1; have h7 := h.bB; simp; exact ⟨by omega, fun e => h.wg (e ▸ hj)⟩)
    have htk : tot L (k + 1) = tot L k := by omega
    have hcat : cat X (k + 1) = cat X k := by show cat X k ++ X k = cat X k; rw [hX, List.append_nil]
    have hf' := fine' 0 (by omega)
    exact ⟨.slice ao (tot L k) cp, _, rfl, { fs := (h1), fine := (hf'), used := (by show s.used + 0 = _; rw [htk]; omega), written := (by show s.written + 0 = _; rw [htk]; omega), mpe := (h.mpe), she := (h.she), life := (h.life), opn := (h.opn), file := (by rw [h.life] at h2; exact h2), body := (h3), rowV := (by rw [htk, hcat]; exact hrow), rowW := (hroww), hB := (Nat.le_trans h.hB h5.size), bB := (h.bB), mB := (h.mB), fB := (h.fB), gB := (h.gB), fg := (h.fg), vg := (h.vg), vf := (h.vf), wg := (h.wg), wf := (h.wf), vw := (h.vw), map := (ownsMap_keeps h.map h5 (by have := h.gB; have := h.mB; have := h.bm; simp; omega)), short := (h.short.keepsB h5 h.shB (fun j hj => by have := h.gB; simp at hj; omega)), shB := (h.shB), wB := (h.wB), bm := (h.bm), old := (((h.old.mono (by simp)).trans h5).drop (fun j hj => .inr (by have h6 := h.gB; have h7 := h.bB; have h8 := h.wB.1; simp at hj; omega))) }⟩
  | some a =>
    have hX : (X k).length = L k := hp.2.2.1
    refine (write_ok f b g s tape 0 0 v 0 1 true (tot L k) _ a (L k) C ((X k).map (Value.int .u8)) wr h.fs hfile h.body (row_up h.rowV (Nat.zero_le _)) (by simp [hX]) (hp.cells h.old rfl) (oneCell_bytes _) hp.1 (by have := hp.2.1; unfold maxLen; omega) hfb hgb h.fg hvb h.vg h.vf (hp.away rfl h.wB.1) (by omega) (by omega) (by omega) (by omega) (by omega) (by omega) hF.fa hF.pi hF.c0 (by omega) (hF.o0 2) (by omega) (.inl hF.pp) hF.drk).mono ?_
    rintro e w' ⟨v', rfl, h1, h2, h3, h4, h5, h6⟩
    have hvB : ∀ j, v.ownBlock = some j → B ≤ j := fun j hj => (h.rowV.lt j hj).1
    have hv'B : ∀ j, v'.ownBlock = some j → v.ownBlock = some j ∨ wr.heap.size ≤ j := fun j hj => by
      rcases h6 with h7 | ⟨i, h7, h8⟩
      · exact .inl (h7 ▸ hj)
      · rw [h7] at hj; cases hj; exact .inr h8
    have hgl : g < wr.heap.size := lt_of_block h.body
    have hfl : f < wr.heap.size := lt_of_block h.file
    have hBw := h.hB
    have hin : ∀ j ∈ [b, g] ++ v.ownBlock.toList, j = b ∨ (B ≤ j ∧ (j = g ∨ v.ownBlock = some j)) := fun j hj => by
      simp at hj
      rcases hj with rfl | rfl | hj
      · exact .inl rfl
      · exact .inr ⟨h.gB, .inl rfl⟩
      · exact .inr ⟨hvB j hj, .inr hj⟩
    have hrow : w'.ownsRow B 5 1 v' (tot L (k + 1)) ((cat X (k + 1)).map (Value.int .u8)) := by
      have h7 := row_base h4 (B := B) (fun j hj => by rcases hv'B j hj with h8 | h8 <;> first | exact hvB j h8 | (omega))
      show w'.ownsRow B 5 1 v' (tot L k + L k) ((cat X k ++ X k).map (Value.int .u8))
      rw [List.map_append]
      exact h7
    have hroww := ownsRow_keeps h.rowW h5 (fun j hj hm => by
      have h7 := (h.rowW.lt j hj).1
      rcases hin j hm with rfl | ⟨_, rfl | h8⟩
      · have := h.bB; omega
      · exact h.wg hj
      · exact h.vw j h8 hj)
    have hf' := fine' (L k) rfl
    exact ⟨v', _, rfl, { fs := (h1), fine := (hf'), used := (by show s.used + (L k : Int) = _; omega), written := (by show s.written + (L k : Int) = _; omega), mpe := (h.mpe), she := (h.she), life := (h.life), opn := (h.opn), file := (by rw [h.life] at h2; exact h2), body := (h3), rowV := (hrow), rowW := (hroww), hB := (Nat.le_trans h.hB h5.size), bB := (h.bB), mB := (h.mB), fB := (h.fB), gB := (h.gB), fg := (h.fg), vg := (fun e => by rcases hv'B g e with h8 | h8 <;> first | exact h.vg h8 | (omega)), vf := (fun e => by rcases hv'B f e with h8 | h8 <;> first | exact h.vf h8 | (omega)), wg := (h.wg), wf := (h.wf), vw := (fun j hj e => by rcases hv'B j hj with h8 | h8 <;> first | exact h.vw j h8 e | (have := (h.rowW.lt j e).2; omega)), map := (ownsMap_keeps h.map h5 (fun hm => by rcases hin mp hm with h8 | ⟨h8, _⟩ <;> first | exact h.bm h8 | (have := h.mB; omega))), short := (h.short.keepsB h5 h.shB (fun j hj => by rcases hin j hj with h8 | ⟨h8, _⟩ <;> first | exact .inl h8 | exact .inr h8)), shB := (h.shB), wB := (h.wB), bm := (h.bm), old := (((h.old.mono (by simp)).trans h5).drop (fun j hj => .inr (by have h6 := h.bB; have h8 := h.wB.1; rcases hin j hj with h9 | ⟨h9, _⟩ <;> omega))) }⟩

/-- The File is closed, between two pieces or behind the last. -/
structure TapeShut (w : World) (B b mp g : Nat) (sh : Value) (X : Nat → List Int) (L : Nat → Nat) (M : Int) (k : Nat) (v want : Value) (s : FSt) (wr : World) : Prop where
  fs : FsAt wr b 0 s
  fine : Fine s (M + 4 * (k : Int))
  used : s.used = (tot L k : Nat)
  written : s.written = (tot L k : Nat)
  mpe : s.mp = mp
  she : s.sh = sh
  life : s.life = 0
  opn : s.opn = 0
  body : BodyAt wr g v 0 0 false
  rowV : wr.ownsRow B 5 1 v (tot L k) ((cat X k).map (Value.int .u8))
  rowW : wr.ownsRow B 5 1 want (tot L k) ((cat X k).map (Value.int .u8))
  hB : B ≤ wr.heap.size
  bB : b < B
  mB : mp < B
  gB : B ≤ g
  vg : v.ownBlock ≠ some g
  wg : want.ownBlock ≠ some g
  vw : ∀ j, v.ownBlock = some j → want.ownBlock ≠ some j
  map : wr.ownsMap Try.prog 9 heldR mp 1 ((DataW.map []).put (key tape) (.held (.pointer (some ⟨g, 0, none⟩))))
  short : ShortAt wr sh b
  shB : ∀ so sb sn sc, sh = .slice (some ⟨sb, so, none⟩) sn sc → 0 < sn → sb < B
  wB : w.heap.size ≤ b ∧ w.heap.size ≤ mp
  bm : mp ≠ b
  old : Keeps [] w wr

theorem tape_close {w : World} {B b mp g : Nat} {sh : Value} {X : Nat → List Int} {L : Nat → Nat} {M : Int} {k f : Nat} {v want : Value} {s : FSt} {wr : World} (h : TapeIn w B b mp g sh X L M k k f v want s wr) (hM : M + 4 * (k : Int) < 1152921504606846976) :
    Calls Try.prog 14 #[.pointer (some ⟨f, 0, none⟩)] wr fun e w' => ∃ s', e = .returned (.int .i64 0) ∧ TapeShut w B b mp g sh X L (M + 1) k v want s' w' := by
  have hF := h.fine
  have hc1 := hF.c1
  have ho1 := hF.o1 4
  have hfile : FileAt wr f b s.life tape true true false g 0 0 := by rw [h.life]; exact h.file
  have hfb : f ≠ b := by have := h.fB; have := h.bB; omega
  have hgb : g ≠ b := by have := h.gB; have := h.bB; omega
  have hopn := h.opn
  refine (close_ok f b g s tape true 0 0 v 0 1 true wr h.fs hfile h.body hfb hgb h.fg (by omega) (by omega) (by omega) (by omega) hF.fa hF.pi hF.c0 (by omega) (hF.o0 4) (by omega) (.inl hF.pp) hF.drk).mono ?_
  rintro e w' ⟨rfl, h1, h2, h3, h5⟩
  have h0 := Fine.mono (hF.called 4) (show M + 4 * (k : Int) + 1 ≤ M + 1 + 4 * (k : Int) by omega)
  have hf' : Fine { s.called 4 false with opn := s.opn - 1 } (M + 1 + 4 * (k : Int)) := ⟨h0.fa, h0.pi, h0.pp, h0.drk, h0.c0, h0.c1, h0.o0, h0.o1, h0.m0, h0.m1, by show 0 ≤ s.opn - 1; omega, h0.mh, h0.mb, h0.mf, h0.w0, h0.w1⟩
  have hin : ∀ j ∈ [b, f, g], j = b ∨ B ≤ j := fun j hj => by have := h.fB; have := h.gB; simp at hj; omega
  exact ⟨_, rfl, { fs := (h1), fine := (hf'), used := (h.used), written := (h.written), mpe := (h.mpe), she := (h.she), life := (h.life), opn := (by show s.opn - 1 = 0; omega), body := (h3), rowV := (ownsRow_keeps h.rowV h5 (fun j hj hm => by have h6 := (h.rowV.lt j hj).1; have h7 := h.bB; simp at hm; rcases hm with rfl | rfl | rfl <;> first | (omega) | exact h.vf hj | exact h.vg hj)), rowW := (ownsRow_keeps h.rowW h5 (fun j hj hm => by have h6 := (h.rowW.lt j hj).1; have h7 := h.bB; simp at hm; rcases hm with rfl | rfl | rfl <;> first | (omega) | exact h.wf hj | exact h.wg hj)), hB := (Nat.le_trans h.hB h5.size), bB := (h.bB), mB := (h.mB), gB := (h.gB), vg := (h.vg), wg := (h.wg), vw := (h.vw), map := (ownsMap_keeps h.map h5 (fun hm => by have := h.mB; rcases hin mp hm with h8 | h8 <;> first | exact h.bm h8 | (omega))), short := (h.short.keepsB h5 h.shB hin), shB := (h.shB), wB := (h.wB), bm := (h.bm), old := (((h.old.mono (by simp)).trans h5).drop (fun j hj => .inr (by have h6 := h.bB; have h8 := h.wB.1; rcases hin j hj with h9 | h9 <;> omega))) }⟩

theorem tape_at (g : Nat) : ((DataW.map []).put (key tape) (.held (.pointer (some ⟨g, 0, none⟩))) : DataW Value).atKey (key tape) (.held (.pointer none)) = .held (.pointer (some ⟨g, 0, none⟩)) := by
  rfl

theorem tape_reopen {w : World} {B b mp g : Nat} {sh : Value} {X : Nat → List Int} {L : Nat → Nat} {M : Int} {k : Nat} {v want : Value} {s : FSt} {wr : World} (h : TapeShut w B b mp g sh X L M k v want s wr) (hM : M + 4 * (k : Int) < 1152921504606846976) :
    Calls Try.prog 12 #[.pointer (some ⟨b, 0, none⟩), .string tape, .int .u8 4] wr fun e w' => ∃ f s', e = .returned (.tuple #[.pointer (some ⟨f, 0, none⟩), .int .i64 0]) ∧ TapeIn w B b mp g sh X L (M + 1) k k f v want s' w' := by
  have hF := h.fine
  have hc1 := hF.c1
  have ho1 := hF.o1 0
  have hgb : g ≠ b := by have := h.gB; have := h.bB; omega
  have hopn := h.opn
  have hmh := hF.mh
  refine (open_append b g s 1 _ tape v 0 false wr h.fs tape_nam (by rw [h.mpe]; exact h.map) (by rw [h.mpe]; exact h.bm) (tape_at g) h.body hgb (by omega) hF.fa hF.pi hF.c0 (by omega) (hF.o0 0) (by omega) (.inl hF.pp) hF.drk (by omega) (by omega)).mono ?_
  rintro e w' ⟨f, rfl, h1, h2, h3, h5, h6⟩
  have h0 := Fine.mono (hF.called 0) (show M + 4 * (k : Int) + 1 ≤ M + 1 + 4 * (k : Int) by omega)
  have hf' : Fine ((s.called 0 false).opened 0) (M + 1 + 4 * (k : Int)) := ⟨h0.fa, h0.pi, h0.pp, h0.drk, h0.c0, h0.c1, h0.o0, h0.o1, by show 0 ≤ s.made + 0; have := hF.m0; omega, by show s.made + 0 ≤ _; have := hF.m1; omega, by show 0 ≤ s.opn + 1; omega, h0.mh, h0.mb, h0.mf, h0.w0, h0.w1⟩
  have hin : ∀ j ∈ [b, g], j = b ∨ B ≤ j := fun j hj => by have := h.gB; simp at hj; omega
  have hgl : g < wr.heap.size := lt_of_block h.body
  have hBw := h.hB
  exact ⟨f, _, rfl, { fs := (h1), fine := (hf'), used := (h.used), written := (h.written), mpe := (h.mpe), she := (h.she), life := (h.life), opn := (by show s.opn + 1 = 1; omega), file := (by rw [h.life] at h3; exact h3), body := (h2), rowV := (ownsRow_keeps h.rowV h5 (fun j hj hm => by have h6 := (h.rowV.lt j hj).1; have h7 := h.bB; simp at hm; rcases hm with rfl | rfl <;> first | (omega) | exact h.vg hj)), rowW := (ownsRow_keeps h.rowW h5 (fun j hj hm => by have h6 := (h.rowW.lt j hj).1; have h7 := h.bB; simp at hm; rcases hm with rfl | rfl <;> first | (omega) | exact h.wg hj)), hB := (Nat.le_trans h.hB h5.size), bB := (h.bB), mB := (h.mB), fB := (by omega), gB := (h.gB), fg := (by omega), vg := (h.vg), vf := (fun e => by have := (h.rowV.lt _ e).2; omega), wg := (h.wg), wf := (fun e => by have := (h.rowW.lt _ e).2; omega), vw := (h.vw), map := (ownsMap_keeps h.map h5 (fun hm => by have := h.mB; rcases hin mp hm with h8 | h8 <;> first | exact h.bm h8 | (omega))), short := (h.short.keepsB h5 h.shB hin), shB := (h.shB), wB := (h.wB), bm := (h.bm), old := (((h.old.mono (by simp)).trans h5).drop (fun j hj => .inr (by have h6 := h.bB; have h8 := h.wB.1; rcases hin j hj with h9 | h9 <;> omega))) }⟩
end Go.Proofs.Ytfplfnhhiipgcaa
