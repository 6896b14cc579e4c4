/- Next of a Reader over a file that is open to be read: the walk. -/
import Derived.Test.YtolnojhepakaoaaLive
namespace Go.Proofs.Ytolnojhepakaoaa
open Go.RowKit Go.Maps Go.MuLone

/-- How many rounds are left at most. -/
def leftOf (f r n : Nat) (w : World) : Nat :=
  2 * (n - (match w.cell? ⟨f, 7, none⟩ with | some (.int _ x) => x.toNat | _ => 0)) + (match w.cell? ⟨r, 7, none⟩ with | some (.bool true) => 0 | _ => 1)

/-- So many calls may still be counted. -/
def Bud (en : Bool) (N : Int) (m : Nat) : Prop := N + (m : Int) + (if en then 0 else 1) < 4611686018427387904
theorem Bud.lt {en : Bool} {N : Int} {m : Nat} (h : Bud en N m) : N < 4611686018427387904 := by
  unfold Bud at h
  cases en <;> simp at h <;> omega
theorem Bud.next {N : Int} {n p k : Nat} (h : Bud false N (n - p)) (hk : p + k ≤ n) (h0 : k = 0 → p = n) : Bud (decide (k = 0)) (N + 1) (n - (p + k)) := by
  unfold Bud at h ⊢
  by_cases e : k = 0
  · have := h0 e
    simp [e] at h ⊢
    omega
  · simp [e] at h ⊢
    omega

/-- What a Reader's calls leave alone: all blocks but its own, its file's, its system's and its buffer's. -/
def Frame (w : World) (b f r : Nat) (d d' : Rd) (w' : World) : Prop :=
  Keeps ([b, f, r] ++ d.buf.ownBlock.toList) w w' ∧ ∀ j, d'.buf.ownBlock = some j → d.buf.ownBlock = some j ∨ w.heap.size ≤ j
theorem Frame.refl (w : World) (b f r : Nat) (d : Rd) : Frame w b f r d d w := ⟨Keeps.refl _ _, fun _ hj => .inl hj⟩
theorem Frame.trans {w w' w'' : World} {b f r : Nat} {d d' d'' : Rd} (h : Frame w b f r d d' w') (k : Frame w' b f r d' d'' w'') : Frame w b f r d d'' w'' := by
  have k1 : Keeps ([b, f, r] ++ d.buf.ownBlock.toList ++ d'.buf.ownBlock.toList) w w' := h.1.mono (fun x hx => List.mem_append_left _ hx)
  have k2 : Keeps ([b, f, r] ++ d.buf.ownBlock.toList ++ d'.buf.ownBlock.toList) w' w'' := k.1.mono (fun x hx => by
    rcases List.mem_append.1 hx with h | h
    · exact List.mem_append_left _ (List.mem_append_left _ h)
    · exact List.mem_append_right _ h)
  have hs := h.1.size
  refine ⟨(k1.trans k2).drop (fun x hx => ?_), fun j hj => ?_⟩
  · rcases List.mem_append.1 hx with h1 | h1
    · exact .inl h1
    · have h' : d'.buf.ownBlock = some x := by simpa using h1
      rcases h.2 x h' with e | e
      · exact .inl (List.mem_append_right _ (by simp [e]))
      · exact .inr e
  · rcases k.2 j hj with e | e
    · exact h.2 j e
    · right; omega
theorem Frame.of {w w' : World} {b f r : Nat} {d d' : Rd} (k : Keeps [r] w w') (e : d'.buf = d.buf) : Frame w b f r d d' w' :=
  ⟨k.mono (fun x hx => by rw [List.mem_singleton.1 hx]; simp), fun j hj => .inl (by rw [← e]; exact hj)⟩

def NextRel (w : World) (B r f b g : Nat) (d : Rd) (R : List Int) (nm : ByteArray) (q : Int) (v : Value) (n : Nat) (sy op : Int) (wr : Bool) (zs : List Int) (w' : World) : Prop :=
  ∃ (d' : Rd) (bs' : List Int) (s' : FSt) (N' : Int) (p' : Nat), Live w' B r f d' bs' p' n ∧ Src w' B f b g s' N' nm p' q v n sy op wr zs ∧ d'.rest bs' ++ zs.drop p' = R ∧ d'.ba = d.ba ∧ d'.ln = d.ln ∧ d'.sep = d.sep ∧
    Bud d'.en N' (n - p') ∧ Frame w b f r d d' w'

theorem Live.err {w : World} {B r f p n : Nat} {d : Rd} {bs : List Int} (h : Live w B r f d bs p n) : w.cell? ⟨r, 10, none⟩ = some (.int .i64 0) := by
  rw [h.rd.cell, ← h.er]; rfl
theorem Live.ofDrew {w : World} {B r f p n q : Nat} {d : Rd} {bs : List Int} (h : Live w B r f d bs p n) : Live (w.drewN q) B r f d bs p n :=
  ⟨h.rd, ⟨h.buf.row, h.buf.byte, h.buf.h1, h.buf.h2, h.buf.h4, h.buf.clean, h.buf.sep⟩, h.df, h.sz, h.rB, h.hL, h.hT, h.er, h.en⟩
theorem Src.above {w w' : World} {S : List Nat} {B f b g : Nat} {s : FSt} {N : Int} {nm : ByteArray} {p : Nat} {q : Int} {v : Value} {n : Nat} {sy op : Int} {wr : Bool} {zs : List Int} (h : Src w B f b g s N nm p q v n sy op wr zs) (k : Keeps S w w') (hS : ∀ x ∈ S, B ≤ x) : Src w' B f b g s N nm p q v n sy op wr zs := by
  have low : ∀ x, x < B → x ∉ S := fun x hx hm => by have := hS x hm; omega
  exact ⟨h.fs.keeps k (low b h.bB), h.fine, h.file.keeps k (low f h.fB), h.body.keeps k (low g h.gB), ownsRow_keeps h.row k (fun j hj => low j (h.vB j hj)), h.hn, h.hp, h.zb, h.sh.keeps k (fun so sb sn sc e h0 => low sb (h.shB so sb sn sc e h0).1), Nat.le_trans h.hB k.size, h.fB, h.bB, h.gB, h.vB, h.shB⟩
theorem Src.ofDrew {w : World} {B f b g m : Nat} {s : FSt} {N : Int} {nm : ByteArray} {p : Nat} {q : Int} {v : Value} {n : Nat} {sy op : Int} {wr : Bool} {zs : List Int} (h : Src w B f b g s N nm p q v n sy op wr zs) : Src (w.drewN m) B f b g s N nm p q v n sy op wr zs :=
  h.above (S := []) ((Keeps.refl [] w).drewN m) (by simp)
theorem idx_none (sep : Int) {R : List Int} (h : ¬ idx sep R < R.length) : ∀ j, j < R.length → R.getD j 0 ≠ sep := fun j hj => idx_clean sep R j (by have := idx_le sep R; omega)
/-- find leaves a Reader that stands. -/
theorem Live.found {w w' : World} {B r f p n : Nat} {d : Rd} {bs : List Int} {e : Ending} (h : Live w B r f d bs p n) (hf : Found w r d (d.rest bs) e w') :
    Keeps [r] w w' ∧ ∃ d', d'.rest bs = d.rest bs ∧ d'.ba = d.ba ∧ d'.ln = d.ln ∧ d'.sep = d.sep ∧ d'.en = d.en ∧ d'.buf = d.buf ∧ Live w' B r f d' bs p n ∧
      ((idx d.sep (d.rest bs) < (d.rest bs).length ∧ e = .returned (.tuple #[.int .i64 (idx d.sep (d.rest bs) : Nat), .bool true])) ∨ (¬ idx d.sep (d.rest bs) < (d.rest bs).length ∧ e = .returned (.tuple #[.int .i64 0, .bool false]))) := by
  obtain ⟨k, h1⟩ := hf
  have n3 := row_ne h.buf.row h.rd (by decide)
  have hrow := ownsRow_keeps h.buf.row k (fun j hj => by have := n3 j hj; simpa using this)
  refine ⟨k, ?_⟩
  rcases h1 with ⟨hi, rfl, hr⟩ | ⟨hi, rfl, hr⟩
  · exact ⟨d, rfl, rfl, rfl, rfl, rfl, rfl, ⟨hr, ⟨hrow, h.buf.byte, h.buf.h1, h.buf.h2, h.buf.h4, h.buf.clean, h.buf.sep⟩, h.df, h.sz, h.rB, h.hL, h.hT, h.er, h.en⟩, .inl ⟨hi, rfl⟩⟩
  · refine ⟨{ d with cl := (d.rest bs).length }, rfl, rfl, rfl, rfl, rfl, rfl, ⟨hr, ⟨hrow, h.buf.byte, h.buf.h1, h.buf.h2, ?_, idx_none d.sep hi, h.buf.sep⟩, h.df, h.sz, h.rB, h.hL, h.hT, h.er, h.en⟩, .inr ⟨hi, rfl⟩⟩
    show (d.rest bs).length ≤ d.up - d.fr
    exact Nat.le_of_eq (rest_len h.buf.h1 h.buf.h2)

/-- give, of a Reader that stands. -/
theorem Live.give {w : World} {B r f p N : Nat} {d : Rd} {bs : List Int} (h : Live w B r f d bs p N) (n skip : Nat) (hn : n + skip ≤ (d.rest bs).length) (h0 : 0 < (d.rest bs).length) (l0 : 0 ≤ d.ln) (l1 : d.ln < 4611686018427387904) :
    Calls Try.prog 48 #[.pointer (some ⟨r, 0, none⟩), .int .i64 (n : Int), .int .i64 (skip : Int)] w fun e w' => ∃ d', e = .returned (.string (strOfNums ((d.rest bs).take n))) ∧ Keeps [r] w w' ∧ Live w' B r f d' bs p N ∧ d'.rest bs = (d.rest bs).drop (n + skip) ∧ d'.ba = d.ba ∧ d'.ln = d.ln + 1 ∧ d'.sep = d.sep ∧ d'.en = d.en ∧ d'.buf = d.buf := by
  have hrl := rest_len h.buf.h1 h.buf.h2
  have h1 := h.buf.h1
  have h2 := h.buf.h2
  have hL := h.hL
  have hT := h.hT
  rcases row_cells h.buf.row with ⟨_, e⟩ | ⟨g, cap, hbuf, hc1, hc2, hcell⟩
  · rw [e] at h2
    simp at h2
    omega
  · refine (give_in r g bs.length cap d bs n skip w h.rd hbuf rfl hcell (by omega) h2 hc1 hc2 (by omega) (by omega) l0 l1).mono ?_
    rintro e w' ⟨rfl, hr, k⟩
    have n3 := row_ne h.buf.row h.rd (by decide)
    have hrest : Rd.rest { d with fr := d.fr + n + skip, cl := 0, ln := d.ln + 1 } bs = (d.rest bs).drop (n + skip) := by
      show (bs.drop (d.fr + n + skip)).take (d.up - (d.fr + n + skip)) = ((bs.drop d.fr).take (d.up - d.fr)).drop (n + skip)
      rw [List.drop_take, List.drop_drop, Nat.add_assoc, Nat.sub_sub]
    refine ⟨{ d with fr := d.fr + n + skip, cl := 0, ln := d.ln + 1 }, rfl, k, ⟨hr, ⟨ownsRow_keeps h.buf.row k (fun j hj => by have := n3 j hj; simpa using this), h.buf.byte, by show d.fr + n + skip ≤ d.up; omega, h2, Nat.zero_le _, fun j hj => absurd hj (Nat.not_lt_zero _), h.buf.sep⟩, h.df, h.sz, h.rB, hL, ?_, h.er, h.en⟩, hrest, rfl, rfl, rfl, rfl, rfl⟩
    rw [hrest, List.length_drop]
    omega

theorem idx_app (sep : Int) (ys : List Int) : ∀ xs : List Int, idx sep xs < xs.length → idx sep (xs ++ ys) = idx sep xs
  | [], h => by simp [idx] at h
  | x :: r, h => by
    by_cases hx : x = sep
    · simp [idx, hx]
    · simp [idx, hx] at h ⊢
      exact idx_app sep ys r h
/-- What Next gives: a line and what is left, the last line, which has no separator, or nothing. -/
def Gives (w : World) (B r f b g : Nat) (d : Rd) (R : List Int) (nm : ByteArray) (q : Int) (v : Value) (n : Nat) (sy op : Int) (wr : Bool) (zs : List Int) (e : Ending) (w' : World) : Prop :=
  ∃ (d' : Rd) (bs' : List Int) (s' : FSt) (N' : Int) (p' : Nat), Live w' B r f d' bs' p' n ∧ Src w' B f b g s' N' nm p' q v n sy op wr zs ∧ d'.sep = d.sep ∧ Bud d'.en N' (n - p') ∧ Frame w b f r d d' w' ∧
    ((idx d.sep R < R.length ∧ e = .returned (.tuple #[.string (strOfNums (R.take (idx d.sep R))), .bool true, .int .i64 0]) ∧ d'.rest bs' ++ zs.drop p' = R.drop (idx d.sep R + 1) ∧ d'.ba = d.ba ∧ d'.ln = d.ln + 1) ∨
     (¬ idx d.sep R < R.length ∧ R ≠ [] ∧ e = .returned (.tuple #[.string (strOfNums R), .bool true, .int .i64 0]) ∧ d'.rest bs' ++ zs.drop p' = [] ∧ d'.ba = true ∧ d'.ln = d.ln + 1) ∨
     (R = [] ∧ e = .returned (.tuple #[.string ⟨#[]⟩, .bool false, .int .i64 0]) ∧ d'.rest bs' ++ zs.drop p' = [] ∧ d'.ba = d.ba ∧ d'.ln = d.ln))
theorem left_at {w : World} {B r f b g : Nat} {d : Rd} {bs : List Int} {s : FSt} {N : Int} {nm : ByteArray} {p : Nat} {q : Int} {v : Value} {n : Nat} {sy op : Int} {wr : Bool} {zs : List Int} (h : Live w B r f d bs p n) (hs : Src w B f b g s N nm p q v n sy op wr zs) :
    leftOf f r n w = 2 * (n - p) + (if d.en then 0 else 1) := by
  have c : w.cell? ⟨f, 7, none⟩ = some (.int .i64 (p : Int)) := by rw [cell_of hs.file]; rfl
  have e := (rd_more h.rd).1
  unfold leftOf
  rw [c, e]
  cases d.en <;> simp
theorem rd_bare {w : World} {r : Nat} {d : Rd} (h : RdAt w r d) : w.cell? ⟨r, 8, none⟩ = some (.bool d.ba) ∧ w.frozen? ⟨r, 8, none⟩ = false :=
  ⟨by rw [h.cell]; rfl, h.free 8⟩
theorem Live.bare {w : World} {B r f p n : Nat} {d : Rd} {bs : List Int} (h : Live w B r f d bs p n) : Live (w.setCell ⟨r, 8, none⟩ (.bool true)) B r f { d with ba := true } bs p n := by
  have k : Keeps [r] w (w.setCell ⟨r, 8, none⟩ (.bool true)) := (Keeps.refl [r] w).setCell (by simp) _
  have n3 := row_ne h.buf.row h.rd (by decide)
  exact ⟨h.rd.set 8 _ rfl, ⟨ownsRow_keeps h.buf.row k (fun j hj => by have := n3 j hj; simpa using this), h.buf.byte, h.buf.h1, h.buf.h2, h.buf.h4, h.buf.clean, h.buf.sep⟩, h.df, h.sz, h.rB, h.hL, h.hT, h.er, h.en⟩

set_option maxRecDepth 100000 in
set_option maxHeartbeats 3200000 in
theorem rd_next (r B f b g : Nat) (d : Rd) (bs : List Int) (s : FSt) (N : Int) (nm : ByteArray) (p : Nat) (q : Int) (v : Value) (n : Nat) (sy op : Int) (wr : Bool) (zs : List Int) (w : World) (hl : Live w B r f d bs p n) (hs : Src w B f b g s N nm p q v n sy op wr zs)
    (hN : Bud d.en N (n - p)) (hR : (d.rest bs).length + (n - p) ≤ 65536) (l0 : 0 ≤ d.ln) (l1 : d.ln < 4611686018427387904) :
    Calls Try.prog 23 #[.pointer (some ⟨r, 0, none⟩)] w (Gives w B r f b g d (d.rest bs ++ zs.drop p) nm q v n sy op wr zs) := by
  have g10 : w.cell? ⟨r, 10, none⟩ = some (.int .i64 0) := by rw [hl.rd.cell, ← hl.er]; rfl
  have Hl := Lib.hid hl
  have Hs := Lib.hid hs
  clear hl hs
  obtain ⟨R, hR0⟩ : ∃ R, R = d.rest bs ++ zs.drop p := ⟨_, rfl⟩
  rw [← hR0]
  have hzl : zs.length = n := by have := Hs.out.row.1; simpa using this
  have hRl : R.length ≤ 65536 := by rw [hR0, List.length_append, List.length_drop, hzl]; omega
  have HR := Lib.hid hR0
  have Hzl := Lib.hid hzl
  have HRl := Lib.hid hRl
  clear hR0 hzl hRl
  go_enter Try.func23, Try.ntmps23
  go_wp2_with fail
  clear g10
  go_loopw [] (fun wr' => NextRel w B r f b g d R nm q v n sy op wr zs wr') (fun wr' => leftOf f r n wr')
  case atStart => exact ⟨d, bs, s, N, p, Hl.out, Hs.out, HR.out.symm, rfl, rfl, rfl, hN, Frame.refl _ _ _ _ _⟩
  case round =>
    obtain ⟨d1, bs1, s1, N1, p1, hl1, hs1, hR1, hba, hln, hsp, hN1, hF1⟩ := hrel
    have k10 := hl1.err
    have Hl1 := Lib.hid hl1
    have Hs1 := Lib.hid hs1
    have HR1 := Lib.hid hR1
    have Hba := Lib.hid hba
    have Hln := Lib.hid hln
    have Hsp := Lib.hid hsp
    have HN1 := Lib.hid hN1
    have HF1 := Lib.hid hF1
    clear hF1
    clear hl1 hs1 hR1 hba hln hsp hN1
    go_wp2_with fail
    refine (find_any r B d1 bs1 _ Hl1.out.rd Hl1.out.buf).mono ?_
    rintro e w2 hfound
    obtain ⟨k2, d2, hrest2, hba2, hln2, hsp2, hen2, hsz2, hl2, hway⟩ := Hl1.out.found hfound
    have hs2 := Hs1.out.above k2 (by intro x hx; rw [List.mem_singleton.1 hx]; exact hl2.rB)
    obtain ⟨c3, c4, c5, f3, f4, f5⟩ := rd_facts hl2.rd
    obtain ⟨c7, f7⟩ := rd_more hl2.rd
    obtain ⟨c8, f8⟩ := rd_bare hl2.rd
    have hrl := rest_len hl2.buf.h1 hl2.buf.h2
    have hb1 := hl2.buf.h1
    have hb2 := hl2.buf.h2
    have hbL := hl2.hL
    have Hl2 := Lib.hid hl2
    have Hs2 := Lib.hid hs2
    have Hrest2 := Lib.hid hrest2
    have Hba2 := Lib.hid hba2
    have Hln2 := Lib.hid hln2
    have Hsp2 := Lib.hid hsp2
    have Hen2 := Lib.hid hen2
    have HF2 := Lib.hid (HF1.out.trans (Frame.of k2 hsz2))
    have hRle : (d1.rest bs1).length ≤ 65536 := by have h := HRl.out; rw [← HR1.out, List.length_append] at h; omega
    have hrl1 : (d1.rest bs1).length = d2.up - d2.fr := by rw [← hrest2]; exact hrl
    clear hl2 hs2 hfound k10 hrest2 hba2 hln2 hsp2 hen2 hsz2 k2 hrl
    rcases hway with ⟨hi, rfl⟩ | ⟨hi, rfl⟩
    · obtain ⟨m, hm⟩ : ∃ m, m = idx d1.sep (d1.rest bs1) := ⟨_, rfl⟩
      rw [← hm] at hi ⊢
      have Hm := Lib.hid hm
      clear hm
      have tm : decide ((m : Int) ≤ 65536) = true := by rw [decide_eq_true_iff]; omega
      go_wp2_with fail
      refine wp_goes fun J hJ => ?_
      go_quiet (fail)
      refine hJ _ _ ?_
      clear hJ
      go_wp2_with fail
      refine (Hl2.out.ofDrew.give m 1 (by rw [Hrest2.out]; omega) (by rw [Hrest2.out]; omega) (by rw [Hln2.out, Hln.out]; exact l0) (by rw [Hln2.out, Hln.out]; exact l1)).mono ?_
      rintro e w3 ⟨d3, rfl, k3, hl3, hrest3, hba3, hln3, hsp3, hen3, hbf3⟩
      have Hgive := Lib.hid (And.intro k3 (And.intro hl3 (And.intro hrest3 (And.intro hba3 (And.intro hln3 (And.intro hsp3 (And.intro hen3 hbf3)))))))
      clear k3 hl3 hrest3 hba3 hln3 hsp3 hen3 hbf3
      go_wp2_with fail
      go_ret3
      obtain ⟨k3, hl3, hrest3, hba3, hln3, hsp3, hen3, hbf3⟩ := Hgive.out
      have hs3 := Hs2.out.ofDrew.above k3 (by intro x hx; rw [List.mem_singleton.1 hx]; exact hl3.rB)
      have hix : idx d.sep R = m := by rw [← HR1.out, ← Hsp.out, idx_app _ _ _ (by rw [← Hm.out]; exact hi), ← Hm.out]
      have htk : List.take m (d2.rest bs1) = R.take (idx d.sep R) := by rw [hix, ← HR1.out, List.take_append_of_le_length (by omega), Hrest2.out]
      exact ⟨d3, bs1, s1, N1, p1, hl3, hs3, by rw [hsp3, Hsp2.out, Hsp.out], by rw [hen3, Hen2.out]; exact HN1.out, HF2.out.trans (Frame.of ((Keeps.refl [r] _).drewN _ |>.trans k3) hbf3), .inl ⟨by rw [hix, ← HR1.out, List.length_append]; omega, congrArg (fun x => Ending.returned (.tuple #[.string (strOfNums x), .bool true, .int .i64 0])) htk,
        by rw [hix, hrest3, Hrest2.out, ← HR1.out, List.drop_append_of_le_length (by omega)], by rw [hba3, Hba2.out, Hba.out], by rw [hln3, Hln2.out, Hln.out]⟩⟩
    · have t1 : decide (65536 < (d2.up : Int) - d2.fr) = false := by rw [decide_eq_false_iff_not]; omega
      cases hE : d2.en with
      | true =>
        rw [hE] at c7
        have HE := Lib.hid hE
        clear hE
        by_cases h0 : (d1.rest bs1).length = 0
        · have t2 : ((d2.up : Int) - d2.fr == 0) = true := by rw [beq_iff_eq]; omega
          go_wp2_with fail
          refine wp_goes fun J hJ => ?_
          go_quiet (fail)
          refine hJ _ _ ?_
          clear hJ
          go_wp2_with fail
          go_ret3
          have hpn : p1 = n := Hl2.out.en HE.out
          have hz : zs.drop p1 = [] := List.drop_eq_nil_of_le (by rw [Hzl.out, hpn]; exact Nat.le_refl _)
          have hR : R = d1.rest bs1 := by rw [← HR1.out, hz, List.append_nil]
          have hR0 : R = [] := by rw [hR]; exact List.eq_nil_of_length_eq_zero h0
          exact ⟨d2, bs1, s1, N1, p1, Hl2.out.ofDrew, Hs2.out.ofDrew, by rw [Hsp2.out, Hsp.out], by rw [Hen2.out]; exact HN1.out, HF2.out.trans (Frame.of ((Keeps.refl [r] _).drewN _) rfl), .inr (.inr ⟨hR0, rfl, by rw [Hrest2.out, HR1.out, hR0], by rw [Hba2.out, Hba.out], by rw [Hln2.out, Hln.out]⟩)⟩
        · have t2 : ((d2.up : Int) - d2.fr == 0) = false := by rw [beq_eq_false_iff_ne]; omega
          go_wp2_with fail
          refine wp_goes fun J hJ => ?_
          go_quiet (fail)
          refine hJ _ _ ?_
          clear hJ
          go_wp2_with fail
          have ec : ((d2.up : Int) - d2.fr) = (((d1.rest bs1).length : Nat) : Int) := by rw [hrl1]; omega
          rw [ec]
          refine (Live.give Hl2.out.ofDrew.bare (d1.rest bs1).length 0 (by show _ ≤ (d2.rest bs1).length; rw [Hrest2.out]; exact Nat.le_refl _) (by show 0 < (d2.rest bs1).length; rw [Hrest2.out]; omega) (by show 0 ≤ d2.ln; rw [Hln2.out, Hln.out]; exact l0) (by show d2.ln < _; rw [Hln2.out, Hln.out]; exact l1)).mono ?_
          rintro e w3 ⟨d3, rfl, k3, hl3, hrest3, hba3, hln3, hsp3, hen3, hbf3⟩
          have Hgive := Lib.hid (And.intro k3 (And.intro hl3 (And.intro hrest3 (And.intro hba3 (And.intro hln3 (And.intro hsp3 (And.intro hen3 hbf3)))))))
          clear k3 hl3 hrest3 hba3 hln3 hsp3 hen3 hbf3
          go_wp2_with fail
          go_ret3
          obtain ⟨k3, hl3, hrest3, hba3, hln3, hsp3, hen3, hbf3⟩ := Hgive.out
          have hpn : p1 = n := Hl2.out.en HE.out
          have hz : zs.drop p1 = [] := List.drop_eq_nil_of_le (by rw [Hzl.out, hpn]; exact Nat.le_refl _)
          have hR : R = d1.rest bs1 := by rw [← HR1.out, hz, List.append_nil]
          have hs3 := (Hs2.out.ofDrew.above ((Keeps.refl [r] _).setCell (by simp) (.bool true)) (by intro x hx; rw [List.mem_singleton.1 hx]; exact hl3.rB)).above k3 (by intro x hx; rw [List.mem_singleton.1 hx]; exact hl3.rB)
          have htk : List.take (d2.up - d2.fr) (Rd.rest { d2 with ba := true } bs1) = R := by rw [← hrl1]; show List.take _ (d2.rest bs1) = R; rw [Hrest2.out, List.take_length, hR]
          exact ⟨d3, bs1, s1, N1, p1, hl3, hs3, by rw [hsp3]; show d2.sep = d.sep; rw [Hsp2.out, Hsp.out], by rw [hen3]; show Bud d2.en N1 (n - p1); rw [Hen2.out]; exact HN1.out, HF2.out.trans (Frame.of ((((Keeps.refl [r] _).drewN _).trans ((Keeps.refl [r] _).setCell (by simp) (.bool true))).trans k3) hbf3), .inr (.inl ⟨by rw [hR, ← Hsp.out]; exact hi, fun e => h0 (by rw [← hR, e]; rfl), congrArg (fun x => Ending.returned (.tuple #[.string (strOfNums x), .bool true, .int .i64 0])) htk,
            by rw [hrest3, hz, List.append_nil]; exact List.drop_eq_nil_of_le (by show (d2.rest bs1).length ≤ _; rw [Hrest2.out]; exact Nat.le_refl _), hba3, by rw [hln3]; show d2.ln + 1 = d.ln + 1; rw [Hln2.out, Hln.out]⟩)⟩
      | false =>
        rw [hE] at c7
        have HE := Lib.hid hE
        clear hE
        go_wp2_with fail
        refine wp_goes fun J hJ => ?_
        go_quiet (fail)
        refine hJ _ _ ?_
        clear hJ
        go_wp2_with fail
        refine (rd_read r B f b g d2 bs1 s1 N1 nm p1 q v n sy op _ zs _ Hl2.out.ofDrew.rd Hl2.out.ofDrew.buf Hl2.out.df Hl2.out.sz Hs2.out.ofDrew.fs Hs2.out.fine HN1.out.lt Hs2.out.ofDrew.file Hs2.out.ofDrew.body Hs2.out.ofDrew.row Hs2.out.hn Hs2.out.hp Hs2.out.zb Hs2.out.ofDrew.sh Hl2.out.hL Hs2.out.ofDrew.hB (block_ne Hs2.out.body Hs2.out.fs (by decide)) (fun e => row_ne Hs2.out.row Hs2.out.fs (by decide) b e rfl)).mono ?_
        rintro e w3 htook
        obtain ⟨rfl, k, d3, bs3, h1, h2, hl3, hs3, h3, h4, h5, h6, h7, h8, h9, h10⟩ := Hl2.out.ofDrew.read Hs2.out.ofDrew htook
        have Hgot := Lib.hid (And.intro hl3 (And.intro hs3 (And.intro h4 (And.intro h5 (And.intro h7 (And.intro h8 (And.intro h9 h10)))))))
        clear htook hl3 hs3 h3 h4 h5 h6 h7 h8 h9 h10
        go_wp2_with fail
        obtain ⟨hl3, hs3, h4, h5, h7, h8, h9, h10⟩ := Hgot.out
        have e1 : d1.en = false := by rw [← Hen2.out]; exact HE.out
        have hb := HN1.out
        rw [e1] at hb
        refine ⟨⟨d3, bs3, s1.called 1 false, N1 + 1, p1 + k, hl3, hs3, by rw [h4, Hrest2.out, HR1.out], by rw [h8, Hba2.out, Hba.out], by rw [h9, Hln2.out, Hln.out], by rw [h7, Hsp2.out, Hsp.out], by rw [h5]; exact hb.next h1 h2, (HF2.out.trans (Frame.of (d := d2) (d' := d2) ((Keeps.refl [r] _).drewN _) rfl)).trans h10⟩, ?_⟩
        rw [left_at hl3 hs3, left_at Hl1.out Hs1.out, e1, h5]
        by_cases hk : k = 0
        · have := h2 hk
          simp [hk]
        · simp [hk]
          omega
end Go.Proofs.Ytolnojhepakaoaa
