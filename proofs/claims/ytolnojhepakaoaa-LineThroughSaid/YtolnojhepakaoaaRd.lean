/- A Reader in memory; find: the walks. -/
import Derived.Test.YtolnojhepakaoaaSplit
import Derived.Test.YtolnojhepakaoaaLineSplits
import Derived.Deep.QuietTactic
import Derived.BigQuiet
namespace Go.Proofs.Ytolnojhepakaoaa
open Go.RowKit

/-- What a Reader says. -/
structure Rd where
  f : Nat
  size : Int
  sep : Int
  buf : Value
  fr : Nat
  up : Nat
  cl : Nat
  en : Bool
  ba : Bool
  ln : Int
  er : Int
def Rd.arr (d : Rd) : Array Value := #[.pointer (some ⟨d.f, 0, none⟩), .int .i64 d.size, .int .u8 d.sep, d.buf, .int .i64 d.fr, .int .i64 d.up, .int .i64 d.cl, .bool d.en, .bool d.ba, .int .i64 d.ln, .int .i64 d.er]
def RdAt (w : World) (r : Nat) (d : Rd) : Prop := w.heap[r]? = some (.cells d.arr 102 (0, 0))
theorem RdAt.keeps {S : List Nat} {w w' : World} {r : Nat} {d : Rd} (h : RdAt w r d) (k : Keeps S w w') (hr : r ∉ S) : RdAt w' r d := (k.block r (lt_of_block h) hr).trans h
theorem RdAt.cell {w : World} {r : Nat} {d : Rd} (h : RdAt w r d) (i : Nat) : w.cell? ⟨r, i, none⟩ = d.arr[i]? := cell_of h
theorem RdAt.free {w : World} {r : Nat} {d : Rd} (h : RdAt w r d) (i : Nat) : w.frozen? ⟨r, i, none⟩ = false := free_of h
theorem RdAt.set {w : World} {r : Nat} {d d' : Rd} (h : RdAt w r d) (i : Nat) (v : Value) (e : d.arr.setIfInBounds i v = d'.arr) : RdAt (w.setCell ⟨r, i, none⟩ v) r d' := by
  unfold RdAt; rw [heap_set h, e]
theorem RdAt.ofDrewN {w w' : World} {n r : Nat} {d : Rd} (h : RdAt w r d) (e : w.drewN n = w') : RdAt w' r d := by rw [← e]; exact h

/-- The rest: what was read and not yet given. -/
def Rd.rest (d : Rd) (bs : List Int) : List Int := (bs.drop d.fr).take (d.up - d.fr)

/-- No separator in the first c bytes: the place is behind them. -/
theorem idx_skip (sep : Int) : ∀ (c : Nat) (zs : List Int), c ≤ zs.length → (∀ j, j < c → zs.getD j 0 ≠ sep) → idx sep zs = c + idx sep (zs.drop c)
  | 0, zs, _, _ => by simp
  | c + 1, [], h, _ => by simp at h
  | c + 1, x :: r, h, hn => by
    have h0 : x ≠ sep := by simpa using hn 0 (by omega)
    have ih := idx_skip sep c r (by simpa using h) (fun j hj => by simpa using hn (j + 1) (by omega))
    simp only [idx, if_neg h0, List.drop_succ_cons, ih]
    omega
theorem idx_clean (sep : Int) : ∀ (zs : List Int) (j : Nat), j < idx sep zs → zs.getD j 0 ≠ sep
  | [], j, h => by simp [idx] at h
  | x :: r, j, h => by
    by_cases e : x = sep
    · simp [idx, e] at h
    · simp only [idx, if_neg e] at h
      cases j with
      | zero => simpa using e
      | succ j => simpa using idx_clean sep r j (by omega)

/-- The slice that find looks through holds these bytes. -/
theorem look_yes (a : Addr) (n c : Nat) (xs : List Int) (sep : Int) (w : World) (hs : InByte sep) (hl : xs.length = n) (hb : ∀ z ∈ xs, InByte z) (hc : ∀ i, i < n → w.cell? (a.add i) = some (.int .u8 (xs.getD i 0))) (k : Nat) (hk : idx sep xs = k) (hi : k < n) :
    Calls Try.prog 39 #[.slice (some a) n c, .int .u8 sep] w fun e w' => e = .returned (.int .i64 (k : Int)) ∧ w' = w := by
  refine (Try.bytes_IndexByte_at a n c xs sep w hl hc).mono ?_
  rintro e w' ⟨rfl, rfl⟩
  rw [indexByte_idx sep hs xs hb, hl, hk, if_pos hi]
  exact ⟨rfl, rfl⟩
theorem look_no (a : Addr) (n c : Nat) (xs : List Int) (sep : Int) (w : World) (hs : InByte sep) (hl : xs.length = n) (hb : ∀ z ∈ xs, InByte z) (hc : ∀ i, i < n → w.cell? (a.add i) = some (.int .u8 (xs.getD i 0))) (hi : ¬ idx sep xs < n) :
    Calls Try.prog 39 #[.slice (some a) n c, .int .u8 sep] w fun e w' => e = .returned (.int .i64 (-1)) ∧ w' = w := by
  refine (Try.bytes_IndexByte_at a n c xs sep w hl hc).mono ?_
  rintro e w' ⟨rfl, rfl⟩
  rw [indexByte_idx sep hs xs hb, hl, if_neg hi]
  exact ⟨rfl, rfl⟩

/-- What find leaves. -/
def Found (w : World) (r : Nat) (d : Rd) (R : List Int) (e : Ending) (w' : World) : Prop :=
  Keeps [r] w w' ∧ ((idx d.sep R < R.length ∧ e = .returned (.tuple #[.int .i64 (idx d.sep R : Nat), .bool true]) ∧ RdAt w' r d) ∨
    (¬ idx d.sep R < R.length ∧ e = .returned (.tuple #[.int .i64 0, .bool false]) ∧ RdAt w' r { d with cl := R.length }))

set_option maxRecDepth 100000 in
set_option maxHeartbeats 1600000 in
/-- find, where the bytes that it looks at have an address of their own. -/
theorem find_in (r g L cap : Nat) (d : Rd) (bs : List Int) (w : World) (hr : RdAt w r d) (hbuf : d.buf = .slice (some ⟨g, 0, none⟩) L cap) (hbl : bs.length = L) (hbc : ∀ j, j < L → w.cell? ⟨g, j, none⟩ = some (.int .u8 (bs.getD j 0))) (hbb : ∀ z ∈ bs, InByte z) (hs : InByte d.sep)
    (h1 : d.fr ≤ d.up) (h2 : d.up ≤ L) (h3 : L ≤ cap) (h4 : d.cl ≤ d.up - d.fr) (hcap : cap ≤ 9223372036854775807) (hcl : ∀ j, j < d.cl → (d.rest bs).getD j 0 ≠ d.sep) (hin : d.fr + d.cl < cap) :
    Calls Try.prog 47 #[.pointer (some ⟨r, 0, none⟩)] w (Found w r d (d.rest bs)) := by
  have hRl : (d.rest bs).length = d.up - d.fr := by unfold Rd.rest; simp; omega
  have hsk := idx_skip d.sep d.cl (d.rest bs) (by omega) hcl
  have g2 : w.cell? ⟨r, 2, none⟩ = some (.int .u8 d.sep) := by rw [hr.cell]; rfl
  have g3 : w.cell? ⟨r, 3, none⟩ = some (.slice (some ⟨g, 0, none⟩) L cap) := by rw [hr.cell, ← hbuf]; rfl
  have g4 : w.cell? ⟨r, 4, none⟩ = some (.int .i64 d.fr) := by rw [hr.cell]; rfl
  have g5 : w.cell? ⟨r, 5, none⟩ = some (.int .i64 d.up) := by rw [hr.cell]; rfl
  have g6 : w.cell? ⟨r, 6, none⟩ = some (.int .i64 d.cl) := by rw [hr.cell]; rfl
  have Hr := Lib.hid hr
  have Hbuf := Lib.hid hbuf
  have Hbl := Lib.hid hbl
  have Hbc := Lib.hid hbc
  have Hbb := Lib.hid hbb
  have Hs := Lib.hid hs
  have Hcl := Lib.hid hcl
  have HRl := Lib.hid hRl
  have Hsk := Lib.hid hsk
  clear hr hbuf hbl hbc hbb hs hcl hRl hsk
  go_enter Try.func47, Try.ntmps47
  go_wp2_with fail
  go_quiet (fail)
  generalize hw1 : w.drewN _ = w1 at *
  have hr1 := Hr.out.ofDrewN hw1
  have k1 := (Keeps.refl [r] w).ofDrewN hw1
  have hbc1 : ∀ j, j < L → w1.cell? ⟨g, j, none⟩ = some (.int .u8 (bs.getD j 0)) := fun j hj => by rw [← hw1]; exact Hbc.out j hj
  have g2 : w1.cell? ⟨r, 2, none⟩ = some (.int .u8 d.sep) := by rw [hr1.cell]; rfl
  have g6 : w1.cell? ⟨r, 6, none⟩ = some (.int .i64 d.cl) := by rw [hr1.cell]; rfl
  have Hr1 := Lib.hid hr1
  have K1 := Lib.hid k1
  have Hbc1 := Lib.hid hbc1
  clear hw1 hr1 k1 hbc1 Hr Hbc g3 g4 g5
  have hxl : ((d.rest bs).drop d.cl).length = d.up - d.fr - d.cl := by rw [List.length_drop, HRl.out]
  have hxb : ∀ z ∈ (d.rest bs).drop d.cl, InByte z := fun z hz => Hbb.out z (by have := List.mem_of_mem_drop hz; unfold Rd.rest at this; exact List.mem_of_mem_drop (List.mem_of_mem_take this))
  have hxc : ∀ i, i < d.up - d.fr - d.cl → w1.cell? ((⟨g, d.fr + d.cl, none⟩ : Addr).add i) = some (.int .u8 (((d.rest bs).drop d.cl).getD i 0)) := fun i hi => by
    have e : (⟨g, d.fr + d.cl, none⟩ : Addr).add i = ⟨g, d.fr + d.cl + i, none⟩ := by unfold Addr.add; split <;> simp_all
    rw [e, Hbc1.out _ (by omega)]
    unfold Rd.rest
    have h5 : d.cl + i < d.up - d.fr := by omega
    simp [List.getD, h5, Nat.add_assoc]
  have Hxl := Lib.hid hxl
  have Hxb := Lib.hid hxb
  have Hxc := Lib.hid hxc
  clear hxl hxb hxc
  have hne : ¬ cap - d.fr = d.cl := by omega
  by_cases hf : idx d.sep ((d.rest bs).drop d.cl) < d.up - d.fr - d.cl
  · obtain ⟨k, hk⟩ : ∃ k, idx d.sep ((d.rest bs).drop d.cl) = k := ⟨_, rfl⟩
    rw [hk] at hf
    have Hk := Lib.hid hk
    clear hk
    go_wp2_with fail
    go_quiet ((go_at_call 39; exact Calls.quiet_of_same (look_yes ⟨g, d.fr + d.cl, none⟩ _ _ ((d.rest bs).drop d.cl) d.sep _ Hs.out Hxl.out Hxb.out (by exact Hxc.out) k Hk.out hf)))
    generalize hw2 : w1.drewN _ = w2 at *
    have hr2 := Hr1.out.ofDrewN hw2
    have k2 := K1.out.ofDrewN hw2
    have g6 : w2.cell? ⟨r, 6, none⟩ = some (.int .i64 d.cl) := by rw [hr2.cell]; rfl
    have Hr2 := Lib.hid hr2
    have K2 := Lib.hid k2
    clear hw2 hr2 k2 g2 Hr1 K1 Hbc1 Hxc
    go_wp2_with fail
    go_ret2
    have hi : idx d.sep (d.rest bs) = d.cl + k := by rw [Hsk.out, Hk.out]
    refine ⟨K2.out, .inl ⟨by rw [hi, HRl.out]; omega, ?_, Hr2.out⟩⟩
    rw [hi]
    simp
  · have Hf := Lib.hid hf
    clear hf
    go_wp2_with fail
    go_quiet ((go_at_call 39; exact Calls.quiet_of_same (look_no ⟨g, d.fr + d.cl, none⟩ _ _ ((d.rest bs).drop d.cl) d.sep _ Hs.out Hxl.out Hxb.out (by exact Hxc.out) Hf.out)))
    generalize hw2 : w1.drewN _ = w2 at *
    have hr2 := Hr1.out.ofDrewN hw2
    have k2 := K1.out.ofDrewN hw2
    have g6 : w2.cell? ⟨r, 6, none⟩ = some (.int .i64 d.cl) := by rw [hr2.cell]; rfl
    have f6 := hr2.free 6
    have Hr2 := Lib.hid hr2
    have K2 := Lib.hid k2
    clear hw2 hr2 k2 g2 Hr1 K1 Hbc1 Hxc
    go_wp2_with fail
    go_ret2
    refine ⟨K2.out.setCell (by simp) _, .inr ⟨by rw [Hsk.out, HRl.out]; have := Hf.out; omega, rfl, ?_⟩⟩
    rw [HRl.out]
    refine Hr2.out.set 6 _ ?_
    simp [Rd.arr]
end Go.Proofs.Ytolnojhepakaoaa
