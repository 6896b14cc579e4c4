/- The cutter: bytes taken off the front. -/
import Derived.Test.YtlbekgcfafofdaaDoorLw
import Derived.Test.YtlbekgcfafofdaaDoorPe
namespace Go.Proofs.YtlbekgcfafofdaaDoor
open Go.RowKit
set_option maxRecDepth 100000

/-- A slice of bytes at a plain place, within its capacity. -/
def SlC (w : World) (v : Value) (l : List UInt8) : Prop := (v = .slice none 0 0 ∧ l = []) ∨ ∃ b off c, v = .slice (some ⟨b, off, none⟩) l.length c ∧ l.length ≤ c ∧ c ≤ 9223372036854775807 ∧ b < w.heap.size ∧ ∀ j u, l[j]? = some u → w.cell? ⟨b, off + j, none⟩ = some (.int .u8 u.toNat)
theorem SlC.kp {w w' : World} {v : Value} {l : List UInt8} {S : Nat → Prop} (h : SlC w v l) (k : Kp w w' S) (hn : ∀ b, v.ownBlock = some b → ¬ S b) : SlC w' v l := by
  rcases h with h | ⟨b, off, c, hv, h1, h2, h3, h4⟩
  · exact Or.inl h
  · refine Or.inr ⟨b, off, c, hv, h1, h2, Nat.lt_of_lt_of_le h3 k.size, fun j u hu => ?_⟩
    have := k.block b h3 (hn b (by rw [hv]; rfl))
    exact (World.cell?_of_block (a := ⟨b, off + j, none⟩) this).trans (h4 j u hu)
theorem SlC.below {w w' : World} {v : Value} {l : List UInt8} (h : SlC w v l) (k : Below w.heap.size w w') : SlC w' v l := h.kp (Kp.of (fun _ => False) k) (fun _ _ => id)
theorem SlC.sl {w : World} {v : Value} {l : List UInt8} (h : SlC w v l) : SlB w v l := by
  rcases h with ⟨rfl, rfl⟩ | ⟨b, off, c, hv, h1, h2, h3, h4⟩
  · exact SlB.nil w
  · exact ⟨_, c, hv, (fun e => by cases e), Or.inr ⟨b, off, rfl, h3, h4⟩⟩
theorem OwnB.slc {w : World} {B : Nat} {v : Value} {l : List UInt8} (h : OwnB w B v l) : SlC w v l := by
  rcases h.1.2 with ⟨rfl, hn⟩ | ⟨g, cap, cur, hv, hb, hg, h1, h2, _⟩
  · exact Or.inl ⟨rfl, List.eq_nil_of_length_eq_zero hn⟩
  · refine Or.inr ⟨g, 0, cap, hv, h1, by unfold maxLen at h2; omega, lt_of_heap hg, fun j u hu => ?_⟩
    have := h.1.cells (g := g) (by rw [hv]; rfl) j (.int .u8 u.toNat) (by unfold byV; simp [hu])
    rw [add_plain] at this
    exact this
/-- The first n bytes. -/
theorem SlC.take {w : World} {b off m c : Nat} {l : List UInt8} (h : SlC w (.slice (some ⟨b, off, none⟩) m c) l) (n : Nat) (hn : n ≤ l.length) : SlC w (.slice (some ⟨b, off, none⟩) n c) (l.take n) := by
  rcases h with ⟨h, _⟩ | ⟨b', off', c', hv, h1, h2, h3, h4⟩
  · cases h
  · injection hv with e1 e2 e3
    injection e1 with e1
    injection e1 with e4 e5
    subst e3 e4 e5
    have hl : (l.take n).length = n := by rw [List.length_take]; omega
    refine Or.inr ⟨b, off, c, by rw [hl], by rw [hl]; omega, h2, h3, fun j u hu => h4 j u ?_⟩
    rw [List.getElem?_take] at hu
    split at hu
    · exact hu
    · cases hu
/-- What is behind them, as Go lays it: at the array's end the address stays. -/
def dropV (b off m c n : Nat) : Value := if c = n then .slice (some ⟨b, off, none⟩) (m - n) (c - n) else .slice (some ⟨b, off + n, none⟩) (m - n) (c - n)
theorem SlC.drop {w : World} {b off m c : Nat} {l : List UInt8} (h : SlC w (.slice (some ⟨b, off, none⟩) m c) l) (n : Nat) (hn : n ≤ l.length) : SlC w (dropV b off m c n) (l.drop n) := by
  rcases h with ⟨h, _⟩ | ⟨b', off', c', hv, h1, h2, h3, h4⟩
  · cases h
  · injection hv with e1 e2 e3
    injection e1 with e1
    injection e1 with e4 e5
    subst e2 e3 e4 e5
    have hl : (l.drop n).length = l.length - n := List.length_drop
    unfold dropV
    by_cases hc : c = n
    · rw [if_pos hc]
      have : l.drop n = [] := List.drop_of_length_le (by omega)
      exact Or.inr ⟨b, off, c - n, by rw [hl], by rw [hl]; omega, by omega, h3, fun j u hu => by rw [this] at hu; cases hu⟩
    · rw [if_neg hc]
      refine Or.inr ⟨b, off + n, c - n, by rw [hl], by rw [hl]; omega, by omega, h3, fun j u hu => ?_⟩
      rw [List.getElem?_drop] at hu
      rw [Nat.add_assoc]
      exact h4 _ u hu
/-- A cutter: what is left, and whether there was too little. -/
structure CutAt (w : World) (p : Nat) (l : List UInt8) (fl : Bool) (v : Value) : Prop where
  blk : BlkAt w p 82 [v, .bool fl]
  sl : SlC w v l
  low : ∀ b, v.ownBlock = some b → b < p
def CutPost (w : World) (p : Nat) (l : List UInt8) (fl : Bool) (n : Nat) (e : Ending) (w' : World) : Prop := ∃ v v', e = .returned v ∧ SlC w' v (l.take n) ∧ (∀ b, v.ownBlock = some b → b < p) ∧ CutAt w' p (l.drop n) (fl || decide (l.length < n)) v' ∧ Kp w w' (fun k => k = p)
set_option maxHeartbeats 3200000 in
theorem cut_some (p b off cp n : Nat) (l : List UInt8) (fl : Bool) (w : World) (hn : n ≤ 9223372036854775807) (h : CutAt w p l fl (.slice (some ⟨b, off, none⟩) l.length cp)) :
    Calls Tryd.prog 50 #[.pointer (some ⟨p, 0, none⟩), .int .i64 n] w (CutPost w p l fl n) := by
  have H := Lib.hid h
  have hcp : l.length ≤ cp ∧ cp ≤ 9223372036854775807 := by
    rcases h.sl with ⟨h, _⟩ | ⟨b', off', c', hv, h1, h2, _⟩
    · cases h
    · injection hv with e1 e2 e3
      subst e3
      exact ⟨h1, h2⟩
  have c0 := h.blk.cell 0 _ rfl
  have c1 := h.blk.cell 1 _ rfl
  have f0 := h.blk.free 0
  have f1 := h.blk.free 1
  clear h
  have lc : (l.length : Int) ≤ (cp : Int) := by omega
  by_cases hlt : l.length < n
  · have t1 : decide ((l.length : Int) < (n : Int)) = true := decide_eq_true (by omega)
    have t1n : decide (l.length < n) = true := decide_eq_true hlt
    have FI := Lib.hid (fun (q : Nat) {e : Ending} (he : e = .returned (.slice (some ⟨b, off, none⟩) l.length cp)) => show CutPost w p l fl n e (((w.setCell ⟨p, 1, none⟩ (.bool true)).setCell ⟨p, 0, none⟩ (dropV b off l.length cp l.length))) from by
      have k : Kp w ((w.setCell ⟨p, 1, none⟩ (.bool true)).setCell ⟨p, 0, none⟩ (dropV b off l.length cp l.length)) (fun k => k = p) := (Kp.set w p 1 _).tr (Kp.set _ p 0 _)
      have hb := H.out.low b rfl
      have s1 := H.out.sl.kp k (fun x hx e => by have := H.out.low x hx; omega)
      have d1 := (s1.drop l.length (Nat.le_refl _))
      refine ⟨_, dropV b off l.length cp l.length, he, ?_, H.out.low, ⟨?_, ?_, ?_⟩, k⟩
      · rw [List.take_of_length_le (by omega)]; exact s1
      · have := (H.out.blk.set 1 (.bool true)).set 0 (dropV b off l.length cp l.length)
        rw [t1n, Bool.or_true]
        exact this
      · rw [List.drop_of_length_le (show l.length ≤ n by omega)]
        rw [List.drop_of_length_le (Nat.le_refl _)] at d1
        exact d1
      · intro x hx
        unfold dropV at hx
        split at hx <;> (simp [Value.ownBlock] at hx; omega))
    by_cases he : cp = l.length
    · have ev : dropV b off l.length cp l.length = .slice (some ⟨b, off, none⟩) 0 0 := by unfold dropV; rw [if_pos he, he, Nat.sub_self]
      rw [ev] at FI
      subst he
      clear hlt hcp
      go_enter Tryd.func50, Tryd.ntmps50
      go_wp2_with fail
      go_ret
      exact FI.out 0 rfl
    · have ev : dropV b off l.length cp l.length = .slice (some ⟨b, off + l.length, none⟩) 0 (cp - l.length) := by unfold dropV; rw [if_neg he, Nat.sub_self]
      rw [ev] at FI
      have h1 : ¬ (cp : Int) = (l.length : Int) := by omega
      clear hlt hcp
      go_enter Tryd.func50, Tryd.ntmps50
      go_wp2_with fail
      go_ret
      exact FI.out 0 rfl
  · have t1 : decide ((l.length : Int) < (n : Int)) = false := decide_eq_false (by omega)
    have t1n : decide (l.length < n) = false := decide_eq_false hlt
    have n1 : (n : Int) ≤ (l.length : Int) := by omega
    have n1n : n ≤ l.length := by omega
    have n2n : n ≤ cp := by omega
    have FI := Lib.hid (fun (q : Nat) {e : Ending} (he : e = .returned (.slice (some ⟨b, off, none⟩) n cp)) => show CutPost w p l fl n e ((w.setCell ⟨p, 0, none⟩ (dropV b off l.length cp n))) from by
      have k : Kp w (w.setCell ⟨p, 0, none⟩ (dropV b off l.length cp n)) (fun k => k = p) := Kp.set w p 0 _
      have hb := H.out.low b rfl
      have s1 := H.out.sl.kp k (fun x hx e => by have := H.out.low x hx; omega)
      refine ⟨_, dropV b off l.length cp n, he, s1.take n n1n, H.out.low, ⟨?_, s1.drop n n1n, ?_⟩, k⟩
      · have := H.out.blk.set 0 (dropV b off l.length cp n)
        rw [t1n, Bool.or_false]
        exact this
      · intro x hx
        unfold dropV at hx
        split at hx <;> (simp [Value.ownBlock] at hx; omega))
    by_cases he : cp = n
    · have ev : dropV b off l.length cp n = .slice (some ⟨b, off, none⟩) (l.length - n) (cp - n) := by unfold dropV; rw [if_pos he]
      rw [ev] at FI
      subst he
      simp only [Nat.sub_self] at FI
      clear hlt hcp
      go_enter Tryd.func50, Tryd.ntmps50
      go_wp2_with fail
      go_ret
      exact FI.out 0 rfl
    · have ev : dropV b off l.length cp n = .slice (some ⟨b, off + n, none⟩) (l.length - n) (cp - n) := by unfold dropV; rw [if_neg he]
      rw [ev] at FI
      have h1 : ¬ (cp : Int) = (n : Int) := by omega
      clear hlt hcp
      go_enter Tryd.func50, Tryd.ntmps50
      go_wp2_with fail
      go_ret
      exact FI.out 0 rfl
theorem cut_none (p n : Nat) (fl : Bool) (w : World) (hn : n ≤ 9223372036854775807) (h : CutAt w p [] fl (.slice none 0 0)) :
    Calls Tryd.prog 50 #[.pointer (some ⟨p, 0, none⟩), .int .i64 n] w (CutPost w p [] fl n) := by
  have H := Lib.hid h
  have c0 := h.blk.cell 0 _ rfl
  have c1 := h.blk.cell 1 _ rfl
  have f0 := h.blk.free 0
  have f1 := h.blk.free 1
  clear h
  have e1 : ([] : List UInt8).take n = [] := List.take_nil
  have e2 : ([] : List UInt8).drop n = [] := List.drop_nil
  by_cases hlt : 0 < n
  · have t1 : decide (0 < (n : Int)) = true := decide_eq_true (by omega)
    have t1n : decide (0 < n) = true := decide_eq_true hlt
    have FI := Lib.hid (fun (e : Ending) (he : e = .returned (.slice none 0 0)) => show CutPost w p [] fl n e (((w.setCell ⟨p, 1, none⟩ (.bool true)).setCell ⟨p, 0, none⟩ (.slice none 0 0))) from by
      have k : Kp w ((w.setCell ⟨p, 1, none⟩ (.bool true)).setCell ⟨p, 0, none⟩ (.slice none 0 0)) (fun k => k = p) := (Kp.set w p 1 _).tr (Kp.set _ p 0 _)
      refine ⟨_, .slice none 0 0, he, by rw [e1]; exact Or.inl ⟨rfl, rfl⟩, (fun x hx => by cases hx), ⟨?_, by rw [e2]; exact Or.inl ⟨rfl, rfl⟩, (fun x hx => by cases hx)⟩, k⟩
      have := (H.out.blk.set 1 (.bool true)).set 0 (.slice none 0 0)
      rw [show decide (([] : List UInt8).length < n) = true from t1n, Bool.or_true]
      exact this)
    clear hlt e1 e2
    go_enter Tryd.func50, Tryd.ntmps50
    go_wp2_with fail
    go_ret
    exact FI.out _ rfl
  · have hn0 : n = 0 := by omega
    subst hn0
    have FI := Lib.hid (fun (e : Ending) (he : e = .returned (.slice none 0 0)) => show CutPost w p [] fl 0 e (w.setCell ⟨p, 0, none⟩ (.slice none 0 0)) from by
      refine ⟨_, .slice none 0 0, he, Or.inl ⟨rfl, rfl⟩, (fun x hx => by cases hx), ⟨?_, Or.inl ⟨rfl, rfl⟩, (fun x hx => by cases hx)⟩, Kp.set w p 0 _⟩
      have := H.out.blk.set 0 (.slice none 0 0)
      rw [show decide (([] : List UInt8).length < 0) = false from rfl, Bool.or_false]
      exact this)
    clear hlt e1 e2
    go_enter Tryd.func50, Tryd.ntmps50
    go_wp2_with fail
    go_ret
    exact FI.out _ rfl
theorem cut_ok {w : World} {p n : Nat} {l : List UInt8} {fl : Bool} {v : Value} (hn : n ≤ 9223372036854775807) (h : CutAt w p l fl v) : Calls Tryd.prog 50 #[.pointer (some ⟨p, 0, none⟩), .int .i64 n] w (CutPost w p l fl n) := by
  rcases h.sl with ⟨hv, hl⟩ | ⟨b, off, c, hv, _⟩
  · subst hv hl
    exact cut_none p n fl w hn h
  · subst hv
    exact cut_some p b off c n l fl w hn h
def NumPost (w : World) (p : Nat) (l : List UInt8) (fl : Bool) (n : Nat) (x : Value) (e : Ending) (w' : World) : Prop := e = .returned x ∧ ∃ v', CutAt w' p (l.drop n) (fl || decide (l.length < n)) v' ∧ Kp w w' (fun k => k = p)
theorem cnum_ok {w : World} {p n : Nat} {l : List UInt8} {fl : Bool} {v : Value} (hn : n ≤ 8) (h : CutAt w p l fl v) : Calls Tryd.prog 49 #[.pointer (some ⟨p, 0, none⟩), .int .i64 n] w (NumPost w p l fl n (.int .u64 (valB (l.take n) : Nat))) := by
  have CU := Lib.hid (cut_ok (n := n) (by omega) h)
  clear h
  go_enter Tryd.func49, Tryd.ntmps49
  go_wp2_with fail
  refine CU.out.mono ?_
  rintro e w1 ⟨v1, v2, rfl, s1, _, c1, k1⟩
  have NU := Lib.hid (number_ok v1 (l.take n) w1 (by rw [List.length_take]; omega) s1.sl)
  have C1 := Lib.hid c1
  have K1 := Lib.hid k1
  clear s1 c1 k1
  generalize valB (l.take n) = x at *
  go_wp2_with fail
  refine NU.out.mono ?_
  rintro e w2 ⟨rfl, rfl⟩
  go_wp2_with fail
  go_ret
  exact ⟨rfl, _, C1.out, K1.out⟩
theorem iw_wrap (x : Nat) : IntKind.i64.wrap (x : Int) = iw x := by
  unfold iw wrap64
  exact IntKind.wrap_i64 _
theorem iw_wrap64 (x : Nat) : wrap64 (x : Int) = iw x := rfl
theorem ccount_ok {w : World} {p n : Nat} {l : List UInt8} {fl : Bool} {v : Value} (hn : n ≤ 8) (h : CutAt w p l fl v) : Calls Tryd.prog 51 #[.pointer (some ⟨p, 0, none⟩), .int .i64 n] w (NumPost w p l fl n (.int .i64 (iw (valB (l.take n))))) := by
  have CU := Lib.hid (cnum_ok hn h)
  clear h
  have IW : IntKind.i64.wrap ((valB (l.take n) : Nat) : Int) = iw (valB (l.take n)) := iw_wrap _
  have IW2 : wrap64 ((valB (l.take n) : Nat) : Int) = iw (valB (l.take n)) := iw_wrap64 _
  generalize iw (valB (l.take n)) = y at *
  generalize valB (l.take n) = x at *
  go_enter Tryd.func51, Tryd.ntmps51
  go_wp2_with fail
  refine CU.out.mono ?_
  rintro e w1 ⟨rfl, v1, c1, k1⟩
  have C1 := Lib.hid c1
  have K1 := Lib.hid k1
  clear c1 k1
  go_wp2_with fail
  go_ret
  exact ⟨rfl, _, C1.out, K1.out⟩
end Go.Proofs.YtlbekgcfafofdaaDoor
