/- appendTo: one key's image is appended. -/
import Derived.Test.YtnpnccjeapejdaaGreatDoorFxB
import Derived.Test.YtnpnccjeapejdaaGreatDoorTc
import Derived.Test.YtnpnccjeapejdaaGreatDoorNumWord
namespace Go.Proofs.YtnpnccjeapejdaaGreatDoor
section
open Go.RowKit
set_option maxRecDepth 100000
/-- The bytes from f on, as far as k, turned over. -/
def turnR (f k : Nat) (l : List UInt8) : List UInt8 := l.mapIdx fun j c => if f ≤ j ∧ j < k then 255 - c else c
theorem turnR_len (f k : Nat) (l : List UInt8) : (turnR f k l).length = l.length := by unfold turnR; simp
theorem turnR_one (f : Nat) (l : List UInt8) : turnR f f l = l := by
  unfold turnR
  apply List.ext_getElem
  · simp
  · intro j h1 h2
    rw [List.getElem_mapIdx, if_neg (by omega)]
theorem turnR_next (f k : Nat) (l : List UInt8) (hk : k < l.length) (h1 : f ≤ k) : (turnR f k l).set k (255 - l[k]) = turnR f (k + 1) l := by
  unfold turnR
  apply List.ext_getElem
  · simp
  · intro j h2 h3
    rw [List.getElem_set]
    by_cases e : k = j
    · subst e
      rw [if_pos rfl, List.getElem_mapIdx, if_pos (by omega)]
    · rw [if_neg e, List.getElem_mapIdx, List.getElem_mapIdx]
      by_cases c : f ≤ j ∧ j < k
      · rw [if_pos c, if_pos (by omega)]
      · rw [if_neg c, if_neg (by omega)]
theorem turnR_at (f k : Nat) (l : List UInt8) (hk : k < l.length) : (turnR f k l)[k]? = some l[k] := by
  unfold turnR
  rw [List.getElem?_mapIdx, List.getElem?_eq_getElem hk]
  simp
theorem turnR_all (a b : List UInt8) : turnR a.length (a ++ b).length (a ++ b) = a ++ b.map (255 - ·) := by
  unfold turnR
  apply List.ext_getElem
  · simp
  · intro j h1 h2
    rw [List.getElem_mapIdx]
    by_cases h : j < a.length
    · rw [if_neg (by omega), List.getElem_append_left h, List.getElem_append_left h]
    · have h3 : j < (a ++ b).length := by simpa using h1
      rw [if_pos (by omega), List.getElem_append_right (by omega), List.getElem_append_right (by omega), List.getElem_map]
def TuR (w0 : World) (B g cap f : Nat) (l : List UInt8) (i : Value) (wr : World) : Prop :=
  ∃ k : Nat, f ≤ k ∧ k ≤ l.length ∧ i = .int .i64 k ∧ OwnB wr B (.slice (some ⟨g, 0, none⟩) l.length cap) (turnR f k l) ∧ Below B w0 wr
theorem TuR.cell {wr : World} {B g cap f k : Nat} {l : List UInt8} (h : OwnB wr B (.slice (some ⟨g, 0, none⟩) l.length cap) (turnR f k l)) (hk : k < l.length) :
    wr.cell? ⟨g, k, none⟩ = some (.int .u8 l[k].toNat) ∧ wr.frozen? ⟨g, k, none⟩ = false := by
  have h1 : wr.ownsRow B 5 1 (.slice (some ⟨g, 0, none⟩) (turnR f k l).length cap) (turnR f k l).length (byV (turnR f k l)) := by
    have := h.1
    rw [turnR_len] at this ⊢
    exact this
  refine ⟨?_, h1.frozenAt k⟩
  rw [h1.cellAt k (by rw [turnR_len]; omega)]
  unfold byV
  rw [List.getElem?_map, turnR_at f k l hk]
  rfl
theorem TuR.next {w0 wr : World} {B g cap f k : Nat} {l : List UInt8} (h : OwnB wr B (.slice (some ⟨g, 0, none⟩) l.length cap) (turnR f k l)) (hb : Below B w0 wr) (hk : k < l.length) (h1 : f ≤ k) (i : Value) (hi : i = .int .i64 ((k + 1 : Nat) : Int)) (y : Int) (hy : y = 255 - (l[k].toNat : Int)) :
    TuR w0 B g cap f l i (wr.setCell ⟨g, k, none⟩ (.int .u8 y)) := by
  have h2 : wr.ownsRow B 5 1 (.slice (some ⟨g, 0, none⟩) (turnR f k l).length cap) (turnR f k l).length (byV (turnR f k l)) := by
    have := h.1
    rw [turnR_len] at this ⊢
    exact this
  have hg : B ≤ g := (h.1.lt g rfl).1
  obtain ⟨s1, s2⟩ := h2.stored k (.int .u8 y)
  have hy2 : y = ((255 - l[k] : UInt8).toNat : Int) := by
    rw [hy, UInt8.toNat_sub_of_le _ _ (by rw [UInt8.le_iff_toNat_le]; have := l[k].toNat_lt; simp; omega)]
    have := l[k].toNat_lt
    simp; omega
  have e : (byV (turnR f k l)).set k (.int .u8 y) = byV (turnR f (k + 1) l) := by
    rw [← turnR_next f k l hk h1, hy2]
    unfold byV
    rw [List.map_set]
  rw [e] at s1
  refine ⟨k + 1, by omega, hk, hi, ⟨?_, Nat.le_trans h.2 s2.size⟩, hb.setCell hg _⟩
  rw [turnR_len] at s1 ⊢
  exact s1
/-- What a call leaves that makes a row grow. -/
def RetRow (B : Nat) (w : World) (l : List UInt8) (e : Ending) (w' : World) : Prop := ∃ v, e = .returned v ∧ OwnB w' B v l ∧ Below B w w'
def turnL (b : Bool) (t : List UInt8) : List UInt8 := if b then t.map (255 - ·) else t

set_option maxHeartbeats 1600000 in
theorem turned_some (B g cap : Nat) (l : List UInt8) (t : ByteArray) (b : Bool) (w : World) (hown : OwnB w B (.slice (some ⟨g, 0, none⟩) l.length cap) l) (hl : l.length + t.size ≤ 100000000000000) (ht : 0 < t.size) :
    Calls Tryz.prog 20 #[.slice (some ⟨g, 0, none⟩) l.length cap, .string t, .bool b] w (RetRow B w (l ++ turnL b t.data.toList)) := by
  go_enter Tryz.func20, Tryz.ntmps20
  have HO := Lib.hid hown
  have hl2 : l.length + t.size ≤ 140737488355328 := by omega
  clear hown
  go_wp2_with (at_builtin; refine wp_apps rfl _ _ rfl B _ _ rfl HO.out t rfl ?c1 ?c2)
  case c1 => exact hl2
  intro v1 w1 p1 p2 p3
  have hm : (l ++ t.data.toList).length = l.length + t.size := by rw [List.length_append, ← Lib.size_eq]
  obtain ⟨M, hM⟩ : ∃ M, M = l ++ t.data.toList := ⟨_, rfl⟩
  have E1 := Lib.hid (show turnR l.length M.length M = l ++ t.data.toList.map (255 - ·) by rw [hM, turnR_all])
  have E0 := Lib.hid hM
  rw [← hM] at p1 hm
  obtain ⟨g1, cap1, rfl, hg1, hg2⟩ := p1.1.form (by omega)
  have O1 := Lib.hid p1
  have B1 := Lib.hid p2
  have HM := Lib.hid (show l.length ≤ M.length ∧ M.length ≤ 100000000000000 by omega)
  clear p1 p2 p3 hM hg1 hg2 hl hl2 ht hm
  generalize l.length = f at *
  cases b with
  | false =>
    go_wp2_with fail
    go_ret
    exact ⟨_, rfl, by rw [show l ++ turnL false t.data.toList = M from E0.out.symm]; exact O1.out, B1.out⟩
  | true =>
    go_wp2_with fail
    go_loopw [8] (fun i wq => TuR w B g1 cap1 f M i wq) (fun i _ => M.length - (intOf i).toNat)
    case atStart => exact ⟨f, Nat.le_refl _, HM.out.1, rfl, by rw [turnR_one]; exact O1.out, B1.out⟩
    case round =>
      obtain ⟨k, hk1, hk2, rfl, ho, hb⟩ := hrel
      have HO := Lib.hid ho
      have HBB := Lib.hid hb
      clear ho hb
      have hML := HM.out.2
      by_cases hlt : k < M.length
      · obtain ⟨x, hx, hby, c1, c2⟩ : ∃ x : Nat, x = M[k].toNat ∧ x < 256 ∧ wr.cell? ⟨g1, k, none⟩ = some (.int .u8 (x : Int)) ∧ wr.frozen? ⟨g1, k, none⟩ = false := ⟨_, rfl, M[k].toNat_lt, (TuR.cell HO.out hlt).1, (TuR.cell HO.out hlt).2⟩
        have HX := Lib.hid hx
        have HLT := Lib.hid hlt
        have HK1 := Lib.hid hk1
        clear hx
        go_wp2_with fail
        refine ⟨TuR.next HO.out HBB.out HLT.out HK1.out _ rfl _ ?_, ?_⟩
        · rw [← HX.out]
        · have := HLT.out; simp [intOf]; omega
      · have hke : k = M.length := by omega
        subst hke
        go_wp2_with fail
        go_ret
        refine ⟨_, rfl, ?_, HBB.out⟩
        have := HO.out
        rw [E1.out] at this
        exact this
set_option maxHeartbeats 1600000 in
theorem turned_nil (B : Nat) (t : ByteArray) (b : Bool) (w : World) (hown : OwnB w B (.slice none 0 0) []) (hl : t.size ≤ 100000000000000) (ht : 0 < t.size) :
    Calls Tryz.prog 20 #[.slice none 0 0, .string t, .bool b] w (RetRow B w (turnL b t.data.toList)) := by
  go_enter Tryz.func20, Tryz.ntmps20
  have HO := Lib.hid hown
  have hl2 : ([] : List UInt8).length + t.size ≤ 140737488355328 := by simp; omega
  clear hown
  go_wp2_with (at_builtin; refine wp_apps rfl _ _ rfl B _ _ rfl HO.out t rfl ?c1 ?c2)
  case c1 => exact hl2
  intro v1 w1 p1 p2 p3
  have hm : t.data.toList.length = t.size := by rw [← Lib.size_eq]
  obtain ⟨M, hM⟩ : ∃ M, M = t.data.toList := ⟨_, rfl⟩
  have E1 := Lib.hid (show turnR 0 M.length M = t.data.toList.map (255 - ·) by rw [hM]; exact turnR_all [] t.data.toList)
  have E0 := Lib.hid hM
  rw [← hM] at p1 hm
  obtain ⟨g1, cap1, rfl, hg1, hg2⟩ := p1.1.form (by omega)
  have O1 := Lib.hid p1
  have B1 := Lib.hid p2
  have HM := Lib.hid (show 0 ≤ M.length ∧ M.length ≤ 100000000000000 by omega)
  clear p1 p2 p3 hM hg1 hg2 hl hl2 ht hm
  cases b with
  | false =>
    go_wp2_with fail
    go_ret
    exact ⟨_, rfl, by rw [show turnL false t.data.toList = M from E0.out.symm]; exact O1.out, B1.out⟩
  | true =>
    go_wp2_with fail
    go_loopw [8] (fun i wq => TuR w B g1 cap1 0 M i wq) (fun i _ => M.length - (intOf i).toNat)
    case atStart => exact ⟨0, Nat.le_refl _, HM.out.1, rfl, by rw [turnR_one]; exact O1.out, B1.out⟩
    case round =>
      obtain ⟨k, hk1, hk2, rfl, ho, hb⟩ := hrel
      have HO := Lib.hid ho
      have HBB := Lib.hid hb
      clear ho hb
      have hML := HM.out.2
      by_cases hlt : k < M.length
      · obtain ⟨x, hx, hby, c1, c2⟩ : ∃ x : Nat, x = M[k].toNat ∧ x < 256 ∧ wr.cell? ⟨g1, k, none⟩ = some (.int .u8 (x : Int)) ∧ wr.frozen? ⟨g1, k, none⟩ = false := ⟨_, rfl, M[k].toNat_lt, (TuR.cell HO.out hlt).1, (TuR.cell HO.out hlt).2⟩
        have HX := Lib.hid hx
        have HLT := Lib.hid hlt
        have HK1 := Lib.hid hk1
        clear hx
        go_wp2_with fail
        refine ⟨TuR.next HO.out HBB.out HLT.out HK1.out _ rfl _ ?_, ?_⟩
        · rw [← HX.out]
        · have := HLT.out; simp [intOf]; omega
      · have hke : k = M.length := by omega
        subst hke
        go_wp2_with fail
        go_ret
        refine ⟨_, rfl, ?_, HBB.out⟩
        have := HO.out
        rw [E1.out] at this
        exact this
theorem image_ok (B : Nat) (v : Value) (l : List UInt8) (t : ByteArray) (b : Bool) (w : World) (hown : OwnB w B v l) (hl : l.length + t.size ≤ 100000000000000) (ht : 0 < t.size) :
    Calls Tryz.prog 20 #[v, .string t, .bool b] w (RetRow B w (l ++ turnL b t.data.toList)) := by
  rcases hown.1.2 with ⟨rfl, hn⟩ | ⟨g, cap, _, rfl, _⟩
  · have : l = [] := List.length_eq_zero_iff.1 hn
    subst this
    rw [List.nil_append]
    exact turned_nil B t b w hown (by simpa using hl) ht
  · exact turned_some B g cap l t b w hown hl ht
end
end Go.Proofs.YtnpnccjeapejdaaGreatDoor
namespace Go.Proofs.YtnpnccjeapejdaaGreatDoor
open Num (RetBelow)
open Go.RowKit
set_option maxRecDepth 100000
structure AtIn (w W : World) (gg d m lets : Nat) (fold : Bool) (B : Nat) (v : Value) (l : List UInt8) : Prop where
  c4 : W.cell? ⟨gg, d + 4, none⟩ = some (.int .u16 (m : Int))
  c7 : W.cell? ⟨gg, d + 7, none⟩ = some (.int .u8 (lets : Int))
  c8 : W.cell? ⟨gg, d + 8, none⟩ = some (.bool fold)
  lt : gg < W.heap.size
  hB : gg < B
  own : OwnB W B v l
  bel : Below w.heap.size w W
theorem AtIn.step {w W W' : World} {gg d m lets : Nat} {fold : Bool} {B : Nat} {v : Value} {l : List UInt8} (h : AtIn w W gg d m lets fold B v l) (b : Below W.heap.size W W') : AtIn w W' gg d m lets fold B v l :=
  ⟨(b.cell (p := ⟨gg, _, none⟩) h.lt).trans h.c4, (b.cell (p := ⟨gg, _, none⟩) h.lt).trans h.c7, (b.cell (p := ⟨gg, _, none⟩) h.lt).trans h.c8, Nat.lt_of_lt_of_le h.lt b.size, h.hB, h.own.below b, h.bel.trans (b.mono h.bel.size)⟩
set_option maxHeartbeats 3200000 in
theorem appendTo_0 (gg d m kd x5 lets : Nat) (fold tb : Bool) (s cs fs im : ByteArray) (v : Value) (l R : List UInt8) (B : Nat) (w : World) (A0 : AtIn w w gg d m lets fold B v l)
    (t0 : ((kd : Int) == 0) = true) (b512 : bits BinOp.and IntKind.u16 (m : Int) 512 = (x5 : Int)) (tz : ((x5 : Int) != 0) = tb)
    (KI : Hid (∀ W, Calls Tryz.prog 33 #[.int .u16 (m : Int)] W (RetV W (.int .u16 (kd : Int)))))
    (CU : Hid (∀ W, Below w.heap.size w W → Calls Tryz.prog 34 #[.pointer (some ⟨gg, d, none⟩), .string s] W (RetBk W (.string cs))))
    (FL : Hid (∀ W, Below w.heap.size w W → Calls Tryz.prog 35 #[.agg #[.int .u8 (lets : Int), .bool fold], .string cs] W (RetBk W (.string fs))))
    (EM : Hid (∀ W, Below w.heap.size w W → Calls Tryz.prog 21 #[.int .u16 (kd : Int), .string fs] W (RetBelow W (.string im))))
    (AT : Hid (∀ W, OwnB W B v l → Calls Tryz.prog 20 #[v, .string im, .bool tb] W (RetRow B W R))) :
    Calls Tryz.prog 19 #[.pointer (some ⟨gg, d, none⟩), v, .string s] w (RetRow B w R) := by
  have HA := Lib.hid A0
  have q4 := A0.c4
  clear A0
  go_enter Tryz.func19, Tryz.ntmps19
  go_wp2_with fail
  refine (KI.out _).mono ?_
  rintro e w1 ⟨rfl, rfl⟩
  go_wp2_with fail
  refine (CU.out _ (Below.refl _ _)).mono ?_
  rintro e w2 ⟨rfl, b2⟩
  have A2 := Lib.hid (HA.out.step b2)
  clear b2 q4 CU KI
  have q4 := A2.out.c4
  have q7 := A2.out.c7
  have q8 := A2.out.c8
  go_wp2_with fail
  refine (FL.out _ A2.out.bel).mono ?_
  rintro e w3 ⟨rfl, b3⟩
  have A3 := Lib.hid (A2.out.step b3)
  clear b3 q4 q7 q8 FL
  go_upto_region 4 with fail
  have F1 := Lib.hid (A3.out.step (Below.refl _ _).drew)
  have q4 := A3.out.c4
  go_region_held3 (fun w' => w'.cell? ⟨gg, d + 4, none⟩ = some (.int .u16 (m : Int)))
    (first | go_keep)
    ((first
      | (go_at_call 21; ((with_reducible refine (EM.out _ F1.out.bel).mono ?_); rintro ee w8 ⟨rfl, b8⟩; have F2 := F1.out.step b8; have q4 := F2.c4))
      | (go_at_call 20; ((with_reducible refine (AT.out _ F2.own).mono ?_); rintro ee w9 ⟨v9, rfl, o9, b9⟩; have q4 := (b9.cell (p := ⟨gg, d + 4, none⟩) F2.hB).trans F2.c4))))
  go_wp2_with fail
  go_ret
  exact ⟨_, rfl, o9, (F2.bel.mono (by exact HA.out.own.2)).trans b9⟩
set_option maxHeartbeats 3200000 in
theorem appendTo_1 (gg d m kd x5 lets : Nat) (fold tb : Bool) (s cs fs im : ByteArray) (v : Value) (l R : List UInt8) (B : Nat) (w : World) (A0 : AtIn w w gg d m lets fold B v l)
    (t0 : ((kd : Int) == 0) = false) (t1 : ((kd : Int) == 256) = true) (b512 : bits BinOp.and IntKind.u16 (m : Int) 512 = (x5 : Int)) (tz : ((x5 : Int) != 0) = tb)
    (KI : Hid (∀ W, Calls Tryz.prog 33 #[.int .u16 (m : Int)] W (RetV W (.int .u16 (kd : Int)))))
    (CU : Hid (∀ W, Below w.heap.size w W → Calls Tryz.prog 34 #[.pointer (some ⟨gg, d, none⟩), .string s] W (RetBk W (.string cs))))
    (FL : Hid (∀ W, Below w.heap.size w W → Calls Tryz.prog 35 #[.agg #[.int .u8 (lets : Int), .bool fold], .string cs] W (RetBk W (.string fs))))
    (EM : Hid (∀ W, Below w.heap.size w W → Calls Tryz.prog 21 #[.int .u16 (kd : Int), .string fs] W (RetBelow W (.string im))))
    (AT : Hid (∀ W, OwnB W B v l → Calls Tryz.prog 20 #[v, .string im, .bool tb] W (RetRow B W R))) :
    Calls Tryz.prog 19 #[.pointer (some ⟨gg, d, none⟩), v, .string s] w (RetRow B w R) := by
  have HA := Lib.hid A0
  have q4 := A0.c4
  clear A0
  go_enter Tryz.func19, Tryz.ntmps19
  go_wp2_with fail
  refine (KI.out _).mono ?_
  rintro e w1 ⟨rfl, rfl⟩
  go_wp2_with fail
  refine (CU.out _ (Below.refl _ _)).mono ?_
  rintro e w2 ⟨rfl, b2⟩
  have A2 := Lib.hid (HA.out.step b2)
  clear b2 q4 CU KI
  have q4 := A2.out.c4
  have q7 := A2.out.c7
  have q8 := A2.out.c8
  go_wp2_with fail
  refine (FL.out _ A2.out.bel).mono ?_
  rintro e w3 ⟨rfl, b3⟩
  have A3 := Lib.hid (A2.out.step b3)
  clear b3 q4 q7 q8 FL
  go_upto_region 4 with fail
  have F1 := Lib.hid (A3.out.step (Below.refl _ _).drew)
  have q4 := A3.out.c4
  go_region_held3 (fun w' => w'.cell? ⟨gg, d + 4, none⟩ = some (.int .u16 (m : Int)))
    (first | go_keep)
    ((first
      | (go_at_call 21; ((with_reducible refine (EM.out _ F1.out.bel).mono ?_); rintro ee w8 ⟨rfl, b8⟩; have F2 := F1.out.step b8; have q4 := F2.c4))
      | (go_at_call 20; ((with_reducible refine (AT.out _ F2.own).mono ?_); rintro ee w9 ⟨v9, rfl, o9, b9⟩; have q4 := (b9.cell (p := ⟨gg, d + 4, none⟩) F2.hB).trans F2.c4))))
  go_wp2_with fail
  go_ret
  exact ⟨_, rfl, o9, (F2.bel.mono (by exact HA.out.own.2)).trans b9⟩
set_option maxHeartbeats 3200000 in
theorem appendTo_2 (gg d m kd x5 lets : Nat) (fold tb : Bool) (s cs im : ByteArray) (v : Value) (l R : List UInt8) (B : Nat) (w : World) (A0 : AtIn w w gg d m lets fold B v l)
    (t0 : ((kd : Int) == 0) = false) (t1 : ((kd : Int) == 256) = false) (b512 : bits BinOp.and IntKind.u16 (m : Int) 512 = (x5 : Int)) (tz : ((x5 : Int) != 0) = tb)
    (KI : Hid (∀ W, Calls Tryz.prog 33 #[.int .u16 (m : Int)] W (RetV W (.int .u16 (kd : Int)))))
    (CU : Hid (∀ W, Below w.heap.size w W → Calls Tryz.prog 34 #[.pointer (some ⟨gg, d, none⟩), .string s] W (RetBk W (.string cs))))
    (EM : Hid (∀ W, Below w.heap.size w W → Calls Tryz.prog 21 #[.int .u16 (kd : Int), .string cs] W (RetBelow W (.string im))))
    (AT : Hid (∀ W, OwnB W B v l → Calls Tryz.prog 20 #[v, .string im, .bool tb] W (RetRow B W R))) :
    Calls Tryz.prog 19 #[.pointer (some ⟨gg, d, none⟩), v, .string s] w (RetRow B w R) := by
  have HA := Lib.hid A0
  have q4 := A0.c4
  clear A0
  go_enter Tryz.func19, Tryz.ntmps19
  go_wp2_with fail
  refine (KI.out _).mono ?_
  rintro e w1 ⟨rfl, rfl⟩
  go_wp2_with fail
  refine (CU.out _ (Below.refl _ _)).mono ?_
  rintro e w2 ⟨rfl, b2⟩
  have A2 := Lib.hid (HA.out.step b2)
  clear b2 q4 CU KI
  have q4 := A2.out.c4
  have q7 := A2.out.c7
  have q8 := A2.out.c8
  clear q4 q7 q8
  have A3 := A2
  go_upto_region 4 with fail
  have F1 := Lib.hid (A3.out.step (Below.refl _ _).drew)
  have q4 := A3.out.c4
  go_region_held3 (fun w' => w'.cell? ⟨gg, d + 4, none⟩ = some (.int .u16 (m : Int)))
    (first | go_keep)
    ((first
      | (go_at_call 21; ((with_reducible refine (EM.out _ F1.out.bel).mono ?_); rintro ee w8 ⟨rfl, b8⟩; have F2 := F1.out.step b8; have q4 := F2.c4))
      | (go_at_call 20; ((with_reducible refine (AT.out _ F2.own).mono ?_); rintro ee w9 ⟨v9, rfl, o9, b9⟩; have q4 := (b9.cell (p := ⟨gg, d + 4, none⟩) F2.hB).trans F2.c4))))
  go_wp2_with fail
  go_ret
  exact ⟨_, rfl, o9, (F2.bel.mono (by exact HA.out.own.2)).trans b9⟩
end Go.Proofs.YtnpnccjeapejdaaGreatDoor
