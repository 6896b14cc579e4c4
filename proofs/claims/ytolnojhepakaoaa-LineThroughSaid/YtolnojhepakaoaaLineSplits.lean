/- LineSplits: the law's own walk. -/
import Derived.Test.YtolnojhepakaoaaJoin
import Derived.Laws.Concat
namespace Go.Proofs.Ytolnojhepakaoaa
open Go.RowKit

/-- Bytes that came in, nil or not. -/
def DataAt (w : World) (a : Option Addr) (N c : Nat) (zs : List Int) : Prop :=
  (N = 0 ∧ zs = []) ∨ ∃ b o, a = some ⟨b, o, none⟩ ∧ N ≤ c ∧ Bytes w b o N zs
theorem DataAt.keeps {w w' : World} {a : Option Addr} {N c : Nat} {zs : List Int} (h : DataAt w a N c zs) (k : Keeps [] w w') : DataAt w' a N c zs := by
  rcases h with h | ⟨b, o, h1, h2, h3⟩
  · exact .inl h
  · exact .inr ⟨b, o, h1, h2, h3.keeps k⟩
theorem DataAt.conv {w : World} {a : Option Addr} {N c : Nat} {zs : List Int} (h : DataAt w a N c zs) : (convert 22 9 (.slice a N c)).run Try.prog w = .ok (.string (strOfNums zs)) w := by
  rcases h with ⟨rfl, rfl⟩ | ⟨b, o, rfl, h2, h3⟩
  · cases a with
    | none => exact run_convert_bytes_nil w 22 5 Try.underlying22 Try.underlying5 0 c 9 Try.underlying9
    | some x =>
      have hl := run_loadCells_list (P := Try.prog) w x [] (by simp)
      rw [run_convert_bytes_string w 22 9 5 _ 0 c Try.underlying22 Try.underlying5 Try.underlying9, run_bytesToString w x 0 c [] hl]
      rfl
  · have h := h3.conv 0 N c (by omega)
    rw [Nat.add_zero, List.drop_zero, List.take_of_length_le (by rw [h3.len]; exact Nat.le_refl _)] at h
    exact h
/-- Lines that came in, nil or not. -/
def LinesAt (w : World) (a : Option Addr) (M : Nat) (ss : Nat → ByteArray) : Prop := M = 0 ∨ ∃ b o, a = some ⟨b, o, none⟩ ∧ Lines w b o M ss
theorem LinesAt.keeps {w w' : World} {a : Option Addr} {M : Nat} {ss : Nat → ByteArray} (h : LinesAt w a M ss) (k : Keeps [] w w') : LinesAt w' a M ss := by
  rcases h with h | ⟨b, o, h1, h2⟩
  · exact .inl h
  · exact .inr ⟨b, o, h1, h2.keeps k⟩

theorem refSplit_any (a : Option Addr) (N c : Nat) (zs : List Int) (sep : Int) (w : World) (hd : DataAt w a N c zs) (hs : InByte sep) (hN : N ≤ 8796093022206) : Calls Try.prog 10 #[.slice a N c, .int .u8 sep] w (SplitPost w sep zs) := by
  rcases hd with ⟨rfl, rfl⟩ | ⟨b, o, rfl, h2, h3⟩
  · exact refSplit_none a c sep w
  · rcases Nat.eq_zero_or_pos N with h | h
    · subst h
      have hz : zs = [] := List.eq_nil_of_length_eq_zero h3.len
      subst hz
      exact refSplit_none _ c sep w
    · exact refSplit_some b o N c zs sep w h3 hs h2 hN h
theorem join_any (a : Option Addr) (M c : Nat) (ss : Nat → ByteArray) (sep : Int) (w : World) (hl : LinesAt w a M ss) (hT : totS ss M ≤ 70368744177664) (hM : M ≤ 4611686018427387904) : Calls Try.prog 11 #[.slice a M c, .int .u8 sep] w (JoinPost w sep ss M) := by
  rcases hl with rfl | ⟨b, o, rfl, h⟩
  · exact join_none a c ss sep w
  · exact join_some b o M c ss sep w h hT hM
theorem refJoin_any (a : Option Addr) (M c : Nat) (ss : Nat → ByteArray) (sep : Int) (w : World) (hl : LinesAt w a M ss) (hT : totS ss M ≤ 70368744177664) (hM : M ≤ 4611686018427387904) : Calls Try.prog 12 #[.slice a M c, .int .u8 sep] w (JoinPost w sep ss M) := by
  rcases hl with rfl | ⟨b, o, rfl, h⟩
  · exact refJoin_none a c ss sep w
  · exact refJoin_some b o M c ss sep w h hT hM

/-- A row of bytes, as a string. -/
theorem row_conv {w : World} {B n : Nat} {v : Value} {zs : List Int} (h : w.ownsRow B 5 1 v n (zs.map (Value.int .u8))) : (convert 22 9 v).run Try.prog w = .ok (.string (strOfNums zs)) w := by
  have hl : zs.length = n := by have := h.1; simpa using this
  rcases h.2 with ⟨rfl, h0⟩ | ⟨g, cap, cur, rfl, _⟩
  · have hz : zs = [] := List.eq_nil_of_length_eq_zero (by omega)
    subst hz
    exact run_convert_bytes_nil w 22 5 Try.underlying22 Try.underlying5 0 0 9 Try.underlying9
  · refine run_convert_bytes_arg w 22 5 Try.underlying22 Try.underlying5 g 0 n cap zs hl (fun i hi => ?_) 9 Try.underlying9
    have hc := h.cells (g := g) rfl i (.int .u8 (zs.getD i 0)) (by simp [List.getD, hl, hi])
    have e : (⟨g, 0, none⟩ : Addr).add i = ⟨g, 0 + i, none⟩ := by unfold Addr.add; split <;> simp_all
    rw [e] at hc; exact hc

/-- The marks behind the data. -/
def mk : List Int := [90, 165, 0, 255, 10]
theorem mk_str (zs : List Int) : strOfNums zs ++ ⟨#[90, 165, 0, 255, 10]⟩ = strOfNums (zs ++ mk) := by
  unfold strOfNums mk
  rw [ByteArray.mk_append_mk]
  congr 1
  simp
theorem mk_byte : ∀ z ∈ mk, InByte z := by
  intro z hz
  simp [mk] at hz
  unfold InByte
  omega

/-- What '[]byte(text)' lays down reads as the text's numbers. -/
theorem bytes_laid (w : World) (zs : List Int) (cap : Nat) (fz : Nat × Nat) (hz : ∀ z ∈ zs, InByte z) : Bytes (w.alloc (.cells (bytesRow (strOfNums zs) cap) 5 fz)) w.heap.size 0 zs.length zs := by
  refine ⟨rfl, fun j hj => ?_, hz⟩
  have hb := heap_alloc_new w (.cells (bytesRow (strOfNums zs) cap) 5 fz)
  have hsz : j < (strOfNums zs).data.size := by simp [strOfNums]; exact hj
  rw [cell_of hb, Nat.zero_add, bytesRow_at _ cap j hsz]
  have hz2 := hz zs[j] (List.getElem_mem hj)
  unfold InByte at hz2
  simp [strOfNums, List.getD, hj]
  omega
theorem Bytes.take {w : World} {b o N : Nat} {zs : List Int} (h : Bytes w b o N zs) (n : Nat) (hn : n ≤ N) : Bytes w b o n (zs.take n) := by
  have hl := h.len
  refine ⟨by simp; omega, fun j hj => ?_, fun z hz => h.byte z (List.mem_of_mem_take hz)⟩
  rw [h.cell j (by omega)]
  simp [List.getD, hj]

set_option maxRecDepth 100000 in
set_option maxHeartbeats 3200000 in
theorem lineSplits_any (a : Option Addr) (N c : Nat) (zs : List Int) (la : Option Addr) (M lc : Nat) (ss : Nat → ByteArray) (sep : Int) (w : World) (hd : DataAt w a N c zs) (hz : zs.length = N) (hzb : ∀ z ∈ zs, InByte z) (hl : LinesAt w la M ss) (hs : InByte sep) (hN : N ≤ 4398046511103)
    (hT : totS ss M ≤ 70368744177664) (hM : M ≤ 4611686018427387904) :
    Calls Try.prog 3 #[.slice a N c, .slice la M lc, .int .u8 sep] w fun e w' => e = .returned (.bool true) ∧ Keeps [] w w' := by
  have Hd := Lib.hid hd
  have Hz := Lib.hid hz
  have Hzb := Lib.hid hzb
  have Hl := Lib.hid hl
  have Hs := Lib.hid hs
  have hconv := hd.conv
  have hcat := mk_str zs
  have hlen0 : ¬ 9223372036854775807 < (strOfNums zs).size + 5 := by rw [strOfNums_size]; omega
  have hby := bytes_of w (strOfNums (zs ++ mk))
  have hsz : (strOfNums (zs ++ mk)).size = N + 5 := by rw [strOfNums_size]; simp [mk, Hz.out]
  have hcap := grownCap_ge w (strOfNums (zs ++ mk)).size 0 5
  rw [hsz] at hcap hby
  have hzs2 : ∀ z ∈ zs ++ mk, InByte z := fun z h => by
    rcases List.mem_append.1 h with h | h
    · exact hzb z h
    · exact mk_byte z h
  have hbl := bytes_laid w.drew (zs ++ mk) (grownCap w (N + 5) 0 5) ((bytesRow (strOfNums (zs ++ mk)) (grownCap w (N + 5) 0 5)).size, (bytesRow (strOfNums (zs ++ mk)) (grownCap w (N + 5) 0 5)).size + 1) hzs2
  have hk0 : Keeps [] w (w.drew.alloc (.cells (bytesRow (strOfNums (zs ++ mk)) (grownCap w (N + 5) 0 5)) 5 ((bytesRow (strOfNums (zs ++ mk)) (grownCap w (N + 5) 0 5)).size, (bytesRow (strOfNums (zs ++ mk)) (grownCap w (N + 5) 0 5)).size + 1))) := ((Keeps.refl [] w).drew).alloc _
  generalize grownCap w (N + 5) 0 5 = cap at *
  generalize (w.drew.alloc (.cells (bytesRow (strOfNums (zs ++ mk)) cap) 5 ((bytesRow (strOfNums (zs ++ mk)) cap).size, (bytesRow (strOfNums (zs ++ mk)) cap).size + 1))) = w1 at *
  have hlm : (zs ++ mk).length = N + 5 := by simp [mk, Hz.out]
  have hW : w.drew.heap.size = w.heap.size := rfl
  rw [hW, hlm] at hbl
  have Hbl := Lib.hid hbl
  have Hk0 := Lib.hid hk0
  clear hd hz hzb hl hs hsz hzs2 hbl hk0 hlm hW
  have HF := Lib.hid (rfl : strOfNums (zs ++ mk) = strOfNums (zs ++ mk))
  have HS := Lib.hid (rfl : strOfNums zs = strOfNums zs)
  generalize hF : strOfNums (zs ++ mk) = F at *
  generalize hS : strOfNums zs = S at *
  have HFe := Lib.hid hF
  have HSe := Lib.hid hS
  clear hF hS HF HS
  go_enter Try.func3, Try.ntmps3
  go_wp2_with fail
  have hb1 := Hbl.out.take N (by omega)
  have e1 : (zs ++ mk).take N = zs := by rw [← Hz.out]; simp
  rw [e1] at hb1
  refine (split_some w.heap.size 0 N cap zs sep w1 hb1 Hs.out (by omega) (by omega)).mono ?_
  rintro e w2 ⟨v2, rfl, hv2, hk2⟩
  have hk12 : Keeps [] w w2 := Hk0.out.trans hk2
  obtain ⟨D, hD⟩ : ∃ D, D = (cutL sep [] zs).1 := ⟨_, rfl⟩
  rw [← hD] at hv2
  have Hv2 := Lib.hid hv2
  have Hk2 := Lib.hid hk12
  have Hkb2 := Lib.hid hk2
  have HD := Lib.hid hD
  clear hb1 e1 hv2 hk2 hk12 hD hby
  generalize hwh : (cutL sep [] zs).2 = wh at *
  have Hwh := Lib.hid hwh
  clear hwh
  go_wp2_with fail
  refine (refSplit_any a N c zs sep w2 (Hd.out.keeps Hk2.out) Hs.out (by omega)).mono ?_
  rintro e w3 ⟨v3, rfl, hv3, hk3⟩
  rw [Hwh.out]
  rw [← HD.out] at hv3
  have hk13 : Keeps [] w w3 := Hk2.out.trans hk3
  have hv2 := ownsRow_keeps Hv2.out hk3 (fun j hj => by simp)
  have Hv3 := Lib.hid hv3
  have Hv23 := Lib.hid hv2
  have hkb3 := Hkb2.out.trans hk3
  have Hk3 := Lib.hid hk13
  have Hkb3 := Lib.hid hkb3
  clear hv3 hv2 hk3 hk13 hkb3
  go_wp2_with fail
  refine (join_any la M lc ss sep w3 (Hl.out.keeps Hk3.out) hT hM).mono ?_
  rintro e w4 ⟨v4, rfl, hv4, hk4⟩
  have hk14 : Keeps [] w w4 := Hk3.out.trans hk4
  have hv24 := ownsRow_keeps Hv23.out hk4 (fun j hj => by simp)
  have hv34 := ownsRow_keeps Hv3.out hk4 (fun j hj => by simp)
  have Hv24 := Lib.hid hv24
  have Hv34 := Lib.hid hv34
  have Hv4 := Lib.hid hv4
  have hkb4 := Hkb3.out.trans hk4
  have Hk4 := Lib.hid hk14
  have Hkb4 := Lib.hid hkb4
  clear hv24 hv34 hv4 hk4 hk14 hkb4
  go_wp2_with fail
  refine (refJoin_any la M lc ss sep w4 (Hl.out.keeps Hk4.out) hT hM).mono ?_
  rintro e w5 ⟨v5, rfl, hv5, hk5⟩
  have hk15 : Keeps [] w w5 := Hk4.out.trans hk5
  have hv25 := ownsRow_keeps Hv24.out hk5 (fun j hj => by simp)
  have hv35 := ownsRow_keeps Hv34.out hk5 (fun j hj => by simp)
  have hv45 := ownsRow_keeps Hv4.out hk5 (fun j hj => by simp)
  have Hv25 := Lib.hid hv25
  have Hv35 := Lib.hid hv35
  have Hv45 := Lib.hid hv45
  have Hv5 := Lib.hid hv5
  have hkb5 := Hkb4.out.trans hk5
  have Hk5 := Lib.hid hk15
  have Hkb5 := Lib.hid hkb5
  clear hv25 hv35 hv45 hv5 hk5 hk15 hkb5
  go_wp2_with fail
  refine (sameLines_ok v2 v3 D w5 Hv25.out Hv35.out (by rw [HD.out]; have := cut_length sep zs []; have := Hz.out; omega)).mono ?_
  rintro e w6 ⟨rfl, hk6⟩
  have hk16 : Keeps [] w w6 := Hk5.out.trans hk6
  have hc4 := row_conv (ownsRow_keeps Hv45.out hk6 (fun j hj => by simp))
  have hc5 := row_conv (ownsRow_keeps Hv5.out hk6 (fun j hj => by simp))
  obtain ⟨x4, y4, rfl⟩ := ownsRow_slice Hv45.out
  obtain ⟨x5, y5, rfl⟩ := ownsRow_slice Hv5.out
  have hkb : Keeps [] w1 w6 := Hkb5.out.trans hk6
  have hcF := (Hbl.out.keeps hkb).conv 0 (N + 5) cap (by omega)
  have e2 : ((zs ++ mk).drop 0).take (N + 5) = zs ++ mk := List.take_of_length_le (by rw [← Hz.out]; simp [mk])
  rw [e2, HFe.out] at hcF
  have hconv6 := (Hd.out.keeps hk16).conv
  rw [HSe.out] at hconv6
  generalize strOfNums (joinI sep ss M) = J at *
  generalize totS ss M = T at *
  have Hk6 := Lib.hid hk16
  clear hconv hk6 hk16 hkb e2
  go_wp2_with fail
  go_ret
  exact ⟨rfl, Hk6.out⟩
end Go.Proofs.Ytolnojhepakaoaa
