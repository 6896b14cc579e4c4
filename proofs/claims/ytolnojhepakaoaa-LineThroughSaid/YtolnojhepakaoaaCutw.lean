/- cut, of the statements: the walk. -/
import Derived.Test.YtolnojhepakaoaaSplit
namespace Go.Proofs.Ytolnojhepakaoaa
open Go.RowKit

theorem str_app (xs ys : List Int) : strOfNums xs ++ strOfNums ys = strOfNums (xs ++ ys) := by
  unfold strOfNums
  rw [List.map_append]
  apply ByteArray.ext
  rw [ByteArray.data_append]
  simp

theorem take_at {zs : List Int} {k : Nat} (h : k < zs.length) : (zs.drop k).take 1 = [zs.getD k 0] := by
  rw [List.drop_eq_getElem_cons h, List.take_succ_cons, List.take_zero]
  simp [List.getD, h]
theorem drop_one {zs : List Int} {k : Nat} (h : k < zs.length) : zs.drop k = zs.getD k 0 :: zs.drop (k + 1) := by
  rw [List.drop_eq_getElem_cons h]
  simp [List.getD, h]

def CutPost (w : World) (sep : Int) (zs : List Int) (e : Ending) (w' : World) : Prop :=
  ∃ v, e = .returned (.tuple #[v, .bool true]) ∧ w'.ownsRow w.heap.size 9 1 v (cutL sep [] zs).1.length ((cutL sep [] zs).1.map strV) ∧ Keeps [] w w'
def CutRel (w : World) (B : Nat) (zs : List Int) (sep : Int) (N : Nat) (l line op i : Value) (wr : World) : Prop :=
  ∃ (k : Nat) (D : List (List Int)) (cur : List Int), k ≤ N ∧ cur.length ≤ k ∧ i = .int .i64 k ∧ line = .string (strOfNums cur) ∧ op = .bool (!cur.isEmpty) ∧ D.length ≤ k ∧ D ++ (cutL sep cur (zs.drop k)).1 = (cutL sep [] zs).1 ∧
    wr.ownsRow B 9 1 l D.length (D.map strV) ∧ B ≤ wr.heap.size ∧ Keeps [] w wr

set_option maxRecDepth 100000 in
set_option maxHeartbeats 1600000 in
theorem cut_some (b o N c : Nat) (zs : List Int) (sep : Int) (w : World) (hd : Bytes w b o N zs) (hc : N ≤ c) (hN : N ≤ 4096) :
    Calls Try.prog 20 #[.slice (some ⟨b, o, none⟩) N c, .int .u8 sep] w (CutPost w sep zs) := by
  have Hd := Lib.hid hd
  clear hd
  go_enter Try.func20, Try.ntmps20
  go_wp2_with fail
  obtain ⟨B, hB⟩ : ∃ B, B = w.heap.size := ⟨_, rfl⟩
  have HB := Lib.hid hB
  clear hB
  go_loopw [6, 7, 8, 9] (fun l line op i wr => CutRel w B zs sep N l line op i wr) (fun _ _ _ i _ => N - (intOf i).toNat)
  case atStart => exact ⟨0, [], [], Nat.zero_le _, Nat.le_refl _, rfl, rfl, rfl, Nat.le_refl _, by simp, World.ownsRow_nil _ _ _ _, by rw [HB.out]; exact Nat.le_refl _, Keeps.refl _ _⟩
  case round =>
    obtain ⟨k, D, cur, hkN, hcl, rfl, rfl, rfl, hDk, h1, hrow, hBs, hkp⟩ := hrel
    have H1 := Lib.hid h1
    have Hrow := Lib.hid hrow
    have Hkp := Lib.hid hkp
    have hz := strOfNums_size cur
    clear h1 hrow hkp
    obtain ⟨i0, hi, hz0, hz1, hz2⟩ := info_parts info9
    have Hi := Lib.hid hi
    have Hz0 := Lib.hid hz0
    have Hz1 := Lib.hid hz1
    have Hz2 := Lib.hid hz2
    clear hi hz0 hz1 hz2
    by_cases hlt : k < N
    · have hkl : k < zs.length := by rw [Hd.out.len]; exact hlt
      have hcell := (Hd.out.keeps Hkp.out).cell k hlt
      have hcv := (Hd.out.keeps Hkp.out).conv k 1 (c - k) (by omega)
      rw [take_at hkl] at hcv
      have hdr := drop_one hkl
      obtain ⟨x, hx⟩ : ∃ x, x = zs.getD k 0 := ⟨_, rfl⟩
      rw [← hx] at hcell hcv hdr
      have Hx := Lib.hid hx
      have Hdr := Lib.hid hdr
      clear hx hdr
      by_cases hxs : x = sep
      · have t1 : (x == sep) = true := by rw [beq_iff_eq]; exact hxs
        have Hxs := Lib.hid hxs
        clear hxs hcv
        clear hz
        go_wp2_with (at_builtin; refine wpList_append_own _ rfl _ _ 23 rfl B 9 i0 (.string ⟨#[]⟩) 1 16 Try.underlying23 Hi.out Hz0.out Hz1.out Hz2.out rfl (by decide) _ _ _ rfl (Hrow.out.alloc _) ⟨wr.heap.size, 0, none⟩ 1 1 [strV cur] rfl rfl ?c1 ?c2 ?c3 ?c4 ?c5 ?_)
        case c1 => exact cell_new _ _ _
        case c2 => intro u hu; simp at hu; subst hu; rfl
        case c3 => unfold maxLen; omega
        case c4 => omega
        case c5 => simp; omega
        intro v' w1 hown' hgrow _
        have hn : w1.ownsRow B 9 1 v' (D ++ [cur]).length ((D ++ [cur]).map strV) := by
          simpa using hown'
        have hk1 : Keeps [] w w1 := row_grown Hkp.out Hrow.out hgrow HB.out
        have hB1 : B ≤ w1.heap.size := by have := hgrow.size; simp at this; omega
        have Hn := Lib.hid hn
        have Hk1 := Lib.hid hk1
        clear hn hk1 hown' hgrow
        go_wp2_with fail
        go_roundw
        case rel =>
          exact ⟨k + 1, D ++ [cur], [], by omega, by simp, by go_num, rfl, rfl, by simp; omega, by rw [← H1.out, Hdr.out]; simp [cutL, Hxs.out], Hn.out, hB1, Hk1.out⟩
        case measure => simp [intOf]; omega
      · have t1 : (x == sep) = false := by rw [beq_eq_false_iff_ne]; exact hxs
        have Hxs := Lib.hid hxs
        clear hxs
        have hap := str_app cur [x]
        have hy : (strOfNums [x]).size = 1 := strOfNums_size [x]
        have t2 : decide (65536 < (cur.length : Int) + 1) = false := by rw [decide_eq_false_iff_not]; omega
        have Hap := Lib.hid hap
        clear hap
        have hne : ¬ k = c := by omega
        go_wp2_with fail
        go_roundw
        case rel =>
          exact ⟨k + 1, D, cur ++ [x], by omega, by simp; omega, by go_num, by rw [← Hap.out], by simp, by omega, by rw [← H1.out, Hdr.out]; simp [cutL, Hxs.out], Hrow.out, hBs, Hkp.out⟩
        case measure => simp [intOf]; omega
    · have hkN' : k = N := by omega
      subst hkN'
      have hdn : zs.drop k = [] := List.drop_eq_nil_of_le (by rw [Hd.out.len]; exact Nat.le_refl _)
      have Hdn := Lib.hid hdn
      clear hdn
      cases cur with
      | nil =>
        go_wp2_with fail
        go_ret2
        refine ⟨_, rfl, ?_, Hkp.out⟩
        have h := H1.out
        rw [Hdn.out] at h
        simp [cutL] at h
        rw [← h, ← HB.out]
        exact Hrow.out
      | cons y ys =>
        obtain ⟨cur, hcur⟩ : ∃ cur, cur = y :: ys := ⟨_, rfl⟩
        rw [← hcur] at H1 hz ⊢
        have hem : cur.isEmpty = false := by rw [hcur]; rfl
        have Hem := Lib.hid hem
        rw [hem]
        clear hem hcur
        go_wp2_with (at_builtin; refine wpList_append_own _ rfl _ _ 23 rfl B 9 i0 (.string ⟨#[]⟩) 1 16 Try.underlying23 Hi.out Hz0.out Hz1.out Hz2.out rfl (by decide) _ _ _ rfl (Hrow.out.alloc _) ⟨wr.heap.size, 0, none⟩ 1 1 [strV cur] rfl rfl ?c1 ?c2 ?c3 ?c4 ?c5 ?_)
        case c1 => exact cell_new _ _ _
        case c2 => intro u hu; simp at hu; subst hu; rfl
        case c3 => unfold maxLen; omega
        case c4 => omega
        case c5 => simp; omega
        intro v' w1 hown' hgrow _
        have hn : w1.ownsRow B 9 1 v' (D ++ [cur]).length ((D ++ [cur]).map strV) := by
          simpa using hown'
        have hk1 : Keeps [] w w1 := row_grown Hkp.out Hrow.out hgrow HB.out
        have hB1 : B ≤ w1.heap.size := by have := hgrow.size; simp at this; omega
        have Hn := Lib.hid hn
        have Hk1 := Lib.hid hk1
        clear hn hk1 hown' hgrow
        go_wp2_with fail
        go_ret2
        refine ⟨v', rfl, ?_, Hk1.out⟩
        have h := H1.out
        rw [Hdn.out] at h
        simp [cutL, Hem.out] at h
        rw [← h, ← HB.out]
        exact Hn.out
end Go.Proofs.Ytolnojhepakaoaa
