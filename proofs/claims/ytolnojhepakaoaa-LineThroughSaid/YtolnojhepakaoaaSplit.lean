/- Split, the document's and the program's: the walks. -/
import Derived.Test.YtolnojhepakaoaaCut
import Derived.Test.YtolnojhepakaoaaShelf
import Derived.Test.YtolnojhepakaoaaOwn
import Derived.Laws.BytesArg
import Derived.WalkKit
import Derived.WalkSpells
import Derived.WalkLawsBesides
import Derived.Lib.Hide
import Derived.OwnWalk
namespace Go.Proofs.Ytolnojhepakaoaa
open Go.RowKit

theorem info9 : (Try.prog.info? 9).map (fun i => (i.zero, i.size, i.bytes)) = some (some (.string ⟨#[]⟩), 1, 16) := by kernel_rfl

/-- A line, as a value. -/
def strV (zs : List Int) : Value := .string (strOfNums zs)

/-- Bytes in memory. -/
structure Bytes (w : World) (b o N : Nat) (zs : List Int) : Prop where
  len : zs.length = N
  cell : ∀ j, j < N → w.cell? ⟨b, o + j, none⟩ = some (.int .u8 (zs.getD j 0))
  byte : ∀ z ∈ zs, InByte z
theorem Bytes.keeps {w w' : World} {b o N : Nat} {zs : List Int} (h : Bytes w b o N zs) (k : Keeps [] w w') : Bytes w' b o N zs :=
  ⟨h.len, fun j hj => (World.cell?_of_block (k.block _ (World.block_lt_of_cell? w _ (h.cell j hj)) (by simp))).trans (h.cell j hj), h.byte⟩
theorem Bytes.conv {w : World} {b o N : Nat} {zs : List Int} (h : Bytes w b o N zs) (p n c : Nat) (hp : p + n ≤ N) :
    (convert 22 9 (.slice (some ⟨b, o + p, none⟩) n c)).run Try.prog w = .ok (.string (strOfNums ((zs.drop p).take n))) w := by
  have hl := h.len
  refine run_convert_bytes_arg w 22 5 Try.underlying22 Try.underlying5 b (o + p) n c ((zs.drop p).take n) (by simp; omega) (fun i hi => ?_) 9 Try.underlying9
  rw [Nat.add_assoc, h.cell (p + i) (by omega)]
  simp [List.getD, hi]

/-- What Split gives. -/
def SplitPost (w : World) (sep : Int) (zs : List Int) (e : Ending) (w' : World) : Prop :=
  ∃ v, e = .returned (.tuple #[v, .bool (cutL sep [] zs).2]) ∧ w'.ownsRow w.heap.size 9 1 v (cutL sep [] zs).1.length ((cutL sep [] zs).1.map strV) ∧ Keeps [] w w'

def RefRel (w : World) (B : Nat) (zs : List Int) (sep : Int) (N : Nat) (l fr i : Value) (wr : World) : Prop :=
  ∃ (k p : Nat) (D : List (List Int)), p ≤ k ∧ k ≤ N ∧ fr = .int .i64 p ∧ i = .int .i64 k ∧ D.length ≤ k ∧ D ++ (cutL sep ((zs.drop p).take (k - p)) (zs.drop k)).1 = (cutL sep [] zs).1 ∧
    (cutL sep ((zs.drop p).take (k - p)) (zs.drop k)).2 = (cutL sep [] zs).2 ∧ wr.ownsRow B 9 1 l D.length (D.map strV) ∧ B ≤ wr.heap.size ∧ Keeps [] w wr

set_option maxRecDepth 100000 in
set_option maxHeartbeats 1600000 in
theorem refSplit_some (b o N c : Nat) (zs : List Int) (sep : Int) (w : World) (hd : Bytes w b o N zs) (hs : InByte sep) (hc : N ≤ c) (hN : N ≤ 8796093022206) (hN0 : 0 < N) :
    Calls Try.prog 10 #[.slice (some ⟨b, o, none⟩) N c, .int .u8 sep] w (SplitPost w sep zs) := by
  have Hd := Lib.hid hd
  have Hs := Lib.hid hs
  clear hd hs
  go_enter Try.func10, Try.ntmps10
  go_wp2_with fail
  obtain ⟨B, hB⟩ : ∃ B, B = w.heap.size := ⟨_, rfl⟩
  have HB := Lib.hid hB
  clear hB
  go_loopw [6, 7, 8] (fun l fr i wr => RefRel w B zs sep N l fr i wr) (fun _ _ i _ => N - (intOf i).toNat)
  case atStart => exact ⟨0, 0, [], Nat.le_refl _, Nat.zero_le _, rfl, rfl, Nat.le_refl _, by simp, by simp, World.ownsRow_nil _ _ _ _, by rw [HB.out]; exact Nat.le_refl _, Keeps.refl _ _⟩
  case round =>
    obtain ⟨k, p, D, hpk, hkN, rfl, rfl, hDk, h1, h2, hrow, hBs, hkp⟩ := hrel
    have H1 := Lib.hid h1
    have H2 := Lib.hid h2
    have Hrow := Lib.hid hrow
    have Hkp := Lib.hid hkp
    clear h1 h2 hrow hkp
    obtain ⟨i0, hi, hz0, hz1, hz2⟩ := info_parts info9
    have Hi := Lib.hid hi
    have Hz0 := Lib.hid hz0
    have Hz1 := Lib.hid hz1
    have Hz2 := Lib.hid hz2
    clear hi hz0 hz1 hz2
    by_cases hlt : k < N
    · have hcell := (Hd.out.keeps Hkp.out).cell k hlt
      obtain ⟨x, hx⟩ : ∃ x, x = zs.getD k 0 := ⟨_, rfl⟩
      rw [← hx] at hcell
      have Hx := Lib.hid hx
      clear hx
      by_cases hxs : x = sep
      · have t1 : (x == sep) = true := by rw [beq_iff_eq]; exact hxs
        have hconv := (Hd.out.keeps Hkp.out).conv p (k - p) (c - p) (by omega)
        have Hxs := Lib.hid hxs
        clear hxs
        go_wp2_with (at_builtin; refine wpList_append_own _ rfl _ _ 23 rfl B 9 i0 (.string ⟨#[]⟩) 1 16 Try.underlying23 Hi.out Hz0.out Hz1.out Hz2.out rfl (by decide) _ _ _ rfl (Hrow.out.alloc _) ⟨wr.heap.size, 0, none⟩ 1 1 [strV ((zs.drop p).take (k - p))] rfl rfl ?c1 ?c2 ?c3 ?c4 ?c5 ?_)
        case c1 => exact cell_new _ _ _
        case c2 => intro u hu; simp at hu; subst hu; rfl
        case c3 => unfold maxLen; omega
        case c4 => omega
        case c5 => simp; omega
        · intro v' w1 hown' hgrow _
          have hn : w1.ownsRow B 9 1 v' (D ++ [(zs.drop p).take (k - p)]).length ((D ++ [(zs.drop p).take (k - p)]).map strV) := by
            simpa using hown'
          have hk1 : Keeps [] w w1 := row_grown Hkp.out Hrow.out hgrow HB.out
          have hB1 : B ≤ w1.heap.size := by have := hgrow.size; simp at this; omega
          have H3 := cut_hit ((zs.drop p).take (k - p)) (by rw [Hd.out.len]; exact hlt) (Hx.out.symm.trans Hxs.out)
          have Hn := Lib.hid hn
          have Hk1 := Lib.hid hk1
          have H3' := Lib.hid H3
          clear hn hk1 H3 hown' hgrow hconv hcell
          go_wp2_with fail
          go_roundw
          case rel => exact ⟨k + 1, k + 1, D ++ [(zs.drop p).take (k - p)], Nat.le_refl _, by omega, by go_num, by go_num, by simp; omega, by rw [← H1.out, H3'.out]; simp, by rw [← H2.out, H3'.out]; simp, Hn.out, hB1, Hk1.out⟩
          case measure => simp [intOf]; omega
      · have t1 : (x == sep) = false := by rw [beq_eq_false_iff_ne]; exact hxs
        have H3 := cut_miss (p := p) (sep := sep) (by rw [Hd.out.len]; exact hlt) hpk (fun h => hxs (Hx.out.trans h))
        have H3' := Lib.hid H3
        clear hxs H3
        go_wp2_with fail
        go_roundw
        case rel => exact ⟨k + 1, p, D, by omega, by omega, rfl, by go_num, by omega, by rw [← H3'.out]; exact H1.out, by rw [← H3'.out]; exact H2.out, Hrow.out, hBs, Hkp.out⟩
        case measure => simp [intOf]; omega
    · have hkN' : k = N := by omega
      subst hkN'
      by_cases hp : p < k
      · have hconv := (Hd.out.keeps Hkp.out).conv p (k - p) (c - p) (by omega)
        have hlen := Hd.out.len
        have H3 := cut_end (zs := zs) (sep := sep) (p := p) (by omega)
        rw [hlen] at H3
        have e : (zs.drop p).take (k - p) = zs.drop p := List.take_of_length_le (by simp; omega)
        rw [e] at hconv
        have H3' := Lib.hid H3
        clear hlen H3 e
        go_wp2_with (at_builtin; refine wpList_append_own _ rfl _ _ 23 rfl B 9 i0 (.string ⟨#[]⟩) 1 16 Try.underlying23 Hi.out Hz0.out Hz1.out Hz2.out rfl (by decide) _ _ _ rfl (Hrow.out.alloc _) ⟨wr.heap.size, 0, none⟩ 1 1 [strV (zs.drop p)] rfl rfl ?d1 ?d2 ?d3 ?d4 ?d5 ?_)
        case d1 => exact cell_new _ _ _
        case d2 => intro u hu; simp at hu; subst hu; rfl
        case d3 => unfold maxLen; omega
        case d4 => omega
        case d5 => simp; omega
        · intro v' w1 hown' hgrow _
          have hn : w1.ownsRow B 9 1 v' (D ++ [zs.drop p]).length ((D ++ [zs.drop p]).map strV) := by
            simpa using hown'
          have hk1 : Keeps [] w w1 := row_grown Hkp.out Hrow.out hgrow HB.out
          have Hn := Lib.hid hn
          have Hk1 := Lib.hid hk1
          clear hn hk1 hown' hgrow hconv
          go_wp2_with fail
          go_ret2
          refine ⟨v', ?_, ?_, Hk1.out⟩
          · rw [← H2.out, H3'.out]; rfl
          · rw [← H1.out, H3'.out, ← HB.out]; exact Hn.out
      · have hpe : p = k := by omega
        subst hpe
        have hlen := Hd.out.len
        have H3 := cut_over (zs := zs) (sep := sep)
        rw [hlen] at H3
        have H3' := Lib.hid H3
        clear hlen H3
        go_wp2_with fail
        go_ret2
        refine ⟨u6, ?_, ?_, Hkp.out⟩
        · rw [← H2.out, H3'.out]; rfl
        · rw [← H1.out, H3'.out, ← HB.out]; simpa using Hrow.out

set_option maxRecDepth 100000 in
set_option maxHeartbeats 400000 in
theorem refSplit_none (a : Option Addr) (c : Nat) (sep : Int) (w : World) : Calls Try.prog 10 #[.slice a 0 c, .int .u8 sep] w (SplitPost w sep []) := by
  go_enter Try.func10, Try.ntmps10
  go_wp2_with fail
  refine wp_loop_rounds 1 ?_; rw [rounds_succ]
  go_wp2_with fail
  go_ret2
  exact ⟨.slice none 0 0, rfl, World.ownsRow_nil _ _ _ _, Keeps.refl _ _⟩

/-- The place of the first separator, by IndexByte. -/
theorem place_ok {w : World} {b o N : Nat} {zs : List Int} (h : Bytes w b o N zs) (p c : Nat) (hp : p ≤ N) (sep : Int) (hs : InByte sep) :
    Calls Try.prog 39 #[.slice (some ⟨b, o + p, none⟩) (N - p) c, .int .u8 sep] w fun e w' => e = .returned (.int .i64 (if idx sep (zs.drop p) < N - p then (idx sep (zs.drop p) : Int) else -1)) ∧ w = w' := by
  have hl := h.len
  have hx : (zs.drop p).length = N - p := by simp; omega
  refine (Try.bytes_IndexByte b (o + p) (N - p) c (zs.drop p) sep w hx (fun i hi => ?_)).mono ?_
  · rw [Nat.add_assoc, h.cell (p + i) (by omega)]
    simp [List.getD]
  · rintro e w' ⟨rfl, rfl⟩
    rw [indexByte_idx sep hs (zs.drop p) (fun z hz => h.byte z (List.mem_of_mem_drop hz)), hx]
    exact ⟨rfl, rfl⟩

def SpRel (w : World) (B b o N c : Nat) (zs : List Int) (sep : Int) (d l : Value) (wr : World) : Prop :=
  ∃ (p : Nat) (D : List (List Int)), p ≤ N ∧ d = .slice (some ⟨b, o + p, none⟩) (N - p) (c - p) ∧ D.length ≤ p ∧ D ++ (cutL sep [] (zs.drop p)).1 = (cutL sep [] zs).1 ∧ (cutL sep [] (zs.drop p)).2 = (cutL sep [] zs).2 ∧
    wr.ownsRow B 9 1 l D.length (D.map strV) ∧ B ≤ wr.heap.size ∧ Keeps [] w wr

def dataLen : Value → Nat
  | .slice _ n _ => n
  | _ => 0

set_option maxRecDepth 100000 in
set_option maxHeartbeats 1600000 in
theorem split_some (b o N c : Nat) (zs : List Int) (sep : Int) (w : World) (hd : Bytes w b o N zs) (hs : InByte sep) (hc : N < c) (hN : N ≤ 8796093022206) :
    Calls Try.prog 9 #[.slice (some ⟨b, o, none⟩) N c, .int .u8 sep] w (SplitPost w sep zs) := by
  have Hd := Lib.hid hd
  have Hs := Lib.hid hs
  clear hd hs
  go_enter Try.func9, Try.ntmps9
  go_wp2_with fail
  obtain ⟨B, hB⟩ : ∃ B, B = w.heap.size := ⟨_, rfl⟩
  have HB := Lib.hid hB
  clear hB
  go_loopw [0, 6] (fun d l wr => SpRel w B b o N c zs sep d l wr) (fun d _ _ => dataLen d)
  case atStart => exact ⟨0, [], Nat.zero_le _, rfl, Nat.le_refl _, by simp, by simp, World.ownsRow_nil _ _ _ _, by rw [HB.out]; exact Nat.le_refl _, Keeps.refl _ _⟩
  case round =>
    obtain ⟨p, D, hpN, rfl, hDp, h1, h2, hrow, hBs, hkp⟩ := hrel
    have H1 := Lib.hid h1
    have H2 := Lib.hid h2
    have Hrow := Lib.hid hrow
    have Hkp := Lib.hid hkp
    clear h1 h2 hrow hkp
    obtain ⟨i0, hi, hz0, hz1, hz2⟩ := info_parts info9
    have Hi := Lib.hid hi
    have Hz0 := Lib.hid hz0
    have Hz1 := Lib.hid hz1
    have Hz2 := Lib.hid hz2
    clear hi hz0 hz1 hz2
    by_cases hlt : p < N
    · have hxl : (zs.drop p).length = N - p := by have := Hd.out.len; simp; omega
      by_cases hf : idx sep (zs.drop p) < N - p
      · have H3 := cut_found sep (zs.drop p) [] (by rw [hxl]; exact hf)
        have hpl := place_ok (Hd.out.keeps Hkp.out) p (c - p) hpN sep Hs.out
        rw [if_pos hf] at hpl
        generalize idx sep (zs.drop p) = n at *
        have hconv := (Hd.out.keeps Hkp.out).conv p n (c - p) (by omega)
        rw [List.drop_drop, List.nil_append] at H3
        have H3' := Lib.hid H3
        have Hpl := Lib.hid hpl
        clear H3 hpl hxl
        go_wp2_with fail
        refine Hpl.out.mono ?_
        rintro e w' ⟨rfl, rfl⟩
        go_wp2_with (at_builtin; refine wpList_append_own _ rfl _ _ 23 rfl B 9 i0 (.string ⟨#[]⟩) 1 16 Try.underlying23 Hi.out Hz0.out Hz1.out Hz2.out rfl (by decide) _ _ _ rfl (Hrow.out.alloc _) ⟨wr.heap.size, 0, none⟩ 1 1 [strV ((zs.drop p).take n)] rfl rfl ?c1 ?c2 ?c3 ?c4 ?c5 ?_)
        case c1 => exact cell_new _ _ _
        case c2 => intro u hu; simp at hu; subst hu; rfl
        case c3 => unfold maxLen; omega
        case c4 => omega
        case c5 => simp; omega
        · intro v' w1 hown' hgrow _
          have hn : w1.ownsRow B 9 1 v' (D ++ [(zs.drop p).take n]).length ((D ++ [(zs.drop p).take n]).map strV) := by
            simpa using hown'
          have hk1 : Keeps [] w w1 := row_grown Hkp.out Hrow.out hgrow HB.out
          have hB1 : B ≤ w1.heap.size := by have := hgrow.size; simp at this; omega
          have Hn := Lib.hid hn
          have Hk1 := Lib.hid hk1
          clear hn hk1 hown' hgrow hconv
          go_wp2_with fail
          go_roundw
          case rel => exact ⟨p + (n + 1), D ++ [(zs.drop p).take n], by omega, by rw [show o + p + (n + 1) = o + (p + (n + 1)) by omega, show N - p - (n + 1) = N - (p + (n + 1)) by omega, show c - p - (n + 1) = c - (p + (n + 1)) by omega], by simp; omega, by rw [← H1.out, H3'.out]; simp, by rw [← H2.out, H3'.out], Hn.out, hB1, Hk1.out⟩
          case measure => show N - p - (n + 1) < N - p; omega
      · have H3 := cut_none sep (zs.drop p) [] (by rw [hxl]; exact hf)
        have hpl := place_ok (Hd.out.keeps Hkp.out) p (c - p) hpN sep Hs.out
        rw [if_neg hf] at hpl
        have hne : (zs.drop p).isEmpty = false := by
          rw [drop_at zs p (by have := Hd.out.len; omega)]; rfl
        rw [List.nil_append, hne] at H3
        have hconv := (Hd.out.keeps Hkp.out).conv p (N - p) (c - p) (by omega)
        have e : (zs.drop p).take (N - p) = zs.drop p := List.take_of_length_le (by omega)
        rw [e] at hconv
        have H3' := Lib.hid H3
        have Hpl := Lib.hid hpl
        clear H3 hpl hxl e hf hne
        go_wp2_with fail
        refine Hpl.out.mono ?_
        rintro e w' ⟨rfl, rfl⟩
        go_wp2_with (at_builtin; refine wpList_append_own _ rfl _ _ 23 rfl B 9 i0 (.string ⟨#[]⟩) 1 16 Try.underlying23 Hi.out Hz0.out Hz1.out Hz2.out rfl (by decide) _ _ _ rfl (Hrow.out.alloc _) ⟨wr.heap.size, 0, none⟩ 1 1 [strV (zs.drop p)] rfl rfl ?d1 ?d2 ?d3 ?d4 ?d5 ?_)
        case d1 => exact cell_new _ _ _
        case d2 => intro u hu; simp at hu; subst hu; rfl
        case d3 => unfold maxLen; omega
        case d4 => omega
        case d5 => simp; omega
        · intro v' w1 hown' hgrow _
          have hn : w1.ownsRow B 9 1 v' (D ++ [zs.drop p]).length ((D ++ [zs.drop p]).map strV) := by
            simpa using hown'
          have hk1 : Keeps [] w w1 := row_grown Hkp.out Hrow.out hgrow HB.out
          have Hn := Lib.hid hn
          have Hk1 := Lib.hid hk1
          clear hn hk1 hown' hgrow hconv
          go_wp2_with fail
          go_ret2
          refine ⟨v', ?_, ?_, Hk1.out⟩
          · rw [← H2.out, H3'.out]; rfl
          · rw [← H1.out, H3'.out, ← HB.out]; exact Hn.out
    · have hpe : p = N := by omega
      subst hpe
      have hlen := Hd.out.len
      have H3 : cutL sep [] (zs.drop p) = ([], true) := by rw [← hlen, List.drop_length]; rfl
      have H3' := Lib.hid H3
      clear hlen H3
      go_wp2_with fail
      go_ret2
      refine ⟨u6, ?_, ?_, Hkp.out⟩
      · rw [← H2.out, H3'.out]; rfl
      · rw [← H1.out, H3'.out, ← HB.out]; simpa using Hrow.out
end Go.Proofs.Ytolnojhepakaoaa
