/- Arrays of numbers as functions; whole blocks loaded and stored. How many symbols have a code; whether lengths make a code. A decoder of lengths. -/
import Derived.Test.YtfbeipfpkikakaaDoorCl
import Derived.Deep.MidRow
import Derived.Great.Ranges
import Derived.Great.Walk
import Derived.StillTailTactics
namespace Go.Proofs.YtfbeipfpkikakaaDoor
section
open Go.RowKit

set_option maxRecDepth 100000
def intV (x : Nat) : Value := .int .i64 (x : Int)
/-- A row of n numbers. -/
def natL (n : Nat) (f : Nat → Nat) : List Value := (List.range n).map fun j => .int .i64 (f j : Int)
theorem natL_len (n : Nat) (f : Nat → Nat) : (natL n f).length = n := by simp [natL]
theorem natL_get {n : Nat} {f : Nat → Nat} {j : Nat} (h : j < n) : (natL n f)[j]? = some (.int .i64 (f j : Int)) := by
  unfold natL; rw [List.getElem?_map, List.getElem?_range h]; rfl
def upd (f : Nat → Nat) (k v : Nat) : Nat → Nat := fun j => if j = k then v else f j
theorem natL_set (n : Nat) (f : Nat → Nat) (k v : Nat) : (natL n f).set k (.int .i64 (v : Int)) = natL n (upd f k v) := by
  unfold natL upd
  apply List.ext_getElem
  · simp
  · intro i h1 h2
    rw [List.getElem_set]
    simp only [List.getElem_map, List.getElem_range]
    by_cases e : k = i
    · subst e; rw [if_pos rfl, if_pos rfl]
    · rw [if_neg e, if_neg (fun h => e h.symm)]
theorem natL_congr {n : Nat} {f g : Nat → Nat} (h : ∀ j, j < n → f j = g j) : natL n f = natL n g := by
  unfold natL
  apply List.map_congr_left
  intro j hj
  rw [h j (List.mem_range.1 hj)]
theorem natL_one (n : Nat) (f : Nat → Nat) : (natL n f).toArray.all (·.oneCell') = true := by
  apply all_oneCell_toArray
  intro v hv
  obtain ⟨j, _, rfl⟩ := List.mem_map.1 hv
  rfl
theorem natL_zero16 : (natL 16 fun _ => 0) = [.int .i64 0, .int .i64 0, .int .i64 0, .int .i64 0, .int .i64 0, .int .i64 0, .int .i64 0, .int .i64 0, .int .i64 0, .int .i64 0, .int .i64 0, .int .i64 0, .int .i64 0, .int .i64 0, .int .i64 0, .int .i64 0] := rfl
theorem CellsAt.range {w : World} {b : Nat} {vs : List Value} (h : CellsAt w b vs) : w.rangeAt b 0 vs := fun j v hv => by rw [Nat.zero_add]; exact h.cell j v hv
theorem CellsAt.there {w : World} {b : Nat} {vs : List Value} (h : CellsAt w b vs) : w.there b 0 vs.length := fun j hj => by
  rw [Nat.zero_add]
  exact ⟨by rw [h.cell j vs[j] (List.getElem?_eq_getElem hj)]; rfl, h.free j⟩
theorem size_setCells (b : Nat) : ∀ (vs : List Value) (o : Nat) (w : World), (w.setCells b o vs).heap.size = w.heap.size
  | [], _, _ => rfl
  | v :: r, o, w => by rw [World.setCells, size_setCells b r (o + 1)]; simp
theorem CellsAt.sets {w : World} {b : Nat} {vs us : List Value} (h : CellsAt w b vs) (hl : us.length = vs.length) : CellsAt (w.setCells b 0 us) b us :=
  ⟨by rw [size_setCells]; exact h.lt, fun j v hv => by have := World.rangeAt_setCells_same w b 0 us (by rw [hl]; exact h.there) j v hv; rw [Nat.zero_add] at this; exact this, fun j => by rw [World.frozen?_setCells]; exact h.free j⟩
theorem CellsAt.osets {w : World} {b c : Nat} {vs : List Value} (h : CellsAt w b vs) (hc : c ≠ b) (o : Nat) (us : List Value) : CellsAt (w.setCells c o us) b vs :=
  ⟨by rw [size_setCells]; exact h.lt, fun j v hv => by rw [World.cell?_setCells_out c us o w _ (fun e => absurd e.symm hc)]; exact h.cell j v hv, fun j => by rw [World.frozen?_setCells]; exact h.free j⟩
theorem below_sets {B : Nat} {a : World} (b : Nat) (hb : B ≤ b) : ∀ (vs : List Value) (o : Nat) {w : World}, Below B a w → Below B a (w.setCells b o vs)
  | [], _, _, h => h
  | v :: r, o, _, h => below_sets b hb r (o + 1) (h.setCell (p := ⟨b, o, none⟩) hb v)
theorem results_range {P : Program} {fn : Func} {p : Tmp} {ty : TypeId} (h : fn.results = #[.cell p ty]) (tmps : Array Value) (w : World) (b : Nat) (cs : List Value) (d : TypeDesc)
    (hp : tmps.getD p undef = .pointer (some ⟨b, 0, none⟩)) (hc : w.rangeAt b 0 cs) (hu : P.underlying ty = some d) (hd : d.isRow = true) (hi : (P.info? ty).map (·.size) = some cs.length) :
    (results fn tmps).run P w = .ok (.agg cs.toArray) w := by
  have hp' : tmps[p]?.getD undef = .pointer (some ⟨b, 0, none⟩) := by simpa using hp
  simp [results, h, hp', asAddr, run_loadVar_mid w b 0 ty cs d hc hu hd hi]
theorem info60 : (Tryd.prog.info? 60).map (·.size) = some 16 := by kernel_rfl
theorem info60n (f : Nat → Nat) : (Tryd.prog.info? 60).map (·.size) = some (natL 16 f).length := by rw [natL_len]; exact info60
theorem info60a (f : Nat → Nat) : (Tryd.prog.info? 60).map (·.size) = some (natL 16 f).toArray.size := by simp only [List.size_toArray, natL_len]; exact info60
theorem CellsAt.newA (w : World) (n : Nat) (f : Nat → Nat) (t : TypeId) : CellsAt (w.alloc (.cells (natL n f).toArray t)) w.heap.size (natL n f) := CellsAt.new w _ t

/-- The first code of each length. -/
def codeN (m : Nat → Nat) : Nat → Nat
  | 0 => 0
  | k + 1 => 2 * codeN m k + m (k + 1)
def firstN (m : Nat → Nat) (l : Nat) : Nat := match l with | 0 => 0 | k + 1 => 2 * codeN m k
theorem codeN_le (m : Nat → Nat) (M : Nat) (hm : ∀ j, m j ≤ M) : ∀ k, codeN m k + M ≤ 2 ^ k * M
  | 0 => by simp [codeN]
  | k + 1 => by
    have h1 := codeN_le m M hm k
    have h2 := hm (k + 1)
    show 2 * codeN m k + m (k + 1) + M ≤ _
    rw [Nat.pow_succ, Nat.mul_right_comm]
    omega
theorem codeN_lt (m : Nat → Nat) (hm : ∀ j, m j ≤ 100000) (k : Nat) (hk : k ≤ 15) : codeN m k ≤ 3276800000 := by
  have h1 := codeN_le m 100000 hm k
  have h2 : (2 : Nat) ^ k ≤ 2 ^ 15 := Nat.pow_le_pow_right (by omega) hk
  have h3 : 2 ^ k * 100000 ≤ 2 ^ 15 * 100000 := Nat.mul_le_mul_right _ h2
  omega
def FsRel (w : World) (B : Nat) (m : Nat → Nat) (c i : Value) (wr : World) : Prop := ∃ k : Nat, k ≤ 15 ∧ i = .int .i64 ((k + 1 : Nat) : Int) ∧ c = .int .i64 (codeN m k : Int) ∧
  CellsAt wr (B + 2) (natL 16 fun j => if j ≤ k then firstN m j else 0) ∧ CellsAt wr (B + 1) (natL 16 fun _ => 0) ∧ CellsAt wr B (natL 16 m) ∧ Below B w wr
theorem firstN_step (m : Nat → Nat) (k : Nat) : natL 16 (upd (fun j => if j ≤ k then firstN m j else 0) (k + 1) (2 * codeN m k)) = natL 16 (fun j => if j ≤ k + 1 then firstN m j else 0) := natL_congr fun j _ => by
  unfold upd
  by_cases e : j = k + 1
  · subst e; rw [if_pos rfl, if_pos (Nat.le_refl _)]; rfl
  · rw [if_neg e]
    show (if j ≤ k then firstN m j else 0) = _
    by_cases h : j ≤ k
    · rw [if_pos h, if_pos (by omega)]
    · rw [if_neg h, if_neg (by omega)]
theorem firstN_zero (m : Nat → Nat) : (natL 16 fun j => if j ≤ 0 then firstN m j else 0) = natL 16 fun _ => 0 := natL_congr fun j _ => by
  by_cases h : j ≤ 0
  · obtain rfl : j = 0 := by omega
    rfl
  · rw [if_neg h]
theorem fs_start (w : World) (m : Nat → Nat) : FsRel w w.heap.size m (.int .i64 0) (.int .i64 1) (((w.alloc (.cells (natL 16 m).toArray 60)).alloc (.cells #[.int .i64 0, .int .i64 0, .int .i64 0, .int .i64 0, .int .i64 0, .int .i64 0, .int .i64 0, .int .i64 0, .int .i64 0, .int .i64 0, .int .i64 0, .int .i64 0, .int .i64 0, .int .i64 0, .int .i64 0, .int .i64 0] 60)).alloc (.cells #[.int .i64 0, .int .i64 0, .int .i64 0, .int .i64 0, .int .i64 0, .int .i64 0, .int .i64 0, .int .i64 0, .int .i64 0, .int .i64 0, .int .i64 0, .int .i64 0, .int .i64 0, .int .i64 0, .int .i64 0, .int .i64 0] 60)) := by
  have s1 : (w.alloc (.cells (natL 16 m).toArray 60)).heap.size = w.heap.size + 1 := by simp
  have s2 : ((w.alloc (.cells (natL 16 m).toArray 60)).alloc (.cells #[.int .i64 0, .int .i64 0, .int .i64 0, .int .i64 0, .int .i64 0, .int .i64 0, .int .i64 0, .int .i64 0, .int .i64 0, .int .i64 0, .int .i64 0, .int .i64 0, .int .i64 0, .int .i64 0, .int .i64 0, .int .i64 0] 60)).heap.size = w.heap.size + 2 := by simp
  have a0 := CellsAt.newA w 16 m 60
  have a1 := CellsAt.newA (w.alloc (.cells (natL 16 m).toArray 60)) 16 (fun _ => 0) 60
  have a2 := CellsAt.newA ((w.alloc (.cells (natL 16 m).toArray 60)).alloc (.cells #[.int .i64 0, .int .i64 0, .int .i64 0, .int .i64 0, .int .i64 0, .int .i64 0, .int .i64 0, .int .i64 0, .int .i64 0, .int .i64 0, .int .i64 0, .int .i64 0, .int .i64 0, .int .i64 0, .int .i64 0, .int .i64 0] 60)) 16 (fun _ => 0) 60
  rw [s1] at a1
  rw [s2] at a2
  refine ⟨0, by omega, rfl, rfl, ?_, a1.alloc _, (a0.alloc _).alloc _, (((Below.refl _ _).alloc (Nat.le_refl _) _).alloc (by simp) _).alloc (by simp; omega) _⟩
  rw [firstN_zero]; exact a2
theorem FsRel.next {w wr : World} {B k : Nat} {m : Nat → Nat} (hk : k < 15) (h2 : CellsAt wr (B + 2) (natL 16 fun j => if j ≤ k then firstN m j else 0)) (h1 : CellsAt wr (B + 1) (natL 16 fun _ => 0)) (h0 : CellsAt wr B (natL 16 m)) (hb : Below B w wr) :
    FsRel w B m (.int .i64 ((codeN m k : Int) * 2 + (m (k + 1) : Int))) (.int .i64 (((k : Int) + 1) + 1)) (wr.setCell ⟨B + 2, k + 1, none⟩ (.int .i64 ((codeN m k : Int) * 2))) := by
  rw [show ((codeN m k : Int) * 2) = ((2 * codeN m k : Nat) : Int) by omega]
  have N2 := h2.set (k + 1) (.int .i64 ((2 * codeN m k : Nat) : Int)) (by rw [natL_len]; omega)
  rw [natL_set, firstN_step] at N2
  exact ⟨k + 1, by omega, by go_num, by rw [show codeN m (k + 1) = 2 * codeN m k + m (k + 1) from rfl]; go_num, N2, h1.other (by omega) _ _, h0.other (by omega) _ _, hb.setCell (p := ⟨B + 2, k + 1, none⟩) (by show B ≤ B + 2; omega) _⟩
set_option maxHeartbeats 1600000 in
theorem first_ok (m : Nat → Nat) (hm : ∀ j, m j ≤ 100000) (w : World) : Calls Tryd.prog 32 #[.agg (natL 16 m).toArray] w (RetBelow w (.agg (natL 16 (firstN m)).toArray)) := by
  have HM := Lib.hid hm
  clear hm
  go_enter Tryd.func32, Tryd.ntmps32
  go_upto_region 3 with fail
  have ST := Lib.hid (fs_start w m)
  generalize ((w.alloc (.cells (natL 16 m).toArray 60)).alloc (.cells #[.int .i64 0, .int .i64 0, .int .i64 0, .int .i64 0, .int .i64 0, .int .i64 0, .int .i64 0, .int .i64 0, .int .i64 0, .int .i64 0, .int .i64 0, .int .i64 0, .int .i64 0, .int .i64 0, .int .i64 0, .int .i64 0] 60)).alloc (.cells #[.int .i64 0, .int .i64 0, .int .i64 0, .int .i64 0, .int .i64 0, .int .i64 0, .int .i64 0, .int .i64 0, .int .i64 0, .int .i64 0, .int .i64 0, .int .i64 0, .int .i64 0, .int .i64 0, .int .i64 0, .int .i64 0] 60) = x2 at *
  obtain ⟨B, hB⟩ : ∃ B, B = w.heap.size := ⟨_, rfl⟩
  rw [← hB] at ST ⊢
  have EB := Lib.hid hB
  clear hB
  rw [show B + 1 + 1 = B + 2 from rfl]
  go_wp2_with fail
  go_loopw [4, 5] (fun c i wr => FsRel w B m c i wr) (fun _ i _ => (16 - intOf i).toNat)
  case atStart => exact ST.out
  case round =>
    obtain ⟨k, hk, rfl, rfl, h2, h1, h0, hb⟩ := hrel
    have l2 := h2.lt
    by_cases hlt : k < 15
    · have cl := codeN_lt m HM.out k hk
      have ml := HM.out (k + 1)
      have c2 := h2.cell (k + 1) _ (natL_get (by omega))
      have f2 := h2.free (k + 1)
      have c0 := (h0.other (c := B + 2) (by omega) (k + 1) (.int .i64 ((codeN m k : Int) * 2))).cell (k + 1) _ (natL_get (by omega))
      have FIN := Lib.hid (FsRel.next hlt h2 h1 h0 hb)
      have ME := Lib.hid (show (16 - (((k : Int) + 1) + 1)).toNat < (16 - ((k : Int) + 1)).toNat by omega)
      clear h2 h1 h0 hb
      generalize codeN m k = c at *
      generalize m (k + 1) = x at *
      generalize (if k + 1 ≤ k then firstN m (k + 1) else 0) = y at *
      go_wp2_with fail
      exact ⟨FIN.out, ME.out⟩
    · obtain rfl : k = 15 := by omega
      have e16 : (natL 16 fun j => if j ≤ 15 then firstN m j else 0) = natL 16 (firstN m) := natL_congr fun j hj => if_pos (by omega)
      rw [e16] at h2
      have R2 := Lib.hid h2.range
      have T1 := Lib.hid (show wr.there (B + 1) 0 (natL 16 (firstN m)).toArray.size by have := h1.there; simpa [natL_len] using this)
      have H1 := Lib.hid (h1.sets (us := natL 16 (firstN m)) (by simp [natL_len]))
      have HB := Lib.hid (below_sets (B + 1) (Nat.le_succ B) (natL 16 (firstN m)) 0 hb)
      clear h2 h1 h0 hb
      go_wp2_with (first
        | (guard_target =~ wpList _ _ _ (⟨some _, Op.load 60 _, _, _, _, _⟩ :: _) _ _; go_must (refine wpList_load_mid rfl 60 _ rfl (B + 2) 0 rfl (natL 16 (firstN m)) _ R2.out Tryd.underlying60 rfl (info60n _) ?_))
        | (guard_target =~ wpList _ _ _ (⟨none, Op.store 60 _ _, _, _, _, _⟩ :: _) _ _; go_must (refine wpList_store_mid rfl 60 _ _ rfl (B + 1) 0 (natL 16 (firstN m)).toArray rfl rfl T1.out (info60a _) (natL_one _ _) ?_)))
      exact bodyPost_ret (results_range rfl _ _ (B + 1) _ _ rfl H1.out.range Tryd.underlying60 rfl (info60n _)) rfl ⟨rfl, by rw [← EB.out]; exact HB.out⟩
end

section
open Go.RowKit

set_option maxRecDepth 100000
def ScRel (w : World) (B : Nat) (m : Nat → Nat) (f : Nat → Nat) (s i : Value) (wr : World) : Prop := ∃ k : Nat, k ≤ 15 ∧ i = .int .i64 (k : Int) ∧ s = .int .i64 (f k : Int) ∧ CellsAt wr B (natL 16 m) ∧ Below B w wr
def symsN (m : Nat → Nat) : Nat → Nat
  | 0 => 0
  | k + 1 => symsN m k + m (k + 1)
theorem symsN_le (m : Nat → Nat) (M : Nat) (hm : ∀ j, m j ≤ M) : ∀ k, symsN m k ≤ k * M
  | 0 => by simp [symsN]
  | k + 1 => by have h1 := symsN_le m M hm k; have h2 := hm (k + 1); show symsN m k + m (k + 1) ≤ _; rw [Nat.succ_mul]; omega
theorem symsN_lt (m : Nat → Nat) (hm : ∀ j, m j ≤ 100000) (k : Nat) (hk : k ≤ 15) : symsN m k ≤ 1500000 := by
  have h1 := symsN_le m 100000 hm k
  have h2 : k * 100000 ≤ 15 * 100000 := Nat.mul_le_mul_right _ hk
  omega
set_option maxHeartbeats 1600000 in
theorem symbols_ok (m : Nat → Nat) (hm : ∀ j, m j ≤ 100000) (w : World) : Calls Tryd.prog 46 #[.agg (natL 16 m).toArray] w (RetBelow w (.int .i64 (symsN m 15 : Int))) := by
  have HM := Lib.hid hm
  clear hm
  go_enter Tryd.func46, Tryd.ntmps46
  go_upto_region 1 with fail
  have A0 := Lib.hid (CellsAt.newA w 16 m 60)
  have B0 := Lib.hid (below_alloc w (.cells (natL 16 m).toArray 60))
  obtain ⟨B, hB⟩ : ∃ B, B = w.heap.size := ⟨_, rfl⟩
  generalize w.alloc (.cells (natL 16 m).toArray 60) = x2 at *
  rw [← hB] at A0 B0 ⊢
  have EB := Lib.hid hB
  clear hB
  have ST := Lib.hid (show ScRel w B m (symsN m) (.int .i64 0) (.int .i64 0) x2 from ⟨0, by omega, rfl, rfl, A0.out, B0.out⟩)
  have bl := A0.out.lt
  clear A0 B0
  go_wp2_with fail
  go_loopw [3, 5, 8] (fun s _ i wr => ScRel w B m (symsN m) s i wr) (fun _ _ i _ => (16 - intOf i).toNat)
  case atStart => exact ST.out
  case round =>
    obtain ⟨k, hk, rfl, rfl, h0, hb⟩ := hrel
    have bl2 := h0.lt
    by_cases hlt : k < 15
    · have cl := symsN_lt m HM.out k hk
      have ml := HM.out (k + 1)
      have c0 := h0.cell (k + 1) _ (natL_get (by omega))
      rw [Nat.add_comm k 1] at c0 ml
      have FIN := Lib.hid (show ScRel w B m (symsN m) (.int .i64 ((symsN m k : Int) + (m (1 + k) : Int))) (.int .i64 ((k : Int) + 1)) wr from ⟨k + 1, by omega, by go_num, by rw [show symsN m (k + 1) = symsN m k + m (k + 1) from rfl, Nat.add_comm k 1]; go_num, h0, hb⟩)
      have ME := Lib.hid (show (16 - ((k : Int) + 1)).toNat < (16 - (k : Int)).toNat by omega)
      clear h0 hb
      generalize symsN m k = c at *
      generalize m (1 + k) = x at *
      go_wp2_with fail
      exact ⟨FIN.out, ME.out⟩
    · obtain rfl : k = 15 := by omega
      have HB := Lib.hid hb
      clear hb h0
      go_wp2_with fail
      go_ret
      exact ⟨rfl, by rw [← EB.out]; exact HB.out⟩

/-- The room that codes take. -/
def roomN (m : Nat → Nat) : Nat → Nat
  | 0 => 0
  | k + 1 => roomN m k + m (k + 1) * 2 ^ (14 - k)
theorem roomN_le (m : Nat → Nat) (M : Nat) (hm : ∀ j, m j ≤ M) : ∀ k, roomN m k ≤ k * (M * 2 ^ 14)
  | 0 => by simp [roomN]
  | k + 1 => by
    have h1 := roomN_le m M hm k
    have h2 : m (k + 1) * 2 ^ (14 - k) ≤ M * 2 ^ 14 := Nat.mul_le_mul (hm _) (Nat.pow_le_pow_right (by omega) (by omega))
    show roomN m k + m (k + 1) * 2 ^ (14 - k) ≤ _
    rw [Nat.succ_mul]; omega
theorem roomN_lt (m : Nat → Nat) (hm : ∀ j, m j ≤ 100000) (k : Nat) (hk : k ≤ 15) : roomN m k ≤ 24576000000 := by
  have h1 := roomN_le m 100000 hm k
  have h2 : k * (100000 * 2 ^ 14) ≤ 15 * (100000 * 2 ^ 14) := Nat.mul_le_mul_right _ hk
  omega
theorem wpList_load_mid_g {P : Program} {ops : Array Oper} {rest : List Oper} {op : Oper} {a : Act} {w : World} {Q : Exit → Act → World → Prop} (hw : Region.wanted op (yielded ops a.tmps) = true) (ty : TypeId) (x : Operand) (ho : op.op = .load ty x)
    (b o : Nat) (hx : a.eval x = .pointer (some ⟨b, o, none⟩)) (cs : List Value) (d : TypeDesc) (hc : w.rangeAt b o cs)
    (hu : P.underlying ty = some d) (hd : d.isRow = true) (hi : (P.info? ty).map (·.size) = some cs.length)
    (h : wpList P ops Q rest (a.put op.dst (.agg cs.toArray)) w) : wpList P ops Q (op :: rest) a w :=
  wpList_step fun _ hK => by rw [if_pos hw]; exact wp_load_mid ty x ho b o hx cs d hc hu hd hi (hK _ _ h)
def isCode (m : Nat → Nat) : Bool := decide (roomN m 15 = 32768) || (decide (m 1 = 1) && decide (symsN m 15 = 1))
set_option maxHeartbeats 1600000 in
theorem code_ok (m : Nat → Nat) (hm : ∀ j, m j ≤ 100000) (w : World) : Calls Tryd.prog 31 #[.agg (natL 16 m).toArray] w (RetBelow w (.bool (isCode m))) := by
  have HM := Lib.hid hm
  clear hm
  go_enter Tryd.func31, Tryd.ntmps31
  go_upto_region 1 with fail
  have A0 := Lib.hid (CellsAt.newA w 16 m 60)
  have B0 := Lib.hid (below_alloc w (.cells (natL 16 m).toArray 60))
  obtain ⟨B, hB⟩ : ∃ B, B = w.heap.size := ⟨_, rfl⟩
  generalize w.alloc (.cells (natL 16 m).toArray 60) = x2 at *
  rw [← hB] at A0 B0 ⊢
  have EB := Lib.hid hB
  clear hB
  have ST := Lib.hid (show ScRel w B m (roomN m) (.int .i64 0) (.int .i64 0) x2 from ⟨0, by omega, rfl, rfl, A0.out, B0.out⟩)
  have bl := A0.out.lt
  clear A0 B0
  go_wp2_with fail
  go_loopw [3, 4, 5, 8] (fun s _ _ i wr => ScRel w B m (roomN m) s i wr) (fun _ _ _ i _ => (16 - intOf i).toNat)
  case atStart => exact ST.out
  case round =>
    obtain ⟨k, hk, rfl, rfl, h0, hb⟩ := hrel
    have bl2 := h0.lt
    by_cases hlt : k < 15
    · have cl := roomN_lt m HM.out k hk
      have ml := HM.out (k + 1)
      have c0 := h0.cell (k + 1) _ (natL_get (by omega))
      rw [Nat.add_comm k 1] at c0 ml
      have pl : m (1 + k) * 2 ^ (14 - k) ≤ 100000 * 2 ^ 14 := Nat.mul_le_mul ml (Nat.pow_le_pow_right (by omega) (by omega))
      have EP := Lib.hid (show (m (1 + k) : Int) * 2 ^ (14 - k) = ((m (1 + k) * 2 ^ (14 - k) : Nat) : Int) by rw [Int.natCast_mul, Int.natCast_pow]; rfl)
      have FIN0 := Lib.hid (show ScRel w B m (roomN m) (.int .i64 ((roomN m k : Int) + ((m (1 + k) * 2 ^ (14 - k) : Nat) : Int))) (.int .i64 ((k : Int) + 1)) wr from ⟨k + 1, by omega, by go_num, by rw [show roomN m (k + 1) = roomN m k + m (k + 1) * 2 ^ (14 - k) from rfl, Nat.add_comm k 1]; go_num, h0, hb⟩)
      have ME := Lib.hid (show (16 - ((k : Int) + 1)).toNat < (16 - (k : Int)).toNat by omega)
      clear h0 hb
      generalize roomN m k = c at *
      generalize m (1 + k) = x at *
      obtain ⟨P, hP⟩ : ∃ P, P = x * 2 ^ (14 - k) := ⟨_, rfl⟩
      rw [← hP] at pl EP FIN0
      have ep := EP.out
      have i2 : (14 - (k : Int)).toNat = 14 - k := by omega
      have i3 : 0 ≤ 14 - (k : Int) := by omega
      clear hP EP
      go_wp2_with fail
      exact ⟨FIN0.out, ME.out⟩
    · obtain rfl : k = 15 := by omega
      have HB := Lib.hid hb
      have cl := roomN_lt m HM.out 15 (by omega)
      have c1 := h0.cell 1 _ (natL_get (by omega))
      have ml := HM.out 1
      have R0 := Lib.hid h0.range
      have SC := Lib.hid (symbols_ok m HM.out)
      have EQ := Lib.hid (show isCode m = (decide (roomN m 15 = 32768) || (decide (m 1 = 1) && decide (symsN m 15 = 1))) from rfl)
      clear h0 hb
      generalize isCode m = R at *
      generalize symsN m 15 = S at *
      generalize roomN m 15 = C at *
      generalize m 1 = M at *
      by_cases e1 : C = 32768
      · have E := Lib.hid (show R = true by rw [EQ.out, decide_eq_true e1]; rfl)
        have t1 : ((C : Int) == 32768) = true := by simp; omega
        clear EQ e1
        go_wp2_with fail
        go_ret
        exact ⟨by rw [E.out]; rfl, by rw [← EB.out]; exact HB.out⟩
      · have t1 : ((C : Int) == 32768) = false := by simp; omega
        by_cases e2 : M = 1
        · have E := Lib.hid (show R = decide (S = 1) by rw [EQ.out, decide_eq_false e1, decide_eq_true e2]; rfl)
          subst e2
          clear EQ
          go_wp2_with (first
            | (guard_target =~ wpList _ _ _ (⟨some _, Op.load 60 _, _, _, _, _⟩ :: _) _ _; go_must (refine wpList_load_mid_g (by rfl) 60 _ rfl B 0 rfl (natL 16 m) _ R0.out Tryd.underlying60 rfl (info60n _) ?_)))
          refine (SC.out _).mono ?_
          rintro e w3 ⟨rfl, hb⟩
          have HB3 := Lib.hid (HB.out.trans (hb.mono (Nat.le_of_lt bl2)))
          clear hb
          by_cases e3 : S = 1
          · rw [decide_eq_true e3] at E
            have t3 : ((S : Int) == 1) = true := by simp; omega
            clear e3
            go_wp2_with fail
            go_ret
            exact ⟨by rw [E.out]; rfl, by rw [← EB.out]; exact HB3.out⟩
          · rw [decide_eq_false e3] at E
            have t3 : ((S : Int) == 1) = false := by simp; omega
            clear e3
            go_wp2_with fail
            go_ret
            exact ⟨by rw [E.out]; rfl, by rw [← EB.out]; exact HB3.out⟩
        · have t2 : ((M : Int) == 1) = false := by simp; omega
          have E := Lib.hid (show R = false by rw [EQ.out, decide_eq_false e1, decide_eq_false e2]; rfl)
          clear EQ
          go_wp2_with fail
          go_ret
          exact ⟨by rw [E.out]; rfl, by rw [← EB.out]; exact HB.out⟩
end

section
open Go.RowKit

set_option maxRecDepth 100000
/-- A block whose cells a function tells. -/
structure FnAt (w : World) (b n : Nat) (f : Nat → Value) : Prop where
  lt : b < w.heap.size
  cell : ∀ j, j < n → w.cell? ⟨b, j, none⟩ = some (f j)
  free : ∀ j, w.frozen? ⟨b, j, none⟩ = false
theorem FnAt.step {w w' : World} {b n : Nat} {f : Nat → Value} (h : FnAt w b n f) (k : Below w.heap.size w w') : FnAt w' b n f :=
  ⟨Nat.lt_of_lt_of_le h.lt k.size, fun j hj => ((bcell k).1 b j h.lt).trans (h.cell j hj), fun j => ((bcell k).2 b j h.lt).trans (h.free j)⟩
theorem FnAt.alloc {w : World} {b n : Nat} {f : Nat → Value} (h : FnAt w b n f) (o : Obj) : FnAt (w.alloc o) b n f := h.step (below_alloc w o)
def updV (f : Nat → Value) (k : Nat) (v : Value) : Nat → Value := fun j => if j = k then v else f j
theorem FnAt.set {w : World} {b n : Nat} {f : Nat → Value} (h : FnAt w b n f) (k : Nat) (v : Value) (hk : k < n) : FnAt (w.setCell ⟨b, k, none⟩ v) b n (updV f k v) := by
  refine ⟨by simpa using h.lt, fun j hj => ?_, fun j => by rw [World.frozen?_setCell]; exact h.free j⟩
  unfold updV
  by_cases e : j = k
  · subst e
    rw [if_pos rfl]
    exact World.cell?_setCell_same _ _ _ (h.cell j hj)
  · rw [if_neg e, World.cell?_setCell_other _ _ _ _ (fun h => e (congrArg Addr.off h).symm)]
    exact h.cell j hj
theorem FnAt.other {w : World} {b c n : Nat} {f : Nat → Value} (h : FnAt w b n f) (hc : c ≠ b) (j : Nat) (x : Value) : FnAt (w.setCell ⟨c, j, none⟩ x) b n f :=
  ⟨by simpa using h.lt, fun i hi => by rw [World.cell?_setCell_other _ _ _ _ (fun e => hc (congrArg Addr.block e))]; exact h.cell i hi, fun i => by rw [World.frozen?_setCell]; exact h.free i⟩
theorem FnAt.congr {w : World} {b n : Nat} {f g : Nat → Value} (h : FnAt w b n f) (e : ∀ j, j < n → f j = g j) : FnAt w b n g :=
  ⟨h.lt, fun j hj => (h.cell j hj).trans (by rw [e j hj]), h.free⟩
theorem FnAt.new (w : World) (n : Nat) (f : Nat → Value) (cs : List Value) (t : TypeId) (hc : ∀ j, j < n → cs[j]? = some (f j)) : FnAt (w.alloc (.cells cs.toArray t)) w.heap.size n f :=
  have h := CellsAt.new w cs t
  ⟨h.lt, fun j hj => h.cell j _ (hc j hj), h.free⟩
theorem FnAt.drew {w : World} {b n : Nat} {f : Nat → Value} (h : FnAt w b n f) : FnAt w.drew b n f := ⟨h.lt, h.cell, h.free⟩
theorem CellsAt.drew {w : World} {b : Nat} {vs : List Value} (h : CellsAt w b vs) : CellsAt w.drew b vs := ⟨h.lt, h.cell, h.free⟩

theorem FnAt.osets {w : World} {b c n : Nat} {f : Nat → Value} (h : FnAt w b n f) (hc : c ≠ b) (o : Nat) (us : List Value) : FnAt (w.setCells c o us) b n f :=
  ⟨by rw [size_setCells]; exact h.lt, fun j hj => by rw [World.cell?_setCells_out c us o w _ (fun e => absurd e.symm hc)]; exact h.cell j hj, fun j => by rw [World.frozen?_setCells]; exact h.free j⟩
/-- A decoder's cells. -/
def decF (sy : Nat → Nat) (en sh : Nat → Int) : Nat → Value := fun j => if j < 272 then .int .u16 (sy j : Int) else if j < 288 then .int .i64 (en (j - 272)) else .int .i64 (sh (j - 288))
theorem FnAt.dec {w : World} {d : Nat} {sy : Nat → Nat} {en sh : Nat → Int} (h : FnAt w d 304 (decF sy en sh)) : DecAt w d sy en sh :=
  ⟨h.lt, fun j hj => by rw [h.cell j (by omega)]; unfold decF; rw [if_pos hj],
   fun j hj => by rw [h.cell (272 + j) (by omega)]; unfold decF; rw [if_neg (by omega), if_pos (by omega), show 272 + j - 272 = j by omega],
   fun j hj => by rw [h.cell (288 + j) (by omega)]; unfold decF; rw [if_neg (by omega), if_neg (by omega), show 288 + j - 288 = j by omega]⟩
theorem decF_sym {sy : Nat → Nat} {en sh : Nat → Int} {k v : Nat} (hk : k < 272) : updV (decF sy en sh) k (.int .u16 (v : Int)) = decF (upd sy k v) en sh := by
  funext j
  unfold updV decF upd
  by_cases e : j = k
  · subst e; rw [if_pos rfl, if_pos hk, if_pos rfl]
  · rw [if_neg e]
    by_cases h : j < 272
    · rw [if_pos h, if_pos h, if_neg e]
    · rw [if_neg h, if_neg h]
def updI (f : Nat → Int) (k : Nat) (v : Int) : Nat → Int := fun j => if j = k then v else f j
theorem decF_end {sy : Nat → Nat} {en sh : Nat → Int} {k : Nat} {v : Int} (hk : k < 16) : updV (decF sy en sh) (272 + k) (.int .i64 v) = decF sy (updI en k v) sh := by
  funext j
  unfold updV decF updI
  by_cases e : j = 272 + k
  · subst e; rw [if_pos rfl, if_neg (by omega), if_pos (by omega), if_pos (by omega)]
  · rw [if_neg e]
    by_cases h : j < 272
    · rw [if_pos h, if_pos h]
    · rw [if_neg h, if_neg h]
      by_cases h2 : j < 288
      · rw [if_pos h2, if_pos h2, if_neg (by omega)]
      · rw [if_neg h2, if_neg h2]
theorem decF_shift {sy : Nat → Nat} {en sh : Nat → Int} {k : Nat} {v : Int} (hk : k < 16) : ∀ j, j < 304 → updV (decF sy en sh) (288 + k) (.int .i64 v) j = decF sy en (updI sh k v) j := by
  intro j hj
  unfold updV decF updI
  by_cases e : j = 288 + k
  · subst e; rw [if_pos rfl, if_neg (by omega), if_neg (by omega), if_pos (by omega)]
  · rw [if_neg e]
    by_cases h : j < 272
    · rw [if_pos h, if_pos h]
    · rw [if_neg h, if_neg h]
      by_cases h2 : j < 288
      · rw [if_pos h2, if_pos h2]
      · rw [if_neg h2, if_neg h2, if_neg (by omega)]

/-! The numbers of a decoder. -/
def endN (m : Nat → Nat) (l : Nat) : Nat := (firstN m l + m l) * 2 ^ (15 - l)
def shN (m : Nat → Nat) (l : Nat) : Int := (symsN m (l - 1) : Int) - (firstN m l : Int)
def endsUp (m : Nat → Nat) (k : Nat) : Nat → Int := fun j => if 1 ≤ j ∧ j ≤ k then (endN m j : Int) else 0
def shUp (m : Nat → Nat) (k : Nat) : Nat → Int := fun j => if 1 ≤ j ∧ j ≤ k then shN m j else 0
theorem endsUp_step (m : Nat → Nat) (k : Nat) : updI (endsUp m k) (k + 1) (endN m (k + 1) : Int) = endsUp m (k + 1) := by
  funext j
  unfold updI endsUp
  by_cases e : j = k + 1
  · subst e; rw [if_pos rfl, if_pos ⟨by omega, Nat.le_refl _⟩]
  · rw [if_neg e]
    by_cases h : 1 ≤ j ∧ j ≤ k
    · rw [if_pos h, if_pos ⟨h.1, by omega⟩]
    · rw [if_neg h, if_neg (by omega)]
theorem shUp_step (m : Nat → Nat) (k : Nat) : updI (shUp m k) (k + 1) (shN m (k + 1)) = shUp m (k + 1) := by
  funext j
  unfold updI shUp
  by_cases e : j = k + 1
  · subst e; rw [if_pos rfl, if_pos ⟨by omega, Nat.le_refl _⟩]
  · rw [if_neg e]
    by_cases h : 1 ≤ j ∧ j ≤ k
    · rw [if_pos h, if_pos ⟨h.1, by omega⟩]
    · rw [if_neg h, if_neg (by omega)]
def cnt (ls : List Nat) : Nat → Nat := fun j => ls.count j
def symF (ls : List Nat) : Nat → Nat → Nat
  | 0 => fun _ => 0
  | k + 1 => if 0 < ls.getD k 0 then upd (symF ls k) (symsN (cnt ls) (ls.getD k 0 - 1) + (ls.take k).count (ls.getD k 0)) k else symF ls k
theorem symsN_cons (x : Nat) (xs : List Nat) : ∀ q, symsN (cnt (x :: xs)) q = symsN (cnt xs) q + if 1 ≤ x ∧ x ≤ q then 1 else 0
  | 0 => by rw [if_neg (by omega)]; rfl
  | q + 1 => by
    show symsN (cnt (x :: xs)) q + (x :: xs).count (q + 1) = symsN (cnt xs) q + xs.count (q + 1) + _
    rw [symsN_cons x xs q, List.count_cons]
    have ex : (if (x == q + 1) = true then 1 else 0) = if x = q + 1 then 1 else 0 := by simp
    rw [ex]
    by_cases e : x = q + 1
    · subst e; rw [if_neg (show ¬ (1 ≤ q + 1 ∧ q + 1 ≤ q) by omega), if_pos rfl, if_pos ⟨by omega, Nat.le_refl _⟩]; omega
    · rw [if_neg e]
      by_cases h : 1 ≤ x ∧ x ≤ q
      · rw [if_pos h, if_pos ⟨h.1, Nat.le_succ_of_le h.2⟩]; omega
      · rw [if_neg h, if_neg (fun h' => h ⟨h'.1, by omega⟩)]; omega
theorem symsN_nil : ∀ q, symsN (cnt []) q = 0
  | 0 => rfl
  | q + 1 => by show symsN (cnt []) q + ([] : List Nat).count (q + 1) = 0; rw [symsN_nil q]; rfl
theorem symsN_len (ls : List Nat) (q : Nat) : symsN (cnt ls) q ≤ ls.length := by
  induction ls with
  | nil => rw [symsN_nil]; exact Nat.zero_le _
  | cons x xs ih =>
    rw [symsN_cons]
    have : (if 1 ≤ x ∧ x ≤ q then 1 else 0) ≤ 1 := by split <;> omega
    simp only [List.length_cons]
    omega
theorem count_take {ls : List Nat} {k : Nat} (hk : k < ls.length) : (ls.take k).count ls[k] + 1 ≤ ls.count ls[k] := by
  have e : ls = ls.take k ++ ls[k] :: ls.drop (k + 1) := by rw [List.getElem_cons_drop, List.take_append_drop]
  have h : ls.count ls[k] = (ls.take k ++ ls[k] :: ls.drop (k + 1)).count ls[k] := congrArg (List.count ls[k]) e
  rw [h, List.count_append, List.count_cons_self]
  omega
theorem place_lt {ls : List Nat} {k : Nat} (hk : k < ls.length) (hp : 0 < ls[k]) : symsN (cnt ls) (ls[k] - 1) + (ls.take k).count ls[k] < ls.length := by
  have h1 := symsN_len ls ls[k]
  have h2 := count_take hk
  obtain ⟨l, hl⟩ : ∃ l, ls[k] = l + 1 := ⟨ls[k] - 1, by omega⟩
  rw [hl] at h1 h2 ⊢
  rw [Nat.add_sub_cancel]
  have h3 : symsN (cnt ls) (l + 1) = symsN (cnt ls) l + ls.count (l + 1) := rfl
  omega
theorem cnt_le (ls : List Nat) (h : ls.length ≤ 100000) (j : Nat) : cnt ls j ≤ 100000 := Nat.le_trans List.count_le_length h
theorem built130 : (Tryd.prog.built 130 []).getD #[] = ((List.range 304).map (decF (fun _ => 0) (fun _ => 0) (fun _ => 0))).toArray := by kernel_rfl
theorem cnt_take_snoc {ls : List Nat} {k : Nat} (hk : k < ls.length) (j : Nat) : (ls.take (k + 1)).count j = (ls.take k).count j + if j = ls[k] then 1 else 0 := by
  rw [List.take_succ_eq_append_getElem hk, List.count_append, List.count_cons, List.count_nil]
  by_cases e : j = ls[k]
  · rw [if_pos e, if_pos (by simpa using e.symm)]
  · rw [if_neg e, if_neg (by simpa using fun h => e h.symm)]
end
end Go.Proofs.YtfbeipfpkikakaaDoor
