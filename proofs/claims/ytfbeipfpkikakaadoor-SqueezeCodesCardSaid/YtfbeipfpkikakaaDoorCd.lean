/- Codes of lengths. The codes of both codes' lengths. Codes are no longer than their lengths say. -/
import Derived.Test.YtfbeipfpkikakaaDoorDl
import Derived.Deep.OwnRows
import Derived.Laws.IdiomCopy
namespace Go.Proofs.YtfbeipfpkikakaaDoor
section
open Go.RowKit

set_option maxRecDepth 100000
theorem info22 : (Tryd.prog.info? 22).map (fun i => (i.zero, i.size, i.bytes)) = some (some (.int .u32 0), 1, 4) := by kernel_rfl
/-- The codes of the first k symbols. -/
def codF (ls : List Nat) : Nat → Nat → Nat
  | 0 => fun _ => 0
  | k + 1 => if 0 < ls.getD k 0 then upd (codF ls k) k ((firstN (cnt ls) (ls.getD k 0) + (ls.take k).count (ls.getD k 0)) % 4294967296) else codF ls k
def u32F (f : Nat → Nat) : Nat → Value := fun j => .int .u32 (f j : Int)
theorem u32F_upd (f : Nat → Nat) (k v : Nat) : updV (u32F f) k (.int .u32 (v : Int)) = u32F (upd f k v) := by
  funext j; unfold updV u32F upd; by_cases e : j = k <;> simp [e]
theorem codF_skip {ls : List Nat} {k : Nat} (hk : k < ls.length) (h0 : ls[k] = 0) : codF ls (k + 1) = codF ls k := by
  have : ls.getD k 0 = 0 := by rw [List.getD_eq_getElem?_getD, List.getElem?_eq_getElem hk]; exact h0
  show (if 0 < ls.getD k 0 then _ else _) = _
  rw [this]; rfl
theorem codF_step {ls : List Nat} {k : Nat} (hk : k < ls.length) (h0 : 0 < ls[k]) : codF ls (k + 1) = upd (codF ls k) k ((firstN (cnt ls) ls[k] + (ls.take k).count ls[k]) % 4294967296) := by
  have : ls.getD k 0 = ls[k] := by rw [List.getD_eq_getElem?_getD, List.getElem?_eq_getElem hk]; rfl
  show (if 0 < ls.getD k 0 then _ else _) = _
  rw [this, if_pos h0]
def RetCd (w : World) (ls : List Nat) (n : Nat) (e : Ending) (w' : World) : Prop :=
  if isCode (cnt ls) then ∃ g, e = .returned (.tuple #[.slice (some ⟨g, 0, none⟩) n n, .int .i64 0]) ∧ FnAt w' g n (u32F (codF ls n)) ∧ w.heap.size ≤ g ∧ Below w.heap.size w w'
  else e = .returned (.tuple #[.slice none 0 0, .int .i64 65]) ∧ Below w.heap.size w w'
/-- While codes are given: N, the next codes; G, the codes. -/
def CdRel (w : World) (N G : Nat) (ls : List Nat) (i : Value) (wr : World) : Prop := ∃ k : Nat, k ≤ ls.length ∧ i = .int .i64 (k : Int) ∧
  CellsAt wr N (natL 16 fun j => if j = 0 then 0 else firstN (cnt ls) j + (ls.take k).count j) ∧ FnAt wr G ls.length (u32F (codF ls k)) ∧ Below w.heap.size w wr
theorem fn_made (w : World) (n : Nat) : FnAt (w.alloc (.cells (madeCells #[.int .u32 0] n) 22)) w.heap.size n (u32F fun _ => 0) := by
  obtain ⟨c, h1, _, h3⟩ := World.rowIs_made w (.int .u32 0) n 22
  have hb := (BlkAt.cells (p := w.heap.size) (t := 22) (vs := c.toList) (show BlkAt (w.alloc (.cells (madeCells #[.int .u32 0] n) 22)) w.heap.size 22 c.toList by unfold BlkAt; rw [h1]))
  exact ⟨hb.lt, fun j hj => hb.cell j _ (by rw [Array.getElem?_toList]; exact h3 j hj), hb.free⟩
set_option maxHeartbeats 1600000 in
theorem codes14_ok (b off cp n : Nat) (ls : List Nat) (hn : ls.length = n) (hls : ∀ x ∈ ls, x < 16) (hlen : n ≤ 512) (w : World) (hb : b < w.heap.size) (hc : ∀ (j x : Nat), ls[j]? = some x → w.cell? ⟨b, off + j, none⟩ = some (.int .i64 (x : Int))) :
    Calls Tryd.prog 14 #[.slice (some ⟨b, off, none⟩) n cp] w (RetCd w ls n) := by
  have HC := Lib.hid hc
  have HX := Lib.hid hls
  have HM := Lib.hid (cnt_le ls (by omega))
  have HN := Lib.hid hn
  have CL := Lib.hid (countLengths_n b off cp n ls hn hls (by omega) w hb hc)
  obtain ⟨i0, hi0, hz0, hz1, hz2⟩ := info_parts info22
  have hmk := fun (W : World) => run_make_row (P := Tryd.prog) 30 22 i0 (.int .u32 0) Tryd.underlying30 hi0 hz0 hz1 rfl .i64 .i64 n (by rw [hz2]; omega) (by omega) W
  have HMK := Lib.hid hmk
  clear hc hls hn hi0 hz0 hz1 hz2 hmk
  have t512 : decide ((512 : Int) < (n : Int)) = false := decide_eq_false (by omega)
  go_enter Tryd.func14, Tryd.ntmps14
  go_wp2_with fail
  go_loop [5, 16] (fun _ i => ∃ k : Nat, k ≤ n ∧ i = .int .i64 (k : Int)) (fun _ i => (n - (intOf i).toNat))
  case atStart => exact ⟨0, Nat.zero_le _, rfl⟩
  case round =>
    obtain ⟨k, hk, rfl⟩ := hrel
    by_cases hlt : k < n
    · have hlt2 : k < ls.length := by rw [HN.out]; exact hlt
      have cx := HC.out k ls[k] (List.getElem?_eq_getElem hlt2)
      have hx := HX.out ls[k] (List.getElem_mem hlt2)
      have ME := Lib.hid (show n - ((k : Int) + 1).toNat < n - (k : Int).toNat by omega)
      have KK := Lib.hid (show ∃ k2 : Nat, k2 ≤ n ∧ (.int .i64 ((k : Int) + 1) : Value) = .int .i64 (k2 : Int) from ⟨k + 1, by omega, by go_num⟩)
      generalize ls[k] = x at *
      have t1 : decide ((15 : Int) < (x : Int)) = false := decide_eq_false (by omega)
      clear t512
      go_wp2_with fail
      exact ⟨KK.out, ME.out⟩
    · obtain rfl : k = n := by omega
      go_wp2_with fail
      refine CL.out.mono ?_
      rintro e x2 ⟨rfl, hb2⟩
      have B2 := Lib.hid hb2
      clear hb2 CL
      have T2 := Lib.hid (laid_there x2 16 60 (cnt ls))
      have C2 := Lib.hid (laid_at x2 16 60 (cnt ls))
      have B3 := Lib.hid (B2.out.trans ((laid_below x2 16 60 (cnt ls)).mono B2.out.size))
      have Z := Lib.hid zero60
      clear B2
      go_upto_region 10 with (first
        | (guard_target =~ wpList _ _ _ (⟨some _, Op.alloc 60, _, _, _, _⟩ :: _) _ _; go_must (refine wp_alloc0 rfl 60 rfl _ Z.out ?_; simp only [Value.cells]))
        | (guard_target =~ wpList _ _ _ (⟨none, Op.store 60 _ _, _, _, _, _⟩ :: _) _ _; go_must (refine wpList_store_mid rfl 60 _ _ rfl x2.heap.size 0 (natL 16 (cnt ls)).toArray rfl rfl T2.out (info60a _) (natL_one _ _) ?_)))
      generalize (x2.alloc (.cells (natL 16 fun _ => 0).toArray 60)).setCells x2.heap.size 0 (natL 16 (cnt ls)) = x3 at *
      generalize x2.heap.size = M1 at *
      clear T2
      have RG := Lib.hid C2.out.range
      go_wp2_with (first
        | (guard_target =~ wpList _ _ _ (⟨some _, Op.load 60 _, _, _, _, _⟩ :: _) _ _; go_must (refine wpList_load_mid rfl 60 _ rfl M1 0 rfl (natL 16 (cnt ls)) _ RG.out Tryd.underlying60 rfl (info60n _) ?_)))
      refine (code_ok _ HM.out _).mono ?_
      rintro e x4 ⟨rfl, hb4⟩
      have B4 := Lib.hid (B3.out.trans (hb4.mono B3.out.size))
      have C4 := Lib.hid (C2.out.step hb4)
      clear hb4 B3 C2 RG
      by_cases hcode : isCode (cnt ls) = true
      · have RR := Lib.hid (show ∀ g w', FnAt w' g k (u32F (codF ls k)) → w.heap.size ≤ g → Below w.heap.size w w' → RetCd w ls k (.returned (.tuple #[.slice (some ⟨g, 0, none⟩) k k, .int .i64 0])) w' from fun g w' h1 h2 h3 => by
          unfold RetCd; rw [if_pos hcode]; exact ⟨g, rfl, h1, h2, h3⟩)
        rw [hcode]
        have RG := Lib.hid C4.out.range
        clear hcode
        go_wp2_with (first
          | (guard_target =~ wpList _ _ _ (⟨some _, Op.load 60 _, _, _, _, _⟩ :: _) _ _; go_must (refine wpList_load_mid rfl 60 _ rfl M1 0 rfl (natL 16 (cnt ls)) _ RG.out Tryd.underlying60 rfl (info60n _) ?_)))
        refine (first_ok _ HM.out _).mono ?_
        rintro e x5 ⟨rfl, hb5⟩
        have B5 := Lib.hid (B4.out.trans (hb5.mono B4.out.size))
        clear hb5 B4 C4 RG
        have T6 := Lib.hid (laid_there x5 16 60 (firstN (cnt ls)))
        have C6 := Lib.hid (laid_at x5 16 60 (firstN (cnt ls)))
        have B6 := Lib.hid (B5.out.trans ((laid_below x5 16 60 (firstN (cnt ls))).mono B5.out.size))
        have sB5 := B5.out.size
        have sB6 := B6.out.size
        clear B5
        go_upto_region 13 with (first
          | (guard_target =~ wpList _ _ _ (⟨some _, Op.alloc 60, _, _, _, _⟩ :: _) _ _; go_must (refine wp_alloc0 rfl 60 rfl _ Z.out ?_; simp only [Value.cells]))
          | (guard_target =~ wpList _ _ _ (⟨none, Op.store 60 _ _, _, _, _, _⟩ :: _) _ _; go_must (refine wpList_store_mid rfl 60 _ _ rfl x5.heap.size 0 (natL 16 (firstN (cnt ls))).toArray rfl rfl T6.out (info60a _) (natL_one _ _) ?_)))
        generalize (x5.alloc (.cells (natL 16 fun _ => 0).toArray 60)).setCells x5.heap.size 0 (natL 16 (firstN (cnt ls))) = x6 at *
        obtain ⟨N, hN⟩ : ∃ N, N = x5.heap.size := ⟨_, rfl⟩
        rw [← hN] at C6 sB5 ⊢
        clear hN T6
        have hmk := HMK.out x6
        have lN := C6.out.lt
        have C7 := Lib.hid (C6.out.alloc (.cells (madeCells #[.int .u32 0] k) 22))
        have G7 := Lib.hid (fn_made x6 k)
        have B7 := Lib.hid (B6.out.alloc B6.out.size (.cells (madeCells #[.int .u32 0] k) 22))
        go_upto_region 14 with fail
        clear C6 B6 hmk HMK
        obtain ⟨G, hG⟩ : ∃ G, G = x6.heap.size := ⟨_, rfl⟩
        have nG : N ≠ G := by omega
        have GB := Lib.hid (show w.heap.size ≤ G ∧ w.heap.size ≤ N from ⟨by omega, by omega⟩)
        generalize x6.alloc (.cells (madeCells #[.int .u32 0] k) 22) = x7 at *
        rw [← hG] at G7 ⊢
        clear hG lN
        have ST := Lib.hid (show CdRel w N G ls (.int .i64 (0 : Nat)) x7 from ⟨0, Nat.zero_le _, rfl, by rw [nextC_zero]; exact C7.out, by rw [HN.out]; exact G7.out, B7.out⟩)
        clear C7 G7 B7
        go_wp2_with fail
        go_loopw [9, 10, 39] (fun _ _ i wr => CdRel w N G ls i wr) (fun _ _ i _ => (k - (intOf i).toNat))
        case atStart => exact ST.out
        case round =>
          clear ST
          obtain ⟨j, hj, rfl, hn, hg, hbl⟩ := hrel
          rw [HN.out] at hj hg
          have hgl := hg.lt
          have hnl := hn.lt
          by_cases hlt2 : j < k
          · have hjl : j < ls.length := by rw [HN.out]; exact hlt2
            have cx := ((bcell hbl).1 b (off + j) hb).trans (HC.out j ls[j] (List.getElem?_eq_getElem hjl))
            have hx := HX.out ls[j] (List.getElem_mem hjl)
            have ME := Lib.hid (show k - ((j : Int) + 1).toNat < k - (j : Int).toNat by omega)
            by_cases h0 : ls[j] = 0
            · have FIN := Lib.hid (show CdRel w N G ls (.int .i64 ((j : Int) + 1)) wr from ⟨j + 1, by omega, by go_num, by rw [nextC_skip hjl h0]; exact hn, by rw [codF_skip hjl h0, HN.out]; exact hg, hbl⟩)
              rw [h0] at cx
              clear hn hg hbl
              go_wp2_with fail
              exact ⟨FIN.out, ME.out⟩
            · have hp : 0 < ls[j] := by omega
              have fl := firstN_lt (cnt ls) HM.out ls[j] (by omega)
              have cl : (ls.take j).count ls[j] ≤ 100000 := Nat.le_trans List.count_le_length (by rw [List.length_take]; omega)
              have cn := hn.cell ls[j] _ (natL_get (by omega))
              rw [if_neg h0] at cn
              have fn := hn.free ls[j]
              have cg := hg.cell j hlt2
              have fg := hg.free j
              have SE := Lib.hid (codF_step hjl hp)
              have NE := Lib.hid (nextC_step hjl hp)
              obtain ⟨X, hX⟩ : ∃ X, X = firstN (cnt ls) ls[j] + (ls.take j).count ls[j] := ⟨_, rfl⟩
              have xl : X ≤ 6553700000 := by omega
              rw [← hX] at cn NE SE
              have QX := Lib.hid hX
              clear hX fl cl
              generalize ls[j] = l at *
              obtain ⟨Y, hY⟩ : ∃ Y, Y = X % 4294967296 := ⟨_, rfl⟩
              rw [← hY] at SE
              have i1 : IntKind.u32.wrap (X : Int) = (Y : Int) := by rw [IntKind.wrap_u32]; omega
              have N2 := Lib.hid (hn.other (c := G) (Ne.symm nG) j (.int .u32 (Y : Int)))
              have G2 := Lib.hid (hg.set j (.int .u32 (Y : Int)) hlt2)
              have B2 := Lib.hid (hbl.setCell (p := ⟨G, j, none⟩) GB.out.1 (.int .u32 (Y : Int)))
              have l1 : (0 : Int) < (l : Int) := by omega
              clear hn hg hbl hY
              go_upto_region 19 with fail
              generalize wr.setCell ⟨G, j, none⟩ (.int .u32 (Y : Int)) = w2 at *
              clear cn fn cg fg hgl hnl cx i1
              have cn := N2.out.cell l _ (natL_get (by omega))
              rw [if_neg h0, ← QX.out] at cn
              have fn := N2.out.free l
              have hnl := N2.out.lt
              have FIN := Lib.hid (show CdRel w N G ls (.int .i64 ((j : Int) + 1)) (w2.setCell ⟨N, l, none⟩ (.int .i64 ((X : Int) + 1))) from by
                have n3 := N2.out.set l (.int .i64 ((X + 1 : Nat) : Int)) (by rw [natL_len]; omega)
                rw [natL_set, NE.out] at n3
                have g3 := G2.out
                rw [u32F_upd, ← SE.out] at g3
                exact ⟨j + 1, by omega, by go_num, n3, by rw [HN.out]; exact g3.other nG _ _, B2.out.setCell (p := ⟨N, l, none⟩) GB.out.2 _⟩)
              clear N2 G2 B2 SE NE QX
              go_wp2_with fail
              exact ⟨FIN.out, ME.out⟩
          · obtain rfl : j = k := by omega
            have FIN := Lib.hid (RR.out G wr hg GB.out.1 hbl)
            clear hn hg hbl
            go_wp2_with fail
            go_ret2
            exact FIN.out
      · have RR := Lib.hid (show ∀ w', Below w.heap.size w w' → RetCd w ls k (.returned (.tuple #[.slice none 0 0, .int .i64 65])) w' from fun w' h => by
          unfold RetCd; rw [if_neg hcode]; exact ⟨rfl, h⟩)
        rw [Bool.eq_false_iff.2 hcode]
        go_wp2_with fail
        go_ret2
        exact RR.out _ B4.out
end

section
open Go.RowKit

set_option maxRecDepth 100000
theorem natU_len (n : Nat) (f : Nat → Nat) : (natU n f).length = n := by simp [natU]
theorem natU_one (n : Nat) (f : Nat → Nat) : (natU n f).toArray.all (·.oneCell') = true := by
  apply all_oneCell_toArray
  intro v hv
  obtain ⟨j, _, rfl⟩ := List.mem_map.1 hv
  rfl
theorem natU_congr {n : Nat} {f g : Nat → Nat} (h : ∀ j, j < n → f j = g j) : natU n f = natU n g := by
  unfold natU
  apply List.map_congr_left
  intro j hj
  rw [h j (List.mem_range.1 hj)]
theorem info104 : (Tryd.prog.info? 104).map (·.size) = some 302 := by kernel_rfl
theorem info104n (f : Nat → Nat) : (Tryd.prog.info? 104).map (·.size) = some (natU 302 f).length := by rw [natU_len]; exact info104
theorem info104a (f : Nat → Nat) : (Tryd.prog.info? 104).map (·.size) = some (natU 302 f).toArray.size := by simp only [List.size_toArray, natU_len]; exact info104
theorem zero104 : (Tryd.prog.info? 104).bind (·.zero) = some (.agg (natU 302 fun _ => 0).toArray) := by kernel_rfl
theorem size22 : (Tryd.prog.info? 22).map (·.size) = some 1 := by kernel_rfl
/-- Numbers are copied over a part of a row. -/
theorem copy_nums {w : World} {b o n m c d g : Nat} {f h : Nat → Nat} (ty : TypeId) (hb : BlkAt w b 104 (natU 302 f)) (hg : FnAt w g n (u32F h)) (ho : o + n ≤ 302) (hm : m = n) :
    (Builtin.copy_ #[30, 30] ty #[.slice (some ⟨b, o, none⟩) m c, .slice (some ⟨g, 0, none⟩) n d]).run Tryd.prog w = .ok (goInt n) (w.setCells b o (natU n h)) := by
  subst hm
  have := run_copy_cells (P := Tryd.prog) w 30 30 ty 22 b o m c ⟨g, 0, none⟩ m d (natU m h) Tryd.underlying30 size22 (by rw [natU_len]; exact (Nat.min_self m).symm) (fun j v hv => by
      rw [add_plain, Nat.zero_add]
      have hj : j < m := by have := (List.getElem?_eq_some_iff.1 hv).1; rwa [natU_len] at this
      rw [natU_get hj] at hv
      rw [hg.cell j hj]
      exact hv) (fun j hj => by
      rw [natU_len] at hj
      rw [hb.cells.cell (o + j) _ (natU_get (by omega))]; rfl) (fun j _ => hb.cells.free _) (fun v hv => by
      obtain ⟨j, _, rfl⟩ := List.mem_map.1 hv
      rfl)
  rw [natU_len] at this
  exact this
theorem natU_set (n : Nat) (f : Nat → Nat) (k v : Nat) : (natU n f).set k (.int .u32 (v : Int)) = natU n (upd f k v) := by
  unfold natU upd
  apply List.ext_getElem
  · simp
  · intro i h1 h2
    rw [List.getElem_set]
    simp only [List.getElem_map, List.getElem_range]
    by_cases e : k = i
    · subst e; rw [if_pos rfl, if_pos rfl]
    · rw [if_neg e, if_neg (fun h => e h.symm)]
def overF (f : Nat → Nat) (o n : Nat) (h : Nat → Nat) : Nat → Nat := fun j => if o ≤ j ∧ j < o + n then h (j - o) else f j
theorem natU_cons (n : Nat) (h : Nat → Nat) : natU (n + 1) h = .int .u32 (h 0 : Int) :: natU n fun j => h (j + 1) := by
  unfold natU
  rw [List.range_succ_eq_map, List.map_cons, List.map_map]
  rfl
theorem BlkAt.setsU {p N : Nat} {t : TypeId} : ∀ (n o : Nat) (f h : Nat → Nat) {w : World}, BlkAt w p t (natU N f) → BlkAt (w.setCells p o (natU n h)) p t (natU N (overF f o n h))
  | 0, o, f, h, w, hb => by
    have e : overF f o 0 h = f := by funext j; unfold overF; rw [if_neg (by omega)]
    rw [e]; exact hb
  | n + 1, o, f, h, w, hb => by
    rw [natU_cons, World.setCells]
    have b1 := hb.set o (.int .u32 (h 0 : Int))
    rw [natU_set] at b1
    have b2 := BlkAt.setsU n (o + 1) (upd f o (h 0)) (fun j => h (j + 1)) b1
    have e : overF (upd f o (h 0)) (o + 1) n (fun j => h (j + 1)) = overF f o (n + 1) h := by
      funext j
      unfold overF upd
      by_cases h1 : o + 1 ≤ j ∧ j < o + 1 + n
      · rw [if_pos h1, if_pos ⟨by omega, by omega⟩]
        show h (j - (o + 1) + 1) = _
        rw [show j - (o + 1) + 1 = j - o by omega]
      · rw [if_neg h1]
        by_cases h2 : j = o
        · subst h2; rw [if_pos rfl, if_pos ⟨by omega, by omega⟩, Nat.sub_self]
        · rw [if_neg h2, if_neg (by omega)]
    rw [e] at b2
    exact b2
/-- The codes of both. -/
def allC (F : Nat → Nat) : Nat → Nat :=
  if isCode (cnt (partL F 272 30)) then overF (overF (fun _ => 0) 0 272 (codF (partL F 0 272) 272)) 272 30 (codF (partL F 272 30) 30) else overF (fun _ => 0) 0 272 (codF (partL F 0 272) 272)
set_option maxHeartbeats 1600000 in
theorem codes58_ok {w : World} {lp o : Nat} {F : Nat → Nat} (hl : lp < w.heap.size) (hF : ∀ j, F j < 16) (hc : ∀ j, j < 302 → w.cell? ⟨lp, o + j, none⟩ = some (.int .i64 (F j : Int))) (g1 : isCode (cnt (partL F 0 272)) = true) :
    Calls Tryd.prog 58 #[.pointer (some ⟨lp, o, none⟩)] w (RetBelow w (.agg (natU 302 (allC F)).toArray)) := by
  have PC := Lib.hid (show ∀ (W : World), Below w.heap.size w W → ∀ (off m : Nat), off + m ≤ 302 → ∀ (j x : Nat), (partL F off m)[j]? = some x → W.cell? ⟨lp, o + off + j, none⟩ = some (.int .i64 (x : Int)) from fun W hW off m hm j x hx => by
    obtain ⟨hj, rfl⟩ := partL_get hx
    rw [(bcell hW).1 lp _ hl, Nat.add_assoc]
    exact hc (off + j) (by omega))
  have C1 := Lib.hid (fun (W : World) (hW : Below w.heap.size w W) => codes14_ok lp (o + 0) 302 272 (partL F 0 272) (partL_len F 0 272) (partL_lt hF) (by omega) W (Nat.lt_of_lt_of_le hl hW.size) (PC.out W hW 0 272 (by omega)))
  have C2 := Lib.hid (fun (W : World) (hW : Below w.heap.size w W) => codes14_ok lp (o + 272) 30 30 (partL F 272 30) (partL_len F 272 30) (partL_lt hF) (by omega) W (Nat.lt_of_lt_of_le hl hW.size) (PC.out W hW 272 30 (by omega)))
  rw [Nat.add_zero] at C1
  have AC := Lib.hid (show allC F = if isCode (cnt (partL F 272 30)) then overF (overF (fun _ => 0) 0 272 (codF (partL F 0 272) 272)) 272 30 (codF (partL F 272 30) 30) else overF (fun _ => 0) 0 272 (codF (partL F 0 272) 272) from rfl)
  have R1 := Lib.hid (fun w e w' (h : RetCd w (partL F 0 272) 272 e w') => show ∃ g, e = .returned (.tuple #[.slice (some ⟨g, 0, none⟩) 272 272, .int .i64 0]) ∧ FnAt w' g 272 (u32F (codF (partL F 0 272) 272)) ∧ w.heap.size ≤ g ∧ Below w.heap.size w w' from by unfold RetCd at h; rw [if_pos g1] at h; exact h)
  generalize allC F = A at *
  generalize partL F 0 272 = l1 at *
  generalize partL F 272 30 = l2 at *
  clear hc g1 PC hF
  have Z := Lib.hid zero104
  go_enter Tryd.func58, Tryd.ntmps58
  go_upto_region 2 with (guard_target =~ wpList _ _ _ (⟨some _, Op.alloc 104, _, _, _, _⟩ :: _) _ _; go_must (refine wp_alloc0 rfl 104 rfl _ Z.out ?_; simp only [Value.cells]))
  have b0 := BlkAt.new w (natU 302 fun _ => 0) 104
  have b1 := BlkAt.new (w.alloc (.cells (natU 302 fun _ => 0).toArray 104)) (natU 302 fun _ => 0) 104
  have s1 : (w.alloc (.cells (natU 302 fun _ => 0).toArray 104)).heap.size = w.heap.size + 1 := by simp
  rw [s1] at b1
  have BA := Lib.hid (b0.alloc (.cells (natU 302 fun _ => 0).toArray 104))
  have BB := Lib.hid b1
  have BW := Lib.hid (((Below.refl w.heap.size w).alloc (Nat.le_refl _) (.cells (natU 302 fun _ => 0).toArray 104)).alloc (by simp) (.cells (natU 302 fun _ => 0).toArray 104))
  rw [s1]
  generalize (w.alloc (.cells (natU 302 fun _ => 0).toArray 104)).alloc (.cells (natU 302 fun _ => 0).toArray 104) = x1 at *
  clear b0 b1 s1
  obtain ⟨R, hR⟩ : ∃ R, R = w.heap.size := ⟨_, rfl⟩
  rw [← hR] at BA BB ⊢
  have QR := Lib.hid hR
  have hlR : lp < R := by omega
  have C1x := Lib.hid (C1.out x1 BW.out)
  clear hR
  go_wp2_with fail
  refine C1x.out.mono ?_
  rintro e x2 h2
  obtain ⟨ga, rfl, fa, la, hb2⟩ := R1.out _ _ _ h2
  have FA := Lib.hid fa
  have BA2 := Lib.hid (BA.out.below hb2)
  have BB2 := Lib.hid (BB.out.below hb2)
  have BW2 := Lib.hid (BW.out.trans (hb2.mono BW.out.size))
  have la2 : R + 1 < ga := Nat.lt_of_lt_of_le BB.out.cells.lt la
  have C2x := Lib.hid (C2.out x2 BW2.out)
  clear h2 fa la hb2 BA BB BW C1x C1 C2 R1
  go_wp2_with fail
  refine C2x.out.mono ?_
  rintro e x3 h3
  rw [← QR.out] at BW2
  have RB := Lib.hid BW2.out.size
  by_cases hcode : isCode (cnt l2) = true
  · have AA := Lib.hid (AC.out.trans (if_pos hcode))
    unfold RetCd at h3
    rw [if_pos hcode] at h3
    obtain ⟨gb, rfl, fb, lb, hb3⟩ := h3
    have BA3 := Lib.hid (BA2.out.below hb3)
    have BB3 := Lib.hid (BB2.out.below hb3)
    have FA3 := Lib.hid (FA.out.step hb3)
    have FB3 := Lib.hid fb
    have BW3 := Lib.hid (BW2.out.trans (hb3.mono (by rw [QR.out]; exact RB.out)))
    have lb2 : R + 1 < gb := Nat.lt_of_lt_of_le BB2.out.cells.lt lb
    clear fb lb hb3 BA2 BB2 FA BW2 C2x AC hcode RB
    have K1 := copy_nums (c := 302) (d := 272) (o := 0) (b := R + 1) (n := 272) 3 BB3.out FA3.out (by omega) rfl
    have BB4 := Lib.hid (BlkAt.setsU 272 0 (fun _ => 0) (codF l1 272) BB3.out)
    have BA4 := Lib.hid (show CellsAt (x3.setCells (R + 1) 0 (natU 272 (codF l1 272))) R (natU 302 fun _ => 0) from BA3.out.cells.osets (by omega) _ _)
    have BW4 := Lib.hid (below_sets (R + 1) (by omega) (natU 272 (codF l1 272)) 0 BW3.out)
    have FB4 := Lib.hid (show FnAt (x3.setCells (R + 1) 0 (natU 272 (codF l1 272))) gb 30 (u32F (codF l2 30)) from FB3.out.osets (by omega) _ _)
    clear BA3 BB3 FA3 FB3 BW3
    go_upto_region 5 with fail
    generalize x3.setCells (R + 1) 0 (natU 272 (codF l1 272)) = x4 at *
    clear K1
    have K2 := copy_nums (c := 30) (d := 30) (o := 272) (b := R + 1) (n := 30) 3 BB4.out FB4.out (by omega) rfl
    have BB5 := Lib.hid (BlkAt.setsU 30 272 _ (codF l2 30) BB4.out)
    have BA5 := Lib.hid (show CellsAt (x4.setCells (R + 1) 272 (natU 30 (codF l2 30))) R (natU 302 fun _ => 0) from BA4.out.osets (by omega) _ _)
    have BW5 := Lib.hid (below_sets (R + 1) (by omega) (natU 30 (codF l2 30)) 272 BW4.out)
    rw [← AA.out] at BB5
    clear BA4 BB4 BW4 FB4
    go_upto_region 6 with fail
    generalize x4.setCells (R + 1) 272 (natU 30 (codF l2 30)) = x5 at *
    clear K2
    have RG := Lib.hid BB5.out.cells.range
    have TH := Lib.hid (show x5.there R 0 (natU 302 A).toArray.size by have := BA5.out.there; simpa [natU_len] using this)
    have H1 := Lib.hid (BA5.out.sets (us := natU 302 A) (by simp [natU_len]))
    have HB := Lib.hid (below_sets R (Nat.le_refl R) (natU 302 A) 0 BW5.out)
    clear BA5 BB5 BW5
    go_wp2_with (first
      | (guard_target =~ wpList _ _ _ (⟨some _, Op.load 104 _, _, _, _, _⟩ :: _) _ _; go_must (refine wpList_load_mid rfl 104 _ rfl (R + 1) 0 rfl (natU 302 A) _ RG.out Tryd.underlying104 rfl (info104n _) ?_))
      | (guard_target =~ wpList _ _ _ (⟨none, Op.store 104 _ _, _, _, _, _⟩ :: _) _ _; go_must (refine wpList_store_mid rfl 104 _ _ rfl R 0 (natU 302 A).toArray rfl rfl TH.out (info104a _) (natU_one _ _) ?_)))
    exact bodyPost_ret (results_range rfl _ _ R _ _ rfl H1.out.range Tryd.underlying104 rfl (info104n _)) rfl ⟨rfl, by rw [← QR.out]; exact HB.out⟩
  · have AA := Lib.hid (AC.out.trans (if_neg hcode))
    unfold RetCd at h3
    rw [if_neg hcode] at h3
    obtain ⟨rfl, hb3⟩ := h3
    have BA3 := Lib.hid (BA2.out.below hb3)
    have BB3 := Lib.hid (BB2.out.below hb3)
    have FA3 := Lib.hid (FA.out.step hb3)
    have BW3 := Lib.hid (BW2.out.trans (hb3.mono (by rw [QR.out]; exact RB.out)))
    clear hb3 BA2 BB2 FA BW2 C2x AC hcode RB
    have K1 := copy_nums (c := 302) (d := 272) (o := 0) (b := R + 1) (n := 272) 3 BB3.out FA3.out (by omega) rfl
    have BB4 := Lib.hid (BlkAt.setsU 272 0 (fun _ => 0) (codF l1 272) BB3.out)
    have BA4 := Lib.hid (show CellsAt (x3.setCells (R + 1) 0 (natU 272 (codF l1 272))) R (natU 302 fun _ => 0) from BA3.out.cells.osets (by omega) _ _)
    have BW4 := Lib.hid (below_sets (R + 1) (by omega) (natU 272 (codF l1 272)) 0 BW3.out)
    clear BA3 BB3 FA3 BW3
    go_upto_region 5 with fail
    generalize x3.setCells (R + 1) 0 (natU 272 (codF l1 272)) = x4 at *
    clear K1
    rw [← AA.out] at BB4
    have K2 := run_copy_none (P := Tryd.prog) x4 30 30 3 22 (some ⟨R + 1, 272, none⟩) none 30 30 0 0 Tryd.underlying30 size22 rfl
    go_upto_region 6 with fail
    clear K2
    have RG := Lib.hid BB4.out.cells.range
    have TH := Lib.hid (show x4.there R 0 (natU 302 A).toArray.size by have := BA4.out.there; simpa [natU_len] using this)
    have H1 := Lib.hid (BA4.out.sets (us := natU 302 A) (by simp [natU_len]))
    have HB := Lib.hid (below_sets R (Nat.le_refl R) (natU 302 A) 0 BW4.out)
    clear BA4 BB4 BW4
    go_wp2_with (first
      | (guard_target =~ wpList _ _ _ (⟨some _, Op.load 104 _, _, _, _, _⟩ :: _) _ _; go_must (refine wpList_load_mid rfl 104 _ rfl (R + 1) 0 rfl (natU 302 A) _ RG.out Tryd.underlying104 rfl (info104n _) ?_))
      | (guard_target =~ wpList _ _ _ (⟨none, Op.store 104 _ _, _, _, _, _⟩ :: _) _ _; go_must (refine wpList_store_mid rfl 104 _ _ rfl R 0 (natU 302 A).toArray rfl rfl TH.out (info104a _) (natU_one _ _) ?_)))
    exact bodyPost_ret (results_range rfl _ _ R _ _ rfl H1.out.range Tryd.underlying104 rfl (info104n _)) rfl ⟨rfl, by rw [← QR.out]; exact HB.out⟩
end

section
open Go.RowKit

theorem code_room (m : Nat → Nat) : ∀ k, k ≤ 15 → codeN m k * 2 ^ (15 - k) = roomN m k
  | 0, _ => by simp [codeN, roomN]
  | k + 1, h => by
    have ih := code_room m k (by omega)
    show (2 * codeN m k + m (k + 1)) * 2 ^ (15 - (k + 1)) = roomN m k + m (k + 1) * 2 ^ (14 - k)
    have e : 15 - k = (14 - k) + 1 := by omega
    have e2 : 15 - (k + 1) = 14 - k := by omega
    rw [e, Nat.pow_succ] at ih
    rw [e2, Nat.add_mul, ← ih]
    congr 1
    rw [Nat.mul_comm 2, Nat.mul_assoc, Nat.mul_comm 2]
theorem room_mono (m : Nat → Nat) (k : Nat) : ∀ d, roomN m k ≤ roomN m (k + d)
  | 0 => Nat.le_refl _
  | d + 1 => Nat.le_trans (room_mono m k d) (Nat.le_add_right _ _)
theorem syms_ge (m : Nat → Nat) (k : Nat) : ∀ d, symsN m k ≤ symsN m (k + d)
  | 0 => Nat.le_refl _
  | d + 1 => Nat.le_trans (syms_ge m k d) (Nat.le_add_right _ _)
theorem code_le (m : Nat → Nat) (h : isCode m = true) (l : Nat) (hl : l ≤ 15) (h1 : 1 ≤ l) (hm : 1 ≤ m l) : codeN m l ≤ 2 ^ l := by
  unfold isCode at h
  rw [Bool.or_eq_true, Bool.and_eq_true, decide_eq_true_iff, decide_eq_true_iff, decide_eq_true_iff] at h
  rcases h with h | ⟨ha, hb⟩
  · have e := code_room m l hl
    have r := room_mono m l (15 - l)
    rw [show l + (15 - l) = 15 by omega, h] at r
    rw [← e, show (32768 : Nat) = 2 ^ l * 2 ^ (15 - l) by rw [← Nat.pow_add, show l + (15 - l) = 15 by omega]] at r
    exact Nat.le_of_mul_le_mul_right r (Nat.two_pow_pos _)
  · have : l = 1 := by
      rcases Nat.lt_or_ge 1 l with h2 | h2
      · exfalso
        obtain ⟨k, rfl⟩ : ∃ k, l = k + 1 := ⟨l - 1, by omega⟩
        have s1 := syms_ge m 1 (k - 1)
        rw [show 1 + (k - 1) = k by omega] at s1
        have s0 : symsN m 1 = 0 + m 1 := rfl
        have s2 : symsN m (k + 1) = symsN m k + m (k + 1) := rfl
        have s3 := syms_ge m (k + 1) (15 - (k + 1))
        rw [show k + 1 + (15 - (k + 1)) = 15 by omega] at s3
        omega
      · omega
    subst this
    show 2 * 0 + m 1 ≤ 2
    omega
theorem codF_lt (ls : List Nat) (hls : ∀ x ∈ ls, x < 16) (h : isCode (cnt ls) = true) : ∀ k, k ≤ ls.length → ∀ s, codF ls k s < 2 ^ (ls.getD s 0)
  | 0, _, s => Nat.two_pow_pos _
  | k + 1, hk, s => by
    have ih := codF_lt ls hls h k (by omega)
    have hkl : k < ls.length := by omega
    by_cases h0 : ls[k] = 0
    · rw [codF_skip hkl h0]; exact ih s
    · rw [codF_step hkl (by omega)]
      unfold upd
      by_cases e : s = k
      · subst e
        rw [if_pos rfl]
        have g : ls.getD s 0 = ls[s] := by rw [List.getD_eq_getElem?_getD, List.getElem?_eq_getElem hkl]; rfl
        rw [g]
        have l16 := hls ls[s] (List.getElem_mem hkl)
        have ct := count_take hkl
        have cl := code_le (cnt ls) h ls[s] (by omega) (by omega) (by show 1 ≤ ls.count ls[s]; omega)
        obtain ⟨q, hq⟩ : ∃ q, ls[s] = q + 1 := ⟨ls[s] - 1, by omega⟩
        rw [hq] at cl ct ⊢
        have e1 : codeN (cnt ls) (q + 1) = firstN (cnt ls) (q + 1) + ls.count (q + 1) := rfl
        have : (firstN (cnt ls) (q + 1) + List.count (q + 1) (List.take s ls)) % 4294967296 ≤ firstN (cnt ls) (q + 1) + List.count (q + 1) (List.take s ls) := Nat.mod_le _ _
        omega
      · rw [if_neg e]; exact ih s
theorem partL_getD (f : Nat → Nat) (off n j : Nat) (h : j < n) : (partL f off n).getD j 0 = f (off + j) := by
  unfold partL
  rw [List.getD_eq_getElem?_getD, List.getElem?_map, List.getElem?_range h]
  rfl
theorem allC_lt (F : Nat → Nat) (hF : ∀ j, F j < 16) (g1 : isCode (cnt (partL F 0 272)) = true) (s : Nat) (hs : s < 302) : allC F s < 2 ^ F s := by
  have A := codF_lt (partL F 0 272) (partL_lt hF) g1 272 (by rw [partL_len]; exact Nat.le_refl _)
  have one : overF (fun _ => 0) 0 272 (codF (partL F 0 272) 272) s < 2 ^ F s := by
    unfold overF
    by_cases h : 0 ≤ s ∧ s < 0 + 272
    · rw [if_pos h]
      have := A s
      rw [partL_getD _ _ _ _ (by omega), Nat.zero_add] at this
      exact this
    · rw [if_neg h]; exact Nat.two_pow_pos _
  unfold allC
  by_cases g2 : isCode (cnt (partL F 272 30)) = true
  · rw [if_pos g2]
    have Bq := codF_lt (partL F 272 30) (partL_lt hF) g2 30 (by rw [partL_len]; exact Nat.le_refl _)
    unfold overF at one ⊢
    by_cases h : 272 ≤ s ∧ s < 272 + 30
    · rw [if_pos h]
      have := Bq (s - 272)
      rw [partL_getD _ _ _ _ (by omega), show 272 + (s - 272) = s by omega] at this
      exact this
    · rw [if_neg h]; exact one
  · rw [if_neg g2]; exact one
end
end Go.Proofs.YtfbeipfpkikakaaDoor
