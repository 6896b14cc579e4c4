/- The stable sort of few symbols that stand in order; the symbols that come at all. How many leaves have codes of so many bits or more. Lengths, of few counts that stand in order. The lengths of both codes, of few symbols whose counts stand in order. -/
import Derived.Test.YtfbeipfpkikakaaDoorMx
import Derived.Laws.IdiomCopy
namespace Go.Proofs.YtfbeipfpkikakaaDoor
section
open Go.RowKit

set_option maxRecDepth 100000
set_option maxHeartbeats 800000 in
theorem stable90_ok {w : World} {cc : Nat} {cv v : Value} {cs xs : List Nat} (h : ByC w cc cv cs) (hv : SlI w v xs) (ho : InOrder cs xs) (hn : xs.length ≤ 19) :
    Calls Tryd.prog 90 #[v, .int .i64 (xs.length : Int), .func (.func 86) #[] #[.pointer (some ⟨cc, 0, none⟩)]] w (RetBelow w (.tuple #[])) := by
  have CL := Lib.hid (insert_ok h hv ho (by omega))
  obtain ⟨va, vc, rfl, _⟩ := hv
  have t1 : decide ((20 : Int) ≤ (xs.length : Int)) = false := decide_eq_false (by omega)
  have t2 : decide ((20 : Int) < (xs.length : Int)) = false := decide_eq_false (by omega)
  clear h ho
  go_enter Tryd.func90, Tryd.ntmps90
  go_wp2_with fail
  refine wp_loop_rounds 1 ?_
  rw [rounds_succ]
  go_wp2_with (go_at_call 92; refine CL.out.mono ?_; rintro e w' ⟨rfl, hb⟩)
  refine wp_loop_rounds 1 ?_
  rw [rounds_succ]
  go_wp2_with fail
  go_end0
  exact ⟨rfl, hb⟩
set_option maxHeartbeats 800000 in
theorem stable_ok {w : World} {cc : Nat} {cv v : Value} {cs xs : List Nat} (h : ByC w cc cv cs) (hv : SlI w v xs) (ho : InOrder cs xs) (hn : xs.length ≤ 19) :
    Calls Tryd.prog 85 #[v, .func (.func 86) #[] #[.pointer (some ⟨cc, 0, none⟩)]] w (RetBelow w (.tuple #[])) := by
  have CL := Lib.hid (stable90_ok h hv ho hn)
  obtain ⟨va, vc, rfl, _⟩ := hv
  clear h ho
  go_enter Tryd.func85, Tryd.ntmps85
  go_wp2_with (go_at_call 90; refine CL.out.mono ?_; rintro e w' ⟨rfl, hb⟩)
  go_end0
  exact ⟨rfl, hb⟩
theorem CapOk.own {w : World} {B : Nat} {t : TypeId} {v : Value} {l : List Value} (h : OwnV w B t v l) : CapOk v := by
  rcases h.1.2 with ⟨hv, hn⟩ | ⟨g, cap, cur, hv, hb, hgg, h1, h2, h3, h4⟩
  · exact ⟨none, 0, 0, hv, Nat.le_refl _⟩
  · exact ⟨_, _, _, hv, h1⟩
theorem FrV.own {w : World} {B B' : Nat} {t : TypeId} {v : Value} {l : List Value} (h : OwnV w B t v l) (k : B' ≤ B) : FrV B' v := by
  intro a n c e
  rcases h.1.2 with ⟨hv, hn⟩ | ⟨g, cap, cur, hv, hb, rest⟩
  · rw [hv] at e; cases e
  · rw [hv] at e
    injection e with e _ _
    injection e with e
    subst e
    exact Nat.le_trans k hb
/-- The first k symbols that come at all. -/
def comUp (cs : List Nat) (k : Nat) : List Nat := (List.range k).filter fun i => decide (0 < cs.getD i 0)
def comN (cs : List Nat) : List Nat := comUp cs cs.length
theorem comUp_in {cs : List Nat} {k : Nat} (h : 0 < cs.getD k 0) : comUp cs (k + 1) = comUp cs k ++ [k] := by
  unfold comUp; rw [List.range_succ, List.filter_append]; rw [List.getD_eq_getElem?_getD] at h; simp [h]
theorem comUp_out {cs : List Nat} {k : Nat} (h : ¬ 0 < cs.getD k 0) : comUp cs (k + 1) = comUp cs k := by
  unfold comUp; rw [List.range_succ, List.filter_append]; rw [List.getD_eq_getElem?_getD] at h; have h' : cs[k]?.getD 0 = 0 := by omega
  simp [h']
theorem comUp_len (cs : List Nat) (k : Nat) : (comUp cs k).length ≤ k := by
  unfold comUp; exact Nat.le_trans (List.length_filter_le _ _) (by simp)
theorem info3' : (Tryd.prog.info? 3).map (fun i => (i.zero, i.size, i.bytes)) = some (some (.int .i64 0), 1, 8) := by kernel_rfl
def BcRel (w1 : World) (cs : List Nat) (s i : Value) (wr : World) : Prop := ∃ k, k ≤ cs.length ∧ i = .int .i64 ((k : Nat) : Int) ∧ OwnV wr w1.heap.size 3 s ((comUp cs k).map intV) ∧ Below w1.heap.size w1 wr ∧ KeepO 3 w1 wr
theorem KeepO.refl (t : TypeId) (w : World) : KeepO t w w := fun _ _ _ _ h => h
set_option maxHeartbeats 1600000 in
theorem byCount_ok {w : World} {v : Value} {cs : List Nat} (hv : SlI w v cs) (hn : cs.length ≤ 1000) (ho : InOrder cs (comN cs)) (h19 : (comN cs).length ≤ 19) :
    Calls Tryd.prog 81 #[v] w (RetI w (comN cs)) := by
  have HV := Lib.hid hv
  have HO := Lib.hid ho
  have H19 := Lib.hid h19
  obtain ⟨va, vc, rfl, _⟩ := hv
  clear ho h19
  go_enter Tryd.func81, Tryd.ntmps81
  go_upto_region 2 with fail
  have CB := BlkAt.new w [.slice va cs.length vc] 29
  have BB := Lib.hid (below_alloc w (.cells #[.slice va cs.length vc] 29))
  have HV1 := Lib.hid (HV.out.below BB.out)
  have sz : (w.alloc (.cells #[.slice va cs.length vc] 29)).heap.size = w.heap.size + 1 := by simp
  have c1 := CB.cells.cell 0 _ rfl
  have CBH := Lib.hid CB
  clear CB
  change (w.alloc (.cells #[.slice va cs.length vc] 29)).cell? ⟨w.heap.size, 0, none⟩ = _ at c1
  generalize w.alloc (.cells #[.slice va cs.length vc] 29) = w1 at *
  have ST := Lib.hid (show BcRel w1 cs (.slice none 0 0) (.int .i64 0) w1 from ⟨0, Nat.zero_le _, rfl, OwnV.nil w1 3, Below.refl _ _, KeepO.refl 3 w1⟩)
  go_wp2_with fail
  clear c1
  go_loopw [3, 4, 5, 8] (fun s _ _ i wr => BcRel w1 cs s i wr) (fun _ _ _ i _ => (cs.length - (intOf i).toNat))
  case atStart => exact ST.out
  case round =>
    clear ST
    obtain ⟨k, hk, rfl, hs, hb, hkp⟩ := hrel
    by_cases hlt : k < cs.length
    · have hne : cs ≠ [] := by intro e; rw [e] at hlt; exact absurd hlt (Nat.not_lt_zero _)
      have VW := HV1.out.below hb
      obtain ⟨b, off, rfl⟩ : ∃ b off, va = some ⟨b, off, none⟩ := by
        obtain ⟨a, c, e, h | ⟨b, off, ha, _⟩⟩ := VW
        · exact absurd h hne
        · injection e with e1 _ _; exact ⟨b, off, by rw [e1, ha]⟩
      obtain ⟨hbl, hcell⟩ := VW.get
      have cj := hcell k cs[k] (List.getElem?_eq_getElem hlt)
      have gj : cs.getD k 0 = cs[k] := by rw [List.getD_eq_getElem?_getD, List.getElem?_eq_getElem hlt]; rfl
      have k1 : (k : Int) < (cs.length : Int) := by omega
      have k2 : (0 : Int) ≤ (k : Int) := by omega
      have t1 : decide ((k : Int) < (cs.length : Int)) = true := decide_eq_true (by omega)
      have t1n : decide (k < cs.length) = true := decide_eq_true hlt
      have ME := Lib.hid (show cs.length - ((k : Int) + 1).toNat < cs.length - (k : Int).toNat by omega)
      have e0 : ((comUp cs k).map intV).length = (comUp cs k).length := by simp
      have l0 : ((comUp cs k).map intV).length + 1 ≤ 1000000 := by have := comUp_len cs k; rw [e0]; omega
      have HS := Lib.hid hs
      have HB := Lib.hid hb
      have HK := Lib.hid hkp
      clear hbl hcell VW hs hb hkp e0
      by_cases hp : 0 < cs.getD k 0
      · have SU := Lib.hid (comUp_in hp)
        rw [gj] at hp
        have tp : decide ((0 : Int) < ((cs[k] : Nat) : Int)) = true := decide_eq_true (by omega)
        have tpn : decide (0 < cs[k]) = true := decide_eq_true hp
        clear gj
        generalize cs[k] = x at *
        go_wp2_with (refine wp_app1 (by rfl) _ _ 29 3 (.int .i64 0) 8 Tryd.underlying29 info3' rfl (by decide) (by rfl) w1.heap.size _ _ (by rfl) HS.out (.int .i64 (k : Int)) rfl (by rfl) l0 ?_; intro v' w' o' b' k')
        have FIN := Lib.hid (show BcRel w1 cs v' (.int .i64 ((k : Int) + 1)) w' from ⟨k + 1, hlt, by congr 1, by rw [SU.out, List.map_append]; exact o', HB.out.trans b', HK.out.trans k'⟩)
        exact ⟨FIN.out, ME.out⟩
      · have SU := Lib.hid (comUp_out hp)
        rw [gj] at hp
        have tp : decide ((0 : Int) < ((cs[k] : Nat) : Int)) = false := decide_eq_false (by omega)
        have tpn : decide (0 < cs[k]) = false := decide_eq_false hp
        clear gj
        generalize cs[k] = x at *
        have FIN := Lib.hid (fun s (h : OwnV wr w1.heap.size 3 s ((comUp cs k).map intV)) => show BcRel w1 cs s (.int .i64 ((k : Int) + 1)) wr from ⟨k + 1, hlt, by congr 1, by rw [SU.out]; exact h, HB.out, HK.out⟩)
        go_wp2_with fail
        exact ⟨FIN.out _ HS.out, ME.out⟩
    · obtain rfl : k = cs.length := by omega
      have t1 : decide ((cs.length : Int) < (cs.length : Int)) = false := decide_eq_false (by omega)
      have cb := CBH.out.keepO hkp (by decide)
      have SL := Lib.hid (show SlI wr _ (comN cs) from hs.sl)
      have BC := Lib.hid (show ByC wr w.heap.size (.slice va cs.length vc) cs from ⟨cb.cells.cell 0 _ rfl, cb.cells.lt, HV1.out.below hb⟩)
      have CL := Lib.hid (stable_ok BC.out SL.out HO.out H19.out)
      have CO := Lib.hid (CapOk.own hs)
      have FR := Lib.hid (FrV.own hs (show w.heap.size ≤ w1.heap.size by omega))
      have BW := Lib.hid (BB.out.trans (hb.mono (by omega)))
      clear hs hb hkp cb
      go_wp2_with (go_at_call 85; refine CL.out.mono ?_; rintro e w' ⟨rfl, hb⟩)
      go_ret
      exact ⟨_, rfl, SL.out.below hb, CO.out, BW.out.trans (hb.mono BW.out.size), FR.out⟩
end

section
open Go.RowKit

set_option maxRecDepth 100000
theorem info141 : (Tryd.prog.info? 141).map (fun i => (i.zero, i.size, i.bytes)) = some (some (.agg #[.slice none 0 0, .slice none 0 0]), 2, 48) := by kernel_rfl
/-- The levels of lengths, the greatest length first. -/
def lvD (leaves : List Nat) : Nat → List (Nat × Bool)
  | 0 => mixN leaves []
  | d + 1 => mixN leaves (pairsN ((lvD leaves d).map (·.1)))
def lvN (leaves : List Nat) (i : Nat) : List (Nat × Bool) := lvD leaves (14 - i)
theorem lvN_last (leaves : List Nat) : lvN leaves 14 = mixN leaves [] := rfl
theorem lvN_step (leaves : List Nat) {i : Nat} (h : i < 14) : lvN leaves i = mixN leaves (pairsN ((lvN leaves (i + 1)).map (·.1))) := by
  unfold lvN
  obtain ⟨d, hd⟩ : ∃ d, 14 - i = d + 1 := ⟨13 - i, by omega⟩
  rw [hd, show 14 - (i + 1) = d by omega]
  rfl
theorem OwnV.low {w : World} {B B' : Nat} {t : TypeId} {v : Value} {l : List Value} (h : OwnV w B t v l) (k : B' ≤ B) : OwnV w B' t v l := by
  refine ⟨⟨h.1.1, ?_⟩, Nat.le_trans k h.2⟩
  rcases h.1.2 with hn | ⟨g, cap, cur, hv, hb, rest⟩
  · exact .inl hn
  · exact .inr ⟨g, cap, cur, hv, Nat.le_trans k hb, rest⟩
/-- The levels in memory, from length k + 1 on. -/
def LvAt (w : World) (B L k : Nat) (lv : Nat → List (Nat × Bool)) : Prop := ∃ vs : List Value, vs.length = 30 ∧ BlkAt w L 141 vs ∧ ∀ i, k ≤ i → i < 15 → ∃ c f, vs[i * 2]? = some c ∧ vs[i * 2 + 1]? = some f ∧ OwnV w B 2 c (costV (lv i)) ∧ OwnV w B 4 f (leafV (lv i))
theorem LvAt.below {w w' : World} {B L k : Nat} {lv : Nat → List (Nat × Bool)} (h : LvAt w B L k lv) (b : Below w.heap.size w w') : LvAt w' B L k lv := by
  obtain ⟨vs, h1, h2, h3⟩ := h
  refine ⟨vs, h1, h2.below b, fun i hi hj => ?_⟩
  obtain ⟨c, f, h4, h5, h6, h7⟩ := h3 i hi hj
  exact ⟨c, f, h4, h5, h6.below b, h7.below b⟩
theorem LvAt.oset {w : World} {B L k G : Nat} {t : TypeId} {lv : Nat → List (Nat × Bool)} {us : List Value} (h : LvAt w B L k lv) (b : BlkAt w G t us) (h2t : t ≠ 2) (h4t : t ≠ 4) (hG : G ≠ L) (j : Nat) (u : Value) : LvAt (w.setCell ⟨G, j, none⟩ u) B L k lv := by
  obtain ⟨vs, h1, h2, h3⟩ := h
  refine ⟨vs, h1, h2.other hG _ _, fun i hi hj => ?_⟩
  obtain ⟨c, f, h4, h5, h6, h7⟩ := h3 i hi hj
  exact ⟨c, f, h4, h5, h6.oset b h2t _ _, h7.oset b h4t _ _⟩
theorem LvAt.next {w : World} {B L j : Nat} {c f : Value} {lv : Nat → List (Nat × Bool)} (h : LvAt w B L (j + 1) lv) (hj : j < 15) (hc : OwnV w B 2 c (costV (lv j))) (hf : OwnV w B 4 f (leafV (lv j))) :
    LvAt ((w.setCell ⟨L, j * 2, none⟩ c).setCell ⟨L, j * 2 + 1, none⟩ f) B L j lv := by
  obtain ⟨vs, h1, h2, h3⟩ := h
  have k1 := h2.set (j * 2) c
  have k2 := k1.set (j * 2 + 1) f
  refine ⟨_, by simp [h1], k2, fun i hi hi' => ?_⟩
  by_cases e : i = j
  · subst e
    refine ⟨c, f, ?_, ?_, (hc.oset h2 (by decide) _ _).oset k1 (by decide) _ _, (hf.oset h2 (by decide) _ _).oset k1 (by decide) _ _⟩
    · rw [List.getElem?_set_ne (by omega), List.getElem?_set_self (by omega)]
    · rw [List.getElem?_set_self (by simp; omega)]
  · obtain ⟨c', f', h4, h5, h6, h7⟩ := h3 i (by omega) hi'
    refine ⟨c', f', ?_, ?_, (h6.oset h2 (by decide) _ _).oset k1 (by decide) _ _, (h7.oset h2 (by decide) _ _).oset k1 (by decide) _ _⟩
    · rw [List.getElem?_set_ne (by omega), List.getElem?_set_ne (by omega)]; exact h4
    · rw [List.getElem?_set_ne (by omega), List.getElem?_set_ne (by omega)]; exact h5
theorem LvAt.cells {w : World} {B L k j : Nat} {lv : Nat → List (Nat × Bool)} (h : LvAt w B L k lv) (hj : j < 15) : (∃ u, w.cell? ⟨L, j * 2, none⟩ = some u) ∧ (∃ u, w.cell? ⟨L, j * 2 + 1, none⟩ = some u) ∧ (∀ j, w.frozen? ⟨L, j, none⟩ = false) ∧ L < w.heap.size := by
  obtain ⟨vs, h1, h2, h3⟩ := h
  exact ⟨⟨_, h2.cells.cell (j * 2) _ (List.getElem?_eq_getElem (by omega))⟩, ⟨_, h2.cells.cell (j * 2 + 1) _ (List.getElem?_eq_getElem (by omega))⟩, h2.cells.free, h2.cells.lt⟩
theorem LvAt.get {w : World} {B L k j : Nat} {lv : Nat → List (Nat × Bool)} (h : LvAt w B L k lv) (hk : k ≤ j) (hj : j < 15) : ∃ c f, w.cell? ⟨L, j * 2, none⟩ = some c ∧ w.cell? ⟨L, j * 2 + 1, none⟩ = some f ∧ OwnV w B 2 c (costV (lv j)) ∧ OwnV w B 4 f (leafV (lv j)) := by
  obtain ⟨vs, h1, h2, h3⟩ := h
  obtain ⟨c, f, h4, h5, h6, h7⟩ := h3 j hk hj
  exact ⟨c, f, h2.cells.cell _ _ h4, h2.cells.cell _ _ h5, h6, h7⟩
theorem costV_eq (L : List (Nat × Bool)) : costV L = (L.map (·.1)).map intV := by unfold costV; rw [List.map_map]; rfl
theorem OwnV.costs {w : World} {B : Nat} {c : Value} {L : List (Nat × Bool)} (h : OwnV w B 2 c (costV L)) : SlI w c (L.map (·.1)) := by
  rw [costV_eq] at h; exact h.sl
/-- Of the first t things so many are leaves. -/
def countT (L : List (Nat × Bool)) (t : Nat) : Nat := (L.take t).countP (·.2)
theorem countT_le (L : List (Nat × Bool)) (t : Nat) : countT L t ≤ t := by
  unfold countT
  exact Nat.le_trans List.countP_le_length (by simp; omega)
theorem countT_step {L : List (Nat × Bool)} {t : Nat} (h : t < L.length) : countT L (t + 1) = countT L t + if L[t].2 then 1 else 0 := by
  unfold countT
  rw [List.take_succ_eq_append_getElem h, List.countP_append]
  simp [List.countP_cons]
def takeN (leaves : List Nat) : Nat → Nat
  | 0 => 2 * leaves.length - 2
  | k + 1 => 2 * (takeN leaves k - countT (lvN leaves k) (takeN leaves k))
def chF (leaves : List Nat) (k : Nat) : Nat := countT (lvN leaves k) (takeN leaves k)
def chUp (leaves : List Nat) (k : Nat) : Nat → Nat := fun i => if i < k then chF leaves i else 0
theorem chUp_step (leaves : List Nat) (k : Nat) : upd (chUp leaves k) k (chF leaves k) = chUp leaves (k + 1) := by
  funext i; unfold upd chUp
  by_cases e : i = k
  · subst e; rw [if_pos rfl, if_pos (by omega)]
  · rw [if_neg e]
    by_cases h : i < k
    · rw [if_pos h, if_pos (by omega)]
    · rw [if_neg h, if_neg (by omega)]
def chosenN (leaves : List Nat) : List Nat := (List.range 15).map (chF leaves)
theorem make137 (w : World) : (Instr.makeSlice 137 (.int .i64 15) (.int .i64 15)).run Tryd.prog w = .ok (.slice (some ⟨w.heap.size, 0, none⟩) 15 15) (w.alloc (.cells (madeCells #[.slice none 0 0, .slice none 0 0] 30) 141)) := by
  obtain ⟨i, hi, hzz⟩ := Option.map_eq_some_iff.1 info141
  simp only [Prod.mk.injEq] at hzz
  obtain ⟨hz, hs, hb⟩ := hzz
  have hr := run_make (P := Tryd.prog) w 137 141 i _ Tryd.underlying137 hi hz .i64 .i64 15 15 (by omega) (Int.le_refl _) (by rw [hb]; decide) (by omega)
  rw [hs] at hr
  exact hr
theorem lv_start {w w1 : World} {leaves : List Nat} (h : w1 = w.alloc (.cells (madeCells #[.slice none 0 0, .slice none 0 0] 30) 141)) : LvAt w1 w.heap.size w.heap.size 15 (lvN leaves) := by
  subst h
  refine ⟨(madeCells #[.slice none 0 0, .slice none 0 0] 30).toList, by simp [size_madeCells], ?_, fun i h1 h2 => by omega⟩
  exact BlkAt.new w _ 141
theorem upd_upd (f : Nat → Nat) (k a b : Nat) : upd (upd f k a) k b = upd f k b := by
  funext i; unfold upd; by_cases e : i = k <;> simp [e]
def ChA (w : World) (L : Nat) (leaves : List Nat) (i : Value) (wr : World) : Prop := ∃ k : Nat, k ≤ 15 ∧ i = .int .i64 ((k : Int) - 1) ∧ LvAt wr w.heap.size L k (lvN leaves) ∧ Below w.heap.size w wr
def ChB (w : World) (L G : Nat) (leaves : List Nat) (t i : Value) (wr : World) : Prop := ∃ k : Nat, k ≤ 15 ∧ i = .int .i64 (k : Int) ∧ t = .int .i64 ((takeN leaves k : Nat) : Int) ∧ LvAt wr w.heap.size L 0 (lvN leaves) ∧ BlkAt wr G 3 (natL 15 (chUp leaves k)) ∧ Below w.heap.size w wr
def ChC (w : World) (L G k : Nat) (leaves : List Nat) (x : World) (i : Value) (wr : World) : Prop := ∃ j : Nat, j ≤ takeN leaves k ∧ i = .int .i64 (j : Int) ∧ LvAt wr w.heap.size L 0 (lvN leaves) ∧ BlkAt wr G 3 (natL 15 (upd (chUp leaves k) k (countT (lvN leaves k) j))) ∧ Below w.heap.size w wr ∧ KeepO 3 x wr ∧ x.heap.size ≤ wr.heap.size
theorem KeepO.set {w : World} {G : Nat} {t : TypeId} {vs : List Value} (h : BlkAt w G t vs) (j : Nat) (u : Value) : KeepO t w (w.setCell ⟨G, j, none⟩ u) := by
  intro g t' cs ht hg
  show (w.heap.modify G _)[g]? = _
  rw [Array.getElem?_modify, if_neg (fun e => by
    subst e
    unfold BlkAt at h
    rw [h] at hg
    injection hg with hg
    injection hg with _ y
    exact ht y.symm)]
  exact hg
theorem made_nat (n : Nat) : (madeCells #[(.int .i64 0 : Value)] n) = (natL n fun _ => 0).toArray := by
  apply Array.ext
  · simp [size_madeCells, natL]
  · intro i h1 h2
    simp [madeCells, natL, Nat.mod_one]
set_option maxHeartbeats 3200000 in
theorem chosen_ok {w : World} {v : Value} {leaves : List Nat} (hv : SlI w v leaves) (gv : CapOk v) (hn : leaves.length ≤ 1000)
    (hL : ∀ i, i < 15 → (lvN leaves i).length ≤ 5000 ∧ (∀ p ∈ lvN leaves i, p.1 ≤ 1152921504606846976) ∧ takeN leaves i ≤ (lvN leaves i).length) :
    Calls Tryd.prog 82 #[v, .int .i64 15] w (RetI w (chosenN leaves)) := by
  have HV := Lib.hid hv
  have GV := Lib.hid gv
  have HL := Lib.hid hL
  obtain ⟨va, vc, rfl, _⟩ := hv
  clear hL gv
  have m1 := make137
  go_enter Tryd.func82, Tryd.ntmps82
  go_upto_region 3 with fail
  obtain ⟨w1, h1⟩ : ∃ w1, w1 = w.alloc (.cells (madeCells #[.slice none 0 0, .slice none 0 0] 30) 141) := ⟨_, rfl⟩
  have LS := Lib.hid (lv_start (leaves := leaves) h1)
  have BS := Lib.hid (show Below w.heap.size w w1 by rw [h1]; exact below_alloc w _)
  rw [← h1]
  clear h1 m1
  obtain ⟨L, hL⟩ : ∃ L, L = w.heap.size := ⟨_, rfl⟩
  rw [← hL] at LS ⊢
  have QL := Lib.hid hL
  have ST := Lib.hid (show ChA w L leaves (.int .i64 14) w1 from ⟨15, by omega, rfl, by rw [← QL.out]; exact LS.out, BS.out⟩)
  clear LS BS hL
  go_loopw [6, 7] (fun i _ wr => ChA w L leaves i wr) (fun i _ _ => (intOf i + 1).toNat)
  case atStart => exact ST.out
  case round =>
    clear ST
    obtain ⟨k, hk, rfl, hl, hb⟩ := hrel
    rcases k with _ | j
    · obtain ⟨i0, hi0, hz0, hz1, hz2⟩ := info_parts info3'
      have hmk : (Instr.makeSlice 29 (.int .i64 15) (.int .i64 15)).run Tryd.prog wr = .ok (.slice (some ⟨wr.heap.size, 0, none⟩) 15 15) (wr.alloc (.cells (madeCells #[.int .i64 0] 15) 3)) := run_make_row (P := Tryd.prog) 29 3 i0 (.int .i64 0) Tryd.underlying29 hi0 hz0 hz1 rfl .i64 .i64 15 (by rw [hz2]; omega) (by omega) wr
      have LV := Lib.hid (hl.below (below_alloc wr (.cells (madeCells #[.int .i64 0] 15) 3)))
      have BB := Lib.hid (hb.trans ((below_alloc wr (.cells (madeCells #[.int .i64 0] 15) 3)).mono hb.size))
      have GA := Lib.hid (BlkAt.new wr (natL 15 fun _ => 0) 3)
      rw [← made_nat] at GA
      have LG := Lib.hid (show L < wr.heap.size from (hl.cells (j := 0) (by omega)).2.2.2)
      clear hl hb hi0 hz0 hz1 hz2
      go_upto_region 12 with fail
      clear hmk
      generalize wr.alloc (.cells (madeCells #[.int .i64 0] 15) 3) = x0 at *
      obtain ⟨G, hG⟩ : ∃ G, G = wr.heap.size := ⟨_, rfl⟩
      rw [← hG] at GA LG ⊢
      have LG' := LG.out
      have GB := Lib.hid (show w.heap.size ≤ G by have := QL.out; omega)
      clear hG LG
      have ST := Lib.hid (show ChB w L G leaves (.int .i64 (max 0 (2 * (leaves.length : Int) - 2))) (.int .i64 0) x0 from
        ⟨0, by omega, rfl, by show Value.int .i64 _ = Value.int .i64 ((2 * leaves.length - 2 : Nat) : Int); congr 1; omega, LV.out, by have := GA.out; unfold chUp; simpa using this, BB.out⟩)
      clear LV BB GA
      go_loopw [9, 10, 11, 13, 48] (fun t _ _ _ i wr => ChB w L G leaves t i wr) (fun _ _ _ _ i _ => (15 - intOf i).toNat)
      case atStart => exact ST.out
      case round =>
        clear ST
        obtain ⟨k, hk, rfl, rfl, hl, hg, hb⟩ := hrel
        by_cases hlt : k < 15
        · obtain ⟨c, f, c0, c1, oc, of'⟩ := hl.get (j := k) (Nat.zero_le _) hlt
          have OF := Lib.hid of'
          obtain ⟨ca, cn, cc, rfl⟩ : ∃ a n cc, c = Value.slice a n cc := by obtain ⟨a, c, h⟩ := oc.form; exact ⟨a, _, c, h⟩
          obtain ⟨fa, fc, rfl⟩ := of'.form
          have i1 : (k : Int) < 15 := by omega
          have i2 : (0 : Int) ≤ (k : Int) := by omega
          have t1 : decide ((k : Int) < 15) = true := decide_eq_true i1
          have lt := (hl.cells hlt).2.2.2
          have LV := Lib.hid hl
          have GA := Lib.hid hg
          have BB := Lib.hid hb
          clear hl hg hb oc of'
          have lf : (leafV (lvN leaves k)).length = (lvN leaves k).length := by simp [leafV]
          have hcap : (lvN leaves k).length ≤ fc := by
            obtain ⟨_, _, _, he, hc⟩ := CapOk.own OF.out
            injection he with _ e1 e2
            omega
          have hq := (HL.out k hlt).2.2
          rw [lf] at OF c1
          obtain ⟨M, hM⟩ : ∃ M, M = (lvN leaves k).length := ⟨_, rfl⟩
          obtain ⟨t, ht⟩ : ∃ t, t = takeN leaves k := ⟨_, rfl⟩
          rw [← hM] at OF c1 hq hcap
          rw [← ht] at hq ⊢
          have QM := Lib.hid hM
          have QT := Lib.hid ht
          clear hM ht lf
          go_upto_region 14 with fail
          have BX := Lib.hid (below_alloc wr (.cells #[.slice ca cn cc, .slice fa M fc] 141))
          have NB := BlkAt.new wr [.slice ca cn cc, .slice fa M fc] 141
          change BlkAt (wr.alloc (.cells #[.slice ca cn cc, .slice fa M fc] 141)) _ _ _ at NB
          have NC := NB.cells.cell 1 _ rfl
          have NL := NB.cells.lt
          clear NB c0 c1 lt
          generalize wr.alloc (.cells #[.slice ca cn cc, .slice fa M fc] 141) = x1 at *
          change x1.cell? ⟨wr.heap.size, 1, none⟩ = some (.slice fa M fc) at NC
          have LV1 := Lib.hid (LV.out.below BX.out)
          have GA1 := Lib.hid (GA.out.below BX.out)
          have BB1 := Lib.hid (BB.out.trans (BX.out.mono BB.out.size))
          have OF1 := Lib.hid (OF.out.below BX.out)
          clear LV GA BB OF BX
          generalize wr.heap.size = N at *
          have k1 : (t : Int) ≤ (fc : Int) := by omega
          have k2 : (0 : Int) ≤ (t : Int) := by omega
          have k3 : t ≤ fc := by omega
          have ST := Lib.hid (show ChC w L G k leaves x1 (.int .i64 0) x1 from ⟨0, Nat.zero_le _, rfl, LV1.out, by
            have h := GA1.out
            have e : natL 15 (upd (chUp leaves k) k (countT (lvN leaves k) 0)) = natL 15 (chUp leaves k) := natL_congr fun j _ => by
              unfold upd chUp countT
              by_cases h : j = k
              · subst h; rw [if_pos rfl, if_neg (by omega)]; simp
              · rw [if_neg h]
            rw [e]; exact h, BB1.out, KeepO.refl 3 x1, Nat.le_refl _⟩)
          clear LV1 GA1 BB1
          have tb : t ≤ 5000 := by have := (HL.out k hlt).1; have := QM.out; omega
          rcases OF1.out.get with hnil | ⟨b, bc, hbe, hbB, hbl, hcell⟩
          · have t0 : t = 0 := by have : (leafV (lvN leaves k)).length = M := by rw [QM.out]; simp [leafV]
                                  rw [hnil] at this; simp at this; omega
            clear hnil
            have T0 := Lib.hid t0
            clear t0
            go_wp2_with fail
            go_loopw [13, 58] (fun _ i wr => ChC w L G k leaves x1 i wr) (fun _ i _ => (t - (intOf i).toNat))
            case atStart => exact ST.out
            case round =>

              clear ST
              obtain ⟨j, hj, rfl, hl', hg', hb', hkp, hsz⟩ := hrel
              rw [← QT.out] at hj
              by_cases hjt : j < t
              · exact absurd hjt (by have := T0.out; omega)
              · obtain rfl : j = t := by omega
                have t2 : decide ((j : Int) < (j : Int)) = false := decide_eq_false (by omega)
                have cg := hg'.cells.cell k _ (natL_get hlt)
                have hu : upd (chUp leaves k) k (countT (lvN leaves k) j) k = countT (lvN leaves k) j := by unfold upd; rw [if_pos rfl]
                rw [hu] at cg
                have cle := countT_le (lvN leaves k) j
                have lg := hg'.cells.lt
                have FIN := Lib.hid (show ChB w L G leaves (.int .i64 (2 * ((j : Int) - (countT (lvN leaves k) j : Int)))) (.int .i64 ((k : Int) + 1)) wr from
                  ⟨k + 1, by omega, by congr 1, by show Value.int .i64 _ = Value.int .i64 ((2 * (takeN leaves k - countT (lvN leaves k) (takeN leaves k)) : Nat) : Int); rw [← QT.out]; congr 1; omega, hl', by
                    have h := hg'
                    have e : countT (lvN leaves k) j = chF leaves k := by unfold chF; rw [← QT.out]
                    rw [e, chUp_step] at h; exact h, hb'⟩)
                have ME := Lib.hid (show (15 - ((k : Int) + 1)).toNat < (15 - (k : Int)).toNat by omega)
                clear hl' hg' hb' hkp hsz hu
                generalize countT (lvN leaves k) j = cn2 at *
                go_wp2_with fail
                exact ⟨FIN.out, ME.out⟩
          · injection hbe with e1 e2 e3
            subst e1
            clear e2 e3 hcell
            go_wp2_with fail
            go_loopw [13, 58] (fun _ i wr => ChC w L G k leaves x1 i wr) (fun _ i _ => (t - (intOf i).toNat))
            case atStart => exact ST.out
            case round =>

              clear ST
              obtain ⟨j, hj, rfl, hl', hg', hb', hkp, hsz⟩ := hrel
              rw [← QT.out] at hj
              by_cases hjt : j < t
              · have hjM : j < M := by omega
                have ge : (leafV (lvN leaves k))[j]? = some (.bool ((lvN leaves k)[j]'(by have := QM.out; omega)).2) := by
                  unfold leafV; rw [List.getElem?_map, List.getElem?_eq_getElem (by have := QM.out; omega)]; rfl
                have OFw := OF1.out.keepO hkp (by decide) hsz
                have cj : wr.cell? ⟨b, j, none⟩ = some (.bool ((lvN leaves k)[j]'(by have := QM.out; omega)).2) := by
                  rcases OFw.get with h0 | ⟨b', c', e, _, _, hc⟩
                  · rw [h0] at ge; cases ge
                  · injection e with e1 _ _
                    injection e1 with e1
                    injection e1 with e1 _
                    subst e1
                    exact hc j _ ge
                have ST2 := Lib.hid (countT_step (L := lvN leaves k) (t := j) (by have := QM.out; omega))
                have cg := hg'.cells.cell k _ (natL_get hlt)
                have fg := hg'.cells.free k
                have lg := hg'.cells.lt
                have hu : upd (chUp leaves k) k (countT (lvN leaves k) j) k = countT (lvN leaves k) j := by unfold upd; rw [if_pos rfl]
                rw [hu] at cg
                have cle := countT_le (lvN leaves k) j
                have LV := Lib.hid hl'
                have GA := Lib.hid hg'
                have BB := Lib.hid hb'
                have KP := Lib.hid hkp
                have SZ := Lib.hid hsz
                have k4 : (j : Int) < (t : Int) := by omega
                have k5 : (0 : Int) ≤ (j : Int) := by omega
                have t2 : decide ((j : Int) < (t : Int)) = true := decide_eq_true k4
                have t2n : decide (j < t) = true := decide_eq_true hjt
                have ME := Lib.hid (show t - ((j : Int) + 1).toNat < t - (j : Int).toNat by omega)
                have JT := Lib.hid hjt
                clear ge OFw hu hl' hg' hb' hkp hsz hjt
                generalize ((lvN leaves k)[j]'(by have := QM.out; omega)).2 = x at *
                rcases x with _ | _
                · have FIN := Lib.hid (show ChC w L G k leaves x1 (.int .i64 ((j : Int) + 1)) wr from ⟨j + 1, by have := JT.out; have := QT.out; omega, by congr 1, LV.out, by rw [ST2.out]; exact GA.out, BB.out, KP.out, SZ.out⟩)
                  clear LV GA BB KP SZ ST2
                  go_wp2_with fail
                  exact ⟨FIN.out, ME.out⟩
                · have FIN := Lib.hid (show ChC w L G k leaves x1 (.int .i64 ((j : Int) + 1)) (wr.setCell ⟨G, k, none⟩ (.int .i64 ((countT (lvN leaves k) j : Int) + 1))) from ⟨j + 1, by have := JT.out; have := QT.out; omega, by congr 1,
                    LV.out.oset GA.out (by decide) (by decide) (by omega) _ _, by
                      have h := GA.out.set k (.int .i64 ((countT (lvN leaves k) j + 1 : Nat) : Int))
                      rw [natL_set, upd_upd] at h
                      rw [ST2.out]; exact h, BB.out.setCell (p := ⟨G, k, none⟩) GB.out _, KP.out.trans (KeepO.set GA.out _ _), by simpa using SZ.out⟩)
                  clear LV GA BB KP SZ ST2
                  generalize countT (lvN leaves k) j = cn2 at *
                  go_wp2_with fail
                  exact ⟨FIN.out, ME.out⟩
              · obtain rfl : j = t := by omega
                have t2 : decide ((j : Int) < (j : Int)) = false := decide_eq_false (by omega)
                have cg := hg'.cells.cell k _ (natL_get hlt)
                have hu : upd (chUp leaves k) k (countT (lvN leaves k) j) k = countT (lvN leaves k) j := by unfold upd; rw [if_pos rfl]
                rw [hu] at cg
                have cle := countT_le (lvN leaves k) j
                have lg := hg'.cells.lt
                have FIN := Lib.hid (show ChB w L G leaves (.int .i64 (2 * ((j : Int) - (countT (lvN leaves k) j : Int)))) (.int .i64 ((k : Int) + 1)) wr from
                  ⟨k + 1, by omega, by congr 1, by show Value.int .i64 _ = Value.int .i64 ((2 * (takeN leaves k - countT (lvN leaves k) (takeN leaves k)) : Nat) : Int); rw [← QT.out]; congr 1; omega, hl', by
                    have h := hg'
                    have e : countT (lvN leaves k) j = chF leaves k := by unfold chF; rw [← QT.out]
                    rw [e, chUp_step] at h; exact h, hb'⟩)
                have ME := Lib.hid (show (15 - ((k : Int) + 1)).toNat < (15 - (k : Int)).toNat by omega)
                clear hl' hg' hb' hkp hsz hu
                generalize countT (lvN leaves k) j = cn2 at *
                go_wp2_with fail
                exact ⟨FIN.out, ME.out⟩
        · obtain rfl : k = 15 := by omega
          have FIN := Lib.hid (show RetI w (chosenN leaves) (.returned (.slice (some ⟨G, 0, none⟩) 15 15)) wr from
            ⟨_, rfl, ⟨_, _, by rw [show (chosenN leaves).length = 15 by simp [chosenN]], .inr ⟨G, 0, rfl, hg.cells.lt, fun j x hx => by
              have hj : j < 15 := by have := (List.getElem?_eq_some_iff.1 hx).1; simpa [chosenN] using this
              unfold chosenN at hx
              rw [List.getElem?_map, List.getElem?_range hj] at hx
              injection hx with hx
              rw [Nat.zero_add, hg.cells.cell j _ (natL_get hj), ← hx]
              unfold chUp
              rw [if_pos hj]⟩⟩, ⟨_, _, _, rfl, Nat.le_refl _⟩, hb, fun a n c e => by injection e with e _ _; injection e with e; subst e; exact GB.out⟩)
          clear hl hg hb
          go_wp2_with fail
          go_ret
          exact FIN.out
    · rw [show ((j + 1 : Nat) : Int) - 1 = (j : Int) by omega]
      have t0 : decide ((0 : Int) ≤ (j : Int)) = true := decide_eq_true (by omega)
      have LV := Lib.hid hl
      have BB := Lib.hid hb
      clear hl hb
      by_cases hj : j < 14
      · have t1 : decide ((j : Int) < 14) = true := decide_eq_true (by omega)
        obtain ⟨c, f, c0, c1, oc, _⟩ := LV.out.get (j := j + 1) (Nat.le_refl _) (by omega)
        have hq := HL.out (j + 1) (by omega)
        have IP := Lib.hid (inPairs_ok oc.costs (by rw [List.length_map]; omega) (fun x hx => by obtain ⟨p, hp, rfl⟩ := List.mem_map.1 hx; exact hq.2.1 p hp))
        have LE := Lib.hid hq.1
        clear oc hq
        have lt := (LV.out.cells (j := j + 1) (by omega)).2.2.2
        have i1 : (j : Int) + 1 < 15 := by omega
        have i2 : (0 : Int) ≤ (j : Int) + 1 := by omega
        have i3 : ((j : Int) + 1).toNat = j + 1 := by omega
        go_wp2_with (go_at_call 88; refine IP.out.mono ?_; rintro e w2 ⟨v2, rfl, h2, g2, b2, _⟩)
        have LV2 := Lib.hid (LV.out.below b2)
        have BB2 := Lib.hid (BB.out.trans (b2.mono BB.out.size))
        have LN := Lib.hid (lvN_step leaves hj)
        have lp : (pairsN ((lvN leaves (j + 1)).map (·.1))).length ≤ 5000 := by
          have := LE.out
          simp [pairsN]; omega
        refine (mixed_ok (HV.out.below BB2.out) h2 GV.out g2 (by omega)).mono ?_
        rintro e w3 ⟨c3, f3, rfl, oc3, of3, b3⟩
        rw [← LN.out] at oc3 of3
        have LV3 := Lib.hid (LV2.out.below b3)
        have BB3 := Lib.hid (BB2.out.trans (b3.mono BB2.out.size))
        have e0 := (LV3.out.cells (j := j) (by omega)).1
        have e1 := (LV3.out.cells (j := j) (by omega)).2.1
        have fr := (LV3.out.cells (j := j) (by omega)).2.2.1
        have lt3 := (LV3.out.cells (j := j) (by omega)).2.2.2
        obtain ⟨y0, e0⟩ := e0
        obtain ⟨y1, e1⟩ := e1
        have fr0 := fr (j * 2)
        have fr1 := fr (j * 2 + 1)
        have i4 : (j : Int) < 15 := by omega
        have i5 : (0 : Int) ≤ (j : Int) := by omega
        obtain ⟨ca, cn, cc, rfl⟩ : ∃ a n c, c3 = .slice a n c := by obtain ⟨a, c, h⟩ := oc3.form; exact ⟨a, _, c, h⟩
        obtain ⟨fa, fn, fc, rfl⟩ : ∃ a n c, f3 = .slice a n c := by obtain ⟨a, c, h⟩ := of3.form; exact ⟨a, _, c, h⟩
        have FIN := Lib.hid (show ChA w L leaves (.int .i64 ((j : Int) - 1)) ((w3.setCell ⟨L, j * 2, none⟩ (.slice ca cn cc)).setCell ⟨L, j * 2 + 1, none⟩ (.slice fa fn fc)) from
          ⟨j, by omega, rfl, LV3.out.next (by omega) (oc3.low BB2.out.size) (of3.low BB2.out.size),
            (BB3.out.setCell (p := ⟨L, j * 2, none⟩) (Nat.le_of_eq QL.out.symm) _).setCell (p := ⟨L, j * 2 + 1, none⟩) (Nat.le_of_eq QL.out.symm) _⟩)
        have ME := Lib.hid (show ((j : Int) - 1 + 1).toNat < ((j : Int) + 1).toNat by omega)
        clear fr oc3 of3 b3 b2 h2 g2 lp LE LN LV LV2 LV3 BB BB2 BB3 IP
        go_wp2_with fail
        exact ⟨FIN.out, ME.out⟩
      · obtain rfl : j = 14 := by omega
        go_wp2_with (go_at_call 89; refine (mixed_ok (HV.out.below BB.out) (show SlI wr (.slice none 0 0) [] from ⟨none, 0, rfl, .inl rfl⟩) GV.out ⟨none, 0, 0, rfl, Nat.le_refl _⟩ (by simp; omega)).mono ?_; rintro e w3 ⟨c3, f3, rfl, oc3, of3, b3⟩; obtain ⟨ca, cn, cc, rfl⟩ : ∃ a n c, c3 = .slice a n c := (by obtain ⟨a, c, h⟩ := oc3.form; exact ⟨a, _, c, h⟩); obtain ⟨fa, fn, fc, rfl⟩ : ∃ a n c, f3 = .slice a n c := (by obtain ⟨a, c, h⟩ := of3.form; exact ⟨a, _, c, h⟩); have LV3 := Lib.hid (LV.out.below b3); obtain ⟨⟨y0, e0⟩, ⟨y1, e1⟩, fr, lt3⟩ := LV3.out.cells (j := 14) (by omega); have fr0 := fr 28; have fr1 := fr 29; have OC3 := Lib.hid oc3; have OF3 := Lib.hid of3; have B3 := Lib.hid b3; clear oc3 of3 b3 fr)
        have BB3 := Lib.hid (BB.out.trans (B3.out.mono BB.out.size))
        have FIN := Lib.hid (show ChA w L leaves (.int .i64 13) ((w3.setCell ⟨L, 28, none⟩ (.slice ca cn cc)).setCell ⟨L, 29, none⟩ (.slice fa fn fc)) from
          ⟨14, by omega, rfl, LV3.out.next (j := 14) (by omega) (OC3.out.low BB.out.size) (OF3.out.low BB.out.size),
            (BB3.out.setCell (p := ⟨L, 28, none⟩) (Nat.le_of_eq QL.out.symm) _).setCell (p := ⟨L, 29, none⟩) (Nat.le_of_eq QL.out.symm) _⟩)
        exact ⟨FIN.out, by decide⟩
end

section
open Go.RowKit

set_option maxRecDepth 100000
theorem SlI.oset {w : World} {v : Value} {xs : List Nat} {B G : Nat} (h : SlI w v xs) (f : FrV B v) (hG : G < B) (j : Nat) (u : Value) : SlI (w.setCell ⟨G, j, none⟩ u) v xs := by
  obtain ⟨a, c, hv, hn | ⟨b, off, ha, hb, hc⟩⟩ := h
  · exact ⟨a, c, hv, .inl hn⟩
  · refine ⟨a, c, hv, .inr ⟨b, off, ha, by simpa using hb, fun j x hx => ?_⟩⟩
    have := f ⟨b, off, none⟩ _ _ (by rw [hv, ha])
    rw [World.cell?_setCell_other _ _ _ _ (fun e => by have e' := congrArg Addr.block e; simp at e'; simp at this; omega)]
    exact hc j x hx
/-- The counts of the symbols that come at all. -/
def lvsN (cs : List Nat) : List Nat := (comN cs).map fun s => cs.getD s 0
def lnK (cs : List Nat) : Nat → Nat → Nat
  | 0 => fun _ => 0
  | k + 1 => fun s => lnK cs k s + ((comN cs).take (chF (lvsN cs) k)).count s
/-- The lengths. -/
def lensN (cs : List Nat) : Nat → Nat := if (comN cs).length = 1 then upd (fun _ => 0) ((comN cs).getD 0 0) 1 else lnK cs 15
theorem lnK_le (cs : List Nat) (h : (comN cs).length ≤ 19) (s : Nat) : ∀ k, lnK cs k s ≤ 19 * k
  | 0 => Nat.zero_le _
  | k + 1 => by
    have h1 := lnK_le cs h s k
    have h2 : ((comN cs).take (chF (lvsN cs) k)).count s ≤ 19 := Nat.le_trans List.count_le_length (by simp; omega)
    show lnK cs k s + ((comN cs).take (chF (lvsN cs) k)).count s ≤ _
    omega
theorem count_step (A : Nat → Nat) {l : List Nat} {j : Nat} (h : j < l.length) : upd (fun x => A x + (l.take j).count x) l[j] (A l[j] + (l.take j).count l[j] + 1) = fun x => A x + (l.take (j + 1)).count x := by
  funext x
  unfold upd
  rw [List.take_succ_eq_append_getElem h, List.count_append, List.count_cons, List.count_nil]
  by_cases e : x = l[j]
  · have h1 : (if (l[j] == x) = true then 1 else 0) = 1 := by simp [e]
    rw [if_pos e, h1, e]; omega
  · rw [if_neg e, if_neg (by simpa using fun h => e h.symm)]
    show A x + (l.take j).count x = _
    omega
def lfUp (cs : List Nat) (k : Nat) : Nat → Nat := fun j => if j < k then (lvsN cs).getD j 0 else 0
theorem lfUp_step (cs : List Nat) (k : Nat) : upd (lfUp cs k) k ((lvsN cs).getD k 0) = lfUp cs (k + 1) := by
  funext i; unfold upd lfUp
  by_cases e : i = k
  · subst e; rw [if_pos rfl, if_pos (by omega)]
  · rw [if_neg e]
    by_cases h : i < k
    · rw [if_pos h, if_pos (by omega)]
    · rw [if_neg h, if_neg (by omega)]
def RetLen (w : World) (n : Nat) (F : Nat → Nat) (e : Ending) (w' : World) : Prop := ∃ g, e = .returned (.tuple #[.slice (some ⟨g, 0, none⟩) n n, .int .i64 0]) ∧ w.heap.size ≤ g ∧ BlkAt w' g 3 (natL n F) ∧ Below w.heap.size w w'
def LeA (w : World) (n : Nat) (i : Value) (wr : World) : Prop := ∃ k : Nat, k ≤ n ∧ i = .int .i64 (k : Int) ∧ w = wr
def LeB (w2 : World) (G P n : Nat) (cs : List Nat) (i : Value) (wr : World) : Prop := ∃ k : Nat, k ≤ (comN cs).length ∧ i = .int .i64 (k : Int) ∧ BlkAt wr G 3 (natL n fun _ => 0) ∧ BlkAt wr P 2 (natL (comN cs).length (lfUp cs k)) ∧ Below w2.heap.size w2 wr
def LeC (w2 : World) (G n : Nat) (cs : List Nat) (cv i : Value) (wr : World) : Prop := ∃ k : Nat, k ≤ 15 ∧ i = .int .i64 (k : Int) ∧ BlkAt wr G 3 (natL n (lnK cs k)) ∧ Below w2.heap.size w2 wr ∧ SlI wr cv (chosenN (lvsN cs))
def LeD (w2 : World) (G n k : Nat) (cs : List Nat) (cv i : Value) (wr : World) : Prop := ∃ j : Nat, j ≤ chF (lvsN cs) k ∧ i = .int .i64 (j : Int) ∧ BlkAt wr G 3 (natL n fun x => lnK cs k x + ((comN cs).take j).count x) ∧ Below w2.heap.size w2 wr ∧ SlI wr cv (chosenN (lvsN cs))
theorem SlI.at {w : World} {a : Option Addr} {n c : Nat} {xs : List Nat} (h : SlI w (.slice a n c) xs) (hne : xs ≠ []) : ∃ b off, a = some ⟨b, off, none⟩ := by
  obtain ⟨a', c', e, hn | ⟨b, off, ha, _⟩⟩ := h
  · exact absurd hn hne
  · injection e with e1 _ _; exact ⟨b, off, by rw [e1, ha]⟩
set_option maxHeartbeats 3200000 in
theorem lengths71_ok {w : World} {v : Value} {cs : List Nat} (hv : SlI w v cs) (hn : cs.length ≤ 512) (hc : ∀ c ∈ cs, c ≤ 1099511627776) (ho : InOrder cs (comN cs)) (h19 : (comN cs).length ≤ 19)
    (hL : (comN cs).length ≠ 1 → ∀ i, i < 15 → (lvN (lvsN cs) i).length ≤ 5000 ∧ (∀ p ∈ lvN (lvsN cs) i, p.1 ≤ 1152921504606846976) ∧ takeN (lvsN cs) i ≤ (lvN (lvsN cs) i).length)
    (hK : (comN cs).length ≠ 1 → ∀ k, k < 15 → chF (lvsN cs) k ≤ (comN cs).length) :
    Calls Tryd.prog 71 #[v, .int .i64 15] w (RetLen w cs.length (lensN cs)) := by
  have HV := Lib.hid hv
  have HC := Lib.hid hc
  have HO := Lib.hid ho
  have HL := Lib.hid hL
  have HK := Lib.hid hK
  obtain ⟨va, vc, rfl, _⟩ := hv
  clear hL hK ho hc
  have t0 : decide ((512 : Int) < (cs.length : Int)) = false := decide_eq_false (by omega)
  have BC := Lib.hid (byCount_ok HV.out (by omega) HO.out h19)
  go_enter Tryd.func71, Tryd.ntmps71
  go_wp2_with fail
  have ST := Lib.hid (show LeA w cs.length (.int .i64 0) w from ⟨0, Nat.zero_le _, rfl, rfl⟩)
  go_loopw [7, 30] (fun _ i wr => LeA w cs.length i wr) (fun _ i _ => (cs.length - (intOf i).toNat))
  case atStart => exact ST.out
  case round =>
    clear ST
    obtain ⟨k, hk, rfl, rfl⟩ := hrel
    by_cases hlt : k < cs.length
    · have hne : cs ≠ [] := by intro e; rw [e] at hlt; exact absurd hlt (Nat.not_lt_zero _)
      obtain ⟨b, off, rfl⟩ := HV.out.at hne
      have cj := HV.out.get.2 k cs[k] (List.getElem?_eq_getElem hlt)
      have hcx := HC.out cs[k] (List.getElem_mem hlt)
      have k1 : (k : Int) < (cs.length : Int) := by omega
      have k2 : (0 : Int) ≤ (k : Int) := by omega
      have t1 : decide ((k : Int) < (cs.length : Int)) = true := decide_eq_true (by omega)
      have t1n : decide (k < cs.length) = true := decide_eq_true hlt
      have ME := Lib.hid (show cs.length - ((k : Int) + 1).toNat < cs.length - (k : Int).toNat by omega)
      generalize cs[k] = x at *
      have s1 : decide ((x : Int) < 0) = false := decide_eq_false (by omega)
      have s2 : decide ((1099511627776 : Int) < (x : Int)) = false := decide_eq_false (by omega)
      go_wp2_with fail
      exact ⟨⟨k + 1, hlt, by congr 1, rfl⟩, ME.out⟩
    · obtain rfl : k = cs.length := by omega
      go_wp2_with fail
      refine BC.out.mono ?_
      rintro e w2 ⟨u, rfl, hs, gs, b2, fs⟩
      obtain ⟨ua, uc, rfl, _⟩ := id hs
      have hcap : (comN cs).length ≤ uc := by
        obtain ⟨_, _, _, he, hc⟩ := gs
        injection he with _ e1 e2
        omega
      have HS := Lib.hid hs
      have B2 := Lib.hid b2
      clear hs gs b2 fs BC
      obtain ⟨m, hm⟩ : ∃ m, m = (comN cs).length := ⟨_, rfl⟩
      rw [← hm] at h19 hcap ⊢
      have QM := Lib.hid hm
      have t3 : decide ((32768 : Int) < (m : Int)) = false := decide_eq_false (by omega)
      obtain ⟨i0, hi0, hz0, hz1, hz2⟩ := info_parts info3'
      have hmk := run_make_row (P := Tryd.prog) 29 3 i0 (.int .i64 0) Tryd.underlying29 hi0 hz0 hz1 rfl .i64 .i64 cs.length (by rw [hz2]; omega) (by omega) w2
      rw [made_nat] at hmk
      have GA := Lib.hid (BlkAt.new w2 (natL cs.length fun _ => 0) 3)
      have B3 := Lib.hid (below_alloc w2 (.cells (natL cs.length fun _ => 0).toArray 3))
      clear hm hi0 hz0 hz1 hz2
      go_upto_region 13 with fail
      clear hmk
      generalize w2.alloc (.cells (natL cs.length fun _ => 0).toArray 3) = w3 at *
      obtain ⟨G, hG⟩ : ∃ G, G = w2.heap.size := ⟨_, rfl⟩
      rw [← hG] at GA ⊢
      have QG := Lib.hid hG
      have SW := Lib.hid (show w.heap.size ≤ G by rw [hG]; exact B2.out.size)
      clear hG
      by_cases hm1 : m = 1
      · have LE := Lib.hid (show lensN cs = upd (fun _ => 0) ((comN cs).getD 0 0) 1 from if_pos (by rw [← QM.out]; exact hm1))
        subst hm1
        obtain ⟨b, off, rfl⟩ := HS.out.at (by intro e; have := QM.out; rw [e] at this; simp at this)
        have hb := (HS.out.below B3.out).get.2 0 ((comN cs).getD 0 0) (by rw [List.getD_eq_getElem?_getD, List.getElem?_eq_getElem (by have := QM.out; omega)]; rfl)
        have hlt := HO.out.1 ((comN cs).getD 0 0) (by rw [List.getD_eq_getElem?_getD, List.getElem?_eq_getElem (by have := QM.out; omega)]; exact List.getElem_mem _)
        rw [Nat.add_zero] at hb
        generalize (comN cs).getD 0 0 = s at *
        have cg := GA.out.cells.cell s _ (natL_get hlt)
        have fg := GA.out.cells.free s
        have lg := GA.out.cells.lt
        have k1 : (s : Int) < (cs.length : Int) := by omega
        have k2 : (0 : Int) ≤ (s : Int) := by omega
        have FIN := Lib.hid (show RetLen w cs.length (lensN cs) (.returned (.tuple #[.slice (some ⟨G, 0, none⟩) cs.length cs.length, .int .i64 0])) (w3.setCell ⟨G, s, none⟩ (.int .i64 1)) from
          ⟨G, rfl, SW.out, by rw [LE.out]; have h := GA.out.set s (.int .i64 ((1 : Nat) : Int)); rw [natL_set] at h; exact h,
            ((B2.out.trans (B3.out.mono B2.out.size)).setCell (p := ⟨G, s, none⟩) SW.out _)⟩)
        clear LE
        go_wp2_with fail
        go_ret2
        exact FIN.out
      · have t4 : ((m : Int) == 1) = false := by rw [beq_eq_false_iff_ne]; omega
        have t4n : (m == 1) = false := by rw [beq_eq_false_iff_ne]; omega
        have LE := Lib.hid (show lensN cs = lnK cs 15 from if_neg (by rw [← QM.out]; exact hm1))
        have HL := Lib.hid (HL.out (by rw [← QM.out]; exact hm1))
        have HK := Lib.hid (HK.out (by rw [← QM.out]; exact hm1))
        obtain ⟨j0, hj0, hy0, hy1, hy2⟩ := info_parts info2
        have hmk := run_make_row (P := Tryd.prog) 131 2 j0 (.int .i64 0) Tryd.underlying131 hj0 hy0 hy1 rfl .i64 .i64 m (by rw [hy2]; omega) (by omega) w3
        rw [made_nat] at hmk
        have PA := Lib.hid (BlkAt.new w3 (natL m fun _ => 0) 2)
        have B4 := Lib.hid (below_alloc w3 (.cells (natL m fun _ => 0).toArray 2))
        clear hm1 hj0 hy0 hy1 hy2
        go_upto_region 17 with fail
        clear hmk t4 t4n
        generalize w3.alloc (.cells (natL m fun _ => 0).toArray 2) = w4 at *
        obtain ⟨P, hP⟩ : ∃ P, P = w3.heap.size := ⟨_, rfl⟩
        rw [← hP] at PA ⊢
        have GP := Lib.hid (show G < P by rw [hP]; exact GA.out.cells.lt)
        have GA4 := Lib.hid (GA.out.below B4.out)
        have B34 := Lib.hid (show Below w2.heap.size w2 w4 from B3.out.trans (B4.out.mono B3.out.size))
        clear hP GA B3 B4
        have ST := Lib.hid (show LeB w2 G P cs.length cs (.int .i64 0) w4 from ⟨0, Nat.zero_le _, rfl, GA4.out, by rw [← QM.out]; have := PA.out; unfold lfUp; simpa using this, B34.out⟩)
        clear GA4 PA B34
        go_wp2_with fail
        go_loopw [11, 12, 65] (fun _ _ i wr => LeB w2 G P cs.length cs i wr) (fun _ _ i _ => (m - (intOf i).toNat))
        case atStart => exact ST.out
        case round =>
          clear ST
          obtain ⟨k, hk, rfl, hg, hp, hb⟩ := hrel
          rw [← QM.out] at hk hp
          by_cases hkm : k < m
          · have hne : comN cs ≠ [] := by intro e; have := QM.out; rw [e] at this; simp at this; omega
            obtain ⟨b, off, rfl⟩ := HS.out.at hne
            have hkl : k < (comN cs).length := by have := QM.out; omega
            have cS := (HS.out.below hb).get.2 k (comN cs)[k] (List.getElem?_eq_getElem hkl)
            have hsl := HO.out.1 (comN cs)[k] (List.getElem_mem hkl)
            have hne2 : cs ≠ [] := List.ne_nil_of_length_pos (Nat.lt_of_le_of_lt (Nat.zero_le _) hsl)
            obtain ⟨b', off', rfl⟩ := HV.out.at hne2
            have cV := ((HV.out.below B2.out).below hb).get.2 (comN cs)[k] cs[(comN cs)[k]] (List.getElem?_eq_getElem hsl)
            have lv : (lvsN cs).getD k 0 = cs[(comN cs)[k]] := by
              unfold lvsN
              rw [List.getD_eq_getElem?_getD, List.getElem?_map, List.getElem?_eq_getElem hkl]
              simp only [Option.map_some, Option.getD_some]
              rw [List.getD_eq_getElem?_getD, List.getElem?_eq_getElem hsl]; rfl
            have SE := lfUp_step cs k
            rw [lv] at SE
            clear lv hne hne2
            generalize cs[(comN cs)[k]] = x at *
            generalize (comN cs)[k] = s at *
            have cp := hp.cells.cell k _ (natL_get hkm)
            have fp := hp.cells.free k
            have lp := hp.cells.lt
            have k1 : (k : Int) < (m : Int) := by omega
            have k2 : (0 : Int) ≤ (k : Int) := by omega
            have k3 : (s : Int) < (cs.length : Int) := by omega
            have k4 : (0 : Int) ≤ (s : Int) := by omega
            have t1 : decide ((k : Int) < (m : Int)) = true := decide_eq_true k1
            have t1n : decide (k < m) = true := decide_eq_true hkm
            have ME := Lib.hid (show m - ((k : Int) + 1).toNat < m - (k : Int).toNat by omega)
            have FIN := Lib.hid (show LeB w2 G P cs.length cs (.int .i64 ((k : Int) + 1)) (wr.setCell ⟨P, k, none⟩ (.int .i64 (x : Int))) from
              ⟨k + 1, by have := QM.out; omega, by congr 1, hg.other (by have := GP.out; omega) _ _, by
                have h := hp.set k (.int .i64 (x : Int)); rw [natL_set, SE] at h; rw [← QM.out]; exact h, hb.setCell (p := ⟨P, k, none⟩) (by have := GP.out; have := QG.out; show w2.heap.size ≤ P; omega) _⟩)
            clear SE hg hp hb
            go_wp2_with fail
            exact ⟨FIN.out, ME.out⟩
          · obtain rfl : k = m := by omega
            have SL := Lib.hid (show SlI wr (.slice (some ⟨P, 0, none⟩) k k) (lvsN cs) from ⟨_, k, by rw [show (lvsN cs).length = k by rw [QM.out]; simp [lvsN]], .inr ⟨P, 0, rfl, hp.cells.lt, fun j x hx => by
              have hj : j < k := by rw [QM.out]; have := (List.getElem?_eq_some_iff.1 hx).1; simpa [lvsN] using this
              rw [Nat.zero_add, hp.cells.cell j _ (natL_get hj)]
              unfold lfUp
              rw [if_pos hj, List.getD_eq_getElem?_getD, hx]; rfl⟩⟩)
            have CH := Lib.hid (chosen_ok SL.out ⟨_, _, _, rfl, Nat.le_refl _⟩ (by rw [show (lvsN cs).length = k by rw [QM.out]; simp [lvsN]]; omega) HL.out)
            have GW := Lib.hid hg
            have BW := Lib.hid hb
            clear hg hp hb SL HL
            have t1 : decide ((k : Int) < (k : Int)) = false := decide_eq_false (by omega)
            go_wp2_with fail
            refine CH.out.mono ?_
            rintro e w5 ⟨cv, rfl, hcv, _, b5, f5⟩
            have GA5 := Lib.hid (GW.out.below b5)
            have GL := Lib.hid (Nat.lt_of_lt_of_le GW.out.cells.lt (Nat.le_refl _))
            have B5 := Lib.hid (BW.out.trans (b5.mono BW.out.size))
            have F5 := Lib.hid f5
            have ST := Lib.hid (show LeC w2 G cs.length cs cv (.int .i64 0) w5 from ⟨0, by omega, rfl, GA5.out, B5.out, hcv⟩)
            obtain ⟨ca, cc, rfl, _⟩ := hcv
            have l15 : (chosenN (lvsN cs)).length = 15 := by simp [chosenN]
            rw [l15] at ST F5 ⊢
            clear b5 f5 GA5 B5 GW BW CH t1
            go_wp2_with fail
            go_loopw [14, 16, 82] (fun _ _ i wr => LeC w2 G cs.length cs (.slice ca 15 cc) i wr) (fun _ _ i _ => (15 - intOf i).toNat)
            case atStart => exact ST.out
            case round =>
              clear ST
              obtain ⟨q, hq, rfl, hg, hb, hc⟩ := hrel
              by_cases hq15 : q < 15
              · obtain ⟨b, off, rfl⟩ := hc.at (List.ne_nil_of_length_pos (by omega))
                have cq := hc.get.2 q (chF (lvsN cs) q) (by unfold chosenN; rw [List.getElem?_map, List.getElem?_range hq15]; rfl)
                have hk := HK.out q hq15
                rw [← QM.out] at hk
                have QC := Lib.hid (show ∃ c, c = chF (lvsN cs) q from ⟨_, rfl⟩)
                obtain ⟨ch, hch⟩ := QC.out
                rw [← hch] at cq hk
                have HCH := Lib.hid hch
                have k1 : (q : Int) < 15 := by omega
                have k2 : (0 : Int) ≤ (q : Int) := by omega
                have t1 : decide ((q : Int) < 15) = true := decide_eq_true k1
                have c1 : (ch : Int) ≤ (uc : Int) := by omega
                have c2 : (0 : Int) ≤ (ch : Int) := by omega
                have c3 : ch ≤ uc := by omega
                have ST := Lib.hid (show LeD w2 G cs.length q cs (.slice (some ⟨b, off, none⟩) 15 cc) (.int .i64 0) wr from ⟨0, Nat.zero_le _, rfl, by simpa using hg, hb, hc⟩)
                clear hg hb hc hch QC
                go_wp2_with fail
                go_loopw [16, 90] (fun _ i wr => LeD w2 G cs.length q cs (.slice (some ⟨b, off, none⟩) 15 cc) i wr) (fun _ i _ => (ch - (intOf i).toNat))
                case atStart => exact ST.out
                case round =>
                  clear ST
                  obtain ⟨j, hj, rfl, hg, hb, hc⟩ := hrel
                  rw [← HCH.out] at hj
                  by_cases hjc : j < ch
                  · have hjl : j < (comN cs).length := by have := QM.out; omega
                    have hne : comN cs ≠ [] := List.ne_nil_of_length_pos (by omega)
                    obtain ⟨bs, os, rfl⟩ := HS.out.at hne
                    have cS := (HS.out.below hb).get.2 j (comN cs)[j] (List.getElem?_eq_getElem hjl)
                    have hsl := HO.out.1 (comN cs)[j] (List.getElem_mem hjl)
                    have SE := count_step (lnK cs q) hjl
                    have le1 := lnK_le cs (by rw [← QM.out]; exact h19) (comN cs)[j] q
                    have le2 : ((comN cs).take j).count (comN cs)[j] ≤ 19 := Nat.le_trans List.count_le_length (by simp; omega)
                    have cg := hg.cells.cell _ _ (natL_get hsl)
                    have fg := hg.cells.free (comN cs)[j]
                    have lg := hg.cells.lt
                    have SS := Lib.hid (hg.set (comN cs)[j] (.int .i64 ((lnK cs q (comN cs)[j] + ((comN cs).take j).count (comN cs)[j] + 1 : Nat) : Int)))
                    rw [natL_set, SE] at SS
                    clear SE
                    generalize (comN cs)[j] = s at *
                    obtain ⟨y, hy⟩ : ∃ y, y = lnK cs q s + ((comN cs).take j).count s := ⟨_, rfl⟩
                    have ylt : y ≤ 1000 := by omega
                    rw [← hy] at cg SS
                    clear le1 le2 hy
                    have k3 : (s : Int) < (cs.length : Int) := by omega
                    have k4 : (0 : Int) ≤ (s : Int) := by omega
                    have k5 : (j : Int) < (ch : Int) := by omega
                    have k6 : (0 : Int) ≤ (j : Int) := by omega
                    have t2 : decide ((j : Int) < (ch : Int)) = true := decide_eq_true k5
                    have t2n : decide (j < ch) = true := decide_eq_true hjc
                    have ME := Lib.hid (show ch - ((j : Int) + 1).toNat < ch - (j : Int).toNat by omega)
                    have FIN := Lib.hid (show LeD w2 G cs.length q cs (.slice (some ⟨b, off, none⟩) 15 cc) (.int .i64 ((j : Int) + 1)) (wr.setCell ⟨G, s, none⟩ (.int .i64 ((y : Int) + 1))) from
                      ⟨j + 1, by rw [← HCH.out]; omega, by congr 1, SS.out, hb.setCell (p := ⟨G, s, none⟩) (Nat.le_of_eq QG.out.symm) _, hc.oset F5.out GL.out _ _⟩)
                    clear hg hb hc SS
                    go_wp2_with fail
                    exact ⟨FIN.out, ME.out⟩
                  · obtain rfl : j = ch := by omega
                    have t2 : decide ((j : Int) < (j : Int)) = false := decide_eq_false (by omega)
                    have FIN := Lib.hid (show LeC w2 G cs.length cs (.slice (some ⟨b, off, none⟩) 15 cc) (.int .i64 ((q : Int) + 1)) wr from
                      ⟨q + 1, by omega, by congr 1, by
                        have h := hg
                        rw [HCH.out] at h
                        exact h, hb, hc⟩)
                    have ME := Lib.hid (show (15 - ((q : Int) + 1)).toNat < (15 - (q : Int)).toNat by omega)
                    clear hg hb hc
                    go_wp2_with fail
                    exact ⟨FIN.out, ME.out⟩
              · obtain rfl : q = 15 := by omega
                have FIN := Lib.hid (show RetLen w cs.length (lensN cs) (.returned (.tuple #[.slice (some ⟨G, 0, none⟩) cs.length cs.length, .int .i64 0])) wr from
                  ⟨G, rfl, SW.out, by rw [LE.out]; exact hg, B2.out.trans (hb.mono B2.out.size)⟩)
                clear hg hb hc
                go_wp2_with fail
                go_ret2
                exact FIN.out
end

section
open Go.RowKit

set_option maxRecDepth 100000
/-- Counts that Lengths takes here. -/
structure LenOk (cs : List Nat) : Prop where
  len : cs.length ≤ 512
  le : ∀ c ∈ cs, c ≤ 1099511627776
  ord : InOrder cs (comN cs)
  few : (comN cs).length ≤ 19
  lv : (comN cs).length ≠ 1 → ∀ i, i < 15 → (lvN (lvsN cs) i).length ≤ 5000 ∧ (∀ p ∈ lvN (lvsN cs) i, p.1 ≤ 1152921504606846976) ∧ takeN (lvsN cs) i ≤ (lvN (lvsN cs) i).length
  ch : (comN cs).length ≠ 1 → ∀ k, k < 15 → chF (lvsN cs) k ≤ (comN cs).length
theorem lengths_good {w : World} {v : Value} {cs : List Nat} (h : LenOk cs) (hv : SlI w v cs) : Calls Tryd.prog 71 #[v, .int .i64 15] w (RetLen w cs.length (lensN cs)) :=
  lengths71_ok hv h.len h.le h.ord h.few h.lv h.ch
theorem size3 : (Tryd.prog.info? 3).map (·.size) = some 1 := by kernel_rfl
/-- Numbers are copied over a part of a row. -/
theorem copy_ns {w : World} {b o n m c d g N n' : Nat} {t t' : TypeId} {f h : Nat → Nat} (ty : TypeId) (hb : BlkAt w b t (natL N f)) (hg : BlkAt w g t' (natL n' h)) (ho : o + n ≤ N) (hn : n ≤ n') (hm : m = n) :
    (Builtin.copy_ #[29, 29] ty #[.slice (some ⟨b, o, none⟩) m c, .slice (some ⟨g, 0, none⟩) n d]).run Tryd.prog w = .ok (goInt n) (w.setCells b o (natL n h)) := by
  subst hm
  have := run_copy_cells (P := Tryd.prog) w 29 29 ty 3 b o m c ⟨g, 0, none⟩ m d (natL m h) Tryd.underlying29 size3 (by rw [natL_len]; exact (Nat.min_self m).symm) (fun j v hv => by
      rw [add_plain, Nat.zero_add]
      have hj : j < m := by have := (List.getElem?_eq_some_iff.1 hv).1; rwa [natL_len] at this
      rw [natL_get hj] at hv
      rw [hg.cells.cell j _ (natL_get (by omega))]
      exact hv) (fun j hj => by
      rw [natL_len] at hj
      rw [hb.cells.cell (o + j) _ (natL_get (by omega))]; rfl) (fun j _ => hb.cells.free _) (fun v hv => by
      obtain ⟨j, _, rfl⟩ := List.mem_map.1 hv
      rfl)
  rw [natL_len] at this
  exact this
theorem natL_cons (n : Nat) (h : Nat → Nat) : natL (n + 1) h = .int .i64 (h 0 : Int) :: natL n fun j => h (j + 1) := by
  unfold natL
  rw [List.range_succ_eq_map, List.map_cons, List.map_map]
  rfl
theorem BlkAt.setsL {p N : Nat} {t : TypeId} : ∀ (n o : Nat) (f h : Nat → Nat) {w : World}, BlkAt w p t (natL N f) → BlkAt (w.setCells p o (natL n h)) p t (natL N (overF f o n h))
  | 0, o, f, h, w, hb => by
    have e : overF f o 0 h = f := by funext j; unfold overF; rw [if_neg (by omega)]
    rw [e]; exact hb
  | n + 1, o, f, h, w, hb => by
    rw [natL_cons, World.setCells]
    have b1 := hb.set o (.int .i64 (h 0 : Int))
    rw [natL_set] at b1
    have b2 := BlkAt.setsL n (o + 1) (upd f o (h 0)) (fun j => h (j + 1)) b1
    have e : overF (upd f o (h 0)) (o + 1) n (fun j => h (j + 1)) = overF f o (n + 1) h := by
      funext j
      unfold overF upd
      by_cases h1 : o + 1 ≤ j ∧ j < o + 1 + n
      · rw [if_pos h1, if_pos ⟨by omega, by omega⟩]
        show h (j - (o + 1) + 1) = _
        rw [show j - (o + 1) + 1 = j - o by omega]
      · rw [if_neg h1]
        by_cases h2 : j = o
        · subst h2; rw [if_pos rfl, if_pos ⟨by omega, by omega⟩, Nat.sub_self]
        · rw [if_neg h2, if_neg (by omega)]
    rw [e] at b2
    exact b2
theorem BlkAt.osets {p c : Nat} {t : TypeId} {vs : List Value} : ∀ (us : List Value) (o : Nat) {w : World}, BlkAt w p t vs → c ≠ p → BlkAt (w.setCells c o us) p t vs
  | [], _, _, h, _ => h
  | u :: us, o, _, h, hc => BlkAt.osets us (o + 1) (h.other hc o u) hc
/-- The lengths of both. -/
def bestN (C : Nat → Nat) : Nat → Nat := overF (overF (fun _ => 0) 0 272 (lensN (partL C 0 272))) 272 30 (lensN (partL C 272 30))
theorem SlI.part {w : World} {b off m c : Nat} {f : Nat → Nat} (hl : b < w.heap.size) (hc : ∀ (j x : Nat), (partL f off m)[j]? = some x → w.cell? ⟨b, off + j, none⟩ = some (.int .i64 (x : Int))) : SlI w (.slice (some ⟨b, off, none⟩) m c) (partL f off m) :=
  ⟨_, _, by rw [partL_len], .inr ⟨b, off, rfl, hl, hc⟩⟩
set_option maxHeartbeats 1600000 in
theorem best52_ok {w : World} {C : Nat → Nat} (h1 : LenOk (partL C 0 272)) (h2 : LenOk (partL C 272 30)) :
    Calls Tryd.prog 52 #[.agg (natL 302 C).toArray] w (RetBelow w (.agg (natL 302 (bestN C)).toArray)) := by
  have L1 := Lib.hid (fun (W : World) (v : Value) (hv : SlI W v (partL C 0 272)) => lengths_good h1 hv)
  have L2 := Lib.hid (fun (W : World) (v : Value) (hv : SlI W v (partL C 272 30)) => lengths_good h2 hv)
  rw [partL_len] at L1 L2
  have AC := Lib.hid (show overF (overF (fun _ => 0) 0 272 (lensN (partL C 0 272))) 272 30 (lensN (partL C 272 30)) = bestN C from rfl)
  have Z := Lib.hid zero69
  clear h1 h2
  go_enter Tryd.func52, Tryd.ntmps52
  go_upto_region 2 with (guard_target =~ wpList _ _ _ (⟨some _, Op.alloc 69, _, _, _, _⟩ :: _) _ _; go_must (refine wp_alloc0 rfl 69 rfl _ Z.out ?_; simp only [Value.cells]))
  obtain ⟨x0, hx0⟩ : ∃ x0, x0 = w.alloc (.cells (natL 302 C).toArray 68) := ⟨_, rfl⟩
  have bC := BlkAt.new w (natL 302 C) 68
  have bB := below_alloc w (.cells (natL 302 C).toArray 68)
  have s0 : (w.alloc (.cells (natL 302 C).toArray 68)).heap.size = w.heap.size + 1 := by simp
  rw [← hx0] at bC bB s0 ⊢
  clear hx0
  have b0 := BlkAt.new x0 (natL 302 fun _ => 0) 69
  have b1 := BlkAt.new (x0.alloc (.cells (natL 302 fun _ => 0).toArray 69)) (natL 302 fun _ => 0) 69
  have s1 : (x0.alloc (.cells (natL 302 fun _ => 0).toArray 69)).heap.size = w.heap.size + 1 + 1 := by simp [s0]
  have BA := Lib.hid (b0.alloc (.cells (natL 302 fun _ => 0).toArray 69))
  have BC := Lib.hid ((bC.alloc (.cells (natL 302 fun _ => 0).toArray 69)).alloc (.cells (natL 302 fun _ => 0).toArray 69))
  rw [s1] at b1
  rw [s0] at BA
  have BB := Lib.hid b1
  have BW := Lib.hid ((bB.alloc (by omega) (.cells (natL 302 fun _ => 0).toArray 69)).alloc (by simp; omega) (.cells (natL 302 fun _ => 0).toArray 69))
  rw [s0, s1]
  generalize (x0.alloc (.cells (natL 302 fun _ => 0).toArray 69)).alloc (.cells (natL 302 fun _ => 0).toArray 69) = x1 at *
  clear b0 b1 bC bB s0 s1
  obtain ⟨S, hS⟩ : ∃ S, S = w.heap.size := ⟨_, rfl⟩
  rw [← hS] at BA BB BC ⊢
  have QS := Lib.hid hS
  have SL1 := Lib.hid (show SlI x1 (.slice (some ⟨S, 0, none⟩) 272 302) (partL C 0 272) from SlI.part BC.out.cells.lt (BC.out.cells.part (by omega)))
  have C1 := Lib.hid (L1.out x1 _ SL1.out)
  clear hS SL1
  go_wp2_with fail
  refine C1.out.mono ?_
  rintro e x2 ⟨ga, rfl, la, fa, hb2⟩
  have FA := Lib.hid fa
  have BA2 := Lib.hid (BA.out.below hb2)
  have BB2 := Lib.hid (BB.out.below hb2)
  have BC2 := Lib.hid (BC.out.below hb2)
  have BW2 := Lib.hid (BW.out.trans (hb2.mono BW.out.size))
  have la2 : S + 1 + 1 < ga := Nat.lt_of_lt_of_le BB.out.cells.lt la
  have SL2 := Lib.hid (show SlI x2 (.slice (some ⟨S, 272, none⟩) 30 30) (partL C 272 30) from SlI.part BC2.out.cells.lt (BC2.out.cells.part (by omega)))
  have C2 := Lib.hid (L2.out x2 _ SL2.out)
  clear fa la hb2 BA BB BC BW C1 L1 L2 SL2
  go_wp2_with fail
  refine C2.out.mono ?_
  rintro e x3 ⟨gb, rfl, lb, fb, hb3⟩
  rw [← QS.out] at BW2
  have FA3 := Lib.hid (FA.out.below hb3)
  have FB3 := Lib.hid fb
  have BA3 := Lib.hid (BA2.out.below hb3)
  have BB3 := Lib.hid (BB2.out.below hb3)
  have RB := Lib.hid BW2.out.size
  have BW3 := Lib.hid (BW2.out.trans (hb3.mono (by rw [QS.out]; exact RB.out)))
  have lb2 : S + 1 + 1 < gb := Nat.lt_of_lt_of_le BB2.out.cells.lt lb
  clear fb lb hb3 BA2 BB2 BC2 FA BW2 C2 RB
  have K1 := copy_ns (c := 302) (d := 272) (o := 0) (b := S + 1 + 1) (n := 272) 3 BB3.out FA3.out (by omega) (by omega) rfl
  have BB4 := Lib.hid (BlkAt.setsL 272 0 (fun _ => 0) (lensN (partL C 0 272)) BB3.out)
  have BA4 := Lib.hid (BA3.out.osets (c := S + 1 + 1) (natL 272 (lensN (partL C 0 272))) 0 (by omega))
  have FB4 := Lib.hid (FB3.out.osets (c := S + 1 + 1) (natL 272 (lensN (partL C 0 272))) 0 (by omega))
  have BW4 := Lib.hid (below_sets (S + 1 + 1) (by omega) (natL 272 (lensN (partL C 0 272))) 0 BW3.out)
  clear BA3 BB3 FA3 FB3 BW3
  go_upto_region 5 with fail
  generalize x3.setCells (S + 1 + 1) 0 (natL 272 (lensN (partL C 0 272))) = x4 at *
  clear K1
  have K2 := copy_ns (c := 30) (d := 30) (o := 272) (b := S + 1 + 1) (n := 30) 3 BB4.out FB4.out (by omega) (by omega) rfl
  have BB5 := Lib.hid (BlkAt.setsL 30 272 _ (lensN (partL C 272 30)) BB4.out)
  have BA5 := Lib.hid (BA4.out.osets (c := S + 1 + 1) (natL 30 (lensN (partL C 272 30))) 272 (by omega))
  have BW5 := Lib.hid (below_sets (S + 1 + 1) (by omega) (natL 30 (lensN (partL C 272 30))) 272 BW4.out)
  rw [AC.out] at BB5
  clear BA4 BB4 BW4 FB4
  go_upto_region 6 with fail
  generalize x4.setCells (S + 1 + 1) 272 (natL 30 (lensN (partL C 272 30))) = x5 at *
  clear K2
  generalize bestN C = A at *
  have RG := Lib.hid BB5.out.cells.range
  have TH := Lib.hid (show x5.there (S + 1) 0 (natL 302 A).toArray.size by have := BA5.out.cells.there; simpa [natL_len] using this)
  have H1 := Lib.hid (BA5.out.cells.sets (us := natL 302 A) (by simp [natL_len]))
  have HB := Lib.hid (below_sets (S + 1) (Nat.le_succ S) (natL 302 A) 0 BW5.out)
  clear BA5 BB5 BW5
  go_wp2_with (first
    | (guard_target =~ wpList _ _ _ (⟨some _, Op.load 69 _, _, _, _, _⟩ :: _) _ _; go_must (refine wpList_load_mid rfl 69 _ rfl (S + 1 + 1) 0 rfl (natL 302 A) _ RG.out Tryd.underlying69 rfl (info69n _) ?_))
    | (guard_target =~ wpList _ _ _ (⟨none, Op.store 69 _ _, _, _, _, _⟩ :: _) _ _; go_must (refine wpList_store_mid rfl 69 _ _ rfl (S + 1) 0 (natL 302 A).toArray rfl rfl TH.out (info69a _) (natL_one _ _) ?_)))
  exact bodyPost_ret (results_range rfl _ _ (S + 1) _ _ rfl H1.out.range Tryd.underlying69 rfl (info69n _)) rfl ⟨rfl, by rw [← QS.out]; exact HB.out⟩
end
end Go.Proofs.YtfbeipfpkikakaaDoor
