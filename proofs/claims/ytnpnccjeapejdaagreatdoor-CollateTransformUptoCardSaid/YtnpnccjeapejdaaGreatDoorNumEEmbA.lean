/- Embedding, the program's: values, versions, escaped texts, all together. -/
import Derived.Test.YtnpnccjeapejdaaGreatDoorNumECnt
import Derived.Test.YtnpnccjeapejdaaGreatDoorNumCompare
import Derived.Deep.RegionHeld3
import Derived.IntWalk
import Derived.Test.YtnpnccjeapejdaaGreatDoorNumEVOk
namespace Go.Proofs.YtnpnccjeapejdaaGreatDoor.Num
section
open Go.RowKit

theorem make_run (w : World) (B : Nat) (hB : B ≤ w.heap.size) (n : Nat) (C : Int) (hC : C = (n : Int)) (hn : n ≤ 1099511627776) :
    ∃ v' w', (Instr.makeSlice 52 (.int .i64 0) (.int .i64 C)).run Tryz.prog w = .ok v' w' ∧ OwnB w' B v' [] ∧ Below w.heap.size w w' := by
  obtain ⟨i0, hi, hz0, hz1, hz2⟩ := info_parts info5
  subst hC
  obtain ⟨w', hrun, r1, r2⟩ := run_make_own (P := Tryz.prog) (w := w) B 52 5 i0 (.int .u8 0) 1 Tryz.underlying52 hi hz0 hz1 .i64 .i64 n (by rw [hz2]; omega) (by unfold maxLen; omega) hB
  exact ⟨_, w', hrun, ⟨r1, Nat.le_trans hB r2.size⟩, ⟨r2.os, r2.tape, r2.output, r2.size, fun k hk => r2.block k hk (by simp)⟩⟩
theorem step_app {ops : Array Oper} {o : Oper} {a : Act} {w : World} {K : Act → World → Prop} {Q : Exit → Act → World → Prop} {E : Prop} (hgd : o.guard = none) (s x : Operand)
    (ho : o.op = .call { callee := .builtin .append, args := #[s, x], argTypes := #[52, 52] })
    (B : Nat) (v : Value) (l : List UInt8) (hs : a.eval s = v) (hown : OwnB w B v l) (ad : Addr) (c : UInt8) (y : Int) (hy : y = (c.toNat : Int))
    (hx : a.eval x = .slice (some ad) 1 1) (hcell : w.cell? ad = some (.int .u8 y)) (hlen : l.length ≤ 1099511627776)
    (h : ∀ v' w', OwnB w' B v' (l ++ [c]) → Below B w w' → KeepB w w' → K (a.put o.dst v') w') :
    if Region.wanted o (yielded ops a.tmps) = true then Oper.wp Tryz.prog o a w K Q else E := by
  have hw : Region.wanted o (yielded ops a.tmps) = true := by simp [Region.wanted, hgd]
  rw [if_pos hw]
  obtain ⟨i0, hi, hz0, hz1, hz2⟩ := info_parts info5
  subst hy
  have hB := hown.2
  refine wp_append_own w s x 52 ho B 5 i0 (.int .u8 0) 1 1 Tryz.underlying52 hi hz0 hz1 hz2 rfl (by decide) v l.length (byV l) hs hown.1 ad 1 1 [.int .u8 c.toNat] hx rfl ?_ ?_ ?_ ?_ hB ?_
  · intro j u hj
    match j, hj with
    | 0, hj => simp at hj; subst hj; simpa [Addr.add] using hcell
  · intro u hu; simp at hu; subst hu; rfl
  · unfold maxLen; omega
  · omega
  · intro v' w' h1 h2 _
    refine h v' w' ⟨?_, Nat.le_trans hB h2.size⟩ (hown.grown h2) (hown.keeps h2)
    rw [List.length_append, byV_app]; exact h1

theorem beN_len : ∀ n m, (beN n m).length = n
  | 0, _ => rfl
  | n + 1, m => by simp [beN, beN_len n]
set_option maxRecDepth 100000
set_option maxHeartbeats 1600000 in
theorem embedOther_ok (kind : Nat) (v : Val) (w : World) (h1 : v.cls ≠ 96) (h2 : v.cls ≠ 64) (hc : v.cls ≤ 255) :
    Calls Tryz.prog 36 #[.int .u16 kind, valV v] w (RetBelow w (.string (bs [UInt8.ofNat v.cls]))) := by
  have t1 : ((v.cls : Int) != 64) = true := by rw [bne_iff_ne]; omega
  have t2 : ((v.cls : Int) != 96) = true := by rw [bne_iff_ne]; omega
  unfold valV
  have hback := dig_back (w.alloc (.cells #[.int .u8 v.cls, .int .i64 v.rank, .int .i64 v.exp, .string (bs v.whole), .string (bs v.frac)] 79)) (v.cls : Int) (by omega)
  have hn : ((v.cls : Int)).toNat = v.cls := Int.toNat_natCast _
  rw [hn, show (w.alloc (.cells #[.int .u8 v.cls, .int .i64 v.rank, .int .i64 v.exp, .string (bs v.whole), .string (bs v.frac)] 79)).heap.size = w.heap.size + 1 by simp] at hback
  clear hn h1 h2
  generalize v.cls = c at *
  generalize v.rank = r at *
  generalize bs v.whole = W at *
  generalize bs v.frac = F at *
  go_enter Tryz.func36, Tryz.ntmps36
  go_wp2_with fail
  go_ret
  exact ⟨rfl, ((Below.refl _ _).alloc (Nat.le_refl _) _).alloc (by simp) _⟩


/-- The bytes from 1 on, as far as k, turned over. -/
def turnK (k : Nat) (l : List UInt8) : List UInt8 := l.mapIdx fun j c => if 1 ≤ j ∧ j < k then 255 - c else c
theorem turnK_len (k : Nat) (l : List UInt8) : (turnK k l).length = l.length := by unfold turnK; simp
theorem turnK_one (l : List UInt8) : turnK 1 l = l := by
  unfold turnK
  apply List.ext_getElem
  · simp
  · intro j h1 h2
    rw [List.getElem_mapIdx, if_neg (by omega)]
theorem turnK_next (k : Nat) (l : List UInt8) (hk : k < l.length) (h1 : 1 ≤ k) : (turnK k l).set k (255 - l[k]) = turnK (k + 1) l := by
  unfold turnK
  apply List.ext_getElem
  · simp
  · intro j h2 h3
    rw [List.getElem_set]
    by_cases e : k = j
    · subst e
      rw [if_pos rfl, List.getElem_mapIdx, if_pos (by omega)]
    · rw [if_neg e, List.getElem_mapIdx, List.getElem_mapIdx]
      by_cases c : 1 ≤ j ∧ j < k
      · rw [if_pos c, if_pos (by omega)]
      · rw [if_neg c, if_neg (by omega)]
theorem turnK_at (k : Nat) (l : List UInt8) (hk : k < l.length) : (turnK k l)[k]? = some l[k] := by
  unfold turnK
  rw [List.getElem?_mapIdx, List.getElem?_eq_getElem hk]
  simp
theorem turnK_all (c : UInt8) (r : List UInt8) : turnK (r.length + 1) (c :: r) = c :: r.map (255 - ·) := by
  unfold turnK
  apply List.ext_getElem
  · simp
  · intro j h1 h2
    rw [List.getElem_mapIdx]
    cases j with
    | zero => rfl
    | succ j =>
      rw [if_pos (by simp at h1; omega)]
      simp
def TuRel (w0 : World) (B g cap : Nat) (l : List UInt8) (i : Value) (wr : World) : Prop :=
  ∃ k : Nat, 1 ≤ k ∧ k ≤ l.length ∧ i = .int .i64 k ∧ OwnB wr B (.slice (some ⟨g, 0, none⟩) l.length cap) (turnK k l) ∧ Below B w0 wr
theorem TuRel.cell {wr : World} {B g cap k : Nat} {l : List UInt8} (h : OwnB wr B (.slice (some ⟨g, 0, none⟩) l.length cap) (turnK k l)) (hk : k < l.length) :
    wr.cell? ⟨g, k, none⟩ = some (.int .u8 l[k].toNat) ∧ wr.frozen? ⟨g, k, none⟩ = false := by
  have h1 : wr.ownsRow B 5 1 (.slice (some ⟨g, 0, none⟩) (turnK k l).length cap) (turnK k l).length (byV (turnK k l)) := by
    have := h.1
    rw [turnK_len] at this ⊢
    exact this
  refine ⟨?_, h1.frozenAt k⟩
  rw [h1.cellAt k (by rw [turnK_len]; omega)]
  unfold byV
  rw [List.getElem?_map, turnK_at k l hk]
  rfl
theorem TuRel.next {w0 wr : World} {B g cap k : Nat} {l : List UInt8} (h : OwnB wr B (.slice (some ⟨g, 0, none⟩) l.length cap) (turnK k l)) (hb : Below B w0 wr) (hk : k < l.length) (h1 : 1 ≤ k) (i : Value) (hi : i = .int .i64 ((k + 1 : Nat) : Int)) (y : Int) (hy : y = 255 - (l[k].toNat : Int)) :
    TuRel w0 B g cap l i (wr.setCell ⟨g, k, none⟩ (.int .u8 y)) := by
  have h2 : wr.ownsRow B 5 1 (.slice (some ⟨g, 0, none⟩) (turnK k l).length cap) (turnK k l).length (byV (turnK k l)) := by
    have := h.1
    rw [turnK_len] at this ⊢
    exact this
  have hg : B ≤ g := (h.1.lt g rfl).1
  obtain ⟨s1, s2⟩ := h2.stored k (.int .u8 y)
  have hy2 : y = ((255 - l[k] : UInt8).toNat : Int) := by
    rw [hy, UInt8.toNat_sub_of_le _ _ (by rw [UInt8.le_iff_toNat_le]; have := l[k].toNat_lt; simp; omega)]
    have := l[k].toNat_lt
    simp; omega
  have e : (byV (turnK k l)).set k (.int .u8 y) = byV (turnK (k + 1) l) := by
    rw [← turnK_next k l hk h1, hy2]
    unfold byV
    rw [List.map_set]
  rw [e] at s1
  refine ⟨k + 1, by omega, hk, hi, ⟨?_, Nat.le_trans h.2 s2.size⟩, hb.setCell hg _⟩
  rw [turnK_len] at s1 ⊢
  exact s1

set_option maxHeartbeats 1600000 in
theorem embedAbove_ok (kind : Nat) (hk64 : kind ≠ 64) (v : Val) (w : World) (h1 : v.cls = 96) (_ : v.rank ≤ 255) (hw : v.whole.length ≤ 10000000) (hf : v.frac.length ≤ 10000000) (he : -4611686018427387904 ≤ v.exp ∧ v.exp < 4611686018427387904) :
    Calls Tryz.prog 36 #[.int .u16 kind, valV v] w (RetBelow w (.string (bs (valE (kind == 64) v)))) := by
  have EV := Lib.hid (show valE (kind == 64) v = 96 :: sizeE (kind == 64) v by unfold valE; rw [if_pos h1, h1]; rfl)
  have HW := Lib.hid (show (bs v.whole).size ≤ 10000000 by rw [bs_size]; exact hw)
  have HF := Lib.hid (show (bs v.frac).size ≤ 10000000 by rw [bs_size]; exact hf)
  have HD := Lib.hid (show v.digits = (bs v.whole).data.toList ++ (bs v.frac).data.toList by rw [bs_list, bs_list]; rfl)
  unfold valV
  rw [h1]
  have HB := Lib.hid ((Below.refl w.heap.size w).alloc (Nat.le_refl _) (Obj.cells #[.int .u8 96, .int .i64 v.rank, .int .i64 v.exp, .string (bs v.whole), .string (bs v.frac)] 79))
  have HG : (w.alloc (Obj.cells #[.int .u8 96, .int .i64 v.rank, .int .i64 v.exp, .string (bs v.whole), .string (bs v.frac)] 79)).heap[w.heap.size]? = some (.cells #[.int .u8 96, .int .i64 v.rank, .int .i64 v.exp, .string (bs v.whole), .string (bs v.frac)] 79 (0, 0)) := heap_alloc_new w _
  have HGG := Lib.hid HG
  clear HG h1 hw hf
  generalize bs v.whole = W at *
  generalize bs v.frac = F at *
  have HC := Lib.hid (fun (w1 : World) (h : w1.heap[w.heap.size]? = some (.cells #[.int .u8 96, .int .i64 v.rank, .int .i64 v.exp, .string W, .string F] 79 (0, 0))) =>
    (⟨cell_of_row w1 w.heap.size 0 _ 79 (0, 0) h, cell_of_row w1 w.heap.size 1 _ 79 (0, 0) h, cell_of_row w1 w.heap.size 2 _ 79 (0, 0) h, cell_of_row w1 w.heap.size 3 _ 79 (0, 0) h, cell_of_row w1 w.heap.size 4 _ 79 (0, 0) h⟩ :
      w1.cell? ⟨w.heap.size, 0, none⟩ = some (.int .u8 96) ∧ w1.cell? ⟨w.heap.size, 1, none⟩ = some (.int .i64 v.rank) ∧ w1.cell? ⟨w.heap.size, 2, none⟩ = some (.int .i64 v.exp) ∧ w1.cell? ⟨w.heap.size, 3, none⟩ = some (.string W) ∧ w1.cell? ⟨w.heap.size, 4, none⟩ = some (.string F)))
  have hk : ((kind : Int) == 64) = false := by simp; omega
  obtain ⟨he1, he2⟩ := he
  obtain ⟨n, hn⟩ : ∃ n : Nat, v.exp + 4611686018427387904 = n := ⟨(v.exp + 4611686018427387904).toNat, by omega⟩
  have HN := Lib.hid hn
  have hn64 : (n : Int) < 9223372036854775808 := by omega
  go_enter Tryz.func36, Tryz.ntmps36
  go_wp2_with fail
  generalize w.alloc (Obj.cells #[.int .u8 96, .int .i64 v.rank, .int .i64 v.exp, .string W, .string F] 79) = w0 at *
  have HS := Lib.hid (lt_of_heap HGG.out)
  have C72 := Lib.hid (fun W1 => count_ok W F W1 (by have := HW.out; omega) (by have := HF.out; omega))
  have hbw : Below (w.heap.size + 1) w0 w0.drew := (Below.refl _ _).drew
  have hs1 : w.heap.size + 1 ≤ w0.heap.size := HS.out
  have hba : Below (w.heap.size + 1) w0 (w0.alloc (.cells #[.int .u8 96] 5)).drew := ((Below.refl _ _).alloc hs1 _).drew
  have SB := Lib.hid (fun (X : World) (h : Below (w.heap.size + 1) w0 X) => HC.out X ((h.block w.heap.size (by omega)).trans HGG.out))
  have SK := Lib.hid (fun (X : World) (h : Below (w.heap.size + 1) w0 X) => (⟨(SB.out X h).1, (SB.out X h).2.2.2.1, (SB.out X h).2.2.2.2⟩ : X.cell? ⟨w.heap.size, 0, none⟩ = some (.int .u8 96) ∧ X.cell? ⟨w.heap.size, 3, none⟩ = some (.string W) ∧ X.cell? ⟨w.heap.size, 4, none⟩ = some (.string F)))
  obtain ⟨g0, g1, g2, g3, g4⟩ := SB.out w0.drew hbw
  have hsum : IntKind.i64.wrap ((W.size : Int) + (F.size : Int) + 11) = (W.size : Int) + (F.size : Int) + 11 := by
    rw [IntWalk.i64_in _ (by have := HW.out; have := HF.out; omega)]
  go_region_held3 (fun w' => w'.cell? ⟨w.heap.size, 0, none⟩ = some (.int .u8 96) ∧ w'.cell? ⟨w.heap.size, 3, none⟩ = some (.string W) ∧ w'.cell? ⟨w.heap.size, 4, none⟩ = some (.string F))
    (first | exact SK.out _ b8 | exact SK.out _ b9 | exact SK.out _ b7 | exact SK.out _ (b7.alloc (by omega) _) | exact SK.out _ b5 | exact SK.out _ (b5.alloc (by omega) _) | exact SK.out _ hba | exact SK.out _ hbw | go_keep)
    ((first
      | (go_at_call 54; ((with_reducible refine (C72.out w0.drew).mono ?_); rintro e w5 ⟨rfl, hbb⟩; have b5 := hbw.trans (hbb.mono hs1); have hz5 : w.heap.size + 1 ≤ w5.heap.size := (by have h1 := b5.size; have h2 := HS.out; omega); obtain ⟨v7, w7, hm7, ho7, hb7⟩ := make_run w5 (w.heap.size + 1) hz5 (W.size + F.size + 11) (↑W.size + ↑F.size + 11) (by omega) (by have := HW.out; have := HF.out; omega); have b7 := b5.trans (hb7.mono hz5); have hz7 := ho7.2; obtain ⟨v9, w9, hm9, ho9, hb9⟩ := make_run (w5.alloc (.cells #[.int .u8 96] 5)) (w.heap.size + 1) (Nat.le_trans hz5 (by simp)) (W.size + F.size + 11) (↑W.size + ↑F.size + 11) (by omega) (by have := HW.out; have := HF.out; omega); have b9 := (b5.alloc hz5 (.cells #[.int .u8 96] 5)).trans (hb9.mono (Nat.le_trans hz5 (by simp))); have kb9 : w9.cell? ⟨w5.heap.size, 0, none⟩ = some (.int .u8 96) := (by rw [(bcell hb9).1 _ _ (by simp)]; simp)))
      | (go_at_call 54; ((with_reducible refine (C72.out ((w0.alloc (.cells #[.int .u8 96] 5)).drew)).mono ?_); rintro e w5 ⟨rfl, hbb⟩; have b5 := hba.trans (hbb.mono (Nat.le_trans hs1 (by simp))); have hz5 : w.heap.size + 1 ≤ w5.heap.size := (by have h1 := b5.size; have h2 := HS.out; omega); obtain ⟨v7, w7, hm7, ho7, hb7⟩ := make_run w5 (w.heap.size + 1) hz5 (W.size + F.size + 11) (↑W.size + ↑F.size + 11) (by omega) (by have := HW.out; have := HF.out; omega); have b7 := b5.trans (hb7.mono hz5); have hz7 := ho7.2; have kb9 : w7.cell? ⟨w0.heap.size, 0, none⟩ = some (.int .u8 96) := (by rw [(bcell hb7).1 _ _ (by have := hbb.size; simp at this; omega), (bcell hbb).1 _ _ (by simp)]; simp)))
      | (refine step_app rfl _ _ rfl (w.heap.size + 1) _ [] rfl (by first | assumption | exact OwnB.alloc (by assumption) _) _ 96 96 rfl rfl (by first | assumption | (simp; done)) (by simp) ?_; intro v8 w8 h8 hb8 hk8; have b8 : Below (w.heap.size + 1) w0 w8 := (by first | exact b9.trans hb8 | exact b7.trans hb8 | exact (b7.alloc (by omega) _).trans hb8))))
  all_goals
    have H8 := Lib.hid h8
    have HB8 := Lib.hid b8
    obtain ⟨e0, e1, e2, e3, e4⟩ := SB.out w8 HB8.out
    clear h8 b8 hbw hba hb8 hk8 g0 g1 g2 g3 g4
    go_wp2_with fail
    refine (appendCount_ok (w.heap.size + 1) v8 [96] n (by omega) w8 H8.out (by simp)).mono ?_
    rintro e wa ⟨va, rfl, p1, p2, p3⟩
    have P1 := Lib.hid p1
    have P2 := Lib.hid (HB8.out.trans p2)
    clear p1 p2 p3 e0 e1 e2 e3 e4 hn hn64
    obtain ⟨e0, e1, e2, e3, e4⟩ := SB.out wa P2.out
    go_wp2_with fail
    refine (digAppend_ok (w.heap.size + 1) va ([96] ++ beN 8 n) W F wa P1.out (by simp [beN_len]) (Nat.le_trans HW.out (by decide)) (Nat.le_trans HF.out (by decide))).mono ?_
    rintro e wb ⟨vb, rfl, p1, p2, p3⟩
    have Q1 := Lib.hid p1
    have Q2 := Lib.hid (P2.out.trans p2)
    have HLQ := Lib.hid (show ([96] ++ beN 8 n ++ (W.data.toList ++ F.data.toList)).length + ([0] : List UInt8).length ≤ 1099511627776 by have a1 := HW.out; have a2 := HF.out; simp [beN_len]; omega)
    clear p1 p2 p3 e0 e1 e2 e3 e4
    obtain ⟨e0, e1, e2, e3, e4⟩ := SB.out wb Q2.out
    go_wp2_with (at_builtin; refine wp_app rfl _ _ rfl (w.heap.size + 1) _ _ rfl Q1.out [0] _ rfl rfl HLQ.out ?_)
    intro vc wc p1 p2 p3
    have hback := p1.back (by simp)
    have R2 := Lib.hid (Q2.out.trans p2)
    clear p1 p2 p3 e0 e1 e2 e3 e4
    obtain ⟨e0, e1, e2, e3, e4⟩ := SB.out wc R2.out
    go_wp2_with fail
    go_ret
    refine ⟨?_, HB.out.trans (R2.out.mono (by omega))⟩
    have e : valE (kind == 64) v = 96 :: (beN 8 n ++ (W.data.toList ++ (F.data.toList ++ [0]))) := by
      have hk' : (kind == 64) = false := by simpa using hk64
      have hn' : (v.exp + 4611686018427387904).toNat = n := by have := HN.out; omega
      rw [EV.out]
      unfold sizeE
      rw [hk', hn', HD.out]
      simp
    rw [e]
    rfl
end
section
open Go.RowKit

set_option maxRecDepth 100000
set_option maxHeartbeats 1600000 in
theorem embedAboveH_ok (v : Val) (w : World) (h1 : v.cls = 96) (hr : v.rank ≤ 255) (hw : v.whole.length ≤ 10000000) (hf : v.frac.length ≤ 10000000) (he : -4611686018427387904 ≤ v.exp ∧ v.exp < 4611686018427387904) :
    Calls Tryz.prog 36 #[.int .u16 (64 : Nat), valV v] w (RetBelow w (.string (bs (valE true v)))) := by
  have EV := Lib.hid (show valE true v = 96 :: sizeE true v by unfold valE; rw [if_pos h1, h1]; rfl)
  have HW := Lib.hid (show (bs v.whole).size ≤ 10000000 by rw [bs_size]; exact hw)
  have HF := Lib.hid (show (bs v.frac).size ≤ 10000000 by rw [bs_size]; exact hf)
  have HD := Lib.hid (show v.digits = (bs v.whole).data.toList ++ (bs v.frac).data.toList by rw [bs_list, bs_list]; rfl)
  unfold valV
  rw [h1]
  have HB := Lib.hid ((Below.refl w.heap.size w).alloc (Nat.le_refl _) (Obj.cells #[.int .u8 96, .int .i64 v.rank, .int .i64 v.exp, .string (bs v.whole), .string (bs v.frac)] 79))
  have HG : (w.alloc (Obj.cells #[.int .u8 96, .int .i64 v.rank, .int .i64 v.exp, .string (bs v.whole), .string (bs v.frac)] 79)).heap[w.heap.size]? = some (.cells #[.int .u8 96, .int .i64 v.rank, .int .i64 v.exp, .string (bs v.whole), .string (bs v.frac)] 79 (0, 0)) := heap_alloc_new w _
  have HGG := Lib.hid HG
  clear HG h1 hw hf
  generalize bs v.whole = W at *
  generalize bs v.frac = F at *
  have HC := Lib.hid (fun (w1 : World) (h : w1.heap[w.heap.size]? = some (.cells #[.int .u8 96, .int .i64 v.rank, .int .i64 v.exp, .string W, .string F] 79 (0, 0))) =>
    (⟨cell_of_row w1 w.heap.size 0 _ 79 (0, 0) h, cell_of_row w1 w.heap.size 1 _ 79 (0, 0) h, cell_of_row w1 w.heap.size 2 _ 79 (0, 0) h, cell_of_row w1 w.heap.size 3 _ 79 (0, 0) h, cell_of_row w1 w.heap.size 4 _ 79 (0, 0) h⟩ :
      w1.cell? ⟨w.heap.size, 0, none⟩ = some (.int .u8 96) ∧ w1.cell? ⟨w.heap.size, 1, none⟩ = some (.int .i64 v.rank) ∧ w1.cell? ⟨w.heap.size, 2, none⟩ = some (.int .i64 v.exp) ∧ w1.cell? ⟨w.heap.size, 3, none⟩ = some (.string W) ∧ w1.cell? ⟨w.heap.size, 4, none⟩ = some (.string F)))
  have hr0 : (v.rank : Int) ≤ 255 := by omega
  obtain ⟨he1, he2⟩ := he
  obtain ⟨n, hn⟩ : ∃ n : Nat, v.exp + 4611686018427387904 = n := ⟨(v.exp + 4611686018427387904).toNat, by omega⟩
  have HN := Lib.hid hn
  have hn64 : (n : Int) < 9223372036854775808 := by omega
  go_enter Tryz.func36, Tryz.ntmps36
  go_wp2_with fail
  generalize w.alloc (Obj.cells #[.int .u8 96, .int .i64 v.rank, .int .i64 v.exp, .string W, .string F] 79) = w0 at *
  have HS := Lib.hid (lt_of_heap HGG.out)
  have C72 := Lib.hid (fun W1 => count_ok W F W1 (by have := HW.out; omega) (by have := HF.out; omega))
  have hbw : Below (w.heap.size + 1) w0 w0.drew := (Below.refl _ _).drew
  have hs1 : w.heap.size + 1 ≤ w0.heap.size := HS.out
  have hba : Below (w.heap.size + 1) w0 (w0.alloc (.cells #[.int .u8 96] 5)).drew := ((Below.refl _ _).alloc hs1 _).drew
  have SB := Lib.hid (fun (X : World) (h : Below (w.heap.size + 1) w0 X) => HC.out X ((h.block w.heap.size (by omega)).trans HGG.out))
  have SK := Lib.hid (fun (X : World) (h : Below (w.heap.size + 1) w0 X) => (⟨(SB.out X h).1, (SB.out X h).2.2.2.1, (SB.out X h).2.2.2.2⟩ : X.cell? ⟨w.heap.size, 0, none⟩ = some (.int .u8 96) ∧ X.cell? ⟨w.heap.size, 3, none⟩ = some (.string W) ∧ X.cell? ⟨w.heap.size, 4, none⟩ = some (.string F)))
  obtain ⟨g0, g1, g2, g3, g4⟩ := SB.out w0.drew hbw
  have hsum : IntKind.i64.wrap ((W.size : Int) + (F.size : Int) + 11) = (W.size : Int) + (F.size : Int) + 11 := by
    rw [IntWalk.i64_in _ (by have := HW.out; have := HF.out; omega)]
  go_region_held3 (fun w' => w'.cell? ⟨w.heap.size, 0, none⟩ = some (.int .u8 96) ∧ w'.cell? ⟨w.heap.size, 3, none⟩ = some (.string W) ∧ w'.cell? ⟨w.heap.size, 4, none⟩ = some (.string F))
    (first | exact SK.out _ b8 | exact SK.out _ b9 | exact SK.out _ b7 | exact SK.out _ (b7.alloc (by omega) _) | exact SK.out _ b5 | exact SK.out _ (b5.alloc (by omega) _) | exact SK.out _ hba | exact SK.out _ hbw | go_keep)
    ((first
      | (go_at_call 54; ((with_reducible refine (C72.out w0.drew).mono ?_); rintro e w5 ⟨rfl, hbb⟩; have b5 := hbw.trans (hbb.mono hs1); have hz5 : w.heap.size + 1 ≤ w5.heap.size := (by have h1 := b5.size; have h2 := HS.out; omega); obtain ⟨v7, w7, hm7, ho7, hb7⟩ := make_run w5 (w.heap.size + 1) hz5 (W.size + F.size + 11) (↑W.size + ↑F.size + 11) (by omega) (by have := HW.out; have := HF.out; omega); have b7 := b5.trans (hb7.mono hz5); have hz7 := ho7.2; obtain ⟨v9, w9, hm9, ho9, hb9⟩ := make_run (w5.alloc (.cells #[.int .u8 96] 5)) (w.heap.size + 1) (Nat.le_trans hz5 (by simp)) (W.size + F.size + 11) (↑W.size + ↑F.size + 11) (by omega) (by have := HW.out; have := HF.out; omega); have b9 := (b5.alloc hz5 (.cells #[.int .u8 96] 5)).trans (hb9.mono (Nat.le_trans hz5 (by simp))); have kb9 : w9.cell? ⟨w5.heap.size, 0, none⟩ = some (.int .u8 96) := (by rw [(bcell hb9).1 _ _ (by simp)]; simp)))
      | (go_at_call 54; ((with_reducible refine (C72.out ((w0.alloc (.cells #[.int .u8 96] 5)).drew)).mono ?_); rintro e w5 ⟨rfl, hbb⟩; have b5 := hba.trans (hbb.mono (Nat.le_trans hs1 (by simp))); have hz5 : w.heap.size + 1 ≤ w5.heap.size := (by have h1 := b5.size; have h2 := HS.out; omega); obtain ⟨v7, w7, hm7, ho7, hb7⟩ := make_run w5 (w.heap.size + 1) hz5 (W.size + F.size + 11) (↑W.size + ↑F.size + 11) (by omega) (by have := HW.out; have := HF.out; omega); have b7 := b5.trans (hb7.mono hz5); have hz7 := ho7.2; have kb9 : w7.cell? ⟨w0.heap.size, 0, none⟩ = some (.int .u8 96) := (by rw [(bcell hb7).1 _ _ (by have := hbb.size; simp at this; omega), (bcell hbb).1 _ _ (by simp)]; simp)))
      | (refine step_app rfl _ _ rfl (w.heap.size + 1) _ [] rfl (by first | assumption | exact OwnB.alloc (by assumption) _) _ 96 96 rfl rfl (by first | assumption | (simp; done)) (by simp) ?_; intro v8 w8 h8 hb8 hk8; have b8 : Below (w.heap.size + 1) w0 w8 := (by first | exact b9.trans hb8 | exact b7.trans hb8 | exact (b7.alloc (by omega) _).trans hb8))))
  all_goals
    have H8 := Lib.hid h8
    have HB8 := Lib.hid b8
    obtain ⟨e0, e1, e2, e3, e4⟩ := SB.out w8 HB8.out
    clear h8 b8 hbw hba hb8 hk8 g0 g1 g2 g3 g4
    go_wp2_with (at_builtin; refine wp_app rfl _ _ rfl (w.heap.size + 1) _ _ rfl H8.out [UInt8.ofNat v.rank] _ (by simp [byV]; omega) rfl (by simp) ?_)
    intro vr wr p1 p2 p3
    have H9 := Lib.hid p1
    have HB9 := Lib.hid (HB8.out.trans p2)
    clear p1 p2 p3 e0 e1 e2 e3 e4 hr0
    obtain ⟨e0, e1, e2, e3, e4⟩ := SB.out wr HB9.out
    go_wp2_with fail
    refine (appendCount_ok (w.heap.size + 1) vr [96, UInt8.ofNat v.rank] n (by omega) wr H9.out (by simp)).mono ?_
    rintro e wa ⟨va, rfl, p1, p2, p3⟩
    have P1 := Lib.hid p1
    have P2 := Lib.hid (HB9.out.trans p2)
    clear p1 p2 p3 e0 e1 e2 e3 e4 hn hn64
    obtain ⟨e0, e1, e2, e3, e4⟩ := SB.out wa P2.out
    go_wp2_with fail
    refine (digAppend_ok (w.heap.size + 1) va ([96, UInt8.ofNat v.rank] ++ beN 8 n) W F wa P1.out (by simp [beN_len]) (Nat.le_trans HW.out (by decide)) (Nat.le_trans HF.out (by decide))).mono ?_
    rintro e wb ⟨vb, rfl, p1, p2, p3⟩
    have Q1 := Lib.hid p1
    have Q2 := Lib.hid (P2.out.trans p2)
    have HLQ := Lib.hid (show ([96, UInt8.ofNat v.rank] ++ beN 8 n ++ (W.data.toList ++ F.data.toList)).length + ([0] : List UInt8).length ≤ 1099511627776 by have a1 := HW.out; have a2 := HF.out; simp [beN_len]; omega)
    clear p1 p2 p3 e0 e1 e2 e3 e4
    obtain ⟨e0, e1, e2, e3, e4⟩ := SB.out wb Q2.out
    go_wp2_with (at_builtin; refine wp_app rfl _ _ rfl (w.heap.size + 1) _ _ rfl Q1.out [0] _ rfl rfl HLQ.out ?_)
    intro vc wc p1 p2 p3
    have hback := p1.back (by simp)
    have R2 := Lib.hid (Q2.out.trans p2)
    clear p1 p2 p3 e0 e1 e2 e3 e4
    obtain ⟨e0, e1, e2, e3, e4⟩ := SB.out wc R2.out
    go_wp2_with fail
    go_ret
    refine ⟨?_, HB.out.trans (R2.out.mono (by omega))⟩
    have e : valE true v = 96 :: UInt8.ofNat v.rank :: (beN 8 n ++ (W.data.toList ++ (F.data.toList ++ [0]))) := by
      have hn' : (v.exp + 4611686018427387904).toNat = n := by have := HN.out; omega
      rw [EV.out]
      unfold sizeE
      rw [hn', HD.out]
      simp
    rw [e]
    rfl
end
section
open Go.RowKit

set_option maxRecDepth 100000
set_option maxHeartbeats 1600000 in
theorem embedBelow_ok (kind : Nat) (hk64 : kind ≠ 64) (v : Val) (w : World) (h1 : v.cls = 64) (_ : v.rank ≤ 255) (hw : v.whole.length ≤ 10000000) (hf : v.frac.length ≤ 10000000) (he : -4611686018427387904 ≤ v.exp ∧ v.exp < 4611686018427387904) :
    Calls Tryz.prog 36 #[.int .u16 kind, valV v] w (RetBelow w (.string (bs (valE (kind == 64) v)))) := by
  have EV := Lib.hid (show valE (kind == 64) v = 64 :: (sizeE (kind == 64) v).map (255 - ·) by unfold valE; rw [if_neg (by rw [h1]; decide), if_pos h1, h1]; rfl)
  have HW := Lib.hid (show (bs v.whole).size ≤ 10000000 by rw [bs_size]; exact hw)
  have HF := Lib.hid (show (bs v.frac).size ≤ 10000000 by rw [bs_size]; exact hf)
  have HD := Lib.hid (show v.digits = (bs v.whole).data.toList ++ (bs v.frac).data.toList by rw [bs_list, bs_list]; rfl)
  unfold valV
  rw [h1]
  have HB := Lib.hid ((Below.refl w.heap.size w).alloc (Nat.le_refl _) (Obj.cells #[.int .u8 64, .int .i64 v.rank, .int .i64 v.exp, .string (bs v.whole), .string (bs v.frac)] 79))
  have HG : (w.alloc (Obj.cells #[.int .u8 64, .int .i64 v.rank, .int .i64 v.exp, .string (bs v.whole), .string (bs v.frac)] 79)).heap[w.heap.size]? = some (.cells #[.int .u8 64, .int .i64 v.rank, .int .i64 v.exp, .string (bs v.whole), .string (bs v.frac)] 79 (0, 0)) := heap_alloc_new w _
  have HGG := Lib.hid HG
  clear HG h1 hw hf
  generalize bs v.whole = W at *
  generalize bs v.frac = F at *
  have HC := Lib.hid (fun (w1 : World) (h : w1.heap[w.heap.size]? = some (.cells #[.int .u8 64, .int .i64 v.rank, .int .i64 v.exp, .string W, .string F] 79 (0, 0))) =>
    (⟨cell_of_row w1 w.heap.size 0 _ 79 (0, 0) h, cell_of_row w1 w.heap.size 1 _ 79 (0, 0) h, cell_of_row w1 w.heap.size 2 _ 79 (0, 0) h, cell_of_row w1 w.heap.size 3 _ 79 (0, 0) h, cell_of_row w1 w.heap.size 4 _ 79 (0, 0) h⟩ :
      w1.cell? ⟨w.heap.size, 0, none⟩ = some (.int .u8 64) ∧ w1.cell? ⟨w.heap.size, 1, none⟩ = some (.int .i64 v.rank) ∧ w1.cell? ⟨w.heap.size, 2, none⟩ = some (.int .i64 v.exp) ∧ w1.cell? ⟨w.heap.size, 3, none⟩ = some (.string W) ∧ w1.cell? ⟨w.heap.size, 4, none⟩ = some (.string F)))
  have hk : ((kind : Int) == 64) = false := by simp; omega
  obtain ⟨he1, he2⟩ := he
  obtain ⟨n, hn⟩ : ∃ n : Nat, v.exp + 4611686018427387904 = n := ⟨(v.exp + 4611686018427387904).toNat, by omega⟩
  have HN := Lib.hid hn
  have hn64 : (n : Int) < 9223372036854775808 := by omega
  go_enter Tryz.func36, Tryz.ntmps36
  go_wp2_with fail
  generalize w.alloc (Obj.cells #[.int .u8 64, .int .i64 v.rank, .int .i64 v.exp, .string W, .string F] 79) = w0 at *
  have HS := Lib.hid (lt_of_heap HGG.out)
  have C72 := Lib.hid (fun W1 => count_ok W F W1 (by have := HW.out; omega) (by have := HF.out; omega))
  have hbw : Below (w.heap.size + 1) w0 w0.drew := (Below.refl _ _).drew
  have hs1 : w.heap.size + 1 ≤ w0.heap.size := HS.out
  have hba : Below (w.heap.size + 1) w0 (w0.alloc (.cells #[.int .u8 64] 5)).drew := ((Below.refl _ _).alloc hs1 _).drew
  have SB := Lib.hid (fun (X : World) (h : Below (w.heap.size + 1) w0 X) => HC.out X ((h.block w.heap.size (by omega)).trans HGG.out))
  have SK := Lib.hid (fun (X : World) (h : Below (w.heap.size + 1) w0 X) => (⟨(SB.out X h).1, (SB.out X h).2.2.2.1, (SB.out X h).2.2.2.2⟩ : X.cell? ⟨w.heap.size, 0, none⟩ = some (.int .u8 64) ∧ X.cell? ⟨w.heap.size, 3, none⟩ = some (.string W) ∧ X.cell? ⟨w.heap.size, 4, none⟩ = some (.string F)))
  obtain ⟨g0, g1, g2, g3, g4⟩ := SB.out w0.drew hbw
  have hsum : IntKind.i64.wrap ((W.size : Int) + (F.size : Int) + 11) = (W.size : Int) + (F.size : Int) + 11 := by
    rw [IntWalk.i64_in _ (by have := HW.out; have := HF.out; omega)]
  go_region_held3 (fun w' => w'.cell? ⟨w.heap.size, 0, none⟩ = some (.int .u8 64) ∧ w'.cell? ⟨w.heap.size, 3, none⟩ = some (.string W) ∧ w'.cell? ⟨w.heap.size, 4, none⟩ = some (.string F))
    (first | exact SK.out _ b8 | exact SK.out _ b9 | exact SK.out _ b7 | exact SK.out _ (b7.alloc (by omega) _) | exact SK.out _ b5 | exact SK.out _ (b5.alloc (by omega) _) | exact SK.out _ hba | exact SK.out _ hbw | go_keep)
    ((first
      | (go_at_call 54; ((with_reducible refine (C72.out w0.drew).mono ?_); rintro e w5 ⟨rfl, hbb⟩; have b5 := hbw.trans (hbb.mono hs1); have hz5 : w.heap.size + 1 ≤ w5.heap.size := (by have h1 := b5.size; have h2 := HS.out; omega); obtain ⟨v7, w7, hm7, ho7, hb7⟩ := make_run w5 (w.heap.size + 1) hz5 (W.size + F.size + 11) (↑W.size + ↑F.size + 11) (by omega) (by have := HW.out; have := HF.out; omega); have b7 := b5.trans (hb7.mono hz5); have hz7 := ho7.2; obtain ⟨v9, w9, hm9, ho9, hb9⟩ := make_run (w5.alloc (.cells #[.int .u8 64] 5)) (w.heap.size + 1) (Nat.le_trans hz5 (by simp)) (W.size + F.size + 11) (↑W.size + ↑F.size + 11) (by omega) (by have := HW.out; have := HF.out; omega); have b9 := (b5.alloc hz5 (.cells #[.int .u8 64] 5)).trans (hb9.mono (Nat.le_trans hz5 (by simp))); have kb9 : w9.cell? ⟨w5.heap.size, 0, none⟩ = some (.int .u8 64) := (by rw [(bcell hb9).1 _ _ (by simp)]; simp)))
      | (go_at_call 54; ((with_reducible refine (C72.out ((w0.alloc (.cells #[.int .u8 64] 5)).drew)).mono ?_); rintro e w5 ⟨rfl, hbb⟩; have b5 := hba.trans (hbb.mono (Nat.le_trans hs1 (by simp))); have hz5 : w.heap.size + 1 ≤ w5.heap.size := (by have h1 := b5.size; have h2 := HS.out; omega); obtain ⟨v7, w7, hm7, ho7, hb7⟩ := make_run w5 (w.heap.size + 1) hz5 (W.size + F.size + 11) (↑W.size + ↑F.size + 11) (by omega) (by have := HW.out; have := HF.out; omega); have b7 := b5.trans (hb7.mono hz5); have hz7 := ho7.2; have kb9 : w7.cell? ⟨w0.heap.size, 0, none⟩ = some (.int .u8 64) := (by rw [(bcell hb7).1 _ _ (by have := hbb.size; simp at this; omega), (bcell hbb).1 _ _ (by simp)]; simp)))
      | (refine step_app rfl _ _ rfl (w.heap.size + 1) _ [] rfl (by first | assumption | exact OwnB.alloc (by assumption) _) _ 64 64 rfl rfl (by first | assumption | (simp; done)) (by simp) ?_; intro v8 w8 h8 hb8 hk8; have b8 : Below (w.heap.size + 1) w0 w8 := (by first | exact b9.trans hb8 | exact b7.trans hb8 | exact (b7.alloc (by omega) _).trans hb8))))
  all_goals
    have H8 := Lib.hid h8
    have HB8 := Lib.hid b8
    obtain ⟨e0, e1, e2, e3, e4⟩ := SB.out w8 HB8.out
    clear h8 b8 hbw hba hb8 hk8 g0 g1 g2 g3 g4
    go_wp2_with fail
    refine (appendCount_ok (w.heap.size + 1) v8 [64] n (by omega) w8 H8.out (by simp)).mono ?_
    rintro e wa ⟨va, rfl, p1, p2, p3⟩
    have P1 := Lib.hid p1
    have P2 := Lib.hid (HB8.out.trans p2)
    clear p1 p2 p3 e0 e1 e2 e3 e4 hn hn64
    obtain ⟨e0, e1, e2, e3, e4⟩ := SB.out wa P2.out
    go_wp2_with fail
    refine (digAppend_ok (w.heap.size + 1) va ([64] ++ beN 8 n) W F wa P1.out (by simp [beN_len]) (Nat.le_trans HW.out (by decide)) (Nat.le_trans HF.out (by decide))).mono ?_
    rintro e wb ⟨vb, rfl, p1, p2, p3⟩
    have Q1 := Lib.hid p1
    have Q2 := Lib.hid (P2.out.trans p2)
    have HLQ := Lib.hid (show ([64] ++ beN 8 n ++ (W.data.toList ++ F.data.toList)).length + ([0] : List UInt8).length ≤ 1099511627776 by have a1 := HW.out; have a2 := HF.out; simp [beN_len]; omega)
    clear p1 p2 p3 e0 e1 e2 e3 e4
    obtain ⟨e0, e1, e2, e3, e4⟩ := SB.out wb Q2.out
    go_wp2_with (at_builtin; refine wp_app rfl _ _ rfl (w.heap.size + 1) _ _ rfl Q1.out [0] _ rfl rfl HLQ.out ?_)
    intro vc wc p1 p2 p3
    obtain ⟨L, hL⟩ : ∃ L, L = beN 8 n ++ (W.data.toList ++ (F.data.toList ++ [0])) := ⟨_, rfl⟩
    have EF := Lib.hid (show valE (kind == 64) v = 64 :: L.map (255 - ·) by
      have hk' : (kind == 64) = false := by simpa using hk64
      have hn' : (v.exp + 4611686018427387904).toNat = n := by have := HN.out; omega
      rw [EV.out, hL]
      unfold sizeE
      rw [hk', hn', HD.out]
      simp)
    have p1' : OwnB wc (w.heap.size + 1) vc (64 :: L) := by rw [hL]; simpa using p1
    obtain ⟨M, hM⟩ : ∃ M : List UInt8, M = 64 :: L := ⟨_, rfl⟩
    rw [← hM] at p1'
    have hlen : M.length = L.length + 1 := by rw [hM]; rfl
    obtain ⟨g, cap, rfl, hg1, hg2⟩ := p1'.1.form (by omega)
    have S1 := Lib.hid p1'
    have HLL := Lib.hid (show M.length ≤ 1000000000 by rw [hlen, hL]; have a1 := HW.out; have a2 := HF.out; simp [beN_len]; omega)
    have HMP := Lib.hid (show 1 ≤ M.length by omega)
    have R2 := Lib.hid (Q2.out.trans p2)
    have EM := Lib.hid (show bs (turnK M.length M) = bs (valE (kind == 64) v) by rw [EF.out, hlen, hM, turnK_all])
    clear p1 p1' p2 p3 e0 e1 e2 e3 e4 hL hg2 hM hlen
    obtain ⟨e0, e1, e2, e3, e4⟩ := SB.out wc R2.out
    go_wp2_with fail
    go_loopw [6] (fun i wq => TuRel w0 (w.heap.size + 1) g cap M i wq) (fun i _ => M.length - (intOf i).toNat)
    case atStart => exact ⟨1, by omega, HMP.out, rfl, by rw [turnK_one]; exact S1.out, R2.out⟩
    case round =>
      obtain ⟨k, hk1, hk2, rfl, ho, hb⟩ := hrel
      have HO := Lib.hid ho
      have HBB := Lib.hid hb
      clear ho hb
      have hML := HLL.out
      by_cases hlt : k < M.length
      · obtain ⟨x, hx, hby, c1, c2⟩ : ∃ x : Nat, x = M[k].toNat ∧ x < 256 ∧ wr.cell? ⟨g, k, none⟩ = some (.int .u8 (x : Int)) ∧ wr.frozen? ⟨g, k, none⟩ = false := ⟨_, rfl, M[k].toNat_lt, (TuRel.cell HO.out hlt).1, (TuRel.cell HO.out hlt).2⟩
        have HX := Lib.hid hx
        have HLT := Lib.hid hlt
        have HK1 := Lib.hid hk1
        clear hx
        go_wp2_with fail
        refine ⟨TuRel.next HO.out HBB.out HLT.out HK1.out _ rfl _ ?_, ?_⟩
        · rw [← HX.out]
        · have := HLT.out; simp [intOf]; omega
      · have hke : k = M.length := by omega
        subst hke
        have hback := HO.out.back (by intro h; have h1 := congrArg List.length h; rw [turnK_len] at h1; have h2 := HMP.out; have h3 : ([] : List UInt8).length = 0 := rfl; omega)
        rw [EM.out] at hback
        go_wp2_with fail
        go_ret
        exact ⟨rfl, HB.out.trans (HBB.out.mono (by omega))⟩
end
section
open Go.RowKit

set_option maxRecDepth 100000
set_option maxHeartbeats 1600000 in
theorem embedBelowH_ok (v : Val) (w : World) (h1 : v.cls = 64) (hr : v.rank ≤ 255) (hw : v.whole.length ≤ 10000000) (hf : v.frac.length ≤ 10000000) (he : -4611686018427387904 ≤ v.exp ∧ v.exp < 4611686018427387904) :
    Calls Tryz.prog 36 #[.int .u16 (64 : Nat), valV v] w (RetBelow w (.string (bs (valE true v)))) := by
  have EV := Lib.hid (show valE true v = 64 :: (sizeE true v).map (255 - ·) by unfold valE; rw [if_neg (by rw [h1]; decide), if_pos h1, h1]; rfl)
  have HW := Lib.hid (show (bs v.whole).size ≤ 10000000 by rw [bs_size]; exact hw)
  have HF := Lib.hid (show (bs v.frac).size ≤ 10000000 by rw [bs_size]; exact hf)
  have HD := Lib.hid (show v.digits = (bs v.whole).data.toList ++ (bs v.frac).data.toList by rw [bs_list, bs_list]; rfl)
  unfold valV
  rw [h1]
  have HB := Lib.hid ((Below.refl w.heap.size w).alloc (Nat.le_refl _) (Obj.cells #[.int .u8 64, .int .i64 v.rank, .int .i64 v.exp, .string (bs v.whole), .string (bs v.frac)] 79))
  have HG : (w.alloc (Obj.cells #[.int .u8 64, .int .i64 v.rank, .int .i64 v.exp, .string (bs v.whole), .string (bs v.frac)] 79)).heap[w.heap.size]? = some (.cells #[.int .u8 64, .int .i64 v.rank, .int .i64 v.exp, .string (bs v.whole), .string (bs v.frac)] 79 (0, 0)) := heap_alloc_new w _
  have HGG := Lib.hid HG
  clear HG h1 hw hf
  generalize bs v.whole = W at *
  generalize bs v.frac = F at *
  have HC := Lib.hid (fun (w1 : World) (h : w1.heap[w.heap.size]? = some (.cells #[.int .u8 64, .int .i64 v.rank, .int .i64 v.exp, .string W, .string F] 79 (0, 0))) =>
    (⟨cell_of_row w1 w.heap.size 0 _ 79 (0, 0) h, cell_of_row w1 w.heap.size 1 _ 79 (0, 0) h, cell_of_row w1 w.heap.size 2 _ 79 (0, 0) h, cell_of_row w1 w.heap.size 3 _ 79 (0, 0) h, cell_of_row w1 w.heap.size 4 _ 79 (0, 0) h⟩ :
      w1.cell? ⟨w.heap.size, 0, none⟩ = some (.int .u8 64) ∧ w1.cell? ⟨w.heap.size, 1, none⟩ = some (.int .i64 v.rank) ∧ w1.cell? ⟨w.heap.size, 2, none⟩ = some (.int .i64 v.exp) ∧ w1.cell? ⟨w.heap.size, 3, none⟩ = some (.string W) ∧ w1.cell? ⟨w.heap.size, 4, none⟩ = some (.string F)))
  have hr0 : (v.rank : Int) ≤ 255 := by omega
  obtain ⟨he1, he2⟩ := he
  obtain ⟨n, hn⟩ : ∃ n : Nat, v.exp + 4611686018427387904 = n := ⟨(v.exp + 4611686018427387904).toNat, by omega⟩
  have HN := Lib.hid hn
  have hn64 : (n : Int) < 9223372036854775808 := by omega
  go_enter Tryz.func36, Tryz.ntmps36
  go_wp2_with fail
  generalize w.alloc (Obj.cells #[.int .u8 64, .int .i64 v.rank, .int .i64 v.exp, .string W, .string F] 79) = w0 at *
  have HS := Lib.hid (lt_of_heap HGG.out)
  have C72 := Lib.hid (fun W1 => count_ok W F W1 (by have := HW.out; omega) (by have := HF.out; omega))
  have hbw : Below (w.heap.size + 1) w0 w0.drew := (Below.refl _ _).drew
  have hs1 : w.heap.size + 1 ≤ w0.heap.size := HS.out
  have hba : Below (w.heap.size + 1) w0 (w0.alloc (.cells #[.int .u8 64] 5)).drew := ((Below.refl _ _).alloc hs1 _).drew
  have SB := Lib.hid (fun (X : World) (h : Below (w.heap.size + 1) w0 X) => HC.out X ((h.block w.heap.size (by omega)).trans HGG.out))
  have SK := Lib.hid (fun (X : World) (h : Below (w.heap.size + 1) w0 X) => (⟨(SB.out X h).1, (SB.out X h).2.2.2.1, (SB.out X h).2.2.2.2⟩ : X.cell? ⟨w.heap.size, 0, none⟩ = some (.int .u8 64) ∧ X.cell? ⟨w.heap.size, 3, none⟩ = some (.string W) ∧ X.cell? ⟨w.heap.size, 4, none⟩ = some (.string F)))
  obtain ⟨g0, g1, g2, g3, g4⟩ := SB.out w0.drew hbw
  have hsum : IntKind.i64.wrap ((W.size : Int) + (F.size : Int) + 11) = (W.size : Int) + (F.size : Int) + 11 := by
    rw [IntWalk.i64_in _ (by have := HW.out; have := HF.out; omega)]
  go_region_held3 (fun w' => w'.cell? ⟨w.heap.size, 0, none⟩ = some (.int .u8 64) ∧ w'.cell? ⟨w.heap.size, 3, none⟩ = some (.string W) ∧ w'.cell? ⟨w.heap.size, 4, none⟩ = some (.string F))
    (first | exact SK.out _ b8 | exact SK.out _ b9 | exact SK.out _ b7 | exact SK.out _ (b7.alloc (by omega) _) | exact SK.out _ b5 | exact SK.out _ (b5.alloc (by omega) _) | exact SK.out _ hba | exact SK.out _ hbw | go_keep)
    ((first
      | (go_at_call 54; ((with_reducible refine (C72.out w0.drew).mono ?_); rintro e w5 ⟨rfl, hbb⟩; have b5 := hbw.trans (hbb.mono hs1); have hz5 : w.heap.size + 1 ≤ w5.heap.size := (by have h1 := b5.size; have h2 := HS.out; omega); obtain ⟨v7, w7, hm7, ho7, hb7⟩ := make_run w5 (w.heap.size + 1) hz5 (W.size + F.size + 11) (↑W.size + ↑F.size + 11) (by omega) (by have := HW.out; have := HF.out; omega); have b7 := b5.trans (hb7.mono hz5); have hz7 := ho7.2; obtain ⟨v9, w9, hm9, ho9, hb9⟩ := make_run (w5.alloc (.cells #[.int .u8 64] 5)) (w.heap.size + 1) (Nat.le_trans hz5 (by simp)) (W.size + F.size + 11) (↑W.size + ↑F.size + 11) (by omega) (by have := HW.out; have := HF.out; omega); have b9 := (b5.alloc hz5 (.cells #[.int .u8 64] 5)).trans (hb9.mono (Nat.le_trans hz5 (by simp))); have kb9 : w9.cell? ⟨w5.heap.size, 0, none⟩ = some (.int .u8 64) := (by rw [(bcell hb9).1 _ _ (by simp)]; simp)))
      | (go_at_call 54; ((with_reducible refine (C72.out ((w0.alloc (.cells #[.int .u8 64] 5)).drew)).mono ?_); rintro e w5 ⟨rfl, hbb⟩; have b5 := hba.trans (hbb.mono (Nat.le_trans hs1 (by simp))); have hz5 : w.heap.size + 1 ≤ w5.heap.size := (by have h1 := b5.size; have h2 := HS.out; omega); obtain ⟨v7, w7, hm7, ho7, hb7⟩ := make_run w5 (w.heap.size + 1) hz5 (W.size + F.size + 11) (↑W.size + ↑F.size + 11) (by omega) (by have := HW.out; have := HF.out; omega); have b7 := b5.trans (hb7.mono hz5); have hz7 := ho7.2; have kb9 : w7.cell? ⟨w0.heap.size, 0, none⟩ = some (.int .u8 64) := (by rw [(bcell hb7).1 _ _ (by have := hbb.size; simp at this; omega), (bcell hbb).1 _ _ (by simp)]; simp)))
      | (refine step_app rfl _ _ rfl (w.heap.size + 1) _ [] rfl (by first | assumption | exact OwnB.alloc (by assumption) _) _ 64 64 rfl rfl (by first | assumption | (simp; done)) (by simp) ?_; intro v8 w8 h8 hb8 hk8; have b8 : Below (w.heap.size + 1) w0 w8 := (by first | exact b9.trans hb8 | exact b7.trans hb8 | exact (b7.alloc (by omega) _).trans hb8))))
  all_goals
    have H8 := Lib.hid h8
    have HB8 := Lib.hid b8
    obtain ⟨e0, e1, e2, e3, e4⟩ := SB.out w8 HB8.out
    clear h8 b8 hbw hba hb8 hk8 g0 g1 g2 g3 g4
    go_wp2_with (at_builtin; refine wp_app rfl _ _ rfl (w.heap.size + 1) _ _ rfl H8.out [UInt8.ofNat v.rank] _ (by simp [byV]; omega) rfl (by simp) ?_)
    intro vr wr p1 p2 p3
    have H9 := Lib.hid p1
    have HB9 := Lib.hid (HB8.out.trans p2)
    clear p1 p2 p3 e0 e1 e2 e3 e4 hr0
    obtain ⟨e0, e1, e2, e3, e4⟩ := SB.out wr HB9.out
    go_wp2_with fail
    refine (appendCount_ok (w.heap.size + 1) vr [64, UInt8.ofNat v.rank] n (by omega) wr H9.out (by simp)).mono ?_
    rintro e wa ⟨va, rfl, p1, p2, p3⟩
    have P1 := Lib.hid p1
    have P2 := Lib.hid (HB9.out.trans p2)
    clear p1 p2 p3 e0 e1 e2 e3 e4 hn hn64
    obtain ⟨e0, e1, e2, e3, e4⟩ := SB.out wa P2.out
    go_wp2_with fail
    refine (digAppend_ok (w.heap.size + 1) va ([64, UInt8.ofNat v.rank] ++ beN 8 n) W F wa P1.out (by simp [beN_len]) (Nat.le_trans HW.out (by decide)) (Nat.le_trans HF.out (by decide))).mono ?_
    rintro e wb ⟨vb, rfl, p1, p2, p3⟩
    have Q1 := Lib.hid p1
    have Q2 := Lib.hid (P2.out.trans p2)
    have HLQ := Lib.hid (show ([64, UInt8.ofNat v.rank] ++ beN 8 n ++ (W.data.toList ++ F.data.toList)).length + ([0] : List UInt8).length ≤ 1099511627776 by have a1 := HW.out; have a2 := HF.out; simp [beN_len]; omega)
    clear p1 p2 p3 e0 e1 e2 e3 e4
    obtain ⟨e0, e1, e2, e3, e4⟩ := SB.out wb Q2.out
    go_wp2_with (at_builtin; refine wp_app rfl _ _ rfl (w.heap.size + 1) _ _ rfl Q1.out [0] _ rfl rfl HLQ.out ?_)
    intro vc wc p1 p2 p3
    obtain ⟨L, hL⟩ : ∃ L, L = UInt8.ofNat v.rank :: (beN 8 n ++ (W.data.toList ++ (F.data.toList ++ [0]))) := ⟨_, rfl⟩
    have EF := Lib.hid (show valE true v = 64 :: L.map (255 - ·) by
      have hn' : (v.exp + 4611686018427387904).toNat = n := by have := HN.out; omega
      rw [EV.out, hL]
      unfold sizeE
      rw [hn', HD.out]
      simp)
    have p1' : OwnB wc (w.heap.size + 1) vc (64 :: L) := by rw [hL]; simpa using p1
    obtain ⟨M, hM⟩ : ∃ M : List UInt8, M = 64 :: L := ⟨_, rfl⟩
    rw [← hM] at p1'
    have hlen : M.length = L.length + 1 := by rw [hM]; rfl
    obtain ⟨g, cap, rfl, hg1, hg2⟩ := p1'.1.form (by omega)
    have S1 := Lib.hid p1'
    have HLL := Lib.hid (show M.length ≤ 1000000000 by rw [hlen, hL]; have a1 := HW.out; have a2 := HF.out; simp [beN_len]; omega)
    have HMP := Lib.hid (show 1 ≤ M.length by omega)
    have R2 := Lib.hid (Q2.out.trans p2)
    have EM := Lib.hid (show bs (turnK M.length M) = bs (valE true v) by rw [EF.out, hlen, hM, turnK_all])
    clear p1 p1' p2 p3 e0 e1 e2 e3 e4 hL hg2 hM hlen
    obtain ⟨e0, e1, e2, e3, e4⟩ := SB.out wc R2.out
    go_wp2_with fail
    go_loopw [6] (fun i wq => TuRel w0 (w.heap.size + 1) g cap M i wq) (fun i _ => M.length - (intOf i).toNat)
    case atStart => exact ⟨1, by omega, HMP.out, rfl, by rw [turnK_one]; exact S1.out, R2.out⟩
    case round =>
      obtain ⟨k, hk1, hk2, rfl, ho, hb⟩ := hrel
      have HO := Lib.hid ho
      have HBB := Lib.hid hb
      clear ho hb
      have hML := HLL.out
      by_cases hlt : k < M.length
      · obtain ⟨x, hx, hby, c1, c2⟩ : ∃ x : Nat, x = M[k].toNat ∧ x < 256 ∧ wr.cell? ⟨g, k, none⟩ = some (.int .u8 (x : Int)) ∧ wr.frozen? ⟨g, k, none⟩ = false := ⟨_, rfl, M[k].toNat_lt, (TuRel.cell HO.out hlt).1, (TuRel.cell HO.out hlt).2⟩
        have HX := Lib.hid hx
        have HLT := Lib.hid hlt
        have HK1 := Lib.hid hk1
        clear hx
        go_wp2_with fail
        refine ⟨TuRel.next HO.out HBB.out HLT.out HK1.out _ rfl _ ?_, ?_⟩
        · rw [← HX.out]
        · have := HLT.out; simp [intOf]; omega
      · have hke : k = M.length := by omega
        subst hke
        have hback := HO.out.back (by intro h; have h1 := congrArg List.length h; rw [turnK_len] at h1; have h2 := HMP.out; have h3 : ([] : List UInt8).length = 0 := rfl; omega)
        rw [EM.out] at hback
        go_wp2_with fail
        go_ret
        exact ⟨rfl, HB.out.trans (HBB.out.mono (by omega))⟩
end
section
open Go.RowKit

theorem Tabs.base {w w' : World} {B : Nat} (h : Tabs w) (hB : 5 < B) (k : Below B w w') : Tabs w' := by
  obtain ⟨⟨t, fr, h0⟩, ⟨t1, fr1, h1⟩, ⟨t2, fr2, h2⟩, ⟨t4, fr4, h4⟩⟩ := h
  exact ⟨⟨t, fr, (k.block 0 (by omega)).trans h0⟩, ⟨t1, fr1, (k.block 3 (by omega)).trans h1⟩, ⟨t2, fr2, (k.block 4 (by omega)).trans h2⟩, ⟨t4, fr4, (k.block 5 (by omega)).trans h4⟩⟩
def rkB (c : UInt8) : UInt8 := UInt8.ofNat (rankB c)
theorem rkB_nat (c : UInt8) : ((rkB c).toNat : Int) = rankB c := by unfold rkB; rw [rankB_byte]
theorem take_one {s : ByteArray} {k : Nat} (h : k < s.size) : (s.data.toList.take (k + 1)).map rkB = (s.data.toList.take k).map rkB ++ [rkB s[k]] := by
  have hg : s.data.toList[k]? = some s[k] := by rw [Array.getElem?_toList]; exact Array.getElem?_eq_getElem h
  rw [List.take_add_one, hg, List.map_append]; rfl
def PrRel (w : World) (B : Nat) (l : List UInt8) (p : ByteArray) (v i : Value) (wr : World) : Prop :=
  ∃ k : Nat, k ≤ p.size ∧ i = .int .i64 k ∧ OwnB wr B v (l ++ (p.data.toList.take k).map rkB) ∧ Below B w wr ∧ KeepB w wr
theorem PrRel.next {w wr w1 : World} {B : Nat} {l : List UInt8} {p : ByteArray} {v1 : Value} (k : Nat) (hk : k < p.size) (i : Value) (hi : i = .int .i64 ((k + 1 : Nat) : Int)) (hb : Below B w wr) (hp : KeepB w wr)
    (h1 : OwnB w1 B v1 (l ++ (p.data.toList.take k).map rkB ++ [rkB p[k]])) (h2 : Below B wr w1) (h3 : KeepB wr w1) : PrRel w B l p v1 i w1 := by
  refine ⟨k + 1, hk, hi, ?_, hb.trans h2, hp.trans h3⟩
  rw [take_one hk, ← List.append_assoc]
  exact h1

set_option maxRecDepth 100000
set_option maxHeartbeats 3200000 in
theorem pairAppend_ok (B : Nat) (hB4 : 5 < B) (v : Value) (l : List UInt8) (p d : ByteArray) (w : World) (T : Tabs w) (hown : OwnB w B v l) (hl : l.length ≤ 1000000000) (hp : p.size ≤ 1000000000) (hd : d.size ≤ 1000000000) :
    Calls Tryz.prog 64 #[.agg #[.string p, .string d], v] w (RetOwn B w (l ++ ((p.data.toList.map rkB ++ [2]) ++ numsE d.data.toList))) := by
  have HO := Lib.hid (hown.alloc (Obj.cells #[Value.string p, Value.string d] 107))
  have HB := Lib.hid ((Below.refl B w).alloc hown.2 (Obj.cells #[Value.string p, Value.string d] 107))
  have HP := Lib.hid (KeepB.below (below_alloc w (Obj.cells #[Value.string p, Value.string d] 107)))
  have HG : (w.alloc (Obj.cells #[Value.string p, Value.string d] 107)).heap[w.heap.size]? = some (.cells #[Value.string p, Value.string d] 107 (0, 0)) := heap_alloc_new w _
  have HGG := Lib.hid HG
  have HT := Lib.hid (T.base hB4 HB.out)
  clear hown HG T
  have c0 : ∀ w1, KeepB (w.alloc (Obj.cells #[Value.string p, Value.string d] 107)) w1 → w1.cell? ⟨w.heap.size, 0, none⟩ = some (.string p) ∧ w1.cell? ⟨w.heap.size, 1, none⟩ = some (.string d) := fun w1 h =>
    ⟨by rw [cell_of_row w1 w.heap.size 0 _ 107 (0, 0) (h _ 107 _ (by decide) HGG.out)]; rfl, by rw [cell_of_row w1 w.heap.size 1 _ 107 (0, 0) (h _ 107 _ (by decide) HGG.out)]; rfl⟩
  have HC := Lib.hid c0
  clear c0
  go_enter Tryz.func64, Tryz.ntmps64
  go_wp2_with fail
  generalize w.alloc (Obj.cells #[Value.string p, Value.string d] 107) = w0 at *
  go_loopw [1, 10] (fun v i wr => PrRel w0 B l p v i wr) (fun _ i _ => p.size - (intOf i).toNat)
  case atStart => exact ⟨0, by omega, rfl, by simpa using HO.out, Below.refl _ _, KeepB.refl _⟩
  case round =>
    obtain ⟨k, hk, rfl, ho, hb, hk2⟩ := hrel
    have HL := Lib.hid (show (l ++ (p.data.toList.take k).map rkB).length ≤ 2000000000 by simp; omega)
    have HO1 := Lib.hid ho
    have HB1 := Lib.hid hb
    have HK1 := Lib.hid hk2
    clear ho hb hk2
    obtain ⟨e0, e1⟩ := HC.out wr HK1.out
    by_cases hlt : k < p.size
    · have t1 : decide (k < p.size) = true := by simpa using hlt
      go_wp2_with fail
      refine (rank_ok p[k] wr (HT.out.base hB4 HB1.out)).mono ?_
      rintro e w2 ⟨rfl, nq, rfl⟩
      have HO2 := Lib.hid (HO1.out.below (below_drewN wr nq))
      have HB2 := Lib.hid ((below_drewN wr nq).mono HO1.out.2)
      have HK2 := Lib.hid (KeepB.below (below_drewN wr nq))
      generalize wr.drewN nq = w3 at *
      go_wp2_with (at_builtin; refine wp_app rfl _ _ rfl B _ _ rfl HO2.out [rkB p[k]] _ ?c1x1 rfl ?c2x1 ?c3x1)
      case c1x1 => simp [byV, rkB_nat]
      case c2x1 => have := HL.out; simp at this ⊢; omega
      · intro v1 w1 h1 h2 h3
        have H1 := Lib.hid h1
        have H2 := Lib.hid (HB2.out.trans h2)
        have H3 := Lib.hid (HK2.out.trans h3)
        have HLT := Lib.hid hlt
        clear h1 h2 h3
        go_wp2_with fail
        exact ⟨PrRel.next k HLT.out _ rfl HB1.out HK1.out (by simpa using H1.out) H2.out H3.out, by have := HLT.out; simp [intOf]; omega⟩
    · have hks : k = p.size := by omega
      subst hks
      clear hlt hk
      have hfull : (p.data.toList.take p.size).map rkB = p.data.toList.map rkB := by rw [Lib.size_eq, List.take_length]
      rw [hfull] at HO1 HL
      clear hfull
      go_wp2_with (at_builtin; refine wp_app rfl _ _ rfl B _ _ rfl HO1.out [2] _ rfl rfl ?c2x2 ?c3x2)
      case c2x2 => have := HL.out; simp at this ⊢; omega
      · intro v1 w1 h1 h2 h3
        have H1 := Lib.hid h1
        have H2 := Lib.hid (HB1.out.trans h2)
        have H3 := Lib.hid (HK1.out.trans h3)
        clear h1 h2 h3 e0 e1
        obtain ⟨e0, e1⟩ := HC.out w1 H3.out
        have HL1 := Lib.hid (show (l ++ p.data.toList.map rkB ++ [2]).length ≤ 2000000001 by have := HL.out; simp at this ⊢; omega)
        by_cases hde : d.data.toList = []
        · have x1 : d.toList = [] := by rw [Lib.toList_data]; exact hde
          have x2 : d.toList.isEmpty = true := by rw [x1]; rfl
          have HDE := Lib.hid hde
          clear hde
          go_wp2_with (at_builtin; refine wp_app rfl _ _ rfl B _ _ rfl H1.out [0] _ rfl rfl ?c2x3 ?c3x3)
          case c2x3 => have := HL1.out; simp at this ⊢; omega
          · intro v2 w2 h4 h5 h6
            have H4 := Lib.hid h4
            have H5 := Lib.hid (H2.out.trans h5)
            have H6 := Lib.hid (H3.out.trans h6)
            clear h4 h5 h6
            go_wp2_with fail
            go_ret
            refine ⟨_, rfl, ?_, HB.out.trans H5.out, HP.out.trans H6.out⟩
            have e := H4.out
            unfold numsE
            rw [if_pos HDE.out]
            simpa using e
        · have x1 : ¬ d.toList = [] := by rw [Lib.toList_data]; exact hde
          have x2 : d.toList.isEmpty = false := by rw [Lib.toList_data]; cases hx : d.data.toList <;> simp_all
          have HDE := Lib.hid hde
          clear hde
          have hrow : w1.heap[w.heap.size]? = some (.cells #[Value.string p, Value.string d] 107 (0, 0)) := H3.out _ 107 _ (by decide) HGG.out
          have HROW := Lib.hid hrow
          clear hrow
          go_wp2_with fail
          refine (pairNumber_ok p d _).mono ?_
          rintro e w2 ⟨rfl, hb2⟩
          have H1' := Lib.hid (H1.out.below hb2)
          have H2' := Lib.hid (H2.out.trans (hb2.mono H1.out.2))
          have H3' := Lib.hid (H3.out.trans (KeepB.below hb2))
          clear hb2
          have hts : (bs (trimL d.data.toList)).size ≤ 1000000000 := by rw [bs_size]; have := trimL_le d.data.toList; rw [← Lib.size_eq] at this; omega
          have HTS := Lib.hid hts
          have HTL := Lib.hid (bs_list (trimL d.data.toList))
          have HTZ := Lib.hid (bs_size (trimL d.data.toList))
          clear hts
          generalize bs (trimL d.data.toList) = N at *
          go_wp2_with (at_builtin; refine wp_app rfl _ _ rfl B _ _ rfl H1'.out [1] _ rfl rfl ?c2x4 ?c3x4)
          case c2x4 => have := HL1.out; simp at this ⊢; omega
          · intro v3 w3 h4 h5 h6
            have H4 := Lib.hid h4
            have H5 := Lib.hid (H2'.out.trans h5)
            have H6 := Lib.hid (H3'.out.trans h6)
            have hnk : 0 ≤ (N.size : Int) ∧ (N.size : Int) < 18446744073709551616 := by have := HTS.out; omega
            clear h4 h5 h6
            go_wp2_with fail
            have HL2 := Lib.hid (show (l ++ p.data.toList.map rkB ++ [2] ++ [1]).length ≤ 1000000000 + 1000000000 + 2 by have := HL1.out; simp at this ⊢; omega)
            refine (appendCount_ok B _ _ N.size (by have := HTS.out; omega) w3 H4.out (by have := HL2.out; simp at this ⊢; omega)).mono ?_
            rintro e w4 ⟨v4, rfl, h7, h8, h9⟩
            have H7 := Lib.hid h7
            have H8 := Lib.hid (H5.out.trans h8)
            have H9 := Lib.hid (H6.out.trans h9)
            clear h7 h8 h9
            go_wp2_with (at_builtin; refine wp_apps rfl _ _ rfl B _ _ rfl H7.out N rfl ?k1 ?k2)
            case k1 => have h1 := HL2.out; have h2 := HTS.out; rw [List.length_append, beN8 _ (by omega), List.length_map, List.length_range]; simp at h1 ⊢; omega
            · intro v5 w5 h10 h11 h12
              have H10 := Lib.hid h10
              have H11 := Lib.hid (H8.out.trans h11)
              have H12 := Lib.hid (H9.out.trans h12)
              clear h10 h11 h12
              go_wp2_with fail
              go_ret
              refine ⟨_, rfl, ?_, HB.out.trans H11.out, HP.out.trans H12.out⟩
              have e := H10.out
              unfold numsE
              rw [if_neg HDE.out]
              rw [HTL.out, HTZ.out] at e
              simpa using e
end
section
open Go.RowKit

theorem verN_fuel : ∀ (n m : Nat) (l : List UInt8), l.length ≤ n → l.length ≤ m → verN n l = verN m l
  | 0, m, l, h, _ => by
    have : l = [] := List.eq_nil_of_length_eq_zero (by omega)
    subst this
    cases m <;> rfl
  | n + 1, 0, l, _, h => by
    have : l = [] := List.eq_nil_of_length_eq_zero (by omega)
    subst this
    rfl
  | n + 1, m + 1, l, h, k => by
    by_cases e : l = []
    · subst e; rfl
    · have := restOf_lt e
      simp only [verN, if_neg e]
      rw [verN_fuel n m (restOf l) (by omega) (by omega)]
def verL (l : List UInt8) : List UInt8 := verN l.length l
theorem verL_nil : verL [] = [2, 0] := rfl
theorem verL_cons {l : List UInt8} (h : l ≠ []) : verL l = pairE l ++ verL (restOf l) := by
  unfold verL
  obtain ⟨n, hn⟩ : ∃ n, l.length = n + 1 := ⟨l.length - 1, by have := List.length_pos_iff.2 h; omega⟩
  have := restOf_lt h
  rw [hn]
  simp only [verN, if_neg h]
  rw [verN_fuel n (restOf l).length (restOf l) (by omega) (Nat.le_refl _)]
theorem parts_len (l : List UInt8) : (plainOf l).length + (digsOf l).length + (restOf l).length = l.length := by
  unfold plainOf digsOf restOf
  have h1 := congrArg List.length (List.takeWhile_append_dropWhile (p := notDig) (l := l))
  have h2 := congrArg List.length (List.takeWhile_append_dropWhile (p := isDig) (l := l.dropWhile notDig))
  rw [List.length_append] at h1 h2
  omega
theorem pairE_len (l : List UInt8) (h : l ≠ []) : (pairE l).length + 11 * (restOf l).length ≤ 11 * l.length := by
  have h1 := parts_len l
  have h2 := restOf_lt h
  have h3 : (numsE (digsOf l)).length ≤ 9 + (digsOf l).length := by
    unfold numsE
    split
    · simp; omega
    · have := trimL_le (digsOf l)
      simp [beN_len]; omega
  unfold pairE
  simp
  omega
def VeRel (w : World) (l : List UInt8) (s v : Value) (wr : World) : Prop :=
  ∃ (x : ByteArray) (acc : List UInt8), s = .string x ∧ OwnB wr w.heap.size v acc ∧ acc.length + 11 * x.size ≤ 11 * l.length ∧ acc ++ verL x.data.toList = verL l ∧ Below w.heap.size w wr
def veLen : Value → Nat
  | .string a => a.size
  | _ => 0

set_option maxRecDepth 100000
set_option maxHeartbeats 1600000 in
theorem embedVersion_ok (s : ByteArray) (w : World) (hs : s.size ≤ 10000000) (T : Tabs w) : Calls Tryz.prog 39 #[.string s] w (RetBelow w (.string (bs (verN s.data.toList.length s.data.toList)))) := by
  have HT := Lib.hid T
  have h5 : 5 < w.heap.size := by obtain ⟨_, _, _, ⟨t4, fr4, h4⟩⟩ := T; exact lt_of_heap h4
  clear T
  have hsl : s.data.toList.length ≤ 10000000 := by rw [← Lib.size_eq]; exact hs
  have HSL := Lib.hid hsl
  clear hsl
  go_enter Tryz.func39, Tryz.ntmps39
  go_wp2_with (at_make; refine wp_make rfl _ _ rfl w.heap.size (Nat.le_refl _) _ _ _ (s.size + 4) rfl rfl ?c1x1 ?c2x1 ?_)
  case c1x1 => simp
  case c2x1 => omega
  intro v0 w0 g1 g2 _
  have G1 := Lib.hid g1
  have G2 := Lib.hid g2
  clear g1 g2
  go_wp2_with fail
  go_loopw [0, 3] (fun a v wr => VeRel w s.data.toList a v wr) (fun a _ _ => veLen a)
  case atStart => exact ⟨s, [], rfl, G1.out, by rw [← Lib.size_eq]; simp, rfl, G2.out⟩
  case round =>
    obtain ⟨x, acc, rfl, ho, hn, he, hb⟩ := hrel
    have HO := Lib.hid ho
    have HN := Lib.hid hn
    have HE := Lib.hid he
    have HB := Lib.hid hb
    clear ho hn he hb
    by_cases hxe : x.data.toList = []
    · have x1 : x.toList = [] := by rw [Lib.toList_data]; exact hxe
      have x2 : x.toList.isEmpty = true := by rw [x1]; rfl
      have E := Lib.hid (show acc ++ [2, 0] = verL s.data.toList by rw [← HE.out, hxe]; rfl)
      have HAC := Lib.hid (show acc.length ≤ 1000000000 by have := HN.out; have := HSL.out; omega)
      clear hxe
      go_wp2_with fail
      refine (pairAppend_ok w.heap.size h5 _ acc ⟨#[]⟩ ⟨#[]⟩ wr (HT.out.base h5 HB.out) HO.out HAC.out (by decide) (by decide)).mono ?_
      rintro e w1 ⟨v1, rfl, h1, h2, _⟩
      have hv : acc ++ (((⟨#[]⟩ : ByteArray).data.toList.map rkB ++ [2]) ++ numsE (⟨#[]⟩ : ByteArray).data.toList) = verL s.data.toList := E.out
      rw [hv] at h1
      have hback := h1.back (by rw [← E.out]; simp)
      have H2 := Lib.hid (HB.out.trans h2)
      clear h1 h2 hv
      go_wp2_with fail
      go_ret
      exact ⟨rfl, H2.out⟩
    · have x1 : ¬ x.toList = [] := by rw [Lib.toList_data]; exact hxe
      have x2 : x.toList.isEmpty = false := by rw [Lib.toList_data]; cases hx : x.data.toList <;> simp_all
      have hxs : x.size ≤ 1125899906842624 := by have := HN.out; have := HSL.out; omega
      have E := Lib.hid (verL_cons hxe)
      have HLEN := Lib.hid (pairE_len _ hxe)
      have HLT := Lib.hid (restOf_lt hxe)
      clear hxe
      go_wp2_with fail
      refine (cutPair_ok x _ hxs).mono ?_
      rintro e w1 ⟨rfl, hb1⟩
      have c1 : w1.cell? ⟨wr.heap.size, 0, none⟩ = some (.string ⟨#[]⟩) := by rw [(bcell hb1).1 _ _ (by simp)]; simp
      have c2 : w1.cell? ⟨wr.heap.size, 1, none⟩ = some (.string ⟨#[]⟩) := by rw [(bcell hb1).1 _ _ (by simp)]; simp
      have f1 : w1.frozen? ⟨wr.heap.size, 0, none⟩ = false := by rw [(bcell hb1).2 _ _ (by simp)]; simp
      have f2 : w1.frozen? ⟨wr.heap.size, 1, none⟩ = false := by rw [(bcell hb1).2 _ _ (by simp)]; simp
      have B1 := Lib.hid ((((Below.refl _ wr).alloc (Nat.le_refl _) (Obj.cells #[Value.string ⟨#[]⟩, Value.string ⟨#[]⟩] 107))).trans (hb1.mono (by simp)))
      clear hb1
      have HP1 := Lib.hid (bs_list (plainOf x.data.toList))
      have HD1 := Lib.hid (bs_list (digsOf x.data.toList))
      have HR1 := Lib.hid (bs_list (restOf x.data.toList))
      have hpl := parts_len x.data.toList
      rw [← Lib.size_eq] at hpl
      have s1 := Lib.hid (show (bs (plainOf x.data.toList)).size ≤ x.size by rw [bs_size]; omega)
      have s2 := Lib.hid (show (bs (digsOf x.data.toList)).size ≤ x.size by rw [bs_size]; omega)
      have s3 := Lib.hid (bs_size (restOf x.data.toList))
      clear hpl
      generalize bs (plainOf x.data.toList) = P1 at *
      generalize bs (digsOf x.data.toList) = D1 at *
      generalize bs (restOf x.data.toList) = R1 at *
      go_wp2_with fail
      have B2 := Lib.hid ((B1.out.setCell (p := ⟨wr.heap.size, 0, none⟩) (Nat.le_refl _) (.string P1)).setCell (p := ⟨wr.heap.size, 1, none⟩) (Nat.le_refl _) (.string D1))
      clear c1 c2 f1 f2 B1
      generalize (w1.setCell ⟨wr.heap.size, 0, none⟩ (.string P1)).setCell ⟨wr.heap.size, 1, none⟩ (.string D1) = w2 at *
      have B3 := Lib.hid (HB.out.trans (B2.out.mono HO.out.2))
      have hx10 : x.size ≤ 1000000000 := by have := HN.out; have := HSL.out; omega
      have hac : acc.length ≤ 1000000000 := by have := HN.out; have := HSL.out; omega
      refine (pairAppend_ok w.heap.size h5 _ acc P1 D1 w2 (HT.out.base h5 B3.out) (HO.out.below B2.out) hac (Nat.le_trans s1.out hx10) (Nat.le_trans s2.out hx10)).mono ?_
      rintro e w3 ⟨v3, rfl, h1, h2, _⟩
      have hpe : ((P1.data.toList.map rkB ++ [2]) ++ numsE D1.data.toList) = pairE x.data.toList := by rw [HP1.out, HD1.out]; rfl
      rw [hpe] at h1
      have H1 := Lib.hid h1
      have B4 := Lib.hid (B3.out.trans h2)
      have HREL := Lib.hid (show (acc ++ pairE x.data.toList) ++ verL R1.data.toList = verL s.data.toList by rw [HR1.out, List.append_assoc, ← E.out, HE.out])
      have HRLEN := Lib.hid (show (acc ++ pairE x.data.toList).length + 11 * R1.size ≤ 11 * s.data.toList.length by
        have a := HN.out; have b := HLEN.out; have c := s3.out; rw [← Lib.size_eq x] at b; rw [List.length_append]; omega)
      have HRLT := Lib.hid (show R1.size < x.size by have b := HLT.out; rw [← Lib.size_eq x] at b; have c := s3.out; omega)
      clear h1 h2 hpe hac hx10
      go_wp2_with fail
      go_roundw
      case rel => exact ⟨R1, _, rfl, H1.out, HRLEN.out, HREL.out, B4.out⟩
      case measure => exact HRLT.out
end
section
open Go.RowKit

theorem esc_take {s : ByteArray} {k : Nat} (h : k < s.size) : (s.data.toList.take (k + 1)).flatMap escB = (s.data.toList.take k).flatMap escB ++ escB s[k] := by
  have hg : s.data.toList[k]? = some s[k] := by rw [Array.getElem?_toList]; exact Array.getElem?_eq_getElem h
  rw [List.take_add_one, hg, List.flatMap_append]
  simp
theorem esc_len : ∀ l : List UInt8, (l.flatMap escB).length ≤ 2 * l.length
  | [] => by simp
  | c :: r => by
    have := esc_len r
    have h : (escB c).length ≤ 2 := by unfold escB; split <;> simp
    simp only [List.flatMap_cons, List.length_append, List.length_cons]
    omega
def EsRel (w : World) (s : ByteArray) (v i : Value) (wr : World) : Prop :=
  ∃ k : Nat, k ≤ s.size ∧ i = .int .i64 k ∧ OwnB wr w.heap.size v ((s.data.toList.take k).flatMap escB) ∧ Below w.heap.size w wr
theorem EsRel.next {w wr w1 : World} {s : ByteArray} {v1 : Value} (k : Nat) (hk : k < s.size) (i : Value) (hi : i = .int .i64 ((k + 1 : Nat) : Int)) (hb : Below w.heap.size w wr) (c : List UInt8) (hc : c = escB s[k])
    (h1 : OwnB w1 w.heap.size v1 ((s.data.toList.take k).flatMap escB ++ c)) (h2 : Below w.heap.size wr w1) : EsRel w s v1 i w1 := by
  refine ⟨k + 1, hk, hi, ?_, hb.trans h2⟩
  rw [esc_take hk, ← hc]
  exact h1

set_option maxRecDepth 100000
set_option maxHeartbeats 1600000 in
theorem embedBytes_ok (s : ByteArray) (w : World) (hs : s.size ≤ 1000000000) : Calls Tryz.prog 40 #[.string s] w (RetBelow w (.string (bs (escS s.data.toList)))) := by
  go_enter Tryz.func40, Tryz.ntmps40
  go_wp2_with (at_make; refine wp_make rfl _ _ rfl w.heap.size (Nat.le_refl _) _ _ _ (s.size + 1) rfl rfl ?c1x1 ?c2x1 ?_)
  case c1x1 => simp
  case c2x1 => omega
  intro v0 w0 g1 g2 _
  have G1 := Lib.hid g1
  have G2 := Lib.hid g2
  clear g1 g2
  go_wp2_with fail
  go_loopw [3, 11] (fun v i wr => EsRel w s v i wr) (fun _ i _ => s.size - (intOf i).toNat)
  case atStart => exact ⟨0, by omega, rfl, by simpa using G1.out, G2.out⟩
  case round =>
    obtain ⟨k, hk, rfl, ho, hb⟩ := hrel
    have HL := Lib.hid (show ((s.data.toList.take k).flatMap escB).length ≤ 2000000000 by
      have := esc_len (s.data.toList.take k); have h2 : (s.data.toList.take k).length ≤ s.size := by rw [Lib.size_eq]; exact List.length_take_le' _ _
      omega)
    have HO := Lib.hid ho
    have HB := Lib.hid hb
    clear ho hb
    by_cases hlt : k < s.size
    · have HLT := Lib.hid hlt
      have hb256 := s[k].toNat_lt
      by_cases hc : s[k].toNat ≤ 1
      · have t1 : decide ((s[k].toNat : Int) ≤ 1) = true := by simp; omega
        have HE := Lib.hid (show ([1, s[k] + 1] : List UInt8) = escB s[k] by unfold escB; rw [if_pos hc])
        go_wp2_with (at_builtin; refine wp_app rfl _ _ rfl w.heap.size _ _ rfl HO.out [1, s[k] + 1] _ ?c1x2 rfl ?c2x2 ?c3x2)
        case c1x2 => simp [byV]; omega
        case c2x2 => have := HL.out; simp only [List.length_cons, List.length_nil]; omega
        · intro v1 w1 h1 h2 _
          have H1 := Lib.hid h1
          have H2 := Lib.hid h2
          clear h1 h2
          go_wp2_with fail
          exact ⟨EsRel.next k HLT.out _ rfl HB.out _ HE.out H1.out H2.out, by have := HLT.out; simp [intOf]; omega⟩
      · have t1 : decide ((s[k].toNat : Int) ≤ 1) = false := by simp; omega
        have HE := Lib.hid (show ([s[k]] : List UInt8) = escB s[k] by unfold escB; rw [if_neg hc])
        go_wp2_with (at_builtin; refine wp_app rfl _ _ rfl w.heap.size _ _ rfl HO.out [s[k]] _ ?c1x3 rfl ?c2x3 ?c3x3)
        case c1x3 => simp [byV]; rfl
        case c2x3 => have := HL.out; simp only [List.length_cons, List.length_nil]; omega
        · intro v1 w1 h1 h2 _
          have H1 := Lib.hid h1
          have H2 := Lib.hid h2
          clear h1 h2
          go_wp2_with fail
          exact ⟨EsRel.next k HLT.out _ rfl HB.out _ HE.out H1.out H2.out, by have := HLT.out; simp [intOf]; omega⟩
    · have hks : k = s.size := by omega
      subst hks
      clear hlt hk
      go_wp2_with (at_builtin; refine wp_app rfl _ _ rfl w.heap.size _ _ rfl HO.out [0] _ rfl rfl ?c2x4 ?c3x4)
      case c2x4 => have := HL.out; simp only [List.length_cons, List.length_nil]; omega
      · intro v1 w1 h1 h2 _
        have hback := h1.back (by simp)
        have H2 := Lib.hid (HB.out.trans h2)
        clear h1 h2
        go_wp2_with fail
        go_ret
        refine ⟨?_, H2.out⟩
        rw [Lib.size_eq, List.take_length]
        rfl
end
section
open Go.RowKit

theorem embedValue_ok (kind : Nat) (v : Val) (n : Nat) (hn : n ≤ 10000000) (w : World) (f : ValFull (kind == 64) n v) :
    Calls Tryz.prog 36 #[.int .u16 kind, valV v] w (RetBelow w (.string (bs (valE (kind == 64) v)))) := by
  have o := f.ok
  have hw := Nat.le_trans f.whole hn
  have hf := Nat.le_trans f.frac hn
  rcases f.cls with c | c | ⟨c1, c2⟩
  · by_cases hk : kind = 64
    · subst hk
      exact embedAboveH_ok v w c o.rank hw hf ⟨o.explo, o.exphi⟩
    · exact embedAbove_ok kind hk v w c o.rank hw hf ⟨o.explo, o.exphi⟩
  · by_cases hk : kind = 64
    · subst hk
      exact embedBelowH_ok v w c o.rank hw hf ⟨o.explo, o.exphi⟩
    · exact embedBelow_ok kind hk v w c o.rank hw hf ⟨o.explo, o.exphi⟩
  · have e : valE (kind == 64) v = [UInt8.ofNat v.cls] := by unfold valE; rw [if_neg c1, if_neg c2]
    rw [e]
    exact embedOther_ok kind v w c1 c2 o.cls

theorem monthIn_le : ∀ (ws : List (List UInt8)) (l : List UInt8) (n : Nat), monthIn l n ws ≤ n + ws.length
  | [], _, n => by simp [monthIn]
  | w :: r, l, n => by
    unfold monthIn
    split
    · simp
    · have := monthIn_le r l (n + 1)
      simp; omega
theorem monthS_le (l : List UInt8) : monthS l ≤ 12 := by
  have := monthIn_le mNames (l.dropWhile isBlank) 0
  unfold monthS
  have e : mNames.length = 12 := rfl
  omega

set_option maxRecDepth 100000
set_option maxHeartbeats 1600000 in
theorem embed_ok (kind : Nat) (s : ByteArray) (w : World) (hs : s.size ≤ 10000000) (T : Tabs w) :
    Calls Tryz.prog 21 #[.int .u16 kind, .string s] w (RetBelow w (.string (bs (embS kind s.data.toList)))) := by
  have HT := Lib.hid T
  clear T
  have k16 : ((kind : Int) == 16) = decide (kind = 16) := by rw [Bool.eq_iff_iff, beq_iff_eq, decide_eq_true_iff]; omega
  have k32 : ((kind : Int) == 32) = decide (kind = 32) := by rw [Bool.eq_iff_iff, beq_iff_eq, decide_eq_true_iff]; omega
  have k64 : ((kind : Int) == 64) = decide (kind = 64) := by rw [Bool.eq_iff_iff, beq_iff_eq, decide_eq_true_iff]; omega
  have k128 : ((kind : Int) == 128) = decide (kind = 128) := by rw [Bool.eq_iff_iff, beq_iff_eq, decide_eq_true_iff]; omega
  have k256 : ((kind : Int) == 256) = decide (kind = 256) := by rw [Bool.eq_iff_iff, beq_iff_eq, decide_eq_true_iff]; omega
  have tt : ∀ p : Prop, [Decidable p] → p → decide p = true := fun p _ h => decide_eq_true h
  have ff : ∀ p : Prop, [Decidable p] → ¬ p → decide p = false := fun p _ h => decide_eq_false h
  by_cases hn : kind = 16 ∨ kind = 32 ∨ kind = 64
  · have E := Lib.hid (show embS kind s.data.toList = valE (kind == 64) (valS kind s.data.toList) by unfold embS; rw [if_pos hn])
    have V1 := Lib.hid (fun (W : World) (hT : Tabs W) => valueOf_ok kind s W (by omega) hT)
    have V2 := Lib.hid (fun W : World => embedValue_ok kind (valS kind s.data.toList) s.size hs W (valS_full kind s hs))
    rw [E.out]
    clear E
    generalize bs (valE (kind == 64) (valS kind s.data.toList)) = R at *
    generalize valS kind s.data.toList = x at *
    rcases hn with h | h | h
    · rw [tt _ h] at k16
      clear k32 k64 k128 k256 tt ff h
      go_enter Tryz.func21, Tryz.ntmps21
      go_wp2_with fail
      refine (V1.out _ HT.out).mono ?_
      rintro e w1 ⟨rfl, hb1⟩
      have B1 := Lib.hid hb1
      clear hb1
      go_wp2_with fail
      refine (V2.out _).mono ?_
      rintro e w2 ⟨rfl, hb2⟩
      have B2 := Lib.hid (B1.out.trans (hb2.mono B1.out.size))
      clear hb2
      go_wp2_with fail
      go_ret
      exact ⟨rfl, B2.out⟩
    · have n16 : ¬ kind = 16 := by omega
      rw [ff _ n16] at k16
      rw [tt _ h] at k32
      clear k64 k128 k256 tt ff h n16
      go_enter Tryz.func21, Tryz.ntmps21
      go_wp2_with fail
      refine (V1.out _ HT.out).mono ?_
      rintro e w1 ⟨rfl, hb1⟩
      have B1 := Lib.hid hb1
      clear hb1
      go_wp2_with fail
      refine (V2.out _).mono ?_
      rintro e w2 ⟨rfl, hb2⟩
      have B2 := Lib.hid (B1.out.trans (hb2.mono B1.out.size))
      clear hb2
      go_wp2_with fail
      go_ret
      exact ⟨rfl, B2.out⟩
    · have n16 : ¬ kind = 16 := by omega
      have n32 : ¬ kind = 32 := by omega
      rw [ff _ n16] at k16
      rw [ff _ n32] at k32
      rw [tt _ h] at k64
      clear k128 k256 tt ff h n16 n32
      go_enter Tryz.func21, Tryz.ntmps21
      go_wp2_with fail
      refine (V1.out _ HT.out).mono ?_
      rintro e w1 ⟨rfl, hb1⟩
      have B1 := Lib.hid hb1
      clear hb1
      go_wp2_with fail
      refine (V2.out _).mono ?_
      rintro e w2 ⟨rfl, hb2⟩
      have B2 := Lib.hid (B1.out.trans (hb2.mono B1.out.size))
      clear hb2
      go_wp2_with fail
      go_ret
      exact ⟨rfl, B2.out⟩
  · have n16 : ¬ kind = 16 := fun h => hn (Or.inl h)
    have n32 : ¬ kind = 32 := fun h => hn (Or.inr (Or.inl h))
    have n64 : ¬ kind = 64 := fun h => hn (Or.inr (Or.inr h))
    rw [ff _ n16] at k16
    rw [ff _ n32] at k32
    rw [ff _ n64] at k64
    by_cases h128 : kind = 128
    · have E := Lib.hid (show embS kind s.data.toList = [UInt8.ofNat (monthS s.data.toList)] by unfold embS; rw [if_neg hn, if_pos h128])
      rw [tt _ h128] at k128
      clear k256 tt ff n16 n32 n64 hn h128
      have hsm : s.size ≤ maxLen := Nat.le_trans hs (by decide)
      have hml := monthS_le s.data.toList
      have M := Lib.hid (fun (W : World) (hT : Tabs W) => month_ok s W hsm hT)
      rw [E.out]
      clear E hsm
      generalize monthS s.data.toList = m at *
      go_enter Tryz.func21, Tryz.ntmps21
      go_wp2_with fail
      refine (M.out w HT.out).mono ?_
      rintro e w1 ⟨rfl, hb1⟩
      have B1 := Lib.hid hb1
      clear hb1
      have hback := dig_back w1 (m : Int) (by omega)
      have hmn : ((m : Int)).toNat = m := Int.toNat_natCast m
      rw [hmn] at hback
      clear hmn
      have hm2 : (m : Int) ≤ 12 := by omega
      go_wp2_with fail
      go_ret
      exact ⟨rfl, B1.out.alloc B1.out.size _⟩
    · rw [ff _ h128] at k128
      by_cases h256 : kind = 256
      · have E := Lib.hid (show embS kind s.data.toList = verN s.data.toList.length s.data.toList by unfold embS; rw [if_neg hn, if_neg h128, if_pos h256])
        rw [tt _ h256] at k256
        clear tt ff n16 n32 n64 hn h128 h256
        rw [E.out]
        go_enter Tryz.func21, Tryz.ntmps21
        go_wp2_with fail
        refine (embedVersion_ok s w hs HT.out).mono ?_
        rintro e w1 ⟨rfl, hb1⟩
        have B1 := Lib.hid hb1
        clear hb1
        go_wp2_with fail
        go_ret
        exact ⟨rfl, B1.out⟩
      · have E := Lib.hid (show embS kind s.data.toList = escS s.data.toList by unfold embS; rw [if_neg hn, if_neg h128, if_neg h256])
        rw [ff _ h256] at k256
        clear tt ff n16 n32 n64 hn h128 h256
        rw [E.out]
        go_enter Tryz.func21, Tryz.ntmps21
        go_wp2_with fail
        refine (embedBytes_ok s w (by omega)).mono ?_
        rintro e w1 ⟨rfl, hb1⟩
        have B1 := Lib.hid hb1
        clear hb1
        go_wp2_with fail
        go_ret
        exact ⟨rfl, B1.out⟩
end
end Go.Proofs.YtnpnccjeapejdaaGreatDoor.Num
