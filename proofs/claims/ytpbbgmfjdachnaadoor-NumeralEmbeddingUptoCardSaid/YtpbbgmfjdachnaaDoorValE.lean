/- numeral's embedValue. -/
import Derived.Test.YtpbbgmfjdachnaaDoorCnt
import Derived.Test.YtpbbgmfjdachnaaDoorValueOf
import Derived.Deep.RegionHeld3
import Derived.IntWalk
namespace Go.Proofs.YtpbbgmfjdachnaaDoor
open Go.RowKit

theorem make_run (w : World) (B : Nat) (hB : B ≤ w.heap.size) (n : Nat) (C : Int) (hC : C = (n : Int)) (hn : n ≤ 1099511627776) :
    ∃ v' w', (Instr.makeSlice 23 (.int .i64 0) (.int .i64 C)).run Tryd.prog w = .ok v' w' ∧ OwnB w' B v' [] ∧ Below w.heap.size w w' := by
  obtain ⟨i0, hi, hz0, hz1, hz2⟩ := info_parts info5
  subst hC
  obtain ⟨w', hrun, r1, r2⟩ := run_make_own (P := Tryd.prog) (w := w) B 23 5 i0 (.int .u8 0) 1 Tryd.underlying23 hi hz0 hz1 .i64 .i64 n (by rw [hz2]; omega) (by unfold maxLen; omega) hB
  exact ⟨_, w', hrun, ⟨r1, Nat.le_trans hB r2.size⟩, ⟨r2.os, r2.tape, r2.output, r2.size, fun k hk => r2.block k hk (by simp)⟩⟩
theorem step_app {ops : Array Oper} {o : Oper} {a : Act} {w : World} {K : Act → World → Prop} {Q : Exit → Act → World → Prop} {E : Prop} (hgd : o.guard = none) (s x : Operand)
    (ho : o.op = .call { callee := .builtin .append, args := #[s, x], argTypes := #[23, 23] })
    (B : Nat) (v : Value) (l : List UInt8) (hs : a.eval s = v) (hown : OwnB w B v l) (ad : Addr) (c : UInt8) (y : Int) (hy : y = (c.toNat : Int))
    (hx : a.eval x = .slice (some ad) 1 1) (hcell : w.cell? ad = some (.int .u8 y)) (hlen : l.length ≤ 1099511627776)
    (h : ∀ v' w', OwnB w' B v' (l ++ [c]) → Below B w w' → KeepB w w' → K (a.put o.dst v') w') :
    if Region.wanted o (yielded ops a.tmps) = true then Oper.wp Tryd.prog o a w K Q else E := by
  have hw : Region.wanted o (yielded ops a.tmps) = true := by simp [Region.wanted, hgd]
  rw [if_pos hw]
  obtain ⟨i0, hi, hz0, hz1, hz2⟩ := info_parts info5
  subst hy
  have hB := hown.2
  refine wp_append_own w s x 23 ho B 5 i0 (.int .u8 0) 1 1 Tryd.underlying23 hi hz0 hz1 hz2 rfl (by decide) v l.length (byV l) hs hown.1 ad 1 1 [.int .u8 c.toNat] hx rfl ?_ ?_ ?_ ?_ hB ?_
  · intro j u hj
    match j, hj with
    | 0, hj => simp at hj; subst hj; simpa [Addr.add] using hcell
  · intro u hu; simp at hu; subst hu; rfl
  · unfold maxLen; omega
  · omega
  · intro v' w' h1 h2 _
    refine h v' w' ⟨?_, Nat.le_trans hB h2.size⟩ (hown.grown h2) (hown.keeps h2)
    rw [List.length_append, byV_app]; exact h1

theorem beN_len : ∀ n m, (beN n m).length = n
  | 0, _ => rfl
  | n + 1, m => by simp [beN, beN_len n]
/-- The box of a value. -/
def boxV (v : Val) : Array Value := #[.int .u8 v.cls, .int .i64 v.rank, .int .i64 v.exp, .string (bs v.whole), .string (bs v.frac)]

set_option maxRecDepth 100000
set_option maxHeartbeats 1600000 in
theorem embedOther_ok (kind : Nat) (v : Val) (w : World) (h1 : v.cls ≠ 96) (h2 : v.cls ≠ 64) (hc : v.cls ≤ 255) :
    Calls Tryd.prog 46 #[.int .u16 kind, valV v] w (RetBelow w (.string (bs [UInt8.ofNat v.cls]))) := by
  have t1 : ((v.cls : Int) != 64) = true := by rw [bne_iff_ne]; omega
  have t2 : ((v.cls : Int) != 96) = true := by rw [bne_iff_ne]; omega
  unfold valV
  have hback := dig_back (w.alloc (.cells #[.int .u8 v.cls, .int .i64 v.rank, .int .i64 v.exp, .string (bs v.whole), .string (bs v.frac)] 65)) (v.cls : Int) (by omega)
  have hn : ((v.cls : Int)).toNat = v.cls := Int.toNat_natCast _
  rw [hn, show (w.alloc (.cells #[.int .u8 v.cls, .int .i64 v.rank, .int .i64 v.exp, .string (bs v.whole), .string (bs v.frac)] 65)).heap.size = w.heap.size + 1 by simp] at hback
  clear hn h1 h2
  generalize v.cls = c at *
  generalize v.rank = r at *
  generalize bs v.whole = W at *
  generalize bs v.frac = F at *
  go_enter Tryd.func46, Tryd.ntmps46
  go_wp2_with fail
  go_ret
  exact ⟨rfl, ((Below.refl _ _).alloc (Nat.le_refl _) _).alloc (by simp) _⟩


/-- The bytes from 1 on, as far as k, turned over. -/
def turnK (k : Nat) (l : List UInt8) : List UInt8 := l.mapIdx fun j c => if 1 ≤ j ∧ j < k then 255 - c else c
theorem turnK_len (k : Nat) (l : List UInt8) : (turnK k l).length = l.length := by unfold turnK; simp
theorem turnK_one (l : List UInt8) : turnK 1 l = l := by
  unfold turnK
  apply List.ext_getElem
  · simp
  · intro j h1 h2
    rw [List.getElem_mapIdx, if_neg (by omega)]
theorem turnK_next (k : Nat) (l : List UInt8) (hk : k < l.length) (h1 : 1 ≤ k) : (turnK k l).set k (255 - l[k]) = turnK (k + 1) l := by
  unfold turnK
  apply List.ext_getElem
  · simp
  · intro j h2 h3
    rw [List.getElem_set]
    by_cases e : k = j
    · subst e
      rw [if_pos rfl, List.getElem_mapIdx, if_pos (by omega)]
    · rw [if_neg e, List.getElem_mapIdx, List.getElem_mapIdx]
      by_cases c : 1 ≤ j ∧ j < k
      · rw [if_pos c, if_pos (by omega)]
      · rw [if_neg c, if_neg (by omega)]
theorem turnK_at (k : Nat) (l : List UInt8) (hk : k < l.length) : (turnK k l)[k]? = some l[k] := by
  unfold turnK
  rw [List.getElem?_mapIdx, List.getElem?_eq_getElem hk]
  simp
theorem turnK_all (c : UInt8) (r : List UInt8) : turnK (r.length + 1) (c :: r) = c :: r.map (255 - ·) := by
  unfold turnK
  apply List.ext_getElem
  · simp
  · intro j h1 h2
    rw [List.getElem_mapIdx]
    cases j with
    | zero => rfl
    | succ j =>
      rw [if_pos (by simp at h1; omega)]
      simp
def TuRel (w0 : World) (B g cap : Nat) (l : List UInt8) (i : Value) (wr : World) : Prop :=
  ∃ k : Nat, 1 ≤ k ∧ k ≤ l.length ∧ i = .int .i64 k ∧ OwnB wr B (.slice (some ⟨g, 0, none⟩) l.length cap) (turnK k l) ∧ Below B w0 wr
theorem TuRel.cell {wr : World} {B g cap k : Nat} {l : List UInt8} (h : OwnB wr B (.slice (some ⟨g, 0, none⟩) l.length cap) (turnK k l)) (hk : k < l.length) :
    wr.cell? ⟨g, k, none⟩ = some (.int .u8 l[k].toNat) ∧ wr.frozen? ⟨g, k, none⟩ = false := by
  have h1 : wr.ownsRow B 5 1 (.slice (some ⟨g, 0, none⟩) (turnK k l).length cap) (turnK k l).length (byV (turnK k l)) := by
    have := h.1
    rw [turnK_len] at this ⊢
    exact this
  refine ⟨?_, h1.frozenAt k⟩
  rw [h1.cellAt k (by rw [turnK_len]; omega)]
  unfold byV
  rw [List.getElem?_map, turnK_at k l hk]
  rfl
theorem TuRel.next {w0 wr : World} {B g cap k : Nat} {l : List UInt8} (h : OwnB wr B (.slice (some ⟨g, 0, none⟩) l.length cap) (turnK k l)) (hb : Below B w0 wr) (hk : k < l.length) (h1 : 1 ≤ k) (i : Value) (hi : i = .int .i64 ((k + 1 : Nat) : Int)) (y : Int) (hy : y = 255 - (l[k].toNat : Int)) :
    TuRel w0 B g cap l i (wr.setCell ⟨g, k, none⟩ (.int .u8 y)) := by
  have h2 : wr.ownsRow B 5 1 (.slice (some ⟨g, 0, none⟩) (turnK k l).length cap) (turnK k l).length (byV (turnK k l)) := by
    have := h.1
    rw [turnK_len] at this ⊢
    exact this
  have hg : B ≤ g := (h.1.lt g rfl).1
  obtain ⟨s1, s2⟩ := h2.stored k (.int .u8 y)
  have hy2 : y = ((255 - l[k] : UInt8).toNat : Int) := by
    rw [hy, UInt8.toNat_sub_of_le _ _ (by rw [UInt8.le_iff_toNat_le]; have := l[k].toNat_lt; simp; omega)]
    have := l[k].toNat_lt
    simp; omega
  have e : (byV (turnK k l)).set k (.int .u8 y) = byV (turnK (k + 1) l) := by
    rw [← turnK_next k l hk h1, hy2]
    unfold byV
    rw [List.map_set]
  rw [e] at s1
  refine ⟨k + 1, by omega, hk, hi, ⟨?_, Nat.le_trans h.2 s2.size⟩, hb.setCell hg _⟩
  rw [turnK_len] at s1 ⊢
  exact s1

set_option maxHeartbeats 1600000 in
theorem embedAbove_ok (kind : Nat) (hk64 : kind ≠ 64) (v : Val) (w : World) (h1 : v.cls = 96) (_ : v.rank ≤ 255) (hw : v.whole.length ≤ 10000000) (hf : v.frac.length ≤ 10000000) (he : -4611686018427387904 ≤ v.exp ∧ v.exp < 4611686018427387904) :
    Calls Tryd.prog 46 #[.int .u16 kind, valV v] w (RetBelow w (.string (bs (valE (kind == 64) v)))) := by
  have EV := Lib.hid (show valE (kind == 64) v = 96 :: sizeE (kind == 64) v by unfold valE; rw [if_pos h1, h1]; rfl)
  have HW := Lib.hid (show (bs v.whole).size ≤ 10000000 by rw [bs_size]; exact hw)
  have HF := Lib.hid (show (bs v.frac).size ≤ 10000000 by rw [bs_size]; exact hf)
  have HD := Lib.hid (show v.digits = (bs v.whole).data.toList ++ (bs v.frac).data.toList by rw [bs_list, bs_list]; rfl)
  unfold valV
  rw [h1]
  have HB := Lib.hid ((Below.refl w.heap.size w).alloc (Nat.le_refl _) (Obj.cells #[.int .u8 96, .int .i64 v.rank, .int .i64 v.exp, .string (bs v.whole), .string (bs v.frac)] 65))
  have HG : (w.alloc (Obj.cells #[.int .u8 96, .int .i64 v.rank, .int .i64 v.exp, .string (bs v.whole), .string (bs v.frac)] 65)).heap[w.heap.size]? = some (.cells #[.int .u8 96, .int .i64 v.rank, .int .i64 v.exp, .string (bs v.whole), .string (bs v.frac)] 65 (0, 0)) := heap_alloc_new w _
  have HGG := Lib.hid HG
  clear HG h1 hw hf
  generalize bs v.whole = W at *
  generalize bs v.frac = F at *
  have HC := Lib.hid (fun (w1 : World) (h : w1.heap[w.heap.size]? = some (.cells #[.int .u8 96, .int .i64 v.rank, .int .i64 v.exp, .string W, .string F] 65 (0, 0))) =>
    (⟨cell_of_row w1 w.heap.size 0 _ 65 (0, 0) h, cell_of_row w1 w.heap.size 1 _ 65 (0, 0) h, cell_of_row w1 w.heap.size 2 _ 65 (0, 0) h, cell_of_row w1 w.heap.size 3 _ 65 (0, 0) h, cell_of_row w1 w.heap.size 4 _ 65 (0, 0) h⟩ :
      w1.cell? ⟨w.heap.size, 0, none⟩ = some (.int .u8 96) ∧ w1.cell? ⟨w.heap.size, 1, none⟩ = some (.int .i64 v.rank) ∧ w1.cell? ⟨w.heap.size, 2, none⟩ = some (.int .i64 v.exp) ∧ w1.cell? ⟨w.heap.size, 3, none⟩ = some (.string W) ∧ w1.cell? ⟨w.heap.size, 4, none⟩ = some (.string F)))
  have hk : ((kind : Int) == 64) = false := by simp; omega
  obtain ⟨he1, he2⟩ := he
  obtain ⟨n, hn⟩ : ∃ n : Nat, v.exp + 4611686018427387904 = n := ⟨(v.exp + 4611686018427387904).toNat, by omega⟩
  have HN := Lib.hid hn
  have hn64 : (n : Int) < 9223372036854775808 := by omega
  go_enter Tryd.func46, Tryd.ntmps46
  go_wp2_with fail
  generalize w.alloc (Obj.cells #[.int .u8 96, .int .i64 v.rank, .int .i64 v.exp, .string W, .string F] 65) = w0 at *
  have HS := Lib.hid (lt_of_heap HGG.out)
  have C72 := Lib.hid (fun W1 => count_ok W F W1 (by have := HW.out; omega) (by have := HF.out; omega))
  have hbw : Below (w.heap.size + 1) w0 w0.drew := (Below.refl _ _).drew
  have hs1 : w.heap.size + 1 ≤ w0.heap.size := HS.out
  have hba : Below (w.heap.size + 1) w0 (w0.alloc (.cells #[.int .u8 96] 5)).drew := ((Below.refl _ _).alloc hs1 _).drew
  have SB := Lib.hid (fun (X : World) (h : Below (w.heap.size + 1) w0 X) => HC.out X ((h.block w.heap.size (by omega)).trans HGG.out))
  have SK := Lib.hid (fun (X : World) (h : Below (w.heap.size + 1) w0 X) => (⟨(SB.out X h).1, (SB.out X h).2.2.2.1, (SB.out X h).2.2.2.2⟩ : X.cell? ⟨w.heap.size, 0, none⟩ = some (.int .u8 96) ∧ X.cell? ⟨w.heap.size, 3, none⟩ = some (.string W) ∧ X.cell? ⟨w.heap.size, 4, none⟩ = some (.string F)))
  obtain ⟨g0, g1, g2, g3, g4⟩ := SB.out w0.drew hbw
  have hsum : IntKind.i64.wrap ((W.size : Int) + (F.size : Int) + 11) = (W.size : Int) + (F.size : Int) + 11 := by
    rw [IntWalk.i64_in _ (by have := HW.out; have := HF.out; omega)]
  go_region_held3 (fun w' => w'.cell? ⟨w.heap.size, 0, none⟩ = some (.int .u8 96) ∧ w'.cell? ⟨w.heap.size, 3, none⟩ = some (.string W) ∧ w'.cell? ⟨w.heap.size, 4, none⟩ = some (.string F))
    (first | exact SK.out _ b8 | exact SK.out _ b9 | exact SK.out _ b7 | exact SK.out _ (b7.alloc (by omega) _) | exact SK.out _ b5 | exact SK.out _ (b5.alloc (by omega) _) | exact SK.out _ hba | exact SK.out _ hbw | go_keep)
    ((first
      | (go_at_call 72; ((with_reducible refine (C72.out w0.drew).mono ?_); rintro e w5 ⟨rfl, hbb⟩; have b5 := hbw.trans (hbb.mono hs1); have hz5 : w.heap.size + 1 ≤ w5.heap.size := (by have h1 := b5.size; have h2 := HS.out; omega); obtain ⟨v7, w7, hm7, ho7, hb7⟩ := make_run w5 (w.heap.size + 1) hz5 (W.size + F.size + 11) (↑W.size + ↑F.size + 11) (by omega) (by have := HW.out; have := HF.out; omega); have b7 := b5.trans (hb7.mono hz5); have hz7 := ho7.2; obtain ⟨v9, w9, hm9, ho9, hb9⟩ := make_run (w5.alloc (.cells #[.int .u8 96] 5)) (w.heap.size + 1) (Nat.le_trans hz5 (by simp)) (W.size + F.size + 11) (↑W.size + ↑F.size + 11) (by omega) (by have := HW.out; have := HF.out; omega); have b9 := (b5.alloc hz5 (.cells #[.int .u8 96] 5)).trans (hb9.mono (Nat.le_trans hz5 (by simp))); have kb9 : w9.cell? ⟨w5.heap.size, 0, none⟩ = some (.int .u8 96) := (by rw [(bcell hb9).1 _ _ (by simp)]; simp)))
      | (go_at_call 72; ((with_reducible refine (C72.out ((w0.alloc (.cells #[.int .u8 96] 5)).drew)).mono ?_); rintro e w5 ⟨rfl, hbb⟩; have b5 := hba.trans (hbb.mono (Nat.le_trans hs1 (by simp))); have hz5 : w.heap.size + 1 ≤ w5.heap.size := (by have h1 := b5.size; have h2 := HS.out; omega); obtain ⟨v7, w7, hm7, ho7, hb7⟩ := make_run w5 (w.heap.size + 1) hz5 (W.size + F.size + 11) (↑W.size + ↑F.size + 11) (by omega) (by have := HW.out; have := HF.out; omega); have b7 := b5.trans (hb7.mono hz5); have hz7 := ho7.2; have kb9 : w7.cell? ⟨w0.heap.size, 0, none⟩ = some (.int .u8 96) := (by rw [(bcell hb7).1 _ _ (by have := hbb.size; simp at this; omega), (bcell hbb).1 _ _ (by simp)]; simp)))
      | (refine step_app rfl _ _ rfl (w.heap.size + 1) _ [] rfl (by first | assumption | exact OwnB.alloc (by assumption) _) _ 96 96 rfl rfl (by first | assumption | (simp; done)) (by simp) ?_; intro v8 w8 h8 hb8 hk8; have b8 : Below (w.heap.size + 1) w0 w8 := (by first | exact b9.trans hb8 | exact b7.trans hb8 | exact (b7.alloc (by omega) _).trans hb8))))
  all_goals
    have H8 := Lib.hid h8
    have HB8 := Lib.hid b8
    obtain ⟨e0, e1, e2, e3, e4⟩ := SB.out w8 HB8.out
    clear h8 b8 hbw hba hb8 hk8 g0 g1 g2 g3 g4
    go_wp2_with fail
    refine (appendCount_ok (w.heap.size + 1) v8 [96] n (by omega) w8 H8.out (by simp)).mono ?_
    rintro e wa ⟨va, rfl, p1, p2, p3⟩
    have P1 := Lib.hid p1
    have P2 := Lib.hid (HB8.out.trans p2)
    clear p1 p2 p3 e0 e1 e2 e3 e4 hn hn64
    obtain ⟨e0, e1, e2, e3, e4⟩ := SB.out wa P2.out
    go_wp2_with fail
    refine (digAppend_ok (w.heap.size + 1) va ([96] ++ beN 8 n) W F wa P1.out (by simp [beN_len]) (Nat.le_trans HW.out (by decide)) (Nat.le_trans HF.out (by decide))).mono ?_
    rintro e wb ⟨vb, rfl, p1, p2, p3⟩
    have Q1 := Lib.hid p1
    have Q2 := Lib.hid (P2.out.trans p2)
    have HLQ := Lib.hid (show ([96] ++ beN 8 n ++ (W.data.toList ++ F.data.toList)).length + ([0] : List UInt8).length ≤ 1099511627776 by have a1 := HW.out; have a2 := HF.out; simp [beN_len]; omega)
    clear p1 p2 p3 e0 e1 e2 e3 e4
    obtain ⟨e0, e1, e2, e3, e4⟩ := SB.out wb Q2.out
    go_wp2_with (at_builtin; refine wp_app rfl _ _ rfl (w.heap.size + 1) _ _ rfl Q1.out [0] _ rfl rfl HLQ.out ?_)
    intro vc wc p1 p2 p3
    have hback := p1.back (by simp)
    have R2 := Lib.hid (Q2.out.trans p2)
    clear p1 p2 p3 e0 e1 e2 e3 e4
    obtain ⟨e0, e1, e2, e3, e4⟩ := SB.out wc R2.out
    go_wp2_with fail
    go_ret
    refine ⟨?_, HB.out.trans (R2.out.mono (by omega))⟩
    have e : valE (kind == 64) v = 96 :: (beN 8 n ++ (W.data.toList ++ (F.data.toList ++ [0]))) := by
      have hk' : (kind == 64) = false := by simpa using hk64
      have hn' : (v.exp + 4611686018427387904).toNat = n := by have := HN.out; omega
      rw [EV.out]
      unfold sizeE
      rw [hk', hn', HD.out]
      simp
    rw [e]
    rfl
end Go.Proofs.YtpbbgmfjdachnaaDoor
