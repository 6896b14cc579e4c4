/- What counts of a text (Fq: next 48, turn 49), rows of bytes of the call's own (Bz), what counts of a text as a row (Fr: apply 34). -/
import Derived.Test.YtnpnccjeapejdaaGreatDoorFi
import Derived.Test.YtnpnccjeapejdaaGreatDoorTabc
import Derived.Deep.QuietTactic
import Derived.BigQuiet
import Derived.Deep.Cut
import Derived.Test.YtnpnccjeapejdaaGreatDoorBase
import Derived.Lib.AppendStr
import Derived.Laws.OwnMore
import Derived.Laws.AppendOwnNone
import Derived.Laws.IdiomStrings
import Derived.Laws.BytesArg
import Derived.Test.YtnpnccjeapejdaaGreatDoorKx
namespace Go.Proofs.YtnpnccjeapejdaaGreatDoor
section
open Go.RowKit
set_option maxRecDepth 100000

def cntN (lets n : Nat) : Bool :=
  if lets = 2 then (n == 9 || n == 32 || (decide (48 ≤ n) && decide (n ≤ 57)) || (decide (65 ≤ n) && decide (n ≤ 90)) || (decide (97 ≤ n) && decide (n ≤ 122)))
  else if lets = 4 then decide (32 ≤ n) && decide (n ≤ 126) else true
/-- Does a byte count? -/
def cntB (lets : Nat) (c : UInt8) : Bool := cntN lets c.toNat
/-- What it counts as. -/
def turnB (fold : Bool) (c : UInt8) : UInt8 := if fold = true ∧ 97 ≤ c.toNat ∧ c.toNat ≤ 122 then UInt8.ofNat (c.toNat - 32) else c
/-- Where the next one stands that counts, from i on. -/
def nxC (lets : Nat) (l : List UInt8) (i : Nat) : Nat := i + ((l.drop i).takeWhile (fun c => !cntB lets c)).length
theorem nx_le (lets : Nat) (l : List UInt8) {i : Nat} (h : i ≤ l.length) : nxC lets l i ≤ l.length := by
  unfold nxC
  have := (List.takeWhile_sublist (l := l.drop i) (fun c => !cntB lets c)).length_le
  rw [List.length_drop] at this
  omega
theorem nx_end (lets : Nat) (l : List UInt8) {i : Nat} (h : i = l.length) : nxC lets l i = i := by
  unfold nxC; rw [List.drop_eq_nil_of_le (by omega)]; rfl
theorem nx_yes {lets : Nat} {l : List UInt8} {i : Nat} (h : i < l.length) (hc : cntB lets l[i] = true) : nxC lets l i = i := by
  unfold nxC; rw [List.drop_eq_getElem_cons h, List.takeWhile_cons, hc]; rfl
theorem nx_no {lets : Nat} {l : List UInt8} {i : Nat} (h : i < l.length) (hc : cntB lets l[i] = false) : nxC lets l i = nxC lets l (i + 1) := by
  unfold nxC; rw [List.drop_eq_getElem_cons h, List.takeWhile_cons, hc]; simp; omega
theorem nx_zero (l : List UInt8) {i : Nat} (h : i ≤ l.length) : nxC 0 l i = i := by
  by_cases e : i < l.length
  · exact nx_yes e rfl
  · exact nx_end 0 l (by omega)
theorem cls2 : ∀ n : Fin 256, (bits BinOp.and IntKind.u8 ((clsL.getD n.val 0 : Nat) : Int) 2 == 0) = !cntN 2 n.val := by decide +kernel
theorem cls4 : ∀ n : Fin 256, (bits BinOp.and IntKind.u8 ((clsL.getD n.val 0 : Nat) : Int) 4 == 0) = !cntN 4 n.val := by decide +kernel
theorem cls8 : ∀ n : Fin 256, (bits BinOp.and IntKind.u8 ((clsL.getD n.val 0 : Nat) : Int) 8 != 0) = (decide (97 ≤ n.val) && decide (n.val ≤ 122)) := by decide +kernel
theorem cls_any {w : World} (T : Tabs w) (c : UInt8) : w.cell? ⟨2, c.toNat, none⟩ = some (.int .u8 ((clsL.getD c.toNat 0 : Nat) : Int)) := by
  obtain ⟨t, fr, h⟩ := T
  have hc : c.toNat < 256 := c.toNat_lt
  rw [cell_of_row w 2 c.toNat cClasses t fr h]
  have hl : clsL.length = 256 := by decide +kernel
  have hg : clsL[c.toNat]? = some (clsL.getD c.toNat 0) := by
    rw [List.getD_eq_getElem?_getD, List.getElem?_eq_getElem (by omega)]; rfl
  unfold cClasses
  rw [List.getElem?_toArray, List.getElem?_map, hg]
  rfl
def NxRel (w : World) (lets : Nat) (fold : Bool) (s : ByteArray) (i0 : Nat) (i : Value) (wr : World) : Prop :=
  ∃ k : Nat, k ≤ s.size ∧ i = .int .i64 k ∧ nxC lets s.data.toList k = nxC lets s.data.toList i0 ∧ CellsAt wr w.heap.size [.int .u8 (lets : Int), .bool fold] ∧ Below w.heap.size w wr
set_option maxHeartbeats 1600000 in
theorem next0_ok (fold : Bool) (s : ByteArray) (i : Nat) (hi : i ≤ s.size) (w : World) : Calls Tryz.prog 52 #[.agg #[.int .u8 0, .bool fold], .string s, .int .i64 i] w (RetBk w (.int .i64 ((nxC 0 s.data.toList i : Nat) : Int))) := by
  have E := Lib.hid (nx_zero s.data.toList (i := i) (by rw [← Lib.size_eq]; exact hi))
  have B0 := Lib.hid ((Below.refl w.heap.size w).alloc (Nat.le_refl _) (Obj.cells #[.int .u8 0, .bool fold] 57))
  have A0 := Lib.hid (CellsAt.new w [.int .u8 0, .bool fold] 57)
  have HI := Lib.hid hi
  clear hi
  go_enter Tryz.func52, Tryz.ntmps52
  go_wp2_with fail
  go_loopw [2] (fun x wr => x = .int .i64 (i : Int) ∧ CellsAt wr w.heap.size [.int .u8 0, .bool fold] ∧ Below w.heap.size w wr) (fun _ _ => 0)
  case atStart => exact ⟨rfl, A0.out, B0.out⟩
  case round =>
    obtain ⟨rfl, ha, hb⟩ := hrel
    have a0 := ha.cell 0 _ rfl
    have HB := Lib.hid hb
    clear ha hb
    go_upto_region 1 with fail
    go_quiet (fail)
    go_wp2_with fail
    go_ret
    exact ⟨by rw [E.out]; rfl, bdrew HB.out _⟩
set_option maxHeartbeats 1600000 in
theorem next2_ok (fold : Bool) (s : ByteArray) (hs : s.size ≤ 1099511627776) (i : Nat) (hi : i ≤ s.size) (w : World) (T : Tabs w) : Calls Tryz.prog 52 #[.agg #[.int .u8 2, .bool fold], .string s, .int .i64 i] w (RetBk w (.int .i64 ((nxC 2 s.data.toList i : Nat) : Int))) := by
  have B0 := Lib.hid ((Below.refl w.heap.size w).alloc (Nat.le_refl _) (Obj.cells #[.int .u8 2, .bool fold] 57))
  have A0 := Lib.hid (CellsAt.new w [.int .u8 2, .bool fold] 57)
  have HI := Lib.hid hi
  have HT := Lib.hid T
  have HS := Lib.hid hs
  clear hi T hs
  go_enter Tryz.func52, Tryz.ntmps52
  go_wp2_with fail
  go_loopw [2] (fun x wr => NxRel w 2 fold s i x wr) (fun x _ => s.size - (intOf x).toNat)
  case atStart => exact ⟨i, HI.out, rfl, rfl, A0.out, B0.out⟩
  case round =>
    obtain ⟨k, hk, rfl, hn, ha, hb⟩ := hrel
    have a0 := ha.cell 0 _ rfl
    have HA := Lib.hid ha
    have HB := Lib.hid hb
    have HN := Lib.hid hn
    clear ha hb hn
    by_cases hlt : k < s.size
    · have t0 : decide (k < s.size) = true := decide_eq_true hlt
      have hk' : k < s.data.toList.length := by rw [← Lib.size_eq]; exact hlt
      have c1 := cls_any (HT.out.below HB.out) (s[k]'hlt)
      have c2 := cls2 ⟨(s[k]'hlt).toNat, (s[k]'hlt).toNat_lt⟩
      have hx := (s[k]'hlt).toNat_lt
      simp only at c2
      generalize ((clsL.getD (s[k]'hlt).toNat 0 : Nat) : Int) = n at *
      cases hc : cntN 2 (s[k]'hlt).toNat with
      | true =>
        have E := Lib.hid (nx_yes (lets := 2) hk' hc)
        rw [hc] at c2
        simp only [Bool.not_true] at c2
        clear hc
        go_upto_region 1 with fail
        go_quiet (fail)
        go_wp2_with fail
        go_ret
        exact ⟨by rw [← HN.out, E.out]; rfl, bdrew HB.out _⟩
      | false =>
        have E := Lib.hid (nx_no (lets := 2) hk' hc)
        rw [hc] at c2
        simp only [Bool.not_false] at c2
        clear hc
        go_upto_region 1 with fail
        go_quiet (fail)
        go_wp2_with fail
        have e1 : wrap64 ((k : Int) + 1) = ((k + 1 : Nat) : Int) := by have := HS.out; unfold wrap64; omega
        rw [e1]
        refine ⟨⟨k + 1, hlt, rfl, by rw [← E.out, HN.out], HA.out.step (below_drewN _ _), bdrew HB.out _⟩, ?_⟩
        have e2 : ∀ m : Nat, (intOf (.int .i64 (m : Int))).toNat = m := fun m => by show ((m : Int)).toNat = m; exact Int.toNat_natCast m
        rw [e2, e2]
        omega
    · have t0 : decide (k < s.size) = false := decide_eq_false hlt
      have E := Lib.hid (nx_end 2 s.data.toList (i := k) (by rw [← Lib.size_eq]; omega))
      go_upto_region 1 with fail
      go_quiet (fail)
      go_wp2_with fail
      go_ret
      exact ⟨by rw [← HN.out, E.out]; rfl, bdrew HB.out _⟩
set_option maxHeartbeats 1600000 in
theorem next4_ok (fold : Bool) (s : ByteArray) (hs : s.size ≤ 1099511627776) (i : Nat) (hi : i ≤ s.size) (w : World) (T : Tabs w) : Calls Tryz.prog 52 #[.agg #[.int .u8 4, .bool fold], .string s, .int .i64 i] w (RetBk w (.int .i64 ((nxC 4 s.data.toList i : Nat) : Int))) := by
  have B0 := Lib.hid ((Below.refl w.heap.size w).alloc (Nat.le_refl _) (Obj.cells #[.int .u8 4, .bool fold] 57))
  have A0 := Lib.hid (CellsAt.new w [.int .u8 4, .bool fold] 57)
  have HI := Lib.hid hi
  have HT := Lib.hid T
  have HS := Lib.hid hs
  clear hi T hs
  go_enter Tryz.func52, Tryz.ntmps52
  go_wp2_with fail
  go_loopw [2] (fun x wr => NxRel w 4 fold s i x wr) (fun x _ => s.size - (intOf x).toNat)
  case atStart => exact ⟨i, HI.out, rfl, rfl, A0.out, B0.out⟩
  case round =>
    obtain ⟨k, hk, rfl, hn, ha, hb⟩ := hrel
    have a0 := ha.cell 0 _ rfl
    have HA := Lib.hid ha
    have HB := Lib.hid hb
    have HN := Lib.hid hn
    clear ha hb hn
    by_cases hlt : k < s.size
    · have t0 : decide (k < s.size) = true := decide_eq_true hlt
      have hk' : k < s.data.toList.length := by rw [← Lib.size_eq]; exact hlt
      have c1 := cls_any (HT.out.below HB.out) (s[k]'hlt)
      have c2 := cls4 ⟨(s[k]'hlt).toNat, (s[k]'hlt).toNat_lt⟩
      have hx := (s[k]'hlt).toNat_lt
      simp only at c2
      generalize ((clsL.getD (s[k]'hlt).toNat 0 : Nat) : Int) = n at *
      cases hc : cntN 4 (s[k]'hlt).toNat with
      | true =>
        have E := Lib.hid (nx_yes (lets := 4) hk' hc)
        rw [hc] at c2
        simp only [Bool.not_true] at c2
        clear hc
        go_upto_region 1 with fail
        go_quiet (fail)
        go_wp2_with fail
        go_ret
        exact ⟨by rw [← HN.out, E.out]; rfl, bdrew HB.out _⟩
      | false =>
        have E := Lib.hid (nx_no (lets := 4) hk' hc)
        rw [hc] at c2
        simp only [Bool.not_false] at c2
        clear hc
        go_upto_region 1 with fail
        go_quiet (fail)
        go_wp2_with fail
        have e1 : wrap64 ((k : Int) + 1) = ((k + 1 : Nat) : Int) := by have := HS.out; unfold wrap64; omega
        rw [e1]
        refine ⟨⟨k + 1, hlt, rfl, by rw [← E.out, HN.out], HA.out.step (below_drewN _ _), bdrew HB.out _⟩, ?_⟩
        have e2 : ∀ m : Nat, (intOf (.int .i64 (m : Int))).toNat = m := fun m => by show ((m : Int)).toNat = m; exact Int.toNat_natCast m
        rw [e2, e2]
        omega
    · have t0 : decide (k < s.size) = false := decide_eq_false hlt
      have E := Lib.hid (nx_end 4 s.data.toList (i := k) (by rw [← Lib.size_eq]; omega))
      go_upto_region 1 with fail
      go_quiet (fail)
      go_wp2_with fail
      go_ret
      exact ⟨by rw [← HN.out, E.out]; rfl, bdrew HB.out _⟩
theorem next_ok (lets : Nat) (hl : lets = 0 ∨ lets = 2 ∨ lets = 4) (fold : Bool) (s : ByteArray) (hs : s.size ≤ 1099511627776) (i : Nat) (hi : i ≤ s.size) (w : World) (T : Tabs w) : Calls Tryz.prog 52 #[.agg #[.int .u8 (lets : Int), .bool fold], .string s, .int .i64 i] w (RetBk w (.int .i64 ((nxC lets s.data.toList i : Nat) : Int))) := by
  rcases hl with rfl | rfl | rfl
  · exact next0_ok fold s i hi w
  · exact next2_ok fold s hs i hi w T
  · exact next4_ok fold s hs i hi w T
set_option maxHeartbeats 1600000 in
theorem turn_ok (lets : Nat) (fold : Bool) (c : UInt8) (w : World) (T : Tabs w) : Calls Tryz.prog 53 #[.agg #[.int .u8 (lets : Int), .bool fold], .int .u8 c.toNat] w (RetBk w (.int .u8 ((turnB fold c).toNat : Int))) := by
  have hb := (Below.refl w.heap.size w).alloc (Nat.le_refl _) (Obj.cells #[.int .u8 (lets : Int), .bool fold] 57)
  have B0 := Lib.hid hb
  have c1 := cls_any (T.below hb) c
  have c2 := cls8 ⟨c.toNat, c.toNat_lt⟩
  have hx := c.toNat_lt
  simp only at c2
  generalize ((clsL.getD c.toNat 0 : Nat) : Int) = n at *
  clear T hb
  cases fold with
  | false =>
    go_enter Tryz.func53, Tryz.ntmps53
    go_wp2_with fail
    go_ret
    exact ⟨by simp [turnB], B0.out⟩
  | true =>
    by_cases h : 97 ≤ c.toNat ∧ c.toNat ≤ 122
    · have E := Lib.hid (show ((turnB true c).toNat : Int) = (c.toNat : Int) - 32 by
        unfold turnB; rw [if_pos ⟨rfl, h⟩, UInt8.toNat_ofNat']; omega)
      rw [decide_eq_true h.1, decide_eq_true h.2] at c2
      have w1 : IntKind.u8.wrap ((c.toNat : Int) - 97) = (c.toNat : Int) - 97 := by simp [IntKind.wrap, IntKind.bits, IntKind.signed]; omega
      simp only [Bool.and_self] at c2
      have hlo := h.1
      have hhi := h.2
      go_enter Tryz.func53, Tryz.ntmps53
      go_wp2_with fail
      go_ret
      refine ⟨?_, B0.out⟩
      rw [E.out]
      show Ending.returned (.int .u8 ((c.toNat : Int) - 97 + 65)) = _
      rw [show (c.toNat : Int) - 97 + 65 = (c.toNat : Int) - 32 by omega]
    · have E := Lib.hid (show turnB true c = c by unfold turnB; rw [if_neg (fun q => h q.2)])
      have c3 : (bits BinOp.and IntKind.u8 n 8 != 0) = false := by
        rw [c2, Bool.and_eq_false_iff, decide_eq_false_iff_not, decide_eq_false_iff_not]; omega
      clear c2 h
      go_enter Tryz.func53, Tryz.ntmps53
      go_wp2_with fail
      go_ret
      exact ⟨by rw [E.out]; rfl, B0.out⟩
end
section
open Go.RowKit

def bs (l : List UInt8) : ByteArray := ⟨l.toArray⟩
theorem bs_list (l : List UInt8) : (bs l).data.toList = l := by simp [bs]
theorem bs_of (s : ByteArray) : bs s.data.toList = s := by simp [bs]
theorem bs_size (l : List UInt8) : (bs l).size = l.length := by rw [Lib.size_eq, bs_list]
theorem below_alloc (w : World) (o : Obj) : Below w.heap.size w (w.alloc o) := (Below.refl _ _).alloc (Nat.le_refl _) o
theorem info5 : (Tryz.prog.info? 5).map (fun i => (i.zero, i.size, i.bytes)) = some (some (.int .u8 0), 1, 1) := by kernel_rfl
def byV (l : List UInt8) : List Value := l.map fun c => Value.int .u8 c.toNat
theorem byV_app (a b : List UInt8) : byV (a ++ b) = byV a ++ byV b := by simp [byV]
theorem byV_len (a : List UInt8) : (byV a).length = a.length := by simp [byV]
/-- A row of bytes of the call's own. -/
def OwnB (w : World) (B : Nat) (v : Value) (l : List UInt8) : Prop := w.ownsRow B 5 1 v l.length (byV l) ∧ B ≤ w.heap.size
/-- All whole blocks but those of bytes are kept. -/
def KeepB (w w' : World) : Prop := ∀ (g : Nat) (t : TypeId) (cs : Array Value), t ≠ 5 → w.heap[g]? = some (.cells cs t (0, 0)) → w'.heap[g]? = some (.cells cs t (0, 0))
theorem KeepB.refl (w : World) : KeepB w w := fun _ _ _ _ h => h
theorem KeepB.trans {a b c : World} (h : KeepB a b) (k : KeepB b c) : KeepB a c := fun g t cs ht x => k g t cs ht (h g t cs ht x)
theorem lt_of_heap {w : World} {g : Nat} {o : Obj} (h : w.heap[g]? = some o) : g < w.heap.size := by
  rcases Nat.lt_or_ge g w.heap.size with h1 | h1
  · exact h1
  · rw [Array.getElem?_eq_none h1] at h; cases h
theorem KeepB.below {w w' : World} (h : Below w.heap.size w w') : KeepB w w' := fun g _ _ _ x => (h.block g (lt_of_heap x)).trans x
theorem OwnB.below {w w' : World} {B : Nat} {v : Value} {l : List UInt8} (h : OwnB w B v l) (k : Below w.heap.size w w') : OwnB w' B v l := by
  refine ⟨⟨h.1.1, ?_⟩, Nat.le_trans h.2 k.size⟩
  rcases h.1.2 with hn | ⟨g, cap, cur, hv, hb, hgg, rest⟩
  · exact .inl hn
  · exact .inr ⟨g, cap, cur, hv, hb, (k.block g (lt_of_heap hgg)).trans hgg, rest⟩
theorem OwnB.grown {w w' : World} {B : Nat} {v : Value} {l : List UInt8} (h : OwnB w B v l) (g : w.grownBy w' v.ownBlock) : Below B w w' :=
  (Below.refl B w).grown g h.2 (fun k hk => (h.1.lt k hk).1)
theorem OwnB.keeps {w w' : World} {B : Nat} {v : Value} {l : List UInt8} (h : OwnB w B v l) (g : w.grownBy w' v.ownBlock) : KeepB w w' := by
  intro k t cs ht x
  refine (g.block k (lt_of_heap x) ?_).trans x
  intro e
  rcases h.1.2 with ⟨hv, _⟩ | ⟨g', cap, cur, hv, _, hgg, _⟩
  · rw [hv] at e; simp [Value.ownBlock] at e
  · rw [hv] at e
    have : k = g' := by simpa [Value.ownBlock] using e
    subst this
    rw [hgg] at x
    injection x with x
    injection x with _ y
    exact ht y.symm
theorem OwnB.nil (w : World) : OwnB w w.heap.size (.slice none 0 0) [] := ⟨World.ownsRow_nil _ _ _ _, Nat.le_refl _⟩
theorem OwnB.alloc {w : World} {B : Nat} {v : Value} {l : List UInt8} (h : OwnB w B v l) (o : Obj) : OwnB (w.alloc o) B v l := h.below (below_alloc w o)
/-- As text. -/
theorem OwnB.back {w : World} {B : Nat} {v : Value} {l : List UInt8} (h : OwnB w B v l) (hne : l ≠ []) : (convert 52 9 v).run Tryz.prog w = .ok (.string (bs l)) w := by
  obtain ⟨g, cap, hv, _, _⟩ := h.1.form (List.length_pos_iff.2 hne)
  have hc := h.1.cells (g := g) (by rw [hv]; rfl)
  rw [hv]
  refine run_convert_bytes_back w 52 9 5 ⟨g, 0, none⟩ cap l Tryz.underlying52 Tryz.underlying5 Tryz.underlying9 (fun j hj => ?_)
  exact hc j _ (by simp [byV, hj])

/-- Bytes are appended that a block holds which has just been made. -/
theorem wp_app {w : World} {ops : Array Oper} {rest : List Oper} {o : Oper} {a : Act} {Q : Exit → Act → World → Prop} (hgd : o.guard = none) (s x : Operand)
    (ho : o.op = .call { callee := .builtin .append, args := #[s, x], argTypes := #[52, 52] })
    (B : Nat) (v : Value) (l : List UInt8) (hs : a.eval s = v) (hown : OwnB w B v l) (c : List UInt8) (us : Array Value) (hu : us = (byV c).toArray)
    (hx : a.eval x = .slice (some ⟨w.heap.size, 0, none⟩) c.length c.length) (hlen : l.length + c.length ≤ 140737488355328)
    (h : ∀ v' w', OwnB w' B v' (l ++ c) → Below B w w' → KeepB w w' → wpList Tryz.prog ops Q rest (a.put o.dst v') w') :
    wpList Tryz.prog ops Q (o :: rest) a (w.alloc (.cells us 5)) := by
  obtain ⟨i0, hi, hz0, hz1, hz2⟩ := info_parts info5
  subst hu
  have hB := hown.2
  refine wpList_append_own _ hgd s x 52 ho B 5 i0 (.int .u8 0) 1 1 Tryz.underlying52 hi hz0 hz1 hz2 rfl (by decide) v l.length (byV l) hs (hown.1.alloc _) ⟨w.heap.size, 0, none⟩ c.length c.length (byV c) hx (by rw [byV_len]; simp) ?_ ?_ ?_ ?_ ?_ ?_
  · intro j u hj
    have e : (⟨w.heap.size, 0, none⟩ : Addr).add j = ⟨w.heap.size, j, none⟩ := by unfold Addr.add; split <;> simp_all
    rw [e, World.cell?_alloc_at _ _ _ _ rfl]
    simpa using hj
  · intro u hu
    obtain ⟨c', _, rfl⟩ := List.mem_map.1 hu
    rfl
  · unfold maxLen; omega
  · omega
  · simp; omega
  · intro v' w' h1 h2 _
    have hsz := h2.size
    refine h v' w' ⟨?_, ?_⟩ ?_ ?_
    · rw [List.length_append, byV_app]; exact h1
    · simp at hsz; omega
    · exact ((Below.refl B w).alloc hB _).grown h2 (by simp; omega) (fun k hk => (hown.1.lt k hk).1)
    · exact (KeepB.below (below_alloc w _)).trans ((hown.alloc _).keeps h2)
/-- A text is appended. -/
theorem wp_apps {w : World} {ops : Array Oper} {rest : List Oper} {o : Oper} {a : Act} {Q : Exit → Act → World → Prop} (hgd : o.guard = none) (s x : Operand)
    (ho : o.op = .call { callee := .builtin .append, args := #[s, x], argTypes := #[52, 9] })
    (B : Nat) (v : Value) (l : List UInt8) (hs : a.eval s = v) (hown : OwnB w B v l) (t : ByteArray)
    (hx : a.eval x = .string t) (hlen : l.length + t.size ≤ 140737488355328)
    (h : ∀ v' w', OwnB w' B v' (l ++ t.data.toList) → Below B w w' → KeepB w w' → wpList Tryz.prog ops Q rest (a.put o.dst v') w') :
    wpList Tryz.prog ops Q (o :: rest) a w := by
  obtain ⟨i0, hi, hz0, hz1, hz2⟩ := info_parts info5
  have hB := hown.2
  refine Lib.wpList_append_own_string _ hgd s x 52 9 ho B 5 i0 Tryz.underlying52 Tryz.underlying9 hi hz0 hz1 hz2 v l.length (byV l) hs hown.1 t hx ?_ ?_ hB ?_
  · unfold maxLen; omega
  · omega
  · intro v' w' h1 h2 _
    have hsz := h2.size
    refine h v' w' ⟨?_, Nat.le_trans hB hsz⟩ (hown.grown h2) (hown.keeps h2)
    rw [List.length_append, byV_app, ← Lib.size_eq]; exact h1
/-- A row without elements is made. -/
theorem wp_make {w : World} {ops : Array Oper} {rest : List Oper} {o : Oper} {a : Act} {Q : Exit → Act → World → Prop} (hgd : o.guard = none) (x y : Operand) (ho : o.op = .makeSlice 52 x y)
    (B : Nat) (hB : B ≤ w.heap.size) (kl kc : IntKind) (C : Int) (n : Nat) (hl : a.eval x = .int kl 0) (hc : a.eval y = .int kc C) (hC : C = (n : Int)) (hn : n ≤ 1099511627776)
    (h : ∀ v' w', OwnB w' B v' [] → Below B w w' → KeepB w w' → wpList Tryz.prog ops Q rest (a.put o.dst v') w') :
    wpList Tryz.prog ops Q (o :: rest) a w := by
  obtain ⟨i0, hi, hz0, hz1, hz2⟩ := info_parts info5
  refine wpList_make_own w hgd x y 52 ho B 5 i0 (.int .u8 0) 1 Tryz.underlying52 hi hz0 hz1 kl kc C n hl hc hC (by rw [hz2]; omega) (by unfold maxLen; omega) hB ?_
  intro w' h1 h2
  have hsz := h2.size
  exact h _ w' ⟨h1, Nat.le_trans hB hsz⟩ ((Below.refl B w).grown h2 hB (fun k hk => by cases hk)) (fun g t cs _ x => (h2.block g (lt_of_heap x) (by simp)).trans x)

/-- A row of bytes is answered. -/
def RetOwn (B : Nat) (w : World) (l : List UInt8) (e : Ending) (w' : World) : Prop := ∃ v, e = .returned v ∧ OwnB w' B v l ∧ Below B w w' ∧ KeepB w w'


/-- One byte appended, as a run. -/
theorem app_run {w : World} {B : Nat} {v : Value} {l : List UInt8} (hown : OwnB w B v l) (c : UInt8) (hlen : l.length + 1 ≤ 140737488355328) (ty : TypeId) :
    ∃ v' w', (Builtin.append_ #[52, 52] ty #[v, .slice (some ⟨w.heap.size, 0, none⟩) 1 1]).run Tryz.prog (w.alloc (.cells #[.int .u8 c.toNat] 5)) = .ok v' w' ∧ OwnB w' B v' (l ++ [c]) ∧ Below B w w' := by
  obtain ⟨i0, hi, hz0, hz1, hz2⟩ := info_parts info5
  have hB := hown.2
  obtain ⟨v', w', hr, h1, h2, _⟩ := run_append_own (P := Tryz.prog) (w.alloc (.cells #[.int .u8 c.toNat] 5)) B 52 ty 5 i0 (.int .u8 0) 1 1 Tryz.underlying52 hi hz0 hz1 hz2 rfl (by decide) v l.length (byV l) (hown.1.alloc _) ⟨w.heap.size, 0, none⟩ 1 1 [.int .u8 c.toNat] rfl (fun j u hj => by
      match j, hj with
      | 0, hj => simp at hj; subst hj; simp [Addr.add]) (fun u hu => by simp at hu; subst hu; rfl) (by unfold maxLen; omega) (by omega) (by simp; omega)
  have hsz := h2.size
  refine ⟨v', w', hr, ⟨?_, ?_⟩, ?_⟩
  · rw [List.length_append, byV_app]; exact h1
  · simp at hsz; omega
  · exact ((Below.refl B w).alloc hB _).grown h2 (by simp; omega) (fun k hk => (hown.1.lt k hk).1)
end
section
open Go.RowKit
set_option maxRecDepth 100000

/-- What counts of a text. -/
def filtS (lets : Nat) (fold : Bool) (l : List UInt8) : List UInt8 := (l.filter (cntB lets)).map (turnB fold)
theorem filt_all (l : List UInt8) : filtS 0 false l = l := by
  unfold filtS
  have h1 : l.filter (cntB 0) = l := List.filter_eq_self.2 (fun a _ => rfl)
  rw [h1]
  have : turnB false = id := by funext c; simp [turnB]
  rw [this, List.map_id]
theorem filt_len (lets : Nat) (fold : Bool) (l : List UInt8) : (filtS lets fold l).length ≤ l.length := by
  unfold filtS; rw [List.length_map]; exact List.length_filter_le _ _
theorem filt_skip {lets : Nat} {fold : Bool} {l : List UInt8} {i : Nat} : filtS lets fold (l.take (nxC lets l i)) = filtS lets fold (l.take i) := by
  unfold nxC filtS
  congr 1
  rw [List.take_add, List.filter_append]
  have : ((l.drop i).take ((l.drop i).takeWhile (fun c => !cntB lets c)).length).filter (cntB lets) = [] := by
    rw [List.filter_eq_nil_iff]
    intro a ha
    have ha' : a ∈ (l.drop i).takeWhile (fun c => !cntB lets c) := by
      have h := List.takeWhile_append_dropWhile (p := fun c => !cntB lets c) (l := l.drop i)
      rw [← h] at ha
      rw [List.take_left' (by rw [h])] at ha
      exact ha
    have := List.all_eq_true.1 (List.all_takeWhile (p := fun c => !cntB lets c) (l := l.drop i)) a ha'
    simpa using this
  rw [this, List.append_nil]
theorem filt_one {lets : Nat} {fold : Bool} {l : List UInt8} {i : Nat} (hi : i < l.length) (hc : cntB lets l[i] = true) : filtS lets fold (l.take (i + 1)) = filtS lets fold (l.take i) ++ [turnB fold l[i]] := by
  unfold filtS
  rw [List.take_succ_eq_append_getElem hi, List.filter_append, List.map_append]
  congr 1
  simp [hc]
theorem nx_counts {lets : Nat} {l : List UInt8} {i : Nat} (h : nxC lets l i < l.length) : cntB lets (l[nxC lets l i]'h) = true := by
  have hd : ((l.drop i).dropWhile (fun c => !cntB lets c)) ≠ [] := by
    intro e
    have h1 := List.takeWhile_append_dropWhile (p := fun c => !cntB lets c) (l := l.drop i)
    rw [e, List.append_nil] at h1
    have h2 := congrArg List.length h1
    rw [List.length_drop] at h2
    unfold nxC at h
    omega
  have hh := List.head_dropWhile_not (p := fun c => !cntB lets c) (l := l.drop i) hd
  have e : (l.drop i).dropWhile (fun c => !cntB lets c) = l.drop (nxC lets l i) := by
    unfold nxC
    rw [← List.drop_drop]
    have h1 := List.takeWhile_append_dropWhile (p := fun c => !cntB lets c) (l := l.drop i)
    conv => rhs; rw [← h1]
    rw [List.drop_left' (by rw [h1])]
  have hx : l[nxC lets l i] = ((l.drop i).dropWhile (fun c => !cntB lets c)).head hd := by
    simp only [e]
    rw [List.head_drop]
  rw [hx]
  simpa using hh
def lpC : Code → Code
  | .loop c => c
  | c => c
def blC : Code → Code
  | .block _ c => c
  | c => c
/-- The region that appends one byte. -/
noncomputable def r7C : Code := blC (fstC (sndC (lpC (blC (sndC (fstC (sndC (sndC (sndC (Tryz.f35.body.getD .skip))))))))))
section
variable {o : Oper} {a : Act} {W : World} {t u : Nat}
theorem ld63 {p : Nat} {x y : Value} (ho : o.op = .load 57 (.tmp t)) (ha : a.tmps.getD t undef = .pointer (some ⟨p, 0, none⟩)) (h0 : W.cell? ⟨p, 0, none⟩ = some x) (h1 : W.cell? ⟨p, 1, none⟩ = some y) : (execOp a.eval o).run Tryz.prog W = .ok (.value (.agg #[x, y])) W := by
  have ha' := gd ha
  generalize a.eval = ρ at *
  simp [execOp, ho, ha', go_sem, h0, h1]
theorem ix9 {s : ByteArray} {k : Nat} (hk : k < s.size) (ho : o.op = .index 9 (.tmp t) (.tmp u)) (ha : a.tmps.getD t undef = .string s) (hb : a.tmps.getD u undef = .int .i64 (k : Int)) : (execOp a.eval o).run Tryz.prog W = .ok (.value (.int .u8 (s[k].toNat : Int))) W := by
  have ha' := gd ha
  have hb' := gd hb
  generalize a.eval = ρ at *
  simp [execOp, ho, ha', hb', go_sem, hk]
theorem cl49 {v0 v1 : Value} (ho : o.op = .call { callee := .value (.func 53), args := #[.tmp t, .tmp u], argTypes := #[57, 5] }) (h0 : a.tmps.getD t undef = v0) (h1 : a.tmps.getD u undef = v1) : (execOp a.eval o).run Tryz.prog W = .ok (.enter 53 #[v0, v1]) W := by
  have h0' := gd h0
  have h1' := gd h1
  have hf : a.eval (.func 53) = .func (.func 53) #[] #[] := rfl
  generalize a.eval = ρ at *
  simp [execOp, ho, h0', h1', hf, go_sem]
theorem bz1 {z : Int} (ho : o.op = .buildSlice 52 1 #[(0, .tmp t)]) (ha : a.tmps.getD t undef = .int .u8 z) : (execOp a.eval o).run Tryz.prog W = .ok (.value (.slice (some ⟨W.heap.size, 0, none⟩) 1 1)) (W.alloc (.cells #[.int .u8 z] 5)) := by
  have ha' := gd ha
  generalize a.eval = ρ at *
  simp [execOp, ho, ha', go_sem]
theorem apz {v v' : Value} {W2 : World} {b : Nat} (hty : o.type = 52) (ho : o.op = .call { callee := .builtin .append, args := #[.tmp t, .tmp u], argTypes := #[52, 52] }) (h0 : a.tmps.getD t undef = v) (h1 : a.tmps.getD u undef = .slice (some ⟨b, 0, none⟩) 1 1)
    (hr : (Builtin.append_ #[52, 52] 52 #[v, .slice (some ⟨b, 0, none⟩) 1 1]).run Tryz.prog W = .ok v' W2) : (execOp a.eval o).run Tryz.prog W = .ok (.value v') W2 := by
  have h0' := gd h0
  have h1' := gd h1
  generalize a.eval = ρ at *
  unfold execOp
  simp only [ho, resolve, invoke, builtin, Sem.run_bind, Sem.run_pure, Result.andThen_ok, List.map_toArray, List.map_cons, List.map_nil, h0', h1', hty, hr]
end
set_option maxHeartbeats 1600000 in
theorem reg7 {Q : Exit → Act → World → Prop} {W : World} {p k B : Nat} {s : ByteArray} {c c2 : UInt8} {x y v : Value} {l : List UInt8} {t0 t3 t4 t7 t8 t9 t10 t11 t12 t13 t14 t15 t16 t17 t18 t19 t20 t21 t22 t23 t24 t25 t26 t27 t28 t29 t30 t31 t32 t33 t34 t35 : Value} {d : List Deferred}
    (hQ : ∀ (ch : _) (a : Act) (dd : Tmp) (v : Value) (w : World), Q (.panic ch) (a.put (some dd) v) w → Q (.panic ch) a w)
    (X : CellsAt W p [x, y]) (O : OwnB W B v l) (hp : p < B) (hk : k < s.size) (hs : s[k] = c) (hl : l.length + 1 ≤ 140737488355328)
    (TC : ∀ w : World, Below W.heap.size W w → Calls Tryz.prog 53 #[.agg #[x, y], .int .u8 (c.toNat : Int)] w (RetBk w (.int .u8 (c2.toNat : Int))))
    (h : ∀ (v26 v27 v28 v29 v30 v31 v32 v33 v' : Value) (W' : World), CellsAt W' p [x, y] → OwnB W' B v' (l ++ [c2]) → (∀ B0, B0 ≤ W.heap.size → B0 ≤ B → Below B0 W W') → Q .normal ⟨#[t0, .string s, .pointer (some ⟨p, 0, none⟩), t3, t4, v', .int .i64 (k : Int), t7, t8, t9, t10, t11, t12, t13, t14, t15, t16, t17, t18, t19, t20, t21, t22, t23, t24, t25, v26, v27, v28, v29, v30, v31, v32, v33, t34, t35], d⟩ W') :
    r7C.wp Tryz.prog Q ⟨#[t0, .string s, .pointer (some ⟨p, 0, none⟩), t3, t4, v, .int .i64 (k : Int), t7, t8, t9, t10, t11, t12, t13, t14, t15, t16, t17, t18, t19, t20, t21, t22, t23, t24, t25, t26, t27, t28, t29, t30, t31, t32, t33, t34, t35], d⟩ W := by
  show (Code.region 7 _ true).wp _ _ _ _
  refine wp_region_any (by kernel_rfl) ?_
  show wpAny _ _ _ _ _ _ _ W.drew
  have X0 : CellsAt W.drew p [x, y] := X.step (below_drewN W 1)
  have O0 : OwnB W.drew B v l := O.below (below_drewN W 1)
  have b0 : Below W.heap.size W W.drew := below_drewN W 1
  have bB0 : ∀ B0, Below B0 W W.drew := fun B0 => bdrew (Below.refl _ _) 1
  clear X O
  generalize W.drew = W0 at *
  refine wpAny_take (i := 0) (v := v) rfl (by kernel_rfl) (by kernel_rfl) (by kernel_rfl) (fun _ _ _ q => hQ _ _ _ _ _ q) (Or.inl ⟨by kernel_rfl, fun w => mv (t := 5) (Or.inl rfl) rfl⟩) ?_
  show wpAny _ _ _ _ _ #[true, false, false, false, false, false, false, false, false] ⟨#[t0, .string s, .pointer (some ⟨p, 0, none⟩), t3, t4, v, .int .i64 (k : Int), t7, t8, t9, t10, t11, t12, t13, t14, t15, t16, t17, t18, t19, t20, t21, t22, t23, t24, t25, v, t27, t28, t29, t30, t31, t32, t33, t34, t35], d⟩ W0
  refine wpAny_take (i := 2) (v := .string s) rfl (by kernel_rfl) (by kernel_rfl) (by kernel_rfl) (fun _ _ _ q => hQ _ _ _ _ _ q) (Or.inl ⟨by kernel_rfl, fun w => mv (t := 1) (Or.inl rfl) rfl⟩) ?_
  show wpAny _ _ _ _ _ #[true, false, true, false, false, false, false, false, false] ⟨#[t0, .string s, .pointer (some ⟨p, 0, none⟩), t3, t4, v, .int .i64 (k : Int), t7, t8, t9, t10, t11, t12, t13, t14, t15, t16, t17, t18, t19, t20, t21, t22, t23, t24, t25, v, t27, .string s, t29, t30, t31, t32, t33, t34, t35], d⟩ W0
  refine wpAny_take (i := 3) (v := .int .i64 (k : Int)) rfl (by kernel_rfl) (by kernel_rfl) (by kernel_rfl) (fun _ _ _ q => hQ _ _ _ _ _ q) (Or.inl ⟨by kernel_rfl, fun w => mv (t := 6) (Or.inl rfl) rfl⟩) ?_
  show wpAny _ _ _ _ _ #[true, false, true, true, false, false, false, false, false] ⟨#[t0, .string s, .pointer (some ⟨p, 0, none⟩), t3, t4, v, .int .i64 (k : Int), t7, t8, t9, t10, t11, t12, t13, t14, t15, t16, t17, t18, t19, t20, t21, t22, t23, t24, t25, v, t27, .string s, .int .i64 (k : Int), t30, t31, t32, t33, t34, t35], d⟩ W0
  refine wpAny_take (i := 4) (v := .int .u8 (s[k].toNat : Int)) rfl (by kernel_rfl) (by kernel_rfl) (by kernel_rfl) (fun _ _ _ q => hQ _ _ _ _ _ q) (Or.inl ⟨by kernel_rfl, fun w => ix9 (t := 28) (u := 29) hk rfl rfl rfl⟩) ?_
  show wpAny _ _ _ _ _ #[true, false, true, true, true, false, false, false, false] ⟨#[t0, .string s, .pointer (some ⟨p, 0, none⟩), t3, t4, v, .int .i64 (k : Int), t7, t8, t9, t10, t11, t12, t13, t14, t15, t16, t17, t18, t19, t20, t21, t22, t23, t24, t25, v, t27, .string s, .int .i64 (k : Int), .int .u8 (s[k].toNat : Int), t31, t32, t33, t34, t35], d⟩ W0
  refine wpAny_ready (rs := [1]) (by kernel_rfl) (by simp) (AllReady.cons rfl (fun K hK => ?_) AllReady.nil)
  rw [if_pos (by kernel_rfl)]
  unfold Oper.wp
  rw [ld63 (W := W0) (t := 2) rfl rfl (X0.cell 0 _ rfl) (X0.cell 1 _ rfl), Oper.upon_value]
  refine hK _ _ ?_
  clear hK K
  show wpAny _ _ _ _ _ #[true, true, true, true, true, false, false, false, false] ⟨#[t0, .string s, .pointer (some ⟨p, 0, none⟩), t3, t4, v, .int .i64 (k : Int), t7, t8, t9, t10, t11, t12, t13, t14, t15, t16, t17, t18, t19, t20, t21, t22, t23, t24, t25, v, .agg #[x, y], .string s, .int .i64 (k : Int), .int .u8 (s[k].toNat : Int), t31, t32, t33, t34, t35], d⟩ W0
  refine wpAny_ready (rs := [5]) (by kernel_rfl) (by simp) (AllReady.cons rfl (fun K hK => ?_) AllReady.nil)
  rw [if_pos (by kernel_rfl)]
  unfold Oper.wp
  rw [cl49 (t := 27) (u := 30) (v0 := .agg #[x, y]) (v1 := .int .u8 (s[k].toNat : Int)) rfl rfl rfl, Oper.upon_enter, hs]
  refine (TC _ b0).mono ?_
  rintro e w1 ⟨rfl, hb⟩
  refine hK _ _ ?_
  clear hK K
  have X1 := X0.step hb
  have O1 := O0.below hb
  show wpAny _ _ _ _ _ #[true, true, true, true, true, true, false, false, false] ⟨#[t0, .string s, .pointer (some ⟨p, 0, none⟩), t3, t4, v, .int .i64 (k : Int), t7, t8, t9, t10, t11, t12, t13, t14, t15, t16, t17, t18, t19, t20, t21, t22, t23, t24, t25, v, .agg #[x, y], .string s, .int .i64 (k : Int), .int .u8 (c.toNat : Int), .int .u8 (c2.toNat : Int), t32, t33, t34, t35], d⟩ w1
  obtain ⟨v', W2, hr, O2, b2⟩ := app_run O1 c2 hl 52
  refine wpAny_ready (rs := [6]) (by kernel_rfl) (by simp) (AllReady.cons rfl (fun K hK => ?_) AllReady.nil)
  rw [if_pos (by kernel_rfl)]
  unfold Oper.wp
  rw [bz1 (W := w1) (t := 31) (z := (c2.toNat : Int)) rfl rfl, Oper.upon_value]
  refine hK _ _ ?_
  clear hK K
  show wpAny _ _ _ _ _ #[true, true, true, true, true, true, true, false, false] ⟨#[t0, .string s, .pointer (some ⟨p, 0, none⟩), t3, t4, v, .int .i64 (k : Int), t7, t8, t9, t10, t11, t12, t13, t14, t15, t16, t17, t18, t19, t20, t21, t22, t23, t24, t25, v, .agg #[x, y], .string s, .int .i64 (k : Int), .int .u8 (c.toNat : Int), .int .u8 (c2.toNat : Int), .slice (some ⟨w1.heap.size, 0, none⟩) 1 1, t33, t34, t35], d⟩ (w1.alloc (.cells #[.int .u8 (c2.toNat : Int)] 5))
  refine wpAny_ready (rs := [7]) (by kernel_rfl) (by simp) (AllReady.cons rfl (fun K hK => ?_) AllReady.nil)
  rw [if_pos (by kernel_rfl)]
  unfold Oper.wp
  rw [apz (t := 26) (u := 32) (v := v) (b := w1.heap.size) rfl rfl rfl rfl hr, Oper.upon_value]
  refine hK _ _ ?_
  clear hK K
  show wpAny _ _ _ _ _ #[true, true, true, true, true, true, true, true, false] ⟨#[t0, .string s, .pointer (some ⟨p, 0, none⟩), t3, t4, v, .int .i64 (k : Int), t7, t8, t9, t10, t11, t12, t13, t14, t15, t16, t17, t18, t19, t20, t21, t22, t23, t24, t25, v, .agg #[x, y], .string s, .int .i64 (k : Int), .int .u8 (c.toNat : Int), .int .u8 (c2.toNat : Int), .slice (some ⟨w1.heap.size, 0, none⟩) 1 1, v', t34, t35], d⟩ W2
  refine wpAny_take (i := 8) (v := v') rfl (by kernel_rfl) (by kernel_rfl) (by kernel_rfl) (fun _ _ _ q => hQ _ _ _ _ _ q) (Or.inl ⟨by kernel_rfl, fun w => mv (t := 33) (Or.inr rfl) rfl⟩) ?_
  show wpAny _ _ _ _ _ #[true, true, true, true, true, true, true, true, true] ⟨#[t0, .string s, .pointer (some ⟨p, 0, none⟩), t3, t4, v', .int .i64 (k : Int), t7, t8, t9, t10, t11, t12, t13, t14, t15, t16, t17, t18, t19, t20, t21, t22, t23, t24, t25, v, .agg #[x, y], .string s, .int .i64 (k : Int), .int .u8 (c.toNat : Int), .int .u8 (c2.toNat : Int), .slice (some ⟨w1.heap.size, 0, none⟩) 1 1, v', t34, t35], d⟩ W2
  refine wpAny_done (by kernel_rfl) ?_ _
  exact h _ _ _ _ _ _ _ _ v' W2 (X1.keep b2 hp) O2 (fun B0 h0 h1 => (bB0 B0).trans ((hb.mono (Nat.le_trans h0 b0.size)).trans (b2.mono h1)))
theorem OwnB.conv {w : World} {B : Nat} {v : Value} {l : List UInt8} (h : OwnB w B v l) : (convert 52 9 v).run Tryz.prog w = .ok (.string (bs l)) w := by
  by_cases hne : l = []
  · subst hne
    rcases h.1.2 with ⟨rfl, _⟩ | ⟨g, cap, cur, hv, _⟩
    · exact run_convert_bytes_nil w 52 5 Tryz.underlying52 Tryz.underlying5 0 0 9 Tryz.underlying9
    · rw [hv]
      exact run_convert_bytes_back w 52 9 5 ⟨g, 0, none⟩ cap [] Tryz.underlying52 Tryz.underlying5 Tryz.underlying9 (fun j hj => by simp at hj)
  · exact h.back hne
theorem nx_ge (lets : Nat) (l : List UInt8) (i : Nat) : i ≤ nxC lets l i := Nat.le_add_right _ _
def ApRel (w : World) (lets : Nat) (fold : Bool) (s : ByteArray) (b i : Value) (wr : World) : Prop :=
  ∃ k : Nat, k ≤ s.size ∧ i = .int .i64 (k : Int) ∧ nxC lets s.data.toList k = k ∧ OwnB wr (w.heap.size + 1) b (filtS lets fold (s.data.toList.take k)) ∧ CellsAt wr w.heap.size [.int .u8 (lets : Int), .bool fold] ∧ Below w.heap.size w wr
theorem nx_idem (lets : Nat) (l : List UInt8) {i : Nat} (hi : i ≤ l.length) : nxC lets l (nxC lets l i) = nxC lets l i := by
  by_cases h : nxC lets l i < l.length
  · exact nx_yes h (nx_counts h)
  · exact nx_end _ _ (by have := nx_le lets l hi; omega)
set_option maxHeartbeats 3200000 in
theorem apply_g (lets : Nat) (hl : lets = 0 ∨ lets = 2 ∨ lets = 4) (fold : Bool) (hrun : ∀ w, Sem.run Tryz.prog (binOp BinOp.eql 57 (.agg #[.int .u8 (lets : Int), .bool fold]) (.agg #[.int .u8 0, .bool false])) w = .ok (.bool false) w) (s : ByteArray) (hs : s.size ≤ 1048576) (w : World) (T : Tabs w) :
    Calls Tryz.prog 35 #[.agg #[.int .u8 (lets : Int), .bool fold], .string s] w (RetBk w (.string (bs (filtS lets fold s.data.toList)))) := by
  have B0 := Lib.hid ((Below.refl w.heap.size w).alloc (Nat.le_refl _) (Obj.cells #[.int .u8 (lets : Int), .bool fold] 57))
  have A0 := Lib.hid (CellsAt.new w [.int .u8 (lets : Int), .bool fold] 57)
  have HT := Lib.hid T
  have HS := Lib.hid hs
  have NX := Lib.hid (fun i hi W T => next_ok lets hl fold s (by omega) i hi W T)
  have TN := Lib.hid (fun c W T => turn_ok lets fold c W T)
  have N0 := Lib.hid (show (w.alloc (Obj.cells #[.int .u8 (lets : Int), .bool fold] 57)).heap.size = w.heap.size + 1 by simp)
  clear T hs hl
  go_enter Tryz.func35, Tryz.ntmps35
  go_upto_region 3 with fail
  clear hrun
  generalize hX : w.alloc (Obj.cells #[.int .u8 (lets : Int), .bool fold] 57) = x at *
  clear hX
  go_wp2_with (first | (guard_target =~ wpList _ _ _ (⟨some _, Op.makeSlice 52 _ _, _, _, _, _⟩ :: _) _ _; refine wp_make rfl _ _ rfl (w.heap.size + 1) (by rw [N0.out]; exact Nat.le_refl _) .i64 .i64 (s.size : Int) s.size rfl rfl rfl (by have := HS.out; omega) ?_))
  intro v1 w1 o1 b1 _
  have A1 := Lib.hid (A0.out.keep b1 (Nat.lt_succ_self _))
  have B1 := Lib.hid (B0.out.trans (b1.mono (Nat.le_succ _)))
  have O1 := Lib.hid o1
  have a0 := A1.out.cell 0 _ rfl
  have a1 := A1.out.cell 1 _ rfl
  clear o1 b1 A0 B0
  go_wp2_with (go_at_call 52; refine (NX.out 0 (Nat.zero_le _) _ (HT.out.below B1.out)).mono ?_)
  rintro e w2 ⟨rfl, b2⟩
  have R0 : ApRel w lets fold s v1 (.int .i64 ((nxC lets s.data.toList 0 : Nat) : Int)) w2 := by
    refine ⟨nxC lets s.data.toList 0, by rw [Lib.size_eq]; exact nx_le _ _ (Nat.zero_le _), rfl, nx_idem _ _ (Nat.zero_le _), ?_, A1.out.step b2, B1.out.trans (b2.mono B1.out.size)⟩
    rw [filt_skip]
    exact O1.out.below b2
  have HR := Lib.hid R0
  clear R0 b2 O1 A1 B1 a0 a1
  go_wp2_with fail
  go_loopw [5, 6] (fun b i wr => ApRel w lets fold s b i wr) (fun _ i _ => s.size - (intOf i).toNat)
  case atStart => exact HR.out
  case round =>
    obtain ⟨k, hk, rfl, hn, ho, ha, hb⟩ := hrel
    have a0 := ha.cell 0 _ rfl
    have a1 := ha.cell 1 _ rfl
    have HA := Lib.hid ha
    have HB := Lib.hid hb
    have HN := Lib.hid hn
    have HO := Lib.hid ho
    clear ha hb hn ho HR
    by_cases hlt : k < s.size
    · have t0 : decide (k < s.size) = true := decide_eq_true hlt
      have hk' : k < s.data.toList.length := by rw [← Lib.size_eq]; exact hlt
      have hc : cntB lets s.data.toList[k] = true := by
        have h1 := nx_counts (lets := lets) (l := s.data.toList) (i := k) (by rw [HN.out]; exact hk')
        simpa only [HN.out] using h1
      have F1 := Lib.hid (filt_one (fold := fold) hk' hc)
      have FL := Lib.hid (filt_len lets fold (s.data.toList.take k))
      clear hc
      go_upto_region 7 with fail
      rename_i KK hKK
      refine reg7 (p := w.heap.size) (B := w.heap.size + 1) (l := filtS lets fold (s.data.toList.take k)) (c := s[k]'hlt) (c2 := turnB fold (s[k]'hlt)) (fun _ _ _ _ _ h => h) HA.out HO.out (Nat.lt_succ_self _) hlt rfl (by have h1 := FL.out; have h2 := HS.out; rw [List.length_take] at h1; omega) (fun W b => TN.out _ W ((HT.out.below HB.out).below b)) ?_
      intro v26 v27 v28 v29 v30 v31 v32 v33 v' W' X' O' b'
      refine hKK _ _ ?_
      clear hKK KK
      have a2 := X'.cell 0 _ rfl
      have a3 := X'.cell 1 _ rfl
      have hb' := b' w.heap.size HB.out.size (Nat.le_succ _)
      have HB' := Lib.hid (HB.out.trans hb')
      have HX' := Lib.hid X'
      have HO' := Lib.hid O'
      have e1 : wrap64 ((k : Int) + 1) = ((k + 1 : Nat) : Int) := by have := HS.out; unfold wrap64; omega
      clear a0 a1 b' X' O' hb'
      go_wp2_with (go_at_call 52; refine (NX.out (k + 1) hlt _ (HT.out.below HB'.out)).mono ?_)
      rintro e w5 ⟨rfl, b5⟩
      have R5 : ApRel w lets fold s v' (.int .i64 ((nxC lets s.data.toList (k + 1) : Nat) : Int)) w5 := by
        refine ⟨nxC lets s.data.toList (k + 1), by rw [Lib.size_eq]; exact nx_le _ _ hk', rfl, nx_idem _ _ hk', ?_, HX'.out.step b5, HB'.out.trans (b5.mono HB'.out.size)⟩
        rw [filt_skip, F1.out]
        exact HO'.out.below b5
      have HR5 := Lib.hid R5
      have hge := nx_ge lets s.data.toList (k + 1)
      have hle : nxC lets s.data.toList (k + 1) ≤ s.size := by rw [Lib.size_eq]; exact nx_le _ _ hk'
      clear R5 b5 a2 a3
      generalize nxC lets s.data.toList (k + 1) = m at *
      go_wp2_with fail
      refine ⟨HR5.out, ?_⟩
      have e2 : ∀ m : Nat, (intOf (.int .i64 (m : Int))).toNat = m := fun m => by show ((m : Int)).toNat = m; exact Int.toNat_natCast m
      rw [e2, e2]
      omega
    · have t0 : decide (k < s.size) = false := decide_eq_false hlt
      obtain rfl : k = s.size := by omega
      have hcv := HO.out.conv
      rw [Lib.size_eq, List.take_length] at hcv
      generalize hF : bs (filtS lets fold s.data.toList) = F at *
      clear hF
      go_wp2_with fail
      go_ret
      exact ⟨rfl, HB.out⟩
theorem apply_no (lets : Nat) (hl : lets = 0 ∨ lets = 2 ∨ lets = 4) (fold : Bool) (h0 : ¬ (lets = 0 ∧ fold = false)) (w : World) :
    Sem.run Tryz.prog (binOp BinOp.eql 57 (.agg #[.int .u8 (lets : Int), .bool fold]) (.agg #[.int .u8 0, .bool false])) w = .ok (.bool false) w := by
  rcases hl with rfl | rfl | rfl
  · cases fold
    · exact absurd ⟨rfl, rfl⟩ h0
    · kernel_rfl
  · cases fold <;> kernel_rfl
  · cases fold <;> kernel_rfl
theorem apply_ok (lets : Nat) (hl : lets = 0 ∨ lets = 2 ∨ lets = 4) (fold : Bool) (s : ByteArray) (hs : s.size ≤ 1048576) (w : World) (T : Tabs w) :
    Calls Tryz.prog 35 #[.agg #[.int .u8 (lets : Int), .bool fold], .string s] w (RetBk w (.string (bs (filtS lets fold s.data.toList)))) := by
  by_cases h0 : lets = 0 ∧ fold = false
  · obtain ⟨rfl, rfl⟩ := h0
    have B0 := Lib.hid ((Below.refl w.heap.size w).alloc (Nat.le_refl _) (Obj.cells #[.int .u8 0, .bool false] 57))
    go_enter Tryz.func35, Tryz.ntmps35
    go_wp2_with fail
    go_ret
    exact ⟨by rw [filt_all, bs_of]; rfl, B0.out⟩
  · exact apply_g lets hl fold (apply_no lets hl fold h0) s hs w T
end
end Go.Proofs.YtnpnccjeapejdaaGreatDoor
