/- Numbers of few bytes, the highest first; copies; rows with a sum behind. -/
import Derived.Test.YtfbeipfpkikakaaDoorHh
namespace Go.Proofs.YtfbeipfpkikakaaDoor
open Go.RowKit

set_option maxRecDepth 100000
def numB (l : List UInt8) : Nat := l.foldl (fun n x => 256 * n + x.toNat) 0
theorem numB_lt : ∀ (l : List UInt8) (n : Nat), l.foldl (fun n x => 256 * n + x.toNat) n < (n + 1) * 256 ^ l.length
  | [], n => by show n < (n + 1) * 1; omega
  | x :: l, n => by
    have h := numB_lt l (256 * n + x.toNat)
    have hx := x.toNat_lt
    show l.foldl _ (256 * n + x.toNat) < _
    refine Nat.lt_of_lt_of_le h ?_
    rw [List.length_cons, Nat.pow_succ, show (n + 1) * (256 ^ l.length * 256) = (256 * (n + 1)) * 256 ^ l.length by rw [Nat.mul_comm (256 ^ l.length) 256, ← Nat.mul_assoc, Nat.mul_comm (n + 1) 256]]
    exact Nat.mul_le_mul_right _ (by omega)
theorem numB_bound {l : List UInt8} (h : l.length ≤ 3) : numB l < 16777216 := by
  have h1 := numB_lt l 0
  have h2 : 256 ^ l.length ≤ 256 ^ 3 := Nat.pow_le_pow_right (by omega) h
  unfold numB
  omega
theorem numB_bound4 {l : List UInt8} (h : l.length ≤ 4) : numB l < 4294967296 := by
  have h1 := numB_lt l 0
  have h2 : 256 ^ l.length ≤ 256 ^ 4 := Nat.pow_le_pow_right (by omega) h
  unfold numB
  omega
theorem numB_snoc (l : List UInt8) (k : Nat) (h : k < l.length) : numB (l.take (k + 1)) = 256 * numB (l.take k) + l[k].toNat := fold_snoc _ _ l k h
def NbRel (l : List UInt8) (h i : Value) : Prop := ∃ k : Nat, k ≤ l.length ∧ i = .int .i64 k ∧ h = .int .u32 ((numB (l.take k) : Nat) : Int)
theorem or_add (n x : Nat) (hx : x < 256) : n * 256 ||| x = n * 256 + x := by
  have := Nat.two_pow_add_eq_or_of_lt (i := 8) (b := x) hx n
  rw [show 2 ^ 8 * n = n * 256 by omega] at this
  exact this.symm
set_option maxHeartbeats 1600000 in
theorem number_some (b off cp : Nat) (l : List UInt8) (hl : l.length ≤ 4) (w : World) (hb : b < w.heap.size) (hc : ∀ j u, l[j]? = some u → w.cell? ⟨b, off + j, none⟩ = some (.int .u8 u.toNat)) :
    Calls Tryd.prog 34 #[.slice (some ⟨b, off, none⟩) l.length cp] w (Same w (.int .u32 (numB l))) := by
  have HC := Lib.hid hc
  clear hc
  go_enter Tryd.func34, Tryd.ntmps34
  go_wp2_with fail
  go_loop [3, 8] (fun x i => NbRel l x i) (fun _ i => l.length - (intOf i).toNat)
  case atStart => exact ⟨0, Nat.zero_le _, rfl, rfl⟩
  case round =>
    obtain ⟨k, hk, rfl, rfl⟩ := hrel
    by_cases hlt : k < l.length
    · have hn : numB (l.take k) < 16777216 := numB_bound (by rw [List.length_take]; omega)
      have HSN := Lib.hid (numB_snoc l k hlt)
      have c1 := HC.out k l[k] (List.getElem?_eq_getElem hlt)
      have hx := l[k].toNat_lt
      generalize l[k].toNat = x at *
      generalize numB (l.take k) = d at *
      have E1 : bits .or .u32 ((d : Int) * 256) (x : Int) = ((256 * d + x : Nat) : Int) := by
        rw [show ((d : Int) * 256) = ((d * 256 : Nat) : Int) by omega, u32_or_nat _ _ (by omega) (by omega), or_add d x hx, Nat.mul_comm]
      have W1 : IntKind.u32.wrap ((d : Int) * 256) = (d : Int) * 256 := by unfold IntKind.wrap; simp [IntKind.bits, IntKind.signed]; omega
      have KEY := Lib.hid (show NbRel l (.int .u32 (bits .or .u32 ((d : Int) * 256) (x : Int))) (.int .i64 ((k : Int) + 1)) from ⟨k + 1, by omega, by go_num, by rw [HSN.out, E1]⟩)
      clear E1
      go_wp2_with fail
      exact ⟨KEY.out, by simp [intOf]; omega⟩
    · have ek : l.take k = l := List.take_of_length_le (by omega)
      have EK := Lib.hid (show numB (l.take k) = numB l by rw [ek])
      generalize numB (l.take k) = d at *
      clear ek
      go_wp2_with fail
      go_ret
      exact ⟨by rw [← EK.out]; rfl, rfl⟩
def VbRel (l : List UInt8) (h i : Value) : Prop := ∃ k : Nat, k ≤ l.length ∧ i = .int .i64 k ∧ h = .int .i64 ((numB (l.take k) : Nat) : Int)
set_option maxHeartbeats 1600000 in
theorem value_some (b off cp : Nat) (l : List UInt8) (hl : l.length ≤ 4) (w : World) (hb : b < w.heap.size) (hc : ∀ j u, l[j]? = some u → w.cell? ⟨b, off + j, none⟩ = some (.int .u8 u.toNat)) :
    Calls Tryd.prog 36 #[.slice (some ⟨b, off, none⟩) l.length cp] w (Same w (.int .i64 (numB l))) := by
  have HC := Lib.hid hc
  clear hc
  go_enter Tryd.func36, Tryd.ntmps36
  go_wp2_with fail
  go_loop [3, 4] (fun x i => VbRel l x i) (fun _ i => l.length - (intOf i).toNat)
  case atStart => exact ⟨0, Nat.zero_le _, rfl, rfl⟩
  case round =>
    obtain ⟨k, hk, rfl, rfl⟩ := hrel
    by_cases hlt : k < l.length
    · have hn : numB (l.take k) < 16777216 := numB_bound (by rw [List.length_take]; omega)
      have HSN := Lib.hid (numB_snoc l k hlt)
      have c1 := HC.out k l[k] (List.getElem?_eq_getElem hlt)
      have hx := l[k].toNat_lt
      generalize l[k].toNat = x at *
      generalize numB (l.take k) = d at *
      have KEY := Lib.hid (show VbRel l (.int .i64 (256 * (d : Int) + (x : Int))) (.int .i64 ((k : Int) + 1)) from ⟨k + 1, by omega, by go_num, by rw [HSN.out]; go_num⟩)
      go_wp2_with fail
      exact ⟨KEY.out, by simp [intOf]; omega⟩
    · have ek : l.take k = l := List.take_of_length_le (by omega)
      have EK := Lib.hid (show numB (l.take k) = numB l by rw [ek])
      generalize numB (l.take k) = d at *
      clear ek
      go_wp2_with fail
      go_ret
      exact ⟨by rw [← EK.out]; rfl, rfl⟩
theorem bound_ok (n : Int) (h : -9223372036854775808 ≤ n ∧ n ≤ 9223372036854775807) (w : World) : Calls Tryd.prog 26 #[.int .i64 n] w (Same w (.int .i64 (if n < 0 ∨ 16777215 < n then 0 else n + 16))) := by
  by_cases h1 : n < 0
  · rw [if_pos (Or.inl h1)]
    have t1 : decide (n < 0) = true := decide_eq_true h1
    go_enter Tryd.func26, Tryd.ntmps26
    go_wp2_with fail
    go_ret
    exact ⟨rfl, rfl⟩
  · have t1 : decide (n < 0) = false := decide_eq_false h1
    by_cases h2 : 16777215 < n
    · rw [if_pos (Or.inr h2)]
      have t2 : decide (16777215 < n) = true := decide_eq_true h2
      go_enter Tryd.func26, Tryd.ntmps26
      go_wp2_with fail
      go_ret
      exact ⟨rfl, rfl⟩
    · rw [if_neg (by omega)]
      have t2 : decide (16777215 < n) = false := decide_eq_false h2
      go_enter Tryd.func26, Tryd.ntmps26
      go_wp2_with fail
      go_ret
      exact ⟨rfl, rfl⟩

/-- A slice of bytes is appended onto a row of the call's own. -/
theorem wp_appv {w : World} {ops : Array Oper} {rest : List Oper} {o : Oper} {a : Act} {Q : Exit → Act → World → Prop} (hgd : o.guard = none) (s x : Operand)
    (ho : o.op = .call { callee := .builtin .append, args := #[s, x], argTypes := #[23, 23] })
    (B : Nat) (v : Value) (l : List UInt8) (hs : a.eval s = v) (hown : OwnB w B v l) (u : Value) (c : List UInt8) (hx : a.eval x = u) (hc : SlB w u c) (hlen : l.length + c.length ≤ 140737488355328)
    (h : ∀ v' w', OwnB w' B v' (l ++ c) → Below B w w' → KeepB w w' → wpList Tryd.prog ops Q rest (a.put o.dst v') w') :
    wpList Tryd.prog ops Q (o :: rest) a w := by
  obtain ⟨i0, hi, hz0, hz1, hz2⟩ := info_parts info5
  have hB := hown.2
  have key : ∀ (ad : Addr) (cp : Nat), a.eval x = .slice (some ad) c.length cp → (∀ j u, (byV c)[j]? = some u → w.cell? (ad.add j) = some u) → wpList Tryd.prog ops Q (o :: rest) a w := by
    intro ad cp hx2 hcell
    refine wpList_append_own _ hgd s x 23 ho B 5 i0 (.int .u8 0) 1 1 Tryd.underlying23 hi hz0 hz1 hz2 rfl (by decide) v l.length (byV l) hs hown.1 ad c.length cp (byV c) hx2 (by rw [byV_len]; simp) hcell ?_ ?_ ?_ hB ?_
    · intro u hu
      obtain ⟨c', _, rfl⟩ := List.mem_map.1 hu
      rfl
    · unfold maxLen; omega
    · omega
    · intro v' w' h1 h2 _
      have hsz := h2.size
      refine h v' w' ⟨?_, Nat.le_trans hB hsz⟩ (hown.grown h2) (hown.keeps h2)
      rw [List.length_append, byV_app]; exact h1
  obtain ⟨ad, cp, rfl, hnn, hcs⟩ := hc
  cases ad with
  | none =>
    obtain rfl := hnn rfl
    rcases hcs with rfl | ⟨b, off, hb, _⟩
    · refine wpList_append_own_none hgd s x 23 ho B 5 i0 1 Tryd.underlying23 hi v l.length (byV l) hs hown.1 hx ?_
      have := h v w (by rw [List.append_nil]; exact hown) (Below.refl _ _) (KeepB.refl _)
      exact this
    · cases hb
  | some ad =>
    refine key ad cp hx ?_
    rcases hcs with rfl | ⟨b, off, hb, _, hcell⟩
    · intro j u hu; cases hu
    · cases hb
      intro j u hu
      rw [add_plain]
      unfold byV at hu
      rw [List.getElem?_map] at hu
      cases hcj : c[j]? with
      | none => rw [hcj] at hu; cases hu
      | some y => rw [hcj] at hu; cases hu; exact hcell j y hcj

set_option maxHeartbeats 800000 in
theorem twin_ok (u : Value) (c : List UInt8) (w : World) (hc : SlB w u c) (hlen : c.length ≤ 140737488355328) : Calls Tryd.prog 9 #[u] w (RetOwn w.heap.size w c) := by
  have HC := Lib.hid hc
  have HO := Lib.hid (OwnB.nil w)
  clear hc
  go_enter Tryd.func9, Tryd.ntmps9
  go_wp2_with (at_builtin; refine wp_appv rfl _ _ rfl w.heap.size _ _ rfl HO.out _ c rfl HC.out (by simpa using hlen) ?_)
  intro v' w' h1 h2 h3
  have H1 := Lib.hid h1
  have H2 := Lib.hid h2
  have H3 := Lib.hid h3
  clear h1 h2 h3
  go_wp2_with fail
  go_ret
  exact ⟨_, rfl, H1.out, H2.out, H3.out⟩
end Go.Proofs.YtfbeipfpkikakaaDoor
