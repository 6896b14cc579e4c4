/- written of the statements: a number as text, with zeros ahead. -/
import Derived.Test.YtpbbgmfjdachnaaDoorMonths
import Derived.Lib.SmallJoins
namespace Go.Proofs.YtpbbgmfjdachnaaDoor
open Go.RowKit

/-- The digits of a number above 0; of 0 none. -/
def dgs (m : Nat) : List UInt8 := if _h : m = 0 then [] else dgs (m / 10) ++ [48 + UInt8.ofNat (m % 10)]
termination_by m
decreasing_by omega
theorem dgs_zero : dgs 0 = [] := by rw [dgs]; simp
theorem dgs_pos {m : Nat} (h : m ≠ 0) : dgs m = dgs (m / 10) ++ [48 + UInt8.ofNat (m % 10)] := by
  conv => lhs; rw [dgs]
  simp [h]
/-- A whole number's digits; of 0 one. -/
def dg (m : Nat) : List UInt8 := if m = 0 then [48] else dgs m
theorem dgs_len : ∀ (c m : Nat), m < 10 ^ c → (dgs m).length ≤ c
  | 0, m, h => by have : m = 0 := by simp at h; exact h
                  subst this; rw [dgs_zero]; simp
  | c + 1, m, h => by
    by_cases e : m = 0
    · subst e; rw [dgs_zero]; simp
    · rw [dgs_pos e, List.length_append]
      have : m / 10 < 10 ^ c := by rw [Nat.div_lt_iff_lt_mul (by omega)]; rw [Nat.pow_succ] at h; exact h
      have := dgs_len c _ this
      simp; omega
theorem dg_len (m : Nat) (h : m < 2 ^ 62) : (dg m).length ≤ 19 := by
  unfold dg
  split
  · simp
  · exact dgs_len 19 m (by omega)
def writ (n : Int) (z : Nat) : List UInt8 := (if n < 0 then [45] else []) ++ (List.replicate z 48 ++ dg n.natAbs)

/-- Between two rounds: the digits that are there, and the number that is left. -/
def WrD (M k : Nat) (l : List UInt8) : Prop := k < 2 ^ 62 ∧ ((l = [] ∧ k = M) ∨ (l ≠ [] ∧ dgs k ++ l = dg M))
theorem WrD.step {M k : Nat} {l : List UInt8} (h : WrD M k l) (c : 0 < k ∨ l = []) : WrD M (k / 10) ((48 + UInt8.ofNat (k % 10)) :: l) := by
  refine ⟨by have := h.1; omega, Or.inr ⟨by simp, ?_⟩⟩
  by_cases e : k = 0
  · subst e
    rcases h.2 with ⟨rfl, rfl⟩ | ⟨h1, h2⟩
    · simp [dgs_zero, dg]
    · rcases c with c | c
      · omega
      · exact absurd c h1
  · have e1 : dgs (k / 10) ++ (48 + UInt8.ofNat (k % 10)) :: l = dgs k ++ l := by rw [dgs_pos e]; simp
    rw [e1]
    rcases h.2 with ⟨rfl, rfl⟩ | ⟨h1, h2⟩
    · simp [dg, e]
    · exact h2
theorem WrD.nil {M : Nat} (h : WrD M 0 []) : WrD M 0 ([48] ++ []) := by
  have := h.step (Or.inr rfl)
  simpa using this
theorem WrD.done {M : Nat} {l : List UInt8} (h : WrD M 0 l) (c : l ≠ []) : l = dg M := by
  rcases h.2 with ⟨rfl, rfl⟩ | ⟨h1, h2⟩
  · exact absurd rfl c
  · rw [dgs_zero] at h2; simpa using h2
theorem WrD.len {M k : Nat} {l : List UInt8} (h : WrD M k l) (hM : M < 2 ^ 62) : l.length ≤ 19 := by
  rcases h.2 with ⟨rfl, rfl⟩ | ⟨h1, h2⟩
  · simp
  · have := congrArg List.length h2
    rw [List.length_append] at this
    have := dg_len M hM
    omega
def Wr1 (w : World) (M : Nat) (d m : Value) (wr : World) : Prop :=
  ∃ (k : Nat) (l : List UInt8), d = .string (bs l) ∧ m = .int .i64 k ∧ WrD M k l ∧ Below w.heap.size w wr
def strSz : Value → Nat
  | .string s => s.size
  | _ => 0
def Wr2 (w : World) (M z : Nat) (d i : Value) (wr : World) : Prop :=
  ∃ k : Nat, k ≤ z ∧ d = .string (bs (List.replicate k 48 ++ dg M)) ∧ i = .int .i64 k ∧ Below w.heap.size w wr

theorem dig_back (wr : World) (x : Int) (hx : 0 ≤ x ∧ x < 256) :
    (convert 23 9 (.slice (some ⟨wr.heap.size, 0, none⟩) 1 1)).run Tryd.prog (wr.alloc (.cells #[.int .u8 x] 5)) = .ok (.string (bs [UInt8.ofNat x.toNat])) (wr.alloc (.cells #[.int .u8 x] 5)) :=
  run_convert_bytes_back (l := [UInt8.ofNat x.toNat]) _ 23 9 5 ⟨wr.heap.size, 0, none⟩ 1 Tryd.underlying23 Tryd.underlying5 Tryd.underlying9 (fun j hj => by
    have h0 : j = 0 := by simp at hj; exact hj
    subst h0
    have e : (⟨wr.heap.size, 0, none⟩ : Addr).add 0 = ⟨wr.heap.size, 0, none⟩ := by unfold Addr.add; split <;> simp_all
    rw [e, World.cell?_alloc_mark]
    have : x.toNat % 256 = x.toNat := by omega
    simp [this]; omega)
theorem below_alloc (w : World) (o : Obj) : Below w.heap.size w (w.alloc o) :=
  ⟨rfl, rfl, rfl, by show w.heap.size ≤ (w.heap.push o).size; simp, fun k hk => by show (w.heap.push o)[k]? = _; rw [Array.getElem?_push]; split <;> first | rfl | omega⟩
theorem bs_cat (a b : List UInt8) : bs a ++ bs b = bs (a ++ b) := by
  apply ByteArray.ext; simp [bs]

theorem wr_less {k : Nat} (h : 0 < k) (x y : Nat) : 2 * (intOf (.int .i64 ((k / 10 : Nat) : Int))).toNat + (if x = 0 then 1 else 0) < 2 * (intOf (.int .i64 (k : Int))).toNat + (if y = 0 then 1 else 0) := by
  have e : ∀ m : Nat, (intOf (.int .i64 (m : Int))).toNat = m := fun m => by show ((m : Int)).toNat = m; exact Int.toNat_natCast m
  rw [e, e]
  split <;> split <;> omega
theorem emp_nil : (bs []).toList.isEmpty = true := by rw [Lib.toList_data, bs_list]; rfl
theorem e48 : (⟨#[48]⟩ : ByteArray) = bs [48] := rfl
theorem e45 : (⟨#[45]⟩ : ByteArray) = bs [45] := rfl
theorem writ_neg {n : Int} {z : Nat} (h : decide (n < 0) = true) : writ n z = [45] ++ (List.replicate z 48 ++ dg n.natAbs) := by
  unfold writ; rw [if_pos (of_decide_eq_true h)]
theorem writ_pos {n : Int} {z : Nat} (h : decide (n < 0) = false) : writ n z = List.replicate z 48 ++ dg n.natAbs := by
  unfold writ; rw [if_neg (of_decide_eq_false h), List.nil_append]

set_option maxRecDepth 100000
set_option maxHeartbeats 800000 in
theorem written_ok (n : Int) (hn : -4611686018427387904 < n ∧ n < 4611686018427387904) (z : Nat) (hz : z ≤ 500) (w : World) :
    Calls Tryd.prog 15 #[.int .i64 n, .int .i64 z] w (RetBelow w (.string (bs (writ n z)))) := by
  go_enter Tryd.func15, Tryd.ntmps15
  have hN : n.natAbs < 2 ^ 62 := by omega
  have HN := Lib.hid hN
  cases hneg : decide (n < 0) with
  | true =>
    have HNEG := Lib.hid hneg
    have hn0 : (n.natAbs : Int) = -n := by have := of_decide_eq_true hneg; omega
    go_wp2_with fail
    go_loopw [5, 6] (fun d m wr => Wr1 w n.natAbs d m wr) (fun d m _ => 2 * (intOf m).toNat + (if strSz d = 0 then 1 else 0))
    case atStart => exact ⟨n.natAbs, [], rfl, by rw [hn0], ⟨HN.out, Or.inl ⟨rfl, rfl⟩⟩, Below.refl _ _⟩
    case round =>
      obtain ⟨k, l, rfl, rfl, hd, hb⟩ := hrel
      have HD := Lib.hid hd
      have HB := Lib.hid hb
      clear hd hb
      have hlen : (bs l).size ≤ 19 := by rw [bs_size]; exact HD.out.len HN.out
      have HL := Lib.hid hlen
      clear hlen
      by_cases hk : 0 < k
      · have t1 : decide (0 < k) = true := by simp; omega
        have hback := dig_back wr (48 + (k : Int) % 10) (by omega)
        have HK := Lib.hid hk
        have hsz : (¬ 9223372036854775807 < (bs [48 + UInt8.ofNat (k % 10)]).size + (bs l).size) := by have := HL.out; rw [bs_size [_]]; simp; omega
        have hw : wrap64 ((k : Int) / 10) = ((k / 10 : Nat) : Int) := by have := HD.out.1; unfold wrap64; omega
        clear hk
        go_wp2_with fail
        rw [bs_cat, hw]
        exact ⟨⟨k / 10, _, rfl, rfl, HD.out.step (Or.inl HK.out), HB.out.trans ((below_alloc wr _).mono HB.out.size)⟩, wr_less HK.out _ _⟩
      · have hk0 : k = 0 := by omega
        subst hk0
        clear hk
        by_cases hl : l = []
        · subst hl
          have hback := dig_back wr 48 (by omega)
          have t2 := emp_nil
          have hsz : (¬ 9223372036854775807 < (bs [48]).size + (bs []).size) := by rw [bs_size, bs_size]; simp
          go_wp2_with fail
          rw [bs_cat]
          refine ⟨⟨0, _, rfl, rfl, HD.out.nil, HB.out.trans ((below_alloc wr _).mono HB.out.size)⟩, ?_⟩
          simp [intOf, strSz, bs_size]
        · have t2 : (bs l).toList.isEmpty = false := by rw [Lib.toList_data, bs_list]; cases l <;> simp_all
          have hl2 := HD.out.done hl
          clear hl
          subst hl2
          go_wp2_with fail
          go_loopw [5, 7] (fun d m wr => Wr2 w n.natAbs z d m wr) (fun _ m _ => z - (intOf m).toNat)
          case atStart => exact ⟨0, by omega, by rw [List.replicate_zero, List.nil_append], rfl, HB.out⟩
          case round =>
            obtain ⟨k, hk, rfl, rfl, hb⟩ := hrel
            have HB2 := Lib.hid hb
            clear hb
            have hsz : (bs (List.replicate k 48 ++ dg n.natAbs)).size ≤ 519 := by rw [bs_size, List.length_append, List.length_replicate]; have := dg_len _ HN.out; omega
            have HSZ := Lib.hid hsz
            clear hsz
            by_cases hlt : k < z
            · have t3 : decide (k < z) = true := by simp; omega
              have hsz : (¬ 9223372036854775807 < (⟨#[48]⟩ : ByteArray).size + (bs (List.replicate k 48 ++ dg n.natAbs)).size) := by have := HSZ.out; have e : (⟨#[48]⟩ : ByteArray).size = 1 := rfl; omega
              have HLT := Lib.hid hlt
              clear hlt
              go_wp2_with fail
              refine ⟨⟨k + 1, HLT.out, by rw [e48, bs_cat, List.replicate_succ]; simp only [List.cons_append, List.nil_append], rfl, HB2.out⟩, ?_⟩
              have := HLT.out
              simp [intOf]
              omega
            · have hkz : k = z := by omega
              subst hkz
              clear hlt
              have hsz1 : ¬ 9223372036854775807 < 1 + (bs (List.replicate k 48 ++ dg n.natAbs)).size := by have := HSZ.out; omega
              go_wp2_with fail
              go_ret
              refine ⟨?_, HB2.out⟩
              rw [e45, bs_cat, writ_neg HNEG.out]
              generalize [45] ++ (List.replicate k 48 ++ dg n.natAbs) = xx
              rfl
  | false =>
    have HNEG := Lib.hid hneg
    have hn0 : (n.natAbs : Int) = n := by have := of_decide_eq_false hneg; omega
    go_wp2_with fail
    go_loopw [5, 6] (fun d m wr => Wr1 w n.natAbs d m wr) (fun d m _ => 2 * (intOf m).toNat + (if strSz d = 0 then 1 else 0))
    case atStart => exact ⟨n.natAbs, [], rfl, by rw [hn0], ⟨HN.out, Or.inl ⟨rfl, rfl⟩⟩, Below.refl _ _⟩
    case round =>
      obtain ⟨k, l, rfl, rfl, hd, hb⟩ := hrel
      have HD := Lib.hid hd
      have HB := Lib.hid hb
      clear hd hb
      have hlen : (bs l).size ≤ 19 := by rw [bs_size]; exact HD.out.len HN.out
      have HL := Lib.hid hlen
      clear hlen
      by_cases hk : 0 < k
      · have t1 : decide (0 < k) = true := by simp; omega
        have hback := dig_back wr (48 + (k : Int) % 10) (by omega)
        have HK := Lib.hid hk
        have hsz : (¬ 9223372036854775807 < (bs [48 + UInt8.ofNat (k % 10)]).size + (bs l).size) := by have := HL.out; rw [bs_size [_]]; simp; omega
        have hw : wrap64 ((k : Int) / 10) = ((k / 10 : Nat) : Int) := by have := HD.out.1; unfold wrap64; omega
        clear hk
        go_wp2_with fail
        rw [bs_cat, hw]
        exact ⟨⟨k / 10, _, rfl, rfl, HD.out.step (Or.inl HK.out), HB.out.trans ((below_alloc wr _).mono HB.out.size)⟩, wr_less HK.out _ _⟩
      · have hk0 : k = 0 := by omega
        subst hk0
        clear hk
        by_cases hl : l = []
        · subst hl
          have hback := dig_back wr 48 (by omega)
          have t2 := emp_nil
          have hsz : (¬ 9223372036854775807 < (bs [48]).size + (bs []).size) := by rw [bs_size, bs_size]; simp
          go_wp2_with fail
          rw [bs_cat]
          refine ⟨⟨0, _, rfl, rfl, HD.out.nil, HB.out.trans ((below_alloc wr _).mono HB.out.size)⟩, ?_⟩
          simp [intOf, strSz, bs_size]
        · have t2 : (bs l).toList.isEmpty = false := by rw [Lib.toList_data, bs_list]; cases l <;> simp_all
          have hl2 := HD.out.done hl
          clear hl
          subst hl2
          go_wp2_with fail
          go_loopw [5, 7] (fun d m wr => Wr2 w n.natAbs z d m wr) (fun _ m _ => z - (intOf m).toNat)
          case atStart => exact ⟨0, by omega, by rw [List.replicate_zero, List.nil_append], rfl, HB.out⟩
          case round =>
            obtain ⟨k, hk, rfl, rfl, hb⟩ := hrel
            have HB2 := Lib.hid hb
            clear hb
            have hsz : (bs (List.replicate k 48 ++ dg n.natAbs)).size ≤ 519 := by rw [bs_size, List.length_append, List.length_replicate]; have := dg_len _ HN.out; omega
            have HSZ := Lib.hid hsz
            clear hsz
            by_cases hlt : k < z
            · have t3 : decide (k < z) = true := by simp; omega
              have hsz : (¬ 9223372036854775807 < (⟨#[48]⟩ : ByteArray).size + (bs (List.replicate k 48 ++ dg n.natAbs)).size) := by have := HSZ.out; have e : (⟨#[48]⟩ : ByteArray).size = 1 := rfl; omega
              have HLT := Lib.hid hlt
              clear hlt
              go_wp2_with fail
              refine ⟨⟨k + 1, HLT.out, by rw [e48, bs_cat, List.replicate_succ]; simp only [List.cons_append, List.nil_append], rfl, HB2.out⟩, ?_⟩
              have := HLT.out
              simp [intOf]
              omega
            · have hkz : k = z := by omega
              subst hkz
              clear hlt
              have hsz1 : ¬ 9223372036854775807 < 1 + (bs (List.replicate k 48 ++ dg n.natAbs)).size := by have := HSZ.out; omega
              go_wp2_with fail
              go_ret
              refine ⟨?_, HB2.out⟩
              rw [writ_pos HNEG.out]
              generalize List.replicate k 48 ++ dg n.natAbs = xx
              rfl
end Go.Proofs.YtpbbgmfjdachnaaDoor
