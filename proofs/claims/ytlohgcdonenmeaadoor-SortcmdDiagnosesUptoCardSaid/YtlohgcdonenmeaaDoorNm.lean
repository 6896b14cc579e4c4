/- A name in diagnostics: nameOf of the program. -/
import Derived.Test.YtlohgcdonenmeaaDoorBd
import Derived.Lib.ConvBytes
namespace Go.Proofs.YtlohgcdonenmeaaDoor
open Go.RowKit
set_option maxRecDepth 100000

/-- A small hexadecimal digit. -/
def hx (n : Nat) : UInt8 := UInt8.ofNat (if n < 10 then 48 + n else 87 + n)
/-- A byte in diagnostics. -/
def shB (c : UInt8) : List UInt8 :=
  if c.toNat = 92 then [92, 92] else if c.toNat < 32 ∨ 127 ≤ c.toNat then [92, 120, hx (c.toNat / 16), hx (c.toNat % 16)] else [c]
def shS (l : List UInt8) : List UInt8 := l.flatMap shB
theorem shS_snoc (l : List UInt8) (c : UInt8) : shS (l ++ [c]) = shS l ++ shB c := by simp [shS]
theorem shB_len (c : UInt8) : (shB c).length ≤ 4 := by unfold shB; split <;> (try split) <;> simp
theorem shS_len : ∀ l : List UInt8, (shS l).length ≤ 4 * l.length
  | [] => by simp [shS]
  | c :: l => by
    have := shS_len l
    have := shB_len c
    simp only [shS, List.flatMap_cons, List.length_append, List.length_cons] at *
    omega
def hexS : ByteArray := { data := #[48, 49, 50, 51, 52, 53, 54, 55, 56, 57, 97, 98, 99, 100, 101, 102] }
theorem hex_at (k : Nat) (h : k < hexS.size) : hexS[k] = hx k := by
  have h' : k < 16 := h
  obtain rfl | rfl | rfl | rfl | rfl | rfl | rfl | rfl | rfl | rfl | rfl | rfl | rfl | rfl | rfl | rfl : k = 0 ∨ k = 1 ∨ k = 2 ∨ k = 3 ∨ k = 4 ∨ k = 5 ∨ k = 6 ∨ k = 7 ∨ k = 8 ∨ k = 9 ∨ k = 10 ∨ k = 11 ∨ k = 12 ∨ k = 13 ∨ k = 14 ∨ k = 15 := by omega
  all_goals rfl
theorem low_bits (c : UInt8) : (c.toNat : Int) % 16 = ((c.toNat % 16 : Nat) : Int) := by omega
def NmRel (w : World) (s : ByteArray) (i : Value) (wr : World) : Prop :=
  ∃ k u, k ≤ s.size ∧ i = .int .i64 k ∧ BAt wr w.heap.size (w.heap.size + 2) u (shS (s.data.toList.take k)) ∧ Below w.heap.size w wr ∧
    (∀ j : Nat, j < s.size → wr.cell? ⟨w.heap.size + 1, j, none⟩ = some (.int .u8 (s.data.toList.getD j 0).toNat))
theorem NmRel.keep {w wr wt : World} {s : ByteArray} (hb : Below w.heap.size w wr) (hs : Stay w.heap.size (w.heap.size + 2) wr wt)
    (hr : ∀ j : Nat, j < s.size → wr.cell? ⟨w.heap.size + 1, j, none⟩ = some (.int .u8 (s.data.toList.getD j 0).toNat)) :
    Below w.heap.size w wt ∧ (∀ j : Nat, j < s.size → wt.cell? ⟨w.heap.size + 1, j, none⟩ = some (.int .u8 (s.data.toList.getD j 0).toNat)) := by
  refine ⟨hb.trans hs.below, fun j hj => ?_⟩
  rw [← hr j hj]
  have := hs.row (w.heap.size + 1) (by omega) (by omega)
  simp only [World.cell?, this]
theorem NmRel.next {w w1 : World} {s : ByteArray} {k : Nat} (hs : s.size ≤ 1099511627776) (hlt : k < s.size) (Q : NmRel w s (.int .i64 ((k + 1 : Nat) : Int)) w1) :
    NmRel w s (.int .i64 (wrap64 ((k : Int) + 1))) w1 ∧ s.size - (intOf (.int .i64 (wrap64 ((k : Int) + 1)))).toNat < s.size - (intOf (.int .i64 (k : Int))).toNat := by
  have e : wrap64 ((k : Int) + 1) = ((k + 1 : Nat) : Int) := by unfold wrap64; omega
  rw [e]
  refine ⟨Q, ?_⟩
  have e1 : ∀ m : Nat, (intOf (.int .i64 (m : Int))).toNat = m := fun m => by show ((m : Int)).toNat = m; exact Int.toNat_natCast m
  rw [e1, e1]
  omega
def NextR (w : World) (s : ByteArray) (k : Nat) (w1 : World) : Prop := NmRel w s (.int .i64 ((k + 1 : Nat) : Int)) w1
set_option maxHeartbeats 4000000 in
theorem nameOf_ok (s : ByteArray) (hs : s.size ≤ 1099511627776) (w : World) : Calls Tryd.prog 9 #[.string s] w (RetBelow w (.string (bs (shS s.data.toList)))) := by
  have HS := Lib.hid hs
  clear hs
  have hconv := Lib.run_convert_string_bytes (P := Tryd.prog) (w.alloc (.cells #[.pointer none, .slice none 0 0] 36)) 9 34 5 s Tryd.underlying9 Tryd.underlying34 Tryd.underlying5
  go_enter Tryd.func9, Tryd.ntmps9
  go_wp2_with fail
  have hx0 : NmRel w s (.int .i64 0) (Lib.bytesWorld (w.alloc (.cells #[.pointer none, .slice none 0 0] 36)) 5 s) := by
    have z1 : (w.alloc (.cells #[.pointer none, .slice none 0 0] 36)).heap.size = w.heap.size + 1 := by simp
    have z2 := Lib.bytesWorld_size (w.alloc (.cells #[.pointer none, .slice none 0 0] 36)) 5 s
    refine ⟨0, false, Nat.zero_le _, rfl, ⟨by omega, .slice none 0 0, ?_, World.ownsRow_nil _ _ _ _, by rw [z2, z1]; omega⟩, ?_, fun j hj => ?_⟩
    · rw [Lib.bytesWorld_at_old _ _ _ _ (by rw [z1]; omega)]
      show (w.heap.push _)[w.heap.size]? = _
      simp
    · refine (below_alloc w _).trans ⟨rfl, rfl, rfl, by rw [z2]; omega, fun k hk => Lib.bytesWorld_at_old _ _ _ _ (by rw [z1]; omega)⟩
    · have := Lib.bytesWorld_cell (w.alloc (.cells #[.pointer none, .slice none 0 0] 36)) 5 s j hj
      rw [z1] at this
      exact this
  have hz1 : (w.alloc (.cells #[.pointer none, .slice none 0 0] 36)).heap.size = w.heap.size + 1 := by simp
  rw [hz1] at *
  have HX := Lib.hid hx0
  clear hx0 hconv
  generalize Lib.bytesWorld (w.alloc (.cells #[.pointer none, .slice none 0 0] 36)) 5 s = x at *
  generalize grownCap _ s.size 0 5 = gc at *
  go_loopw [9] (fun i wr => NmRel w s i wr) (fun i _ => s.size - (intOf i).toNat)
  case atStart => exact HX.out
  case round =>
    obtain ⟨k, u, hk, rfl, hB, hb, hr⟩ := hrel
    by_cases hlt : k < s.size
    · have t0 : decide (k < s.size) = true := decide_eq_true hlt
      have c1 := hr k hlt
      have HR := Lib.hid hr
      have HB0 := Lib.hid hb
      have hnx : shS (s.data.toList.take (k + 1)) = shS (s.data.toList.take k) ++ shB (s.data.toList.getD k 0) := by
        have hk' : k < s.data.toList.length := by rw [← Lib.size_eq]; exact hlt
        rw [List.take_succ_eq_append_getElem hk', shS_snoc, List.getD_eq_getElem?_getD, List.getElem?_eq_getElem hk']; rfl
      have hln : (shS (s.data.toList.take k)).length ≤ 4398046511104 := by
        have := shS_len (s.data.toList.take k)
        have := HS.out
        rw [List.length_take, ← Lib.size_eq] at *
        omega
      have HN := Lib.hid hnx
      have HL := Lib.hid hln
      have HBB := Lib.hid hB
      clear hr hb hnx hln hB
      generalize s.data.toList.getD k 0 = c at *
      have hc256 := c.toNat_lt
      by_cases e1 : c.toNat = 92
      · have t1 : decide ((c.toNat : Int) = 92) = true := decide_eq_true (by omega)
        have t1' : ((c.toNat : Int) == 92) = true := by simp; omega
        have E := Lib.hid (show shB c = [92, 92] by unfold shB; rw [if_pos e1])
        clear e1
        go_wp2_with (go_at_call 15; refine (put_str _ _ _ _ _ _ HBB.out (by have := HL.out; show _ + 2 ≤ _; omega)).mono ?_; rintro e w1 ⟨rfl, b1, s1⟩)
        obtain ⟨q1, q2⟩ := NmRel.keep HB0.out s1 HR.out
        have Q := Lib.hid (show NextR w s k w1 from ⟨_, _, hlt, rfl, by rw [HN.out, E.out]; exact b1, q1, q2⟩)
        clear b1 s1 q1 q2
        go_wp2_with fail
        exact NmRel.next HS.out hlt Q.out
      · have f1 : decide ((c.toNat : Int) = 92) = false := decide_eq_false (by omega)
        have f1' : ((c.toNat : Int) == 92) = false := by simp; omega
        by_cases e2 : c.toNat < 32 ∨ 127 ≤ c.toNat
        · have E := Lib.hid (show shB c = [92, 120, hx (c.toNat / 16), hx (c.toNat % 16)] by unfold shB; rw [if_neg e1, if_pos e2])
          have tt : ∃ p q : Bool, decide ((c.toNat : Int) < 32) = p ∧ decide (127 ≤ (c.toNat : Int)) = q ∧ (p = true ∨ q = true) := by
            refine ⟨_, _, rfl, rfl, ?_⟩
            rcases e2 with h | h
            · left; exact decide_eq_true (by omega)
            · right; exact decide_eq_true (by omega)
          obtain ⟨p, q, tp, tq, tpq⟩ := tt
          clear e1 e2
          have go : ∀ (w1 w2 w3 : World) (a b : UInt8), a = hx (c.toNat / 16) → b = hx (c.toNat % 16) → Stay w.heap.size (w.heap.size + 2) wr w1 → Stay w.heap.size (w.heap.size + 2) w1 w2 → Stay w.heap.size (w.heap.size + 2) w2 w3 →
              BAt w3 w.heap.size (w.heap.size + 2) true (shS (s.data.toList.take k) ++ [92, 120] ++ [a] ++ [b]) → NextR w s k w3 := by
            intro w1 w2 w3 a b ha hb s1 s2 s3 b3
            obtain ⟨q1, q2⟩ := NmRel.keep HB0.out (s1.trans (s2.trans s3)) HR.out
            refine ⟨k + 1, true, hlt, rfl, ?_, q1, q2⟩
            rw [HN.out, E.out, ← ha, ← hb]
            simpa using b3
          have GO := Lib.hid go
          clear go
          have l1 : ∀ a : UInt8, (shS (s.data.toList.take k) ++ [92, 120] ++ [a]).length + 1 ≤ 140737488355328 := by intro a; have := HL.out; simp; omega
          have l0 : (shS (s.data.toList.take k) ++ [92, 120]).length + 1 ≤ 140737488355328 := by have := HL.out; simp; omega
          cases p with
          | true =>
            go_wp2_with (go_at_call 15; refine (put_str _ _ _ _ _ _ HBB.out (by have := HL.out; show _ + 2 ≤ _; omega)).mono ?_; rintro e w1 ⟨rfl, b1, s1⟩)
            have B1 := Lib.hid b1
            have S1 := Lib.hid s1
            clear b1 s1
            go_wp2_with (go_at_call 16; refine (put_byte _ _ _ _ _ _ B1.out l0).mono ?_; rintro e w2 ⟨rfl, b2, s2⟩)
            have B2 := Lib.hid b2
            have S2 := Lib.hid s2
            clear b2 s2
            go_wp2_with (go_at_call 16; refine (put_byte _ _ _ _ _ _ B2.out (l1 _)).mono ?_; rintro e w3 ⟨rfl, b3, s3⟩)
            have Q := Lib.hid (GO.out w1 w2 w3 _ _ (hex_at _ _) (hex_at _ _) S1.out S2.out s3 b3)
            clear b3 s3 B1 S1 B2 S2 GO
            go_wp2_with fail
            exact NmRel.next HS.out hlt Q.out
          | false =>
            obtain rfl : q = true := by rcases tpq with h | h <;> simp_all
            go_wp2_with (go_at_call 15; refine (put_str _ _ _ _ _ _ HBB.out (by have := HL.out; show _ + 2 ≤ _; omega)).mono ?_; rintro e w1 ⟨rfl, b1, s1⟩)
            have B1 := Lib.hid b1
            have S1 := Lib.hid s1
            clear b1 s1
            go_wp2_with (go_at_call 16; refine (put_byte _ _ _ _ _ _ B1.out l0).mono ?_; rintro e w2 ⟨rfl, b2, s2⟩)
            have B2 := Lib.hid b2
            have S2 := Lib.hid s2
            clear b2 s2
            go_wp2_with (go_at_call 16; refine (put_byte _ _ _ _ _ _ B2.out (l1 _)).mono ?_; rintro e w3 ⟨rfl, b3, s3⟩)
            have Q := Lib.hid (GO.out w1 w2 w3 _ _ (hex_at _ _) (hex_at _ _) S1.out S2.out s3 b3)
            clear b3 s3 B1 S1 B2 S2 GO
            go_wp2_with fail
            exact NmRel.next HS.out hlt Q.out
        · have E := Lib.hid (show shB c = [c] by unfold shB; rw [if_neg e1, if_neg e2])
          have g1 : decide ((c.toNat : Int) < 32) = false := decide_eq_false (by omega)
          have g2 : decide (127 ≤ (c.toNat : Int)) = false := decide_eq_false (by omega)
          clear e1 e2
          go_wp2_with (go_at_call 16; refine (put_byte _ _ _ _ _ _ HBB.out (by have := HL.out; omega)).mono ?_; rintro e w1 ⟨rfl, b1, s1⟩)
          obtain ⟨q1, q2⟩ := NmRel.keep HB0.out s1 HR.out
          have Q := Lib.hid (show NextR w s k w1 from ⟨k + 1, true, hlt, rfl, by rw [HN.out, E.out]; exact b1, q1, q2⟩)
          clear b1 s1 q1 q2
          go_wp2_with fail
          exact NmRel.next HS.out hlt Q.out
    · have t0 : decide (k < s.size) = false := decide_eq_false hlt
      obtain rfl : k = s.size := by omega
      have HBB := Lib.hid hB
      have HB0 := Lib.hid hb
      clear hB hb hr
      go_wp2_with (go_at_call 17; refine (str_ok _ _ _ _ _ HBB.out).mono ?_; rintro e w1 ⟨rfl, b1⟩)
      go_ret
      refine ⟨?_, HB0.out.trans b1⟩
      rw [Lib.size_eq, List.take_length]
      rfl
end Go.Proofs.YtlohgcdonenmeaaDoor
