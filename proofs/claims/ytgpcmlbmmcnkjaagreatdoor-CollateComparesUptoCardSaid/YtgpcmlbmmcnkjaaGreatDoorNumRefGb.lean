/- The document's answer for numbers: sign, digit, size, Order, number, general; the order that they make is that of values. -/
import Derived.Test.YtgpcmlbmmcnkjaaGreatDoorNumRefGa
namespace Go.Proofs.YtgpcmlbmmcnkjaaGreatDoor.Num
open Go.RowKit
section


set_option maxRecDepth 100000
def sgn (neg : Bool) (D : List UInt8) : Int := if D = [] then 0 else if neg then -1 else 1

set_option maxHeartbeats 400000 in
theorem sign_ok (neg : Bool) (D : List UInt8) (p r : Int) (w : World) : Calls Tryz.prog 87 #[numV neg (bs D) p r] w (RetBelow w (.int .i64 (sgn neg D))) := by
  unfold numV sgn
  have B0 := Lib.hid ((Below.refl w.heap.size w).alloc (Nat.le_refl _) (Obj.cells #[.bool neg, .string (bs D), .int .i64 p, .int .i64 r] 94))
  have N0 := CellsAt.new w [.bool neg, .string (bs D), .int .i64 p, .int .i64 r] 94
  by_cases h : D = []
  · rw [if_pos h]
    have hf : (bs D).toList.isEmpty = true ∧ ((bs D).toList == []) = true ∧ (bs D).toList = [] := by rw [h, Lib.toList_data, bs_list]; exact ⟨rfl, rfl, rfl⟩
    obtain ⟨g1, g2, g3⟩ := hf
    have HN := Lib.hid N0
    clear N0 h
    generalize bs D = d at *
    go_enter Tryz.func87, Tryz.ntmps87
    go_upto_region 1 with fail
    generalize hX : w.alloc (Obj.cells #[.bool neg, .string d, .int .i64 p, .int .i64 r] 94) = x at *
    clear hX
    have n1 := HN.out.cell 1 _ rfl
    go_wp2_with fail
    go_ret
    exact ⟨rfl, B0.out⟩
  · rw [if_neg h]
    obtain ⟨g1, g2, g3⟩ := bs_more h
    have HN := Lib.hid N0
    clear N0 h
    generalize bs D = d at *
    cases neg with
    | true =>
      go_enter Tryz.func87, Tryz.ntmps87
      go_upto_region 1 with fail
      generalize hX : w.alloc (Obj.cells #[.bool true, .string d, .int .i64 p, .int .i64 r] 94) = x at *
      clear hX
      have n0 := HN.out.cell 0 _ rfl
      have n1 := HN.out.cell 1 _ rfl
      go_wp2_with fail
      go_ret
      exact ⟨rfl, B0.out⟩
    | false =>
      go_enter Tryz.func87, Tryz.ntmps87
      go_upto_region 1 with fail
      generalize hX : w.alloc (Obj.cells #[.bool false, .string d, .int .i64 p, .int .i64 r] 94) = x at *
      clear hX
      have n0 := HN.out.cell 0 _ rfl
      have n1 := HN.out.cell 1 _ rfl
      go_wp2_with fail
      go_ret
      exact ⟨rfl, B0.out⟩

def dgA (l : List UInt8) (i : Nat) : Int := if i < l.length then ((atB l i).toNat : Int) - 48 else 0
set_option maxHeartbeats 400000 in
theorem digitR_ok (D : ByteArray) (i : Nat) (w : World) (hd : ∀ x ∈ D.data.toList, isDig x = true) : Calls Tryz.prog 109 #[.string D, .int .i64 i] w (Same w (.int .i64 (dgA D.data.toList i))) := by
  by_cases h : i < D.size
  · have E := Lib.hid (show dgA D.data.toList i = (D[i].toNat : Int) - 48 by unfold dgA; rw [if_pos (by rw [← Lib.size_eq]; exact h), get_atB D i h])
    have hdm : 48 ≤ D[i].toNat ∧ D[i].toNat ≤ 57 := isDig_iff.1 (hd _ (by
      rw [← get_atB D i h]
      unfold atB
      have h' : i < D.data.toList.length := by rw [← Lib.size_eq]; exact h
      rw [List.getD_eq_getElem?_getD, List.getElem?_eq_getElem h']
      exact List.getElem_mem h'))
    obtain ⟨d1, d2⟩ := hdm
    clear hd
    have q1 : IntKind.u8.wrap ((D[i].toNat : Int) - 48) = (D[i].toNat : Int) - 48 := by unfold IntKind.wrap; simp [IntKind.bits, IntKind.signed]; omega
    go_enter Tryz.func109, Tryz.ntmps109
    go_wp2_with fail
    go_ret
    exact ⟨by rw [E.out]; rfl, rfl⟩
  · have E := Lib.hid (show dgA D.data.toList i = 0 by unfold dgA; rw [if_neg (by rw [← Lib.size_eq]; exact h)])
    clear hd
    go_enter Tryz.func109, Tryz.ntmps109
    go_wp2_with fail
    go_ret
    exact ⟨by rw [E.out]; rfl, rfl⟩

/-- Digits at equal places, 0 behind the last one. -/
def zleft : List UInt8 → Int
  | [] => 0
  | y :: b => thenC (cmpI 0 ((y.toNat : Int) - 48)) (zleft b)
def cmpZ : List UInt8 → List UInt8 → Int
  | [], b => zleft b
  | x :: a, b => match b with
    | [] => thenC (cmpI ((x.toNat : Int) - 48) 0) (cmpZ a [])
    | y :: b => thenC (cmpI ((x.toNat : Int) - 48) ((y.toNat : Int) - 48)) (cmpZ a b)
theorem cmpZ_step (a b : List UInt8) (h : a ≠ [] ∨ b ≠ []) : cmpZ a b = thenC (cmpI (dgA a 0) (dgA b 0)) (cmpZ (a.drop 1) (b.drop 1)) := by
  cases a with
  | nil =>
    cases b with
    | nil => simp at h
    | cons y b => rfl
  | cons x a =>
    cases b with
    | nil => rfl
    | cons y b => rfl
theorem dgA_drop (l : List UInt8) (k : Nat) : dgA (l.drop k) 0 = dgA l k := by
  unfold dgA
  rw [List.length_drop, atB_drop, Nat.add_zero]
  by_cases h : k < l.length
  · rw [if_pos h, if_pos (by omega)]
  · rw [if_neg h, if_neg (by omega)]
theorem cmpZ_at (a b : List UInt8) (k : Nat) (h : k < a.length ∨ k < b.length) : cmpZ (a.drop k) (b.drop k) = thenC (cmpI (dgA a k) (dgA b k)) (cmpZ (a.drop (k + 1)) (b.drop (k + 1))) := by
  rw [cmpZ_step _ _ (by
    rcases h with h | h
    · exact Or.inl (fun e => by have := congrArg List.length e; rw [List.length_drop] at this; simp at this; omega)
    · exact Or.inr (fun e => by have := congrArg List.length e; rw [List.length_drop] at this; simp at this; omega)), dgA_drop, dgA_drop, List.drop_drop, List.drop_drop]
theorem cmpZ_end (a b : List UInt8) (k : Nat) (h1 : a.length ≤ k) (h2 : b.length ≤ k) : cmpZ (a.drop k) (b.drop k) = 0 := by
  rw [List.drop_eq_nil_of_le h1, List.drop_eq_nil_of_le h2]; rfl
theorem trimR_tail {x : UInt8} {l : List UInt8} (h : trimR (x :: l) = x :: l) : trimR l = l ∧ (l = [] → x ≠ 48) := by
  rw [trimR_cons] at h
  by_cases k : trimR l = [] ∧ x = 48
  · rw [if_pos k] at h; cases h
  · rw [if_neg k] at h
    have e : trimR l = l := (List.cons.inj h).2
    exact ⟨e, fun hl hx => k ⟨by rw [hl]; rfl, hx⟩⟩
theorem cmpZ_left : ∀ (b : List UInt8), (∀ x ∈ b, isDig x = true) → trimR b = b → cmpZ [] b = if b = [] then 0 else -1
  | [], _, _ => rfl
  | y :: b, hd, ht => by
    have h1 := trimR_tail ht
    have hy := isDig_iff.1 (hd y (by simp))
    have ih := cmpZ_left b (fun x hx => hd x (by simp [hx])) h1.1
    rw [if_neg (by simp)]
    show thenC (cmpI 0 ((y.toNat : Int) - 48)) (cmpZ [] b) = -1
    by_cases e : y = 48
    · have hb : b ≠ [] := fun hb => h1.2 hb e
      rw [ih, if_neg hb, e]
      rfl
    · have : y.toNat ≠ 48 := fun k => e (UInt8.toNat_inj.1 k)
      have hc : cmpI 0 ((y.toNat : Int) - 48) = -1 := by unfold cmpI; rw [if_pos (by omega)]
      rw [hc]; rfl
theorem cmpZ_right : ∀ (b : List UInt8), (∀ x ∈ b, isDig x = true) → trimR b = b → cmpZ b [] = if b = [] then 0 else 1
  | [], _, _ => rfl
  | y :: b, hd, ht => by
    have h1 := trimR_tail ht
    have hy := isDig_iff.1 (hd y (by simp))
    have ih := cmpZ_right b (fun x hx => hd x (by simp [hx])) h1.1
    rw [if_neg (by simp)]
    show thenC (cmpI ((y.toNat : Int) - 48) 0) (cmpZ b []) = 1
    by_cases e : y = 48
    · have hb : b ≠ [] := fun hb => h1.2 hb e
      rw [ih, if_neg hb, e]
      rfl
    · have : y.toNat ≠ 48 := fun k => e (UInt8.toNat_inj.1 k)
      have hc : cmpI ((y.toNat : Int) - 48) 0 = 1 := by unfold cmpI; rw [if_neg (by omega), if_pos (by omega)]
      rw [hc]; rfl
theorem cmpZ_L : ∀ (a b : List UInt8), (∀ x ∈ a, isDig x = true) → (∀ x ∈ b, isDig x = true) → trimR a = a → trimR b = b → cmpZ a b = cmpL a b
  | [], b, _, hb, _, tb => by
    rw [cmpZ_left b hb tb]
    cases b with
    | nil => rfl
    | cons y b => rw [if_neg (by simp), cmpL_left]
  | x :: a, [], ha, _, ta, _ => by
    rw [cmpZ_right _ ha ta, if_neg (by simp), cmpL_right]
  | x :: a, y :: b, ha, hb, ta, tb => by
    have ih := cmpZ_L a b (fun z hz => ha z (by simp [hz])) (fun z hz => hb z (by simp [hz])) (trimR_tail ta).1 (trimR_tail tb).1
    rw [cmpL_cons]
    show thenC (cmpI ((x.toNat : Int) - 48) ((y.toNat : Int) - 48)) (cmpZ a b) = _
    rw [ih, show (x.toNat : Int) - 48 = (x.toNat : Int) + (-48) from rfl, show (y.toNat : Int) - 48 = (y.toNat : Int) + (-48) from rfl, cmpI_shift]

def sizeR (r1 p1 : Int) (D1 : List UInt8) (r2 p2 : Int) (D2 : List UInt8) : Int := thenC (cmpI r1 r2) (thenC (cmpI p1 p2) (cmpZ D1 D2))

/-- Both boxes of size. -/
structure BoxW (w wr : World) (d1 d2 : ByteArray) (p1 p2 r1 r2 : Int) : Prop where
  b : Below w.heap.size w wr
  c1 : wr.cell? ⟨w.heap.size, 1, none⟩ = some (.string d1)
  c2 : wr.cell? ⟨w.heap.size + 1, 1, none⟩ = some (.string d2)
theorem BoxW.drewN {w wr : World} {d1 d2 : ByteArray} {p1 p2 r1 r2 : Int} (h : BoxW w wr d1 d2 p1 p2 r1 r2) (n : Nat) : BoxW w (wr.drewN n) d1 d2 p1 p2 r1 r2 :=
  ⟨bdrewB h.b n, h.c1, h.c2⟩

theorem same_q {f : Nat} {args : Array Value} {w : World} {v : Value} (h : Calls Tryz.prog f args w (Same w v)) : Calls Tryz.prog f args w fun e w' => e = .returned v ∧ w' = w := h.mono fun _ _ h => ⟨h.1, h.2.symm⟩
theorem thenC_ne0 {a b : Int} (h : a ≠ 0) : thenC a b = a := thenC_ne h b
end

section


set_option maxRecDepth 100000
def SzRel (w : World) (D1 D2 : List UInt8) (d1 d2 : ByteArray) (p1 p2 r1 r2 : Int) (i : Value) (wr : World) : Prop :=
  ∃ k : Nat, i = .int .i64 k ∧ k ≤ 4000000 ∧ BoxW w wr d1 d2 p1 p2 r1 r2 ∧ cmpZ D1 D2 = cmpZ (D1.drop k) (D2.drop k)

set_option maxHeartbeats 800000 in
theorem size_r (n1 n2 : Bool) (d1 d2 : ByteArray) (p1 p2 r1 r2 : Int) (w : World) (h : r1 ≠ r2) : Calls Tryz.prog 88 #[.agg #[.bool n1, .string d1, .int .i64 p1, .int .i64 r1], .agg #[.bool n2, .string d2, .int .i64 p2, .int .i64 r2]] w (RetBelow w (.int .i64 (cmpI r1 r2))) := by
  have t1 : (r1 != r2) = true := bne_iff_ne.2 h
  clear h
  have N1' := (CellsAt.new w [.bool n1, .string d1, .int .i64 p1, .int .i64 r1] 94).alloc (Obj.cells #[.bool n2, .string d2, .int .i64 p2, .int .i64 r2] 94)
  have N2' := CellsAt.new (w.alloc (Obj.cells #[.bool n1, .string d1, .int .i64 p1, .int .i64 r1] 94)) [.bool n2, .string d2, .int .i64 p2, .int .i64 r2] 94
  rw [show (w.alloc (Obj.cells #[.bool n1, .string d1, .int .i64 p1, .int .i64 r1] 94)).heap.size = w.heap.size + 1 by simp] at N2'
  have N1 := Lib.hid N1'
  have N2 := Lib.hid N2'
  have B0 := Lib.hid (((Below.refl w.heap.size w).alloc (Nat.le_refl _) (Obj.cells #[.bool n1, .string d1, .int .i64 p1, .int .i64 r1] 94)).alloc (by simp) (Obj.cells #[.bool n2, .string d2, .int .i64 p2, .int .i64 r2] 94))
  clear N1' N2'
  go_enter Tryz.func88, Tryz.ntmps88
  go_upto_region 1 with fail
  generalize hX : (w.alloc (Obj.cells #[.bool n1, .string d1, .int .i64 p1, .int .i64 r1] 94)).alloc (Obj.cells #[.bool n2, .string d2, .int .i64 p2, .int .i64 r2] 94) = x at *
  clear hX
  have a2 := N1.out.cell 2 _ rfl
  have a3 := N1.out.cell 3 _ rfl
  have b2 := N2.out.cell 2 _ rfl
  have b3 := N2.out.cell 3 _ rfl
  go_wp2_with fail
  refine (ints_ok _ _ _).mono ?_
  rintro e w1 ⟨rfl, rfl⟩
  go_wp2_with fail
  go_ret
  exact ⟨rfl, B0.out⟩

set_option maxHeartbeats 800000 in
theorem size_p (n1 n2 : Bool) (d1 d2 : ByteArray) (p1 p2 r1 r2 : Int) (w : World) (hr : r1 = r2) (h : p1 ≠ p2) : Calls Tryz.prog 88 #[.agg #[.bool n1, .string d1, .int .i64 p1, .int .i64 r1], .agg #[.bool n2, .string d2, .int .i64 p2, .int .i64 r2]] w (RetBelow w (.int .i64 (cmpI p1 p2))) := by
  subst hr
  have t0 : (r1 != r1) = false := by simp
  have t1 : (p1 != p2) = true := bne_iff_ne.2 h
  clear h
  have N1' := (CellsAt.new w [.bool n1, .string d1, .int .i64 p1, .int .i64 r1] 94).alloc (Obj.cells #[.bool n2, .string d2, .int .i64 p2, .int .i64 r1] 94)
  have N2' := CellsAt.new (w.alloc (Obj.cells #[.bool n1, .string d1, .int .i64 p1, .int .i64 r1] 94)) [.bool n2, .string d2, .int .i64 p2, .int .i64 r1] 94
  rw [show (w.alloc (Obj.cells #[.bool n1, .string d1, .int .i64 p1, .int .i64 r1] 94)).heap.size = w.heap.size + 1 by simp] at N2'
  have N1 := Lib.hid N1'
  have N2 := Lib.hid N2'
  have B0 := Lib.hid (((Below.refl w.heap.size w).alloc (Nat.le_refl _) (Obj.cells #[.bool n1, .string d1, .int .i64 p1, .int .i64 r1] 94)).alloc (by simp) (Obj.cells #[.bool n2, .string d2, .int .i64 p2, .int .i64 r1] 94))
  clear N1' N2'
  go_enter Tryz.func88, Tryz.ntmps88
  go_upto_region 1 with fail
  generalize hX : (w.alloc (Obj.cells #[.bool n1, .string d1, .int .i64 p1, .int .i64 r1] 94)).alloc (Obj.cells #[.bool n2, .string d2, .int .i64 p2, .int .i64 r1] 94) = x at *
  clear hX
  have a2 := N1.out.cell 2 _ rfl
  have a3 := N1.out.cell 3 _ rfl
  have b2 := N2.out.cell 2 _ rfl
  have b3 := N2.out.cell 3 _ rfl
  go_wp2_with fail
  refine (ints_ok _ _ _).mono ?_
  rintro e w1 ⟨rfl, rfl⟩
  go_wp2_with fail
  go_ret
  exact ⟨rfl, B0.out⟩

set_option maxHeartbeats 3200000 in
theorem size_d (n1 n2 : Bool) (D1 D2 : List UInt8) (d1 d2 : ByteArray) (e1 : d1 = bs D1) (e2 : d2 = bs D2) (p1 r1 : Int) (w : World) (hd1 : ∀ x ∈ D1, isDig x = true) (hd2 : ∀ x ∈ D2, isDig x = true) (l1 : D1.length ≤ 2000000) (l2 : D2.length ≤ 2000000) :
    Calls Tryz.prog 88 #[.agg #[.bool n1, .string d1, .int .i64 p1, .int .i64 r1], .agg #[.bool n2, .string d2, .int .i64 p1, .int .i64 r1]] w (RetBelow w (.int .i64 (cmpZ D1 D2))) := by
  have C1 := Lib.hid (fun (k : Nat) (W : World) => digitR_ok d1 k W (by rw [e1, bs_list]; exact hd1))
  have C2 := Lib.hid (fun (k : Nat) (W : World) => digitR_ok d2 k W (by rw [e2, bs_list]; exact hd2))
  have L1 := Lib.hid (show d1.data.toList = D1 by rw [e1, bs_list])
  have L2 := Lib.hid (show d2.data.toList = D2 by rw [e2, bs_list])
  rw [L1.out] at C1
  rw [L2.out] at C2
  have z1 : d1.size = D1.length := by rw [e1, bs_size]
  have z2 : d2.size = D2.length := by rw [e2, bs_size]
  have Z1 := Lib.hid z1
  have Z2 := Lib.hid z2
  clear z1 z2 e1 e2 hd1 hd2
  have s1 : d1.size ≤ 2000000 := by rw [Z1.out]; exact l1
  have s2 : d2.size ≤ 2000000 := by rw [Z2.out]; exact l2
  clear l1 l2
  have t0 : (r1 != r1) = false := by simp
  have t1 : (p1 != p1) = false := by simp
  have N1' := (CellsAt.new w [.bool n1, .string d1, .int .i64 p1, .int .i64 r1] 94).alloc (Obj.cells #[.bool n2, .string d2, .int .i64 p1, .int .i64 r1] 94)
  have N2' := CellsAt.new (w.alloc (Obj.cells #[.bool n1, .string d1, .int .i64 p1, .int .i64 r1] 94)) [.bool n2, .string d2, .int .i64 p1, .int .i64 r1] 94
  rw [show (w.alloc (Obj.cells #[.bool n1, .string d1, .int .i64 p1, .int .i64 r1] 94)).heap.size = w.heap.size + 1 by simp] at N2'
  have N1 := Lib.hid N1'
  have N2 := Lib.hid N2'
  have B0 := Lib.hid (((Below.refl w.heap.size w).alloc (Nat.le_refl _) (Obj.cells #[.bool n1, .string d1, .int .i64 p1, .int .i64 r1] 94)).alloc (by simp) (Obj.cells #[.bool n2, .string d2, .int .i64 p1, .int .i64 r1] 94))
  clear N1' N2'
  go_enter Tryz.func88, Tryz.ntmps88
  go_upto_region 1 with fail
  generalize hX : (w.alloc (Obj.cells #[.bool n1, .string d1, .int .i64 p1, .int .i64 r1] 94)).alloc (Obj.cells #[.bool n2, .string d2, .int .i64 p1, .int .i64 r1] 94) = x at *
  clear hX
  have a2 := N1.out.cell 2 _ rfl
  have a3 := N1.out.cell 3 _ rfl
  have b2 := N2.out.cell 2 _ rfl
  have b3 := N2.out.cell 3 _ rfl
  go_wp2_with fail
  clear a2 a3 b2 b3 t0 t1
  go_loopw [5] (fun i wr => SzRel w D1 D2 d1 d2 p1 p1 r1 r1 i wr) (fun i _ => 4000000 - (intOf i).toNat)
  case atStart => exact ⟨0, rfl, by omega, ⟨B0.out, N1.out.cell 1 _ rfl, N2.out.cell 1 _ rfl⟩, rfl⟩
  case round =>
    obtain ⟨k, rfl, hk, hbx, heq⟩ := hrel
    have HB := Lib.hid hbx
    have HE := Lib.hid heq
    have c1 := hbx.c1
    have c2 := hbx.c2
    clear hbx heq
    have body : (k < d1.size ∨ k < d2.size) → cmpZ (D1.drop k) (D2.drop k) = thenC (cmpI (dgA D1 k) (dgA D2 k)) (cmpZ (D1.drop (k + 1)) (D2.drop (k + 1))) := fun h => cmpZ_at D1 D2 k (by rw [← Z1.out, ← Z2.out]; exact h)
    have BODY := Lib.hid body
    clear body
    have K1 := Lib.hid (fun W => same_q (C1.out k W))
    have K2 := Lib.hid (fun W => same_q (C2.out k W))
    by_cases h1 : k < d1.size
    · have HD := Lib.hid (BODY.out (Or.inl h1))
      by_cases hz : dgA D1 k = dgA D2 k
      · have HZ := Lib.hid (show cmpI (dgA D1 k) (dgA D2 k) = 0 by rw [hz]; unfold cmpI; simp)
        have t3 : (dgA D1 k != dgA D2 k) = false := by rw [hz]; simp
        clear hz
        generalize dgA D1 k = x1 at *
        generalize dgA D2 k = x2 at *
        go_wp2_with fail
        go_quiet ((go_at_call 109; first | with_reducible exact Calls.quiet_of_same (K1.out _) | with_reducible exact Calls.quiet_of_same (K2.out _)))
        go_wp2_with fail
        go_roundw
        case rel => exact ⟨k + 1, by go_num, by omega, HB.out.drewN _, by rw [HE.out, HD.out, HZ.out, thenC_zero]⟩
        case measure => simp [intOf]; omega
      · have HZ := Lib.hid (show cmpI (dgA D1 k) (dgA D2 k) ≠ 0 from fun h => hz (cmpI_zero h))
        have t3 : (dgA D1 k != dgA D2 k) = true := bne_iff_ne.2 hz
        clear hz
        generalize dgA D1 k = x1 at *
        generalize dgA D2 k = x2 at *
        have HI := Lib.hid (fun W => ints_ok x1 x2 W)
        go_wp2_with fail
        go_quiet ((go_at_call 109; first | with_reducible exact Calls.quiet_of_same (K1.out _) | with_reducible exact Calls.quiet_of_same (K2.out _)))
        go_wp2_with fail
        have HB9 := Lib.hid (HB.out.drewN nq)
        generalize wr.drewN nq = w9 at *
        have c19 := HB9.out.c1
        have c29 := HB9.out.c2
        go_quiet ((first | (go_at_call 109; first | with_reducible exact Calls.quiet_of_same (K1.out _) | with_reducible exact Calls.quiet_of_same (K2.out _)) | (go_at_call 64; exact Calls.quiet_of_same ((HI.out _).mono fun _ _ h => ⟨h.1, h.2.symm⟩))))
        go_wp2_with fail
        go_ret
        exact ⟨by rw [HE.out, HD.out, thenC_ne0 HZ.out]; rfl, (HB9.out.drewN _).b⟩
    · by_cases h2 : k < d2.size
      · have HD := Lib.hid (BODY.out (Or.inr h2))
        by_cases hz : dgA D1 k = dgA D2 k
        · have HZ := Lib.hid (show cmpI (dgA D1 k) (dgA D2 k) = 0 by rw [hz]; unfold cmpI; simp)
          have t3 : (dgA D1 k != dgA D2 k) = false := by rw [hz]; simp
          clear hz
          generalize dgA D1 k = x1 at *
          generalize dgA D2 k = x2 at *
          go_wp2_with fail
          go_quiet ((go_at_call 109; first | with_reducible exact Calls.quiet_of_same (K1.out _) | with_reducible exact Calls.quiet_of_same (K2.out _)))
          go_wp2_with fail
          go_roundw
          case rel => exact ⟨k + 1, by go_num, by omega, HB.out.drewN _, by rw [HE.out, HD.out, HZ.out, thenC_zero]⟩
          case measure => simp [intOf]; omega
        · have HZ := Lib.hid (show cmpI (dgA D1 k) (dgA D2 k) ≠ 0 from fun h => hz (cmpI_zero h))
          have t3 : (dgA D1 k != dgA D2 k) = true := bne_iff_ne.2 hz
          clear hz
          generalize dgA D1 k = x1 at *
          generalize dgA D2 k = x2 at *
          have HI := Lib.hid (fun W => ints_ok x1 x2 W)
          go_wp2_with fail
          go_quiet ((go_at_call 109; first | with_reducible exact Calls.quiet_of_same (K1.out _) | with_reducible exact Calls.quiet_of_same (K2.out _)))
          go_wp2_with fail
          have HB9 := Lib.hid (HB.out.drewN nq)
          generalize wr.drewN nq = w9 at *
          have c19 := HB9.out.c1
          have c29 := HB9.out.c2
          go_quiet ((first | (go_at_call 109; first | with_reducible exact Calls.quiet_of_same (K1.out _) | with_reducible exact Calls.quiet_of_same (K2.out _)) | (go_at_call 64; exact Calls.quiet_of_same ((HI.out _).mono fun _ _ h => ⟨h.1, h.2.symm⟩))))
          go_wp2_with fail
          go_ret
          exact ⟨by rw [HE.out, HD.out, thenC_ne0 HZ.out]; rfl, (HB9.out.drewN _).b⟩
      · have HD := Lib.hid (cmpZ_end D1 D2 k (by rw [← Z1.out]; omega) (by rw [← Z2.out]; omega))
        go_wp2_with fail
        go_ret
        exact ⟨by rw [HE.out, HD.out]; rfl, HB.out.b⟩


theorem size_ok (n1 n2 : Bool) (D1 D2 : List UInt8) (p1 p2 r1 r2 : Int) (w : World) (hd1 : ∀ x ∈ D1, isDig x = true) (hd2 : ∀ x ∈ D2, isDig x = true) (l1 : D1.length ≤ 2000000) (l2 : D2.length ≤ 2000000) :
    Calls Tryz.prog 88 #[numV n1 (bs D1) p1 r1, numV n2 (bs D2) p2 r2] w (RetBelow w (.int .i64 (sizeR r1 p1 D1 r2 p2 D2))) := by
  unfold numV sizeR
  have hc : ∀ a b : Int, a ≠ b → cmpI a b ≠ 0 := fun a b h k => h (cmpI_zero k)
  have hs : ∀ a : Int, cmpI a a = 0 := fun a => by unfold cmpI; simp
  by_cases hr : r1 = r2
  · by_cases hp : p1 = p2
    · subst hr; subst hp
      rw [hs, hs, thenC_zero, thenC_zero]
      exact size_d n1 n2 D1 D2 _ _ rfl rfl p1 r1 w hd1 hd2 l1 l2
    · rw [hr, hs, thenC_zero, thenC_ne (hc _ _ hp)]
      exact size_p n1 n2 _ _ p1 p2 r2 r2 w rfl hp
  · rw [thenC_ne (hc _ _ hr)]
    exact size_r n1 n2 _ _ p1 p2 r1 r2 w hr

/-- Order. -/
def orderR (n1 : Bool) (D1 : List UInt8) (p1 r1 : Int) (n2 : Bool) (D2 : List UInt8) (p2 r2 : Int) : Int :=
  if sgn n1 D1 ≠ sgn n2 D2 ∨ sgn n1 D1 = 0 then cmpI (sgn n1 D1) (sgn n2 D2) else sgn n1 D1 * sizeR r1 p1 D1 r2 p2 D2
theorem cmpI_rng (a b : Int) : -1 ≤ cmpI a b ∧ cmpI a b ≤ 1 := by unfold cmpI; split <;> (try split) <;> omega
theorem cmpZ_rng : ∀ a b : List UInt8, -1 ≤ cmpZ a b ∧ cmpZ a b ≤ 1
  | [], [] => by decide
  | [], y :: b => by
    show -1 ≤ thenC _ _ ∧ thenC _ _ ≤ 1
    unfold thenC
    have := cmpI_rng 0 ((y.toNat : Int) - 48)
    have : -1 ≤ zleft b ∧ zleft b ≤ 1 := cmpZ_rng [] b
    split <;> omega
  | x :: a, [] => by
    show -1 ≤ thenC _ _ ∧ thenC _ _ ≤ 1
    unfold thenC
    have := cmpI_rng ((x.toNat : Int) - 48) 0
    have := cmpZ_rng a []
    split <;> omega
  | x :: a, y :: b => by
    show -1 ≤ thenC _ _ ∧ thenC _ _ ≤ 1
    unfold thenC
    have := cmpI_rng ((x.toNat : Int) - 48) ((y.toNat : Int) - 48)
    have := cmpZ_rng a b
    split <;> omega
theorem sizeR_rng (r1 p1 : Int) (D1 : List UInt8) (r2 p2 : Int) (D2 : List UInt8) : -1 ≤ sizeR r1 p1 D1 r2 p2 D2 ∧ sizeR r1 p1 D1 r2 p2 D2 ≤ 1 := by
  have h1 := cmpI_rng r1 r2
  have h2 := cmpI_rng p1 p2
  have h3 := cmpZ_rng D1 D2
  unfold sizeR thenC
  split
  · omega
  · split <;> omega

set_option maxHeartbeats 1600000 in
theorem order_ok (n1 n2 : Bool) (D1 D2 : List UInt8) (p1 p2 r1 r2 : Int) (w : World) (hd1 : ∀ x ∈ D1, isDig x = true) (hd2 : ∀ x ∈ D2, isDig x = true) (l1 : D1.length ≤ 2000000) (l2 : D2.length ≤ 2000000) :
    Calls Tryz.prog 61 #[numV n1 (bs D1) p1 r1, numV n2 (bs D2) p2 r2] w (RetBelow w (.int .i64 (orderR n1 D1 p1 r1 n2 D2 p2 r2))) := by
  have S1 := Lib.hid (fun W : World => sign_ok n1 D1 p1 r1 W)
  have S2 := Lib.hid (fun W : World => sign_ok n2 D2 p2 r2 W)
  have SZ := Lib.hid (fun W : World => size_ok n1 n2 D1 D2 p1 p2 r1 r2 W hd1 hd2 l1 l2)
  have rg := sizeR_rng r1 p1 D1 r2 p2 D2
  have g1 : sgn n1 D1 = 0 ∨ sgn n1 D1 = 1 ∨ sgn n1 D1 = -1 := by unfold sgn; split; exact Or.inl rfl; split; exact Or.inr (Or.inr rfl); exact Or.inr (Or.inl rfl)
  have EO : orderR n1 D1 p1 r1 n2 D2 p2 r2 = if sgn n1 D1 ≠ sgn n2 D2 ∨ sgn n1 D1 = 0 then cmpI (sgn n1 D1) (sgn n2 D2) else sgn n1 D1 * sizeR r1 p1 D1 r2 p2 D2 := rfl
  unfold numV at S1 S2 SZ ⊢
  clear hd1 hd2 l1 l2
  generalize sizeR r1 p1 D1 r2 p2 D2 = z at *
  generalize bs D1 = d1 at *
  generalize bs D2 = d2 at *
  generalize sgn n1 D1 = x1 at *
  generalize sgn n2 D2 = x2 at *
  have N1' := (CellsAt.new w [.bool n1, .string d1, .int .i64 p1, .int .i64 r1] 94).alloc (Obj.cells #[.bool n2, .string d2, .int .i64 p2, .int .i64 r2] 94)
  have N2' := CellsAt.new (w.alloc (Obj.cells #[.bool n1, .string d1, .int .i64 p1, .int .i64 r1] 94)) [.bool n2, .string d2, .int .i64 p2, .int .i64 r2] 94
  rw [show (w.alloc (Obj.cells #[.bool n1, .string d1, .int .i64 p1, .int .i64 r1] 94)).heap.size = w.heap.size + 1 by simp] at N2'
  have N1 := Lib.hid N1'
  have N2 := Lib.hid N2'
  have B0 := Lib.hid (((Below.refl w.heap.size w).alloc (Nat.le_refl _) (Obj.cells #[.bool n1, .string d1, .int .i64 p1, .int .i64 r1] 94)).alloc (by simp) (Obj.cells #[.bool n2, .string d2, .int .i64 p2, .int .i64 r2] 94))
  clear N1' N2'
  by_cases hne : x1 = x2
  · subst hne
    have t1 : (x1 != x1) = false := by simp
    by_cases h0 : x1 = 0
    · subst h0
      rw [if_pos (Or.inr rfl)] at EO
      have HEO := Lib.hid EO
      clear EO g1 SZ rg
      go_enter Tryz.func61, Tryz.ntmps61
      go_upto_region 1 with fail
      generalize hX : (w.alloc (Obj.cells #[.bool n1, .string d1, .int .i64 p1, .int .i64 r1] 94)).alloc (Obj.cells #[.bool n2, .string d2, .int .i64 p2, .int .i64 r2] 94) = x at *
      clear hX
      have a0 := N1.out.cell 0 _ rfl
      have a1 := N1.out.cell 1 _ rfl
      have a2 := N1.out.cell 2 _ rfl
      have a3 := N1.out.cell 3 _ rfl
      go_wp2_with fail
      refine (S1.out _).mono ?_
      rintro e w1 ⟨rfl, hb1⟩
      have M1 := Lib.hid (N1.out.step hb1)
      have M2 := Lib.hid (N2.out.step hb1)
      have B1 := Lib.hid (B0.out.trans (hb1.mono B0.out.size))
      clear hb1 a0 a1 a2 a3
      have b0 := M2.out.cell 0 _ rfl
      have b1 := M2.out.cell 1 _ rfl
      have b2 := M2.out.cell 2 _ rfl
      have b3 := M2.out.cell 3 _ rfl
      go_wp2_with fail
      refine (S2.out _).mono ?_
      rintro e w2 ⟨rfl, hb2⟩
      have L1 := Lib.hid (M1.out.step hb2)
      have L2 := Lib.hid (M2.out.step hb2)
      have B2 := Lib.hid (B1.out.trans (hb2.mono B1.out.size))
      clear hb2 b0 b1 b2 b3
      go_wp2_with fail
      refine (ints_ok _ _ _).mono ?_
      rintro e w3 ⟨rfl, rfl⟩
      go_wp2_with fail
      go_ret
      exact ⟨by rw [HEO.out]; rfl, B2.out⟩
    · rw [if_neg (by omega)] at EO
      have t2 : (x1 == 0) = false := by simpa using h0
      have hx : -1 ≤ x1 * z ∧ x1 * z ≤ 1 := by
        rcases g1 with h | h | h
        · exact absurd h h0
        · rw [h]; omega
        · rw [h]; omega
      have HX := Lib.hid (show wrap64 (x1 * z) = x1 * z by unfold wrap64; omega)
      have HX2 := Lib.hid (show IntKind.i64.wrap (x1 * z) = x1 * z by rw [IntKind.wrap_i64]; omega)
      have HEO := Lib.hid EO
      have hxl := hx.1
      have hxr := hx.2
      clear EO g1 rg hx h0
      go_enter Tryz.func61, Tryz.ntmps61
      go_upto_region 1 with fail
      generalize hX : (w.alloc (Obj.cells #[.bool n1, .string d1, .int .i64 p1, .int .i64 r1] 94)).alloc (Obj.cells #[.bool n2, .string d2, .int .i64 p2, .int .i64 r2] 94) = x at *
      clear hX
      have a0 := N1.out.cell 0 _ rfl
      have a1 := N1.out.cell 1 _ rfl
      have a2 := N1.out.cell 2 _ rfl
      have a3 := N1.out.cell 3 _ rfl
      go_wp2_with fail
      refine (S1.out _).mono ?_
      rintro e w1 ⟨rfl, hb1⟩
      have M1 := Lib.hid (N1.out.step hb1)
      have M2 := Lib.hid (N2.out.step hb1)
      have B1 := Lib.hid (B0.out.trans (hb1.mono B0.out.size))
      clear hb1 a0 a1 a2 a3
      have b0 := M2.out.cell 0 _ rfl
      have b1 := M2.out.cell 1 _ rfl
      have b2 := M2.out.cell 2 _ rfl
      have b3 := M2.out.cell 3 _ rfl
      go_wp2_with fail
      refine (S2.out _).mono ?_
      rintro e w2 ⟨rfl, hb2⟩
      have L1 := Lib.hid (M1.out.step hb2)
      have L2 := Lib.hid (M2.out.step hb2)
      have B2 := Lib.hid (B1.out.trans (hb2.mono B1.out.size))
      clear hb2 b0 b1 b2 b3
      have a0 := L1.out.cell 0 _ rfl
      have a1 := L1.out.cell 1 _ rfl
      have a2 := L1.out.cell 2 _ rfl
      have a3 := L1.out.cell 3 _ rfl
      have b0 := L2.out.cell 0 _ rfl
      have b1 := L2.out.cell 1 _ rfl
      have b2 := L2.out.cell 2 _ rfl
      have b3 := L2.out.cell 3 _ rfl
      go_wp2_with fail
      refine (SZ.out _).mono ?_
      rintro e w3 ⟨rfl, hb3⟩
      have B3 := Lib.hid (B2.out.trans (hb3.mono B2.out.size))
      clear hb3
      go_wp2_with fail
      go_ret
      exact ⟨by rw [HEO.out]; rfl, B3.out⟩
  · rw [if_pos (Or.inl hne)] at EO
    have t1 : (x1 != x2) = true := bne_iff_ne.2 hne
    have HEO := Lib.hid EO
    clear EO g1 SZ rg hne
    go_enter Tryz.func61, Tryz.ntmps61
    go_upto_region 1 with fail
    generalize hX : (w.alloc (Obj.cells #[.bool n1, .string d1, .int .i64 p1, .int .i64 r1] 94)).alloc (Obj.cells #[.bool n2, .string d2, .int .i64 p2, .int .i64 r2] 94) = x at *
    clear hX
    have a0 := N1.out.cell 0 _ rfl
    have a1 := N1.out.cell 1 _ rfl
    have a2 := N1.out.cell 2 _ rfl
    have a3 := N1.out.cell 3 _ rfl
    go_wp2_with fail
    refine (S1.out _).mono ?_
    rintro e w1 ⟨rfl, hb1⟩
    have M1 := Lib.hid (N1.out.step hb1)
    have M2 := Lib.hid (N2.out.step hb1)
    have B1 := Lib.hid (B0.out.trans (hb1.mono B0.out.size))
    clear hb1 a0 a1 a2 a3
    have b0 := M2.out.cell 0 _ rfl
    have b1 := M2.out.cell 1 _ rfl
    have b2 := M2.out.cell 2 _ rfl
    have b3 := M2.out.cell 3 _ rfl
    go_wp2_with fail
    refine (S2.out _).mono ?_
    rintro e w2 ⟨rfl, hb2⟩
    have L1 := Lib.hid (M1.out.step hb2)
    have L2 := Lib.hid (M2.out.step hb2)
    have B2 := Lib.hid (B1.out.trans (hb2.mono B1.out.size))
    clear hb2 b0 b1 b2 b3
    go_wp2_with fail
    refine (ints_ok _ _ _).mono ?_
    rintro e w3 ⟨rfl, rfl⟩
    go_wp2_with fail
    go_ret
    exact ⟨by rw [HEO.out]; rfl, B2.out⟩

end

section


set_option maxRecDepth 100000
theorem numR_end (a : Act) (X : World) (w : World) (v0 v1 v2 v3 : Value) (hp : a.tmps.getD 4 undef = .pointer (some ⟨w.heap.size, 0, none⟩)) (hd : a.defers = [])
    (hX : CellsAt X w.heap.size [.bool false, .string ⟨#[]⟩, .int .i64 0, .int .i64 0]) (hB : Below w.heap.size w X) :
    bodyPost Tryz.prog Tryz.f62 (RetBelow w (.agg #[v0, v1, v2, v3])) Exit.ret a ((((X.setCell ⟨w.heap.size, 0, none⟩ v0).setCell ⟨w.heap.size, 1, none⟩ v1).setCell ⟨w.heap.size, 2, none⟩ v2).setCell ⟨w.heap.size, 3, none⟩ v3) := by
  have C := (((hX.set 0 v0 (by simp)).set 1 v1 (by simp)).set 2 v2 (by simp)).set 3 v3 (by simp)
  have hp2 := hp
  simp only [Array.getD_eq_getD_getElem?] at hp2
  have BX := (((hB.setCell (p := ⟨w.heap.size, 0, none⟩) (by simp) v0).setCell (p := ⟨w.heap.size, 1, none⟩) (by simp) v1).setCell (p := ⟨w.heap.size, 2, none⟩) (by simp) v2).setCell (p := ⟨w.heap.size, 3, none⟩) (by simp) v3
  generalize (((X.setCell ⟨w.heap.size, 0, none⟩ v0).setCell ⟨w.heap.size, 1, none⟩ v1).setCell ⟨w.heap.size, 2, none⟩ v2).setCell ⟨w.heap.size, 3, none⟩ v3 = Y at *
  have c0 := C.cell 0 _ rfl
  have c1 := C.cell 1 _ rfl
  have c2 := C.cell 2 _ rfl
  have c3 := C.cell 3 _ rfl
  exact bodyPost_ret (v := .agg #[v0, v1, v2, v3]) (by simp [results, Tryz.results62, go_sem, hp2, c0, c1, c2, c3]) hd ⟨rfl, BX⟩

set_option maxHeartbeats 1600000 in
theorem number_n (s A nd : ByteArray) (a nn : Bool) (b q np : Int) (w : World) 
    (SG : Hid (∀ W, Calls Tryz.prog 89 #[.string s] W (RetBelow W (.tuple #[.agg #[.bool a, .string A, .int .i64 b, .int .i64 0], .int .i64 q]))))
    (NC : Hid (∀ W, Calls Tryz.prog 90 #[.agg #[.bool a, .string A, .int .i64 b, .int .i64 0]] W (RetBelow W (.agg #[.bool nn, .string nd, .int .i64 np, .int .i64 0])))) :
    Calls Tryz.prog 62 #[.int .i64 16, .string s] w (RetBelow w (.agg #[.bool nn, .string nd, .int .i64 np, .int .i64 0])) := by
  have A0 := Lib.hid (CellsAt.new w [.bool false, .string ⟨#[]⟩, .int .i64 0, .int .i64 0] 94)
  have B0 := Lib.hid ((Below.refl w.heap.size w).alloc (Nat.le_refl _) (Obj.cells #[.bool false, .string ⟨#[]⟩, .int .i64 0, .int .i64 0] 94))
  go_enter Tryz.func62, Tryz.ntmps62
  go_upto_region 1 with fail
  generalize hX : w.alloc (Obj.cells #[.bool false, .string ⟨#[]⟩, .int .i64 0, .int .i64 0] 94) = x at *
  clear hX
  go_wp2_with fail
  refine (SG.out _).mono ?_
  rintro e w1 ⟨rfl, hb1⟩
  have A1 := Lib.hid ((A0.out.step hb1).alloc (Obj.cells #[.bool a, .string A, .int .i64 b, .int .i64 0] 94))
  have N1 := Lib.hid (CellsAt.new w1 [.bool a, .string A, .int .i64 b, .int .i64 0] 94)
  have B1 := Lib.hid ((B0.out.trans (hb1.mono B0.out.size)).alloc (Nat.le_trans B0.out.size hb1.size) (Obj.cells #[.bool a, .string A, .int .i64 b, .int .i64 0] 94))
  have hl : w.heap.size < w1.heap.size := Nat.lt_of_lt_of_le A0.out.lt hb1.size
  clear hb1
  go_upto_region 2 with fail
  generalize hX : w1.alloc (Obj.cells #[.bool a, .string A, .int .i64 b, .int .i64 0] 94) = x1 at *
  clear hX
  have n0 := N1.out.cell 0 _ rfl
  have n1 := N1.out.cell 1 _ rfl
  have n2 := N1.out.cell 2 _ rfl
  have n3 := N1.out.cell 3 _ rfl
  go_wp2_with fail
  refine (NC.out _).mono ?_
  rintro e w2 ⟨rfl, hb2⟩
  have A2 := Lib.hid (A1.out.step hb2)
  have N2 := Lib.hid (N1.out.step hb2)
  have B2 := Lib.hid (B1.out.trans (hb2.mono B1.out.size))
  clear hb2 n0 n1 n2 n3
  have n0 := N2.out.cell 0 _ rfl
  have n1 := N2.out.cell 1 _ rfl
  have n2 := N2.out.cell 2 _ rfl
  have n3 := N2.out.cell 3 _ rfl
  have nf0 := N2.out.free 0
  have nf1 := N2.out.free 1
  have nf2 := N2.out.free 2
  have nf3 := N2.out.free 3
  have N3 := Lib.hid ((((N2.out.set 0 (.bool nn) (by simp)).set 1 (.string nd) (by simp)).set 2 (.int .i64 np) (by simp)).set 3 (.int .i64 0) (by simp))
  have A3 := Lib.hid ((((A2.out.other (show w1.heap.size ≠ w.heap.size by omega) 0 (.bool nn)).other (show w1.heap.size ≠ w.heap.size by omega) 1 (.string nd)).other (show w1.heap.size ≠ w.heap.size by omega) 2 (.int .i64 np)).other (show w1.heap.size ≠ w.heap.size by omega) 3 (.int .i64 0))
  have B3 := Lib.hid ((((B2.out.setCell (p := ⟨w1.heap.size, 0, none⟩) (by simp; omega) (.bool nn)).setCell (p := ⟨w1.heap.size, 1, none⟩) (by simp; omega) (.string nd)).setCell (p := ⟨w1.heap.size, 2, none⟩) (by simp; omega) (.int .i64 np)).setCell (p := ⟨w1.heap.size, 3, none⟩) (by simp; omega) (.int .i64 0))
  have nl := N2.out.lt
  go_upto_region 3 with fail
  generalize hX : (((w2.setCell ⟨w1.heap.size, 0, none⟩ (.bool nn)).setCell ⟨w1.heap.size, 1, none⟩ (.string nd)).setCell ⟨w1.heap.size, 2, none⟩ (.int .i64 np)).setCell ⟨w1.heap.size, 3, none⟩ (.int .i64 0) = x3 at *
  clear hX n0 n1 n2 n3 nf0 nf1 nf2 nf3
  have n0 := N3.out.cell 0 _ rfl
  have n1 := N3.out.cell 1 _ rfl
  have n2 := N3.out.cell 2 _ rfl
  have n3 := N3.out.cell 3 _ rfl
  have a0 := A3.out.cell 0 _ rfl
  have a1 := A3.out.cell 1 _ rfl
  have a2 := A3.out.cell 2 _ rfl
  have a3 := A3.out.cell 3 _ rfl
  have af0 := A3.out.free 0
  have af1 := A3.out.free 1
  have af2 := A3.out.free 2
  have af3 := A3.out.free 3
  go_wp2_with fail
  exact numR_end _ _ w _ _ _ _ rfl rfl A3.out B3.out

set_option maxHeartbeats 1600000 in
theorem number_hempty (s A nd : ByteArray) (a nn : Bool) (b q np : Int) (w : World) (g1 : nd.toList.isEmpty = true) (g2 : (nd.toList == []) = true) (g3 : nd.toList = [])
    (SG : Hid (∀ W, Calls Tryz.prog 89 #[.string s] W (RetBelow W (.tuple #[.agg #[.bool a, .string A, .int .i64 b, .int .i64 0], .int .i64 q]))))
    (NC : Hid (∀ W, Calls Tryz.prog 90 #[.agg #[.bool a, .string A, .int .i64 b, .int .i64 0]] W (RetBelow W (.agg #[.bool nn, .string nd, .int .i64 np, .int .i64 0])))) :
    Calls Tryz.prog 62 #[.int .i64 64, .string s] w (RetBelow w (.agg #[.bool nn, .string nd, .int .i64 np, .int .i64 0])) := by
  have A0 := Lib.hid (CellsAt.new w [.bool false, .string ⟨#[]⟩, .int .i64 0, .int .i64 0] 94)
  have B0 := Lib.hid ((Below.refl w.heap.size w).alloc (Nat.le_refl _) (Obj.cells #[.bool false, .string ⟨#[]⟩, .int .i64 0, .int .i64 0] 94))
  go_enter Tryz.func62, Tryz.ntmps62
  go_upto_region 1 with fail
  generalize hX : w.alloc (Obj.cells #[.bool false, .string ⟨#[]⟩, .int .i64 0, .int .i64 0] 94) = x at *
  clear hX
  go_wp2_with fail
  refine (SG.out _).mono ?_
  rintro e w1 ⟨rfl, hb1⟩
  have A1 := Lib.hid ((A0.out.step hb1).alloc (Obj.cells #[.bool a, .string A, .int .i64 b, .int .i64 0] 94))
  have N1 := Lib.hid (CellsAt.new w1 [.bool a, .string A, .int .i64 b, .int .i64 0] 94)
  have B1 := Lib.hid ((B0.out.trans (hb1.mono B0.out.size)).alloc (Nat.le_trans B0.out.size hb1.size) (Obj.cells #[.bool a, .string A, .int .i64 b, .int .i64 0] 94))
  have hl : w.heap.size < w1.heap.size := Nat.lt_of_lt_of_le A0.out.lt hb1.size
  clear hb1
  go_upto_region 2 with fail
  generalize hX : w1.alloc (Obj.cells #[.bool a, .string A, .int .i64 b, .int .i64 0] 94) = x1 at *
  clear hX
  have n0 := N1.out.cell 0 _ rfl
  have n1 := N1.out.cell 1 _ rfl
  have n2 := N1.out.cell 2 _ rfl
  have n3 := N1.out.cell 3 _ rfl
  go_wp2_with fail
  refine (NC.out _).mono ?_
  rintro e w2 ⟨rfl, hb2⟩
  have A2 := Lib.hid (A1.out.step hb2)
  have N2 := Lib.hid (N1.out.step hb2)
  have B2 := Lib.hid (B1.out.trans (hb2.mono B1.out.size))
  clear hb2 n0 n1 n2 n3
  have n0 := N2.out.cell 0 _ rfl
  have n1 := N2.out.cell 1 _ rfl
  have n2 := N2.out.cell 2 _ rfl
  have n3 := N2.out.cell 3 _ rfl
  have nf0 := N2.out.free 0
  have nf1 := N2.out.free 1
  have nf2 := N2.out.free 2
  have nf3 := N2.out.free 3
  have N3 := Lib.hid ((((N2.out.set 0 (.bool nn) (by simp)).set 1 (.string nd) (by simp)).set 2 (.int .i64 np) (by simp)).set 3 (.int .i64 0) (by simp))
  have A3 := Lib.hid ((((A2.out.other (show w1.heap.size ≠ w.heap.size by omega) 0 (.bool nn)).other (show w1.heap.size ≠ w.heap.size by omega) 1 (.string nd)).other (show w1.heap.size ≠ w.heap.size by omega) 2 (.int .i64 np)).other (show w1.heap.size ≠ w.heap.size by omega) 3 (.int .i64 0))
  have B3 := Lib.hid ((((B2.out.setCell (p := ⟨w1.heap.size, 0, none⟩) (by simp; omega) (.bool nn)).setCell (p := ⟨w1.heap.size, 1, none⟩) (by simp; omega) (.string nd)).setCell (p := ⟨w1.heap.size, 2, none⟩) (by simp; omega) (.int .i64 np)).setCell (p := ⟨w1.heap.size, 3, none⟩) (by simp; omega) (.int .i64 0))
  have nl := N2.out.lt
  go_upto_region 3 with fail
  generalize hX : (((w2.setCell ⟨w1.heap.size, 0, none⟩ (.bool nn)).setCell ⟨w1.heap.size, 1, none⟩ (.string nd)).setCell ⟨w1.heap.size, 2, none⟩ (.int .i64 np)).setCell ⟨w1.heap.size, 3, none⟩ (.int .i64 0) = x3 at *
  clear hX n0 n1 n2 n3 nf0 nf1 nf2 nf3
  have n0 := N3.out.cell 0 _ rfl
  have n1 := N3.out.cell 1 _ rfl
  have n2 := N3.out.cell 2 _ rfl
  have n3 := N3.out.cell 3 _ rfl
  have a0 := A3.out.cell 0 _ rfl
  have a1 := A3.out.cell 1 _ rfl
  have a2 := A3.out.cell 2 _ rfl
  have a3 := A3.out.cell 3 _ rfl
  have af0 := A3.out.free 0
  have af1 := A3.out.free 1
  have af2 := A3.out.free 2
  have af3 := A3.out.free 3
  go_wp2_with fail
  exact numR_end _ _ w _ _ _ _ rfl rfl A3.out B3.out

set_option maxHeartbeats 1600000 in
theorem number_hfull (s A nd : ByteArray) (a nn : Bool) (b q np : Int) (w : World) (g1 : nd.toList.isEmpty = false) (g2 : (nd.toList == []) = false) (g3 : ¬ nd.toList = []) (hv0 : Value) (r : Int) (HC : Hid (∀ W, Calls Tryz.prog 91 #[.string s] W (RetBelow W (.tuple #[hv0, .int .i64 r]))))
    (SG : Hid (∀ W, Calls Tryz.prog 89 #[.string s] W (RetBelow W (.tuple #[.agg #[.bool a, .string A, .int .i64 b, .int .i64 0], .int .i64 q]))))
    (NC : Hid (∀ W, Calls Tryz.prog 90 #[.agg #[.bool a, .string A, .int .i64 b, .int .i64 0]] W (RetBelow W (.agg #[.bool nn, .string nd, .int .i64 np, .int .i64 0])))) :
    Calls Tryz.prog 62 #[.int .i64 64, .string s] w (RetBelow w (.agg #[.bool nn, .string nd, .int .i64 np, .int .i64 r])) := by
  have A0 := Lib.hid (CellsAt.new w [.bool false, .string ⟨#[]⟩, .int .i64 0, .int .i64 0] 94)
  have B0 := Lib.hid ((Below.refl w.heap.size w).alloc (Nat.le_refl _) (Obj.cells #[.bool false, .string ⟨#[]⟩, .int .i64 0, .int .i64 0] 94))
  go_enter Tryz.func62, Tryz.ntmps62
  go_upto_region 1 with fail
  generalize hX : w.alloc (Obj.cells #[.bool false, .string ⟨#[]⟩, .int .i64 0, .int .i64 0] 94) = x at *
  clear hX
  go_wp2_with fail
  refine (SG.out _).mono ?_
  rintro e w1 ⟨rfl, hb1⟩
  have A1 := Lib.hid ((A0.out.step hb1).alloc (Obj.cells #[.bool a, .string A, .int .i64 b, .int .i64 0] 94))
  have N1 := Lib.hid (CellsAt.new w1 [.bool a, .string A, .int .i64 b, .int .i64 0] 94)
  have B1 := Lib.hid ((B0.out.trans (hb1.mono B0.out.size)).alloc (Nat.le_trans B0.out.size hb1.size) (Obj.cells #[.bool a, .string A, .int .i64 b, .int .i64 0] 94))
  have hl : w.heap.size < w1.heap.size := Nat.lt_of_lt_of_le A0.out.lt hb1.size
  clear hb1
  go_upto_region 2 with fail
  generalize hX : w1.alloc (Obj.cells #[.bool a, .string A, .int .i64 b, .int .i64 0] 94) = x1 at *
  clear hX
  have n0 := N1.out.cell 0 _ rfl
  have n1 := N1.out.cell 1 _ rfl
  have n2 := N1.out.cell 2 _ rfl
  have n3 := N1.out.cell 3 _ rfl
  go_wp2_with fail
  refine (NC.out _).mono ?_
  rintro e w2 ⟨rfl, hb2⟩
  have A2 := Lib.hid (A1.out.step hb2)
  have N2 := Lib.hid (N1.out.step hb2)
  have B2 := Lib.hid (B1.out.trans (hb2.mono B1.out.size))
  clear hb2 n0 n1 n2 n3
  have n0 := N2.out.cell 0 _ rfl
  have n1 := N2.out.cell 1 _ rfl
  have n2 := N2.out.cell 2 _ rfl
  have n3 := N2.out.cell 3 _ rfl
  have nf0 := N2.out.free 0
  have nf1 := N2.out.free 1
  have nf2 := N2.out.free 2
  have nf3 := N2.out.free 3
  have N3 := Lib.hid ((((N2.out.set 0 (.bool nn) (by simp)).set 1 (.string nd) (by simp)).set 2 (.int .i64 np) (by simp)).set 3 (.int .i64 0) (by simp))
  have A3 := Lib.hid ((((A2.out.other (show w1.heap.size ≠ w.heap.size by omega) 0 (.bool nn)).other (show w1.heap.size ≠ w.heap.size by omega) 1 (.string nd)).other (show w1.heap.size ≠ w.heap.size by omega) 2 (.int .i64 np)).other (show w1.heap.size ≠ w.heap.size by omega) 3 (.int .i64 0))
  have B3 := Lib.hid ((((B2.out.setCell (p := ⟨w1.heap.size, 0, none⟩) (by simp; omega) (.bool nn)).setCell (p := ⟨w1.heap.size, 1, none⟩) (by simp; omega) (.string nd)).setCell (p := ⟨w1.heap.size, 2, none⟩) (by simp; omega) (.int .i64 np)).setCell (p := ⟨w1.heap.size, 3, none⟩) (by simp; omega) (.int .i64 0))
  have nl := N2.out.lt
  go_upto_region 3 with fail
  generalize hX : (((w2.setCell ⟨w1.heap.size, 0, none⟩ (.bool nn)).setCell ⟨w1.heap.size, 1, none⟩ (.string nd)).setCell ⟨w1.heap.size, 2, none⟩ (.int .i64 np)).setCell ⟨w1.heap.size, 3, none⟩ (.int .i64 0) = x3 at *
  clear hX n0 n1 n2 n3 nf0 nf1 nf2 nf3
  have n1 := N3.out.cell 1 _ rfl
  go_wp2_with fail
  refine (HC.out _).mono ?_
  rintro e w4 ⟨rfl, hb4⟩
  have A4 := Lib.hid (A3.out.step hb4)
  have N4 := Lib.hid (N3.out.step hb4)
  have B4 := Lib.hid (B3.out.trans (hb4.mono B3.out.size))
  clear hb4 n1
  have n3 := N4.out.cell 3 _ rfl
  have nf3 := N4.out.free 3
  have nl4 := N4.out.lt
  have N5 := Lib.hid (N4.out.set 3 (.int .i64 r) (by simp))
  have A5 := Lib.hid (A4.out.other (show w1.heap.size ≠ w.heap.size by omega) 3 (.int .i64 r))
  have B5 := Lib.hid (B4.out.setCell (p := ⟨w1.heap.size, 3, none⟩) (by simp; omega) (.int .i64 r))
  go_upto_region 5 with fail
  generalize hX : w4.setCell ⟨w1.heap.size, 3, none⟩ (.int .i64 r) = x5 at *
  clear hX n3 nf3
  have n0 := N5.out.cell 0 _ rfl
  have n1 := N5.out.cell 1 _ rfl
  have n2 := N5.out.cell 2 _ rfl
  have n3 := N5.out.cell 3 _ rfl
  have a0 := A5.out.cell 0 _ rfl
  have a1 := A5.out.cell 1 _ rfl
  have a2 := A5.out.cell 2 _ rfl
  have a3 := A5.out.cell 3 _ rfl
  have af0 := A5.out.free 0
  have af1 := A5.out.free 1
  have af2 := A5.out.free 2
  have af3 := A5.out.free 3
  go_wp2_with fail
  exact numR_end _ _ w _ _ _ _ rfl rfl A5.out B5.out


def nrNeg (h : Hd) : Bool := if numD h = [] then false else h.neg
def nrP (h : Hd) : Int := if numD h = [] then 0 else numE h
def nrR (h : Hd) (l : List UInt8) : Nat := if numD h = [] then 0 else sufS h l
def numR (kind : Nat) (l : List UInt8) : Value := numV (nrNeg (scanS l false)) (bs (numD (scanS l false))) (nrP (scanS l false)) ((if kind = 64 then nrR (scanS l false) l else 0 : Nat) : Int)

theorem number_ok16 (kind : Nat) (hk : kind = 16 ∨ kind = 64) (s : ByteArray) (w : World) (hs : s.size ≤ 140737488351232) : Calls Tryz.prog 62 #[.int .i64 kind, .string s] w (RetBelow w (numR kind s.data.toList)) := by
  have SG := Lib.hid (fun W : World => signed_ok s W hs)
  have HC := Lib.hid (fun W : World => humanR_ok s W hs)
  have el := Lib.size_eq s
  have hI : sgI s.data.toList ≤ s.data.toList.length := by
    have hb : sgB s.data.toList ≤ s.data.toList.length := spanN_le _ _
    have e : sgI s.data.toList = sgB s.data.toList + (if sgNeg s.data.toList then 1 else 0) := rfl
    rcases Nat.lt_or_ge (sgB s.data.toList) s.data.toList.length with k | k
    · rw [e]; split <;> omega
    · have : sgNeg s.data.toList = false := by
        unfold sgNeg
        rw [List.drop_eq_nil_of_le k]
        rfl
      rw [e, this]; simp; omega
  have pll := pl_lens s.data.toList (sgI s.data.toList) hI
  unfold humV at HC
  unfold numR
  rw [scan_sg] at HC ⊢
  unfold signedV at SG
  have finish : ∀ (a : Bool) (A : List UInt8) (b q : Int) (h : Hd), A.length ≤ 140737488351232 → -1000000000000000000 ≤ b ∧ b ≤ 1000000000000000000 → numD h = trimR (trimL A) →
      (trimR (trimL A) ≠ [] → h.neg = a ∧ numE h = b - spanN isZero A) →
      (∀ W, Calls Tryz.prog 89 #[.string s] W (RetBelow W (.tuple #[numV a (bs A) b 0, .int .i64 q]))) →
      (∀ W, Calls Tryz.prog 91 #[.string s] W (RetBelow W (.tuple #[.agg #[.bool (decNeg h), .string (bs (trimL h.whole)), .string (bs (trimR h.frac)), .int .i64 ((h.size : Int) + if 0 < sufS h s.data.toList then 1 else 0)], .int .i64 ((if numD h = [] then 0 else sufS h s.data.toList : Nat) : Int)]))) →
      Calls Tryz.prog 62 #[.int .i64 kind, .string s] w (RetBelow w (numV (nrNeg h) (bs (numD h)) (nrP h) ((if kind = 64 then nrR h s.data.toList else 0 : Nat) : Int))) := by
    intro a A b q h hA hb hd hx SG HC
    have NC := Lib.hid (fun W : World => norm_ok a A b 0 W hb hA)
    have SG' := Lib.hid SG
    unfold normV at NC
    unfold numV at NC SG' ⊢
    unfold nrNeg nrP nrR
    by_cases hz : trimR (trimL A) = []
    · rw [if_pos hz] at NC
      have hz2 := hd.trans hz
      rw [if_pos hz2, if_pos hz2, if_pos hz2, hz2]
      have hf : (bs []).toList.isEmpty = true ∧ ((bs []).toList == []) = true ∧ (bs []).toList = [] := by rw [Lib.toList_data, bs_list]; exact ⟨rfl, rfl, rfl⟩
      rcases hk with rfl | rfl
      · exact number_n s _ _ a _ b q _ w SG' NC
      · exact number_hempty s _ _ a _ b q _ w hf.1 hf.2.1 hf.2.2 SG' NC
    · rw [if_neg hz] at NC
      have hz2 : ¬ numD h = [] := by rw [hd]; exact hz
      obtain ⟨x1, x2⟩ := hx hz
      rw [if_neg hz2, if_neg hz2, if_neg hz2, x1, x2, hd]
      have HC' := Lib.hid HC
      rw [if_neg hz2] at HC'
      rcases hk with rfl | rfl
      · exact number_n s _ _ a _ b q _ w SG' NC
      · have hf := bs_more hz
        exact number_hfull s _ _ a _ b q _ w hf.1 hf.2.1 hf.2.2 _ _ HC' SG' NC
  by_cases hn : sgD s.data.toList = []
  · rw [if_pos hn] at SG HC ⊢
    exact finish false [] 0 0 Hd.none (by simp) (by omega) rfl (fun h => absurd rfl h) SG.out HC.out
  · rw [if_neg hn] at SG HC ⊢
    have hdp : sgD s.data.toList = plW (s.data.toList.drop (sgI s.data.toList)) ++ plF (s.data.toList.drop (sgI s.data.toList)) := rfl
    refine finish (sgNeg s.data.toList) (sgD s.data.toList) _ _ _ (by rw [hdp, List.length_append]; omega) (by omega) (num_digits _ _ _ _ _ _) (fun h => ⟨rfl, ?_⟩) SG.out HC.out
    rw [num_exp _ _ _ _ _ _ h, Int.add_zero]
    rfl

set_option maxHeartbeats 800000 in
theorem gnum_ok (c : Nat) (neg : Bool) (d : ByteArray) (e z : Int) (w : World) : Calls Tryz.prog 65 #[.agg #[.int .u8 c, .bool neg, .string d, .int .i64 e, .int .i64 z]] w (RetBelow w (numV neg d e 0)) := by
  have N1' := (CellsAt.new w [.int .u8 c, .bool neg, .string d, .int .i64 e, .int .i64 z] 98).alloc (Obj.cells #[.bool false, .string ⟨#[]⟩, .int .i64 0, .int .i64 0] 94)
  have A1' := CellsAt.new (w.alloc (Obj.cells #[.int .u8 c, .bool neg, .string d, .int .i64 e, .int .i64 z] 98)) [.bool false, .string ⟨#[]⟩, .int .i64 0, .int .i64 0] 94
  rw [show (w.alloc (Obj.cells #[.int .u8 c, .bool neg, .string d, .int .i64 e, .int .i64 z] 98)).heap.size = w.heap.size + 1 by simp] at A1'
  have N1 := Lib.hid N1'
  have A1 := Lib.hid A1'
  have B1 := Lib.hid (((Below.refl w.heap.size w).alloc (Nat.le_refl _) (Obj.cells #[.int .u8 c, .bool neg, .string d, .int .i64 e, .int .i64 z] 98)).alloc (by simp) (Obj.cells #[.bool false, .string ⟨#[]⟩, .int .i64 0, .int .i64 0] 94))
  clear N1' A1'
  unfold numV
  go_enter Tryz.func65, Tryz.ntmps65
  go_upto_region 1 with fail
  generalize hX : (w.alloc (Obj.cells #[.int .u8 c, .bool neg, .string d, .int .i64 e, .int .i64 z] 98)).alloc (Obj.cells #[.bool false, .string ⟨#[]⟩, .int .i64 0, .int .i64 0] 94) = x at *
  clear hX
  have n1 := N1.out.cell 1 _ rfl
  have n2 := N1.out.cell 2 _ rfl
  have n3 := N1.out.cell 3 _ rfl
  have A2 := A1.out
  have a0 := A2.cell 0 _ rfl
  have a1 := A2.cell 1 _ rfl
  have a2 := A2.cell 2 _ rfl
  have a3 := A2.cell 3 _ rfl
  have f0 := A2.free 0
  have f1 := A2.free 1
  have f2 := A2.free 2
  have f3 := A2.free 3
  have C := (((A2.set 0 (.bool neg) (by simp)).set 1 (.string d) (by simp)).set 2 (.int .i64 e) (by simp)).set 3 (.int .i64 0) (by simp)
  have c0 := C.cell 0 _ rfl
  have c1 := C.cell 1 _ rfl
  have c2 := C.cell 2 _ rfl
  have c3 := C.cell 3 _ rfl
  have BX := Lib.hid ((((B1.out.setCell (p := ⟨w.heap.size + 1, 0, none⟩) (by simp) (.bool neg)).setCell (p := ⟨w.heap.size + 1, 1, none⟩) (by simp) (.string d)).setCell (p := ⟨w.heap.size + 1, 2, none⟩) (by simp) (.int .i64 e)).setCell (p := ⟨w.heap.size + 1, 3, none⟩) (by simp) (.int .i64 0))
  clear A2 C
  go_wp2_with fail
  exact bodyPost_ret (v := .agg #[.bool neg, .string d, .int .i64 e, .int .i64 0]) (by simp [results, Tryz.results65, go_sem, c0, c1, c2, c3]) rfl ⟨rfl, BX.out⟩

end

section


theorem cmpI_anti (a b : Int) : cmpI b a = - cmpI a b := by unfold cmpI; split <;> (try split) <;> (try split) <;> omega
theorem thenC_minus (x y : Int) : thenC (-x) (-y) = - thenC x y := by unfold thenC; split <;> split <;> omega
theorem cmpZ_anti : ∀ a b : List UInt8, cmpZ b a = - cmpZ a b
  | [], [] => rfl
  | [], y :: b => by
    have ih : cmpZ b [] = - zleft b := cmpZ_anti [] b
    show thenC (cmpI ((y.toNat : Int) - 48) 0) (cmpZ b []) = - thenC (cmpI 0 ((y.toNat : Int) - 48)) (zleft b)
    rw [ih, cmpI_anti 0, thenC_minus]
  | x :: a, [] => by
    have ih : zleft a = - cmpZ a [] := cmpZ_anti a []
    show thenC (cmpI 0 ((x.toNat : Int) - 48)) (zleft a) = - thenC (cmpI ((x.toNat : Int) - 48) 0) (cmpZ a [])
    rw [ih, cmpI_anti ((x.toNat : Int) - 48) 0, thenC_minus]
  | x :: a, y :: b => by
    show thenC _ _ = - thenC _ _
    rw [cmpZ_anti a b, cmpI_anti ((x.toNat : Int) - 48), thenC_minus]
theorem sizeR_anti (r1 p1 : Int) (D1 : List UInt8) (r2 p2 : Int) (D2 : List UInt8) : sizeR r2 p2 D2 r1 p1 D1 = - sizeR r1 p1 D1 r2 p2 D2 := by
  unfold sizeR
  rw [cmpZ_anti D1 D2, cmpI_anti r1, cmpI_anti p1, thenC_minus, thenC_minus]

/-- A value of digits. -/
def valG (n : Bool) (D W F : List UInt8) (p : Int) (r : Nat) : Val := if D = [] then ⟨80, 0, 0, [], []⟩ else ⟨if n then 64 else 96, r, p, W, F⟩
theorem order_val (n1 n2 : Bool) (D1 D2 W1 F1 W2 F2 : List UInt8) (p1 p2 : Int) (r1 r2 : Nat) (e1 : W1 ++ F1 = D1) (e2 : W2 ++ F2 = D2) (d1 : ∀ x ∈ D1, isDig x = true) (d2 : ∀ x ∈ D2, isDig x = true) (t1 : trimR D1 = D1) (t2 : trimR D2 = D2) :
    cmpVal (valG n1 D1 W1 F1 p1 r1) (valG n2 D2 W2 F2 p2 r2) = orderR n1 D1 p1 r1 n2 D2 p2 r2 := by
  unfold valG orderR sgn
  by_cases h1 : D1 = []
  · by_cases h2 : D2 = []
    · simp only [h1, h2, if_true]; rfl
    · simp only [h1, h2, if_true, if_false]
      cases n2 <;> rfl
  · by_cases h2 : D2 = []
    · simp only [h1, h2, if_true, if_false]
      cases n1 <;> rfl
    · simp only [h1, h2, if_false]
      have hZ := cmpZ_L D1 D2 d1 d2 t1 t2
      have hZ2 := cmpZ_L D2 D1 d2 d1 t2 t1
      cases n1 <;> cases n2
      · show thenC (cmpI 96 96) (cmpSize ⟨96, r1, p1, W1, F1⟩ ⟨96, r2, p2, W2, F2⟩) = 1 * sizeR r1 p1 D1 r2 p2 D2
        rw [show cmpI 96 96 = 0 from rfl, thenC_zero, Int.one_mul]
        unfold cmpSize sizeR Val.digits
        rw [hZ]
        simp only [e1, e2]
      · rfl
      · rfl
      · show thenC (cmpI 64 64) (cmpSize ⟨64, r2, p2, W2, F2⟩ ⟨64, r1, p1, W1, F1⟩) = -1 * sizeR r1 p1 D1 r2 p2 D2
        rw [show cmpI 64 64 = 0 from rfl, thenC_zero, Int.neg_one_mul, ← sizeR_anti]
        unfold cmpSize sizeR Val.digits
        rw [hZ2]
        simp only [e1, e2]

theorem numD_dig (l : List UInt8) (g : Bool) : ∀ x ∈ numD (scanS l g), isDig x = true := by
  have pk := scanS_parts l g
  intro x hx
  unfold numD at hx
  rcases List.mem_append.1 hx with h | h
  · exact pk.wd x (mem_numW h)
  · exact pk.fd x (mem_numF h)
theorem numD_trim (h : Hd) : trimR (numD h) = numD h := by
  obtain ⟨c, n, W, F, e, z⟩ := h
  rw [num_digits, trimR_idem]
theorem numD_len (l : List UInt8) (g : Bool) : (numD (scanS l g)).length ≤ l.length := by
  have h := scanS_joint l g
  have h1 := numW_le (scanS l g)
  have h2 := numF_le (scanS l g)
  unfold numD
  rw [List.length_append]
  omega

theorem valS_nh (kind : Nat) (hk : kind = 16 ∨ kind = 64) (l : List UInt8) :
    valS kind l = valG (nrNeg (scanS l false)) (numD (scanS l false)) (numW (scanS l false)) (numF (scanS l false)) (nrP (scanS l false)) (if kind = 64 then nrR (scanS l false) l else 0) := by
  have k32 : (kind == 32) = false := by rcases hk with rfl | rfl <;> rfl
  have hp := scan_parts3 l
  unfold valS
  rw [k32]
  generalize scanS l false = h at *
  have c1 : h.cls ≠ 1 ∧ h.cls ≠ 2 ∧ h.cls ≠ 4 := by
    rcases hp with rfl | hp
    · exact ⟨by decide, by decide, by decide⟩
    · omega
  unfold valH valG nrNeg nrP nrR
  rw [if_neg c1.1, if_neg c1.2.1, if_neg c1.2.2, if_neg (by rcases hk with rfl | rfl <;> omega)]
  by_cases hz : numD h = []
  · rw [if_pos hz, if_pos hz]
  · rw [if_neg hz, if_neg hz, if_neg hz, if_neg hz, if_neg hz]

theorem cmp_nh (kind : Nat) (hk : kind = 16 ∨ kind = 64) (a b : List UInt8) :
    orderR (nrNeg (scanS a false)) (numD (scanS a false)) (nrP (scanS a false)) ((if kind = 64 then nrR (scanS a false) a else 0 : Nat) : Int)
      (nrNeg (scanS b false)) (numD (scanS b false)) (nrP (scanS b false)) ((if kind = 64 then nrR (scanS b false) b else 0 : Nat) : Int) = cmpS kind a b := by
  have e : cmpS kind a b = cmpVal (valS kind a) (valS kind b) := by
    unfold cmpS
    rw [if_pos (by rcases hk with rfl | rfl; exact Or.inl rfl; exact Or.inr (Or.inr rfl))]
  rw [e, valS_nh kind hk, valS_nh kind hk]
  exact (order_val _ _ _ _ _ _ _ _ _ _ _ _ rfl rfl (numD_dig a false) (numD_dig b false) (numD_trim _) (numD_trim _)).symm

/-- The fields of General's answer. -/
def gNeg (h : Hd) : Bool := if numD h = [] then false else h.neg
def gExp (h : Hd) : Int := if numD h = [] then 0 else numE h
theorem genV_flat (h : Hd) : genV h = .agg #[.int .u8 h.cls, .bool (gNeg h), .string (bs (numD h)), .int .i64 (gExp h), .int .i64 h.size] := by
  unfold genV gNeg gExp
  by_cases hz : numD h = []
  · rw [if_pos hz, if_pos hz, if_pos hz, hz]; rfl
  · rw [if_neg hz, if_neg hz, if_neg hz]
theorem scan_cls (l : List UInt8) : (scanS l true).cls ≤ 4 ∧ ((scanS l true).cls ≠ 3 → numD (scanS l true) = []) := by
  unfold scanS
  simp only [Bool.true_and]
  split
  · refine ⟨?_, fun _ => ?_⟩
    · show (wordS _ _).1 ≤ 4
      unfold wordS
      split
      · split <;> simp
      · split
        · split <;> simp
        · split <;> simp
    · show numD ⟨_, false, [], [], 0, _⟩ = []
      rw [num_digits]; rfl
  · unfold numberS
    split
    · exact ⟨by show 0 ≤ 4; omega, fun _ => by show numD Hd.none = []; rfl⟩
    · split
      · exact ⟨by show 3 ≤ 4; omega, fun h => absurd rfl h⟩
      · exact ⟨by show 3 ≤ 4; omega, fun h => absurd rfl h⟩
def clsV (c : Nat) : Nat := if c = 1 then 32 else if c = 2 then 48 else if c = 4 then 112 else 16
theorem valS_g (l : List UInt8) : valS 32 l = if (scanS l true).cls = 3 then valG (gNeg (scanS l true)) (numD (scanS l true)) (numW (scanS l true)) (numF (scanS l true)) (gExp (scanS l true)) 0 else ⟨clsV (scanS l true).cls, 0, 0, [], []⟩ := by
  have hc := (scan_cls l).1
  show valH 32 (scanS l true) l = _
  generalize scanS l true = h at *
  unfold valH clsV valG gNeg gExp
  by_cases h3 : h.cls = 3
  · rw [if_neg (by omega), if_neg (by omega), if_neg (by omega), if_neg (by omega), if_pos h3]
    by_cases hz : numD h = []
    · rw [if_pos hz, if_pos hz]
    · rw [if_neg hz, if_neg hz, if_neg hz, if_neg hz, if_neg (show ¬ (32 : Nat) = 64 by omega)]
  · rw [if_neg h3]
    by_cases h1 : h.cls = 1
    · rw [if_pos h1, if_pos h1]
    · rw [if_neg h1, if_neg h1]
      by_cases h2 : h.cls = 2
      · rw [if_pos h2, if_pos h2]
      · rw [if_neg h2, if_neg h2]
        by_cases h4 : h.cls = 4
        · rw [if_pos h4, if_pos h4]
        · rw [if_neg h4, if_neg h4, if_pos ⟨by omega, rfl⟩]
theorem valG_cls (n : Bool) (D W F : List UInt8) (p : Int) (r : Nat) : 64 ≤ (valG n D W F p r).cls ∧ (valG n D W F p r).cls ≤ 96 := by
  unfold valG
  split
  · exact ⟨by show 64 ≤ 80; omega, by show 80 ≤ 96; omega⟩
  · cases n
    · exact ⟨by show 64 ≤ 96; omega, by show 96 ≤ 96; omega⟩
    · exact ⟨by show 64 ≤ 64; omega, by show 64 ≤ 96; omega⟩
theorem cmp_g (a b : List UInt8) :
    (if (scanS a true).cls ≠ (scanS b true).cls then cmpI (scanS a true).cls (scanS b true).cls
      else orderR (gNeg (scanS a true)) (numD (scanS a true)) (gExp (scanS a true)) 0 (gNeg (scanS b true)) (numD (scanS b true)) (gExp (scanS b true)) 0) = cmpS 32 a b := by
  have e : cmpS 32 a b = cmpVal (valS 32 a) (valS 32 b) := rfl
  rw [e, valS_g, valS_g]
  have ha := scan_cls a
  have hb := scan_cls b
  have da := numD_dig a true
  have db := numD_dig b true
  generalize scanS a true = h at *
  generalize scanS b true = k at *
  have cne : ∀ (v u : Val), cmpI v.cls u.cls ≠ 0 → cmpVal v u = cmpI v.cls u.cls := fun v u hx => by unfold cmpVal; exact thenC_ne hx _
  by_cases hne : h.cls = k.cls
  · rw [if_neg (by simpa using hne)]
    by_cases h3 : h.cls = 3
    · rw [if_pos h3, if_pos (by omega)]
      exact (order_val _ _ _ _ _ _ _ _ _ _ 0 0 rfl rfl da db (numD_trim _) (numD_trim _)).symm
    · rw [if_neg h3, if_neg (by omega), hne, ha.2 h3, hb.2 (by omega)]
      have : clsV k.cls = 16 ∨ clsV k.cls = 32 ∨ clsV k.cls = 48 ∨ clsV k.cls = 112 := by unfold clsV; split; simp; split; simp; split <;> simp
      unfold orderR sgn
      rw [if_pos rfl, if_pos rfl, if_pos (Or.inr rfl)]
      rcases this with h | h | h | h <;> rw [h] <;> rfl
  · rw [if_pos hne]
    have lt : ∀ (x y : Int) (c d : Nat), (x < y) → (c : Int) < d → cmpI x y = cmpI c d := fun x y c d h1 h2 => by unfold cmpI; rw [if_pos h1, if_pos h2]
    have gt : ∀ (x y : Int) (c d : Nat), (y < x) → (d : Int) < c → cmpI x y = cmpI c d := fun x y c d h1 h2 => by unfold cmpI; rw [if_neg (by omega), if_pos h1, if_neg (by omega), if_pos h2]
    have val : ∀ (u : Hd), u.cls ≤ 4 → ∃ v : Val, (if u.cls = 3 then valG (gNeg u) (numD u) (numW u) (numF u) (gExp u) 0 else ⟨clsV u.cls, 0, 0, [], []⟩) = v ∧
        ((u.cls = 0 ∧ v.cls = 16) ∨ (u.cls = 1 ∧ v.cls = 32) ∨ (u.cls = 2 ∧ v.cls = 48) ∨ (u.cls = 3 ∧ 64 ≤ v.cls ∧ v.cls ≤ 96) ∨ (u.cls = 4 ∧ v.cls = 112)) := fun u hu => by
      by_cases h3 : u.cls = 3
      · rw [if_pos h3]
        have := valG_cls (gNeg u) (numD u) (numW u) (numF u) (gExp u) 0
        exact ⟨_, rfl, Or.inr (Or.inr (Or.inr (Or.inl ⟨h3, this⟩)))⟩
      · rw [if_neg h3]
        refine ⟨_, rfl, ?_⟩
        show _ ∨ _
        unfold clsV
        rcases (show u.cls = 0 ∨ u.cls = 1 ∨ u.cls = 2 ∨ u.cls = 4 by omega) with h | h | h | h <;> simp [h]
    obtain ⟨v, ev, hv⟩ := val h ha.1
    obtain ⟨u, eu, hu⟩ := val k hb.1
    rw [ev, eu]
    have : cmpI (h.cls : Int) (k.cls : Int) = cmpI (v.cls : Int) (u.cls : Int) := by
      rcases Nat.lt_or_ge h.cls k.cls with hl | hl
      · exact lt _ _ _ _ (by omega) (by omega)
      · exact gt _ _ _ _ (by omega) (by omega)
    rw [this]
    refine (cne v u ?_).symm
    intro h0
    have := cmpI_zero h0
    omega
end
end Go.Proofs.YtgpcmlbmmcnkjaaGreatDoor.Num
