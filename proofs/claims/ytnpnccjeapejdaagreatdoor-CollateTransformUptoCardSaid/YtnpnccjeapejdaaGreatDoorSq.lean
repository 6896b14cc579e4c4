/- What the program's Check asks is what the document's asks. -/
import Derived.Test.YtnpnccjeapejdaaGreatDoorCk
import Derived.Test.YtnpnccjeapejdaaGreatDoorCh
namespace Go.Proofs.YtnpnccjeapejdaaGreatDoor
section
section
open Go.RowKit

set_option maxRecDepth 100000
theorem i64_and_nat (a b : Nat) (ha : a < 65536) (hb : b < 65536) : bits BinOp.and IntKind.i64 (a : Int) (b : Int) = ((a &&& b : Nat) : Int) := by
  have e : ∀ x : Nat, x < 65536 → (BitVec.ofInt 64 (x : Int)).toNat = x := fun x hx => by
    rw [BitVec.toNat_ofInt]; omega
  have hl : a &&& b < 65536 := Nat.and_lt_two_pow (n := 16) a (by omega)
  show IntKind.i64.wrap ((BitVec.ofInt 64 (a : Int) &&& BitVec.ofInt 64 (b : Int)).toNat : Int) = _
  rw [BitVec.toNat_and, e a ha, e b hb]
  simp [IntKind.wrap, IntKind.bits, IntKind.signed]
  omega
theorem has_ok (m x : Nat) (hm : m < 65536) (hx : x < 65536) (w : World) : Calls Tryz.prog 45 #[.int .u16 (m : Int), .int .i64 (x : Int)] w (RetV w (.bool (!decide (m &&& x = 0)))) := by
  have b4 : bits BinOp.and IntKind.i64 (m : Int) (x : Int) = ((m &&& x : Nat) : Int) := i64_and_nat m x hm hx
  have c1 : IntKind.i64.wrap (m : Int) = (m : Int) := by simp [IntKind.wrap, IntKind.bits, IntKind.signed]; omega
  generalize hy : m &&& x = y at b4 ⊢
  clear hy
  by_cases c4 : y = 0
  · have n4 : ((y : Int) != 0) = false := by rw [bne_eq_false_iff_eq]; omega
    rw [decide_eq_true c4]
    clear c4
    go_enter Tryz.func45, Tryz.ntmps45
    go_wp2_with fail
    go_ret
    exact ⟨rfl, rfl⟩
  · have n4 : ((y : Int) != 0) = true := by rw [bne_iff_ne]; omega
    rw [decide_eq_false c4]
    clear c4
    go_enter Tryz.func45, Tryz.ntmps45
    go_wp2_with fail
    go_ret
    exact ⟨rfl, rfl⟩
def togF (a b c d e x : Bool) : Bool := (a.toNat + b.toNat + c.toNat + d.toNat + e.toNat == 0) || ((a.toNat + b.toNat + c.toNat + d.toNat + e.toNat == 1) && !x)
def hs (m x : Nat) : Bool := !decide (m &&& x = 0)
theorem togF_all : ∀ m : Fin 1024, togF (hs m.val 16) (hs m.val 32) (hs m.val 64) (hs m.val 128) (hs m.val 256) (hs m.val 10) = togS m.val := by decide +kernel
set_option maxHeartbeats 6400000 in
theorem goTog_ok (m : Nat) (hm : m < 1024) (w : World) : Calls Tryz.prog 29 #[.int .u16 (m : Int)] w (RetV w (.bool (togS m))) := by
  have H16 := Lib.hid (show ∀ w, Calls Tryz.prog 45 #[.int .u16 (m : Int), .int .i64 16] w (RetV w (.bool (hs m 16))) from fun w => has_ok m 16 (by omega) (by omega) w)
  have H32 := Lib.hid (show ∀ w, Calls Tryz.prog 45 #[.int .u16 (m : Int), .int .i64 32] w (RetV w (.bool (hs m 32))) from fun w => has_ok m 32 (by omega) (by omega) w)
  have H64 := Lib.hid (show ∀ w, Calls Tryz.prog 45 #[.int .u16 (m : Int), .int .i64 64] w (RetV w (.bool (hs m 64))) from fun w => has_ok m 64 (by omega) (by omega) w)
  have H128 := Lib.hid (show ∀ w, Calls Tryz.prog 45 #[.int .u16 (m : Int), .int .i64 128] w (RetV w (.bool (hs m 128))) from fun w => has_ok m 128 (by omega) (by omega) w)
  have H256 := Lib.hid (show ∀ w, Calls Tryz.prog 45 #[.int .u16 (m : Int), .int .i64 256] w (RetV w (.bool (hs m 256))) from fun w => has_ok m 256 (by omega) (by omega) w)
  have H10 := Lib.hid (show ∀ w, Calls Tryz.prog 45 #[.int .u16 (m : Int), .int .i64 10] w (RetV w (.bool (hs m 10))) from fun w => has_ok m 10 (by omega) (by omega) w)
  have E : togS m = togF (hs m 16) (hs m 32) (hs m 64) (hs m 128) (hs m 256) (hs m 10) := (togF_all ⟨m, hm⟩).symm
  rw [E]
  clear E hm
  generalize hs m 16 = y16 at *
  generalize hs m 32 = y32 at *
  generalize hs m 64 = y64 at *
  generalize hs m 128 = y128 at *
  generalize hs m 256 = y256 at *
  generalize hs m 10 = y10 at *
  go_enter Tryz.func29, Tryz.ntmps29
  all_goals
    go_wp2_with fail
    refine (H16.out _).mono ?_
    rintro e w' ⟨rfl, rfl⟩
    cases y16
  all_goals
    go_wp2_with fail
    refine (H32.out _).mono ?_
    rintro e w' ⟨rfl, rfl⟩
    cases y32
  all_goals
    go_wp2_with fail
    refine (H64.out _).mono ?_
    rintro e w' ⟨rfl, rfl⟩
    cases y64
  all_goals
    go_wp2_with fail
    refine (H128.out _).mono ?_
    rintro e w' ⟨rfl, rfl⟩
    cases y128
  all_goals
    go_wp2_with fail
    refine (H256.out _).mono ?_
    rintro e w' ⟨rfl, rfl⟩
    cases y256
  all_goals
    go_wp2_with fail
    first
      | (go_ret; exact ⟨rfl, rfl⟩)
      | (refine (H10.out _).mono ?_; rintro e w' ⟨rfl, rfl⟩; go_wp2_with fail; go_ret; exact ⟨rfl, rfl⟩)
end
section
open Go.RowKit

set_option maxRecDepth 100000
attribute [local go_sem] undef
/-- The numbers of a key. -/
def shB (f c ef ec : Int) (m : Nat) (b : Bool) : Bool := !decide (f < 1) && (!decide (2147483647 < f) && (!decide (c < 1) && (!decide (2147483647 < c) && (!decide (ef < 0) && (!decide (2147483647 < ef) && (!decide (ec < 0) && (!decide (2147483647 < ec) && (!(ef == 0 && ((ec != 0) || b)) && decide ((m : Int) < 1024)))))))))
set_option maxHeartbeats 6400000 in
theorem shaped_ok (f c ef ec : Int) (m : Nat) (b : Bool) (hm : m < 65536) (w : World) : Calls Tryz.prog 27 #[.agg #[.int .i64 f, .int .i64 c, .int .i64 ef, .int .i64 ec, .int .u16 (m : Int), .bool b]] w (RetBk w (.bool (shB f c ef ec m b))) := by
  have B0 := Lib.hid ((Below.refl w.heap.size w).alloc (Nat.le_refl _) (.cells #[.int .i64 f, .int .i64 c, .int .i64 ef, .int .i64 ec, .int .u16 (m : Int), .bool b] 54))
  have cv : IntKind.i64.wrap (m : Int) = (m : Int) := by simp [IntKind.wrap, IntKind.bits, IntKind.signed]; omega
  have HS := Lib.hid (show shB f c ef ec m b = (!decide (f < 1) && (!decide (2147483647 < f) && (!decide (c < 1) && (!decide (2147483647 < c) && (!decide (ef < 0) && (!decide (2147483647 < ef) && (!decide (ec < 0) && (!decide (2147483647 < ec) && (!(ef == 0 && ((ec != 0) || b)) && decide ((m : Int) < 1024)))))))))) from rfl)
  generalize shB f c ef ec m b = r at HS ⊢
  clear hm
  cases p0 : decide (f < 1)
  rotate_left
  · rw [p0] at HS
    go_enter Tryz.func27, Tryz.ntmps27
    go_wp2_with fail
    go_ret
    exact ⟨by rw [HS.out]; rfl, B0.out⟩
  rw [p0] at HS
  cases p1 : decide (2147483647 < f)
  rotate_left
  · rw [p1] at HS
    go_enter Tryz.func27, Tryz.ntmps27
    go_wp2_with fail
    go_ret
    exact ⟨by rw [HS.out]; rfl, B0.out⟩
  rw [p1] at HS
  cases p2 : decide (c < 1)
  rotate_left
  · rw [p2] at HS
    go_enter Tryz.func27, Tryz.ntmps27
    go_wp2_with fail
    go_ret
    exact ⟨by rw [HS.out]; rfl, B0.out⟩
  rw [p2] at HS
  cases p3 : decide (2147483647 < c)
  rotate_left
  · rw [p3] at HS
    go_enter Tryz.func27, Tryz.ntmps27
    go_wp2_with fail
    go_ret
    exact ⟨by rw [HS.out]; rfl, B0.out⟩
  rw [p3] at HS
  cases p4 : decide (ef < 0)
  rotate_left
  · rw [p4] at HS
    go_enter Tryz.func27, Tryz.ntmps27
    go_wp2_with fail
    go_ret
    exact ⟨by rw [HS.out]; rfl, B0.out⟩
  rw [p4] at HS
  cases p5 : decide (2147483647 < ef)
  rotate_left
  · rw [p5] at HS
    go_enter Tryz.func27, Tryz.ntmps27
    go_wp2_with fail
    go_ret
    exact ⟨by rw [HS.out]; rfl, B0.out⟩
  rw [p5] at HS
  cases p6 : decide (ec < 0)
  rotate_left
  · rw [p6] at HS
    go_enter Tryz.func27, Tryz.ntmps27
    go_wp2_with fail
    go_ret
    exact ⟨by rw [HS.out]; rfl, B0.out⟩
  rw [p6] at HS
  cases p7 : decide (2147483647 < ec)
  rotate_left
  · rw [p7] at HS
    go_enter Tryz.func27, Tryz.ntmps27
    go_wp2_with fail
    go_ret
    exact ⟨by rw [HS.out]; rfl, B0.out⟩
  rw [p7] at HS
  cases q0 : (ef == 0)
  · rw [q0] at HS
    cases s0 : decide ((m : Int) < 1024)
    · rw [s0] at HS
      go_enter Tryz.func27, Tryz.ntmps27
      go_wp2_with fail
      go_ret
      exact ⟨by rw [HS.out]; rfl, B0.out⟩
    · rw [s0] at HS
      go_enter Tryz.func27, Tryz.ntmps27
      go_wp2_with fail
      go_ret
      exact ⟨by rw [HS.out]; rfl, B0.out⟩
  rw [q0] at HS
  cases q1 : (ec != 0)
  rotate_left
  · rw [q1] at HS
    go_enter Tryz.func27, Tryz.ntmps27
    go_wp2_with fail
    go_ret
    exact ⟨by rw [HS.out]; rfl, B0.out⟩
  rw [q1] at HS
  cases b
  rotate_left
  · go_enter Tryz.func27, Tryz.ntmps27
    go_wp2_with fail
    go_ret
    exact ⟨by rw [HS.out]; rfl, B0.out⟩
  cases s0 : decide ((m : Int) < 1024)
  · rw [s0] at HS
    go_enter Tryz.func27, Tryz.ntmps27
    go_wp2_with fail
    go_ret
    exact ⟨by rw [HS.out]; rfl, B0.out⟩
  · rw [s0] at HS
    go_enter Tryz.func27, Tryz.ntmps27
    go_wp2_with fail
    go_ret
    exact ⟨by rw [HS.out]; rfl, B0.out⟩
end
end
section
open Go.RowKit

theorem hb_eq (k : KeyL) : hb k = (shB k.f k.c k.ef k.ec k.m k.b && togS k.m) := by
  obtain ⟨f, c, ef, ec, m, b⟩ := k
  unfold hb shB
  cases togS m
  · simp
  · rw [Bool.eq_iff_iff]
    cases b <;> simp <;> omega
def shK (k : KeyL) : Bool := shB k.f k.c k.ef k.ec k.m k.b
/-- May these options be, as the document says it? -/
def docS (ks : List KeyL) (m : Nat) (t : Int) : Bool :=
  decide (ks.length ≤ 16) && (decide (-1 ≤ t ∧ t ≤ 255) && (decide (m < 1024) && (ks.all shK && (effL ks m t).all (fun x => togS x.m))))
theorem tog_own (o : Opt) (k : KeyL) (h : togS (own o k).m = true) : togS k.m = true := by
  unfold own at h
  split at h
  · rename_i h0
    rw [h0.1]; decide
  · exact h
theorem chS_doc (ks : List KeyL) (m : Nat) (t : Int) : chS ks m t = docS ks m t := by
  rw [Bool.eq_iff_iff]
  unfold chS fhS docS
  simp only [Bool.and_eq_true, decide_eq_true_eq, List.all_eq_true]
  constructor
  · rintro ⟨⟨h1, h2, h3, h4⟩, h5⟩
    exact ⟨h1, h4, h3, fun k hk => by have := h2 k hk; rw [hb_eq, Bool.and_eq_true] at this; exact this.1, h5⟩
  · rintro ⟨h1, h4, h3, h2, h5⟩
    refine ⟨⟨h1, fun k hk => ?_, h3, h4⟩, h5⟩
    rw [hb_eq, Bool.and_eq_true]
    refine ⟨h2 k hk, tog_own (o3 m t) k (h5 _ ?_)⟩
    unfold effL dflt
    rw [if_neg (by rintro rfl; cases hk)]
    exact List.mem_map_of_mem hk
end
end Go.Proofs.YtnpnccjeapejdaaGreatDoor
