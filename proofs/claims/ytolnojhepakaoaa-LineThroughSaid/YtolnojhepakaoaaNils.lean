/- What nobody's Reader and Writer answer; what may not be made: the walks. -/
import Derived.Test.YtolnojhepakaoaaLaw
namespace Go.Proofs.Ytolnojhepakaoaa
open Go.RowKit

set_option maxHeartbeats 400000 in
theorem next_nil (w : World) : Calls Try.prog 23 #[.pointer none] w fun e w' => e = .returned (.tuple #[.string ⟨#[]⟩, .bool false, .int .i64 1]) ∧ w = w' := by
  go_enter Try.func23, Try.ntmps23
  go_wp2_with fail
  go_ret3
  exact ⟨rfl, rfl⟩
set_option maxHeartbeats 400000 in
theorem put_nobody (s : ByteArray) (w : World) : Calls Try.prog 33 #[.pointer none, .string s] w fun e w' => e = .returned (.int .i64 1) ∧ w = w' := by
  go_enter Try.func33, Try.ntmps33
  go_wp2_with fail
  go_ret
  exact ⟨rfl, rfl⟩
set_option maxHeartbeats 400000 in
theorem raw_nobody (s : ByteArray) (w : World) : Calls Try.prog 34 #[.pointer none, .string s] w fun e w' => e = .returned (.int .i64 1) ∧ w = w' := by
  go_enter Try.func34, Try.ntmps34
  go_wp2_with fail
  go_ret
  exact ⟨rfl, rfl⟩
set_option maxHeartbeats 400000 in
theorem flush_nobody (w : World) : Calls Try.prog 35 #[.pointer none] w fun e w' => e = .returned (.int .i64 1) ∧ w = w' := by
  go_enter Try.func35, Try.ntmps35
  go_wp2_with fail
  go_ret
  exact ⟨rfl, rfl⟩
set_option maxHeartbeats 400000 in
theorem stat_nobody (w : World) : Calls Try.prog 36 #[.pointer none] w fun e w' => e = .returned (.tuple #[.int .i64 0, .int .i64 0, .int .i64 0]) ∧ w = w' := by
  go_enter Try.func36, Try.ntmps36
  go_wp2_with fail
  go_ret3
  exact ⟨rfl, rfl⟩
set_option maxHeartbeats 400000 in
theorem whole_nobody (w : World) : Calls Try.prog 37 #[.pointer none] w fun e w' => e = .returned (.bool false) ∧ w = w' := by
  go_enter Try.func37, Try.ntmps37
  go_wp2_with fail
  go_ret
  exact ⟨rfl, rfl⟩
set_option maxHeartbeats 400000 in
theorem lines_nobody (w : World) : Calls Try.prog 22 #[.pointer none] w fun e w' => e = .returned (.int .i64 0) ∧ w = w' := by
  go_enter Try.func22, Try.ntmps22
  go_wp2_with fail
  go_ret
  exact ⟨rfl, rfl⟩
set_option maxHeartbeats 400000 in
theorem rerr_nobody (w : World) : Calls Try.prog 24 #[.pointer none] w fun e w' => e = .returned (.int .i64 1) ∧ w = w' := by
  go_enter Try.func24, Try.ntmps24
  go_wp2_with fail
  go_ret
  exact ⟨rfl, rfl⟩
set_option maxHeartbeats 400000 in
theorem werr_nobody (w : World) : Calls Try.prog 38 #[.pointer none] w fun e w' => e = .returned (.int .i64 1) ∧ w = w' := by
  go_enter Try.func38, Try.ntmps38
  go_wp2_with fail
  go_ret
  exact ⟨rfl, rfl⟩

/-- Why neither a Reader nor a Writer is made of a File that is there. -/
def why (size sep : Int) : Int := if size < 1 ∨ 65536 < size then 21 else if sep ≠ 10 ∧ sep ≠ 0 then 20 else 0

set_option maxHeartbeats 800000 in
theorem made_true (size sep : Int) (w : World) : Calls Try.prog 32 #[.bool true, .int .i64 size, .int .u8 sep] w fun e w' => e = .returned (.int .i64 (why size sep)) ∧ w = w' := by
  by_cases h1 : size < 1
  · have t1 : decide (size < 1) = true := by simpa using h1
    have hw : why size sep = 21 := by simp [why, h1]
    have Hw := Lib.hid hw
    clear hw
    go_enter Try.func32, Try.ntmps32
    go_wp2_with fail
    go_ret
    exact ⟨by rw [Hw.out]; rfl, rfl⟩
  have t1 : decide (size < 1) = false := by simpa using h1
  by_cases h2 : 65536 < size
  · have t2 : decide (65536 < size) = true := by simpa using h2
    have hw : why size sep = 21 := by simp [why, h2]
    have Hw := Lib.hid hw
    clear hw
    go_enter Try.func32, Try.ntmps32
    go_wp2_with fail
    go_ret
    exact ⟨by rw [Hw.out]; rfl, rfl⟩
  have t2 : decide (65536 < size) = false := by simpa using h2
  by_cases h3 : sep = 10
  · subst h3
    have hw : why size 10 = 0 := by simp [why]; omega
    have Hw := Lib.hid hw
    clear hw
    go_enter Try.func32, Try.ntmps32
    go_wp2_with fail
    go_ret
    exact ⟨by rw [Hw.out]; rfl, rfl⟩
  have t3 : (sep == 10) = false := by rw [beq_eq_false_iff_ne]; exact h3
  have t3' : (sep != 10) = true := by rw [bne_iff_ne]; exact h3
  by_cases h4 : sep = 0
  · subst h4
    have hw : why size 0 = 0 := by simp [why]; omega
    have Hw := Lib.hid hw
    clear hw
    go_enter Try.func32, Try.ntmps32
    go_wp2_with fail
    go_ret
    exact ⟨by rw [Hw.out]; rfl, rfl⟩
  have t4 : (sep == 0) = false := by rw [beq_eq_false_iff_ne]; exact h4
  have t4' : (sep != 0) = true := by rw [bne_iff_ne]; exact h4
  have hw : why size sep = 20 := by simp [why, h3, h4]; omega
  have Hw := Lib.hid hw
  clear hw h3 h4
  go_enter Try.func32, Try.ntmps32
  go_wp2_with fail
  go_ret
  exact ⟨by rw [Hw.out]; rfl, rfl⟩

set_option maxHeartbeats 400000 in
theorem refusal_nil (size sep : Int) (w : World) : Calls Try.prog 45 #[.pointer none, .int .i64 size, .int .u8 sep] w fun e w' => e = .returned (.int .i64 1) ∧ w = w' := by
  go_enter Try.func45, Try.ntmps45
  go_wp2_with fail
  go_ret
  exact ⟨rfl, rfl⟩
set_option maxHeartbeats 800000 in
theorem refusal_at (f : Nat) (size sep : Int) (w : World) : Calls Try.prog 45 #[.pointer (some ⟨f, 0, none⟩), .int .i64 size, .int .u8 sep] w fun e w' => e = .returned (.int .i64 (why size sep)) ∧ w = w' := by
  by_cases h1 : size < 1
  · have t1 : decide (size < 1) = true := by simpa using h1
    have hw : why size sep = 21 := by simp [why, h1]
    have Hw := Lib.hid hw
    clear hw
    go_enter Try.func45, Try.ntmps45
    go_wp2_with fail
    go_ret
    exact ⟨by rw [Hw.out]; rfl, rfl⟩
  have t1 : decide (size < 1) = false := by simpa using h1
  by_cases h2 : 65536 < size
  · have t2 : decide (65536 < size) = true := by simpa using h2
    have hw : why size sep = 21 := by simp [why, h2]
    have Hw := Lib.hid hw
    clear hw
    go_enter Try.func45, Try.ntmps45
    go_wp2_with fail
    go_ret
    exact ⟨by rw [Hw.out]; rfl, rfl⟩
  have t2 : decide (65536 < size) = false := by simpa using h2
  by_cases h3 : sep = 10
  · subst h3
    have hw : why size 10 = 0 := by simp [why]; omega
    have Hw := Lib.hid hw
    clear hw
    go_enter Try.func45, Try.ntmps45
    go_wp2_with fail
    go_ret
    exact ⟨by rw [Hw.out]; rfl, rfl⟩
  have t3 : (sep == 10) = false := by rw [beq_eq_false_iff_ne]; exact h3
  have t3' : (sep != 10) = true := by rw [bne_iff_ne]; exact h3
  by_cases h4 : sep = 0
  · subst h4
    have hw : why size 0 = 0 := by simp [why]; omega
    have Hw := Lib.hid hw
    clear hw
    go_enter Try.func45, Try.ntmps45
    go_wp2_with fail
    go_ret
    exact ⟨by rw [Hw.out]; rfl, rfl⟩
  have t4 : (sep == 0) = false := by rw [beq_eq_false_iff_ne]; exact h4
  have t4' : (sep != 0) = true := by rw [bne_iff_ne]; exact h4
  have hw : why size sep = 20 := by simp [why, h3, h4]; omega
  have Hw := Lib.hid hw
  clear hw h3 h4
  go_enter Try.func45, Try.ntmps45
  go_wp2_with fail
  go_ret
  exact ⟨by rw [Hw.out]; rfl, rfl⟩

/-- What NewReader and NewWriter give: nobody with the reason, or somebody new. -/
def Gave (w : World) (r : Int) (e : Ending) (w' : World) : Prop := ∃ p : Option Addr, e = .returned (.tuple #[.pointer p, .int .i64 r]) ∧ (p = none ↔ r ≠ 0) ∧ Keeps [] w w'

set_option maxHeartbeats 400000 in
theorem reader_nil (size sep : Int) (w : World) : Calls Try.prog 18 #[.pointer none, .int .i64 size, .int .u8 sep] w fun e w' => e = .returned (.tuple #[.pointer none, .int .i64 1]) ∧ w = w' := by
  go_enter Try.func18, Try.ntmps18
  go_wp2_with fail
  refine (refusal_nil size sep w).mono ?_
  rintro e w' ⟨rfl, rfl⟩
  go_wp2_with fail
  go_ret2
  exact ⟨rfl, rfl⟩
set_option maxHeartbeats 400000 in
theorem writer_nil (size sep : Int) (w : World) : Calls Try.prog 29 #[.pointer none, .int .i64 size, .int .u8 sep] w fun e w' => e = .returned (.tuple #[.pointer none, .int .i64 1]) ∧ w = w' := by
  go_enter Try.func29, Try.ntmps29
  go_wp2_with fail
  refine (refusal_nil size sep w).mono ?_
  rintro e w' ⟨rfl, rfl⟩
  go_wp2_with fail
  go_ret2
  exact ⟨rfl, rfl⟩
set_option maxRecDepth 100000 in
set_option maxHeartbeats 800000 in
theorem reader_at (f : Nat) (size sep : Int) (w : World) : Calls Try.prog 18 #[.pointer (some ⟨f, 0, none⟩), .int .i64 size, .int .u8 sep] w (Gave w (why size sep)) := by
  have hr := refusal_at f size sep w
  generalize why size sep = r at *
  have Hr := Lib.hid hr
  clear hr
  by_cases h : r = 0
  · subst h
    go_enter Try.func18, Try.ntmps18
    go_wp2_with fail
    refine Hr.out.mono ?_
    rintro e w' ⟨rfl, rfl⟩
    go_wp2_with fail
    go_ret2
    exact ⟨_, rfl, by simp, (Keeps.refl _ _).alloc _⟩
  · have t : (r != 0) = true := by rw [bne_iff_ne]; exact h
    have Hn := Lib.hid h
    clear h
    go_enter Try.func18, Try.ntmps18
    go_wp2_with fail
    refine Hr.out.mono ?_
    rintro e w' ⟨rfl, rfl⟩
    go_wp2_with fail
    go_ret2
    exact ⟨none, rfl, ⟨fun _ => Hn.out, fun _ => rfl⟩, Keeps.refl _ _⟩
set_option maxRecDepth 100000 in
set_option maxHeartbeats 800000 in
theorem writer_at (f : Nat) (size sep : Int) (w : World) : Calls Try.prog 29 #[.pointer (some ⟨f, 0, none⟩), .int .i64 size, .int .u8 sep] w (Gave w (why size sep)) := by
  have hr := refusal_at f size sep w
  generalize why size sep = r at *
  have Hr := Lib.hid hr
  clear hr
  by_cases h : r = 0
  · subst h
    go_enter Try.func29, Try.ntmps29
    go_wp2_with fail
    refine Hr.out.mono ?_
    rintro e w' ⟨rfl, rfl⟩
    go_wp2_with fail
    go_ret2
    exact ⟨_, rfl, by simp, (Keeps.refl _ _).alloc _⟩
  · have t : (r != 0) = true := by rw [bne_iff_ne]; exact h
    have Hn := Lib.hid h
    clear h
    go_enter Try.func29, Try.ntmps29
    go_wp2_with fail
    refine Hr.out.mono ?_
    rintro e w' ⟨rfl, rfl⟩
    go_wp2_with fail
    go_ret2
    exact ⟨none, rfl, ⟨fun _ => Hn.out, fun _ => rfl⟩, Keeps.refl _ _⟩
end Go.Proofs.Ytolnojhepakaoaa
