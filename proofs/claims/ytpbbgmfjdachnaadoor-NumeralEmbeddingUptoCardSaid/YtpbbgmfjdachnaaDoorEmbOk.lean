/- numeral's Embed, of every kind and every text. -/
import Derived.Test.YtpbbgmfjdachnaaDoorVOk
import Derived.Test.YtpbbgmfjdachnaaDoorValE
import Derived.Test.YtpbbgmfjdachnaaDoorValH
import Derived.Test.YtpbbgmfjdachnaaDoorValB
import Derived.Test.YtpbbgmfjdachnaaDoorValBH
import Derived.Test.YtpbbgmfjdachnaaDoorVerE
import Derived.Test.YtpbbgmfjdachnaaDoorEscE
namespace Go.Proofs.YtpbbgmfjdachnaaDoor
open Go.RowKit

theorem embedValue_ok (kind : Nat) (v : Val) (n : Nat) (hn : n ≤ 10000000) (w : World) (f : ValFull (kind == 64) n v) :
    Calls Tryd.prog 46 #[.int .u16 kind, valV v] w (RetBelow w (.string (bs (valE (kind == 64) v)))) := by
  have o := f.ok
  have hw := Nat.le_trans f.whole hn
  have hf := Nat.le_trans f.frac hn
  rcases f.cls with c | c | ⟨c1, c2⟩
  · by_cases hk : kind = 64
    · subst hk
      exact embedAboveH_ok v w c o.rank hw hf ⟨o.explo, o.exphi⟩
    · exact embedAbove_ok kind hk v w c o.rank hw hf ⟨o.explo, o.exphi⟩
  · by_cases hk : kind = 64
    · subst hk
      exact embedBelowH_ok v w c o.rank hw hf ⟨o.explo, o.exphi⟩
    · exact embedBelow_ok kind hk v w c o.rank hw hf ⟨o.explo, o.exphi⟩
  · have e : valE (kind == 64) v = [UInt8.ofNat v.cls] := by unfold valE; rw [if_neg c1, if_neg c2]
    rw [e]
    exact embedOther_ok kind v w c1 c2 o.cls

theorem monthIn_le : ∀ (ws : List (List UInt8)) (l : List UInt8) (n : Nat), monthIn l n ws ≤ n + ws.length
  | [], _, n => by simp [monthIn]
  | w :: r, l, n => by
    unfold monthIn
    split
    · simp
    · have := monthIn_le r l (n + 1)
      simp; omega
theorem monthS_le (l : List UInt8) : monthS l ≤ 12 := by
  have := monthIn_le mNames (l.dropWhile isBlank) 0
  unfold monthS
  have e : mNames.length = 12 := rfl
  omega

set_option maxRecDepth 100000
set_option maxHeartbeats 1600000 in
theorem embed_ok (kind : Nat) (s : ByteArray) (w : World) (hs : s.size ≤ 10000000) (T : Tabs w) :
    Calls Tryd.prog 24 #[.int .u16 kind, .string s] w (RetBelow w (.string (bs (embS kind s.data.toList)))) := by
  have HT := Lib.hid T
  clear T
  have k16 : ((kind : Int) == 16) = decide (kind = 16) := by rw [Bool.eq_iff_iff, beq_iff_eq, decide_eq_true_iff]; omega
  have k32 : ((kind : Int) == 32) = decide (kind = 32) := by rw [Bool.eq_iff_iff, beq_iff_eq, decide_eq_true_iff]; omega
  have k64 : ((kind : Int) == 64) = decide (kind = 64) := by rw [Bool.eq_iff_iff, beq_iff_eq, decide_eq_true_iff]; omega
  have k128 : ((kind : Int) == 128) = decide (kind = 128) := by rw [Bool.eq_iff_iff, beq_iff_eq, decide_eq_true_iff]; omega
  have k256 : ((kind : Int) == 256) = decide (kind = 256) := by rw [Bool.eq_iff_iff, beq_iff_eq, decide_eq_true_iff]; omega
  have tt : ∀ p : Prop, [Decidable p] → p → decide p = true := fun p _ h => decide_eq_true h
  have ff : ∀ p : Prop, [Decidable p] → ¬ p → decide p = false := fun p _ h => decide_eq_false h
  by_cases hn : kind = 16 ∨ kind = 32 ∨ kind = 64
  · have E := Lib.hid (show embS kind s.data.toList = valE (kind == 64) (valS kind s.data.toList) by unfold embS; rw [if_pos hn])
    have V1 := Lib.hid (fun (W : World) (hT : Tabs W) => valueOf_ok kind s W (by omega) hT)
    have V2 := Lib.hid (fun W : World => embedValue_ok kind (valS kind s.data.toList) s.size hs W (valS_full kind s hs))
    rw [E.out]
    clear E
    generalize bs (valE (kind == 64) (valS kind s.data.toList)) = R at *
    generalize valS kind s.data.toList = x at *
    rcases hn with h | h | h
    · rw [tt _ h] at k16
      clear k32 k64 k128 k256 tt ff h
      go_enter Tryd.func24, Tryd.ntmps24
      go_wp2_with fail
      refine (V1.out _ HT.out).mono ?_
      rintro e w1 ⟨rfl, hb1⟩
      have B1 := Lib.hid hb1
      clear hb1
      go_wp2_with fail
      refine (V2.out _).mono ?_
      rintro e w2 ⟨rfl, hb2⟩
      have B2 := Lib.hid (B1.out.trans (hb2.mono B1.out.size))
      clear hb2
      go_wp2_with fail
      go_ret
      exact ⟨rfl, B2.out⟩
    · have n16 : ¬ kind = 16 := by omega
      rw [ff _ n16] at k16
      rw [tt _ h] at k32
      clear k64 k128 k256 tt ff h n16
      go_enter Tryd.func24, Tryd.ntmps24
      go_wp2_with fail
      refine (V1.out _ HT.out).mono ?_
      rintro e w1 ⟨rfl, hb1⟩
      have B1 := Lib.hid hb1
      clear hb1
      go_wp2_with fail
      refine (V2.out _).mono ?_
      rintro e w2 ⟨rfl, hb2⟩
      have B2 := Lib.hid (B1.out.trans (hb2.mono B1.out.size))
      clear hb2
      go_wp2_with fail
      go_ret
      exact ⟨rfl, B2.out⟩
    · have n16 : ¬ kind = 16 := by omega
      have n32 : ¬ kind = 32 := by omega
      rw [ff _ n16] at k16
      rw [ff _ n32] at k32
      rw [tt _ h] at k64
      clear k128 k256 tt ff h n16 n32
      go_enter Tryd.func24, Tryd.ntmps24
      go_wp2_with fail
      refine (V1.out _ HT.out).mono ?_
      rintro e w1 ⟨rfl, hb1⟩
      have B1 := Lib.hid hb1
      clear hb1
      go_wp2_with fail
      refine (V2.out _).mono ?_
      rintro e w2 ⟨rfl, hb2⟩
      have B2 := Lib.hid (B1.out.trans (hb2.mono B1.out.size))
      clear hb2
      go_wp2_with fail
      go_ret
      exact ⟨rfl, B2.out⟩
  · have n16 : ¬ kind = 16 := fun h => hn (Or.inl h)
    have n32 : ¬ kind = 32 := fun h => hn (Or.inr (Or.inl h))
    have n64 : ¬ kind = 64 := fun h => hn (Or.inr (Or.inr h))
    rw [ff _ n16] at k16
    rw [ff _ n32] at k32
    rw [ff _ n64] at k64
    by_cases h128 : kind = 128
    · have E := Lib.hid (show embS kind s.data.toList = [UInt8.ofNat (monthS s.data.toList)] by unfold embS; rw [if_neg hn, if_pos h128])
      rw [tt _ h128] at k128
      clear k256 tt ff n16 n32 n64 hn h128
      have hsm : s.size ≤ maxLen := Nat.le_trans hs (by decide)
      have hml := monthS_le s.data.toList
      have M := Lib.hid (fun (W : World) (hT : Tabs W) => month_ok s W hsm hT)
      rw [E.out]
      clear E hsm
      generalize monthS s.data.toList = m at *
      go_enter Tryd.func24, Tryd.ntmps24
      go_wp2_with fail
      refine (M.out w HT.out).mono ?_
      rintro e w1 ⟨rfl, hb1⟩
      have B1 := Lib.hid hb1
      clear hb1
      have hback := dig_back w1 (m : Int) (by omega)
      have hmn : ((m : Int)).toNat = m := Int.toNat_natCast m
      rw [hmn] at hback
      clear hmn
      have hm2 : (m : Int) ≤ 12 := by omega
      go_wp2_with fail
      go_ret
      exact ⟨rfl, B1.out.alloc B1.out.size _⟩
    · rw [ff _ h128] at k128
      by_cases h256 : kind = 256
      · have E := Lib.hid (show embS kind s.data.toList = verN s.data.toList.length s.data.toList by unfold embS; rw [if_neg hn, if_neg h128, if_pos h256])
        rw [tt _ h256] at k256
        clear tt ff n16 n32 n64 hn h128 h256
        rw [E.out]
        go_enter Tryd.func24, Tryd.ntmps24
        go_wp2_with fail
        refine (embedVersion_ok s w hs HT.out).mono ?_
        rintro e w1 ⟨rfl, hb1⟩
        have B1 := Lib.hid hb1
        clear hb1
        go_wp2_with fail
        go_ret
        exact ⟨rfl, B1.out⟩
      · have E := Lib.hid (show embS kind s.data.toList = escS s.data.toList by unfold embS; rw [if_neg hn, if_neg h128, if_neg h256])
        rw [ff _ h256] at k256
        clear tt ff n16 n32 n64 hn h128 h256
        rw [E.out]
        go_enter Tryd.func24, Tryd.ntmps24
        go_wp2_with fail
        refine (embedBytes_ok s w (by omega)).mono ?_
        rintro e w1 ⟨rfl, hb1⟩
        have B1 := Lib.hid hb1
        clear hb1
        go_wp2_with fail
        go_ret
        exact ⟨rfl, B1.out⟩
end Go.Proofs.YtpbbgmfjdachnaaDoor
