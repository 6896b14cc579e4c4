/- numeral's Compare is a total preorder of each kind: the plain mathematics. No program is named. -/
import Derived.Test.YtpbbgmfjdachnaaDoorSpec
namespace Go.Proofs.YtpbbgmfjdachnaaDoor

theorem cmpL_is : IsCmp cmpL :=
  IsCmp.ends cmpI_is digAt List.length 0 (fun a i h => by unfold digAt; rw [if_neg (by omega)])
theorem cmpPlain_is : IsCmp cmpPlain :=
  IsCmp.ends cmpI_is rankAtS List.length 2 (fun a i h => by unfold rankAtS; rw [if_neg (by omega)])
theorem cmpSize_is : IsCmp cmpSize :=
  IsCmp.lex (cmpI_is.pull fun v : Val => (v.rank : Int)) (IsCmp.lex (cmpI_is.pull fun v : Val => v.exp) (cmpL_is.pull fun v : Val => v.digits))

theorem cmpI_zero {a b : Int} (h : cmpI a b = 0) : a = b := by
  unfold cmpI at h
  split at h
  · omega
  · split at h <;> omega
theorem cmpVal_is : IsCmp cmpVal := by
  refine IsCmp.ite (cmpI_is.pull fun v : Val => (v.cls : Int)) cmpSize_is.flip cmpSize_is (fun v => v.cls = 64) (fun a b h => ?_)
  have := cmpI_zero h
  omega

/-- An order on the runs of digits: an empty one first. -/
theorem cmpNums_is : IsCmp cmpNums := by
  have e : cmpNums = fun a b => thenC (cmpI (if a = [] then 0 else 1) (if b = [] then 0 else 1)) (if a = [] then (0 : Int) else thenC (cmpI (trimL a).length (trimL b).length) (cmpL (trimL a) (trimL b))) := by
    funext a b
    unfold cmpNums
    cases a <;> cases b <;> simp [cmpI, thenC] <;> omega
  rw [e]
  refine IsCmp.ite (cmpI_is.pull fun a : List UInt8 => if a = [] then (0 : Int) else 1) (d := fun _ _ => 0) (e := fun a b => thenC (cmpI (trimL a).length (trimL b).length) (cmpL (trimL a) (trimL b)))
    ⟨fun _ _ => by omega, fun _ _ => by omega, fun _ _ => by omega, fun _ _ _ _ _ => by omega⟩
    (IsCmp.lex (cmpI_is.pull fun a : List UInt8 => ((trimL a).length : Int)) (cmpL_is.pull trimL)) (fun a => a = []) (fun a b h => ?_)
  have := cmpI_zero h
  constructor
  · intro h; rw [if_pos h] at this; split at this
    · assumption
    · omega
  · intro h; rw [if_pos h] at this; split at this
    · assumption
    · omega
theorem cmpPair_is : IsCmp cmpPair := IsCmp.lex (cmpPlain_is.pull plainOf) (cmpNums_is.pull digsOf)

theorem restN_nil : ∀ n, restN n [] = []
  | 0 => rfl
  | n + 1 => restN_nil n
theorem restOf_lt {l : List UInt8} (h : l ≠ []) : (restOf l).length < l.length := by
  unfold restOf
  have h1 := (List.dropWhile_sublist (l := l) notDig).length_le
  have h2 := (List.dropWhile_sublist (l := l.dropWhile notDig) isDig).length_le
  cases l with
  | nil => exact absurd rfl h
  | cons x r =>
    have h3 := (List.dropWhile_sublist (l := r) notDig).length_le
    have h4 := (List.dropWhile_sublist (l := r) isDig).length_le
    by_cases e : notDig x = true
    · have h5 := (List.dropWhile_sublist (l := r.dropWhile notDig) isDig).length_le
      simp only [List.dropWhile, e, List.length_cons]; omega
    · have d : isDig x = true := by simpa [notDig] using e
      simp only [List.dropWhile, e, d, List.length_cons]; omega
theorem restN_end : ∀ (n : Nat) (l : List UInt8), l.length ≤ n → restN n l = []
  | 0, l, h => by cases l with
    | nil => rfl
    | cons x r => simp at h
  | n + 1, l, h => by
    by_cases e : l = []
    · subst e; exact restN_nil _
    · exact restN_end n (restOf l) (by have := restOf_lt e; omega)
theorem cmpVer_is : IsCmp cmpVer :=
  IsCmp.ends (c := cmpPair) cmpPair_is (fun l i => restN i l) List.length [] (fun a i h => restN_end i a h)

theorem cmpS_is (kind : Nat) : IsCmp (cmpS kind) := by
  by_cases h1 : kind = 16 ∨ kind = 32 ∨ kind = 64
  · have e : cmpS kind = fun a b => cmpVal (valS kind a) (valS kind b) := by funext a b; unfold cmpS; rw [if_pos h1]
    rw [e]; exact cmpVal_is.pull (valS kind)
  · by_cases h2 : kind = 128
    · have e : cmpS kind = fun a b => cmpI (monthS a) (monthS b) := by funext a b; unfold cmpS; rw [if_neg h1, if_pos h2]
      rw [e]; exact cmpI_is.pull (fun l => (monthS l : Int))
    · by_cases h3 : kind = 256
      · have e : cmpS kind = cmpVer := by funext a b; unfold cmpS; rw [if_neg h1, if_neg h2, if_pos h3]
        rw [e]; exact cmpVer_is
      · have e : cmpS kind = cmpL := by funext a b; unfold cmpS; rw [if_neg h1, if_neg h2, if_neg h3]
        rw [e]; exact cmpL_is
end Go.Proofs.YtpbbgmfjdachnaaDoor
