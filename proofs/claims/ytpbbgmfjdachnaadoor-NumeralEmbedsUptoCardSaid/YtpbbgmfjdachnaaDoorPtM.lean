/- NumeralParts: what the parts of a text are told as. No walk. -/
import Derived.Test.YtpbbgmfjdachnaaDoorScaleLaw
namespace Go.Proofs.YtpbbgmfjdachnaaDoor

/-- Digits behind the point. -/
def ptF (F k : Nat) : List UInt8 := dg F ++ List.replicate k 48
def ptT (p : List UInt8) (neg : Bool) (z W F k : Nat) : List UInt8 := p ++ (sgL neg ++ (zdg z W ++ (46 :: (ptF F k ++ [120]))))
theorem ptF_dig (F k : Nat) : ∀ x ∈ ptF F k, isDig x = true := by
  intro x hx
  rcases List.mem_append.1 hx with h | h
  · exact dg_dig F x h
  · rw [(List.mem_replicate.1 h).2]; decide
theorem pt_scan (p : List UInt8) (hp : ∀ x ∈ p, isBlank x = true) (neg : Bool) (z W F k : Nat) (g : Bool) :
    scanS (ptT p neg z W F k) g = ⟨3, neg, zdg z W, ptF F k, 0, p.length + (sgL neg).length + (zdg z W).length + (1 + (ptF F k).length)⟩ := by
  have e1 : ((46 :: (ptF F k ++ [120])).drop 1).takeWhile isDig = ptF F k := by
    rw [List.drop_succ_cons, List.drop_zero]
    exact tw_app (ptF_dig F k) (Or.inl (by decide))
  have e2 : fracS (46 :: (ptF F k ++ [120])) = ptF F k := by unfold fracS; rw [if_pos (by rfl), e1]
  have e3 : fracN (46 :: (ptF F k ++ [120])) = 1 + (ptF F k).length := by unfold fracN spanN; rw [if_pos (by rfl), e1]
  have e4 : (46 :: (ptF F k ++ [120])).drop (1 + (ptF F k).length) = [120] := by
    rw [show 46 :: (ptF F k ++ [120]) = (46 :: ptF F k) ++ [120] from rfl, show 1 + (ptF F k).length = (46 :: ptF F k).length by rw [List.length_cons]; omega, List.drop_left]
  unfold ptT
  rw [scan_digs p hp neg (zdg z W) (zdg_dig z W) (zdg_ne z W) _ (by rfl) g, e2, e3, e4]
  have e5 : (expS [120]).1 = 0 := rfl
  have e6 : (expS [120]).2 = 0 := rfl
  rw [e5, e6]
  cases g <;> simp
theorem trimR_idem (l : List UInt8) : trimR (trimR l) = trimR l := by
  rw [trimR_eq, trimR_eq, List.reverse_reverse]
  congr 1
  induction l.reverse with
  | nil => rfl
  | cons x r ih =>
    rw [List.dropWhile_cons]
    split
    · exact ih
    · rename_i h
      rw [List.dropWhile_cons, if_neg h]
theorem trimL_all : ∀ {l : List UInt8}, trimL l = [] → ∀ x ∈ l, x = 48 := by
  intro l
  rw [trimL_eq]
  induction l with
  | nil => intro _ x hx; cases hx
  | cons y r ih =>
    intro h x hx
    rw [List.dropWhile_cons] at h
    split at h
    · rename_i hy
      rcases List.mem_cons.1 hx with rfl | hx
      · simpa using hy
      · exact ih h x hx
    · cases h
theorem trimL_of : ∀ {l : List UInt8}, (∀ x ∈ l, x = 48) → l.dropWhile (· == 48) = []
  | [], _ => rfl
  | y :: r, h => by
    rw [List.dropWhile_cons, if_pos (by rw [h y (List.mem_cons_self ..)]; rfl)]
    exact trimL_of fun x hx => h x (List.mem_cons_of_mem _ hx)
theorem trimR_all {l : List UInt8} (h : ∀ x ∈ l, x = 48) : trimR l = [] := by
  rw [trimR_eq, trimL_of fun x hx => h x (by simpa using hx)]; rfl
theorem trimLR_nil {l : List UInt8} (h : trimL (trimR l) = []) : trimR l = [] := by
  rw [← trimR_idem]
  exact trimR_all (trimL_all h)
theorem trimR_more (l : List UInt8) (k : Nat) : trimR (l ++ List.replicate k 48) = trimR l := by
  rw [trimR_eq, trimR_eq, List.reverse_append, List.reverse_replicate, dropZeros]
/-- The fraction's digits without the zeros behind. -/
def ptR (F : Nat) : List UInt8 := trimR (dg F)
theorem ptF_R (F k : Nat) : trimR (ptF F k) = ptR F := trimR_more _ _
def ptH (neg : Bool) (z W F k n : Nat) : Hd := ⟨3, neg, zdg z W, ptF F k, 0, n⟩
theorem ptH_pos (neg : Bool) (z W F k n : Nat) (h : W ≠ 0) : numD (ptH neg z W F k n) = (if ptR F = [] then trimR (dgs W) else dgs W ++ ptR F) ∧ numE (ptH neg z W F k n) = (dgs W).length := by
  have hw : ¬ dgs W = [] := fun e => h (dgs_nil.1 e)
  have eF : numF (ptH neg z W F k n) = ptR F := by
    unfold numF ptH
    simp only [trimL_zdg, ptF_R]
    rw [if_neg hw]
  constructor
  · unfold numD
    rw [eF]
    unfold numW
    have : (if trimL (ptH neg z W F k n).whole = [] then trimL (trimR (ptH neg z W F k n).frac) else trimR (ptH neg z W F k n).frac) = ptR F := eF
    rw [this]
    unfold ptH
    simp only [trimL_zdg]
    split
    · rename_i e; rw [e, List.append_nil]
    · rfl
  · unfold numE ptH
    simp only [trimL_zdg]
    rw [if_neg hw, Int.add_zero]
theorem ptH_zero (neg : Bool) (z F k n : Nat) : numD (ptH neg z 0 F k n) = trimL (ptR F) ∧ numE (ptH neg z 0 F k n) = ((trimL (ptR F)).length : Int) - (ptR F).length := by
  have e0 : trimL (zdg z 0) = [] := by rw [trimL_zdg]; exact dgs_nil.2 rfl
  have eF : numF (ptH neg z 0 F k n) = trimL (ptR F) := by
    unfold numF ptH
    simp only [e0, ptF_R, if_true]
  constructor
  · unfold numD
    rw [eF]
    unfold numW ptH
    simp only [e0]
    have : trimR ([] : List UInt8) = [] := rfl
    rw [this, ite_self, List.nil_append]
  · unfold numE ptH
    simp only [e0, ptF_R, if_true, Int.add_zero]
/-- What General and Decimal tell, as the statement asks it. -/
theorem pt_none (neg : Bool) (z W F k n : Nat) : numD (ptH neg z W F k n) = [] ↔ dgs W ++ ptR F = [] := by
  by_cases h : W = 0
  · subst h
    rw [(ptH_zero neg z F k n).1, show dgs 0 = [] from dgs_nil.2 rfl, List.nil_append]
    exact ⟨fun e => trimLR_nil e, fun e => by rw [e]; rfl⟩
  · have hw : ¬ dgs W = [] := fun e => h (dgs_nil.1 e)
    rw [(ptH_pos neg z W F k n h).1]
    constructor
    · intro e
      split at e
      · exact absurd (trimR_dgs.1 e) h
      · exact absurd (List.append_eq_nil_iff.1 e).1 hw
    · intro e; exact absurd (List.append_eq_nil_iff.1 e).1 hw
theorem trimR_split (l : List UInt8) : ∃ j, l = trimR l ++ List.replicate j 48 := by
  induction l with
  | nil => exact ⟨0, rfl⟩
  | cons x r ih =>
    obtain ⟨j, hj⟩ := ih
    rw [trimR_cons]
    split
    · rename_i h
      rw [h.1] at hj
      exact ⟨j + 1, by rw [hj, h.2]; rfl⟩
    · exact ⟨j, by rw [List.cons_append, ← hj]⟩
/-- Where there is a whole part: the digits begin whole and fraction, and zeros alone are left. -/
theorem pt_begin (neg : Bool) (z W F k n : Nat) (h : W ≠ 0) : ∃ j, dgs W ++ ptR F = numD (ptH neg z W F k n) ++ List.replicate j 48 := by
  rw [(ptH_pos neg z W F k n h).1]
  split
  · rename_i e
    rw [e, List.append_nil]
    exact trimR_split _
  · exact ⟨0, by simp⟩
theorem trimL_zeros (l : List UInt8) : ∃ j, l = List.replicate j 48 ++ trimL l ∧ (∀ c r, trimL l = c :: r → c ≠ 48) := by
  rw [trimL_eq]
  induction l with
  | nil => exact ⟨0, rfl, fun c r h => by cases h⟩
  | cons x r ih =>
    obtain ⟨j, hj, hn⟩ := ih
    rw [List.dropWhile_cons]
    split
    · rename_i h
      have hx : x = 48 := by simpa using h
      exact ⟨j + 1, by rw [List.replicate_succ, List.cons_append, ← hj, hx], hn⟩
    · rename_i h
      refine ⟨0, rfl, fun c r' e => ?_⟩
      injection e with e1 _
      subst e1
      simpa using h
end Go.Proofs.YtpbbgmfjdachnaaDoor
