/- Which name a beginning is: the program's way and the document's are one. No walk here. -/
import Derived.Test.YtbgbmojoldkcfaaDoorTabs
namespace Go.Proofs.YtbgbmojoldkcfaaDoor

abbrev Bs := List UInt8
/-- The program's way: what has been found, and the names still to come. -/
def fS (s : Bs) : Bs → List Bs → Bs × Int
  | f, [] => if f = [] then ([], 40) else (f, 0)
  | f, x :: r => if Lib.hasPrefix x s then (if f = [] then fS s x r else if f = x then fS s f r else ([], 47)) else fS s f r
def begs (s x : Bs) : Bool := decide (0 < s.length) && (decide (s.length < x.length) && decide (x.take s.length = s))
/-- The document's way: how many, the last of them, and the names still to come. -/
def rS (s : Bs) : Nat → Bs → List Bs → Bs × Int
  | n, f, [] => if n = 0 then ([], 40) else if 1 < n then ([], 47) else (f, 0)
  | n, f, x :: r => if x = s then (x, 0) else if begs s x then rS s (n + 1) x r else rS s n f r

theorem fS_twice (s c : Bs) (hc : c ≠ []) (B : List Bs) : ∀ (A : List Bs) (f : Bs), fS s f (A ++ c :: c :: B) = fS s f (A ++ c :: B)
  | [], f => by
    simp only [List.nil_append, fS]
    by_cases hp : Lib.hasPrefix c s = true <;> by_cases hf : f = [] <;> by_cases he : f = c <;> simp [hp, hf, he, hc]
  | x :: A, f => by
    simp only [List.cons_append, fS, fS_twice s c hc B A]
theorem rS_many (s : Bs) : ∀ (L : List Bs) (n : Nat) (f : Bs), s ∉ L → 1 < n → rS s n f L = ([], 47)
  | [], n, f, _, hn => by rw [rS, if_neg (by omega), if_pos hn]
  | x :: r, n, f, hs, hn => by
    rw [rS, if_neg (fun e => hs (by rw [e]; exact List.mem_cons_self ..))]
    have hr : s ∉ r := fun h => hs (List.mem_cons_of_mem _ h)
    split
    · exact rS_many s r _ _ hr (by omega)
    · exact rS_many s r _ _ hr hn
theorem rS_one (s : Bs) (hp : ∀ x : Bs, x ≠ s → Lib.hasPrefix x s = begs s x) : ∀ (L : List Bs) (f : Bs), s ∉ L → f ≠ [] → f ∉ L → rS s 1 f L = fS s f L
  | [], f, _, hf, _ => by rw [rS, fS, if_neg (by omega), if_neg (by omega), if_neg hf]
  | x :: r, f, hs, hf, hn => by
    have hx : x ≠ s := fun e => hs (by rw [e]; exact List.mem_cons_self ..)
    have hr : s ∉ r := fun h => hs (List.mem_cons_of_mem _ h)
    rw [rS, fS, if_neg hx, hp x hx, if_neg hf, if_neg (show ¬ f = x from fun e => hn (by rw [e]; exact List.mem_cons_self ..))]
    split
    · exact rS_many s r _ _ hr (by omega)
    · exact rS_one s hp r f hr hf (fun h => hn (List.mem_cons_of_mem _ h))
theorem rS_none (s : Bs) (hp : ∀ x : Bs, x ≠ s → Lib.hasPrefix x s = begs s x) : ∀ (L : List Bs), s ∉ L → L.Nodup → [] ∉ L → rS s 0 [] L = fS s [] L
  | [], _, _, _ => by rw [rS, fS, if_pos rfl, if_pos rfl]
  | x :: r, hs, hd, he => by
    have hx : x ≠ s := fun e => hs (by rw [e]; exact List.mem_cons_self ..)
    have hr : s ∉ r := fun h => hs (List.mem_cons_of_mem _ h)
    have hx0 : x ≠ [] := fun e => he (by rw [e]; exact List.mem_cons_self ..)
    rw [rS, fS, if_neg hx, hp x hx, if_pos rfl]
    split
    · exact rS_one s hp r x hr hx0 (List.nodup_cons.1 hd).1
    · exact rS_none s hp r hr (List.nodup_cons.1 hd).2 (fun h => he (List.mem_cons_of_mem _ h))
theorem rS_found (s : Bs) : ∀ (L : List Bs) (n : Nat) (f : Bs), s ∈ L → rS s n f L = (s, 0)
  | [], _, _, h => by cases h
  | x :: r, n, f, h => by
    rw [rS]
    by_cases hx : x = s
    · rw [if_pos hx, hx]
    · rw [if_neg hx]
      have hr : s ∈ r := by
        rcases List.mem_cons.1 h with e | e
        · exact absurd e.symm hx
        · exact e
      split
      · exact rS_found s r _ _ hr
      · exact rS_found s r _ _ hr
theorem pre_begs (s : Bs) (h0 : s ≠ []) (x : Bs) (hx : x ≠ s) : Lib.hasPrefix x s = begs s x := by
  unfold begs
  have hl : 0 < s.length := List.length_pos_iff.2 h0
  rw [decide_eq_true hl, Bool.true_and, Bool.eq_iff_iff, Bool.and_eq_true, decide_eq_true_eq, decide_eq_true_eq]
  have hpr : Lib.hasPrefix x s = true ↔ s <+: x := by
    unfold Lib.hasPrefix
    simp
  rw [hpr]
  constructor
  · intro h
    have h1 := List.prefix_iff_eq_take.1 h
    have h2 := h.length_le
    refine ⟨?_, h1.symm⟩
    rcases Nat.lt_or_ge s.length x.length with h3 | h3
    · exact h3
    · exact absurd (h.eq_of_length (by omega)).symm hx
  · rintro ⟨_, h1⟩
    exact List.prefix_iff_eq_take.2 h1.symm

def oNames : List Bs := optL.map (·.1)
def rNames : List Bs := namL.map (·.1)
def progLong (s : Bs) : Bs × Int := if s ∈ oNames then (s, 0) else if s = [] then ([], 40) else fS s [] oNames
theorem names_shape : oNames = rNames.take 10 ++ (rNames.getD 10 []) :: (rNames.getD 10 []) :: rNames.drop 11 := by kernel_rfl
theorem names_split : rNames = rNames.take 10 ++ (rNames.getD 10 []) :: rNames.drop 11 := by kernel_rfl
theorem names_nodup : rNames.Nodup := by decide +kernel
theorem names_full : [] ∉ rNames := by decide +kernel
theorem check_full : rNames.getD 10 [] ≠ [] := by decide +kernel
theorem names_same (s : Bs) : s ∈ oNames ↔ s ∈ rNames := by
  rw [names_shape]
  conv => rhs; rw [names_split]
  simp only [List.mem_append, List.mem_cons]
  constructor
  · rintro (h | h | h | h)
    · exact Or.inl h
    · exact Or.inr (Or.inl h)
    · exact Or.inr (Or.inl h)
    · exact Or.inr (Or.inr h)
  · rintro (h | h | h)
    · exact Or.inl h
    · exact Or.inr (Or.inl h)
    · exact Or.inr (Or.inr (Or.inr h))
theorem long_same (s : Bs) : progLong s = rS s 0 [] rNames := by
  unfold progLong
  by_cases h : s ∈ oNames
  · rw [if_pos h, rS_found s _ _ _ ((names_same s).1 h)]
  · have h' : s ∉ rNames := fun e => h ((names_same s).2 e)
    rw [if_neg h]
    by_cases h0 : s = []
    · subst h0
      rw [if_pos rfl]
      have : ∀ L : List Bs, [] ∉ L → rS [] 0 [] L = ([], 40) := by
        intro L
        induction L with
        | nil => intro _; rfl
        | cons x r ih =>
          intro hn
          rw [rS, if_neg (fun e => hn (by rw [e]; exact List.mem_cons_self ..))]
          simp only [begs, List.length_nil, Nat.lt_irrefl, decide_false, Bool.false_and, Bool.false_eq_true, if_false]
          exact ih (fun e => hn (List.mem_cons_of_mem _ e))
      exact (this _ names_full).symm
    · rw [if_neg h0, rS_none s (pre_begs s h0) _ h' names_nodup names_full, names_shape, fS_twice s _ check_full, ← names_split]
end Go.Proofs.YtbgbmojoldkcfaaDoor
