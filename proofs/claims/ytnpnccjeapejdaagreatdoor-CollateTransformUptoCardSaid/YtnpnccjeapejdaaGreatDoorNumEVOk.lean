/- What a text's value keeps to. -/
import Derived.Test.YtnpnccjeapejdaaGreatDoorNumCompare
import Derived.Test.YtnpnccjeapejdaaGreatDoorNumEDeci
namespace Go.Proofs.YtnpnccjeapejdaaGreatDoor.Num
open Go.RowKit

structure PartsOk (n : Nat) (h : Hd) : Prop where
  wl : h.whole.length ≤ n
  fl : h.frac.length ≤ n
  wd : ∀ x ∈ h.whole, isDig x = true
  fd : ∀ x ∈ h.frac, isDig x = true
theorem fracS_ok (r : List UInt8) : (fracS r).length ≤ r.length ∧ ∀ x ∈ fracS r, isDig x = true := by
  unfold fracS
  split
  · refine ⟨?_, fun x hx => mem_takeWhile hx⟩
    have := (List.takeWhile_sublist (l := r.drop 1) isDig).length_le
    rw [List.length_drop] at this
    exact Nat.le_trans this (by omega)
  · simp
theorem numberS_ok (r1 : List UInt8) (g neg : Bool) (base : Nat) : PartsOk r1.length (numberS r1 g neg base) := by
  have a1 := (List.takeWhile_sublist (l := r1) isDig).length_le
  have a2 := fracS_ok (r1.dropWhile isDig)
  have a3 := (List.dropWhile_sublist (l := r1) isDig).length_le
  have m : ∀ c : Prop, [Decidable c] → ∀ x y : Hd, PartsOk r1.length x → PartsOk r1.length y → PartsOk r1.length (if c then x else y) := fun c _ x y hx hy => by
    split
    · exact hx
    · exact hy
  unfold numberS
  exact m _ _ _ ⟨by simp [Hd.none], by simp [Hd.none], by simp [Hd.none], by simp [Hd.none]⟩ (m _ _ _ ⟨a1, Nat.le_trans a2.1 a3, fun x hx => mem_takeWhile hx, a2.2⟩ ⟨a1, Nat.le_trans a2.1 a3, fun x hx => mem_takeWhile hx, a2.2⟩)
theorem PartsOk.mono {n m : Nat} {h : Hd} (k : PartsOk n h) (hm : n ≤ m) : PartsOk m h := ⟨Nat.le_trans k.wl hm, Nat.le_trans k.fl hm, k.wd, k.fd⟩
theorem scanS_parts (l : List UInt8) (g : Bool) : PartsOk l.length (scanS l g) := by
  unfold scanS
  simp only
  split
  · exact ⟨by simp, by simp, by simp, by simp⟩
  · exact (numberS_ok _ _ _ _).mono (by rw [List.length_drop, List.length_drop]; omega)
theorem mem_trimL {l : List UInt8} {x : UInt8} (h : x ∈ trimL l) : x ∈ l := by
  rw [trimL_eq] at h
  exact (List.dropWhile_sublist _).subset h
theorem mem_trimR {l : List UInt8} {x : UInt8} (h : x ∈ trimR l) : x ∈ l := by
  rw [trimR_eq] at h
  have := List.mem_reverse.1 h
  exact List.mem_reverse.1 ((List.dropWhile_sublist _).subset this)
theorem mem_numW {h : Hd} {x : UInt8} (k : x ∈ numW h) : x ∈ h.whole := by
  unfold numW at k
  by_cases c : (if trimL h.whole = [] then trimL (trimR h.frac) else trimR h.frac) = []
  · rw [if_pos c] at k
    exact mem_trimL (mem_trimR k)
  · rw [if_neg c] at k
    exact mem_trimL k
theorem mem_numF {h : Hd} {x : UInt8} (k : x ∈ numF h) : x ∈ h.frac := by
  unfold numF at k
  split at k
  · exact mem_trimR (mem_trimL k)
  · exact mem_trimR k
theorem rankOf_le (c : UInt8) : rankOf c ≤ 10 := by
  unfold rankOf
  repeat' split
  all_goals omega
theorem sufS_le (h : Hd) (l : List UInt8) : sufS h l ≤ 10 := by
  unfold sufS
  split
  · omega
  · exact rankOf_le _
/-- All that Embed asks of a value. -/
structure ValFull (h : Bool) (n : Nat) (v : Val) : Prop where
  ok : ValOk h v
  whole : v.whole.length ≤ n
  frac : v.frac.length ≤ n
  cls : v.cls = 96 ∨ v.cls = 64 ∨ (v.cls ≠ 96 ∧ v.cls ≠ 64)
theorem valS_full (kind : Nat) (s : ByteArray) (hs : s.size ≤ 10000000) : ValFull (kind == 64) s.size (valS kind s.data.toList) := by
  have ok := scanS_ok s (kind == 32) (by omega)
  have pk := scanS_parts s.data.toList (kind == 32)
  rw [← Lib.size_eq] at pk
  have h1 := numW_le (scanS s.data.toList (kind == 32))
  have h2 := numF_le (scanS s.data.toList (kind == 32))
  have m : ∀ c : Prop, [Decidable c] → ∀ x y : Val, ValFull (kind == 64) s.size x → ValFull (kind == 64) s.size y → ValFull (kind == 64) s.size (if c then x else y) := fun c _ x y hx hy => by
    split
    · exact hx
    · exact hy
  have z : ∀ n, n ≤ 255 → (n ≠ 96 ∧ n ≠ 64) → ValFull (kind == 64) s.size ⟨n, 0, 0, [], []⟩ := fun n hn hc =>
    ⟨⟨hn, by show 0 ≤ 255; omega, fun _ => rfl, by show (-4611686018427387904 : Int) ≤ 0; omega, by show (0 : Int) < 4611686018427387904; omega, fun x hx => by simp [Val.digits] at hx, fun _ _ => ⟨rfl, rfl, rfl⟩⟩, by simp, by simp, Or.inr (Or.inr hc)⟩
  unfold valS valH
  refine m _ _ _ (z _ (by omega) (by omega)) (m _ _ _ (z _ (by omega) (by omega)) (m _ _ _ (z _ (by omega) (by omega)) (m _ _ _ (z _ (by omega) (by omega)) (m _ _ _ (z _ (by omega) (by omega)) ?_))))
  generalize scanS s.data.toList (kind == 32) = h at *
  have hE : -4611686018427387904 ≤ numE h ∧ numE h < 4611686018427387904 := by
    have e1 := ok.exp
    have e2 := trimL_len h.whole
    have e3 := trimR_len h.frac
    have e4 := trimL_len (trimR h.frac)
    have e5 := pk.wl
    have e6 := pk.fl
    unfold numE
    split <;> omega
  have hr := sufS_le h s.data.toList
  refine ⟨⟨?_, ?_, ?_, hE.1, hE.2, ?_, ?_⟩, Nat.le_trans h1 pk.wl, Nat.le_trans h2 pk.fl, ?_⟩
  · show (if h.neg = true then 64 else 96) ≤ 255
    split <;> omega
  · show (if kind = 64 then sufS h s.data.toList else 0) ≤ 255
    split <;> omega
  · intro hk
    show (if kind = 64 then sufS h s.data.toList else 0) = 0
    rw [if_neg (by simpa using hk)]
  · intro x hx
    have hd : isDig x = true := by
      rcases List.mem_append.1 hx with q | q
      · exact pk.wd x (mem_numW q)
      · exact pk.fd x (mem_numF q)
    have := (isDig_iff.1 hd).1
    omega
  · intro c1 c2
    exfalso
    have c1' : (if h.neg = true then 64 else 96) ≠ 96 := c1
    have c2' : (if h.neg = true then 64 else 96) ≠ 64 := c2
    cases hn : h.neg <;> simp [hn] at c1' c2'
  · show (if h.neg = true then 64 else 96) = 96 ∨ (if h.neg = true then 64 else 96) = 64 ∨ _
    cases hn : h.neg
    · exact Or.inl rfl
    · exact Or.inr (Or.inl rfl)
end Go.Proofs.YtnpnccjeapejdaaGreatDoor.Num
