/- Reboot of one and of two files, all of whose bytes are synced in the first. -/
import Derived.Test.YtfplfnhhiipgcaaPn
namespace Go.Proofs.Ytfplfnhhiipgcaa
open Go.RowKit Go.Maps Go.MuLone

theorem kept_all (d : Bd) (keep : Int) (k0 : 0 ≤ keep) (h : d.sy = d.n) : d.kept keep = d.n := by unfold Bd.kept; omega
theorem kept_le (d : Bd) (keep : Int) (k0 : 0 ≤ keep) (h0 : 0 ≤ d.sy) (h1 : d.sy ≤ d.n) : 0 ≤ d.kept keep ∧ d.kept keep ≤ d.n := by unfold Bd.kept; omega
theorem str_refl (s : List UInt8) : (Lit.string s).sameKey (.string s) = true := by simp [Lit.sameKey]

/-- Reboot, where the one file there is has been synced. -/
theorem reboot_one (b g : Nat) (s : FSt) (ao : Option Addr) (n cp : Nat) (op : Int) (wr : Bool) (keep : Int) (w : World) (hb : FsAt w b 0 s) (hown : w.ownsMap Try.prog 9 heldR s.mp 1 (.map [(key target, ptrD g)])) (hne : s.mp ≠ b)
    (hg : BodyAt w g (.slice ao n cp) n op wr) (hn : n ≤ cp) (hc : cp ≤ 9223372036854775807) (hnb : n ≤ 67108864) (e1 : g ≠ b) (e2 : s.mp ≠ g) (k0 : 0 ≤ keep) (k1 : keep ≤ 9223372036854775807) (l0 : 0 ≤ s.life) (l1 : s.life < 4611686018427387904) :
    Calls Try.prog 23 #[.pointer (some ⟨b, 0, none⟩), .int .i64 keep] w fun e w' => ∃ s', e = .returned (.int .i64 0) ∧ FsAt w' b 0 s' ∧ s'.mp = s.mp ∧ BodyAt w' g (.slice ao n cp) n 0 false ∧
      w'.ownsMap Try.prog 9 heldR s.mp 1 (.map [(key target, ptrD g)]) ∧ Keeps [b, g] w w' := by
  refine (reboot_ok b s 1 _ keep [g] (fun _ => ⟨g, ao, n, cp, n, op, wr⟩) (fun left => if left (key target) then (n : Int) else 0) w hb hown hne ?_ ?_ ?_ ?_ l0 l1 (by simpa using e1.symm) (by simpa using e2) k0 k1 ?_ ?_ ?_).mono ?_
  · intro kl hkl
    rw [has_one hkl]
    exact ⟨fun _ => rfl, hg, ⟨by simp, by simp, hn, hc, by simp⟩⟩
  · intro z1 z2 h1 h2 _
    rw [has_one h1, has_one h2]
    exact str_refl _
  · intro z kl h1 h2 _
    rw [has_one h1, has_one h2]
  · intro j hj
    simp at hj
    rw [hj]; exact lt_of_block hg
  · intro left h
    simp [h]
  · intro left kl hl hk
    have e := has_one hk
    subst e
    have e3 : (key target).sameKey (key target) = true := str_refl _
    simp [hl, e3, kept_all _ keep k0]
  · intro left
    split <;> omega
  · rintro e w' ⟨sh', d, rfl, h1, _, h3, h4, h5⟩
    have h6 := h3 (key target) (by simp [Maps.has]; exact str_refl _)
    have e4 : (({ g := g, ao := ao, n := n, cp := cp, sy := n, op := op, wr := wr } : Bd).kept keep) = n := kept_all _ keep k0 rfl
    unfold Bd.At Bd.back at h6
    rw [e4] at h6
    exact ⟨_, rfl, h1, rfl, h6, h4, h5⟩

/-- Reboot, where there are two files and the first has been synced. -/
theorem reboot_two (b g h : Nat) (s : FSt) (ao : Option Addr) (n cp : Nat) (op : Int) (wr : Bool) (ao2 : Option Addr) (n2 cp2 : Nat) (sy2 op2 : Int) (wr2 : Bool) (keep : Int) (w : World) (hb : FsAt w b 0 s) (hown : w.ownsMap Try.prog 9 heldR s.mp 2 (.map [(key target, ptrD g), (key fresh, ptrD h)])) (hne : s.mp ≠ b)
    (hg : BodyAt w g (.slice ao n cp) n op wr) (hn : n ≤ cp) (hc : cp ≤ 9223372036854775807) (hnb : n ≤ 67108864) (hh : BodyAt w h (.slice ao2 n2 cp2) sy2 op2 wr2) (y0 : 0 ≤ sy2) (y1 : sy2 ≤ n2) (hn2 : n2 ≤ cp2) (hc2 : cp2 ≤ 9223372036854775807) (hnb2 : n2 ≤ 67108864)
    (e1 : g ≠ b) (e2 : s.mp ≠ g) (e3 : h ≠ b) (e4 : s.mp ≠ h) (e5 : g ≠ h) (k0 : 0 ≤ keep) (k1 : keep ≤ 9223372036854775807) (l0 : 0 ≤ s.life) (l1 : s.life < 4611686018427387904) :
    Calls Try.prog 23 #[.pointer (some ⟨b, 0, none⟩), .int .i64 keep] w fun e w' => ∃ s', e = .returned (.int .i64 0) ∧ FsAt w' b 0 s' ∧ s'.mp = s.mp ∧ BodyAt w' g (.slice ao n cp) n 0 false ∧
      w'.ownsMap Try.prog 9 heldR s.mp 2 (.map [(key target, ptrD g), (key fresh, ptrD h)]) ∧ Keeps [b, g, h] w w' := by
  obtain ⟨d1, hd1⟩ : ∃ d : Bd, d = ⟨g, ao, n, cp, n, op, wr⟩ := ⟨_, rfl⟩
  obtain ⟨d2, hd2⟩ : ∃ d : Bd, d = ⟨h, ao2, n2, cp2, sy2, op2, wr2⟩ := ⟨_, rfl⟩
  obtain ⟨F, hF⟩ : ∃ F : Lit → Bd, F = fun kl => if kl.sameKey (key target) then d1 else d2 := ⟨_, rfl⟩
  have a1 : (key target).sameKey (key target) = true := str_refl _
  have a2 : (key fresh).sameKey (key fresh) = true := str_refl _
  have a3 : (key target).sameKey (key fresh) = false := by decide
  have a4 : (key fresh).sameKey (key target) = false := by decide
  have hFt : F (key target) = d1 := by rw [hF]; simp [a1]
  have hFf : F (key fresh) = d2 := by rw [hF]; simp [a4]
  have hk1 : d1.kept keep = n := by rw [hd1]; exact kept_all _ keep k0 rfl
  have hk2 : 0 ≤ d2.kept keep ∧ d2.kept keep ≤ n2 := by rw [hd2]; exact kept_le _ keep k0 y0 y1
  refine (reboot_ok b s 2 _ keep [g, h] F (fun left => (if left (key target) then (n : Int) else 0) + (if left (key fresh) then d2.kept keep else 0)) w hb hown hne ?_ ?_ ?_ ?_ l0 l1 (by simp; exact ⟨e1.symm, e3.symm⟩) (by simp; exact ⟨e2, e4⟩) k0 k1 ?_ ?_ ?_).mono ?_
  · intro kl hkl
    rcases has_two hkl with e | e <;> subst e
    · rw [hFt, hd1]
      exact ⟨fun _ => rfl, hg, ⟨by simp, by simp, hn, hc, by simp⟩⟩
    · rw [hFf, hd2]
      exact ⟨fun _ => rfl, hh, ⟨y0, y1, hn2, hc2, by simp⟩⟩
  · intro z1 z2 h1 h2 h3
    rcases has_two h1 with e | e <;> subst e <;> rcases has_two h2 with e | e <;> subst e
    · exact a1
    · rw [hFt, hFf, hd1, hd2] at h3; exact absurd h3 e5
    · rw [hFt, hFf, hd1, hd2] at h3; exact absurd h3 e5.symm
    · exact a2
  · intro z kl h1 h2 h3
    rcases has_two h1 with e | e <;> subst e <;> rcases has_two h2 with e | e <;> subst e
    · rfl
    · rw [a3] at h3; cases h3
    · rw [a4] at h3; cases h3
    · rfl
  · intro j hj
    simp at hj
    rcases hj with e | e
    · rw [e]; exact lt_of_block hg
    · rw [e]; exact lt_of_block hh
  · intro left h
    simp [h]
  · intro left kl hl hk
    rcases has_two hk with e | e <;> subst e
    · simp only [hl, a1, a4, hFt, hk1, if_true, Bool.not_true, Bool.and_false, Bool.not_false, Bool.and_true, Bool.false_eq_true, if_false]; omega
    · simp only [hl, a2, a3, hFf, if_true, Bool.not_true, Bool.and_false, Bool.not_false, Bool.and_true, Bool.false_eq_true, if_false]; omega
  · intro left
    split <;> split <;> omega
  · rintro e w' ⟨sh', d, rfl, h1, _, h3, h4, h5⟩
    have h6 := h3 (key target) (by simp [Maps.has, a1])
    rw [hFt] at h6
    unfold Bd.At Bd.back at h6
    rw [hk1, hd1] at h6
    exact ⟨_, rfl, h1, rfl, h6, h4, h5⟩
end Go.Proofs.Ytfplfnhhiipgcaa
