/- Read, whatever row the bytes lie in. -/
import Derived.Test.YtolnojhepakaoaaReadEnd
import Derived.Test.YtolnojhepakaoaaRead
import Derived.Test.YtolnojhepakaoaaOpenR
import Derived.Test.YtolnojhepakaoaaLaw
namespace Go.Proofs.Ytolnojhepakaoaa
open Go.RowKit Go.Maps Go.MuLone

/-- A system under no plan but short reads, whose counts are small. -/
structure Fine (s : FSt) (N : Int) : Prop where
  fa : s.fa = .slice none 0 0
  pi : s.pi = 0
  pp : s.pp = 0
  drk : s.drk = false
  c0 : 0 ≤ s.calls
  c1 : s.calls ≤ N
  o0 : ∀ k, 0 ≤ s.ops k
  o1 : ∀ k, s.ops k ≤ N
  m0 : 0 ≤ s.made
  m1 : s.made ≤ N
  n0 : 0 ≤ s.opn
  mb : s.mb = 67108864
  w0 : 0 ≤ s.written
  w1 : s.written ≤ 67108864
theorem Fine.called {s : FSt} {N : Int} (h : Fine s N) (k : Nat) : Fine (s.called k false) (N + 1) :=
  ⟨h.fa, h.pi, h.pp, rfl, by have := h.c0; show 0 ≤ s.calls + 1; omega, by have := h.c1; show s.calls + 1 ≤ N + 1; omega,
    fun j => by show 0 ≤ upd s.ops k (s.ops k + 1) j; unfold upd; have h1 := h.o0 k; have h2 := h.o0 j; split <;> omega,
    fun j => by show upd s.ops k (s.ops k + 1) j ≤ N + 1; unfold upd; have h1 := h.o1 k; have h2 := h.o1 j; split <;> omega,
    h.m0, by have := h.m1; show s.made ≤ N + 1; omega, h.n0, h.mb, h.w0, h.w1⟩

/-- Read, of a file that is open to be read: whatever row its bytes lie in. -/
theorem read_any (f b g : Nat) (s : FSt) (N : Int) (nm : ByteArray) (p : Nat) (q : Int) (v : Value) (n : Nat) (sy op : Int) (wr : Bool) (zs : List Int) (most : Int) (w : World) (hb : FsAt w b 0 s) (hF : Fine s N) (hN : N < 4611686018427387904) (hf : FileAt w f b s.life nm true false false g p q) (hg : BodyAt w g v sy op wr)
    (hv : w.ownsRow 0 5 1 v n (zs.map (Value.int .u8))) (hn : n ≤ 67108864) (hp : p ≤ n) (hm : 1 ≤ most) (hsh : ShortAt w s.sh b)
    (e1 : f ≠ b) (e2 : g ≠ b) (e4 : v.ownBlock ≠ some b) :
    Calls Try.prog 63 #[.pointer (some ⟨f, 0, none⟩), .int .i64 most] w fun e w' => ∃ (k : Nat) (u : Value), e = .returned (.tuple #[u, .int .i64 0]) ∧ (k : Int) ≤ most ∧ k ≤ n - p ∧ (k = 0 → p = n) ∧
      FsAt w' b 0 (s.called 1 false) ∧ FileAt w' f b s.life nm true false false g ((p + k : Nat) : Int) q ∧ w'.ownsRow w.heap.size 5 1 u k (((zs.drop p).take k).map (Value.int .u8)) ∧ Keeps [b, f] w w' := by
  have hzl : zs.length = n := by have := hv.1; simpa using this
  have hc1 := hF.c1
  have ho1 := hF.o1 1
  rcases hv.2 with ⟨rfl, rfl⟩ | ⟨d, cp, cur, rfl, _, hd, hcp, hcm, _⟩
  · have hp0 : p = 0 := by omega
    subst hp0
    refine (read_endnil f b g s nm q sy op wr most w hb hf hg hm hsh e1 e2 hF.fa hF.pi hF.c0 (by omega) (hF.o0 1) (by omega) (.inl hF.pp) hF.drk).mono ?_
    rintro e w' ⟨u, rfl, h1, h2, h3, h4⟩
    exact ⟨0, u, rfl, by omega, by omega, fun _ => rfl, h1, by simpa using h2, by simpa using h3, h4⟩
  · have e4' : d ≠ b := fun e => e4 (by rw [e]; rfl)
    have hc : ∀ j, j < n → w.cell? ⟨d, j, none⟩ = some (.int .u8 (zs.getD j 0)) := fun j hj => by
      have h := hv.cells (g := d) rfl j (.int .u8 (zs.getD j 0)) (by simp [List.getD, List.getElem?_eq_getElem (by omega : j < zs.length)])
      have ha : (⟨d, 0, none⟩ : Addr).add j = ⟨d, j, none⟩ := by unfold Addr.add; split <;> simp_all
      rw [ha] at h; exact h
    by_cases hpc : p < cp
    · exact read_row f b g d s nm p q n cp sy op wr zs most w hb hf hg hzl hc hcp hn hp hpc hm hsh e1 e2 e4' hF.fa hF.pi hF.c0 (by omega) (hF.o0 1) (by omega) (.inl hF.pp) hF.drk
    · have h1 : p = n := by omega
      have h2 : cp = n := by omega
      subst h1; subst h2
      refine (read_endrow f b g d cp s nm q sy op wr most w hb hf hg hn hm hsh e1 e2 hF.fa hF.pi hF.c0 (by omega) (hF.o0 1) (by omega) (.inl hF.pp) hF.drk).mono ?_
      rintro e w' ⟨u, rfl, h1, h2, h3, h4⟩
      exact ⟨0, u, rfl, by omega, by omega, fun _ => rfl, h1, by simpa using h2, by simpa using h3, h4⟩
end Go.Proofs.Ytolnojhepakaoaa
