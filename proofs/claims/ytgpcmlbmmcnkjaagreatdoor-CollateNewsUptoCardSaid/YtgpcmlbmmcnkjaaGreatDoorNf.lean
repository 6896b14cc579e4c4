/- CollateNews: the walk, with the contracts laid in. -/
import Derived.Test.YtgpcmlbmmcnkjaaGreatDoorNe
import Derived.Test.YtgpcmlbmmcnkjaaGreatDoorMt
import Derived.Test.YtgpcmlbmmcnkjaaGreatDoorRe
namespace Go.Proofs.YtgpcmlbmmcnkjaaGreatDoor
open Go.RowKit

theorem KcAt.agree {w w' : World} {g off : Nat} {f c ef ec : Int} {m : Nat} {b : Bool} {t : Int} (h : KcAt w g off f c ef ec m b t) (he : w'.heap[g]? = w.heap[g]?) (hs : w.heap.size ≤ w'.heap.size) : KcAt w' g off f c ef ec m b t := by
  have q : ∀ j u, w.cell? ⟨g, j, none⟩ = some u → w'.cell? ⟨g, j, none⟩ = some u := fun j u hu => (World.cell?_of_block (a := ⟨g, j, none⟩) he).trans hu
  exact ⟨q _ _ h.c0, q _ _ h.c1, q _ _ h.c2, q _ _ h.c3, q _ _ h.c4, q _ _ h.c5, q _ _ h.c6, Nat.lt_of_lt_of_le h.lt hs⟩
theorem ord_q {w' : World} {B P gg cap : Nat} {L : List KeyL} {oo : Option UInt8} {s : ByteArray} (h : OrdAt w' B P gg cap L (tabI oo)) (hs : s.size ≤ 1048576) (K : KeyL) (L' : List KeyL) (hL : L = K :: L') (f c ef ec : Nat)
    (e1 : K.f = f) (e2 : K.c = c) (e3 : K.ef = ef) (e4 : K.ec = ec) (hf : 1 ≤ f ∧ f ≤ 2147483647) (hc : 1 ≤ c ∧ c ≤ 2147483647) (hef : ef ≤ 2147483647) (hec : ec ≤ 2147483647) (hm : K.m < 65536) :
    OrdQ B w' P L.length s (.agg #[.int .i64 ((spanP s.data.toList oo f c ef ec K.m K.b).1 : Nat), .int .i64 ((spanP s.data.toList oo f c ef ec K.m K.b).2 : Nat)]) := by
  obtain ⟨h1, h2, h3, h4, h5⟩ := h
  have hl : 0 < L.length := by rw [hL]; simp
  have hk := h5 0 hl
  have hK : L[0] = K := by subst hL; rfl
  rw [hK, Nat.zero_mul, e1, e2, e3, e4] at hk
  refine ⟨h1, h3, fun W a b => ?_, fun W a b T => ?_⟩
  · have c0 := (World.cell?_of_block (a := ⟨P, 0, none⟩) (b P h1 h3)).trans h4
    refine (count_ok P L.length cap _ W c0).mono ?_
    rintro e w2 ⟨rfl, rfl⟩
    exact ⟨rfl, Below.refl _ _⟩
  · have c0 := (World.cell?_of_block (a := ⟨P, 0, none⟩) (b P h1 h3)).trans h4
    have KW := hk.agree (b gg h2 hk.lt) a
    have := ospan_g s P gg L.length cap 0 _ _ W hl c0 (Nat.lt_of_lt_of_le h3 a) (Lib.hid (fun W2 b2 => by
      rw [Nat.zero_mul]
      exact kspan_ok s oo gg 0 f c ef ec K.m K.b W2 hf hc hef hec hm (by omega) (KW.below b2) (T.below b2)))
    exact this
theorem news_ok (o : Opt) (ks : List KeyL) (kv : Value) (fa : Option Addr) (fn fc : Nat) (s : ByteArray) (w : World) (hmm : o.mods < 65536) (hm : ∀ k ∈ ks, k.m < 65536) (hk : SlAt w w.heap.size kv 6 ks.length (ksV ks)) (hkl : ks.length ≤ 1048576) (hs : s.size ≤ 1048576) (T : Tabs w) :
    Calls Tryz.prog 6 #[optV o kv (.slice fa fn fc), .string s] w (RetBk w (.bool true)) := by
  have EFF : ∀ W : World, Below w.heap.size w W → Calls Tryz.prog 14 #[optV o kv (.slice fa fn fc)] W (RetKeys W (effL ks o.mods o.tab)) := fun W b => by
    have := mref_ok o ks kv (.slice fa fn fc) W ((hk.keep b (Nat.le_refl _)).mono b.size) (by omega) hmm
    have e : (dflt ks).map (own o) = effL ks o.mods o.tab := by unfold effL; exact List.map_congr_left (fun k _ => own_o3 o k)
    rw [e] at this
    exact this
  cases hd : docS ks o.mods o.tab with
  | false =>
    refine news_g False o ks (effL ks o.mods o.tab) kv fa fn fc s w 0 0 hk hkl T (eff_ne _ _ _) (fun v W hv b => ?_) EFF (fun h => h.elim)
    refine (ordered_any o ks v (.slice fa fn fc) W hmm hm hv).mono ?_
    rintro e w' ⟨cp, rfl, b', h | h⟩
    · exact ⟨cp, rfl, b', Or.inl h.2⟩
    · rw [hd] at h; exact absurd h.1 (by decide)
  | true =>
    obtain ⟨oo, ht⟩ := docS_tab hd
    obtain ⟨K, L', hL⟩ : ∃ K L', effL ks o.mods o.tab = K :: L' := by
      cases h : effL ks o.mods o.tab with
      | nil => exact absurd h (eff_ne _ _ _)
      | cons a b => exact ⟨a, b, rfl⟩
    obtain ⟨f, c, ef, ec, e1, e2, e3, e4, hf, hc, hef, hec, hmK⟩ := eff_nats hd K (by rw [hL]; exact List.mem_cons_self)
    refine news_g True o ks (effL ks o.mods o.tab) kv fa fn fc s w ((spanP s.data.toList oo f c ef ec K.m K.b).1 : Nat) ((spanP s.data.toList oo f c ef ec K.m K.b).2 : Nat) hk hkl T (eff_ne _ _ _) (fun v W hv b => ?_) EFF (fun _ K' W hK' => ?_)
    · refine (ordered_any o ks v (.slice fa fn fc) W hmm hm hv).mono ?_
      rintro e w' ⟨cp, rfl, b', h | ⟨_, P, gg, cap, rfl, h⟩⟩
      · rw [hd] at h; exact absurd h.1 (by decide)
      · rw [ht] at h ⊢
        exact ⟨_, rfl, b', Or.inr ⟨trivial, P, rfl, ord_q h hs K L' (by rw [← ht]; exact hL) f c ef ec e1 e2 e3 e4 hf hc hef hec hmK⟩⟩
    · rw [hL] at hK'
      injection hK' with hK'
      subst hK'
      rw [ht]
      have := mspan_ok s oo f c ef ec K.m K.b W hf hc hef hec hmK hs
      unfold kc
      rw [e1, e2, e3, e4]
      exact this
end Go.Proofs.YtgpcmlbmmcnkjaaGreatDoor
