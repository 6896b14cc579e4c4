/- Lists of numbers that came in: copied; refused as lengths. -/
import Derived.Test.YtfbeipfpkikakaaDoorAl
namespace Go.Proofs.YtfbeipfpkikakaaDoor
open Go.RowKit

set_option maxRecDepth 100000
def zV (z : Int) : Value := .int .i64 z
/-- A slice of numbers of any sign that reads so. -/
def SlZ (w : World) (v : Value) (zs : List Int) : Prop :=
  ∃ a c, v = .slice a zs.length c ∧ (a = none → c = 0) ∧ (zs = [] ∨ ∃ b off, a = some ⟨b, off, none⟩ ∧ b < w.heap.size ∧ ∀ (j : Nat) z, zs[j]? = some z → w.cell? ⟨b, off + j, none⟩ = some (.int .i64 z))
theorem SlZ.below {w w' : World} {v : Value} {zs : List Int} (h : SlZ w v zs) (k : Below w.heap.size w w') : SlZ w' v zs := by
  obtain ⟨a, c, hv, hn, h | ⟨b, off, ha, hb, hc⟩⟩ := h
  · exact ⟨a, c, hv, hn, Or.inl h⟩
  · exact ⟨a, c, hv, hn, Or.inr ⟨b, off, ha, Nat.lt_of_lt_of_le hb k.size, fun j z hz => (k.cell (p := ⟨b, off + j, none⟩) hb).trans (hc j z hz)⟩⟩
theorem SlZ.get {w : World} {a : Option Addr} {n c j : Nat} {z : Int} {zs : List Int} (h : SlZ w (.slice a n c) zs) (hz : zs[j]? = some z) : ∃ b off, a = some ⟨b, off, none⟩ ∧ b < w.heap.size ∧ w.cell? ⟨b, off + j, none⟩ = some (.int .i64 z) := by
  obtain ⟨a', c', hv, _, hn | ⟨b, off, ha, hb, hc⟩⟩ := h
  · rw [hn] at hz; cases hz
  · injection hv with h1 _ _
    exact ⟨b, off, by rw [h1, ha], hb, hc j z hz⟩
theorem OwnV.slz {w : World} {B : Nat} {v : Value} {zs : List Int} (h : OwnV w B 3 v (zs.map zV)) : SlZ w v zs := by
  rcases h.1.2 with ⟨hv, hn⟩ | ⟨g, cap, cur, hv, hb, hgg, h1, h2, h3, h4⟩
  · have : zs = [] := by simpa using hn
    subst this
    exact ⟨none, 0, hv, fun _ => rfl, .inl rfl⟩
  · rw [List.length_map] at hv
    refine ⟨_, _, hv, (fun e => by cases e), ?_⟩
    rcases h.get with hn | ⟨b, c', hv', hb', hl, hc⟩
    · left; simpa using hn
    · rw [List.length_map, hv] at hv'
      injection hv' with e _ _
      injection e with e
      injection e with e _
      subst e
      exact .inr ⟨g, 0, rfl, hl, fun j z hz => by rw [Nat.zero_add]; exact hc j _ (by rw [List.getElem?_map, hz]; rfl)⟩
def RetZ (w : World) (zs : List Int) (e : Ending) (w' : World) : Prop := ∃ v, e = .returned v ∧ OwnV w' w.heap.size 3 v (zs.map zV) ∧ Below w.heap.size w w'
/-- A slice of numbers is appended onto nil. -/
theorem wp_appz {w : World} {ops : Array Oper} {rest : List Oper} {o : Oper} {a : Act} {Q : Exit → Act → World → Prop} (hgd : o.guard = none) (s x : Operand)
    (ho : o.op = .call { callee := .builtin .append, args := #[s, x], argTypes := #[29, 29] })
    (hs : a.eval s = .slice none 0 0) (u : Value) (zs : List Int) (hx : a.eval x = u) (hc : SlZ w u zs) (hlen : zs.length * 8 ≤ 140737488355328)
    (h : ∀ v' w', OwnV w' w.heap.size 3 v' (zs.map zV) → Below w.heap.size w w' → wpList Tryd.prog ops Q rest (a.put o.dst v') w') :
    wpList Tryd.prog ops Q (o :: rest) a w := by
  obtain ⟨i0, hi, hz0, hz1, hz2⟩ := info_parts info3'
  have hown := OwnV.nil w 3
  have key : ∀ (ad : Addr) (cp : Nat), a.eval x = .slice (some ad) zs.length cp → (∀ j u, (zs.map zV)[j]? = some u → w.cell? (ad.add j) = some u) → wpList Tryd.prog ops Q (o :: rest) a w := by
    intro ad cp hx2 hcell
    refine wpList_append_own _ hgd s x 29 ho w.heap.size 3 i0 (.int .i64 0) 1 8 Tryd.underlying29 hi hz0 hz1 hz2 rfl (by decide) (.slice none 0 0) 0 [] hs hown.1 ad zs.length cp (zs.map zV) hx2 (by rw [List.length_map]; simp) hcell ?_ ?_ ?_ (Nat.le_refl _) ?_
    · intro u hu
      obtain ⟨c', _, rfl⟩ := List.mem_map.1 hu
      rfl
    · unfold maxLen; omega
    · omega
    · intro v' w' h1 h2 _
      have hsz := h2.size
      refine h v' w' ⟨?_, hsz⟩ ?_
      · rw [List.length_map]; simpa using h1
      · exact (Below.refl _ w).grown h2 (Nat.le_refl _) (fun k hk => by simp [Value.ownBlock] at hk)
  obtain ⟨ad, cp, rfl, hnn, hcs⟩ := hc
  cases ad with
  | none =>
    obtain rfl := hnn rfl
    rcases hcs with rfl | ⟨b, off, hb, _⟩
    · refine wpList_append_own_none hgd s x 29 ho w.heap.size 3 i0 1 Tryd.underlying29 hi (.slice none 0 0) 0 [] hs hown.1 hx ?_
      exact h _ w hown (Below.refl _ _)
    · cases hb
  | some ad =>
    refine key ad cp hx ?_
    rcases hcs with rfl | ⟨b, off, hb, _, hcell⟩
    · intro j u hu; cases hu
    · cases hb
      intro j u hu
      rw [add_plain]
      rw [List.getElem?_map] at hu
      cases hcj : zs[j]? with
      | none => rw [hcj] at hu; cases hu
      | some y => rw [hcj] at hu; cases hu; exact hcell j y hcj
set_option maxHeartbeats 800000 in
theorem ints_ok (u : Value) (zs : List Int) (w : World) (hc : SlZ w u zs) (hlen : zs.length * 8 ≤ 140737488355328) : Calls Tryd.prog 15 #[u] w (RetZ w zs) := by
  have HC := Lib.hid hc
  clear hc
  go_enter Tryd.func15, Tryd.ntmps15
  go_wp2_with (at_builtin; refine wp_appz rfl _ _ rfl rfl _ zs rfl HC.out hlen ?_)
  intro v' w' h1 h2
  have H1 := Lib.hid h1
  have H2 := Lib.hid h2
  obtain ⟨va, vn, vc, rfl⟩ : ∃ a n c, v' = .slice a n c := by obtain ⟨a, c, h⟩ := h1.form; exact ⟨a, _, c, h⟩
  clear h1 h2
  go_wp2_with fail
  go_ret
  exact ⟨_, rfl, H1.out, H2.out⟩
def BadZ (z : Int) : Prop := z < 0 ∨ 15 < z
def RetNo (w : World) (n : Int) (e : Ending) (w' : World) : Prop := e = .returned (.tuple #[.slice none 0 0, .int .i64 n]) ∧ w = w'
set_option maxHeartbeats 800000 in
theorem codes14_long (a : Option Addr) (n c : Nat) (hn : 512 < n) (hn2 : n ≤ 35184372088832) (w : World) : Calls Tryd.prog 14 #[.slice a n c] w (RetNo w 2) := by
  have t512 : decide ((512 : Int) < (n : Int)) = true := decide_eq_true (by omega)
  go_enter Tryd.func14, Tryd.ntmps14
  go_wp2_with fail
  go_ret2
  exact ⟨rfl, rfl⟩
set_option maxHeartbeats 1600000 in
theorem codes14_bad {a : Option Addr} {c : Nat} {zs : List Int} (k0 : Nat) (h0 : k0 < zs.length) (hbad : BadZ zs[k0]) (hgood : ∀ i (h : i < k0), ¬ BadZ (zs[i]'(by omega))) (hlen : zs.length ≤ 512) (w : World) (hc : SlZ w (.slice a zs.length c) zs) :
    Calls Tryd.prog 14 #[.slice a zs.length c] w (RetNo w 65) := by
  have HC := Lib.hid hc
  have HB := Lib.hid hbad
  have HG := Lib.hid hgood
  have t512 : decide ((512 : Int) < (zs.length : Int)) = false := decide_eq_false (by omega)
  clear hc hbad hgood
  obtain ⟨b, off, rfl, hb, _⟩ := HC.out.get (List.getElem?_eq_getElem h0)
  go_enter Tryd.func14, Tryd.ntmps14
  go_wp2_with fail
  go_loop [5, 16] (fun _ i => ∃ k : Nat, k ≤ k0 ∧ i = .int .i64 (k : Int)) (fun _ i => (zs.length - (intOf i).toNat))
  case atStart => exact ⟨0, Nat.zero_le _, rfl⟩
  case round =>
    clear t512
    obtain ⟨k, hk, rfl⟩ := hrel
    have hlt : k < zs.length := by omega
    obtain ⟨b', off', e, _, cx⟩ := HC.out.get (List.getElem?_eq_getElem hlt)
    injection e with e
    injection e with e1 e2
    subst e1 e2
    have k1 : (k : Int) < (zs.length : Int) := by omega
    have k2 : (0 : Int) ≤ (k : Int) := by omega
    have t1 : decide ((k : Int) < (zs.length : Int)) = true := decide_eq_true k1
    have t1n : decide (k < zs.length) = true := decide_eq_true hlt
    by_cases hkk : k < k0
    · have hg := HG.out k hkk
      have ME := Lib.hid (show zs.length - ((k : Int) + 1).toNat < zs.length - (k : Int).toNat by omega)
      have KK := Lib.hid (show ∃ k2 : Nat, k2 ≤ k0 ∧ (.int .i64 ((k : Int) + 1) : Value) = .int .i64 (k2 : Int) from ⟨k + 1, by omega, by go_num⟩)
      unfold BadZ at hg
      generalize zs[k] = z at *
      have s1 : decide (z < 0) = false := decide_eq_false (by omega)
      have s2 : decide (15 < z) = false := decide_eq_false (by omega)
      go_wp2_with fail
      exact ⟨KK.out, ME.out⟩
    · obtain rfl : k = k0 := by omega
      have hbz := HB.out
      unfold BadZ at hbz
      generalize zs[k] = z at *
      by_cases hz : z < 0
      · have s1 : decide (z < 0) = true := decide_eq_true hz
        go_wp2_with fail
        go_ret2
        exact ⟨rfl, rfl⟩
      · have s1 : decide (z < 0) = false := decide_eq_false hz
        have s2 : decide (15 < z) = true := decide_eq_true (by omega)
        go_wp2_with fail
        go_ret2
        exact ⟨rfl, rfl⟩
end Go.Proofs.YtfbeipfpkikakaaDoor
