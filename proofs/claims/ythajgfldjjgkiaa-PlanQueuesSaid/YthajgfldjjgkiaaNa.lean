/- Runs are noted as merged. -/
import Derived.Test.YthajgfldjjgkiaaPm
namespace Go.Proofs.Ythajgfldjjgkiaa
open Go.RowKit
set_option maxRecDepth 100000

def bV (f : Nat → Bool) : Nat → List Value
  | 0 => []
  | n + 1 => bV f n ++ [.bool (f n)]
theorem bV_len (f : Nat → Bool) : ∀ n, (bV f n).length = n
  | 0 => rfl
  | n + 1 => by rw [bV, List.length_append, bV_len f n]; rfl
theorem bV_at (f : Nat → Bool) : ∀ n i, i < n → (bV f n)[i]? = some (.bool (f i))
  | 0, _, h => by omega
  | n + 1, i, h => by
    rw [bV]
    by_cases e : i = n
    · subst e
      rw [List.getElem?_append_right (by rw [bV_len]; exact Nat.le_refl _), bV_len, Nat.sub_self]; rfl
    · rw [List.getElem?_append_left (by rw [bV_len]; omega)]
      exact bV_at f n i (by omega)
theorem bV_congr {f g : Nat → Bool} : ∀ n, (∀ i, i < n → f i = g i) → bV f n = bV g n
  | 0, _ => rfl
  | n + 1, h => by rw [bV, bV, bV_congr n fun i hi => h i (by omega), h n (by omega)]
theorem bV_set (f : Nat → Bool) (b : Bool) : ∀ n i, i < n → (bV f n).set i (.bool b) = bV (updF f i b) n
  | 0, _, h => by omega
  | n + 1, i, h => by
    rw [bV, bV]
    by_cases e : i = n
    · subst e
      rw [updF_same, bV_congr (f := updF f i b) (g := f) i fun k hk => updF_other _ _ _ _ (by omega)]
      rw [List.set_append_right _ _ (by rw [bV_len]; exact Nat.le_refl _), bV_len, Nat.sub_self]
      rfl
    · rw [updF_other _ _ _ _ (fun e' => e e'.symm), List.set_append_left _ _ (by rw [bV_len]; omega), bV_set f b n i (by omega)]
theorem bV_zero (n : Nat) : madeCells (Value.bool false).cells (n * 1) = (bV (fun _ => false) n).toArray := by
  have hc : (Value.bool false).cells = #[.bool false] := rfl
  rw [hc]
  apply Array.ext'
  rw [toList_madeCells_one, Nat.mul_one]
  induction n with
  | zero => rfl
  | succ n ih => rw [List.replicate_succ', ih]; rfl
theorem info4 : (Try.prog.info? 4).map (fun i => (i.zero, i.size, i.bytes)) = some (some (.bool false), 1, 1) := by kernel_rfl
/-- What is noted behind so many. -/
def noF (f : Nat → Bool) (l : List Int) : Nat → Bool := fun i => f i || decide ((i : Int) ∈ l)
theorem noF_nil (f : Nat → Bool) : noF f [] = f := by funext i; simp [noF]
theorem noF_snoc (f : Nat → Bool) (l : List Int) (r : Nat) : updF (noF f l) r true = noF f (l ++ [(r : Int)]) := by
  funext i
  unfold updF noF
  by_cases e : i = r
  · subst e; simp
  · rw [if_neg e]
    have : ¬ (i : Int) = (r : Int) := by omega
    simp [this]
/-- They rise, are there, and were not noted before. -/
structure NoOk (f : Nat → Bool) (out : Int) (l : List Int) : Prop where
  up : l.Pairwise (· < ·)
  lt : ∀ x ∈ l, 0 ≤ x ∧ x < out
  fresh : ∀ x ∈ l, f x.toNat = false
theorem NoOk.nil (f : Nat → Bool) (out : Int) : NoOk f out [] := ⟨List.Pairwise.nil, (fun _ h => by cases h), (fun _ h => by cases h)⟩
def lastOf (l : List Int) : Int := l.getLast?.getD (-1)
theorem lastOf_snoc (l : List Int) (x : Int) : lastOf (l ++ [x]) = x := by simp [lastOf]
theorem lastOf_ge {f : Nat → Bool} {out : Int} {l : List Int} (h : NoOk f out l) : -1 ≤ lastOf l ∧ ∀ x ∈ l, x ≤ lastOf l := by
  rcases List.eq_nil_or_concat l with rfl | ⟨m, y, rfl⟩
  · exact ⟨by simp [lastOf], fun x hx => by cases hx⟩
  · rw [List.concat_eq_append] at h ⊢
    rw [lastOf_snoc]
    refine ⟨by have := (h.lt y (by simp)).1; omega, fun x hx => ?_⟩
    rcases List.mem_append.1 hx with hx | hx
    · exact Int.le_of_lt ((List.pairwise_append.1 h.up).2.2 x hx y (by simp))
    · simp at hx; omega
theorem NoOk.snoc {f : Nat → Bool} {out : Int} {l : List Int} (h : NoOk f out l) {x : Int} (h1 : lastOf l < x) (h2 : x < out) (h3 : noF f l x.toNat = false) : NoOk f out (l ++ [x]) := by
  obtain ⟨g1, g2⟩ := lastOf_ge h
  have fx : f x.toNat = false := by unfold noF at h3; simp at h3; exact h3.1
  refine ⟨List.pairwise_append.2 ⟨h.up, by simp, fun a ha b hb => ?_⟩, fun y hy => ?_, fun y hy => ?_⟩
  · simp at hb; subst hb; have := g2 a ha; omega
  · rcases List.mem_append.1 hy with hy | hy
    · exact h.lt y hy
    · simp at hy; subst hy; omega
  · rcases List.mem_append.1 hy with hy | hy
    · exact h.fresh y hy
    · simp at hy; subst hy; exact fx
/-- A fault at the next one. -/
theorem NoOk.bad {f : Nat → Bool} {out : Int} {l r : List Int} {x : Int} (h : NoOk f out (l ++ x :: r)) : lastOf l < x ∧ x < out ∧ noF f l x.toNat = false := by
  have hx : x ∈ l ++ x :: r := by simp
  have hp := List.pairwise_append.1 h.up
  refine ⟨?_, (h.lt x hx).2, ?_⟩
  · rcases List.eq_nil_or_concat l with rfl | ⟨m, y, rfl⟩
    · have := (h.lt x hx).1
      show (-1 : Int) < x
      omega
    · rw [List.concat_eq_append, lastOf_snoc]
      exact hp.2.2 y (by simp [List.concat_eq_append]) x (by simp)
  · unfold noF
    rw [h.fresh x hx]
    have h0 := (h.lt x hx).1
    simp only [Bool.false_or, decide_eq_false_iff_not]
    rw [Int.toNat_of_nonneg h0]
    intro hm
    have := hp.2.2 x hm x (by simp)
    omega
theorem SlI.blk {w : World} {v : Value} {l : List Int} (h : SlI w v l) (hl : l ≠ []) {b : Nat} (hb : v.ownBlock = some b) : b < w.heap.size := by
  obtain ⟨b', o, c, rfl, _, h2, _⟩ := h.get hl
  injection hb with hb
  simp only at hb
  omega
def NaR (w : World) (g M b : Nat) (f : Nat → Bool) (out : Int) (l : List Int) (vi : Value) (v5 v11 : Value) (wr : World) : Prop := ∃ k : Nat, v11 = .int .i64 (k : Int) ∧ v5 = .int .i64 (lastOf (l.take k)) ∧ k ≤ l.length ∧ NoOk f out (l.take k) ∧ BlkAt wr g 4 (bV (noF f (l.take k)) M) ∧ BlkAt wr b 46 [vi, .int .i64 out] ∧ Kp w wr (fun k => k = g)
def NoteR (w : World) (g M : Nat) (f : Nat → Bool) (out : Int) (l : List Int) (e : Ending) (w' : World) : Prop := ∃ b : Bool, e = .returned (.bool b) ∧ (b = true ↔ NoOk f out l) ∧ (b = true → BlkAt w' g 4 (bV (noF f l) M)) ∧ Kp w w' (fun k => k = g)
set_option maxHeartbeats 4000000 in
theorem note_ok {w : World} {g M : Nat} {f : Nat → Bool} {vi : Value} {l : List Int} (out : Int) (hb : BlkAt w g 4 (bV f M)) (hv : SlI w vi l) (hM : M ≤ 1000000) (ho : out ≤ (M : Int)) (hl : l.length ≤ 1000000) (hg : l ≠ [] → ∀ b, vi.ownBlock = some b → b ≠ g) :
    Calls Try.prog 41 #[.slice (some ⟨g, 0, none⟩) M M, .agg #[vi, .int .i64 out]] w (NoteR w g M f out l) := by
  obtain ⟨a, c, rfl, h1, h2⟩ := hv.form
  have HV := Lib.hid hv
  have HG := Lib.hid hg
  have BA := Lib.hid (below_alloc w (.cells #[.slice a l.length c, .int .i64 out] 46))
  have X1 := Lib.hid (BlkAt.new w [.slice a l.length c, .int .i64 out] 46)
  have ST := Lib.hid (show NaR w g M w.heap.size f out l (.slice a l.length c) (.int .i64 (-1)) (.int .i64 0) (w.alloc (.cells #[.slice a l.length c, .int .i64 out] 46)) from
    ⟨0, rfl, rfl, Nat.zero_le _, NoOk.nil _ _, by rw [List.take_zero, noF_nil]; exact hb.below BA.out, X1.out, Kp.of _ BA.out⟩)
  have c0 := X1.out.cell 0 _ rfl
  have lb := X1.out.lt
  clear hv hb hg
  go_enter Try.func41, Try.ntmps41
  go_wp2_with fail
  clear c0 lb
  generalize w.heap.size = b at *
  go_loopw [5, 11] (fun v5 v11 wr => NaR w g M b f out l (.slice a l.length c) v5 v11 wr) (fun _ v11 _ => l.length - (intOf v11).toNat)
  case atStart => exact ST.out
  case round =>
    clear ST
    obtain ⟨k, rfl, rfl, hk, hn, hb, hx, hkp⟩ := hrel
    have HN := Lib.hid hn
    have HB := Lib.hid hb
    have HX := Lib.hid hx
    have HK := Lib.hid hkp
    clear hn hb hx hkp
    by_cases hlt : k < l.length
    · have t1 : decide ((k : Int) < (l.length : Int)) = true := decide_eq_true (by omega)
      have t1n : decide (k < l.length) = true := decide_eq_true hlt
      have ik : (k : Int) < (l.length : Int) := by omega
      have ik0 : (0 : Int) ≤ (k : Int) := by omega
      have V2 := Lib.hid (show SlI wr (.slice a l.length c) l from HV.out.kp HK.out (fun b hb e => HG.out (by rintro rfl; exact absurd hlt (Nat.not_lt_zero _)) b hb e))
      obtain ⟨b1, o1, c1, e1, _, l1, g1⟩ := V2.out.get (by rintro rfl; exact absurd hlt (Nat.not_lt_zero _))
      injection e1 with e1 _ e3
      subst e1 e3
      have q1 := g1 k hlt
      have x1 := HX.out.cell 1 _ rfl
      have lb := HX.out.lt
      clear g1
      have TS := Lib.hid (show l.take (k + 1) = l.take k ++ [l[k]] from List.take_succ_eq_append_getElem hlt)
      have LD := Lib.hid (show l = l.take k ++ l[k] :: l.drop (k + 1) by rw [← List.drop_eq_getElem_cons hlt, List.take_append_drop])
      have BAD := Lib.hid (fun (h : NoOk f out l) => (show NoOk f out (l.take k ++ l[k] :: l.drop (k + 1)) from by rw [← LD.out]; exact h).bad)
      have GE := Lib.hid (lastOf_ge HN.out).1
      have SN := Lib.hid (fun (h1 : lastOf (l.take k) < l[k]) (h2 : l[k] < out) (h3 : noF f (l.take k) l[k].toNat = false) => HN.out.snoc h1 h2 h3)
      rw [← TS.out] at SN
      generalize l[k] = r at *
      generalize hlo : lastOf (l.take k) = lo at *
      clear hlo
      have FALSE := Lib.hid (fun (h : ¬ (lo < r ∧ r < out ∧ noF f (l.take k) r.toNat = false)) => show NoteR w g M f out l (.returned (.bool false)) wr from ⟨false, rfl, ⟨(fun e => by cases e), fun p => absurd (BAD.out p) h⟩, (fun e => by cases e), HK.out⟩)
      by_cases hr1 : r ≤ lo
      · have u1 : decide (r ≤ lo) = true := decide_eq_true hr1
        have F := Lib.hid (FALSE.out (fun h => by omega))
        clear FALSE BAD SN hr1
        go_wp2_with fail
        go_ret
        exact F.out
      · have u1 : decide (r ≤ lo) = false := decide_eq_false hr1
        by_cases hr2 : out ≤ r
        · have u2 : decide (out ≤ r) = true := decide_eq_true hr2
          have F := Lib.hid (FALSE.out (fun h => by omega))
          clear FALSE BAD SN hr1 hr2
          go_wp2_with fail
          go_ret
          exact F.out
        · have u2 : decide (out ≤ r) = false := decide_eq_false hr2
          obtain ⟨rn, hrn⟩ : ∃ rn : Nat, r = (rn : Int) := ⟨r.toNat, by have := GE.out; omega⟩
          subst hrn
          have rlt : rn < M := by omega
          have m0 := HB.out.cell rn _ (bV_at _ M rn rlt)
          have mf := HB.out.free rn
          have lg := HB.out.lt
          have ir : (rn : Int) < (M : Int) := by omega
          have ir0 : (0 : Int) ≤ (rn : Int) := by omega
          rw [Int.toNat_natCast] at FALSE SN
          cases hf : noF f (l.take k) rn with
          | true =>
            rw [hf] at m0
            have F := Lib.hid (FALSE.out (fun h => by rw [hf] at h; exact absurd h.2.2 (by decide)))
            clear FALSE BAD SN hr1 hr2 hf
            go_wp2_with fail
            go_ret
            exact F.out
          | false =>
            rw [hf] at m0
            have OK := Lib.hid (SN.out (by omega) (by omega) hf)
            have NB := Lib.hid (HB.out.set rn (.bool true))
            rw [bV_set _ _ M rn rlt, noF_snoc, ← TS.out] at NB
            have gb : g ≠ b := blk_ne HB.out HX.out (by decide)
            have NX := Lib.hid (HX.out.other gb rn (.bool true))
            have NK := Lib.hid (HK.out.tr (Kp.set wr g rn (.bool true)))
            have NL := Lib.hid (show (rn : Int) = lastOf (l.take (k + 1)) by rw [TS.out, lastOf_snoc])
            clear FALSE BAD SN hr1 hr2 hf HB HX HK
            go_wp2_with fail
            go_roundw
            case rel => exact ⟨k + 1, by congr 1, by rw [← NL.out], hlt, OK.out, NB.out, NX.out, NK.out⟩
            case measure => simp [intOf]; omega
    · have t1 : decide ((k : Int) < (l.length : Int)) = false := decide_eq_false (by omega)
      have t1n : decide (k < l.length) = false := decide_eq_false hlt
      have TK := Lib.hid (show l.take k = l from List.take_of_length_le (by omega))
      rw [TK.out] at HN HB
      go_wp2_with fail
      go_ret
      exact ⟨true, rfl, ⟨fun _ => HN.out, fun _ => rfl⟩, fun _ => HB.out, HK.out⟩
end Go.Proofs.Ythajgfldjjgkiaa
