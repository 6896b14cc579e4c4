/- LineThrough: the parts. -/
import Derived.Test.YtolnojhepakaoaaAllB
import Derived.Test.YtolnojhepakaoaaCal
import Derived.Test.YtolnojhepakaoaaPut
import Derived.Test.YtolnojhepakaoaaFits
import Derived.Test.YtolnojhepakaoaaLineSplits
namespace Go.Proofs.Ytolnojhepakaoaa
open Go.RowKit Go.Maps Go.MuLone

theorem cut_last (sep : Int) : ∀ (zs cur : List Int), (cutL sep cur zs).2 = match zs.getLast? with | none => cur.isEmpty | some y => decide (y = sep)
  | [], cur => by
    unfold cutL
    cases cur <;> rfl
  | x :: r, cur => by
    have hl : (x :: r).getLast? = some ((r.getLast?).getD x) := by rw [List.getLast?_cons]
    rw [hl]
    by_cases e : x = sep
    · simp only [cutL, if_pos e]
      rw [cut_last sep r []]
      cases h : r.getLast? with
      | none => simp [e]
      | some y => simp
    · simp only [cutL, if_neg e]
      rw [cut_last sep r (cur ++ [x])]
      cases h : r.getLast? with
      | none => simp [e]
      | some y => simp
theorem fits_big (size sep n : Int) (w : World) (h : why size sep = 0) (hn : ¬ n ≤ 262144) : Calls Try.prog 15 #[.int .i64 size, .int .u8 sep, .int .i64 n] w fun e w' => e = .returned (.bool false) ∧ w = w' := by
  have hr := made_true size sep w
  rw [h] at hr
  have Hr := Lib.hid hr
  clear hr h
  have t : decide (n ≤ 262144) = false := decide_eq_false hn
  go_enter Try.func15, Try.ntmps15
  go_wp2_with fail
  refine Hr.out.mono ?_
  rintro e w' ⟨rfl, rfl⟩
  go_wp2_with fail
  go_ret
  exact ⟨rfl, rfl⟩
theorem nam_in : Nam ⟨#[105, 110]⟩ := ⟨by decide, by decide, by decide⟩
theorem at_in (g : Nat) : (DataW.put (.map []) (key ⟨#[105, 110]⟩) (.held (.pointer (some ⟨g, 0, none⟩)) : DataW Value)).atKey (key ⟨#[105, 110]⟩) (.held (.pointer none)) = .held (.pointer (some ⟨g, 0, none⟩)) := by rfl
/-- The bytes are copied. -/
theorem clone_any {w W : World} {b : Nat} {a : Option Addr} {N c : Nat} {zs : List Int} (hd : DataAt w a N c zs) (hzl : zs.length = N) (hN : N ≤ 4096) (hb : w.heap.size ≤ b) {w1 : World} (k1 : Keeps [] w w1) (k : Keeps [b] w1 W) :
    Calls Try.prog 44 #[.slice a N c] W fun e w' => ∃ v', e = .returned v' ∧ w'.ownsRow W.heap.size 5 1 v' N (zs.map (Value.int .u8)) ∧ Below W.heap.size W w' := by
  rcases hd with ⟨rfl, rfl⟩ | ⟨bd, o, rfl, hc, hB⟩
  · cases a with
    | none =>
      refine (Try.bytes_Clone_nil 0 c W).mono ?_
      rintro e w' ⟨rfl, rfl⟩
      exact ⟨_, rfl, World.ownsRow_nil _ _ _ _, Below.refl _ _⟩
    | some ad =>
      refine (Try.bytes_Clone_at ad 0 c [] W rfl (by omega) (fun i hi => by omega)).mono ?_
      rintro e w' ⟨v', rfl, h1, _, h2⟩
      exact ⟨v', rfl, h1, h2⟩
  · have hcell : ∀ i, i < N → W.cell? ((⟨bd, o, none⟩ : Addr).add i) = some (.int .u8 (zs.getD i 0)) := fun i hi => by
      have e : (⟨bd, o, none⟩ : Addr).add i = ⟨bd, o + i, none⟩ := by unfold Addr.add; split <;> simp_all
      rw [e]
      have h0 := hB.cell i hi
      have hlt := World.block_lt_of_cell? w _ h0
      have h1 := (World.cell?_of_block (k1.block _ hlt (by simp))).trans h0
      exact (World.cell?_of_block (k.block _ (World.block_lt_of_cell? w1 _ h1) (by show bd ∉ [b]; have : bd < w.heap.size := hlt; simp; omega))).trans h1
    refine (Try.bytes_Clone_at ⟨bd, o, none⟩ N c zs W hzl (by omega) hcell).mono ?_
    rintro e w' ⟨v', rfl, h1, _, h2⟩
    exact ⟨v', rfl, h1, h2⟩
set_option maxHeartbeats 800000 in
theorem cut_any {w : World} {a : Option Addr} {N c : Nat} {zs : List Int} (hd : DataAt w a N c zs) (hN : N ≤ 4096) (sep : Int) : Calls Try.prog 20 #[.slice a N c, .int .u8 sep] w (CutPost w sep zs) := by
  rcases hd with ⟨rfl, rfl⟩ | ⟨bd, o, rfl, hc, hB⟩
  · have FIN := Lib.hid (show CutPost w sep [] (.returned (.tuple #[.slice none 0 0, .bool true])) w from ⟨_, rfl, World.ownsRow_nil _ _ _ _, Keeps.refl _ _⟩)
    go_enter Try.func20, Try.ntmps20
    go_wp2_with fail
    refine wp_loop_rounds 1 ?_; rw [rounds_succ]
    go_wp2_with fail
    exact bodyPost_ret (v := .tuple #[.slice none 0 0, .bool true]) (by simp [results, Try.results20, go_sem]) rfl FIN.out
  · exact cut_some bd o N c zs sep w hB hc hN
theorem map_cell {w : World} {mp k : Nat} {D : DataW Value} (h : w.ownsMap Try.prog 9 heldR mp k D) (o : Nat) : w.cell? ⟨mp, o, none⟩ = none := by
  obtain ⟨es, cl, h1, _⟩ := h
  unfold World.cell?
  simp [h1]
end Go.Proofs.Ytolnojhepakaoaa
