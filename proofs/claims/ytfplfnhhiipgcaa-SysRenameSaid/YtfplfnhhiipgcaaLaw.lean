/- What the statements call of their own: num, same, fits: the walks. -/
import Derived.Test.YtfplfnhhiipgcaaFile
import Derived.Laws.BytesString
namespace Go.Proofs.Ytfplfnhhiipgcaa
open Go.RowKit Go.Maps Go.MuLone

set_option maxHeartbeats 400000 in
theorem num_ok (n : Int) (w : World) : Calls Try.prog 13 #[.int .i64 n] w fun e w' => e = .returned (.int .i64 n) ∧ w = w' := by
  go_enter Try.func13, Try.ntmps13
  go_wp2_with fail
  go_ret
  exact ⟨rfl, rfl⟩

def strOf (ns : List Int) : ByteArray := ns.foldl (fun r n => r.push (UInt8.ofNat n.toNat)) ByteArray.empty

/-- A list of bytes, as a conversion to a string reads it. -/
structure BytesAt (w : World) (x : Value) (zs : List Int) : Prop where
  conv : (convert 36 9 x).run Try.prog w = .ok (.string (strOf zs)) w
  form : ∃ ao c, x = .slice ao zs.length c

theorem bytes_row {w : World} {base : Nat} {x : Value} {n : Nat} {zs : List Int} (h : w.ownsRow base 5 1 x n (zs.map (Value.int .u8))) : BytesAt w x zs := by
  have hl := h.1
  rw [List.length_map, Nat.mul_one] at hl
  subst hl
  refine ⟨?_, ?_⟩
  · rcases h.2 with ⟨rfl, h0⟩ | ⟨g, cap, cur, rfl, _⟩
    · have hz : zs = [] := List.eq_nil_of_length_eq_zero h0
      subst hz
      rw [run_convert_bytes_string w 36 9 5 none 0 0 Try.underlying36 Try.underlying5 Try.underlying9]
      simp [Conv.bytesToString, strOf, Sem.run_pure]
    · rw [run_convert_bytes_string w 36 9 5 _ _ _ Try.underlying36 Try.underlying5 Try.underlying9]
      have hc := h.cells (g := g) rfl
      have hl := run_loadCells_list (P := Try.prog) w ⟨g, 0, none⟩ (zs.map (Value.int .u8)) hc
      rw [List.length_map] at hl
      exact run_bytesToString w ⟨g, 0, none⟩ _ cap zs hl
  · rcases h.2 with ⟨rfl, h0⟩ | ⟨g, cap, cur, rfl, _⟩
    · exact ⟨none, 0, by rw [h0]⟩
    · exact ⟨_, cap, rfl⟩

set_option maxRecDepth 100000 in
set_option maxHeartbeats 400000 in
theorem same_ok (x y : Value) (zs : List Int) (w : World) (hx : BytesAt w x zs) (hy : BytesAt w y zs) : Calls Try.prog 18 #[x, y] w fun e w' => e = .returned (.bool true) ∧ w = w' := by
  have h1 := hx.conv
  have h2 := hy.conv
  obtain ⟨ax, cx, rfl⟩ := hx.form
  obtain ⟨ay, cy, rfl⟩ := hy.form
  generalize strOf zs = s at *
  go_enter Try.func18, Try.ntmps18
  go_wp2_with fail
  go_ret
  exact ⟨rfl, rfl⟩

/-- The first k lengths together. -/
def tot (n : Nat → Nat) : Nat → Nat
  | 0 => 0
  | k + 1 => tot n k + n k
theorem tot_le (n : Nat → Nat) : ∀ {j k : Nat}, j ≤ k → tot n j ≤ tot n k
  | j, 0, h => by have : j = 0 := by omega
                  rw [this]; exact Nat.le_refl _
  | j, k + 1, h => by
    rcases Nat.lt_or_ge j (k + 1) with h' | h'
    · exact Nat.le_trans (tot_le n (by omega : j ≤ k)) (Nat.le_add_right _ _)
    · have : j = k + 1 := by omega
      rw [this]; exact Nat.le_refl _

def Fits (n : Nat → Nat) (N : Nat) (w : World) (e : Ending) (w' : World) : Prop := ∃ t : Bool, e = .returned (.bool t) ∧ (t = true → tot n N ≤ 1048576) ∧ w = w'

set_option maxRecDepth 100000 in
set_option maxHeartbeats 800000 in
theorem fits_ok (pb po N C : Nat) (ao : Nat → Option Addr) (n c : Nat → Nat) (w : World) (hN : N ≤ 4611686018427387904) (hp : ∀ i, i < N → w.cell? ⟨pb, po + i, none⟩ = some (.slice (ao i) (n i) (c i)) ∧ n i ≤ 4611686018427387904) :
    Calls Try.prog 10 #[.slice (some ⟨pb, po, none⟩) N C] w (Fits n N w) := by
  have Hp := Lib.hid hp
  clear hp
  go_enter Try.func10, Try.ntmps10
  go_wp2_with fail
  go_loop [2, 3, 4] (fun r t i => ∃ k : Nat, k ≤ N ∧ r = .bool false ∧ i = .int .i64 k ∧ t = .int .i64 (tot n k : Nat) ∧ tot n k ≤ 1048576) (fun _ _ i => N - (intOf i).toNat)
  case atStart => exact ⟨0, Nat.zero_le _, rfl, rfl, rfl, Nat.zero_le _⟩
  case round =>
    obtain ⟨k, hk, rfl, rfl, rfl, hs⟩ := hrel
    by_cases hlt : k < N
    · have hc := (Hp.out k hlt).1
      have hn := (Hp.out k hlt).2
      have hS : tot n (k + 1) = tot n k + n k := rfl
      have HS := Lib.hid hS
      clear hS
      generalize tot n k = S at *
      generalize n k = m at *
      by_cases hbig : 1048576 < S + m
      · go_wp2_with fail
        go_ret
        exact ⟨false, rfl, by simp, rfl⟩
      · go_wp2_with fail
        go_round
        case rel => exact ⟨k + 1, by omega, rfl, by go_num, by rw [HS.out]; go_num, by rw [HS.out]; omega⟩
        case measure => simp [intOf]; omega
    · have hkN : k = N := by omega
      have HK := Lib.hid hkN
      clear hkN
      go_wp2_with fail
      go_ret
      exact ⟨true, rfl, fun _ => by rw [← HK.out]; exact hs, rfl⟩
end Go.Proofs.Ytfplfnhhiipgcaa
