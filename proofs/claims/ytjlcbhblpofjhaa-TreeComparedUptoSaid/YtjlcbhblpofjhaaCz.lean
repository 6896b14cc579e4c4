/- TreeCompared of no lists. -/
import Derived.Test.YtjlcbhblpofjhaaCw
namespace Go.Proofs.Ytjlcbhblpofjhaa
open Go.RowKit
set_option maxRecDepth 100000
set_option maxHeartbeats 4000000 in
theorem compared_zero {w : World} {a : Option Addr} {c : Nat} : Calls Try.prog 3 #[.slice a 0 c] w (RetTrue w) := by
  have hmf : ∀ (fn : Fn) (first cap : Array Value) (w : World), (Instr.makeFunc fn first cap).run Try.prog w = .ok (.func fn first cap) w := fun _ _ _ _ => rfl
  have hEC : (EC 0 (fun _ => 0) (fun _ => 0) w.heap.size).S (w.alloc (.cells #[.int .i64 0] 3)) (YC 0 (fun _ => 0) (fun _ => 0) w.heap.size) (osOf []) := ⟨rfl, ⟨fun i hi => absurd hi (by omega), fun i hi => absurd hi (by omega), fun i j hi => absurd hi (by omega)⟩, (show CellsAt (w.alloc (.cells #[.int .i64 0] 3)) w.heap.size [.int .i64 (wrap64 ((0 : Nat) : Int))] from by rw [show wrap64 ((0 : Nat) : Int) = 0 by unfold wrap64; rfl]; exact CellsAt.new w [.int .i64 0] 3), fun j hj => absurd hj (by omega)⟩
  have NEW := Lib.hid (new_nil (EC_ok 0 (fun _ => 0) (fun _ => 0) w.heap.size) hEC)
  have B1 := Lib.hid (below_alloc w (.cells #[.int .i64 0] 3))
  clear hEC
  go_enter Try.func3, Try.ntmps3
  go_wp2_with fail
  refine wp_loop_rounds 1 ?_
  rw [rounds_succ]
  go_wp2_with fail
  refine NEW.out.mono ?_
  rintro e w2 ⟨t, rfl, g1, hD, hB⟩
  have HD := Lib.hid hD
  have B2 := Lib.hid (B1.out.trans (hB.mono B1.out.size))
  have GT := Lib.hid (show w.heap.size < t by have : (w.alloc (.cells #[.int .i64 0] 3)).heap.size ≤ t := g1; simp at this; omega)
  have ND := Lib.hid (next_of_dead (G := geo0 t) (EC_ok 0 (fun _ => 0) (fun _ => 0) w.heap.size) hD)
  clear g1 hD hB NEW B1
  go_wp2_with (first | (go_at_call 15; refine (num_ok _ _).mono ?_; rintro e w' ⟨rfl, rfl⟩))
  refine wp_loop_rounds 1 ?_
  rw [rounds_succ]
  go_wp2_with fail
  refine ND.out.mono ?_
  rintro e w3 ⟨he, Y3, hD3, hM3⟩
  obtain rfl : e = .returned (.tuple #[.agg #[.int .i64 0, .int .i64 0], .int .i64 0, .bool false, .int .i64 0]) := he
  have hD3' : DeadAt (EC 0 (fun _ => 0) (fun _ => 0) w.heap.size) (geo0 t) false w3 Y3 0 0 0 (osOf []) := hD3
  have D3 := Lib.hid hD3'
  have B3 := Lib.hid (B2.out.trans (hM3.belowB (B := w.heap.size) (fun b hb => by
    have := GT.out
    rcases hb with (e | e | e) | e
    · rw [e]; exact Nat.le_of_lt this
    · rw [e]; exact Nat.le_of_lt this
    · rw [e]; exact Nat.le_of_lt this
    · rw [HD.out.env.1] at e
      rcases e with ⟨_, q, _⟩ | e
      · omega
      · rw [e]; exact Nat.le_refl _) B2.out.size))
  have C3 := Lib.hid (show CellsAt w3 w.heap.size [.int .i64 0] from by
    have q := hD3'.env.2.2.1
    have e0 : (osOf []).calls = 0 := rfl
    rw [e0, show wrap64 ((0 : Nat) : Int) = 0 by unfold wrap64; rfl] at q
    exact q)
  clear hD3 hD3' hM3 HD ND B2
  have AL := Lib.hid (below_alloc w3 (.cells #[.int .i64 0, .int .i64 0] 28))
  have C7 := Lib.hid (C3.out.step AL.out)
  have D7 := Lib.hid (D3.out.box (Moves.below AL.out Y3) ((EC_ok 0 (fun _ => 0) (fun _ => 0) w.heap.size).stable _ _ _ _ D3.out.env AL.out.size fun b hb => AL.out.block b ((EC_ok 0 (fun _ => 0) (fun _ => 0) w.heap.size).low _ _ _ D3.out.env b hb)))
  have B7 := Lib.hid (B3.out.trans (AL.out.mono B3.out.size))
  clear C3 D3 B3
  go_upto_region 24 with fail
  change Hid (CellsAt (w3.alloc (.cells #[.int .i64 0, .int .i64 0] 28)) _ _) at C7
  generalize w3.alloc (.cells #[.int .i64 0, .int .i64 0] 28) = x7 at C7 D7 B7 ⊢
  have cb := C7.out.cell 0 _ rfl
  have lc := C7.out.lt
  have CMP := Lib.hid (show ∀ q : Nat, Calls Try.prog 18 #[.pointer (some ⟨t, 0, none⟩)] (x7.drewN q) (fun e w' => e = .returned (.int .i64 0) ∧ w' = x7.drewN q) from fun q => (compared_dead (D7.out.box (Moves.below (below_drewN x7 q) Y3) ((EC_ok 0 (fun _ => 0) (fun _ => 0) w.heap.size).stable _ _ _ _ D7.out.env (Nat.le_refl _) fun _ _ => rfl))).mono fun _ _ ⟨h1, h2⟩ => ⟨h1, h2.symm⟩)
  go_quiet ((go_at_call 18; exact Calls.quiet_of_same (CMP.out _)))
  go_wp2_with fail
  go_ret
  exact ⟨rfl, B7.out.trans ((below_drewN _ _).mono B7.out.size)⟩
/-- Of any lists. -/
theorem compared_any {w : World} {a : Option Addr} {c : Nat} {ls : List (List It)} (h : LsAt w (.slice a ls.length c) ls) (hn : lenN ls ls.length ≤ 1048576) : Calls Try.prog 3 #[.slice a ls.length c] w (RetTrue w) := by
  by_cases h1 : 64 < ls.length
  · exact compared_long h1
  · by_cases h0 : 0 < ls.length
    · exact compared_law h h0 (by omega) hn
    · have e : ls.length = 0 := by omega
      rw [e]
      exact compared_zero
end Go.Proofs.Ytjlcbhblpofjhaa
