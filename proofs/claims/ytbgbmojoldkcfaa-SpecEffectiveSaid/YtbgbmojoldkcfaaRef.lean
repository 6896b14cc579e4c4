/- Effective in every case; the answer's own Effective where there are no keys. -/
import Derived.Test.YtbgbmojoldkcfaaNil
namespace Go.Proofs.Ytbgbmojoldkcfaa
open Go.RowKit

theorem eff_ok (o : Opt) (ks : List KeyL) (kv fv : Value) (w : World) (hk : SlAt w w.heap.size kv 6 ks.length (ksV ks)) (hkl : ks.length * 40 ≤ 140737488355328) :
    Calls Try.prog 5 #[optV o kv fv] w (RetKeys w ((dflt ks).map (own o))) := by
  unfold dflt
  by_cases h : ks = []
  · subst h
    rw [if_pos rfl]
    exact eff_nil o kv fv w hk
  · rw [if_neg h]
    exact eff_some o ks kv fv w hk hkl (fun e => h (List.eq_nil_of_length_eq_zero e))

set_option maxRecDepth 100000
theorem ref_nil (o : Opt) (kv fv : Value) (w : World) (hk : SlAt w w.heap.size kv 6 0 (ksV [])) :
    Calls Try.prog 7 #[optV o kv fv] w (RetKeys w ([k1].map (own o))) := by
  have hkv : ∃ a c, kv = .slice a 0 c := by
    rcases hk.2 with ⟨rfl | ⟨ad, c, rfl⟩, _⟩ | ⟨b, off, c, rfl, _⟩
    · exact ⟨_, _, rfl⟩
    · exact ⟨_, _, rfl⟩
    · exact ⟨_, _, rfl⟩
  obtain ⟨ak, ck, rfl⟩ := hkv
  clear hk
  unfold optV optC
  have A0 := Lib.hid (CellsAt.new w (optC o (.slice ak 0 ck) fv) 28)
  have B0 := Lib.hid ((Below.refl w.heap.size w).alloc (Nat.le_refl _) (Obj.cells (optC o (.slice ak 0 ck) fv).toArray 28))
  have a0 := A0.out.cell 0 _ rfl
  have a1 := A0.out.cell 1 _ rfl
  unfold optC at a0 a1
  have hin := (B0.out.alloc (by simp) (.cells (kc (turn k1 o.mods (modB o.mods))).toArray 35))
  have hrow := (CellsAt.new (w.alloc (Obj.cells (optC o (.slice ak 0 ck) fv).toArray 28)) (kc (turn k1 o.mods (modB o.mods))) 35)
  have Hin := Lib.hid hin
  have Hrow := Lib.hid hrow
  clear hin hrow A0 B0
  go_enter Try.func7, Try.ntmps7
  go_wp2_with fail
  go_ret
  have he : [k1].map (own o) = [turn k1 o.mods (modB o.mods)] := by simp [own, k1]
  rw [he]
  have hs : (w.alloc (Obj.cells (optC o (.slice ak 0 ck) fv).toArray 28)).heap.size = w.heap.size + 1 := by simp
  have hr := Hrow.out
  rw [hs] at hr
  exact ⟨w.heap.size + 1, 1, rfl, by omega, hr.lt, hr.range, Hin.out⟩
end Go.Proofs.Ytbgbmojoldkcfaa
