/- Do all keys hold? slices.ContainsFunc over a list of keys. -/
import Derived.Test.YtnpnccjeapejdaaGreatDoorKh
namespace Go.Proofs.YtnpnccjeapejdaaGreatDoor
open Go.RowKit

set_option maxRecDepth 100000
/-- May a key be? -/
def hb (k : KeyL) : Bool := decide (1 ≤ k.f) && (decide (k.f ≤ 2147483647) && (decide (1 ≤ k.c) && (decide (k.c ≤ 2147483647) && (decide (0 ≤ k.ef) && (decide (k.ef ≤ 2147483647) && (decide (0 ≤ k.ec) && (decide (k.ec ≤ 2147483647) && (decide (k.ef ≠ 0 ∨ (k.ec = 0 ∧ k.b = false)) && (decide (k.m < 1024) && togS k.m)))))))))
theorem hb_iff (k : KeyL) : hb k = true ↔ Holds k.f k.c k.ef k.ec k.m k.b := by
  unfold hb
  simp only [Bool.and_eq_true, decide_eq_true_eq]
  constructor
  · rintro ⟨a, b, c, d, e, f, g, h, i, j, l⟩
    exact ⟨a, b, c, d, e, f, g, h, i, j, l⟩
  · rintro ⟨a, b, c, d, e, f, g, h, i, j, l⟩
    exact ⟨a, b, c, d, e, f, g, h, i, j, l⟩
theorem holds_ok (k : KeyL) (hm : k.m < 65536) (w : World) : Calls Tryz.prog 71 #[.agg #[.int .i64 k.f, .int .i64 k.c, .int .i64 k.ef, .int .i64 k.ec, .int .u16 (k.m : Int), .bool k.b]] w (RetBk w (.bool (hb k))) := by
  cases h : hb k with
  | true => exact hol_yes k.f k.c k.ef k.ec k.m k.b w ((hb_iff k).1 h)
  | false => exact hol_no k.f k.c k.ef k.ec k.m hm k.b w (fun e => by rw [(hb_iff k).2 e] at h; cases h)
theorem nothold_ok (k : KeyL) (hm : k.m < 65536) (w : World) : Calls Tryz.prog 70 #[.agg #[.int .i64 k.f, .int .i64 k.c, .int .i64 k.ef, .int .i64 k.ec, .int .u16 (k.m : Int), .bool k.b]] w (RetBk w (.bool (!hb k))) := by
  have C := Lib.hid (fun w => holds_ok k hm w)
  obtain ⟨f, c, ef, ec, m, b⟩ := k
  have A := Lib.hid (CellsAt.new w [.int .i64 f, .int .i64 c, .int .i64 ef, .int .i64 ec, .int .u16 (m : Int), .bool b] 54)
  go_enter Tryz.func70, Tryz.ntmps70
  go_wp2_with fail
  refine (C.out _).mono ?_
  rintro e w1 ⟨rfl, hb1⟩
  have B1 := Lib.hid (((Below.refl w.heap.size w).alloc (Nat.le_refl _) (.cells #[.int .i64 f, .int .i64 c, .int .i64 ef, .int .i64 ec, .int .u16 (m : Int), .bool b] 54)).trans (hb1.mono (by simp)))
  clear hb1
  go_wp2_with fail
  go_ret
  exact ⟨rfl, B1.out⟩
/-- What IndexFunc gives of a list of keys: a place just if one may not be. -/
def RetIx (w : World) (ks : List KeyL) (e : Ending) (w' : World) : Prop := ∃ r : Int, e = .returned (.int .i64 r) ∧ decide (0 ≤ r) = !(ks.all hb) ∧ Below w.heap.size w w'
def IxIn (w : World) (ks : List KeyL) (v i : Value) (wr : World) : Prop := ∃ k : Nat, k ≤ ks.length ∧ i = .int .i64 k ∧ (ks.take k).all hb = true ∧ SlAt wr wr.heap.size v 6 ks.length (ksV ks) ∧ Below w.heap.size w wr
set_option maxHeartbeats 1600000 in
theorem index_ok (ks : List KeyL) (v : Value) (w : World) (hm : ∀ k ∈ ks, k.m < 65536) (hl : ks.length ≤ 16) (hv : SlAt w w.heap.size v 6 ks.length (ksV ks)) :
    Calls Tryz.prog 97 #[v, .func (.func 70) #[] #[]] w (RetIx w ks) := by
  obtain ⟨ao, c, rfl⟩ : ∃ ao c, v = .slice ao ks.length c := by
    rcases hv.2 with ⟨h | ⟨ad, c, h⟩, h0⟩ | ⟨b, off, c, h, _⟩
    · exact ⟨none, 0, by rw [h, h0]⟩
    · exact ⟨some ad, c, by rw [h, h0]⟩
    · exact ⟨_, c, h⟩
  have HV := Lib.hid hv
  have HM := Lib.hid hm
  clear hv hm
  go_enter Tryz.func97, Tryz.ntmps97
  go_wp2_with fail
  go_loopw [8] (fun i wr => IxIn w ks (.slice ao ks.length c) i wr) (fun i _ => ks.length - (intOf i).toNat)
  case atStart => exact ⟨0, by omega, rfl, rfl, HV.out, Below.refl _ _⟩
  case round =>
    obtain ⟨k, hk, rfl, hal, hs, hbel⟩ := hrel
    have HAL := Lib.hid hal
    have HS := Lib.hid hs
    have HB := Lib.hid hbel
    clear hal hbel HV
    by_cases hlt : k < ks.length
    · obtain ⟨b, off, rfl, hcell⟩ : ∃ b off, ao = some ⟨b, off, none⟩ ∧ ∀ j u, (ksV ks)[j]? = some u → wr.cell? ⟨b, off + j, none⟩ = some u := by
        rcases hs.2 with ⟨_, h0⟩ | ⟨b, off, c', h, _, hc⟩
        · omega
        · injection h with h1
          exact ⟨b, off, h1, hc⟩
      clear hs
      have d1 : decide ((k : Int) < (ks.length : Int)) = true := by simpa using hlt
      have A : ∀ j u, j < 6 → (kc ks[k])[j]? = some u → wr.cell? ⟨b, off + k * 6 + j, none⟩ = some u := fun j u hj hu => by rw [Nat.add_assoc]; exact hcell _ _ (by rw [ksV_at ks k hlt j hj]; exact hu)
      clear hcell
      have C := Lib.hid (fun w => nothold_ok ks[k] (HM.out _ (List.getElem_mem hlt)) w)
      have HT := Lib.hid (show (ks.take (k + 1)).all hb = hb ks[k] by
        rw [List.take_succ_eq_append_getElem hlt, List.all_append, HAL.out]; simp)
      have HN := Lib.hid (show hb ks[k] = false → ks.all hb = false from fun e => by
        rw [List.all_eq_false]; exact ⟨_, List.getElem_mem hlt, by rw [e]; decide⟩)
      generalize ks[k] = K at A C HT HN
      generalize hb K = x at C HT HN
      have a0 := A 0 _ (by omega) rfl
      have a1 := A 1 _ (by omega) rfl
      have a2 := A 2 _ (by omega) rfl
      have a3 := A 3 _ (by omega) rfl
      have a4 := A 4 _ (by omega) rfl
      have a5 := A 5 _ (by omega) rfl
      rw [Nat.add_zero] at a0
      clear A
      obtain ⟨Kf, Kc, Ke, Kd, Km, Kb⟩ := K
      cases x
      · go_wp2_with fail
        refine (C.out _).mono ?_
        rintro e w2 ⟨rfl, hb1⟩
        have B1 := Lib.hid (HB.out.trans (hb1.mono HB.out.size))
        clear hb1
        go_wp2_with fail
        go_ret
        exact ⟨(k : Int), rfl, by rw [HN.out trivial]; simp, B1.out⟩
      · go_wp2_with fail
        refine (C.out _).mono ?_
        rintro e w2 ⟨rfl, hb1⟩
        have S1 := Lib.hid (HS.out.keep hb1 (Nat.le_refl _) |>.mono hb1.size)
        have B1 := Lib.hid (HB.out.trans (hb1.mono HB.out.size))
        clear hb1
        go_wp2_with fail
        refine ⟨⟨k + 1, by omega, by simp, HT.out, S1.out, B1.out⟩, ?_⟩
        simp [intOf]; omega
    · have hke : k = ks.length := by omega
      have d1 : decide ((k : Int) < (ks.length : Int)) = false := by simp; omega
      clear hs
      go_wp2_with fail
      go_ret
      exact ⟨-1, rfl, by
        have := HAL.out
        rw [hke, List.take_length] at this
        rw [this]; rfl, HB.out⟩
theorem contains_ok (ks : List KeyL) (v : Value) (w : World) (hm : ∀ k ∈ ks, k.m < 65536) (hl : ks.length ≤ 16) (hv : SlAt w w.heap.size v 6 ks.length (ksV ks)) :
    Calls Tryz.prog 69 #[v, .func (.func 70) #[] #[]] w (RetBk w (.bool (!ks.all hb))) := by
  have C := Lib.hid (index_ok ks v w hm hl hv)
  clear hv hm
  go_enter Tryz.func69, Tryz.ntmps69
  go_wp2_with fail
  refine C.out.mono ?_
  rintro e w' ⟨r, rfl, hr, hb1⟩
  have HR := Lib.hid hr
  have B1 := Lib.hid hb1
  clear hr hb1
  go_wp2_with fail
  go_ret
  exact ⟨by rw [← HR.out]; rfl, B1.out⟩
end Go.Proofs.YtnpnccjeapejdaaGreatDoor
