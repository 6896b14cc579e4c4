/- LineThrough: the walk. -/
import Derived.Test.YtolnojhepakaoaaThr
namespace Go.Proofs.Ytolnojhepakaoaa
open Go.RowKit Go.Maps Go.MuLone

def RetThr (w : World) (e : Ending) (w' : World) : Prop := e = .returned (.bool true) ∧ Keeps [] w w'
theorem calm_fine (sh' d : Value) (mp : Nat) (n : Int) : Fine ((newFS 67108864 8 8 0 sh' d mp).grown n) 0 :=
  ⟨rfl, rfl, rfl, rfl, by show (0 : Int) ≤ 0; omega, by show (0 : Int) ≤ 0; omega, fun _ => by show (0 : Int) ≤ 0; omega, fun _ => by show (0 : Int) ≤ 0; omega, by show (0 : Int) ≤ 0; omega, by show (0 : Int) ≤ 0; omega, by show (0 : Int) ≤ 0; omega, rfl, by show (0 : Int) ≤ 0; omega, by show (0 : Int) ≤ 67108864; omega⟩
set_option maxRecDepth 100000 in
set_option maxHeartbeats 800000 in
theorem thr_no {w : World} {a0 a3 : Option Addr} {N c n3 c3 : Nat} (size sep : Int) (h : why size sep ≠ 0 ∨ 4096 < N) (hm : N ≤ 9223372036854775807) : Calls Try.prog 6 #[.slice a0 N c, .int .i64 size, .int .u8 sep, .slice a3 n3 c3] w (RetThr w) := by
  by_cases hw : why size sep = 0
  · have hN : 4096 < N := by rcases h with h | h <;> first | exact absurd hw h | exact h
    have t1 : decide ((4096 : Int) < (N : Int)) = true := decide_eq_true (by omega)
    have t1n : decide (4096 < N) = true := decide_eq_true hN
    by_cases hb : (N : Int) ≤ 262144
    · have F := Lib.hid (fun W : World => fits_ok size sep (N : Int) W hw hb)
      clear h hw
      go_enter Try.func6, Try.ntmps6
      go_wp2_with (go_at_call 15; refine (F.out _).mono ?_; rintro e w' ⟨rfl, rfl⟩)
      go_ret
      exact ⟨rfl, Keeps.refl _ _⟩
    · have F := Lib.hid (fun W : World => fits_big size sep (N : Int) W hw hb)
      clear h hw
      go_enter Try.func6, Try.ntmps6
      go_wp2_with (go_at_call 15; refine (F.out _).mono ?_; rintro e w' ⟨rfl, rfl⟩)
      go_ret
      exact ⟨rfl, Keeps.refl _ _⟩
  · have F := Lib.hid (fun W : World => fits_no size sep (N : Int) W hw)
    clear h hw
    go_enter Try.func6, Try.ntmps6
    go_wp2_with (go_at_call 15; refine (F.out _).mono ?_; rintro e w' ⟨rfl, rfl⟩)
    go_ret
    exact ⟨rfl, Keeps.refl _ _⟩
set_option maxRecDepth 100000 in
set_option maxHeartbeats 3200000 in
theorem thr_law {w : World} {a0 a3 : Option Addr} {N c n3 c3 : Nat} {zs : List Int} (size sep : Int) (hd : DataAt w a0 N c zs) (hzl : zs.length = N) (zb : ∀ z ∈ zs, InByte z) (hw : why size sep = 0) (hN : N ≤ 4096) (hs1 : 1 ≤ size) (hsp : InByte sep)
    (hs3 : n3 = 0 ∨ ∃ (sb so : Nat) (z : Nat → Int), a3 = some ⟨sb, so, none⟩ ∧ ∀ j, j < n3 → w.cell? ⟨sb, so + j, none⟩ = some (.int .i64 (z j))) (hn3 : n3 ≤ 4611686018427387904) :
    Calls Try.prog 6 #[.slice a0 N c, .int .i64 size, .int .u8 sep, .slice a3 n3 c3] w (RetThr w) := by
  have HD := Lib.hid hd
  have HZ := Lib.hid hzl
  have HB := Lib.hid zb
  have HW := Lib.hid hw
  have F := Lib.hid (fun W : World => fits_ok size sep (N : Int) W hw (by omega))
  have CA := Lib.hid (calm_any (c := c3) hs3 hn3)
  have t1 : decide ((4096 : Int) < (N : Int)) = false := decide_eq_false (by omega)
  have t1n : decide (4096 < N) = false := decide_eq_false (by omega)
  clear hd hzl zb hw hs3
  go_enter Try.func6, Try.ntmps6
  go_wp2_with (go_at_call 15; refine (F.out _).mono ?_; rintro e w' ⟨rfl, rfl⟩)
  refine CA.out.mono ?_
  rintro e w1 ⟨b, mp, sh', d, rfl, hb1, hm1, hs1', hne, hwb, hwm, hk1⟩
  have hbl := lt_of_block hb1
  have hml := hm1.lt
  have HSH := Lib.hid hs1'
  have HK1 := Lib.hid hk1
  have PU := Lib.hid (put_any b (newFS 67108864 8 8 0 sh' d mp) 0 (.map []) ⟨#[105, 110]⟩ a0 N c zs w1 hb1 nam_in hm1 hne rfl (by show ((0 : Nat) : Int) < 8; omega) rfl (by omega)
    (fun W k => clone_any HD.out HZ.out hN hwb hk1 k) (by show (N : Int) ≤ 67108864 - 0; omega) (by show (0 : Int) ≤ 0; omega) (by show (67108864 : Int) ≤ 67108864; omega))
  have HM1 := Lib.hid hm1
  clear hb1 hm1 hs1' hk1 CA F
  go_wp2_with fail
  refine PU.out.mono ?_
  rintro e w2 ⟨g, v, rfl, hb2, hg2, hv2, hm2, hk2, hgl, hvg⟩
  have sbl : ∀ so sb sn sc, sh' = .slice (some ⟨sb, so, none⟩) sn sc → 0 < sn → sb < w1.heap.size ∧ sb ≠ b ∧ sb ≠ mp := fun so sb sn sc e h0 => by
    rcases HSH.out with ⟨_, _, e'⟩ | ⟨_, _, _, _, z, e', _, _, hneb, hc⟩
    · rw [e'] at e; cases e; omega
    · rw [e'] at e; cases e
      have h1 := (hc 0 h0).1
      refine ⟨World.block_lt_of_cell? w1 _ h1, hneb, ?_⟩
      intro e2
      rw [e2, map_cell HM1.out] at h1
      cases h1
  have AL := Lib.hid (all_ok b g ((newFS 67108864 8 8 0 sh' d mp).grown N) 0 _ ⟨#[105, 110]⟩ v N N zs size sep w2 hb2 nam_in hm2 hne (at_in g) hg2 (by omega) (calm_fine sh' d mp N) (by omega) (by show (0 : Int) < 8; omega) (by show (8 : Int) ≤ 256; omega)
    (row_up hv2 (Nat.zero_le _)) hN HB.out (HSH.out.keeps hk2 (fun so sb sn sc e h0 hm => by
      obtain ⟨_, h2, h3⟩ := sbl so sb sn sc e h0
      simp at hm
      rcases hm with hm | hm
      · exact h2 hm
      · exact h3 hm)) (fun so sb sn sc e h0 => by obtain ⟨h1, _, _⟩ := sbl so sb sn sc e h0; omega) (fun j hj => by
      have hj1 := (hv2.lt j hj).1
      refine ⟨by omega, fun e => ?_⟩
      rw [e] at hj; exact hvg hj) HW.out hs1 hsp)
  have hS2 := hk2.size
  have HK2 := Lib.hid (show Keeps [] w w2 from by
    have k1 : Keeps [b, mp] w w1 := HK1.out.mono (by simp)
    refine (k1.trans hk2).drop (fun x hx => ?_)
    simp at hx
    rcases hx with rfl | rfl
    · exact .inr hwb
    · exact .inr hwm)
  clear hb2 hg2 hv2 hm2 hk2 sbl PU hvg
  go_wp2_with fail
  refine AL.out.mono ?_
  rintro e w3 ⟨l, rfl, hl3, hk3⟩
  have HK3 := Lib.hid (show Keeps [] w w3 from by
    have k1 : Keeps [b, g] w w2 := HK2.out.mono (by simp)
    refine (k1.trans hk3).drop (fun x hx => ?_)
    simp at hx
    rcases hx with rfl | rfl
    · exact .inr hwb
    · have := HK1.out.size; exact .inr (by omega))
  have HL3 := Lib.hid hl3
  have CU := Lib.hid (cut_any (HD.out.keeps HK3.out) hN sep)
  clear hl3 hk3 AL
  go_wp2_with fail
  refine CU.out.mono ?_
  rintro e w4 ⟨m, rfl, hm4, hk4⟩
  have hlen := cut_length sep zs []
  have SL := Lib.hid (sameLines_ok l m (cutL sep [] zs).1 w4 (ownsRow_keeps HL3.out hk4 (by simp)) hm4 (by have := HZ.out; omega))
  have HK4 := Lib.hid (HK3.out.trans hk4)
  clear hm4 hk4 CU hlen
  go_wp2_with fail
  refine SL.out.mono ?_
  rintro e w5 ⟨rfl, hk5⟩
  have HK5 := Lib.hid (HK4.out.trans hk5)
  have HD5 := Lib.hid (HD.out.keeps HK5.out)
  clear hk5 SL
  have HLA := Lib.hid (cut_last sep zs [])
  generalize (cutL sep [] zs).2 = whole at *
  by_cases hN0 : N = 0
  · subst hN0
    have hz : zs = [] := List.eq_nil_of_length_eq_zero HZ.out
    have hwh : whole = true := by rw [HLA.out, hz]; rfl
    subst hwh
    clear hz
    go_wp2_with (go_at_call 19; refine (num_ok _ _).mono ?_; rintro e w' ⟨rfl, rfl⟩)
    go_ret
    exact ⟨rfl, HK5.out⟩
  · obtain ⟨bd, o, rfl, hc, hB⟩ : ∃ bd o, a0 = some ⟨bd, o, none⟩ ∧ N ≤ c ∧ Bytes w5 bd o N zs := by
      rcases HD5.out with ⟨h, _⟩ | h
      · omega
      · exact h
    obtain ⟨M, hM⟩ : ∃ M, N = M + 1 := ⟨N - 1, by omega⟩
    subst hM
    have hcell := hB.cell M (by omega)
    have hla : zs.getLast? = some (zs.getD M 0) := by
      rw [List.getLast?_eq_getElem?, HZ.out]
      simp [List.getD, HZ.out]
    have hwh : whole = decide (zs.getD M 0 = sep) := by rw [HLA.out, hla]
    clear hla hB
    generalize zs.getD M 0 = y at *
    have t2 : (0 : Int) < (M : Int) + 1 := by omega
    by_cases hy : y = sep
    · have hwt : whole = true := by rw [hwh]; exact decide_eq_true hy
      subst hwt
      have t3 : (y != sep) = false := by simp [hy]
      have t4 : (y == sep) = true := by simp [hy]
      clear hwh hy
      go_wp2_with (go_at_call 19; refine (num_ok _ _).mono ?_; rintro e w' ⟨rfl, rfl⟩)
      go_ret
      exact ⟨rfl, HK5.out⟩
    · have hwt : whole = false := by rw [hwh]; exact decide_eq_false hy
      subst hwt
      have t3 : (y != sep) = true := by simp [hy]
      have t4 : (y == sep) = false := by simp [hy]
      clear hwh hy
      go_wp2_with (go_at_call 19; refine (num_ok _ _).mono ?_; rintro e w' ⟨rfl, rfl⟩)
      go_ret
      exact ⟨rfl, HK5.out⟩
end Go.Proofs.Ytolnojhepakaoaa
