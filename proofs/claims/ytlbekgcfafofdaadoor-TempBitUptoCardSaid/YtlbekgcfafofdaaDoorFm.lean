/- The document's frame. -/
import Derived.Test.YtlbekgcfafofdaaDoorDb
namespace Go.Proofs.YtlbekgcfafofdaaDoor
open Go.RowKit
set_option maxRecDepth 100000

theorem dbody_ok (e : Ent) (E : EntIs e) (M : May e) {u : Value} {w : World} (h : SlI w u e.inn) : Calls Tryd.prog 27 #[eA e u] w (RetSm w (bodyE e) 400) := by
  obtain ⟨k, pr, nm, ru, re, li, su, inn⟩ := e
  have hpr := E.pr
  have hsu := E.su
  cases M with
  | job h1 h2 h3 h4 h5 h6 h7 =>
    simp only at h1 h2 h3 h4 h5 h6 h7 h hpr
    subst h1 h2 h3 h4 h5 h6 h7
    obtain ⟨a, c, rfl, _⟩ := h.form
    exact dbody1_ok w pr hpr a c _ rfl
  | make h1 h2 h3 h4 h5 h6 h7 h8 =>
    simp only at h1 h2 h3 h4 h5 h6 h7 h8 h
    subst h1 h2 h4 h5 h6 h7 h8
    obtain ⟨a, c, rfl, _⟩ := h.form
    have hc := clean_len h3
    exact dbody2_ok w (bs nm) (by rw [bs_size]; exact hc.1) (by rw [bs_size]; exact hc.2) a c _ (by rw [bs_size, bs_list]; rfl)
  | run h1 h2 h3 h4 h5 =>
    simp only at h1 h2 h3 h5 h hsu
    subst h1 h2 h5
    obtain ⟨⟨a1, a2⟩, ⟨b1, b2⟩, ⟨c1, c2⟩⟩ := h4
    simp only at a1 a2 b1 b2 c1 c2
    obtain ⟨a, c, rfl, _⟩ := h.form
    have hc := clean_len h3
    obtain ⟨ru, rfl⟩ := nat_of a1
    obtain ⟨re, rfl⟩ := nat_of b1
    obtain ⟨li, rfl⟩ := nat_of c1
    exact dbody3_ok w (bs nm) (by rw [bs_size]; exact hc.1) (by rw [bs_size]; exact hc.2) ru (by omega) re (by omega) li (by omega) su hsu a c _ (by rw [bs_size, bs_list]; rfl)
  | bare h1 h2 h3 h4 h5 h6 h7 h8 =>
    simp only at h1 h2 h3 h4 h5 h6 h7 h8 h
    subst h2 h3 h4 h5 h6 h7 h8
    obtain ⟨a, c, rfl, _⟩ := h.form
    rcases h1 with rfl | rfl
    · exact dbody4_ok w a c _ rfl
    · exact dbody6_ok w a c _ rfl
  | merge h1 h2 h3 h4 h5 h6 h7 h8 =>
    simp only at h1 h2 h3 h5 h6 h7 h8 h hsu
    subst h1 h2 h5
    obtain ⟨⟨a1, a2⟩, ⟨b1, b2⟩, _⟩ := h4
    simp only at a1 a2 b1 b2
    have hc := clean_len h3
    obtain ⟨b, off, c, rfl, _, hb, hcell⟩ := h.get (by rintro rfl; simp at h6)
    obtain ⟨ru, rfl⟩ := nat_of a1
    obtain ⟨re, rfl⟩ := nat_of b1
    exact dbody5_ok w b off c (bs nm) (by rw [bs_size]; exact hc.1) (by rw [bs_size]; exact hc.2) ru (by omega) re (by omega) su hsu inn h6 h7 (fun x hx => by have := runs_mem _ _ h8 x hx; omega) hb hcell _ (by rw [bs_size, bs_list]; rfl)
theorem dsum_gr {x W : World} {v : Value} {l : List UInt8} {n : Nat} (h : Sm x v l n) [g : Gr x W] (hn : n ≤ 140737488355328) : Calls Tryd.prog 41 #[v] W (Same W (.int .u32 (sumN l))) :=
  refSum_ok v l W (Nat.le_trans h.len hn) h.gr.sl
set_option maxHeartbeats 3200000 in
theorem frame_ok (n : Nat) (hn : n ≤ 2147483647) (u : Value) (c : List UInt8) (w : World) (S0 : Sm w u c 400) : Calls Tryd.prog 26 #[.int .u64 n, u] w (RetSm w (frameE n c) 415) := by
  have HF := Lib.hid (show frameE n c = hd7 n c.length ++ be 4 (sumN (hd7 n c.length)) ++ c ++ be 4 (sumN c) from rfl)
  have H7 := Lib.hid (show hd7 n c.length = [229] ++ be 4 n ++ be 2 c.length from rfl)
  have hs7 := sumN_lt (hd7 n c.length)
  have hsc := sumN_lt c
  have LN := Lib.hid (frameE_len n c)
  have lc := S0.len
  have LC := Lib.hid lc
  have lci : (c.length : Int) ≤ 400 := by omega
  have N0 := Sm.one w 229 229 rfl
  obtain ⟨ua, uc, hu, _⟩ := S0.sl
  subst hu
  go_enter Tryd.func26, Tryd.ntmps26
  go_wp2_with fail
  have T1 : Stp w (w.alloc (.cells #[.int .u8 229] 5)) := inferInstance
  generalize w.alloc (.cells #[.int .u8 229] 5) = w1 at *
  generalize hv0 : Value.slice (some ⟨w.heap.size, 0, none⟩) 1 1 = v0 at *
  clear hv0
  refine (big_gr 4 (by decide) n (by omega) w1).mono ?_
  rintro e w2 ⟨v2, rfl, s2, b2⟩
  have T2 : Stp w1 w2 := ⟨b2⟩
  clear b2
  go_wp2_with fail
  refine (join_gr N0 s2 (by decide)).mono ?_
  rintro e w3 ⟨v3, rfl, s3, b3⟩
  have T3 : Stp w2 w3 := ⟨b3⟩
  clear b3 N0 s2
  go_wp2_with fail
  refine (big_gr 2 (by decide) c.length (by omega) w3).mono ?_
  rintro e w4 ⟨v4, rfl, s4, b4⟩
  have T4 : Stp w3 w4 := ⟨b4⟩
  clear b4
  go_wp2_with fail
  refine (join_gr s3 s4 (by decide)).mono ?_
  rintro e w5 ⟨v5, rfl, s5, b5⟩
  have T5 : Stp w4 w5 := ⟨b5⟩
  rw [← H7.out] at s5
  clear b5 s3 s4
  have X7 := Lib.hid (dsum_gr (W := w5) s5 (by decide))
  generalize hd7 n c.length = D at *
  generalize sumN D = q7 at *
  have XC := Lib.hid (dsum_gr (W := w5) S0 (by decide))
  generalize sumN c = qc at *
  go_wp2_with fail
  refine X7.out.mono ?_
  rintro e w6 ⟨rfl, rfl⟩
  go_wp2_with fail
  refine XC.out.mono ?_
  rintro e w6 ⟨rfl, rfl⟩
  go_wp2_with fail
  refine (big_gr 4 (by decide) q7 (by omega) w5).mono ?_
  rintro e w6 ⟨v6, rfl, s6, b6⟩
  have T6 : Stp w5 w6 := ⟨b6⟩
  clear b6 X7 XC
  go_wp2_with fail
  refine (join_gr s5 s6 (by decide)).mono ?_
  rintro e w7 ⟨v7, rfl, s7, b7⟩
  have T7 : Stp w6 w7 := ⟨b7⟩
  clear b7 s5 s6
  go_wp2_with fail
  refine (join_gr s7 S0 (by decide)).mono ?_
  rintro e w8 ⟨v8, rfl, s8, b8⟩
  have T8 : Stp w7 w8 := ⟨b8⟩
  clear b8 s7
  go_wp2_with fail
  refine (big_gr 4 (by decide) qc (by omega) w8).mono ?_
  rintro e w9 ⟨v9, rfl, s9, b9⟩
  have T9 : Stp w8 w9 := ⟨b9⟩
  clear b9
  go_wp2_with fail
  refine (join_gr s8 s9 (by decide)).mono ?_
  rintro e wa ⟨va, rfl, sa, ba⟩
  have Ta : Stp w9 wa := ⟨ba⟩
  clear ba s8 s9
  go_wp2_with fail
  go_ret
  exact ⟨_, rfl, ⟨by rw [HF.out]; exact sa.sl, by rw [LN.out]; have := LC.out; omega⟩, (inferInstance : Gr w wa).h⟩
end Go.Proofs.YtlbekgcfafofdaaDoor
