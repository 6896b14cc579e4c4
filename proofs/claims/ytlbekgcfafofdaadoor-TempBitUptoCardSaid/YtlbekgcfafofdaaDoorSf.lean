/- Entries compared field by field. -/
import Derived.Test.YtlbekgcfafofdaaDoorFm
namespace Go.Proofs.YtlbekgcfafofdaaDoor
open Go.RowKit
set_option maxRecDepth 100000

def SeRel (l m : List Int) (w : World) (i : Value) (wr : World) : Prop := ∃ k : Nat, k ≤ l.length ∧ l.take k = m.take k ∧ i = .int .i64 k ∧ ∃ q, wr = w.drewN q
set_option maxHeartbeats 3200000 in
theorem same_raw (k pr : Nat) (s : ByteArray) (ru re li : Int) (su : Nat) (u : Value) (l : List Int) (k2 pr2 : Nat) (s2 : ByteArray) (ru2 re2 li2 : Int) (su2 : Nat) (v : Value) (m : List Int) (w : World) (hl : l.length ≤ 17592186044416)
    (hu : SlI w u l) (hv : SlI w v m) (M t0 t1 t2 t3 t4 t5 t6 tl : Bool) (hM : M = (tl && (t0 && (t1 && (t2 && (t3 && (t4 && (t5 && t6))))))))
    (h0 : ((k : Int) == (k2 : Int)) = t0) (h1 : ((pr : Int) == (pr2 : Int)) = t1) (h2 : (s.toList == s2.toList) = t2) (h2b : decide (s.toList = s2.toList) = t2) (h3 : (ru == ru2) = t3) (h4 : (re == re2) = t4) (h5 : (li == li2) = t5) (h6 : ((su : Int) == (su2 : Int)) = t6) (hl2 : decide (l = m) = tl) :
    Calls Tryd.prog 13 #[.agg #[.int .u8 k, .int .u64 pr, .string s, .int .i64 ru, .int .i64 re, .int .i64 li, .int .u32 su, u], .agg #[.int .u8 k2, .int .u64 pr2, .string s2, .int .i64 ru2, .int .i64 re2, .int .i64 li2, .int .u32 su2, v]] w (RetBelow w (.bool M)) := by
  have HM := Lib.hid hM
  have HT := Lib.hid hl2
  have HU := Lib.hid hu
  have HV := Lib.hid hv
  clear hM hl2
  have EA := CellsAt.new w [.int .u8 k, .int .u64 pr, .string s, .int .i64 ru, .int .i64 re, .int .i64 li, .int .u32 su, u] 27
  have EB := CellsAt.new (w.alloc (.cells #[.int .u8 k, .int .u64 pr, .string s, .int .i64 ru, .int .i64 re, .int .i64 li, .int .u32 su, u] 27)) [.int .u8 k2, .int .u64 pr2, .string s2, .int .i64 ru2, .int .i64 re2, .int .i64 li2, .int .u32 su2, v] 27
  have hz : (w.alloc (.cells #[.int .u8 k, .int .u64 pr, .string s, .int .i64 ru, .int .i64 re, .int .i64 li, .int .u32 su, u] 27)).heap.size = w.heap.size + 1 := by simp
  rw [hz] at EB
  have EA2 : CellsAt ((w.alloc (.cells #[.int .u8 k, .int .u64 pr, .string s, .int .i64 ru, .int .i64 re, .int .i64 li, .int .u32 su, u] 27)).alloc (.cells #[.int .u8 k2, .int .u64 pr2, .string s2, .int .i64 ru2, .int .i64 re2, .int .i64 li2, .int .u32 su2, v] 27)) w.heap.size _ := EA.gr
  clear EA hz
  obtain ⟨ua, uc, hu1, huc, _⟩ := hu.form
  obtain ⟨va, vc, hv1, hvc, _⟩ := hv.form
  clear hu hv
  subst hu1 hv1
  go_enter Tryd.func13, Tryd.ntmps13
  go_upto_region 1 with fail
  change CellsAt ((w.alloc (.cells #[.int .u8 k, .int .u64 pr, .string s, .int .i64 ru, .int .i64 re, .int .i64 li, .int .u32 su, .slice ua l.length uc] 27)).alloc (.cells #[.int .u8 k2, .int .u64 pr2, .string s2, .int .i64 ru2, .int .i64 re2, .int .i64 li2, .int .u32 su2, .slice va m.length vc] 27)) _ _ at EA2
  change CellsAt ((w.alloc (.cells #[.int .u8 k, .int .u64 pr, .string s, .int .i64 ru, .int .i64 re, .int .i64 li, .int .u32 su, .slice ua l.length uc] 27)).alloc (.cells #[.int .u8 k2, .int .u64 pr2, .string s2, .int .i64 ru2, .int .i64 re2, .int .i64 li2, .int .u32 su2, .slice va m.length vc] 27)) _ _ at EB
  have GB := Lib.hid (inferInstance : Gr w ((w.alloc (.cells #[.int .u8 k, .int .u64 pr, .string s, .int .i64 ru, .int .i64 re, .int .i64 li, .int .u32 su, .slice ua l.length uc] 27)).alloc (.cells #[.int .u8 k2, .int .u64 pr2, .string s2, .int .i64 ru2, .int .i64 re2, .int .i64 li2, .int .u32 su2, .slice va m.length vc] 27))).h
  generalize (w.alloc (.cells #[.int .u8 k, .int .u64 pr, .string s, .int .i64 ru, .int .i64 re, .int .i64 li, .int .u32 su, .slice ua l.length uc] 27)).alloc (.cells #[.int .u8 k2, .int .u64 pr2, .string s2, .int .i64 ru2, .int .i64 re2, .int .i64 li2, .int .u32 su2, .slice va m.length vc] 27) = w0 at *
  have a0 := EA2.cell 0 _ rfl
  have a1 := EA2.cell 1 _ rfl
  have a2 := EA2.cell 2 _ rfl
  have a3 := EA2.cell 3 _ rfl
  have a4 := EA2.cell 4 _ rfl
  have a5 := EA2.cell 5 _ rfl
  have a6 := EA2.cell 6 _ rfl
  have a7 := EA2.cell 7 _ rfl
  have b0 := EB.cell 0 _ rfl
  have b1 := EB.cell 1 _ rfl
  have b2 := EB.cell 2 _ rfl
  have b3 := EB.cell 3 _ rfl
  have b4 := EB.cell 4 _ rfl
  have b5 := EB.cell 5 _ rfl
  have b6 := EB.cell 6 _ rfl
  have b7 := EB.cell 7 _ rfl
  clear EA2 EB
  by_cases hlm : l.length = m.length
  · by_cases h0l : l = []
    · subst h0l
      obtain rfl : m = [] := List.eq_nil_of_length_eq_zero hlm.symm
      have htl : tl = true := by rw [← HT.out]; rfl
      subst htl
      have FIN := Lib.hid (fun (q : Bool) (hq : M = q) {e : Ending} (he : e = .returned (.bool q)) => show RetBelow w (.bool M) e w0 from ⟨by rw [he, hq], GB.out⟩)
      clear hlm HT HU HV
      go_wp2_with fail
      go_loop [5] (fun i => i = .int .i64 0) (fun _ => 0)
      case atStart => rfl
      case round =>
        obtain rfl := hrel
        cases t0 with
        | false =>
          go_wp2_with fail
          go_ret
          exact FIN.out false (by rw [HM.out]; first | rfl | simp) rfl
        | true =>
        cases t1 with
        | false =>
          go_wp2_with fail
          go_ret
          exact FIN.out false (by rw [HM.out]; first | rfl | simp) rfl
        | true =>
        cases t2 with
        | false =>
          go_wp2_with fail
          go_ret
          exact FIN.out false (by rw [HM.out]; first | rfl | simp) rfl
        | true =>
        cases t3 with
        | false =>
          go_wp2_with fail
          go_ret
          exact FIN.out false (by rw [HM.out]; first | rfl | simp) rfl
        | true =>
        cases t4 with
        | false =>
          go_wp2_with fail
          go_ret
          exact FIN.out false (by rw [HM.out]; first | rfl | simp) rfl
        | true =>
        cases t5 with
        | false =>
          go_wp2_with fail
          go_ret
          exact FIN.out false (by rw [HM.out]; first | rfl | simp) rfl
        | true =>
        cases t6 with
        | false =>
          go_wp2_with fail
          go_ret
          exact FIN.out false (by rw [HM.out]; first | rfl | simp) rfl
        | true =>
        go_wp2_with fail
        go_ret
        exact FIN.out true (by rw [HM.out]; rfl) rfl
    · obtain ⟨bu, ou, cu, eu, _, lbu, hcu⟩ := HU.out.get h0l
      obtain ⟨bv, ov, cv, ev, _, lbv, hcv⟩ := HV.out.get (fun e => h0l (List.eq_nil_of_length_eq_zero (by rw [hlm, e]; rfl)))
      injection eu with eu1 _ eu2
      injection ev with ev1 _ ev2
      subst eu1 eu2 ev1 ev2
      have HCU := Lib.hid (fun (j : Nat) (hj : j < l.length) => ((bcell GB.out).1 bu (ou + j) lbu).trans (hcu j hj))
      have HCV := Lib.hid (fun (j : Nat) (hj : j < m.length) => ((bcell GB.out).1 bv (ov + j) lbv).trans (hcv j hj))
      have FIN := Lib.hid (fun (x : Nat) (q : Bool) (hq : M = q) {e : Ending} (he : e = .returned (.bool q)) => show RetBelow w (.bool M) e (w0.drewN x) from ⟨by rw [he, hq], GB.out.trans (bdrewB (Below.refl _ _) x)⟩)
      have HLM := Lib.hid hlm
      clear hcu hcv HU HV hlm h0l lbu lbv
      have EM : m.length = l.length := HLM.out.symm
      rw [EM] at b7 ⊢
      clear EM
      go_wp2_with fail
      go_loopw [5] (fun i wr => SeRel l m w0 i wr) (fun i _ => l.length - (intOf i).toNat)
      case atStart => exact ⟨0, Nat.zero_le _, rfl, rfl, 0, rfl⟩
      case round =>
        obtain ⟨j, hj, heq, rfl, x, rfl⟩ := hrel
        have HQ := Lib.hid heq
        clear heq
        by_cases hlt : j < l.length
        · have hlt2 : j < m.length := by have := HLM.out; omega
          have cu := HCU.out j hlt
          have cv := HCV.out j hlt2
          have e1 : l.take (j + 1) = l.take j ++ [l[j]] := List.take_succ_eq_append_getElem hlt
          have e2 : m.take (j + 1) = m.take j ++ [m[j]] := List.take_succ_eq_append_getElem hlt2
          by_cases hne : l[j] = m[j]
          · have KEY := Lib.hid (fun (x' : Nat) => show SeRel l m w0 (.int .i64 ((j : Int) + 1)) (w0.drewN x') from ⟨j + 1, hlt, by rw [e1, e2, HQ.out, hne], by go_num, x', rfl⟩)
            rw [← hne] at cv
            clear e1 e2 hne
            generalize l[j] = y at *
            go_wp2_with fail
            go_quiet (fail)
            go_wp2_with fail
            exact ⟨KEY.out _, by simp [intOf]; omega⟩
          · have htl : tl = false := by
              rw [← HT.out]
              refine decide_eq_false (fun e => hne ?_)
              subst e; rfl
            have q1 : (l[j] != m[j]) = true := by simpa using hne
            have q2 : (l[j] == m[j]) = false := by simpa using hne
            have q3 : decide (l[j] = m[j]) = false := decide_eq_false hne
            generalize l[j] = y at *
            generalize m[j] = y2 at *
            have FI2 := Lib.hid (fun (y' : Nat) {e : Ending} (he : e = .returned (.bool false)) => show RetBelow w (.bool M) e ((w0.drewN x).drewN y') from ⟨by rw [he, HM.out, htl]; rfl, GB.out.trans (bdrewB (bdrewB (Below.refl _ _) x) y')⟩)
            clear e1 e2 hne htl
            go_wp2_with fail
            go_quiet (fail)
            go_wp2_with fail
            go_ret
            exact FI2.out _ rfl
        · have htl : tl = true := by
            rw [← HT.out]
            have h := HQ.out
            rw [List.take_of_length_le (by omega), List.take_of_length_le (by have := HLM.out; omega)] at h
            exact decide_eq_true h
          subst htl
          have FI2 := Lib.hid (fun (q : Bool) (hq : M = q) {e : Ending} (he : e = .returned (.bool q)) => FIN.out x q hq he)
          clear FIN HQ HCU HCV
          cases t0 with
          | false =>
            go_wp2_with fail
            go_ret
            exact FI2.out false (by rw [HM.out]; first | rfl | simp) rfl
          | true =>
          cases t1 with
          | false =>
            go_wp2_with fail
            go_ret
            exact FI2.out false (by rw [HM.out]; first | rfl | simp) rfl
          | true =>
          cases t2 with
          | false =>
            go_wp2_with fail
            go_ret
            exact FI2.out false (by rw [HM.out]; first | rfl | simp) rfl
          | true =>
          cases t3 with
          | false =>
            go_wp2_with fail
            go_ret
            exact FI2.out false (by rw [HM.out]; first | rfl | simp) rfl
          | true =>
          cases t4 with
          | false =>
            go_wp2_with fail
            go_ret
            exact FI2.out false (by rw [HM.out]; first | rfl | simp) rfl
          | true =>
          cases t5 with
          | false =>
            go_wp2_with fail
            go_ret
            exact FI2.out false (by rw [HM.out]; first | rfl | simp) rfl
          | true =>
          cases t6 with
          | false =>
            go_wp2_with fail
            go_ret
            exact FI2.out false (by rw [HM.out]; first | rfl | simp) rfl
          | true =>
          go_wp2_with fail
          go_ret
          exact FI2.out true (by rw [HM.out]; rfl) rfl
  · have q1 : ((l.length : Int) != (m.length : Int)) = true := by simp; omega
    have q2 : (l.length != m.length) = true := by simpa using hlm
    have q3 : ((l.length : Int) == (m.length : Int)) = false := by simp; omega
    have q4 : (l.length == m.length) = false := by simpa using hlm
    have hf : tl = false := by rw [← HT.out]; exact decide_eq_false (fun e => hlm (by rw [e]))
    have FIN := Lib.hid (show RetBelow w (.bool M) (.returned (.bool false)) w0 from ⟨by rw [HM.out, hf]; rfl, GB.out⟩)
    clear hlm hf
    go_wp2_with fail
    go_ret
    exact FIN.out
def sameB (e f : Ent) : Bool := decide (e.inn = f.inn) && (((e.k : Int) == (f.k : Int)) && (((e.pr : Int) == (f.pr : Int)) && (decide (e.nm = f.nm) && ((e.ru == f.ru) && ((e.re == f.re) && ((e.li == f.li) && ((e.su : Int) == (f.su : Int))))))))
theorem sameB_iff (e f : Ent) : sameB e f = true ↔ e = f := by
  obtain ⟨k, pr, nm, ru, re, li, su, inn⟩ := e
  obtain ⟨k2, pr2, nm2, ru2, re2, li2, su2, inn2⟩ := f
  simp only [sameB, Bool.and_eq_true, decide_eq_true_eq, beq_iff_eq, Ent.mk.injEq]
  constructor
  · rintro ⟨h1, h2, h3, h4, h5, h6, h7, h8⟩
    exact ⟨by omega, by omega, h4, h5, h6, h7, by omega, h1⟩
  · rintro ⟨h1, h2, h3, h4, h5, h6, h7, h8⟩
    exact ⟨h8, by omega, by omega, h3, h4, h5, h6, by omega⟩
theorem same_ok (e f : Ent) (E : EntIs e) {u v : Value} {w : World} (hu : SlI w u e.inn) (hv : SlI w v f.inn) : Calls Tryd.prog 13 #[eA e u, eA f v] w (RetBelow w (.bool (sameB e f))) := by
  refine same_raw e.k e.pr (bs e.nm) e.ru e.re e.li e.su u e.inn f.k f.pr (bs f.nm) f.ru f.re f.li f.su v f.inn w E.ii hu hv _ _ _ _ _ _ _ _ _ rfl rfl rfl ?_ ?_ rfl rfl rfl rfl rfl
  · rw [bs_toList, bs_toList, Bool.eq_iff_iff]; simp
  · rw [bs_toList, bs_toList]
end Go.Proofs.YtlbekgcfafofdaaDoor
