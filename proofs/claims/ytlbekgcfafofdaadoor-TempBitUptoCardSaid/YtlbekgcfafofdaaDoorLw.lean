/- The law TempEncodes, walked. -/
import Derived.Test.YtlbekgcfafofdaaDoorDo
namespace Go.Proofs.YtlbekgcfafofdaaDoor
open Go.RowKit
set_option maxRecDepth 100000

theorem num_ok (x : Int) (w : World) : Calls Tryd.prog 12 #[.int .i64 x] w (Same w (.int .i64 x)) := by
  go_enter Tryd.func12, Tryd.ntmps12
  go_wp2_with fail
  go_ret
  exact ⟨rfl, rfl⟩
/-- Bytes as a text. -/
theorem conv_text {w : World} {v : Value} {l : List UInt8} (h : SlB w v l) : (convert 29 9 v).run Tryd.prog w = .ok (.string (bs l)) w := by
  obtain ⟨a, c, rfl, hn, rfl | ⟨b, off, rfl, hb, hc⟩⟩ := h
  · cases a with
    | none => exact run_convert_bytes_nil w 29 5 Tryd.underlying29 Tryd.underlying5 0 c 9 Tryd.underlying9
    | some ad => exact run_convert_bytes_back w 29 9 5 ad c [] Tryd.underlying29 Tryd.underlying5 Tryd.underlying9 (fun j hj => by simp at hj)
  · refine run_convert_bytes_back w 29 9 5 ⟨b, off, none⟩ c l Tryd.underlying29 Tryd.underlying5 Tryd.underlying9 (fun j hj => ?_)
    rw [add_plain]
    exact hc j _ (List.getElem?_eq_getElem hj)
theorem bytesame_ok {w : World} {u v : Value} {a b : List UInt8} (hu : SlB w u a) (hv : SlB w v b) : Calls Tryd.prog 11 #[u, v] w (Same w (.bool (decide (a = b)))) := by
  have c1 := conv_text hu
  have c2 := conv_text hv
  have q1 : ((bs a).toList == (bs b).toList) = decide (a = b) := by rw [bs_toList, bs_toList, Bool.eq_iff_iff]; simp
  have q2 : decide ((bs a).toList = (bs b).toList) = decide (a = b) := by rw [bs_toList, bs_toList]
  clear hu hv
  generalize decide (a = b) = B at *
  generalize bs a = s at *
  generalize bs b = t at *
  go_enter Tryd.func11, Tryd.ntmps11
  go_wp2_with fail
  go_ret
  exact ⟨rfl, rfl⟩
def RetTrue (w : World) (e : Ending) (w' : World) : Prop := e = .returned (.bool true) ∧ Below w.heap.size w w'
def RetX (k pr : Int) (s : ByteArray) (ru re li su : Int) (inn : List Int) (w : World) (e : Ending) (w' : World) : Prop := ∃ v, e = .returned (.agg #[.int .u8 k, .int .u64 pr, .string s, .int .i64 ru, .int .i64 re, .int .i64 li, .int .u32 su, v]) ∧ OwnIB w' w.heap.size v inn ∧ Below w.heap.size w w'
set_option maxHeartbeats 6400000 in
theorem tenc_raw (n k pr : Int) (s : ByteArray) (ru re li su : Int) (ua : Option Addr) (m uc : Nat) (inn : List Int) (w : World) (L : List UInt8) (X : Int) (hm : inn.length = m)
    (TW : ∀ W, Below w.heap.size w W → Calls Tryd.prog 8 #[.agg #[.int .u8 k, .int .u64 pr, .string s, .int .i64 ru, .int .i64 re, .int .i64 li, .int .u32 su, .slice ua m uc]] W (RetX k pr s ru re li su inn W))
    (EN : ∀ W v, Below w.heap.size w W → SlI W v inn → Calls Tryd.prog 9 #[.int .i64 n, .agg #[.int .u8 k, .int .u64 pr, .string s, .int .i64 ru, .int .i64 re, .int .i64 li, .int .u32 su, v]] W (RetEnc W L X))
    (DN : ∀ W, Below w.heap.size w W → Calls Tryd.prog 10 #[.int .i64 n, .agg #[.int .u8 k, .int .u64 pr, .string s, .int .i64 ru, .int .i64 re, .int .i64 li, .int .u32 su, .slice ua m uc]] W (RetEncD W L X))
    (SM : ∀ W v, Below w.heap.size w W → SlI W v inn → Calls Tryd.prog 13 #[.agg #[.int .u8 k, .int .u64 pr, .string s, .int .i64 ru, .int .i64 re, .int .i64 li, .int .u32 su, v], .agg #[.int .u8 k, .int .u64 pr, .string s, .int .i64 ru, .int .i64 re, .int .i64 li, .int .u32 su, .slice ua m uc]] W (RetBelow W (.bool true))) :
    Calls Tryd.prog 3 #[.int .i64 n, .agg #[.int .u8 k, .int .u64 pr, .string s, .int .i64 ru, .int .i64 re, .int .i64 li, .int .u32 su, .slice ua m uc]] w (RetTrue w) := by
  have HTW := Lib.hid TW
  have HEN := Lib.hid EN
  have HDN := Lib.hid DN
  have HSM := Lib.hid SM
  have HMM := Lib.hid hm
  clear TW EN DN SM hm
  have EB := CellsAt.new w [.int .u8 k, .int .u64 pr, .string s, .int .i64 ru, .int .i64 re, .int .i64 li, .int .u32 su, .slice ua m uc] 27
  have BE := below_alloc w (.cells #[.int .u8 k, .int .u64 pr, .string s, .int .i64 ru, .int .i64 re, .int .i64 li, .int .u32 su, .slice ua m uc] 27)
  go_enter Tryd.func3, Tryd.ntmps3
  go_wp2_with fail
  change CellsAt (w.alloc (.cells #[.int .u8 k, .int .u64 pr, .string s, .int .i64 ru, .int .i64 re, .int .i64 li, .int .u32 su, .slice ua m uc] 27)) _ _ at EB
  generalize w.alloc (.cells #[.int .u8 k, .int .u64 pr, .string s, .int .i64 ru, .int .i64 re, .int .i64 li, .int .u32 su, .slice ua m uc] 27) = w1 at *
  have T1 : Stp w w1 := ⟨BE⟩
  clear BE
  refine (HTW.out w1 (inferInstance : Gr w w1).h).mono ?_
  rintro e w2 ⟨v2, rfl, o2, b2⟩
  have T2 : Stp w1 w2 := ⟨b2⟩
  have E2 : CellsAt w2 w.heap.size _ := EB.gr
  have s2 := o2.sl
  obtain ⟨va, vc, hv, _⟩ := s2.form
  rw [HMM.out] at hv
  subst hv
  clear EB b2 o2
  have EX := CellsAt.new w2 [.int .u8 k, .int .u64 pr, .string s, .int .i64 ru, .int .i64 re, .int .i64 li, .int .u32 su, .slice va m vc] 27
  have S3 : SlI (w2.alloc (.cells #[.int .u8 k, .int .u64 pr, .string s, .int .i64 ru, .int .i64 re, .int .i64 li, .int .u32 su, .slice va m vc] 27)) _ inn := s2.below (below_alloc w2 _)
  have E3 : CellsAt (w2.alloc (.cells #[.int .u8 k, .int .u64 pr, .string s, .int .i64 ru, .int .i64 re, .int .i64 li, .int .u32 su, .slice va m vc] 27)) w.heap.size _ := E2.gr
  clear E2 s2
  go_upto_region 2 with fail
  change CellsAt (w2.alloc (.cells #[.int .u8 k, .int .u64 pr, .string s, .int .i64 ru, .int .i64 re, .int .i64 li, .int .u32 su, .slice va m vc] 27)) _ _ at EX
  have T3 : Stp w2 (w2.alloc (.cells #[.int .u8 k, .int .u64 pr, .string s, .int .i64 ru, .int .i64 re, .int .i64 li, .int .u32 su, .slice va m vc] 27)) := inferInstance
  obtain ⟨g, hg⟩ : ∃ g, g = w2.heap.size := ⟨_, rfl⟩
  rw [← hg] at EX ⊢
  clear hg
  generalize w2.alloc (.cells #[.int .u8 k, .int .u64 pr, .string s, .int .i64 ru, .int .i64 re, .int .i64 li, .int .u32 su, .slice va m vc] 27) = w3 at *
  have x0 := EX.cell 0 _ rfl
  have x1 := EX.cell 1 _ rfl
  have x2 := EX.cell 2 _ rfl
  have x3 := EX.cell 3 _ rfl
  have x4 := EX.cell 4 _ rfl
  have x5 := EX.cell 5 _ rfl
  have x6 := EX.cell 6 _ rfl
  have x7 := EX.cell 7 _ rfl
  go_wp2_with fail
  refine (HEN.out w3 _ (inferInstance : Gr w w3).h S3).mono ?_
  rintro e w4 ⟨v4, rfl, o4, b4⟩
  have T4 : Stp w3 w4 := ⟨b4⟩
  have L4 := o4.sl
  clear x0 x1 x2 x3 x4 x5 x6 x7 b4 o4
  have E4 : CellsAt w4 w.heap.size _ := E3.gr
  have X4 : CellsAt w4 g _ := EX.gr
  have S4 : SlI w4 _ inn := S3.below (inferInstance : Gr w3 w4).h
  clear E3 EX S3
  have c0 := E4.cell 0 _ rfl
  have c1 := E4.cell 1 _ rfl
  have c2 := E4.cell 2 _ rfl
  have c3 := E4.cell 3 _ rfl
  have c4 := E4.cell 4 _ rfl
  have c5 := E4.cell 5 _ rfl
  have c6 := E4.cell 6 _ rfl
  have c7 := E4.cell 7 _ rfl
  go_wp2_with fail
  refine (HDN.out w4 (inferInstance : Gr w w4).h).mono ?_
  rintro e w5 ⟨v5, rfl, s5, b5⟩
  have T5 : Stp w4 w5 := ⟨b5⟩
  have L5 : SlB w5 v4 L := L4.below b5
  clear c0 c1 c2 c3 c4 c5 c6 c7 b5 L4
  have E5 : CellsAt w5 w.heap.size _ := E4.gr
  have X5 : CellsAt w5 g _ := X4.gr
  have S5 : SlI w5 _ inn := S4.below (inferInstance : Gr w4 w5).h
  clear E4 X4 S4
  have BS := bytesame_ok L5 s5.sl
  rw [decide_eq_true rfl] at BS
  have HBS := Lib.hid BS
  clear BS L5 s5
  go_wp2_with fail
  refine HBS.out.mono ?_
  rintro e w6 ⟨rfl, rfl⟩
  go_wp2_with fail
  refine (num_ok X w5).mono ?_
  rintro e w6 ⟨rfl, rfl⟩
  have c0 := E5.cell 0 _ rfl
  have c1 := E5.cell 1 _ rfl
  have c2 := E5.cell 2 _ rfl
  have c3 := E5.cell 3 _ rfl
  have c4 := E5.cell 4 _ rfl
  have c5 := E5.cell 5 _ rfl
  have c6 := E5.cell 6 _ rfl
  have c7 := E5.cell 7 _ rfl
  have x0 := X5.cell 0 _ rfl
  have x1 := X5.cell 1 _ rfl
  have x2 := X5.cell 2 _ rfl
  have x3 := X5.cell 3 _ rfl
  have x4 := X5.cell 4 _ rfl
  have x5 := X5.cell 5 _ rfl
  have x6 := X5.cell 6 _ rfl
  have x7 := X5.cell 7 _ rfl
  go_wp2_with fail
  refine (HSM.out w5 _ (inferInstance : Gr w w5).h S5).mono ?_
  rintro e w6 ⟨rfl, b6⟩
  have T6 : Stp w5 w6 := ⟨b6⟩
  clear c0 c1 c2 c3 c4 c5 c6 c7 x0 x1 x2 x3 x4 x5 x6 x7
  go_wp2_with fail
  go_ret
  exact ⟨rfl, (inferInstance : Gr w w6).h⟩
theorem tempEncodes_walk (n : Int) (e : Ent) (E : EntIs e) {u : Value} {w : World} (h : SlI w u e.inn) (T : Tabs w) : Calls Tryd.prog 3 #[.int .i64 n, eA e u] w (RetTrue w) := by
  have TW := fun W (q : Below w.heap.size w W) => twin_ok e (u := u) E.ii (h.below q)
  have EN := fun W v (q : Below w.heap.size w W) (hv : SlI W v e.inn) => enc_ok n e E hv (T.below q)
  have DN := fun W (q : Below w.heap.size w W) => denc_ok n e E (h.below q)
  have SM := fun W v (q : Below w.heap.size w W) (hv : SlI W v e.inn) => same_ok e e E hv (h.below q)
  have SE : sameB e e = true := (sameB_iff e e).2 rfl
  rw [SE] at SM
  obtain ⟨ua, uc, hu, _⟩ := h.form
  subst hu
  exact tenc_raw n e.k e.pr (bs e.nm) e.ru e.re e.li e.su ua e.inn.length uc e.inn w _ _ rfl TW EN DN SM
end Go.Proofs.YtlbekgcfafofdaaDoor
