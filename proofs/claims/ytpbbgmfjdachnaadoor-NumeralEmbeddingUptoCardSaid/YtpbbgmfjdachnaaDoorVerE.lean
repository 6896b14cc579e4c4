/- numeral's embedVersion. -/
import Derived.Test.YtpbbgmfjdachnaaDoorPairE
import Derived.Test.YtpbbgmfjdachnaaDoorValE
namespace Go.Proofs.YtpbbgmfjdachnaaDoor
open Go.RowKit

theorem verN_fuel : ∀ (n m : Nat) (l : List UInt8), l.length ≤ n → l.length ≤ m → verN n l = verN m l
  | 0, m, l, h, _ => by
    have : l = [] := List.eq_nil_of_length_eq_zero (by omega)
    subst this
    cases m <;> rfl
  | n + 1, 0, l, _, h => by
    have : l = [] := List.eq_nil_of_length_eq_zero (by omega)
    subst this
    rfl
  | n + 1, m + 1, l, h, k => by
    by_cases e : l = []
    · subst e; rfl
    · have := restOf_lt e
      simp only [verN, if_neg e]
      rw [verN_fuel n m (restOf l) (by omega) (by omega)]
def verL (l : List UInt8) : List UInt8 := verN l.length l
theorem verL_nil : verL [] = [2, 0] := rfl
theorem verL_cons {l : List UInt8} (h : l ≠ []) : verL l = pairE l ++ verL (restOf l) := by
  unfold verL
  obtain ⟨n, hn⟩ : ∃ n, l.length = n + 1 := ⟨l.length - 1, by have := List.length_pos_iff.2 h; omega⟩
  have := restOf_lt h
  rw [hn]
  simp only [verN, if_neg h]
  rw [verN_fuel n (restOf l).length (restOf l) (by omega) (Nat.le_refl _)]
theorem parts_len (l : List UInt8) : (plainOf l).length + (digsOf l).length + (restOf l).length = l.length := by
  unfold plainOf digsOf restOf
  have h1 := congrArg List.length (List.takeWhile_append_dropWhile (p := notDig) (l := l))
  have h2 := congrArg List.length (List.takeWhile_append_dropWhile (p := isDig) (l := l.dropWhile notDig))
  rw [List.length_append] at h1 h2
  omega
theorem pairE_len (l : List UInt8) (h : l ≠ []) : (pairE l).length + 11 * (restOf l).length ≤ 11 * l.length := by
  have h1 := parts_len l
  have h2 := restOf_lt h
  have h3 : (numsE (digsOf l)).length ≤ 9 + (digsOf l).length := by
    unfold numsE
    split
    · simp; omega
    · have := trimL_le (digsOf l)
      simp [beN_len]; omega
  unfold pairE
  simp
  omega
def VeRel (w : World) (l : List UInt8) (s v : Value) (wr : World) : Prop :=
  ∃ (x : ByteArray) (acc : List UInt8), s = .string x ∧ OwnB wr w.heap.size v acc ∧ acc.length + 11 * x.size ≤ 11 * l.length ∧ acc ++ verL x.data.toList = verL l ∧ Below w.heap.size w wr
def veLen : Value → Nat
  | .string a => a.size
  | _ => 0

set_option maxRecDepth 100000
set_option maxHeartbeats 1600000 in
theorem embedVersion_ok (s : ByteArray) (w : World) (hs : s.size ≤ 10000000) (T : Tabs w) : Calls Tryd.prog 47 #[.string s] w (RetBelow w (.string (bs (verN s.data.toList.length s.data.toList)))) := by
  have HT := Lib.hid T
  have h5 : 4 < w.heap.size := by obtain ⟨_, _, _, ⟨t4, fr4, h4⟩⟩ := T; exact lt_of_heap h4
  clear T
  have hsl : s.data.toList.length ≤ 10000000 := by rw [← Lib.size_eq]; exact hs
  have HSL := Lib.hid hsl
  clear hsl
  go_enter Tryd.func47, Tryd.ntmps47
  go_wp2_with (at_make; refine wp_make rfl _ _ rfl w.heap.size (Nat.le_refl _) _ _ _ (s.size + 4) rfl rfl ?c1x1 ?c2x1 ?_)
  case c1x1 => simp
  case c2x1 => omega
  intro v0 w0 g1 g2 _
  have G1 := Lib.hid g1
  have G2 := Lib.hid g2
  clear g1 g2
  go_wp2_with fail
  go_loopw [0, 3] (fun a v wr => VeRel w s.data.toList a v wr) (fun a _ _ => veLen a)
  case atStart => exact ⟨s, [], rfl, G1.out, by rw [← Lib.size_eq]; simp, rfl, G2.out⟩
  case round =>
    obtain ⟨x, acc, rfl, ho, hn, he, hb⟩ := hrel
    have HO := Lib.hid ho
    have HN := Lib.hid hn
    have HE := Lib.hid he
    have HB := Lib.hid hb
    clear ho hn he hb
    by_cases hxe : x.data.toList = []
    · have x1 : x.toList = [] := by rw [Lib.toList_data]; exact hxe
      have x2 : x.toList.isEmpty = true := by rw [x1]; rfl
      have E := Lib.hid (show acc ++ [2, 0] = verL s.data.toList by rw [← HE.out, hxe]; rfl)
      have HAC := Lib.hid (show acc.length ≤ 1000000000 by have := HN.out; have := HSL.out; omega)
      clear hxe
      go_wp2_with fail
      refine (pairAppend_ok w.heap.size h5 _ acc ⟨#[]⟩ ⟨#[]⟩ wr (HT.out.base h5 HB.out) HO.out HAC.out (by decide) (by decide)).mono ?_
      rintro e w1 ⟨v1, rfl, h1, h2, _⟩
      have hv : acc ++ (((⟨#[]⟩ : ByteArray).data.toList.map rkB ++ [2]) ++ numsE (⟨#[]⟩ : ByteArray).data.toList) = verL s.data.toList := E.out
      rw [hv] at h1
      have hback := h1.back (by rw [← E.out]; simp)
      have H2 := Lib.hid (HB.out.trans h2)
      clear h1 h2 hv
      go_wp2_with fail
      go_ret
      exact ⟨rfl, H2.out⟩
    · have x1 : ¬ x.toList = [] := by rw [Lib.toList_data]; exact hxe
      have x2 : x.toList.isEmpty = false := by rw [Lib.toList_data]; cases hx : x.data.toList <;> simp_all
      have hxs : x.size ≤ 1125899906842624 := by have := HN.out; have := HSL.out; omega
      have E := Lib.hid (verL_cons hxe)
      have HLEN := Lib.hid (pairE_len _ hxe)
      have HLT := Lib.hid (restOf_lt hxe)
      clear hxe
      go_wp2_with fail
      refine (cutPair_ok x _ hxs).mono ?_
      rintro e w1 ⟨rfl, hb1⟩
      have c1 : w1.cell? ⟨wr.heap.size, 0, none⟩ = some (.string ⟨#[]⟩) := by rw [(bcell hb1).1 _ _ (by simp)]; simp
      have c2 : w1.cell? ⟨wr.heap.size, 1, none⟩ = some (.string ⟨#[]⟩) := by rw [(bcell hb1).1 _ _ (by simp)]; simp
      have f1 : w1.frozen? ⟨wr.heap.size, 0, none⟩ = false := by rw [(bcell hb1).2 _ _ (by simp)]; simp
      have f2 : w1.frozen? ⟨wr.heap.size, 1, none⟩ = false := by rw [(bcell hb1).2 _ _ (by simp)]; simp
      have B1 := Lib.hid ((((Below.refl _ wr).alloc (Nat.le_refl _) (Obj.cells #[Value.string ⟨#[]⟩, Value.string ⟨#[]⟩] 102))).trans (hb1.mono (by simp)))
      clear hb1
      have HP1 := Lib.hid (bs_list (plainOf x.data.toList))
      have HD1 := Lib.hid (bs_list (digsOf x.data.toList))
      have HR1 := Lib.hid (bs_list (restOf x.data.toList))
      have hpl := parts_len x.data.toList
      rw [← Lib.size_eq] at hpl
      have s1 := Lib.hid (show (bs (plainOf x.data.toList)).size ≤ x.size by rw [bs_size]; omega)
      have s2 := Lib.hid (show (bs (digsOf x.data.toList)).size ≤ x.size by rw [bs_size]; omega)
      have s3 := Lib.hid (bs_size (restOf x.data.toList))
      clear hpl
      generalize bs (plainOf x.data.toList) = P1 at *
      generalize bs (digsOf x.data.toList) = D1 at *
      generalize bs (restOf x.data.toList) = R1 at *
      go_wp2_with fail
      have B2 := Lib.hid ((B1.out.setCell (p := ⟨wr.heap.size, 0, none⟩) (Nat.le_refl _) (.string P1)).setCell (p := ⟨wr.heap.size, 1, none⟩) (Nat.le_refl _) (.string D1))
      clear c1 c2 f1 f2 B1
      generalize (w1.setCell ⟨wr.heap.size, 0, none⟩ (.string P1)).setCell ⟨wr.heap.size, 1, none⟩ (.string D1) = w2 at *
      have B3 := Lib.hid (HB.out.trans (B2.out.mono HO.out.2))
      have hx10 : x.size ≤ 1000000000 := by have := HN.out; have := HSL.out; omega
      have hac : acc.length ≤ 1000000000 := by have := HN.out; have := HSL.out; omega
      refine (pairAppend_ok w.heap.size h5 _ acc P1 D1 w2 (HT.out.base h5 B3.out) (HO.out.below B2.out) hac (Nat.le_trans s1.out hx10) (Nat.le_trans s2.out hx10)).mono ?_
      rintro e w3 ⟨v3, rfl, h1, h2, _⟩
      have hpe : ((P1.data.toList.map rkB ++ [2]) ++ numsE D1.data.toList) = pairE x.data.toList := by rw [HP1.out, HD1.out]; rfl
      rw [hpe] at h1
      have H1 := Lib.hid h1
      have B4 := Lib.hid (B3.out.trans h2)
      have HREL := Lib.hid (show (acc ++ pairE x.data.toList) ++ verL R1.data.toList = verL s.data.toList by rw [HR1.out, List.append_assoc, ← E.out, HE.out])
      have HRLEN := Lib.hid (show (acc ++ pairE x.data.toList).length + 11 * R1.size ≤ 11 * s.data.toList.length by
        have a := HN.out; have b := HLEN.out; have c := s3.out; rw [← Lib.size_eq x] at b; rw [List.length_append]; omega)
      have HRLT := Lib.hid (show R1.size < x.size by have b := HLT.out; rw [← Lib.size_eq x] at b; have c := s3.out; omega)
      clear h1 h2 hpe hac hx10
      go_wp2_with fail
      go_roundw
      case rel => exact ⟨R1, _, rfl, H1.out, HRLEN.out, HREL.out, B4.out⟩
      case measure => exact HRLT.out
end Go.Proofs.YtpbbgmfjdachnaaDoor
