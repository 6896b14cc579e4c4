/- Order.Compare (11) and millref5.Compare (23), over contracts. -/
import Derived.Test.YtnpnccjeapejdaaGreatDoorFxB
import Derived.Test.YtnpnccjeapejdaaGreatDoorGd
import Derived.Test.YtnpnccjeapejdaaGreatDoorNr
namespace Go.Proofs.YtnpnccjeapejdaaGreatDoor
section
open Go.RowKit
set_option maxRecDepth 100000
/-- The first that is not zero, from i on. -/
def firstN (z : Nat → Int) : Nat → Nat → Int
  | 0, _ => 0
  | n + 1, i => if z i = 0 then firstN z n (i + 1) else z i
def KysRel (w : World) (z : Nat → Int) (n : Nat) (i : Value) (wr : World) : Prop :=
  ∃ k : Nat, k ≤ n ∧ i = .int .i64 (k : Int) ∧ firstN z n 0 = firstN z (n - k) k ∧ Below w.heap.size w wr
set_option maxHeartbeats 6400000 in
theorem keys_g (a b : ByteArray) (P gg n cap : Nat) (xa xb : Nat → ByteArray) (z : Nat → Int) (fn : Nat → Nat) (bs cs : Nat → Array Value) (w : World) (hn : n ≤ 1099511627776)
    (c0 : w.cell? ⟨P, 0, none⟩ = some (.slice (some ⟨gg, 0, none⟩) n cap)) (hP : P < w.heap.size) (hgg : gg < w.heap.size)
    (c9 : ∀ i, i < n → w.cell? ⟨gg, i * 10 + 9, none⟩ = some (.func (.func (fn i)) (bs i) (cs i)))
    (CF : Hid (∀ i, i < n → ∀ (xs : Array Value) (W : World), Sem.run Tryz.prog (callFunc (fn i) xs) W = .ok (.enter (fn i) xs) W))
    (CA : Hid (∀ i, i < n → ∀ W, Below w.heap.size w W → Calls Tryz.prog 34 #[.pointer (some ⟨gg, i * 10, none⟩), .string a] W (RetBk W (.string (xa i)))))
    (CB : Hid (∀ i, i < n → ∀ W, Below w.heap.size w W → Calls Tryz.prog 34 #[.pointer (some ⟨gg, i * 10, none⟩), .string b] W (RetBk W (.string (xb i)))))
    (CM : Hid (∀ i, i < n → ∀ W, Below w.heap.size w W → Calls Tryz.prog (fn i) (bs i ++ (#[.string (xa i), .string (xb i)] ++ cs i)) W (RetBk W (.int .i64 (z i))))) :
    Calls Tryz.prog 22 #[.pointer (some ⟨P, 0, none⟩), .string a, .string b] w (RetBk w (.int .i64 (firstN z n 0))) := by
  have HN := Lib.hid hn
  have H0 := Lib.hid c0
  have HP := Lib.hid hP
  have HG := Lib.hid hgg
  have H9 := Lib.hid c9
  clear hn hP hgg c9
  go_enter Tryz.func22, Tryz.ntmps22
  go_wp2_with fail
  refine (count_ok P n cap _ w c0).mono ?_
  rintro e w1 ⟨rfl, rfl⟩
  clear c0
  go_wp2_with fail
  go_loopw [12] (fun i wr => KysRel w z n i wr) (fun i _ => n - (intOf i).toNat)
  case atStart => exact ⟨0, Nat.zero_le _, rfl, rfl, Below.refl _ _⟩
  case round =>
    obtain ⟨k, hk, rfl, heq, hb⟩ := hrel
    have HE := Lib.hid heq
    have HB := Lib.hid hb
    clear heq hb
    by_cases h : k < n
    · have t0 : decide (k < n) = true := decide_eq_true h
      have p0 := (HB.out.cell (p := ⟨P, 0, none⟩) HP.out).trans H0.out
      have p9 := (HB.out.cell (p := ⟨gg, k * 10 + 9, none⟩) HG.out).trans (H9.out k h)
      have hcf := CF.out k h
      have K9 := Lib.hid (H9.out k h)
      have HCA := Lib.hid (CA.out k h)
      have HCB := Lib.hid (CB.out k h)
      have HCM := Lib.hid (CM.out k h)
      obtain ⟨m, hm⟩ : ∃ m, n - k = m + 1 := ⟨n - k - 1, by omega⟩
      have HF := Lib.hid (show firstN z n 0 = (if z k = 0 then firstN z (n - (k + 1)) (k + 1) else z k) by rw [HE.out, hm, show n - (k + 1) = m by omega]; rfl)
      clear HE hm
      generalize fn k = f at *
      generalize bs k = B at *
      generalize cs k = C at *
      generalize z k = zk at *
      go_upto_region 5 with fail
      have D := HB.out.trans (((Below.refl wr.heap.size wr).drew).mono HB.out.size)
      go_region_held3 (fun w' => w'.cell? ⟨gg, k * 10 + 9, none⟩ = some (.func (.func f) B C))
        (first | go_keep)
        ((first
          | (go_at_call 34; ((first | (with_reducible refine (HCA.out _ (by first | exact D2 | exact D)).mono ?_) | (with_reducible refine (HCB.out _ (by first | exact D2 | exact D)).mono ?_)); rintro ee w8 ⟨rfl, hbb⟩; have D2 := Below.trans (by first | exact D2 | exact D) (hbb.mono (Below.size (by first | exact D2 | exact D))); have p9 := (D2.cell (p := ⟨gg, k * 10 + 9, none⟩) HG.out).trans K9.out))
          | ((with_reducible refine (HCM.out _ (by first | exact D2 | exact D)).mono ?_); rintro ee w9 ⟨rfl, hbb⟩; have D3 := Below.trans (by first | exact D2 | exact D) (hbb.mono (Below.size (by first | exact D2 | exact D))); have p9 := (D3.cell (p := ⟨gg, k * 10 + 9, none⟩) HG.out).trans K9.out)))
      all_goals
        have BF := Lib.hid D3
        clear D3 D2 hbb p9
        by_cases hz : zk = 0
        · subst hz
          rw [if_pos rfl] at HF
          have e1 : wrap64 ((k : Int) + 1) = ((k + 1 : Nat) : Int) := by have := HN.out; unfold wrap64; omega
          go_wp2_with fail
          rw [e1]
          refine ⟨⟨k + 1, h, rfl, HF.out, BF.out⟩, ?_⟩
          have e5 : ∀ m : Nat, (intOf (.int .i64 (m : Int))).toNat = m := fun m => by show ((m : Int)).toNat = m; exact Int.toNat_natCast m
          rw [e5, e5]
          omega
        · have n0 : (zk != 0) = true := by rw [bne_iff_ne]; exact hz
          rw [if_neg hz] at HF
          go_wp2_with fail
          go_ret
          exact ⟨by rw [HF.out]; rfl, BF.out⟩
    · have t0 : decide (k < n) = false := decide_eq_false h
      have hkn : n - k = 0 := by omega
      rw [hkn] at HE
      clear hkn
      go_wp2_with fail
      go_ret
      exact ⟨by rw [HE.out]; rfl, HB.out⟩
end
section
section
open Go.RowKit
set_option maxRecDepth 100000
end
section
open Go.RowKit
set_option maxRecDepth 100000
theorem cmI_neg (x y : Int) : cmI y x = - cmI x y := by
  unfold cmI
  by_cases h1 : x < y
  · rw [if_neg (by omega), if_pos h1, if_pos h1]; rfl
  · by_cases h2 : y < x
    · rw [if_pos h2, if_neg h1, if_pos h2]
    · rw [if_neg h2, if_neg h1, if_neg h1, if_neg h2]; rfl
theorem cb_neg : ∀ (p q : List UInt8), Lib.compareBytes q p = - Lib.compareBytes p q
  | [], [] => rfl
  | [], _ :: _ => rfl
  | _ :: _, [] => rfl
  | x :: p, y :: q => by
    rw [cb_cons, cb_cons, cmI_neg x.toNat y.toNat]
    by_cases h : cmI x.toNat y.toNat = 0
    · rw [if_pos h, if_pos (by omega)]; exact cb_neg p q
    · rw [if_neg h, if_neg (by omega)]
/-- What a comparison of two lines gives, by its keys' answer, its last resort and the reverse. -/
def cmpV (z : Int) (b1 b2 : Bool) (p q : List UInt8) : Int := if z = 0 then (if b1 then (if b2 then Lib.compareBytes q p else Lib.compareBytes p q) else 0) else z
set_option maxHeartbeats 3200000 in
theorem compare_g (a b : ByteArray) (P : Nat) (b1 b2 : Bool) (z : Int) (w : World) (c1 : w.cell? ⟨P, 1, none⟩ = some (.bool b1)) (c2 : w.cell? ⟨P, 2, none⟩ = some (.bool b2)) (hP : P < w.heap.size)
    (KY : Hid (Calls Tryz.prog 22 #[.pointer (some ⟨P, 0, none⟩), .string a, .string b] w (RetBk w (.int .i64 z)))) :
    Calls Tryz.prog 9 #[.pointer (some ⟨P, 0, none⟩), .string a, .string b] w (RetBk w (.int .i64 (cmpV z b1 b2 a.data.toList b.data.toList))) := by
  have H1 := Lib.hid c1
  have H2 := Lib.hid c2
  have HP := Lib.hid hP
  have SC := Lib.hid (fun x y W => Tryz.strings_Compare x y W)
  clear c1 c2 hP
  by_cases hz : z = 0
  · subst hz
    cases b1 with
    | false =>
      go_enter Tryz.func9, Tryz.ntmps9
      go_wp2_with fail
      refine KY.out.mono ?_
      rintro e w1 ⟨rfl, hb⟩
      have q1 := (hb.cell (p := ⟨P, 1, none⟩) HP.out).trans H1.out
      have HB := Lib.hid hb
      clear hb
      go_wp2_with fail
      go_ret
      exact ⟨rfl, HB.out⟩
    | true =>
      cases b2 with
      | false =>
        go_enter Tryz.func9, Tryz.ntmps9
        go_wp2_with fail
        refine KY.out.mono ?_
        rintro e w1 ⟨rfl, hb⟩
        have q1 := (hb.cell (p := ⟨P, 1, none⟩) HP.out).trans H1.out
        have q2 := (hb.cell (p := ⟨P, 2, none⟩) HP.out).trans H2.out
        have HB := Lib.hid hb
        clear hb
        go_wp2_with fail
        refine (SC.out _ _ _).mono ?_
        rintro e w2 ⟨rfl, rfl⟩
        go_wp2_with fail
        go_ret
        exact ⟨rfl, HB.out⟩
      | true =>
        go_enter Tryz.func9, Tryz.ntmps9
        go_wp2_with fail
        refine KY.out.mono ?_
        rintro e w1 ⟨rfl, hb⟩
        have q1 := (hb.cell (p := ⟨P, 1, none⟩) HP.out).trans H1.out
        have q2 := (hb.cell (p := ⟨P, 2, none⟩) HP.out).trans H2.out
        have HB := Lib.hid hb
        clear hb
        go_wp2_with fail
        refine (SC.out _ _ _).mono ?_
        rintro e w2 ⟨rfl, rfl⟩
        go_wp2_with fail
        go_ret
        exact ⟨rfl, HB.out⟩
  · have n0 : (z != 0) = true := by rw [bne_iff_ne]; exact hz
    have E := Lib.hid (show cmpV z b1 b2 a.data.toList b.data.toList = z by unfold cmpV; rw [if_neg hz])
    clear hz
    go_enter Tryz.func9, Tryz.ntmps9
    go_wp2_with fail
    refine KY.out.mono ?_
    rintro e w1 ⟨rfl, hb⟩
    have HB := Lib.hid hb
    clear hb
    go_wp2_with fail
    go_ret
    exact ⟨by rw [E.out]; rfl, HB.out⟩
end
end
end Go.Proofs.YtnpnccjeapejdaaGreatDoor
