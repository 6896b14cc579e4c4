/- Transform. -/
import Derived.Test.YtnpnccjeapejdaaGreatDoorVd
namespace Go.Proofs.YtnpnccjeapejdaaGreatDoor
open Num (RetBelow)
open Go.RowKit
set_option maxRecDepth 100000
def TrRel (w : World) (pT : Nat → List UInt8) (n : Nat) (v i : Value) (wr : World) : Prop :=
  ∃ k : Nat, k ≤ n ∧ i = .int .i64 (k : Int) ∧ OwnB wr w.heap.size v (pT k) ∧ Below w.heap.size w wr
set_option maxHeartbeats 6400000 in
theorem transform_g (P gg n cap : Nat) (b1 b2 : Bool) (pT : Nat → List UInt8) (s eb : ByteArray) (R : List UInt8) (w : World) (hn : n ≤ 1099511627776)
    (c0 : w.cell? ⟨P, 0, none⟩ = some (.slice (some ⟨gg, 0, none⟩) n cap)) (c1 : w.cell? ⟨P, 1, none⟩ = some (.bool b1)) (c2 : w.cell? ⟨P, 2, none⟩ = some (.bool b2)) (hP : P < w.heap.size) (h0 : pT 0 = [])
    (HK : Hid (∀ i, i < n → ∀ W, Below w.heap.size w W → ∀ v, OwnB W w.heap.size v (pT i) → Calls Tryz.prog 19 #[.pointer (some ⟨gg, i * 10, none⟩), v, .string s] W (RetRow w.heap.size W (pT (i + 1)))))
    (HE : Hid (∀ W, Below w.heap.size w W → Calls Tryz.prog 21 #[.int .u16 0, .string s] W (RetBelow W (.string eb))))
    (HT : Hid (∀ W v, OwnB W w.heap.size v (pT n) → Calls Tryz.prog 20 #[v, .string eb, .bool b2] W (RetRow w.heap.size W R))) :
    Calls Tryz.prog 7 #[.pointer (some ⟨P, 0, none⟩), .string s] w (RetBk w (.string (bs (if b1 then R else pT n)))) := by
  have HN := Lib.hid hn
  have H0 := Lib.hid c0
  have H1 := Lib.hid c1
  have H2 := Lib.hid c2
  have HP := Lib.hid hP
  have HZ := Lib.hid h0
  clear hn hP h0 c1 c2
  obtain ⟨X, hX⟩ : ∃ X, X = bs (if b1 then R else pT n) := ⟨_, rfl⟩
  have HX := Lib.hid hX
  rw [← hX]
  clear hX
  go_enter Tryz.func7, Tryz.ntmps7
  go_wp2_with fail
  refine (count_ok P n cap _ w c0).mono ?_
  rintro e w1 ⟨rfl, rfl⟩
  clear c0
  go_wp2_with fail
  go_loopw [5, 9] (fun v i wr => TrRel w pT n v i wr) (fun _ i _ => n - (intOf i).toNat)
  case atStart => exact ⟨0, Nat.zero_le _, rfl, by rw [HZ.out]; exact OwnB.nil w, Below.refl _ _⟩
  case round =>
    obtain ⟨k, hk, rfl, ho, hb⟩ := hrel
    have HO := Lib.hid ho
    have HB := Lib.hid hb
    clear ho hb
    by_cases h : k < n
    · have t0 : decide (k < n) = true := decide_eq_true h
      have p0 := (HB.out.cell (p := ⟨P, 0, none⟩) HP.out).trans H0.out
      have HKK := Lib.hid (HK.out k h)
      go_wp2_with fail
      refine (HKK.out wr HB.out _ HO.out).mono ?_
      rintro e w2 ⟨v2, rfl, o2, b2⟩
      have O2 := Lib.hid o2
      have B2 := Lib.hid (HB.out.trans b2)
      have HH := Lib.hid h
      clear o2 b2 p0 t0
      have e1 : wrap64 ((k : Int) + 1) = ((k + 1 : Nat) : Int) := by have := HN.out; have := HH.out; unfold wrap64; omega
      go_wp2_with fail
      rw [e1]
      exact ⟨⟨k + 1, HH.out, rfl, O2.out, B2.out⟩, by have := HH.out; simp [intOf]; omega⟩
    · have hke : k = n := by omega
      subst hke
      have p1 := (HB.out.cell (p := ⟨P, 1, none⟩) HP.out).trans H1.out
      have t0 : decide (k < k) = false := decide_eq_false h
      cases b1 with
      | false =>
        have hback := HO.out.conv
        go_wp2_with fail
        go_ret
        exact ⟨by rw [HX.out]; rfl, HB.out⟩
      | true =>
        go_upto_region 8 with fail
        have D := HB.out.trans (((Below.refl wr.heap.size wr).drew).mono HB.out.size)
        have OD := HO.out.below (Below.refl wr.heap.size wr).drew
        have p2 := (HB.out.cell (p := ⟨P, 2, none⟩) HP.out).trans H2.out
        clear p1 t0 h hk
        go_region_held3 (fun w' => w'.cell? ⟨P, 2, none⟩ = some (.bool b2))
          (first | go_keep)
          ((first
            | (go_at_call 21; ((with_reducible refine (HE.out _ D).mono ?_); rintro ee w8 ⟨rfl, hbb⟩; have D2 := D.trans (hbb.mono D.size); have O2 := OD.below hbb; have p2 := (D2.cell (p := ⟨P, 2, none⟩) HP.out).trans H2.out))
            | (go_at_call 20; ((with_reducible refine (HT.out _ _ O2).mono ?_); rintro ee w9 ⟨v9, rfl, o9, b9⟩; have D3 := D2.trans b9; have p2 := (D3.cell (p := ⟨P, 2, none⟩) HP.out).trans H2.out))))
        have hback := o9.conv
        go_wp2_with fail
        go_ret
        exact ⟨by rw [HX.out]; rfl, D3⟩
theorem prT_len (oo : Option UInt8) (L : List KeyL) (s : ByteArray) (hs : s.size ≤ 1048576) : ∀ n, (prT oo L s n).length ≤ n * (8 * s.size + 128)
  | 0 => by simp [prT]
  | n + 1 => by
    have h1 := prT_len oo L s hs n
    have h2 := imK_len (mL L n) (cutL s oo L n) (cutL_size s oo L n hs)
    have h3 := cut_le s oo L n
    rw [← Lib.size_eq, ← Lib.size_eq] at h3
    unfold prT
    rw [List.length_append, Nat.succ_mul]
    omega
theorem bound_k {n z : Nat} (hn : n ≤ 1048577) (hz : z ≤ 1048576) : n * (8 * z + 128) ≤ 50000000000000 :=
  Nat.le_trans (Nat.mul_le_mul hn (show 8 * z + 128 ≤ 8388736 by omega)) (by decide)
theorem transform_ok {W : World} {P gg cap : Nat} {b1 b2 : Bool} {D : List (KeyL × Value)} {oo : Option UInt8} (K : OrdT W P gg cap b1 b2 D (tabI oo)) (EN : Nats (D.map Prod.fst)) (hD : D.length ≤ 1048577) (s : ByteArray) (hs : s.size ≤ 1048576) (T : Tbs W) :
    Calls Tryz.prog 7 #[.pointer (some ⟨P, 0, none⟩), .string s] W (RetBk W (.string (bs (trT b1 b2 oo (D.map Prod.fst) s)))) := by
  have pl : ∀ i, i ≤ D.length → (prT oo (D.map Prod.fst) s i).length ≤ 50000000000000 := fun i hi => Nat.le_trans (prT_len oo (D.map Prod.fst) s hs i) (bound_k (Nat.le_trans hi hD) hs)
  have e8 := Num.embS_len8 0 s (by omega)
  have := transform_g P gg D.length cap b1 b2 (prT oo (D.map Prod.fst) s) s (bs (Num.embS 0 s.data.toList)) (prT oo (D.map Prod.fst) s D.length ++ turnL b2 (Num.embS 0 s.data.toList)) W (by omega) K.ord.c0 K.ord.c1 K.ord.c2 K.ord.hP rfl
    (Lib.hid fun i hi W' b v hv => keyT_ok K EN s hs i hi T W.heap.size (Nat.le_refl _) W' b v _ hv (pl i (by omega)))
    (Lib.hid fun W' b => emb_ok 0 s W' hs (T.below b))
    (Lib.hid fun W' v hv => by
      have := image_ok W.heap.size v _ (bs (Num.embS 0 s.data.toList)) b2 W' hv (by have := pl D.length (Nat.le_refl _); rw [bs_size]; omega) (by rw [bs_size]; exact e8.2)
      rwa [bs_list] at this)
  have e : trT b1 b2 oo (D.map Prod.fst) s = if b1 then prT oo (D.map Prod.fst) s D.length ++ turnL b2 (Num.embS 0 s.data.toList) else prT oo (D.map Prod.fst) s D.length := by
    unfold trT laT turnL
    rw [List.length_map]
    cases b1 <;> cases b2 <;> simp
  rw [e]
  exact this
end Go.Proofs.YtnpnccjeapejdaaGreatDoor
