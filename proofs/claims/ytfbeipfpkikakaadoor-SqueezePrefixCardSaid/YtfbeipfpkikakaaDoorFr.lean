/- A row with a sum behind; a block's frame; Store. -/
import Derived.Test.YtfbeipfpkikakaaDoorNb
namespace Go.Proofs.YtfbeipfpkikakaaDoor
open Go.RowKit

set_option maxRecDepth 100000
def big4 (s : Nat) : List UInt8 := [UInt8.ofNat (s / 16777216), UInt8.ofNat (s / 65536 % 256), UInt8.ofNat (s / 256 % 256), UInt8.ofNat (s % 256)]
theorem big4_len (s : Nat) : (big4 s).length = 4 := rfl
theorem big4_v (s : Nat) (hs : s < 2 ^ 32) : byV (big4 s) = [.int .u8 ((s / 16777216 : Nat) : Int), .int .u8 ((s / 65536 % 256 : Nat) : Int), .int .u8 ((s / 256 % 256 : Nat) : Int), .int .u8 ((s % 256 : Nat) : Int)] := by
  unfold byV big4
  simp only [List.map]
  have e : ∀ n : Nat, n < 256 → (UInt8.ofNat n).toNat = n := fun n h => by simp; omega
  rw [e _ (by omega), e _ (by omega), e _ (by omega), e _ (by omega)]
set_option maxHeartbeats 800000 in
theorem withSum_ok (B : Nat) (v : Value) (l : List UInt8) (s : Nat) (hs : s < 2 ^ 32) (w : World) (hown : OwnB w B v l) (hlen : l.length ≤ 4294967296) : Calls Tryd.prog 48 #[v, .int .u32 s] w (RetOwn B w (l ++ big4 s)) := by
  have HO := Lib.hid hown
  clear hown
  go_enter Tryd.func48, Tryd.ntmps48
  go_wp2_with (at_builtin; refine wp_app rfl _ _ rfl B _ l rfl HO.out (big4 s) _ ?hu rfl (by rw [big4_len]; omega) ?_)
  case hu => simp [big4_v s hs]
  intro v' w' h1 h2 h3
  have H1 := Lib.hid h1
  have H2 := Lib.hid h2
  have H3 := Lib.hid h3
  clear h1 h2 h3
  go_wp2_with fail
  go_ret
  exact ⟨_, rfl, H1.out, H2.out, H3.out⟩

def big3 (n : Nat) : List UInt8 := [UInt8.ofNat (n / 65536 % 256), UInt8.ofNat (n / 256 % 256), UInt8.ofNat (n % 256)]
theorem big3_v (n : Nat) : byV (big3 n) = [.int .u8 ((n / 65536 % 256 : Nat) : Int), .int .u8 ((n / 256 % 256 : Nat) : Int), .int .u8 ((n % 256 : Nat) : Int)] := by
  unfold byV big3
  simp only [List.map]
  have e : ∀ n : Nat, n < 256 → (UInt8.ofNat n).toNat = n := fun n h => by simp; omega
  rw [e _ (by omega), e _ (by omega), e _ (by omega)]
def headN (mode : UInt8) (raw len : Nat) : List UInt8 := [181, mode] ++ big3 raw ++ big3 len
def frameN (mode : UInt8) (raw : Nat) (c : List UInt8) : List UInt8 := headN mode raw c.length ++ big4 (sumN (headN mode raw c.length)) ++ c ++ big4 (sumN c)
set_option maxHeartbeats 1600000 in
theorem framed_ok (mode : UInt8) (raw : Nat) (hr : raw ≤ 16777215) (u : Value) (c : List UInt8) (w : World) (hc : SlB w u c) (hlen : c.length ≤ 16777215) (T : Tabs w) :
    Calls Tryd.prog 37 #[.int .u8 mode.toNat, .int .i64 raw, u] w (RetOwn w.heap.size w (frameN mode raw c)) := by
  have HC := Lib.hid hc
  have HT := Lib.hid T
  clear hc T
  have hr1 := hr
  obtain ⟨ua, uc, rfl, hun, hcs⟩ := HC.out
  clear hun hcs
  have SB := Lib.hid (fun (W : World) (k : Below w.heap.size w W) => sum_ok (.slice ua c.length uc) c W (by omega) (HC.out.below k) (HT.out.below k))
  have S1 := Lib.hid (fun (v : Value) (W : World) (k : Below w.heap.size w W) (o : SlB W v (headN mode raw c.length)) => sum_ok v _ W (by show 8 ≤ _; omega) o (HT.out.below k))
  have lh : (headN mode raw c.length).length = 8 := rfl
  have sh : sumN (headN mode raw c.length) < 2 ^ 32 := (sumMoreN_lt (by decide) _)
  have sc : sumN c < 2 ^ 32 := (sumMoreN_lt (by decide) _)
  have W1 := Lib.hid (fun (v : Value) (W : World) (o : OwnB W w.heap.size v (headN mode raw c.length)) => withSum_ok w.heap.size v _ (sumN (headN mode raw c.length)) sh W o (by omega))
  have W2 := Lib.hid (fun (v : Value) (W : World) (o : OwnB W w.heap.size v ((headN mode raw c.length ++ big4 (sumN (headN mode raw c.length))) ++ c)) => withSum_ok w.heap.size v _ (sumN c) sc W o (by simp [lh, big4_len]; omega))
  have HF := Lib.hid (show frameN mode raw c = ((headN mode raw c.length ++ big4 (sumN (headN mode raw c.length))) ++ c) ++ big4 (sumN c) from rfl)
  have HH := Lib.hid (show headN mode raw c.length = ([181, mode] ++ big3 raw) ++ big3 c.length from rfl)
  have l12 : (headN mode raw c.length ++ big4 (sumN (headN mode raw c.length))).length = 12 := rfl
  generalize frameN mode raw c = R at *
  generalize headN mode raw c.length = hd at *
  generalize sumN hd = s1 at *
  generalize sumN c = s2 at *
  have B3 := Lib.hid (big3_v raw)
  have B4 := Lib.hid (big3_v c.length)
  have l3 : (big3 raw).length = 3 := rfl
  have l4 : (big3 c.length).length = 3 := rfl
  generalize big3 raw = b3 at *
  generalize big3 c.length = b4 at *
  go_enter Tryd.func37, Tryd.ntmps37
  go_wp2_with (refine wp_make rfl _ _ rfl w.heap.size (Nat.le_refl _) .i64 .i64 _ (16 + c.length) rfl rfl (by omega) (by omega) ?_)
  intro v1 w1 h1 h2 h3
  have O1 := Lib.hid h1
  have K1 := Lib.hid h2
  clear h1 h2 h3
  go_wp2_with (at_builtin; refine wp_app rfl _ _ rfl w.heap.size _ [] rfl O1.out [181, mode] _ (by simp [byV]) rfl (by simp) ?_)
  intro v2 w2 h1 h2 h3
  have O2 := Lib.hid h1
  have K2 := Lib.hid (K1.out.trans h2)
  clear h1 h2 h3 O1 K1
  go_wp2_with (at_builtin; refine wp_app rfl _ _ rfl w.heap.size _ ([] ++ [181, mode]) rfl O2.out b3 _ (by rw [B3.out]; simp; omega) (by rw [l3]; rfl) (by simp [l3]) ?_)
  intro v3 w3 h1 h2 h3
  have O3 := Lib.hid h1
  have K3 := Lib.hid (K2.out.trans h2)
  clear h1 h2 h3 O2 K2
  go_wp2_with (at_builtin; refine wp_app rfl _ _ rfl w.heap.size _ ([] ++ [181, mode] ++ b3) rfl O3.out b4 _ (by rw [B4.out]; simp; omega) (by rw [l4]; rfl) (by simp [l3, l4]) ?_)
  intro v4 w4 h1 h2 h3
  replace h1 : OwnB w4 w.heap.size v4 hd := by rw [HH.out]; simpa using h1
  have O4 := Lib.hid h1
  have K4 := Lib.hid (K3.out.trans h2)
  clear h1 h2 h3 O3 K3
  go_wp2_with fail
  refine (S1.out v4 w4 K4.out O4.out.sl).mono ?_
  rintro e w5 ⟨rfl, rfl⟩
  go_wp2_with fail
  refine (W1.out v4 w4 O4.out).mono ?_
  rintro e w6 ⟨v6, rfl, h1, h2, h3⟩
  have O6 := Lib.hid h1
  have K6 := Lib.hid (K4.out.trans h2)
  clear h1 h2 h3 O4 K4
  go_wp2_with (at_builtin; refine wp_appv rfl _ _ rfl w.heap.size _ _ rfl O6.out _ c rfl (HC.out.below K6.out) (by rw [l12]; omega) ?_)
  intro v7 w7 h1 h2 h3
  have O7 := Lib.hid h1
  have K7 := Lib.hid (K6.out.trans h2)
  clear h1 h2 h3 O6 K6
  go_wp2_with fail
  refine (SB.out w7 K7.out).mono ?_
  rintro e w8 ⟨rfl, rfl⟩
  go_wp2_with fail
  refine (W2.out v7 w7 (by simpa using O7.out)).mono ?_
  rintro e w9 ⟨v9, rfl, h1, h2, h3⟩
  have O9 := Lib.hid h1
  have K9 := Lib.hid (K7.out.trans h2)
  clear h1 h2 h3 O7 K7
  go_wp2_with fail
  go_ret
  exact ⟨_, rfl, by rw [HF.out]; simpa using O9.out, K9.out, KeepB.below K9.out⟩
def RetStore (w : World) (l : List UInt8) (e : Ending) (w' : World) : Prop := ∃ v, e = .returned (.tuple #[v, .int .i64 0]) ∧ OwnB w' w.heap.size v l ∧ Below w.heap.size w w' ∧ KeepB w w'
set_option maxHeartbeats 800000 in
theorem store_ok (u : Value) (c : List UInt8) (w : World) (hc : SlB w u c) (hlen : c.length ≤ 16777215) (T : Tabs w) : Calls Tryd.prog 23 #[u] w (RetStore w (frameN 1 c.length c)) := by
  have FC := Lib.hid (framed_ok 1 c.length (by omega) u c w hc hlen T)
  obtain ⟨ua, uc, rfl, hun, hcs⟩ := hc
  clear hun hcs T
  have t1 : decide (16777215 < (c.length : Int)) = false := decide_eq_false (by omega)
  generalize frameN 1 c.length c = R at *
  go_enter Tryd.func23, Tryd.ntmps23
  go_wp2_with fail
  refine FC.out.mono ?_
  rintro e w1 ⟨v1, rfl, h1, h2, h3⟩
  have O1 := Lib.hid h1
  have K1 := Lib.hid h2
  clear h1 h2 h3
  go_wp2_with fail
  go_ret2
  exact ⟨_, rfl, O1.out, K1.out, KeepB.below K1.out⟩
set_option maxHeartbeats 800000 in
theorem store_big (u : Value) (c : List UInt8) (w : World) (hc : SlB w u c) (hlen : 16777215 < c.length) (h2 : c.length ≤ 140737488355328) : Calls Tryd.prog 23 #[u] w (Same w (.tuple #[.slice none 0 0, .int .i64 61])) := by
  obtain ⟨ua, uc, rfl, hun, hcs⟩ := hc
  clear hun hcs
  have t1 : decide (16777215 < (c.length : Int)) = true := decide_eq_true (by omega)
  go_enter Tryd.func23, Tryd.ntmps23
  go_wp2_with fail
  go_ret2
  exact ⟨rfl, rfl⟩
end Go.Proofs.YtfbeipfpkikakaaDoor
