/- Store, the program's and the document's; same. -/
import Derived.Test.YtfbeipfpkikakaaDoorBg
namespace Go.Proofs.YtfbeipfpkikakaaDoor
open Go.RowKit

set_option maxRecDepth 100000
set_option maxHeartbeats 800000 in
theorem refStore_ok (u : Value) (c : List UInt8) (w : World) (hc : SlB w u c) (hlen : c.length ≤ 16777215) : Calls Tryd.prog 24 #[u] w (RetStore w (frameN 1 c.length c)) := by
  have FC := Lib.hid (block_ok 1 c.length (by omega) u c w hc hlen)
  obtain ⟨ua, uc, rfl, hun, hcs⟩ := hc
  clear hun hcs
  have t1 : decide (16777215 < (c.length : Int)) = false := decide_eq_false (by omega)
  generalize frameN 1 c.length c = R at *
  go_enter Tryd.func24, Tryd.ntmps24
  go_wp2_with fail
  refine FC.out.mono ?_
  rintro e w1 ⟨v1, rfl, h1, h2, h3⟩
  have O1 := Lib.hid h1
  have K1 := Lib.hid h2
  clear h1 h2 h3
  go_wp2_with fail
  go_ret2
  exact ⟨_, rfl, O1.out, K1.out, KeepB.below K1.out⟩
set_option maxHeartbeats 800000 in
theorem refStore_big (u : Value) (c : List UInt8) (w : World) (hc : SlB w u c) (hlen : 16777215 < c.length) (h2 : c.length ≤ 140737488355328) : Calls Tryd.prog 24 #[u] w (Same w (.tuple #[.slice none 0 0, .int .i64 61])) := by
  obtain ⟨ua, uc, rfl, hun, hcs⟩ := hc
  clear hun hcs
  have t1 : decide (16777215 < (c.length : Int)) = true := decide_eq_true (by omega)
  go_enter Tryd.func24, Tryd.ntmps24
  go_wp2_with fail
  go_ret2
  exact ⟨rfl, rfl⟩
theorem num_ok (n : Int) (h : -9223372036854775808 ≤ n ∧ n ≤ 9223372036854775807) (w : World) : Calls Tryd.prog 16 #[.int .i64 n] w (Same w (.int .i64 n)) := by
  go_enter Tryd.func16, Tryd.ntmps16
  go_wp2_with fail
  go_ret
  exact ⟨rfl, rfl⟩
theorem SlB.text {w : World} {v : Value} {l : List UInt8} (h : SlB w v l) : (convert 23 9 v).run Tryd.prog w = .ok (.string (bs l)) w := by
  obtain ⟨a, c, rfl, hn, hcs⟩ := h
  cases a with
  | none =>
    obtain rfl := hn rfl
    rcases hcs with rfl | ⟨b, off, hb, _⟩
    · rw [run_convert_bytes_string w 23 9 5 none _ 0 Tryd.underlying23 Tryd.underlying5 Tryd.underlying9]
      rfl
    · cases hb
  | some ad =>
    have key : ∀ j (hj : j < l.length), w.cell? (ad.add j) = some (.int .u8 l[j].toNat) := by
      intro j hj
      rcases hcs with rfl | ⟨b, off, hb, _, hcell⟩
      · cases hj
      · cases hb
        rw [add_plain]
        exact hcell j _ (List.getElem?_eq_getElem hj)
    exact run_convert_bytes_back w 23 9 5 ad c l Tryd.underlying23 Tryd.underlying5 Tryd.underlying9 key
set_option maxHeartbeats 800000 in
theorem same_ok (u v : Value) (l : List UInt8) (w : World) (h1 : SlB w u l) (h2 : SlB w v l) : Calls Tryd.prog 25 #[u, v] w (Same w (.bool true)) := by
  have e1 := h1.text
  have e2 := h2.text
  obtain ⟨a1, c1, rfl, _, _⟩ := h1
  obtain ⟨a2, c2, rfl, _, _⟩ := h2
  generalize bs l = s at *
  generalize l.length = n at *
  go_enter Tryd.func25, Tryd.ntmps25
  go_wp2_with fail
  go_ret
  exact ⟨rfl, rfl⟩
/-- What is still to be shown: alive() holds. -/
def AliveOk : Prop := ∀ W, Tabs W → Calls Tryd.prog 13 #[] W (RetBelow W (.bool true))
set_option maxHeartbeats 1600000 in
theorem stores_card (AL : AliveOk) (u : Value) (c : List UInt8) (n : Int) (hn : -9223372036854775808 ≤ n ∧ n ≤ 9223372036854775807) (w : World) (hc : SlB w u c) (hlen : c.length ≤ 140737488355328) (T : Tabs w) : Calls Tryd.prog 8 #[u, .int .i64 n] w (RetBelow w (.bool true)) := by
  have AC := Lib.hid (fun (W : World) (k : Below w.heap.size w W) => AL W (T.below k))
  have TW := Lib.hid (twin_ok u c w hc hlen)
  have HC := Lib.hid (fun (W : World) (k : Below w.heap.size w W) => hc.below k)
  have HT := Lib.hid T
  have P1 := Lib.hid (fun W => bound_ok n hn W)
  have P2 := Lib.hid (fun W => refBound_ok n hn W)
  have Q1 := Lib.hid (fun W => bound_ok c.length (by omega) W)
  have Q2 := Lib.hid (fun W => refBound_ok c.length (by omega) W)
  have N0 := Lib.hid (fun W => num_ok 0 (by omega) W)
  have N61 := Lib.hid (fun W => num_ok 61 (by omega) W)
  obtain ⟨ua, uc, rfl, hun, hcs⟩ := hc
  clear hun hcs T
  generalize (if n < 0 ∨ 16777215 < n then 0 else n + 16 : Int) = bn at *
  generalize (if (c.length : Int) < 0 ∨ 16777215 < (c.length : Int) then 0 else (c.length : Int) + 16 : Int) = bl at *
  by_cases hb : c.length ≤ 16777215
  · have S1 := Lib.hid (fun (v : Value) (W : World) (k : Below w.heap.size w W) (h : SlB W v c) => store_ok v c W h hb (HT.out.below k))
    have S2 := Lib.hid (fun (W : World) (k : Below w.heap.size w W) => refStore_ok _ c W (HC.out W k) hb)
    generalize frameN 1 c.length c = R at *
    go_enter Tryd.func8, Tryd.ntmps8
    go_wp2_with fail
    refine TW.out.mono ?_
    rintro e w1 ⟨v1, rfl, h1, h2, _⟩
    have O1 := Lib.hid h1
    have K1 := Lib.hid h2
    clear h1 h2
    go_wp2_with fail
    refine (S1.out v1 w1 K1.out O1.out.sl).mono ?_
    rintro e w2 ⟨v2, rfl, h1, h2, _⟩
    have O2 := Lib.hid h1
    have K2 := Lib.hid (K1.out.trans (h2.mono K1.out.size))
    clear h1 h2 O1 K1
    go_wp2_with fail
    refine (S2.out w2 K2.out).mono ?_
    rintro e w3 ⟨v3, rfl, h1, h2, _⟩
    have E3 := Lib.hid (O2.out.sl.below h2)
    have O3 := Lib.hid h1.sl
    have K3 := Lib.hid (K2.out.trans (h2.mono K2.out.size))
    clear h1 h2 O2 K2
    go_wp2_with fail
    refine (same_ok _ _ _ _ E3.out O3.out).mono ?_
    rintro e w4 ⟨rfl, rfl⟩
    go_wp2_with fail
    refine (N0.out _).mono ?_
    rintro e w5 ⟨rfl, rfl⟩
    go_wp2_with fail
    refine (P1.out _).mono ?_
    rintro e w6 ⟨rfl, rfl⟩
    go_wp2_with fail
    refine (P2.out _).mono ?_
    rintro e w7 ⟨rfl, rfl⟩
    go_wp2_with fail
    refine (Q1.out _).mono ?_
    rintro e w8 ⟨rfl, rfl⟩
    go_wp2_with fail
    refine (Q2.out _).mono ?_
    rintro e w9 ⟨rfl, rfl⟩
    go_wp2_with fail
    refine (AC.out _ K3.out).mono ?_
    rintro e w10 ⟨rfl, hz⟩
    have KZ := Lib.hid (K3.out.trans (hz.mono K3.out.size))
    clear hz
    go_wp2_with fail
    go_ret
    exact ⟨rfl, KZ.out⟩
  · have S1 := Lib.hid (fun (v : Value) (W : World) (h : SlB W v c) => store_big v c W h (by omega) hlen)
    have S2 := Lib.hid (fun (W : World) (k : Below w.heap.size w W) => refStore_big _ c W (HC.out W k) (by omega) hlen)
    go_enter Tryd.func8, Tryd.ntmps8
    go_wp2_with fail
    refine TW.out.mono ?_
    rintro e w1 ⟨v1, rfl, h1, h2, _⟩
    have O1 := Lib.hid h1
    have K3 := Lib.hid h2
    clear h1 h2
    go_wp2_with fail
    refine (S1.out v1 w1 O1.out.sl).mono ?_
    rintro e w2 ⟨rfl, rfl⟩
    go_wp2_with fail
    refine (S2.out w1 K3.out).mono ?_
    rintro e w3 ⟨rfl, rfl⟩
    go_wp2_with fail
    refine (same_ok _ _ _ _ (SlB.nil _) (SlB.nil _)).mono ?_
    rintro e w4 ⟨rfl, rfl⟩
    go_wp2_with fail
    refine (N61.out _).mono ?_
    rintro e w5 ⟨rfl, rfl⟩
    go_wp2_with fail
    refine (P1.out _).mono ?_
    rintro e w6 ⟨rfl, rfl⟩
    go_wp2_with fail
    refine (P2.out _).mono ?_
    rintro e w7 ⟨rfl, rfl⟩
    go_wp2_with fail
    refine (Q1.out _).mono ?_
    rintro e w8 ⟨rfl, rfl⟩
    go_wp2_with fail
    refine (Q2.out _).mono ?_
    rintro e w9 ⟨rfl, rfl⟩
    go_wp2_with fail
    refine (AC.out _ K3.out).mono ?_
    rintro e w10 ⟨rfl, hz⟩
    have KZ := Lib.hid (K3.out.trans (hz.mono K3.out.size))
    clear hz
    go_wp2_with fail
    go_ret
    exact ⟨rfl, KZ.out⟩
set_option maxHeartbeats 1600000 in
theorem sums_card (AL : AliveOk) (u : Value) (c : List UInt8) (w : World) (hc : SlB w u c) (hlen : c.length ≤ 140737488355328) (T : Tabs w) : Calls Tryd.prog 5 #[u] w (RetBelow w (.bool true)) := by
  have AC := Lib.hid (fun (W : World) (k : Below w.heap.size w W) => AL W (T.below k))
  have TW := Lib.hid (fun (W : World) (k : Below w.heap.size w W) => twin_ok u c W (hc.below k) hlen)
  have S1 := Lib.hid (fun (v : Value) (W : World) (k : Below w.heap.size w W) (h : SlB W v c) => sum_ok v c W hlen h (T.below k))
  have S2 := Lib.hid (fun (W : World) (k : Below w.heap.size w W) => refSum_ok u c W hlen (hc.below k))
  have H1 := Lib.hid (fun (v : Value) (W : World) (h : SlB W v c) => hash_ok v c W hlen h)
  have H2 := Lib.hid (fun (W : World) (k : Below w.heap.size w W) => refHash_ok u c W hlen (hc.below k))
  obtain ⟨ua, uc, rfl, hun, hcs⟩ := hc
  clear hun hcs T
  generalize sumN c = s at *
  generalize hashN c = h at *
  go_enter Tryd.func5, Tryd.ntmps5
  go_wp2_with fail
  refine (TW.out w (Below.refl _ _)).mono ?_
  rintro e w1 ⟨v1, rfl, h1, h2, _⟩
  have O1 := Lib.hid h1
  have K1 := Lib.hid h2
  clear h1 h2
  go_wp2_with fail
  refine (S1.out v1 w1 K1.out O1.out.sl).mono ?_
  rintro e w2 ⟨rfl, rfl⟩
  go_wp2_with fail
  refine (S2.out w1 K1.out).mono ?_
  rintro e w2 ⟨rfl, rfl⟩
  go_wp2_with fail
  refine (TW.out w1 K1.out).mono ?_
  rintro e w2 ⟨v2, rfl, h1, h2, _⟩
  have O2 := Lib.hid h1
  have K2 := Lib.hid (K1.out.trans (h2.mono K1.out.size))
  clear h1 h2
  go_wp2_with fail
  refine (H1.out v2 w2 O2.out.sl).mono ?_
  rintro e w3 ⟨rfl, rfl⟩
  go_wp2_with fail
  refine (H2.out w2 K2.out).mono ?_
  rintro e w3 ⟨rfl, rfl⟩
  go_wp2_with fail
  refine (AC.out _ K2.out).mono ?_
  rintro e w4 ⟨rfl, hz⟩
  have KZ := Lib.hid (K2.out.trans (hz.mono K2.out.size))
  clear hz
  go_wp2_with fail
  go_ret
  exact ⟨rfl, KZ.out⟩
set_option maxHeartbeats 1600000 in
theorem more_card (AL : AliveOk) (s : Nat) (hs : s < 2 ^ 32) (u v : Value) (a b : List UInt8) (w : World) (ha : SlB w u a) (hb : SlB w v b) (hlen : a.length + b.length ≤ 140737488355328) (T : Tabs w) : Calls Tryd.prog 3 #[.int .u32 s, u, v] w (RetBelow w (.bool true)) := by
  have AC := Lib.hid (fun (W : World) (k : Below w.heap.size w W) => AL W (T.below k))
  have TA := Lib.hid (fun (W : World) (k : Below w.heap.size w W) => twin_ok u a W (ha.below k) (by omega))
  have TB := Lib.hid (fun (W : World) (k : Below w.heap.size w W) => twin_ok v b W (hb.below k) (by omega))
  have HBB := Lib.hid (fun (W : World) (k : Below w.heap.size w W) => hb.below k)
  have M1 := Lib.hid (fun (x : Value) (W : World) (k : Below w.heap.size w W) (h : SlB W x b) => sumMore_ok s hs x b W (by omega) h (T.below k))
  have M2 := Lib.hid (fun (W : World) (k : Below w.heap.size w W) => refSumMore_ok s hs v b W (by omega) (hb.below k))
  have SA := Lib.hid (fun (x : Value) (W : World) (k : Below w.heap.size w W) (h : SlB W x a) => sum_ok x a W (by omega) h (T.below k))
  have MA := Lib.hid (fun (x : Value) (W : World) (k : Below w.heap.size w W) (h : SlB W x b) => sumMore_ok (sumN a) (sumMoreN_lt (by decide) _) x b W (by omega) h (T.below k))
  have SC := Lib.hid (fun (x : Value) (W : World) (k : Below w.heap.size w W) (h : SlB W x (a ++ b)) => sum_ok x (a ++ b) W (by rw [List.length_append]; omega) h (T.below k))
  rw [sum_more] at MA
  obtain ⟨va, vc, rfl, hun, hcs⟩ := hb
  clear hun hcs
  obtain ⟨ua, uc, rfl, hun, hcs⟩ := ha
  clear hun hcs T
  generalize sumMoreN s b = m at *
  generalize sumN (a ++ b) = s3 at *
  generalize sumN a = s1 at *
  go_enter Tryd.func3, Tryd.ntmps3
  go_wp2_with fail
  refine (TA.out w (Below.refl _ _)).mono ?_
  rintro e w1 ⟨v1, rfl, h1, h2, _⟩
  have O1 := Lib.hid h1
  have K1 := Lib.hid h2
  clear h1 h2
  go_wp2_with (at_builtin; refine wp_appv rfl _ _ rfl w.heap.size _ _ rfl O1.out _ b rfl (HBB.out _ K1.out) hlen ?_)
  intro v2 w2 h1 h2 h3
  have O2 := Lib.hid h1
  have K2 := Lib.hid (K1.out.trans h2)
  clear h1 h2 h3
  go_wp2_with fail
  refine (TB.out w2 K2.out).mono ?_
  rintro e w3 ⟨v3, rfl, h1, h2, _⟩
  have O3 := Lib.hid h1
  have D3 := Lib.hid (O2.out.sl.below h2)
  have K3 := Lib.hid (K2.out.trans (h2.mono K2.out.size))
  clear h1 h2
  go_wp2_with fail
  refine (M1.out v3 w3 K3.out O3.out.sl).mono ?_
  rintro e w4 ⟨rfl, rfl⟩
  go_wp2_with fail
  refine (M2.out w3 K3.out).mono ?_
  rintro e w4 ⟨rfl, rfl⟩
  go_wp2_with fail
  refine (TA.out w3 K3.out).mono ?_
  rintro e w4 ⟨v4, rfl, h1, h2, _⟩
  have O4 := Lib.hid h1
  have D4 := Lib.hid (D3.out.below h2)
  have K4 := Lib.hid (K3.out.trans (h2.mono K3.out.size))
  clear h1 h2
  go_wp2_with fail
  refine (SA.out v4 w4 K4.out O4.out.sl).mono ?_
  rintro e w5 ⟨rfl, rfl⟩
  go_wp2_with fail
  refine (TB.out w4 K4.out).mono ?_
  rintro e w5 ⟨v5, rfl, h1, h2, _⟩
  have O5 := Lib.hid h1
  have D5 := Lib.hid (D4.out.below h2)
  have K5 := Lib.hid (K4.out.trans (h2.mono K4.out.size))
  clear h1 h2
  go_wp2_with fail
  refine (MA.out v5 w5 K5.out O5.out.sl).mono ?_
  rintro e w6 ⟨rfl, rfl⟩
  go_wp2_with fail
  refine (SC.out v2 w5 K5.out D5.out).mono ?_
  rintro e w6 ⟨rfl, rfl⟩
  go_wp2_with fail
  refine (AC.out _ K5.out).mono ?_
  rintro e w7 ⟨rfl, hz⟩
  have KZ := Lib.hid (K5.out.trans (hz.mono K5.out.size))
  clear hz
  go_wp2_with fail
  go_ret
  exact ⟨rfl, KZ.out⟩
end Go.Proofs.YtfbeipfpkikakaaDoor
