/- The document's: a number's bytes; a block; Store; Bound. -/
import Derived.Test.YtfbeipfpkikakaaDoorSy
namespace Go.Proofs.YtfbeipfpkikakaaDoor
open Go.RowKit

set_option maxRecDepth 100000
def e8 (n j : Nat) : UInt8 := UInt8.ofNat (n / 256 ^ j % 256)
def LN (N n k : Nat) : List Value := (List.range N).map fun j => .int .u8 (if N - k ≤ j then ((e8 n (N - 1 - j)).toNat : Int) else 0)
theorem LN_set (N n k : Nat) (h : k < N) : (LN N n k).set (N - 1 - k) (.int .u8 ((e8 n k).toNat : Int)) = LN N n (k + 1) := by
  unfold LN
  apply List.ext_getElem
  · simp
  · intro i h1 h2
    simp only [List.length_set, List.length_map, List.length_range] at h1
    rw [List.getElem_set]
    simp only [List.getElem_map, List.getElem_range]
    by_cases e : N - 1 - k = i
    · subst e
      rw [if_pos rfl, if_pos (by omega), show N - 1 - (N - 1 - k) = k by omega]
    · rw [if_neg e]
      by_cases e2 : N - k ≤ i
      · rw [if_pos e2, if_pos (by omega)]
      · rw [if_neg e2, if_neg (by omega)]
/-- A number's N bytes, the highest first. -/
def bigN (N n : Nat) : List UInt8 := (List.range N).map fun j => e8 n (N - 1 - j)
theorem bigN_len (N n : Nat) : (bigN N n).length = N := by simp [bigN]
theorem LN_end (N n : Nat) : LN N n N = byV (bigN N n) := by
  unfold LN byV bigN
  rw [List.map_map]
  apply List.map_congr_left
  intro j hj
  show Value.int .u8 (if N - N ≤ j then ((e8 n (N - 1 - j)).toNat : Int) else 0) = Value.int .u8 ((e8 n (N - 1 - j)).toNat : Int)
  rw [if_pos (by omega)]
theorem ofNat_mod (x : Nat) : UInt8.ofNat (x % 256) = UInt8.ofNat x := by
  apply UInt8.toNat_inj.1
  rw [UInt8.toNat_ofNat', UInt8.toNat_ofNat']
  omega
theorem bigN3 (n : Nat) : bigN 3 n = big3 n := by
  show [e8 n 2, e8 n 1, e8 n 0] = _
  unfold e8 big3
  rw [show n / 256 ^ 2 % 256 = n / 65536 % 256 by omega, show n / 256 ^ 1 % 256 = n / 256 % 256 by omega, show n / 256 ^ 0 % 256 = n % 256 by omega]
theorem bigN4 (n : Nat) (h : n < 2 ^ 32) : bigN 4 n = big4 n := by
  show [e8 n 3, e8 n 2, e8 n 1, e8 n 0] = _
  unfold e8 big4
  rw [show n / 256 ^ 3 % 256 = n / 16777216 by omega, show n / 256 ^ 2 % 256 = n / 65536 % 256 by omega, show n / 256 ^ 1 % 256 = n / 256 % 256 by omega, show n / 256 ^ 0 % 256 = n % 256 by omega]
def RetSl (w : World) (l : List UInt8) (e : Ending) (w' : World) : Prop := ∃ v, e = .returned v ∧ SlB w' v l ∧ Below w.heap.size w w'
def BgRel (w : World) (N n : Nat) (x i : Value) (wr : World) : Prop :=
  ∃ k : Nat, k ≤ N ∧ i = .int .i64 ((N : Int) - 1 - (k : Int)) ∧ x = .int .i64 ((n / 256 ^ k : Nat) : Int) ∧ CellsAt wr w.heap.size (LN N n k) ∧ Below w.heap.size w wr
set_option maxHeartbeats 1600000 in
theorem big_ok (N : Nat) (hN4 : N = 3 ∨ N = 4) (n : Nat) (hn : n < 2 ^ 62) (w : World) : Calls Tryd.prog 49 #[.int .i64 n, .int .i64 N] w (RetSl w (bigN N n)) := by
  have HN := Lib.hid hn
  have h1 : 1 ≤ N ∧ N ≤ 8 := by omega
  clear hn
  obtain ⟨i0, hi, hz0, hz1, hz2⟩ := info_parts info5
  have Hi := Lib.hid hi
  have Hz0 := Lib.hid hz0
  have Hz1 := Lib.hid hz1
  have Hz2 := Lib.hid hz2
  clear hi hz0 hz1 hz2
  have E0 := Lib.hid (show (madeCells #[Value.int .u8 0] N).toList = LN N n 0 by
    rcases hN4 with rfl | rfl <;> (unfold LN; simp [madeCells, List.range, List.range.loop, Value.cells]))
  clear hN4
  go_enter Tryd.func49, Tryd.ntmps49
  go_wp2_with (refine wpList_make_full w rfl _ _ 23 rfl w.heap.size 5 i0 (.int .u8 0) 1 Tryd.underlying23 Hi.out Hz0.out Hz1.out .i64 .i64 N N N rfl rfl rfl rfl (by rw [Hz2.out]; omega) (by unfold maxLen; omega) (Nat.le_refl _) ?_)
  intro w1 hown hgrow
  have hb1 : Below w.heap.size w w1 := (Below.refl _ _).grown hgrow (Nat.le_refl _) (fun k hk => by cases hk)
  have hg := hown.lt w.heap.size rfl
  have hc := hown.cells (g := w.heap.size) rfl
  have C0 : CellsAt w1 w.heap.size (LN N n 0) := by
    refine ⟨hg.2, fun j v hv => ?_, fun j => hown.frozenAt j⟩
    have := hc j v (by rw [E0.out]; exact hv)
    rw [add_plain, Nat.zero_add] at this
    exact this
  have HC0 := Lib.hid C0
  have HB1 := Lib.hid hb1
  clear hown hgrow hb1 hg hc C0
  go_wp2_with fail
  go_loopw [0, 6] (fun x i wr => BgRel w N n x i wr) (fun _ i _ => (intOf i + 1).toNat)
  case atStart => exact ⟨0, by omega, by go_num, by rw [Nat.pow_zero, Nat.div_one], HC0.out, HB1.out⟩
  case round =>
    obtain ⟨k, hk, rfl, rfl, hcs, hbl⟩ := hrel
    have HC := Lib.hid hcs
    have HB := Lib.hid hbl
    clear hcs hbl
    by_cases h8 : k < N
    · obtain ⟨m, hm⟩ : ∃ m, m = N - 1 - k := ⟨_, rfl⟩
      have im : (N : Int) - 1 - (k : Int) = (m : Int) := by omega
      have hm8 : m < N := by omega
      have y0 := (e8 n k).toNat_lt
      have c0 := HC.out.cell m (.int .u8 0) (by
        unfold LN
        rw [List.getElem?_map, List.getElem?_range hm8]
        show some (Value.int .u8 (if N - k ≤ m then _ else 0)) = _
        rw [if_neg (by omega)])
      have f0 := HC.out.free m
      have NC := Lib.hid (show CellsAt (wr.setCell ⟨w.heap.size, m, none⟩ (.int .u8 ((e8 n k).toNat : Int))) w.heap.size (LN N n (k + 1)) by
        have := HC.out.set m (.int .u8 ((e8 n k).toNat : Int)) (by unfold LN; simpa using hm8)
        rw [hm, LN_set N n k h8, ← hm] at this
        exact this)
      have NB := Lib.hid (HB.out.setCell (p := ⟨w.heap.size, m, none⟩) (Nat.le_refl _) (.int .u8 ((e8 n k).toNat : Int)))
      have ey : ((n / 256 ^ k : Nat) : Int) % 256 = ((e8 n k).toNat : Int) := by
        unfold e8
        rw [UInt8.toNat_ofNat', Nat.mod_mod_of_dvd _ (by decide)]
        omega
      have eq : ((n / 256 ^ k : Nat) : Int) / 256 = ((n / 256 ^ (k + 1) : Nat) : Int) := by
        rw [Nat.pow_succ, ← Nat.div_div_eq_div_mul]; omega
      have EQ := Lib.hid eq
      have xn : n / 256 ^ k ≤ n := Nat.div_le_self _ _
      have x62 : n / 256 ^ k < 4611686018427387904 := Nat.lt_of_le_of_lt xn HN.out
      generalize (e8 n k).toNat = y at *
      generalize n / 256 ^ k = x at *
      generalize hx2 : n / 256 ^ (k + 1) = x2 at *
      have HX2 := Lib.hid hx2
      clear hx2 xn
      clear eq
      have eq := EQ.out
      have ip : (m : Int) - 1 = (N : Int) - 1 - ((k : Int) + 1) := by omega
      have IP := Lib.hid ip
      have hlm := Lib.hid (show ((m : Int) - 1 + 1).toNat < ((m : Int) + 1).toNat by omega)
      clear ip hm
      rw [im]
      clear im
      have KR := Lib.hid (show BgRel w N n (.int .i64 (x2 : Int)) (.int .i64 ((m : Int) - 1)) (wr.setCell ⟨w.heap.size, m, none⟩ (.int .u8 (y : Int))) from
        ⟨k + 1, by omega, by rw [IP.out]; rfl, by rw [HX2.out], NC.out, NB.out⟩)
      clear h8 hk
      go_wp2_with fail
      exact ⟨KR.out, by simp [intOf] <;> omega⟩
    · obtain rfl : k = N := by omega
      have im : (k : Int) - 1 - (k : Int) = -1 := by omega
      rw [im]
      have HE := Lib.hid (LN_end k n)
      have HL := Lib.hid (bigN_len k n)
      generalize n / 256 ^ k = x at *
      clear im
      go_wp2_with fail
      go_ret
      refine ⟨_, rfl, ⟨some ⟨w.heap.size, 0, none⟩, k, by rw [HL.out]; rfl, (fun e => by cases e), Or.inr ⟨w.heap.size, 0, rfl, HC.out.lt, fun j u hu => ?_⟩⟩, HB.out⟩
      rw [Nat.zero_add]
      exact HC.out.cell j _ (by rw [HE.out]; unfold byV; rw [List.getElem?_map, hu]; rfl)
set_option maxHeartbeats 800000 in
theorem refBound_ok (n : Int) (h : -9223372036854775808 ≤ n ∧ n ≤ 9223372036854775807) (w : World) : Calls Tryd.prog 27 #[.int .i64 n] w (Same w (.int .i64 (if n < 0 ∨ 16777215 < n then 0 else n + 16))) := by
  by_cases h1 : n < 0
  · rw [if_pos (Or.inl h1)]
    have t1 : decide (n < 0) = true := decide_eq_true h1
    go_enter Tryd.func27, Tryd.ntmps27
    go_wp2_with fail
    go_ret
    exact ⟨rfl, rfl⟩
  · have t1 : decide (n < 0) = false := decide_eq_false h1
    by_cases h2 : 16777215 < n
    · rw [if_pos (Or.inr h2)]
      have t2 : decide (16777215 < n) = true := decide_eq_true h2
      go_enter Tryd.func27, Tryd.ntmps27
      go_wp2_with fail
      go_ret
      exact ⟨rfl, rfl⟩
    · rw [if_neg (by omega)]
      have t2 : decide (16777215 < n) = false := decide_eq_false h2
      go_enter Tryd.func27, Tryd.ntmps27
      go_wp2_with fail
      go_ret
      exact ⟨rfl, rfl⟩
theorem OwnB.lit (w : World) (l : List UInt8) (cs : Array Value) (hcs : cs.toList = byV l) (hl : l.length ≤ 1048576) : OwnB (w.alloc (.cells cs 5)) w.heap.size (.slice (some ⟨w.heap.size, 0, none⟩) l.length l.length) l := by
  refine ⟨?_, by simp⟩
  have := World.ownsRow_lit (base := w.heap.size) (e := 5) (size := 1) w cs l.length (Nat.le_refl _) (by unfold maxLen; omega) (by rw [← Array.length_toList, hcs, byV_len]; omega)
  rw [hcs] at this
  exact this
set_option maxHeartbeats 1600000 in
theorem block_ok (mode : UInt8) (raw : Nat) (hr : raw ≤ 16777215) (u : Value) (c : List UInt8) (w : World) (hc : SlB w u c) (hlen : c.length ≤ 16777215) :
    Calls Tryd.prog 38 #[.int .u8 mode.toNat, .int .i64 raw, u] w (RetOwn w.heap.size w (frameN mode raw c)) := by
  have HC := Lib.hid hc
  clear hc
  have hr1 := hr
  obtain ⟨ua, uc, rfl, hun, hcs⟩ := HC.out
  clear hun hcs
  have lh : (headN mode raw c.length).length = 8 := rfl
  have sh : sumN (headN mode raw c.length) < 2 ^ 32 := sumMoreN_lt (by decide) _
  have sc : sumN c < 2 ^ 32 := sumMoreN_lt (by decide) _
  have SB := Lib.hid (fun (W : World) (k : Below w.heap.size w W) => refSum_ok (.slice ua c.length uc) c W (by omega) (HC.out.below k))
  have S1 := Lib.hid (fun (v : Value) (W : World) (o : SlB W v (headN mode raw c.length)) => refSum_ok v _ W (by show 8 ≤ _; omega) o)
  have G1 := Lib.hid (fun (W : World) => big_ok 3 (Or.inl rfl) raw (by omega) W)
  have G2 := Lib.hid (fun (W : World) => big_ok 3 (Or.inl rfl) c.length (by omega) W)
  have G3 := Lib.hid (fun (W : World) => big_ok 4 (Or.inr rfl) (sumN (headN mode raw c.length)) (by omega) W)
  have G4 := Lib.hid (fun (W : World) => big_ok 4 (Or.inr rfl) (sumN c) (by omega) W)
  rw [bigN3] at G1 G2
  rw [bigN4 _ sh] at G3
  rw [bigN4 _ sc] at G4
  have HF := Lib.hid (show frameN mode raw c = ((headN mode raw c.length ++ big4 (sumN (headN mode raw c.length))) ++ c) ++ big4 (sumN c) from rfl)
  have HH := Lib.hid (show headN mode raw c.length = ([181, mode] ++ big3 raw) ++ big3 c.length from rfl)
  have l1 : (big4 (sumN (headN mode raw c.length))).length = 4 := rfl
  have l2 : (big4 (sumN c)).length = 4 := rfl
  have l3 : (big3 raw).length = 3 := rfl
  have l4 : (big3 c.length).length = 3 := rfl
  generalize frameN mode raw c = R at *
  generalize headN mode raw c.length = hd at *
  generalize big4 (sumN hd) = b1 at *
  generalize big4 (sumN c) = b2 at *
  generalize sumN hd = s1 at *
  generalize sumN c = s2 at *
  generalize big3 raw = b3 at *
  generalize big3 c.length = b4 at *
  go_enter Tryd.func38, Tryd.ntmps38
  go_wp2_with fail
  have O1 := Lib.hid (OwnB.lit w [181, mode] #[.int .u8 181, .int .u8 mode.toNat] (by simp [byV]) (by simp))
  have K1 := Lib.hid (below_alloc w (Obj.cells #[.int .u8 181, .int .u8 mode.toNat] 5))
  generalize w.alloc (Obj.cells #[.int .u8 181, .int .u8 mode.toNat] 5) = w1 at *
  refine (G1.out _).mono ?_
  rintro e w2a ⟨v2a, rfl, hs, hb⟩
  have K2a := Lib.hid (K1.out.trans (hb.mono K1.out.size))
  have S2a := Lib.hid hs
  have O2a := Lib.hid (O1.out.below hb)
  clear hs hb O1 K1
  go_wp2_with (at_builtin; refine wp_appv rfl _ _ rfl w.heap.size _ _ rfl O2a.out _ _ rfl S2a.out (by simp [l3] <;> omega) ?_)
  intro v2 w2 h1 h2 h3
  have O2 := Lib.hid h1
  have K2 := Lib.hid (K2a.out.trans h2)
  clear h1 h2 h3 O2a K2a S2a
  go_wp2_with fail
  refine (G2.out _).mono ?_
  rintro e w3a ⟨v3a, rfl, hs, hb⟩
  have K3a := Lib.hid (K2.out.trans (hb.mono K2.out.size))
  have S3a := Lib.hid hs
  have O3a := Lib.hid (O2.out.below hb)
  clear hs hb O2 K2
  go_wp2_with (at_builtin; refine wp_appv rfl _ _ rfl w.heap.size _ _ rfl O3a.out _ _ rfl S3a.out (by simp [l3, l4] <;> omega) ?_)
  intro v3 w3 h1 h2 h3
  have O3 := Lib.hid h1
  have K3 := Lib.hid (K3a.out.trans h2)
  clear h1 h2 h3 O3a K3a S3a
  replace O3 := Lib.hid (show OwnB w3 w.heap.size v3 hd by rw [HH.out]; simpa using O3.out)
  go_wp2_with fail
  refine (S1.out v3 w3 O3.out.sl).mono ?_
  rintro e w4 ⟨rfl, rfl⟩
  go_wp2_with fail
  refine (G3.out _).mono ?_
  rintro e w5a ⟨v5a, rfl, hs, hb⟩
  have K5a := Lib.hid (K3.out.trans (hb.mono K3.out.size))
  have S5a := Lib.hid hs
  have O5a := Lib.hid (O3.out.below hb)
  clear hs hb O3 K3
  go_wp2_with (at_builtin; refine wp_appv rfl _ _ rfl w.heap.size _ _ rfl O5a.out _ _ rfl S5a.out (by simp [l1, lh] <;> omega) ?_)
  intro v5 w5 h1 h2 h3
  have O5 := Lib.hid h1
  have K5 := Lib.hid (K5a.out.trans h2)
  clear h1 h2 h3 O5a K5a S5a
  go_wp2_with (at_builtin; refine wp_appv rfl _ _ rfl w.heap.size _ _ rfl O5.out _ c rfl (HC.out.below K5.out) (by simp [l1, lh] <;> omega) ?_)
  intro v6 w6 h1 h2 h3
  have O6 := Lib.hid h1
  have K6 := Lib.hid (K5.out.trans h2)
  clear h1 h2 h3 O5 K5
  go_wp2_with fail
  refine (SB.out w6 K6.out).mono ?_
  rintro e w7 ⟨rfl, rfl⟩
  go_wp2_with fail
  refine (G4.out _).mono ?_
  rintro e w8a ⟨v8a, rfl, hs, hb⟩
  have K8a := Lib.hid (K6.out.trans (hb.mono K6.out.size))
  have S8a := Lib.hid hs
  have O8a := Lib.hid (O6.out.below hb)
  clear hs hb O6 K6
  go_wp2_with (at_builtin; refine wp_appv rfl _ _ rfl w.heap.size _ _ rfl O8a.out _ _ rfl S8a.out (by simp [l1, l2, lh] <;> omega) ?_)
  intro v8 w8 h1 h2 h3
  have O8 := Lib.hid h1
  have K8 := Lib.hid (K8a.out.trans h2)
  clear h1 h2 h3 O8a K8a S8a
  go_wp2_with fail
  go_ret
  exact ⟨_, rfl, by rw [HF.out]; simpa using O8.out, K8.out, KeepB.below K8.out⟩
end Go.Proofs.YtfbeipfpkikakaaDoor
