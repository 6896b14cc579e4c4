/- The document's small functions: bytes joined, numbers as bytes and back. -/
import Derived.Test.YtlbekgcfafofdaaDoorEc
namespace Go.Proofs.YtlbekgcfafofdaaDoor
open Go.RowKit
set_option maxRecDepth 100000

def e8 (n j : Nat) : UInt8 := UInt8.ofNat (n / 256 ^ j % 256)
def LN (N n k : Nat) : List Value := (List.range N).map fun j => .int .u8 (if N - k ≤ j then ((e8 n (N - 1 - j)).toNat : Int) else 0)
theorem LN_set (N n k : Nat) (h : k < N) : (LN N n k).set (N - 1 - k) (.int .u8 ((e8 n k).toNat : Int)) = LN N n (k + 1) := by
  unfold LN
  apply List.ext_getElem
  · simp
  · intro i h1 h2
    simp only [List.length_set, List.length_map, List.length_range] at h1
    rw [List.getElem_set]
    simp only [List.getElem_map, List.getElem_range]
    by_cases e : N - 1 - k = i
    · subst e
      rw [if_pos rfl, if_pos (by omega), show N - 1 - (N - 1 - k) = k by omega]
    · rw [if_neg e]
      by_cases e2 : N - k ≤ i
      · rw [if_pos e2, if_pos (by omega)]
      · rw [if_neg e2, if_neg (by omega)]
/-- A number's N bytes, the highest first. -/
def bigN (N n : Nat) : List UInt8 := (List.range N).map fun j => e8 n (N - 1 - j)
theorem bigN_len (N n : Nat) : (bigN N n).length = N := by simp [bigN]
theorem LN_end (N n : Nat) : LN N n N = byV (bigN N n) := by
  unfold LN byV bigN
  rw [List.map_map]
  apply List.map_congr_left
  intro j hj
  show Value.int .u8 (if N - N ≤ j then ((e8 n (N - 1 - j)).toNat : Int) else 0) = Value.int .u8 ((e8 n (N - 1 - j)).toNat : Int)
  rw [if_pos (by omega)]
theorem ofNat_mod (x : Nat) : UInt8.ofNat (x % 256) = UInt8.ofNat x := by
  apply UInt8.toNat_inj.1
  rw [UInt8.toNat_ofNat', UInt8.toNat_ofNat']
  omega
theorem bigN_be : ∀ N n, bigN N n = be N n
  | 0, _ => rfl
  | N + 1, n => by
    rw [be_cons, ← bigN_be N n]
    unfold bigN
    rw [List.range_succ_eq_map, List.map_cons, List.map_map]
    congr 1
    · show UInt8.ofNat (n / 256 ^ (N + 1 - 1 - 0) % 256) = _
      rw [ofNat_mod]; rfl
    · apply List.map_congr_left
      intro j hj
      show e8 n (N + 1 - 1 - (j + 1)) = e8 n (N - 1 - j)
      congr 1
      omega
def RetSl (w : World) (l : List UInt8) (e : Ending) (w' : World) : Prop := ∃ v, e = .returned v ∧ SlB w' v l ∧ Below w.heap.size w w'
def BgRel (w : World) (N n : Nat) (x i : Value) (wr : World) : Prop :=
  ∃ k : Nat, k ≤ N ∧ i = .int .i64 ((N : Int) - 1 - (k : Int)) ∧ x = .int .u64 ((n / 256 ^ k : Nat) : Int) ∧ CellsAt wr w.heap.size (LN N n k) ∧ Below w.heap.size w wr
set_option maxHeartbeats 1600000 in
theorem big_ok (N : Nat) (hN4 : N = 2 ∨ N = 4 ∨ N = 8) (n : Nat) (hn : n < 18446744073709551616) (w : World) : Calls Tryd.prog 40 #[.int .u64 n, .int .i64 N] w (RetSl w (bigN N n)) := by
  have HN := Lib.hid hn
  have h1 : 1 ≤ N ∧ N ≤ 8 := by omega
  clear hn
  obtain ⟨i0, hi, hz0, hz1, hz2⟩ := info_parts info5
  have Hi := Lib.hid hi
  have Hz0 := Lib.hid hz0
  have Hz1 := Lib.hid hz1
  have Hz2 := Lib.hid hz2
  clear hi hz0 hz1 hz2
  have E0 := Lib.hid (show (madeCells #[Value.int .u8 0] N).toList = LN N n 0 by
    rcases hN4 with rfl | rfl | rfl <;> (unfold LN; simp [madeCells, List.range, List.range.loop]))
  clear hN4
  go_enter Tryd.func40, Tryd.ntmps40
  go_wp2_with (refine wpList_make_full w rfl _ _ 29 rfl w.heap.size 5 i0 (.int .u8 0) 1 Tryd.underlying29 Hi.out Hz0.out Hz1.out .i64 .i64 N N N rfl rfl rfl rfl (by rw [Hz2.out]; omega) (by unfold maxLen; omega) (Nat.le_refl _) ?_)
  intro w1 hown hgrow
  have hb1 : Below w.heap.size w w1 := (Below.refl _ _).grown hgrow (Nat.le_refl _) (fun k hk => by cases hk)
  have hg := hown.lt w.heap.size rfl
  have hc := hown.cells (g := w.heap.size) rfl
  have C0 : CellsAt w1 w.heap.size (LN N n 0) := by
    refine ⟨hg.2, fun j v hv => ?_, fun j => hown.frozenAt j⟩
    have := hc j v (by rw [E0.out]; exact hv)
    rw [add_plain, Nat.zero_add] at this
    exact this
  have HC0 := Lib.hid C0
  have HB1 := Lib.hid hb1
  clear hown hgrow hb1 hg hc C0
  go_wp2_with fail
  go_loopw [0, 6] (fun x i wr => BgRel w N n x i wr) (fun _ i _ => (intOf i + 1).toNat)
  case atStart => exact ⟨0, by omega, by go_num, by rw [Nat.pow_zero, Nat.div_one], HC0.out, HB1.out⟩
  case round =>
    obtain ⟨k, hk, rfl, rfl, hcs, hbl⟩ := hrel
    have HC := Lib.hid hcs
    have HB := Lib.hid hbl
    clear hcs hbl
    by_cases h8 : k < N
    · obtain ⟨m, hm⟩ : ∃ m, m = N - 1 - k := ⟨_, rfl⟩
      have im : (N : Int) - 1 - (k : Int) = (m : Int) := by omega
      have hm8 : m < N := by omega
      have y0 := (e8 n k).toNat_lt
      have c0 := HC.out.cell m (.int .u8 0) (by
        unfold LN
        rw [List.getElem?_map, List.getElem?_range hm8]
        show some (Value.int .u8 (if N - k ≤ m then _ else 0)) = _
        rw [if_neg (by omega)])
      have f0 := HC.out.free m
      have NC := Lib.hid (show CellsAt (wr.setCell ⟨w.heap.size, m, none⟩ (.int .u8 ((e8 n k).toNat : Int))) w.heap.size (LN N n (k + 1)) by
        have := HC.out.set m (.int .u8 ((e8 n k).toNat : Int)) (by unfold LN; simpa using hm8)
        rw [hm, LN_set N n k h8, ← hm] at this
        exact this)
      have NB := Lib.hid (HB.out.setCell (p := ⟨w.heap.size, m, none⟩) (Nat.le_refl _) (.int .u8 ((e8 n k).toNat : Int)))
      have ey : ((n / 256 ^ k : Nat) : Int) % 256 = ((e8 n k).toNat : Int) := by
        unfold e8
        rw [UInt8.toNat_ofNat', Nat.mod_mod_of_dvd _ (by decide)]
        omega
      have eq : ((n / 256 ^ k : Nat) : Int) / 256 = ((n / 256 ^ (k + 1) : Nat) : Int) := by
        rw [Nat.pow_succ, ← Nat.div_div_eq_div_mul]; omega
      have EQ := Lib.hid eq
      have xn : n / 256 ^ k ≤ n := Nat.div_le_self _ _
      have x62 : n / 256 ^ k < 18446744073709551616 := Nat.lt_of_le_of_lt xn HN.out
      generalize (e8 n k).toNat = y at *
      generalize n / 256 ^ k = x at *
      generalize hx2 : n / 256 ^ (k + 1) = x2 at *
      have HX2 := Lib.hid hx2
      clear hx2 xn
      clear eq
      have eq := EQ.out
      have ip : (m : Int) - 1 = (N : Int) - 1 - ((k : Int) + 1) := by omega
      have IP := Lib.hid ip
      have hlm := Lib.hid (show ((m : Int) - 1 + 1).toNat < ((m : Int) + 1).toNat by omega)
      clear ip hm
      rw [im]
      clear im
      have KR := Lib.hid (show BgRel w N n (.int .u64 (x2 : Int)) (.int .i64 ((m : Int) - 1)) (wr.setCell ⟨w.heap.size, m, none⟩ (.int .u8 (y : Int))) from
        ⟨k + 1, by omega, by rw [IP.out]; rfl, by rw [HX2.out], NC.out, NB.out⟩)
      clear h8 hk
      go_wp2_with fail
      exact ⟨KR.out, by simp [intOf] <;> omega⟩
    · obtain rfl : k = N := by omega
      have im : (k : Int) - 1 - (k : Int) = -1 := by omega
      rw [im]
      have HE := Lib.hid (LN_end k n)
      have HL := Lib.hid (bigN_len k n)
      generalize n / 256 ^ k = x at *
      clear im
      go_wp2_with fail
      go_ret
      refine ⟨_, rfl, ⟨some ⟨w.heap.size, 0, none⟩, k, by rw [HL.out]; rfl, (fun e => by cases e), Or.inr ⟨w.heap.size, 0, rfl, HC.out.lt, fun j u hu => ?_⟩⟩, HB.out⟩
      rw [Nat.zero_add]
      exact HC.out.cell j _ (by rw [HE.out]; unfold byV; rw [List.getElem?_map, hu]; rfl)

theorem bigbe_ok (N : Nat) (hN4 : N = 2 ∨ N = 4 ∨ N = 8) (n : Nat) (hn : n < 18446744073709551616) (w : World) : Calls Tryd.prog 40 #[.int .u64 n, .int .i64 N] w (RetSl w (be N n)) := by
  rw [← bigN_be]; exact big_ok N hN4 n hn w
set_option maxHeartbeats 800000 in
theorem join_ok (u v : Value) (a b : List UInt8) (w : World) (ha : SlB w u a) (hb : SlB w v b) (hlen : a.length + b.length ≤ 140737488355328) : Calls Tryd.prog 39 #[u, v] w (RetSl w (a ++ b)) := by
  have HA := Lib.hid ha
  have HB := Lib.hid hb
  have HO := Lib.hid (OwnB.nil w)
  have HL := Lib.hid hlen
  clear ha hb hlen
  go_enter Tryd.func39, Tryd.ntmps39
  go_wp2_with (at_builtin; refine wp_appv rfl _ _ rfl w.heap.size _ _ rfl HO.out _ a rfl HA.out (by have := HL.out; simp; omega) ?_)
  intro v1 w1 h1 h2 h3
  have O1 := Lib.hid h1
  have B1 := Lib.hid h2
  have S1 := Lib.hid (HB.out.below h2)
  clear h1 h2 h3 HO
  go_wp2_with (at_builtin; refine wp_appv rfl _ _ rfl w.heap.size _ _ rfl O1.out _ b rfl S1.out (by have := HL.out; simp; omega) ?_)
  intro v2 w2 h1 h2 h3
  have O2 := Lib.hid h1
  have B2 := Lib.hid (B1.out.trans h2)
  clear h1 h2 h3 O1
  go_wp2_with fail
  go_ret
  exact ⟨_, rfl, by have := O2.out.sl; simpa using this, B2.out⟩
theorem valB_lt8 {l : List UInt8} (h : l.length ≤ 8) : valB l < 18446744073709551616 := by
  have h1 := valB_lt l
  have h2 : 256 ^ l.length ≤ 256 ^ 8 := Nat.pow_le_pow_right (by omega) h
  omega
theorem valB_lt7 {l : List UInt8} (h : l.length ≤ 7) : valB l < 72057594037927936 := by
  have h1 := valB_lt l
  have h2 : 256 ^ l.length ≤ 256 ^ 7 := Nat.pow_le_pow_right (by omega) h
  omega
theorem or_add (n x : Nat) (hx : x < 256) : n * 256 ||| x = n * 256 + x := by
  have := Nat.two_pow_add_eq_or_of_lt (i := 8) (b := x) hx n
  rw [show 2 ^ 8 * n = n * 256 by omega] at this
  exact this.symm
def NbRel (l : List UInt8) (h i : Value) : Prop := ∃ k : Nat, k ≤ l.length ∧ i = .int .i64 k ∧ h = .int .u64 ((valB (l.take k) : Nat) : Int)
set_option maxHeartbeats 1600000 in
theorem number_some (b off cp : Nat) (l : List UInt8) (hl : l.length ≤ 8) (w : World) (_hb : b < w.heap.size) (hc : ∀ j u, l[j]? = some u → w.cell? ⟨b, off + j, none⟩ = some (.int .u8 u.toNat)) :
    Calls Tryd.prog 42 #[.slice (some ⟨b, off, none⟩) l.length cp] w (Same w (.int .u64 (valB l))) := by
  have HC := Lib.hid hc
  clear hc
  go_enter Tryd.func42, Tryd.ntmps42
  go_wp2_with fail
  go_loop [3, 8] (fun x i => NbRel l x i) (fun _ i => l.length - (intOf i).toNat)
  case atStart => exact ⟨0, Nat.zero_le _, rfl, rfl⟩
  case round =>
    obtain ⟨k, hk, rfl, rfl⟩ := hrel
    by_cases hlt : k < l.length
    · have hn : valB (l.take k) < 72057594037927936 := valB_lt7 (by rw [List.length_take]; omega)
      have HSN := Lib.hid (valB_take l k hlt)
      have c1 := HC.out k l[k] (List.getElem?_eq_getElem hlt)
      have hx := l[k].toNat_lt
      generalize l[k].toNat = x at *
      generalize valB (l.take k) = d at *
      have E1 : bits .or .u64 ((d : Int) * 256) (x : Int) = ((d * 256 + x : Nat) : Int) := by
        rw [show ((d : Int) * 256) = ((d * 256 : Nat) : Int) by omega, u64_or_nat _ _ (by omega) (by omega), or_add d x hx]
      have KEY := Lib.hid (show NbRel l (.int .u64 (bits .or .u64 ((d : Int) * 256) (x : Int))) (.int .i64 ((k : Int) + 1)) from ⟨k + 1, by omega, by go_num, by rw [HSN.out, E1]⟩)
      clear E1
      go_wp2_with fail
      exact ⟨KEY.out, by simp [intOf]; omega⟩
    · have ek : l.take k = l := List.take_of_length_le (by omega)
      have EK := Lib.hid (show valB (l.take k) = valB l by rw [ek])
      generalize valB (l.take k) = d at *
      clear ek
      go_wp2_with fail
      go_ret
      exact ⟨by rw [← EK.out]; rfl, rfl⟩
theorem number_none (a : Option Addr) (cp : Nat) (w : World) : Calls Tryd.prog 42 #[.slice a 0 cp] w (Same w (.int .u64 0)) := by
  go_enter Tryd.func42, Tryd.ntmps42
  go_wp2_with fail
  go_loop [3, 8] (fun x i => x = .int .u64 0 ∧ i = .int .i64 0) (fun _ i => 0)
  case atStart => exact ⟨rfl, rfl⟩
  case round =>
    obtain ⟨rfl, rfl⟩ := hrel
    go_wp2_with fail
    go_ret
    exact ⟨rfl, rfl⟩
theorem number_ok (v : Value) (l : List UInt8) (w : World) (hl : l.length ≤ 8) (h : SlB w v l) : Calls Tryd.prog 42 #[v] w (Same w (.int .u64 (valB l))) := by
  obtain ⟨a, c, rfl, _, rfl | ⟨b, off, rfl, hb, hc⟩⟩ := h
  · exact number_none a c w
  · exact number_some b off c l hl w hb hc
set_option maxHeartbeats 1600000 in
theorem value_some (b off cp : Nat) (l : List UInt8) (hl : l.length ≤ 8) (w : World) (_hb : b < w.heap.size) (hc : ∀ j u, l[j]? = some u → w.cell? ⟨b, off + j, none⟩ = some (.int .u8 u.toNat)) :
    Calls Tryd.prog 44 #[.slice (some ⟨b, off, none⟩) l.length cp] w (Same w (.int .u64 (valB l))) := by
  have HC := Lib.hid hc
  clear hc
  go_enter Tryd.func44, Tryd.ntmps44
  go_wp2_with fail
  go_loop [3, 4] (fun x i => NbRel l x i) (fun _ i => l.length - (intOf i).toNat)
  case atStart => exact ⟨0, Nat.zero_le _, rfl, rfl⟩
  case round =>
    obtain ⟨k, hk, rfl, rfl⟩ := hrel
    by_cases hlt : k < l.length
    · have hn : valB (l.take k) < 72057594037927936 := valB_lt7 (by rw [List.length_take]; omega)
      have HSN := Lib.hid (valB_take l k hlt)
      have c1 := HC.out k l[k] (List.getElem?_eq_getElem hlt)
      have hx := l[k].toNat_lt
      generalize l[k].toNat = x at *
      generalize valB (l.take k) = d at *
      have KEY := Lib.hid (show NbRel l (.int .u64 ((d : Int) * 256 + (x : Int))) (.int .i64 ((k : Int) + 1)) from ⟨k + 1, by omega, by go_num, by rw [HSN.out]; go_num⟩)
      go_wp2_with fail
      exact ⟨KEY.out, by simp [intOf]; omega⟩
    · have ek : l.take k = l := List.take_of_length_le (by omega)
      have EK := Lib.hid (show valB (l.take k) = valB l by rw [ek])
      generalize valB (l.take k) = d at *
      clear ek
      go_wp2_with fail
      go_ret
      exact ⟨by rw [← EK.out]; rfl, rfl⟩
theorem value_none (a : Option Addr) (cp : Nat) (w : World) : Calls Tryd.prog 44 #[.slice a 0 cp] w (Same w (.int .u64 0)) := by
  go_enter Tryd.func44, Tryd.ntmps44
  go_wp2_with fail
  go_loop [3, 4] (fun x i => x = .int .u64 0 ∧ i = .int .i64 0) (fun _ i => 0)
  case atStart => exact ⟨rfl, rfl⟩
  case round =>
    obtain ⟨rfl, rfl⟩ := hrel
    go_wp2_with fail
    go_ret
    exact ⟨rfl, rfl⟩
theorem value_ok (v : Value) (l : List UInt8) (w : World) (hl : l.length ≤ 8) (h : SlB w v l) : Calls Tryd.prog 44 #[v] w (Same w (.int .u64 (valB l))) := by
  obtain ⟨a, c, rfl, _, rfl | ⟨b, off, rfl, hb, hc⟩⟩ := h
  · exact value_none a c w
  · exact value_some b off c l hl w hb hc
end Go.Proofs.YtlbekgcfafofdaaDoor
