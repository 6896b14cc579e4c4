/- The document's answer for embeddings: eight bytes, escaped texts, a number's bytes, versions, Embed; NumeralEmbeds' walk. -/
import Derived.Test.YtpbbgmfjdachnaaDoorRefK
import Derived.Test.YtpbbgmfjdachnaaDoorEmbA
import Derived.Deep.AppendLies
import Derived.Laws.AppendOwnNone
namespace Go.Proofs.YtpbbgmfjdachnaaDoor
open Go.RowKit
section

set_option maxRecDepth 100000
theorem add_plain (b off j : Nat) : (⟨b, off, none⟩ : Addr).add j = ⟨b, off + j, none⟩ := by unfold Addr.add; split <;> simp_all
/-- A slice of bytes that reads so. -/
def SlB (w : World) (v : Value) (l : List UInt8) : Prop :=
  ∃ a c, v = .slice a l.length c ∧ (a = none → c = 0) ∧ (l = [] ∨ ∃ b off, a = some ⟨b, off, none⟩ ∧ b < w.heap.size ∧ ∀ j u, l[j]? = some u → w.cell? ⟨b, off + j, none⟩ = some (.int .u8 u.toNat))
theorem SlB.below {w w' : World} {v : Value} {l : List UInt8} (h : SlB w v l) (k : Below w.heap.size w w') : SlB w' v l := by
  obtain ⟨a, c, hv, hn, h | ⟨b, off, ha, hb, hc⟩⟩ := h
  · exact ⟨a, c, hv, hn, Or.inl h⟩
  · exact ⟨a, c, hv, hn, Or.inr ⟨b, off, ha, Nat.lt_of_lt_of_le hb k.size, fun j u hu => (k.cell (p := ⟨b, off + j, none⟩) hb).trans (hc j u hu)⟩⟩
theorem SlB.nil (w : World) : SlB w (.slice none 0 0) [] := ⟨none, 0, rfl, fun _ => rfl, Or.inl rfl⟩
/-- A slice of bytes is appended onto a row of the call's own. -/
theorem wp_appv {w : World} {ops : Array Oper} {rest : List Oper} {o : Oper} {a : Act} {Q : Exit → Act → World → Prop} (hgd : o.guard = none) (s x : Operand)
    (ho : o.op = .call { callee := .builtin .append, args := #[s, x], argTypes := #[23, 23] })
    (B : Nat) (v : Value) (l : List UInt8) (hs : a.eval s = v) (hown : OwnB w B v l) (u : Value) (c : List UInt8) (hx : a.eval x = u) (hc : SlB w u c) (hlen : l.length + c.length ≤ 140737488355328)
    (h : ∀ v' w', OwnB w' B v' (l ++ c) → Below B w w' → KeepB w w' → wpList Tryd.prog ops Q rest (a.put o.dst v') w') :
    wpList Tryd.prog ops Q (o :: rest) a w := by
  obtain ⟨i0, hi, hz0, hz1, hz2⟩ := info_parts info5
  have hB := hown.2
  have key : ∀ (ad : Addr) (cp : Nat), a.eval x = .slice (some ad) c.length cp → (∀ j u, (byV c)[j]? = some u → w.cell? (ad.add j) = some u) → wpList Tryd.prog ops Q (o :: rest) a w := by
    intro ad cp hx2 hcell
    refine wpList_append_own _ hgd s x 23 ho B 5 i0 (.int .u8 0) 1 1 Tryd.underlying23 hi hz0 hz1 hz2 rfl (by decide) v l.length (byV l) hs hown.1 ad c.length cp (byV c) hx2 (by rw [byV_len]; simp) hcell ?_ ?_ ?_ hB ?_
    · intro u hu
      obtain ⟨c', _, rfl⟩ := List.mem_map.1 hu
      rfl
    · unfold maxLen; omega
    · omega
    · intro v' w' h1 h2 _
      have hsz := h2.size
      refine h v' w' ⟨?_, Nat.le_trans hB hsz⟩ (hown.grown h2) (hown.keeps h2)
      rw [List.length_append, byV_app]; exact h1
  obtain ⟨ad, cp, rfl, hnn, hcs⟩ := hc
  cases ad with
  | none =>
    obtain rfl := hnn rfl
    rcases hcs with rfl | ⟨b, off, hb, _⟩
    · refine wpList_append_own_none hgd s x 23 ho B 5 i0 1 Tryd.underlying23 hi v l.length (byV l) hs hown.1 hx ?_
      have := h v w (by rw [List.append_nil]; exact hown) (Below.refl _ _) (KeepB.refl _)
      exact this
    · cases hb
  | some ad =>
    refine key ad cp hx ?_
    rcases hcs with rfl | ⟨b, off, hb, _, hcell⟩
    · intro j u hu; cases hu
    · cases hb
      intro j u hu
      rw [add_plain]
      unfold byV at hu
      rw [List.getElem?_map] at hu
      cases hcj : c[j]? with
      | none => rw [hcj] at hu; cases hu
      | some y => rw [hcj] at hu; cases hu; exact hcell j y hcj


/-- Eight bytes in a block of their own. -/
def RetEight (w : World) (l : List UInt8) (e : Ending) (w' : World) : Prop := ∃ v, e = .returned v ∧ SlB w' v l ∧ Below w.heap.size w w'
def e8 (n j : Nat) : UInt8 := UInt8.ofNat (n / 256 ^ j % 256)
def L8 (n : Nat) (k : Nat) : List Value := (List.range 8).map fun j => .int .u8 (if 8 - k ≤ j then ((e8 n (7 - j)).toNat : Int) else 0)
theorem L8_set (n k : Nat) (h : k < 8) : (L8 n k).set (7 - k) (.int .u8 ((e8 n k).toNat : Int)) = L8 n (k + 1) := by
  unfold L8
  apply List.ext_getElem
  · simp
  · intro i h1 h2
    simp only [List.length_set, List.length_map, List.length_range] at h1
    rw [List.getElem_set]
    simp only [List.getElem_map, List.getElem_range]
    by_cases e : 7 - k = i
    · subst e
      rw [if_pos rfl, if_pos (by omega), show 7 - (7 - k) = k by omega]
    · rw [if_neg e]
      by_cases e2 : 8 - k ≤ i
      · rw [if_pos e2, if_pos (by omega)]
      · rw [if_neg e2, if_neg (by omega)]
theorem L8_end (n : Nat) (hn : n < 2 ^ 64) : L8 n 8 = byV (beN 8 n) := by
  rw [beN8 n hn]
  unfold L8 byV
  rw [List.map_map]
  apply List.map_congr_left
  intro j hj
  have hj8 : j < 8 := List.mem_range.1 hj
  have e : e8 n (7 - j) = be8 n j := by
    unfold e8 be8
    congr 1
    rw [show (256 : Nat) = 2 ^ 8 from rfl, ← Nat.pow_mul, show 8 * (7 - j) = 56 - 8 * j by omega]
  show Value.int .u8 (if 8 - 8 ≤ j then ((e8 n (7 - j)).toNat : Int) else 0) = Value.int .u8 ((be8 n j).toNat : Int)
  rw [if_pos (by omega), e]
def EgRel (w : World) (n : Nat) (x i : Value) (wr : World) : Prop :=
  ∃ k : Nat, k ≤ 8 ∧ i = .int .i64 (7 - (k : Int)) ∧ x = .int .u64 ((n / 256 ^ k : Nat) : Int) ∧ CellsAt wr w.heap.size (L8 n k) ∧ Below w.heap.size w wr
set_option maxHeartbeats 1600000 in
theorem eight_ok (n : Nat) (hn : n < 2 ^ 64) (w : World) : Calls Tryd.prog 89 #[.int .u64 n] w (RetEight w (beN 8 n)) := by
  have HN := Lib.hid hn
  clear hn
  obtain ⟨i0, hi, hz0, hz1, hz2⟩ := info_parts info5
  have Hi := Lib.hid hi
  have Hz0 := Lib.hid hz0
  have Hz1 := Lib.hid hz1
  have Hz2 := Lib.hid hz2
  clear hi hz0 hz1 hz2
  go_enter Tryd.func89, Tryd.ntmps89
  go_wp2_with (refine wpList_make_full w rfl _ _ 23 rfl w.heap.size 5 i0 (.int .u8 0) 1 Tryd.underlying23 Hi.out Hz0.out Hz1.out .i64 .i64 8 8 8 rfl rfl rfl rfl (by rw [Hz2.out]; omega) (by unfold maxLen; omega) (Nat.le_refl _) ?_)
  intro w1 hown hgrow
  have hb1 : Below w.heap.size w w1 := (Below.refl _ _).grown hgrow (Nat.le_refl _) (fun k hk => by cases hk)
  have hg := hown.lt w.heap.size rfl
  have hc := hown.cells (g := w.heap.size) rfl
  have C0 : CellsAt w1 w.heap.size (L8 n 0) := by
    have e0 : (madeCells #[Value.int .u8 0] 8).toList = L8 n 0 := by
      unfold L8
      simp [madeCells, List.range, List.range.loop, Value.cells]
    refine ⟨hg.2, fun j v hv => ?_, fun j => hown.frozenAt j⟩
    have := hc j v (by rw [e0]; exact hv)
    rw [add_plain, Nat.zero_add] at this
    exact this
  have HC0 := Lib.hid C0
  have HB1 := Lib.hid hb1
  clear hown hgrow hb1 hg hc C0
  go_wp2_with fail
  go_loopw [0, 4] (fun x i wr => EgRel w n x i wr) (fun _ i _ => (intOf i + 1).toNat)
  case atStart => exact ⟨0, by omega, rfl, by rw [Nat.pow_zero, Nat.div_one], HC0.out, HB1.out⟩
  case round =>
    obtain ⟨k, hk, rfl, rfl, hcs, hbl⟩ := hrel
    have HC := Lib.hid hcs
    have HB := Lib.hid hbl
    clear hcs hbl
    by_cases h8 : k < 8
    · obtain ⟨m, hm⟩ : ∃ m, m = 7 - k := ⟨_, rfl⟩
      have im : 7 - (k : Int) = (m : Int) := by omega
      have hm8 : m < 8 := by omega
      have y0 := (e8 n k).toNat_lt
      have c0 := HC.out.cell m (.int .u8 0) (by
        unfold L8
        rw [List.getElem?_map, List.getElem?_range hm8]
        show some (Value.int .u8 (if 8 - k ≤ m then _ else 0)) = _
        rw [if_neg (by omega)])
      have f0 := HC.out.free m
      have NC := Lib.hid (show CellsAt (wr.setCell ⟨w.heap.size, m, none⟩ (.int .u8 ((e8 n k).toNat : Int))) w.heap.size (L8 n (k + 1)) by
        have := HC.out.set m (.int .u8 ((e8 n k).toNat : Int)) (by unfold L8; simpa using hm8)
        rw [hm, L8_set n k h8, ← hm] at this
        exact this)
      have NB := Lib.hid (HB.out.setCell (p := ⟨w.heap.size, m, none⟩) (Nat.le_refl _) (.int .u8 ((e8 n k).toNat : Int)))
      have ey : ((n / 256 ^ k : Nat) : Int) % 256 = ((e8 n k).toNat : Int) := by
        unfold e8
        rw [UInt8.toNat_ofNat', Nat.mod_mod_of_dvd _ (by decide)]
        omega
      have eq : ((n / 256 ^ k : Nat) : Int) / 256 = ((n / 256 ^ (k + 1) : Nat) : Int) := by
        rw [Nat.pow_succ, ← Nat.div_div_eq_div_mul]; omega
      have EQ := Lib.hid eq
      generalize (e8 n k).toNat = y at *
      generalize n / 256 ^ k = x at *
      generalize hx2 : n / 256 ^ (k + 1) = x2 at *
      have HX2 := Lib.hid hx2
      have w2 : IntKind.u64.wrap (x2 : Int) = (x2 : Int) := by
        have h1 : x2 ≤ n := by rw [← hx2]; exact Nat.div_le_self _ _
        have h2 := HN.out
        unfold IntKind.wrap
        simp [IntKind.bits, IntKind.signed]
        omega
      clear hx2
      clear eq
      have eq := EQ.out
      have wy : IntKind.u8.wrap (y : Int) = (y : Int) := by unfold IntKind.wrap; simp [IntKind.bits, IntKind.signed]; omega
      have ip : (m : Int) - 1 = 7 - ((k : Int) + 1) := by omega
      have IP := Lib.hid ip
      clear ip hm
      have hmm : (0 : Int) ≤ (m : Int) := by omega
      rw [im]
      clear im
      have KR := Lib.hid (show ∃ k2 : Nat, k2 ≤ 8 ∧ Value.int .i64 ((m : Int) - 1) = .int .i64 (7 - (k2 : Int)) ∧ Value.int .u64 (x2 : Int) = .int .u64 ((n / 256 ^ k2 : Nat) : Int) ∧ CellsAt (wr.setCell ⟨w.heap.size, m, none⟩ (.int .u8 (y : Int))) w.heap.size (L8 n k2) ∧ Below w.heap.size w (wr.setCell ⟨w.heap.size, m, none⟩ (.int .u8 (y : Int))) from
        ⟨k + 1, by omega, by rw [IP.out]; rfl, by rw [HX2.out], NC.out, NB.out⟩)
      go_wp2_with fail
      exact ⟨KR.out, by simp [intOf] <;> omega⟩
    · have e8 : k = 8 := by omega
      subst e8
      have im : 7 - ((8 : Nat) : Int) = -1 := by omega
      rw [im]
      have HE := Lib.hid (L8_end n HN.out)
      generalize n / 256 ^ 8 = x at *
      clear im
      go_wp2_with fail
      go_ret
      have hb8 : (beN 8 n).length = 8 := by rw [beN8 n HN.out]; rfl
      refine ⟨_, rfl, ⟨some ⟨w.heap.size, 0, none⟩, 8, by rw [hb8]; rfl, (fun h => by cases h), Or.inr ⟨w.heap.size, 0, rfl, HC.out.lt, fun j u hu => ?_⟩⟩, HB.out⟩
      rw [Nat.zero_add]
      exact HC.out.cell j _ (by rw [HE.out]; unfold byV; rw [List.getElem?_map, hu]; rfl)

/-- One byte, in a block of its own, is appended. -/
theorem by1 (c : UInt8) : (#[Value.int .u8 (c.toNat : Int)] : Array Value) = (byV [c]).toArray := rfl
theorem by2 (c d : UInt8) : (#[Value.int .u8 (c.toNat : Int), Value.int .u8 (d.toNat : Int)] : Array Value) = (byV [c, d]).toArray := rfl

def EscRel2 (w : World) (l : List UInt8) (b i : Value) (wr : World) : Prop :=
  ∃ k : Nat, k ≤ l.length ∧ i = .int .i64 k ∧ OwnB wr w.heap.size b ((l.take k).flatMap escB) ∧ Below w.heap.size w wr
theorem escR_len (l : List UInt8) : (l.flatMap escB).length ≤ 2 * l.length := by
  induction l with
  | nil => simp
  | cons x l ih =>
    rw [List.flatMap_cons, List.length_append, List.length_cons]
    have : (escB x).length ≤ 2 := by unfold escB; split <;> simp
    omega
set_option maxHeartbeats 1600000 in
theorem escaped_ok (s : ByteArray) (w : World) (hs : s.size ≤ 1048576) : Calls Tryd.prog 63 #[.string s] w (RetBelow w (.string (bs (escS s.data.toList)))) := by
  have el := Lib.hid (Lib.size_eq s)
  have H0 := Lib.hid (OwnB.nil w)
  go_enter Tryd.func63, Tryd.ntmps63
  go_wp2_with fail
  go_loopw [3, 4] (fun b i wr => EscRel2 w s.data.toList b i wr) (fun _ i _ => s.size - (intOf i).toNat)
  case atStart => exact ⟨0, Nat.zero_le _, rfl, H0.out, Below.refl _ _⟩
  case round =>
    obtain ⟨k, hk, rfl, hown, hbl⟩ := hrel
    have HO := Lib.hid hown
    have HB := Lib.hid hbl
    rw [← el.out] at hk
    have hlen : ((s.data.toList.take k).flatMap escB).length ≤ 4000000 := by
      have := escR_len (s.data.toList.take k)
      rw [List.length_take] at this
      omega
    clear hown hbl
    by_cases hlt : k < s.size
    · have hsn : (s.data.toList.take (k + 1)).flatMap escB = (s.data.toList.take k).flatMap escB ++ escB s[k] := by
        have hl : k < s.data.toList.length := by rw [← el.out]; exact hlt
        rw [List.take_succ_eq_append_getElem hl, List.flatMap_append, List.flatMap_singleton]
        rfl
      have HS := Lib.hid hsn
      clear hsn
      have b0 := byte_is s[k] 0 (by omega)
      have b1 := byte_is s[k] 1 (by omega)
      generalize hL : (s.data.toList.take k).flatMap escB = L at *
      clear hL
      by_cases h0 : s[k] = 0
      · have t0 : ((s[k].toNat : Int) == 0) = true := b0.trans (by rw [h0]; rfl)
        have HC := Lib.hid (show escB s[k] = [1, 1] by rw [h0]; rfl)
        clear b0 b1 h0
        go_wp2_with (at_builtin; refine wp_app rfl _ _ rfl w.heap.size _ _ rfl HO.out [1, 1] _ rfl rfl (by simp; omega) ?_)
        intro v' w' h1 h2 h3
        have KR := Lib.hid (show EscRel2 w s.data.toList v' (.int .i64 ((k : Int) + 1)) w' from ⟨k + 1, by rw [← el.out]; omega, by go_num, by rw [HS.out, HC.out]; exact h1, HB.out.trans h2⟩)
        clear h1 h2 h3
        go_wp2_with fail
        exact ⟨KR.out, by simp [intOf]; omega⟩
      · have t0 : ((s[k].toNat : Int) == 0) = false := b0.trans (by simpa using h0)
        by_cases h1 : s[k] = 1
        · have t1 : ((s[k].toNat : Int) == 1) = true := b1.trans (by rw [h1]; rfl)
          have HC := Lib.hid (show escB s[k] = [1, 2] by rw [h1]; rfl)
          clear b0 b1 h0 h1
          go_wp2_with (at_builtin; refine wp_app rfl _ _ rfl w.heap.size _ _ rfl HO.out [1, 2] _ rfl rfl (by simp; omega) ?_)
          intro v' w' h1 h2 h3
          have KR := Lib.hid (show EscRel2 w s.data.toList v' (.int .i64 ((k : Int) + 1)) w' from ⟨k + 1, by rw [← el.out]; omega, by go_num, by rw [HS.out, HC.out]; exact h1, HB.out.trans h2⟩)
          clear h1 h2 h3
          go_wp2_with fail
          exact ⟨KR.out, by simp [intOf]; omega⟩
        · have t1 : ((s[k].toNat : Int) == 1) = false := b1.trans (by simpa using h1)
          have HC := Lib.hid (show escB s[k] = [s[k]] by
            unfold escB
            rw [if_neg]
            intro hle
            rcases (show s[k].toNat = 0 ∨ s[k].toNat = 1 by omega) with e | e
            · exact h0 (UInt8.toNat_inj.1 e)
            · exact h1 (UInt8.toNat_inj.1 e))
          clear b0 b1 h0 h1
          go_wp2_with (at_builtin; refine wp_app rfl _ _ rfl w.heap.size _ _ rfl HO.out [s[k]] _ rfl rfl (by simp; omega) ?_)
          intro v' w' h1 h2 h3
          have KR := Lib.hid (show EscRel2 w s.data.toList v' (.int .i64 ((k : Int) + 1)) w' from ⟨k + 1, by rw [← el.out]; omega, by go_num, by rw [HS.out, HC.out]; exact h1, HB.out.trans h2⟩)
          clear h1 h2 h3
          go_wp2_with fail
          exact ⟨KR.out, by simp [intOf]; omega⟩
    · have ek : s.data.toList.take k = s.data.toList := List.take_of_length_le (by rw [← el.out]; omega)
      have EK := Lib.hid (show (s.data.toList.take k).flatMap escB ++ [0] = escS s.data.toList by rw [ek]; rfl)
      generalize (s.data.toList.take k).flatMap escB = L at *
      clear ek
      go_wp2_with (at_builtin; refine wp_app rfl _ _ rfl w.heap.size _ _ rfl HO.out [0] _ rfl rfl (by simp; omega) ?_)
      intro v' w' h1 h2 h3
      have hback := h1.back (by simp)
      rw [EK.out] at hback
      have HB2 := Lib.hid (HB.out.trans h2)
      clear h1 h2 h3
      go_wp2_with fail
      go_ret
      exact ⟨rfl, HB2.out⟩
end
section

set_option maxRecDepth 100000
theorem CellsAt.keepB {w w' : World} {B b : Nat} {vs : List Value} (h : CellsAt w b vs) (k : Below B w w') (hb : b < B) : CellsAt w' b vs :=
  ⟨Nat.lt_of_lt_of_le h.lt k.size, fun j v hv => (k.cell (p := ⟨b, j, none⟩) hb).trans (h.cell j v hv), fun j => (k.frozen (p := ⟨b, j, none⟩) hb).trans (h.free j)⟩
/-- The bytes as far as k turned over. -/
def turnZ (k : Nat) (l : List UInt8) : List UInt8 := l.mapIdx fun j c => if j < k then 255 - c else c
theorem turnZ_len (k : Nat) (l : List UInt8) : (turnZ k l).length = l.length := by unfold turnZ; simp
theorem turnZ_zero (l : List UInt8) : turnZ 0 l = l := by
  unfold turnZ
  apply List.ext_getElem
  · simp
  · intro j h1 h2
    rw [List.getElem_mapIdx, if_neg (by omega)]
theorem turnZ_next (k : Nat) (l : List UInt8) (hk : k < l.length) : (turnZ k l).set k (255 - l[k]) = turnZ (k + 1) l := by
  unfold turnZ
  apply List.ext_getElem
  · simp
  · intro j h2 h3
    rw [List.getElem_set]
    by_cases e : k = j
    · subst e
      rw [if_pos rfl, List.getElem_mapIdx, if_pos (by omega)]
    · rw [if_neg e, List.getElem_mapIdx, List.getElem_mapIdx]
      by_cases e2 : j < k
      · rw [if_pos e2, if_pos (by omega)]
      · rw [if_neg e2, if_neg (by omega)]
theorem turnZ_all (l : List UInt8) : turnZ l.length l = l.map (255 - ·) := by
  unfold turnZ
  apply List.ext_getElem
  · simp
  · intro j h1 h2
    simp only [List.length_mapIdx] at h1
    rw [List.getElem_mapIdx, if_pos h1, List.getElem_map]
theorem turnZ_at (k : Nat) (l : List UInt8) (hk : k < l.length) : (turnZ k l)[k]? = some l[k] := by
  unfold turnZ
  rw [List.getElem?_mapIdx, List.getElem?_eq_getElem hk]
  simp
def TzRel (w0 : World) (B C g cap : Nat) (l : List UInt8) (i : Value) (wr : World) : Prop :=
  ∃ k : Nat, k ≤ l.length ∧ i = .int .i64 k ∧ OwnB wr B (.slice (some ⟨g, 0, none⟩) l.length cap) (turnZ k l) ∧ Below C w0 wr
theorem tz_cell {wr : World} {B g cap k : Nat} {l : List UInt8} (h : OwnB wr B (.slice (some ⟨g, 0, none⟩) l.length cap) (turnZ k l)) (hk : k < l.length) :
    wr.cell? ⟨g, k, none⟩ = some (.int .u8 l[k].toNat) ∧ wr.frozen? ⟨g, k, none⟩ = false := by
  have h1 : wr.ownsRow B 5 1 (.slice (some ⟨g, 0, none⟩) (turnZ k l).length cap) (turnZ k l).length (byV (turnZ k l)) := by
    have := h.1
    rw [turnZ_len] at this ⊢
    exact this
  refine ⟨?_, h1.frozenAt k⟩
  rw [h1.cellAt k (by rw [turnZ_len]; omega)]
  unfold byV
  rw [List.getElem?_map, turnZ_at k l hk]
  rfl

theorem tz_next {w0 wr : World} {B C g cap k : Nat} {l : List UInt8} (h : OwnB wr B (.slice (some ⟨g, 0, none⟩) l.length cap) (turnZ k l)) (hb : Below C w0 wr) (hC : C ≤ B) (hk : k < l.length) (i : Value) (hi : i = .int .i64 ((k + 1 : Nat) : Int)) (y : Int) (hy : y = 255 - (l[k].toNat : Int)) :
    TzRel w0 B C g cap l i (wr.setCell ⟨g, k, none⟩ (.int .u8 y)) := by
  have h2 : wr.ownsRow B 5 1 (.slice (some ⟨g, 0, none⟩) (turnZ k l).length cap) (turnZ k l).length (byV (turnZ k l)) := by
    have := h.1
    rw [turnZ_len] at this ⊢
    exact this
  have hg : B ≤ g := (h.1.lt g rfl).1
  obtain ⟨s1, s2⟩ := h2.stored k (.int .u8 y)
  have hy2 : y = ((255 - l[k] : UInt8).toNat : Int) := by
    rw [hy, UInt8.toNat_sub_of_le _ _ (by rw [UInt8.le_iff_toNat_le]; have := l[k].toNat_lt; simp; omega)]
    have := l[k].toNat_lt
    simp; omega
  have e : (byV (turnZ k l)).set k (.int .u8 y) = byV (turnZ (k + 1) l) := by
    rw [← turnZ_next k l hk, hy2]
    unfold byV
    rw [List.map_set]
  rw [e] at s1
  refine ⟨k + 1, hk, hi, ⟨?_, Nat.le_trans h.2 s2.size⟩, hb.setCell (Nat.le_trans hC hg) _⟩
  rw [turnZ_len] at s1 ⊢
  exact s1

/-- A number's bytes, as the document has them. -/
def embL (n : Bool) (D : List UInt8) (p : Int) (r : Nat) (hb : Bool) : List UInt8 :=
  (if hb then [UInt8.ofNat r] else []) ++ (beN 8 (p + 4611686018427387904).toNat ++ (D ++ [0]))
def embN (n : Bool) (D : List UInt8) (p : Int) (r : Nat) (hb : Bool) : List UInt8 :=
  if D = [] then [80] else if n then 64 :: (embL n D p r hb).map (255 - ·) else 96 :: embL n D p r hb
def DgRel2 (w : World) (C B : Nat) (pre D : List UInt8) (bx : List Value) (b i : Value) (wr : World) : Prop :=
  ∃ k : Nat, k ≤ D.length ∧ i = .int .i64 k ∧ OwnB wr B b (pre ++ D.take k) ∧ Below C w wr ∧ CellsAt wr C bx
set_option maxHeartbeats 3200000 in
theorem embedded_p_s (D : List UInt8) (d : ByteArray) (ed : d = bs D) (p : Int) (r : Nat) (w : World) (hne : D ≠ []) (hl : D.length ≤ 2000000) (hp : -1000000000000000000 ≤ p ∧ p ≤ 1000000000000000000) (hr : r ≤ 10) :
    Calls Tryd.prog 59 #[.agg #[.bool false, .string d, .int .i64 p, .int .i64 r], .bool false] w (RetBelow w (.string (bs (embN false D p r false)))) := by
  have SG := Lib.hid (fun W => sign_ok false D p r W)
  unfold numV at SG
  rw [← ed] at SG
  have hsg : sgn false D = 1 := by unfold sgn; rw [if_neg hne]; rfl
  rw [hsg] at SG
  have EN := Lib.hid (show embN false D p r false = 96 :: embL false D p r false by unfold embN; rw [if_neg hne]; rfl)
  have LD := Lib.hid (show d.data.toList = D by rw [ed, bs_list])
  have sd : d.size = D.length := by rw [ed, bs_size]
  have SD := Lib.hid sd
  have sl : d.size ≤ 2000000 := by rw [sd]; exact hl
  obtain ⟨N, hN⟩ : ∃ N : Nat, N = (p + 4611686018427387904).toNat := ⟨_, rfl⟩
  have hN2 : N < 2 ^ 64 := by omega
  have EC := Lib.hid (fun W => eight_ok N hN2 W)
  have LE := Lib.hid (show (beN 8 N).length = 8 by rw [beN8 N hN2]; rfl)
  have E1 : IntKind.u64.wrap (IntKind.u64.wrap p + 4611686018427387904) = (N : Int) := by
    unfold IntKind.wrap
    simp [IntKind.bits, IntKind.signed]
    omega
  have HE1 := Lib.hid E1
  have HN := Lib.hid hN
  clear E1 hN hN2 hsg ed sd hne hp
  obtain ⟨q, hq⟩ : ∃ q, q = IntKind.u64.wrap p := ⟨_, rfl⟩
  have E0 : IntKind.u64.wrap p = q := hq.symm
  have E1 : IntKind.u64.wrap (q + 4611686018427387904) = (N : Int) := by rw [hq]; exact HE1.out
  clear hq HE1
  have C0 := Lib.hid (CellsAt.new w [.bool false, .string d, .int .i64 p, .int .i64 r] 77)
  have B0 := Lib.hid ((Below.refl w.heap.size w).alloc (Nat.le_refl _) (Obj.cells #[.bool false, .string d, .int .i64 p, .int .i64 r] 77))
  go_enter Tryd.func59, Tryd.ntmps59
  go_upto_region 1 with fail
  generalize hX : w.alloc (Obj.cells #[.bool false, .string d, .int .i64 p, .int .i64 r] 77) = x at *
  clear hX
  have a0 := C0.out.cell 0 _ rfl
  have a1 := C0.out.cell 1 _ rfl
  have a2 := C0.out.cell 2 _ rfl
  have a3 := C0.out.cell 3 _ rfl
  go_wp2_with fail
  refine (SG.out _).mono ?_
  rintro e w1 ⟨rfl, hb1⟩
  have C1 := Lib.hid (C0.out.step hb1)
  have B1 := Lib.hid (B0.out.trans (hb1.mono B0.out.size))
  have O1 := Lib.hid (OwnB.nil w1)
  clear hb1 a0 a1 a2 a3
  have lx : w.heap.size < w1.heap.size := C1.out.lt
  have a1 := C1.out.cell 1 _ rfl
  have a2 := C1.out.cell 2 _ rfl
  have a3 := C1.out.cell 3 _ rfl
  go_wp2_with fail
  refine (EC.out _).mono ?_
  rintro e w3 ⟨v3, rfl, hs3, hb3⟩
  have O3 := Lib.hid (OwnB.below O1.out hb3)
  have C3 := Lib.hid (C1.out.step hb3)
  have B3 := Lib.hid (B1.out.trans (hb3.mono B1.out.size))
  have S3 := Lib.hid hs3
  clear hb3 hs3 a1 a2 a3
  go_wp2_with (at_builtin; refine wp_appv rfl _ _ rfl w1.heap.size _ _ rfl O3.out _ (beN 8 N) rfl S3.out (by rw [LE.out]; simp) ?_)
  intro v4 w4 h1 h2 h3
  obtain ⟨pre, hpre⟩ : ∃ pre, pre = [] ++ beN 8 N := ⟨_, rfl⟩
  have O4 := Lib.hid (show OwnB w4 w1.heap.size v4 pre by rw [hpre]; exact h1)
  have C4 := Lib.hid (C3.out.keepB h2 lx)
  have B4 := Lib.hid (B3.out.trans (h2.mono (by omega)))
  have HP := Lib.hid hpre
  have lp : pre.length ≤ 20 := by rw [hpre, List.length_append, LE.out]; simp
  clear h1 h2 h3 hpre
  go_wp2_with fail
  go_loopw [6, 7] (fun b i wr => DgRel2 w w.heap.size w1.heap.size pre D [.bool false, .string d, .int .i64 p, .int .i64 r] b i wr) (fun _ i _ => D.length - (intOf i).toNat)
  case atStart => exact ⟨0, Nat.zero_le _, rfl, by rw [List.take_zero, List.append_nil]; exact O4.out, B4.out, C4.out⟩
  case round =>
    obtain ⟨k, hk, rfl, hown, hbl, hcs⟩ := hrel
    have HO := Lib.hid hown
    have HB := Lib.hid hbl
    have HC := Lib.hid hcs
    have hlen : (pre ++ D.take k).length ≤ 3000000 := by rw [List.length_append, List.length_take]; omega
    clear hown hbl hcs
    rw [← SD.out] at hk
    have a1 := HC.out.cell 1 _ rfl
    by_cases hlt : k < d.size
    · have hsn : pre ++ D.take (k + 1) = (pre ++ D.take k) ++ [d[k]] := by
        have hlD : k < D.length := by rw [← SD.out]; exact hlt
        rw [List.take_succ_eq_append_getElem hlD, ← List.append_assoc]
        congr 2
        rw [← get_atB d k hlt, LD.out]
        unfold atB
        rw [List.getD_eq_getElem?_getD, List.getElem?_eq_getElem hlD]; rfl
      have HS := Lib.hid hsn
      clear hsn
      generalize pre ++ D.take k = L at *
      go_wp2_with (at_builtin; refine wp_app rfl _ _ rfl w1.heap.size _ _ rfl HO.out [d[k]] _ rfl rfl (by simp; omega) ?_)
      intro v' w' h1 h2 h3
      have KR := Lib.hid (show DgRel2 w w.heap.size w1.heap.size pre D [.bool false, .string d, .int .i64 p, .int .i64 r] v' (.int .i64 ((k : Int) + 1)) w' from ⟨k + 1, by rw [← SD.out]; omega, by go_num, by rw [HS.out]; exact h1, HB.out.trans (h2.mono (by omega)), HC.out.keepB h2 lx⟩)
      have ml := SD.out
      clear h1 h2 h3 a1
      go_wp2_with fail
      exact ⟨KR.out, by simp [intOf]; omega⟩
    · have ek : D.take k = D := List.take_of_length_le (by rw [← SD.out]; omega)
      obtain ⟨L, hL⟩ : ∃ L, L = (pre ++ D.take k) ++ [0] := ⟨_, rfl⟩
      have EL := Lib.hid (show embL false D p r false = L by
        unfold embL
        rw [hL, ek, HP.out, ← HN.out]
        simp)
      have hL1 : L.length ≤ 3000001 := by rw [hL, List.length_append]; simp; omega
      have hL0 : L ≠ [] := by rw [hL]; simp
      rw [EL.out] at EN
      clear ek
      have HLL := Lib.hid hL
      generalize pre ++ D.take k = L0 at *
      clear hL
      go_wp2_with (at_builtin; refine wp_app rfl _ _ rfl w1.heap.size _ _ rfl HO.out [0] _ rfl rfl (by simp; omega) ?_)
      intro v5 w5 h1 h2 h3
      have O5 := Lib.hid (show OwnB w5 w1.heap.size v5 L by rw [HLL.out]; exact h1)
      have B5 := Lib.hid (HB.out.trans (h2.mono (by omega)))
      clear h1 h2 h3 a1
      have hd := dig_back w5 96 (by omega)
      have hbk := (O5.out.alloc (Obj.cells #[.int .u8 96] 5)).back hL0
      have B6 := Lib.hid (B5.out.alloc B5.out.size (Obj.cells #[.int .u8 96] 5))
      have ec : bs [UInt8.ofNat (96 : Int).toNat] ++ bs L = bs (96 :: L) := bs_cat [96] L
      have ECC := Lib.hid ec
      have z1 : (bs [UInt8.ofNat (96 : Int).toNat]).size ≤ 1 := by rw [bs_size]; exact Nat.le_refl 1
      have z2 : (bs L).size ≤ 3000001 := by rw [bs_size]; exact hL1
      generalize bs [UInt8.ofNat (96 : Int).toNat] = S1 at *
      generalize bs L = S2 at *
      clear ec
      go_wp2_with fail
      go_ret
      exact ⟨by rw [EN.out, ← ECC.out]; rfl, B6.out⟩

set_option maxHeartbeats 3200000 in
theorem embedded_p_h (D : List UInt8) (d : ByteArray) (ed : d = bs D) (p : Int) (r : Nat) (w : World) (hne : D ≠ []) (hl : D.length ≤ 2000000) (hp : -1000000000000000000 ≤ p ∧ p ≤ 1000000000000000000) (hr : r ≤ 10) :
    Calls Tryd.prog 59 #[.agg #[.bool false, .string d, .int .i64 p, .int .i64 r], .bool true] w (RetBelow w (.string (bs (embN false D p r true)))) := by
  have SG := Lib.hid (fun W => sign_ok false D p r W)
  unfold numV at SG
  rw [← ed] at SG
  have hsg : sgn false D = 1 := by unfold sgn; rw [if_neg hne]; rfl
  rw [hsg] at SG
  have EN := Lib.hid (show embN false D p r true = 96 :: embL false D p r true by unfold embN; rw [if_neg hne]; rfl)
  have LD := Lib.hid (show d.data.toList = D by rw [ed, bs_list])
  have sd : d.size = D.length := by rw [ed, bs_size]
  have SD := Lib.hid sd
  have sl : d.size ≤ 2000000 := by rw [sd]; exact hl
  obtain ⟨N, hN⟩ : ∃ N : Nat, N = (p + 4611686018427387904).toNat := ⟨_, rfl⟩
  have hN2 : N < 2 ^ 64 := by omega
  have EC := Lib.hid (fun W => eight_ok N hN2 W)
  have LE := Lib.hid (show (beN 8 N).length = 8 by rw [beN8 N hN2]; rfl)
  have E1 : IntKind.u64.wrap (IntKind.u64.wrap p + 4611686018427387904) = (N : Int) := by
    unfold IntKind.wrap
    simp [IntKind.bits, IntKind.signed]
    omega
  have HE1 := Lib.hid E1
  have HN := Lib.hid hN
  clear E1 hN hN2 hsg ed sd hne hp
  obtain ⟨q, hq⟩ : ∃ q, q = IntKind.u64.wrap p := ⟨_, rfl⟩
  have E0 : IntKind.u64.wrap p = q := hq.symm
  have E1 : IntKind.u64.wrap (q + 4611686018427387904) = (N : Int) := by rw [hq]; exact HE1.out
  clear hq HE1
  have wr1 : IntKind.u8.wrap (r : Int) = (r : Int) := by unfold IntKind.wrap; simp [IntKind.bits, IntKind.signed]; omega
  have br : ((UInt8.ofNat r).toNat : Int) = (r : Int) := by rw [UInt8.toNat_ofNat', Nat.mod_eq_of_lt (by omega)]
  have BR := Lib.hid (show (#[Value.int .u8 (r : Int)] : Array Value) = (byV [UInt8.ofNat r]).toArray by rw [← br]; rfl)
  clear br
  have C0 := Lib.hid (CellsAt.new w [.bool false, .string d, .int .i64 p, .int .i64 r] 77)
  have B0 := Lib.hid ((Below.refl w.heap.size w).alloc (Nat.le_refl _) (Obj.cells #[.bool false, .string d, .int .i64 p, .int .i64 r] 77))
  go_enter Tryd.func59, Tryd.ntmps59
  go_upto_region 1 with fail
  generalize hX : w.alloc (Obj.cells #[.bool false, .string d, .int .i64 p, .int .i64 r] 77) = x at *
  clear hX
  have a0 := C0.out.cell 0 _ rfl
  have a1 := C0.out.cell 1 _ rfl
  have a2 := C0.out.cell 2 _ rfl
  have a3 := C0.out.cell 3 _ rfl
  go_wp2_with fail
  refine (SG.out _).mono ?_
  rintro e w1 ⟨rfl, hb1⟩
  have C1 := Lib.hid (C0.out.step hb1)
  have B1 := Lib.hid (B0.out.trans (hb1.mono B0.out.size))
  have O1 := Lib.hid (OwnB.nil w1)
  clear hb1 a0 a1 a2 a3
  have lx : w.heap.size < w1.heap.size := C1.out.lt
  have a1 := C1.out.cell 1 _ rfl
  have a2 := C1.out.cell 2 _ rfl
  have a3 := C1.out.cell 3 _ rfl
  go_wp2_with (at_builtin; refine wp_app rfl _ _ rfl w1.heap.size _ _ rfl O1.out [UInt8.ofNat r] _ BR.out rfl (by simp) ?_)
  intro v2 w2 h1 h2 h3
  have O2 := Lib.hid h1
  have C2 := Lib.hid (C1.out.keepB h2 lx)
  have B2 := Lib.hid (B1.out.trans (h2.mono B1.out.size))
  clear h1 h2 h3 a1 a2 a3
  have a1 := C2.out.cell 1 _ rfl
  have a2 := C2.out.cell 2 _ rfl
  go_wp2_with fail
  refine (EC.out _).mono ?_
  rintro e w3 ⟨v3, rfl, hs3, hb3⟩
  have O3 := Lib.hid (OwnB.below O2.out hb3)
  have C3 := Lib.hid (C2.out.step hb3)
  have B3 := Lib.hid (B2.out.trans (hb3.mono B2.out.size))
  have S3 := Lib.hid hs3
  clear hb3 hs3 a1 a2
  go_wp2_with (at_builtin; refine wp_appv rfl _ _ rfl w1.heap.size _ _ rfl O3.out _ (beN 8 N) rfl S3.out (by rw [LE.out]; simp) ?_)
  intro v4 w4 h1 h2 h3
  obtain ⟨pre, hpre⟩ : ∃ pre, pre = ([] ++ [UInt8.ofNat r]) ++ beN 8 N := ⟨_, rfl⟩
  have O4 := Lib.hid (show OwnB w4 w1.heap.size v4 pre by rw [hpre]; exact h1)
  have C4 := Lib.hid (C3.out.keepB h2 lx)
  have B4 := Lib.hid (B3.out.trans (h2.mono (by omega)))
  have HP := Lib.hid hpre
  have lp : pre.length ≤ 20 := by rw [hpre, List.length_append, LE.out]; simp
  clear h1 h2 h3 hpre
  go_wp2_with fail
  go_loopw [6, 7] (fun b i wr => DgRel2 w w.heap.size w1.heap.size pre D [.bool false, .string d, .int .i64 p, .int .i64 r] b i wr) (fun _ i _ => D.length - (intOf i).toNat)
  case atStart => exact ⟨0, Nat.zero_le _, rfl, by rw [List.take_zero, List.append_nil]; exact O4.out, B4.out, C4.out⟩
  case round =>
    obtain ⟨k, hk, rfl, hown, hbl, hcs⟩ := hrel
    have HO := Lib.hid hown
    have HB := Lib.hid hbl
    have HC := Lib.hid hcs
    have hlen : (pre ++ D.take k).length ≤ 3000000 := by rw [List.length_append, List.length_take]; omega
    clear hown hbl hcs
    rw [← SD.out] at hk
    have a1 := HC.out.cell 1 _ rfl
    by_cases hlt : k < d.size
    · have hsn : pre ++ D.take (k + 1) = (pre ++ D.take k) ++ [d[k]] := by
        have hlD : k < D.length := by rw [← SD.out]; exact hlt
        rw [List.take_succ_eq_append_getElem hlD, ← List.append_assoc]
        congr 2
        rw [← get_atB d k hlt, LD.out]
        unfold atB
        rw [List.getD_eq_getElem?_getD, List.getElem?_eq_getElem hlD]; rfl
      have HS := Lib.hid hsn
      clear hsn
      generalize pre ++ D.take k = L at *
      go_wp2_with (at_builtin; refine wp_app rfl _ _ rfl w1.heap.size _ _ rfl HO.out [d[k]] _ rfl rfl (by simp; omega) ?_)
      intro v' w' h1 h2 h3
      have KR := Lib.hid (show DgRel2 w w.heap.size w1.heap.size pre D [.bool false, .string d, .int .i64 p, .int .i64 r] v' (.int .i64 ((k : Int) + 1)) w' from ⟨k + 1, by rw [← SD.out]; omega, by go_num, by rw [HS.out]; exact h1, HB.out.trans (h2.mono (by omega)), HC.out.keepB h2 lx⟩)
      have ml := SD.out
      clear h1 h2 h3 a1
      go_wp2_with fail
      exact ⟨KR.out, by simp [intOf]; omega⟩
    · have ek : D.take k = D := List.take_of_length_le (by rw [← SD.out]; omega)
      obtain ⟨L, hL⟩ : ∃ L, L = (pre ++ D.take k) ++ [0] := ⟨_, rfl⟩
      have EL := Lib.hid (show embL false D p r true = L by
        unfold embL
        rw [hL, ek, HP.out, ← HN.out]
        simp)
      have hL1 : L.length ≤ 3000001 := by rw [hL, List.length_append]; simp; omega
      have hL0 : L ≠ [] := by rw [hL]; simp
      rw [EL.out] at EN
      clear ek
      have HLL := Lib.hid hL
      generalize pre ++ D.take k = L0 at *
      clear hL
      go_wp2_with (at_builtin; refine wp_app rfl _ _ rfl w1.heap.size _ _ rfl HO.out [0] _ rfl rfl (by simp; omega) ?_)
      intro v5 w5 h1 h2 h3
      have O5 := Lib.hid (show OwnB w5 w1.heap.size v5 L by rw [HLL.out]; exact h1)
      have B5 := Lib.hid (HB.out.trans (h2.mono (by omega)))
      clear h1 h2 h3 a1
      have hd := dig_back w5 96 (by omega)
      have hbk := (O5.out.alloc (Obj.cells #[.int .u8 96] 5)).back hL0
      have B6 := Lib.hid (B5.out.alloc B5.out.size (Obj.cells #[.int .u8 96] 5))
      have ec : bs [UInt8.ofNat (96 : Int).toNat] ++ bs L = bs (96 :: L) := bs_cat [96] L
      have ECC := Lib.hid ec
      have z1 : (bs [UInt8.ofNat (96 : Int).toNat]).size ≤ 1 := by rw [bs_size]; exact Nat.le_refl 1
      have z2 : (bs L).size ≤ 3000001 := by rw [bs_size]; exact hL1
      generalize bs [UInt8.ofNat (96 : Int).toNat] = S1 at *
      generalize bs L = S2 at *
      clear ec
      go_wp2_with fail
      go_ret
      exact ⟨by rw [EN.out, ← ECC.out]; rfl, B6.out⟩

set_option maxHeartbeats 3200000 in
theorem embedded_n_s (D : List UInt8) (d : ByteArray) (ed : d = bs D) (p : Int) (r : Nat) (w : World) (hne : D ≠ []) (hl : D.length ≤ 2000000) (hp : -1000000000000000000 ≤ p ∧ p ≤ 1000000000000000000) (hr : r ≤ 10) :
    Calls Tryd.prog 59 #[.agg #[.bool true, .string d, .int .i64 p, .int .i64 r], .bool false] w (RetBelow w (.string (bs (embN true D p r false)))) := by
  have SG := Lib.hid (fun W => sign_ok true D p r W)
  unfold numV at SG
  rw [← ed] at SG
  have hsg : sgn true D = -1 := by unfold sgn; rw [if_neg hne]; rfl
  rw [hsg] at SG
  have EN := Lib.hid (show embN true D p r false = 64 :: (embL true D p r false).map (255 - ·) by unfold embN; rw [if_neg hne]; rfl)
  have LD := Lib.hid (show d.data.toList = D by rw [ed, bs_list])
  have sd : d.size = D.length := by rw [ed, bs_size]
  have SD := Lib.hid sd
  have sl : d.size ≤ 2000000 := by rw [sd]; exact hl
  obtain ⟨N, hN⟩ : ∃ N : Nat, N = (p + 4611686018427387904).toNat := ⟨_, rfl⟩
  have hN2 : N < 2 ^ 64 := by omega
  have EC := Lib.hid (fun W => eight_ok N hN2 W)
  have LE := Lib.hid (show (beN 8 N).length = 8 by rw [beN8 N hN2]; rfl)
  have E1 : IntKind.u64.wrap (IntKind.u64.wrap p + 4611686018427387904) = (N : Int) := by
    unfold IntKind.wrap
    simp [IntKind.bits, IntKind.signed]
    omega
  have HE1 := Lib.hid E1
  have HN := Lib.hid hN
  clear E1 hN hN2 hsg ed sd hne hp
  obtain ⟨q, hq⟩ : ∃ q, q = IntKind.u64.wrap p := ⟨_, rfl⟩
  have E0 : IntKind.u64.wrap p = q := hq.symm
  have E1 : IntKind.u64.wrap (q + 4611686018427387904) = (N : Int) := by rw [hq]; exact HE1.out
  clear hq HE1
  have C0 := Lib.hid (CellsAt.new w [.bool true, .string d, .int .i64 p, .int .i64 r] 77)
  have B0 := Lib.hid ((Below.refl w.heap.size w).alloc (Nat.le_refl _) (Obj.cells #[.bool true, .string d, .int .i64 p, .int .i64 r] 77))
  go_enter Tryd.func59, Tryd.ntmps59
  go_upto_region 1 with fail
  generalize hX : w.alloc (Obj.cells #[.bool true, .string d, .int .i64 p, .int .i64 r] 77) = x at *
  clear hX
  have a0 := C0.out.cell 0 _ rfl
  have a1 := C0.out.cell 1 _ rfl
  have a2 := C0.out.cell 2 _ rfl
  have a3 := C0.out.cell 3 _ rfl
  go_wp2_with fail
  refine (SG.out _).mono ?_
  rintro e w1 ⟨rfl, hb1⟩
  have C1 := Lib.hid (C0.out.step hb1)
  have B1 := Lib.hid (B0.out.trans (hb1.mono B0.out.size))
  have O1 := Lib.hid (OwnB.nil w1)
  clear hb1 a0 a1 a2 a3
  have lx : w.heap.size < w1.heap.size := C1.out.lt
  have a1 := C1.out.cell 1 _ rfl
  have a2 := C1.out.cell 2 _ rfl
  have a3 := C1.out.cell 3 _ rfl
  go_wp2_with fail
  refine (EC.out _).mono ?_
  rintro e w3 ⟨v3, rfl, hs3, hb3⟩
  have O3 := Lib.hid (OwnB.below O1.out hb3)
  have C3 := Lib.hid (C1.out.step hb3)
  have B3 := Lib.hid (B1.out.trans (hb3.mono B1.out.size))
  have S3 := Lib.hid hs3
  clear hb3 hs3 a1 a2 a3
  go_wp2_with (at_builtin; refine wp_appv rfl _ _ rfl w1.heap.size _ _ rfl O3.out _ (beN 8 N) rfl S3.out (by rw [LE.out]; simp) ?_)
  intro v4 w4 h1 h2 h3
  obtain ⟨pre, hpre⟩ : ∃ pre, pre = [] ++ beN 8 N := ⟨_, rfl⟩
  have O4 := Lib.hid (show OwnB w4 w1.heap.size v4 pre by rw [hpre]; exact h1)
  have C4 := Lib.hid (C3.out.keepB h2 lx)
  have B4 := Lib.hid (B3.out.trans (h2.mono (by omega)))
  have HP := Lib.hid hpre
  have lp : pre.length ≤ 20 := by rw [hpre, List.length_append, LE.out]; simp
  clear h1 h2 h3 hpre
  go_wp2_with fail
  go_loopw [6, 7] (fun b i wr => DgRel2 w w.heap.size w1.heap.size pre D [.bool true, .string d, .int .i64 p, .int .i64 r] b i wr) (fun _ i _ => D.length - (intOf i).toNat)
  case atStart => exact ⟨0, Nat.zero_le _, rfl, by rw [List.take_zero, List.append_nil]; exact O4.out, B4.out, C4.out⟩
  case round =>
    obtain ⟨k, hk, rfl, hown, hbl, hcs⟩ := hrel
    have HO := Lib.hid hown
    have HB := Lib.hid hbl
    have HC := Lib.hid hcs
    have hlen : (pre ++ D.take k).length ≤ 3000000 := by rw [List.length_append, List.length_take]; omega
    clear hown hbl hcs
    rw [← SD.out] at hk
    have a1 := HC.out.cell 1 _ rfl
    by_cases hlt : k < d.size
    · have hsn : pre ++ D.take (k + 1) = (pre ++ D.take k) ++ [d[k]] := by
        have hlD : k < D.length := by rw [← SD.out]; exact hlt
        rw [List.take_succ_eq_append_getElem hlD, ← List.append_assoc]
        congr 2
        rw [← get_atB d k hlt, LD.out]
        unfold atB
        rw [List.getD_eq_getElem?_getD, List.getElem?_eq_getElem hlD]; rfl
      have HS := Lib.hid hsn
      clear hsn
      generalize pre ++ D.take k = L at *
      go_wp2_with (at_builtin; refine wp_app rfl _ _ rfl w1.heap.size _ _ rfl HO.out [d[k]] _ rfl rfl (by simp; omega) ?_)
      intro v' w' h1 h2 h3
      have KR := Lib.hid (show DgRel2 w w.heap.size w1.heap.size pre D [.bool true, .string d, .int .i64 p, .int .i64 r] v' (.int .i64 ((k : Int) + 1)) w' from ⟨k + 1, by rw [← SD.out]; omega, by go_num, by rw [HS.out]; exact h1, HB.out.trans (h2.mono (by omega)), HC.out.keepB h2 lx⟩)
      have ml := SD.out
      clear h1 h2 h3 a1
      go_wp2_with fail
      exact ⟨KR.out, by simp [intOf]; omega⟩
    · have ek : D.take k = D := List.take_of_length_le (by rw [← SD.out]; omega)
      obtain ⟨L, hL⟩ : ∃ L, L = (pre ++ D.take k) ++ [0] := ⟨_, rfl⟩
      have EL := Lib.hid (show embL true D p r false = L by
        unfold embL
        rw [hL, ek, HP.out, ← HN.out]
        simp)
      have hL1 : L.length ≤ 3000001 := by rw [hL, List.length_append]; simp; omega
      have hL0 : L ≠ [] := by rw [hL]; simp
      rw [EL.out] at EN
      clear ek
      have HLL := Lib.hid hL
      generalize pre ++ D.take k = L0 at *
      clear hL
      go_wp2_with (at_builtin; refine wp_app rfl _ _ rfl w1.heap.size _ _ rfl HO.out [0] _ rfl rfl (by simp; omega) ?_)
      intro v5 w5 h1 h2 h3
      have O5 := Lib.hid (show OwnB w5 w1.heap.size v5 L by rw [HLL.out]; exact h1)
      have B5 := Lib.hid (HB.out.trans (h2.mono (by omega)))
      clear h1 h2 h3 a1
      obtain ⟨g, cap, rfl, hg1, hg2⟩ := O5.out.1.form (List.length_pos_iff.2 hL0)
      have hlw : w.heap.size ≤ w1.heap.size := by omega
      have HW := Lib.hid hlw
      clear hg1 hg2 hlw
      go_wp2_with fail
      go_loopw [8] (fun i wq => TzRel w w1.heap.size w.heap.size g cap L i wq) (fun i _ => L.length - (intOf i).toNat)
      case atStart => exact ⟨0, Nat.zero_le _, rfl, by rw [turnZ_zero]; exact O5.out, B5.out⟩
      case round =>
        obtain ⟨j, hj, rfl, ho, hb⟩ := hrel
        have HO6 := Lib.hid ho
        have HB6 := Lib.hid hb
        clear ho hb
        by_cases hjl : j < L.length
        · obtain ⟨y, hy, hby, c1, c2⟩ : ∃ y : Nat, y = L[j].toNat ∧ y < 256 ∧ wr.cell? ⟨g, j, none⟩ = some (.int .u8 (y : Int)) ∧ wr.frozen? ⟨g, j, none⟩ = false := ⟨_, rfl, L[j].toNat_lt, (tz_cell HO6.out hjl).1, (tz_cell HO6.out hjl).2⟩
          have HX := Lib.hid hy
          have HLT := Lib.hid hjl
          clear hy
          go_wp2_with fail
          refine ⟨tz_next HO6.out HB6.out HW.out HLT.out _ rfl _ ?_, ?_⟩
          · rw [← HX.out]
          · have := HLT.out; simp [intOf]; omega
        · have hke : j = L.length := by omega
          subst hke
          have O6 := HO6.out
          rw [turnZ_all] at O6
          have hbk := (O6.alloc (Obj.cells #[.int .u8 64] 5))
          have hbk2 : (convert 23 9 (.slice (some ⟨g, 0, none⟩) L.length cap)).run Tryd.prog (wr.alloc (Obj.cells #[.int .u8 64] 5)) = .ok (.string (bs (L.map (255 - ·)))) (wr.alloc (Obj.cells #[.int .u8 64] 5)) := hbk.back (by simpa using hL0)
          have hd := dig_back wr 64 (by omega)
          have B7 := Lib.hid (HB6.out.alloc HB6.out.size (Obj.cells #[.int .u8 64] 5))
          have ec : bs [UInt8.ofNat (64 : Int).toNat] ++ bs (L.map (255 - ·)) = bs (64 :: L.map (255 - ·)) := bs_cat [64] _
          have ECC := Lib.hid ec
          have z1 : (bs [UInt8.ofNat (64 : Int).toNat]).size ≤ 1 := by rw [bs_size]; exact Nat.le_refl 1
          have z2 : (bs (L.map (255 - ·))).size ≤ 3000001 := by rw [bs_size, List.length_map]; exact hL1
          generalize bs [UInt8.ofNat (64 : Int).toNat] = S1 at *
          generalize bs (L.map (255 - ·)) = S2 at *
          clear ec hbk O6
          go_wp2_with fail
          go_ret
          exact ⟨by rw [EN.out, ← ECC.out]; rfl, B7.out⟩

set_option maxHeartbeats 3200000 in
theorem embedded_n_h (D : List UInt8) (d : ByteArray) (ed : d = bs D) (p : Int) (r : Nat) (w : World) (hne : D ≠ []) (hl : D.length ≤ 2000000) (hp : -1000000000000000000 ≤ p ∧ p ≤ 1000000000000000000) (hr : r ≤ 10) :
    Calls Tryd.prog 59 #[.agg #[.bool true, .string d, .int .i64 p, .int .i64 r], .bool true] w (RetBelow w (.string (bs (embN true D p r true)))) := by
  have SG := Lib.hid (fun W => sign_ok true D p r W)
  unfold numV at SG
  rw [← ed] at SG
  have hsg : sgn true D = -1 := by unfold sgn; rw [if_neg hne]; rfl
  rw [hsg] at SG
  have EN := Lib.hid (show embN true D p r true = 64 :: (embL true D p r true).map (255 - ·) by unfold embN; rw [if_neg hne]; rfl)
  have LD := Lib.hid (show d.data.toList = D by rw [ed, bs_list])
  have sd : d.size = D.length := by rw [ed, bs_size]
  have SD := Lib.hid sd
  have sl : d.size ≤ 2000000 := by rw [sd]; exact hl
  obtain ⟨N, hN⟩ : ∃ N : Nat, N = (p + 4611686018427387904).toNat := ⟨_, rfl⟩
  have hN2 : N < 2 ^ 64 := by omega
  have EC := Lib.hid (fun W => eight_ok N hN2 W)
  have LE := Lib.hid (show (beN 8 N).length = 8 by rw [beN8 N hN2]; rfl)
  have E1 : IntKind.u64.wrap (IntKind.u64.wrap p + 4611686018427387904) = (N : Int) := by
    unfold IntKind.wrap
    simp [IntKind.bits, IntKind.signed]
    omega
  have HE1 := Lib.hid E1
  have HN := Lib.hid hN
  clear E1 hN hN2 hsg ed sd hne hp
  obtain ⟨q, hq⟩ : ∃ q, q = IntKind.u64.wrap p := ⟨_, rfl⟩
  have E0 : IntKind.u64.wrap p = q := hq.symm
  have E1 : IntKind.u64.wrap (q + 4611686018427387904) = (N : Int) := by rw [hq]; exact HE1.out
  clear hq HE1
  have wr1 : IntKind.u8.wrap (r : Int) = (r : Int) := by unfold IntKind.wrap; simp [IntKind.bits, IntKind.signed]; omega
  have br : ((UInt8.ofNat r).toNat : Int) = (r : Int) := by rw [UInt8.toNat_ofNat', Nat.mod_eq_of_lt (by omega)]
  have BR := Lib.hid (show (#[Value.int .u8 (r : Int)] : Array Value) = (byV [UInt8.ofNat r]).toArray by rw [← br]; rfl)
  clear br
  have C0 := Lib.hid (CellsAt.new w [.bool true, .string d, .int .i64 p, .int .i64 r] 77)
  have B0 := Lib.hid ((Below.refl w.heap.size w).alloc (Nat.le_refl _) (Obj.cells #[.bool true, .string d, .int .i64 p, .int .i64 r] 77))
  go_enter Tryd.func59, Tryd.ntmps59
  go_upto_region 1 with fail
  generalize hX : w.alloc (Obj.cells #[.bool true, .string d, .int .i64 p, .int .i64 r] 77) = x at *
  clear hX
  have a0 := C0.out.cell 0 _ rfl
  have a1 := C0.out.cell 1 _ rfl
  have a2 := C0.out.cell 2 _ rfl
  have a3 := C0.out.cell 3 _ rfl
  go_wp2_with fail
  refine (SG.out _).mono ?_
  rintro e w1 ⟨rfl, hb1⟩
  have C1 := Lib.hid (C0.out.step hb1)
  have B1 := Lib.hid (B0.out.trans (hb1.mono B0.out.size))
  have O1 := Lib.hid (OwnB.nil w1)
  clear hb1 a0 a1 a2 a3
  have lx : w.heap.size < w1.heap.size := C1.out.lt
  have a1 := C1.out.cell 1 _ rfl
  have a2 := C1.out.cell 2 _ rfl
  have a3 := C1.out.cell 3 _ rfl
  go_wp2_with (at_builtin; refine wp_app rfl _ _ rfl w1.heap.size _ _ rfl O1.out [UInt8.ofNat r] _ BR.out rfl (by simp) ?_)
  intro v2 w2 h1 h2 h3
  have O2 := Lib.hid h1
  have C2 := Lib.hid (C1.out.keepB h2 lx)
  have B2 := Lib.hid (B1.out.trans (h2.mono B1.out.size))
  clear h1 h2 h3 a1 a2 a3
  have a1 := C2.out.cell 1 _ rfl
  have a2 := C2.out.cell 2 _ rfl
  go_wp2_with fail
  refine (EC.out _).mono ?_
  rintro e w3 ⟨v3, rfl, hs3, hb3⟩
  have O3 := Lib.hid (OwnB.below O2.out hb3)
  have C3 := Lib.hid (C2.out.step hb3)
  have B3 := Lib.hid (B2.out.trans (hb3.mono B2.out.size))
  have S3 := Lib.hid hs3
  clear hb3 hs3 a1 a2
  go_wp2_with (at_builtin; refine wp_appv rfl _ _ rfl w1.heap.size _ _ rfl O3.out _ (beN 8 N) rfl S3.out (by rw [LE.out]; simp) ?_)
  intro v4 w4 h1 h2 h3
  obtain ⟨pre, hpre⟩ : ∃ pre, pre = ([] ++ [UInt8.ofNat r]) ++ beN 8 N := ⟨_, rfl⟩
  have O4 := Lib.hid (show OwnB w4 w1.heap.size v4 pre by rw [hpre]; exact h1)
  have C4 := Lib.hid (C3.out.keepB h2 lx)
  have B4 := Lib.hid (B3.out.trans (h2.mono (by omega)))
  have HP := Lib.hid hpre
  have lp : pre.length ≤ 20 := by rw [hpre, List.length_append, LE.out]; simp
  clear h1 h2 h3 hpre
  go_wp2_with fail
  go_loopw [6, 7] (fun b i wr => DgRel2 w w.heap.size w1.heap.size pre D [.bool true, .string d, .int .i64 p, .int .i64 r] b i wr) (fun _ i _ => D.length - (intOf i).toNat)
  case atStart => exact ⟨0, Nat.zero_le _, rfl, by rw [List.take_zero, List.append_nil]; exact O4.out, B4.out, C4.out⟩
  case round =>
    obtain ⟨k, hk, rfl, hown, hbl, hcs⟩ := hrel
    have HO := Lib.hid hown
    have HB := Lib.hid hbl
    have HC := Lib.hid hcs
    have hlen : (pre ++ D.take k).length ≤ 3000000 := by rw [List.length_append, List.length_take]; omega
    clear hown hbl hcs
    rw [← SD.out] at hk
    have a1 := HC.out.cell 1 _ rfl
    by_cases hlt : k < d.size
    · have hsn : pre ++ D.take (k + 1) = (pre ++ D.take k) ++ [d[k]] := by
        have hlD : k < D.length := by rw [← SD.out]; exact hlt
        rw [List.take_succ_eq_append_getElem hlD, ← List.append_assoc]
        congr 2
        rw [← get_atB d k hlt, LD.out]
        unfold atB
        rw [List.getD_eq_getElem?_getD, List.getElem?_eq_getElem hlD]; rfl
      have HS := Lib.hid hsn
      clear hsn
      generalize pre ++ D.take k = L at *
      go_wp2_with (at_builtin; refine wp_app rfl _ _ rfl w1.heap.size _ _ rfl HO.out [d[k]] _ rfl rfl (by simp; omega) ?_)
      intro v' w' h1 h2 h3
      have KR := Lib.hid (show DgRel2 w w.heap.size w1.heap.size pre D [.bool true, .string d, .int .i64 p, .int .i64 r] v' (.int .i64 ((k : Int) + 1)) w' from ⟨k + 1, by rw [← SD.out]; omega, by go_num, by rw [HS.out]; exact h1, HB.out.trans (h2.mono (by omega)), HC.out.keepB h2 lx⟩)
      have ml := SD.out
      clear h1 h2 h3 a1
      go_wp2_with fail
      exact ⟨KR.out, by simp [intOf]; omega⟩
    · have ek : D.take k = D := List.take_of_length_le (by rw [← SD.out]; omega)
      obtain ⟨L, hL⟩ : ∃ L, L = (pre ++ D.take k) ++ [0] := ⟨_, rfl⟩
      have EL := Lib.hid (show embL true D p r true = L by
        unfold embL
        rw [hL, ek, HP.out, ← HN.out]
        simp)
      have hL1 : L.length ≤ 3000001 := by rw [hL, List.length_append]; simp; omega
      have hL0 : L ≠ [] := by rw [hL]; simp
      rw [EL.out] at EN
      clear ek
      have HLL := Lib.hid hL
      generalize pre ++ D.take k = L0 at *
      clear hL
      go_wp2_with (at_builtin; refine wp_app rfl _ _ rfl w1.heap.size _ _ rfl HO.out [0] _ rfl rfl (by simp; omega) ?_)
      intro v5 w5 h1 h2 h3
      have O5 := Lib.hid (show OwnB w5 w1.heap.size v5 L by rw [HLL.out]; exact h1)
      have B5 := Lib.hid (HB.out.trans (h2.mono (by omega)))
      clear h1 h2 h3 a1
      obtain ⟨g, cap, rfl, hg1, hg2⟩ := O5.out.1.form (List.length_pos_iff.2 hL0)
      have hlw : w.heap.size ≤ w1.heap.size := by omega
      have HW := Lib.hid hlw
      clear hg1 hg2 hlw
      go_wp2_with fail
      go_loopw [8] (fun i wq => TzRel w w1.heap.size w.heap.size g cap L i wq) (fun i _ => L.length - (intOf i).toNat)
      case atStart => exact ⟨0, Nat.zero_le _, rfl, by rw [turnZ_zero]; exact O5.out, B5.out⟩
      case round =>
        obtain ⟨j, hj, rfl, ho, hb⟩ := hrel
        have HO6 := Lib.hid ho
        have HB6 := Lib.hid hb
        clear ho hb
        by_cases hjl : j < L.length
        · obtain ⟨y, hy, hby, c1, c2⟩ : ∃ y : Nat, y = L[j].toNat ∧ y < 256 ∧ wr.cell? ⟨g, j, none⟩ = some (.int .u8 (y : Int)) ∧ wr.frozen? ⟨g, j, none⟩ = false := ⟨_, rfl, L[j].toNat_lt, (tz_cell HO6.out hjl).1, (tz_cell HO6.out hjl).2⟩
          have HX := Lib.hid hy
          have HLT := Lib.hid hjl
          clear hy
          go_wp2_with fail
          refine ⟨tz_next HO6.out HB6.out HW.out HLT.out _ rfl _ ?_, ?_⟩
          · rw [← HX.out]
          · have := HLT.out; simp [intOf]; omega
        · have hke : j = L.length := by omega
          subst hke
          have O6 := HO6.out
          rw [turnZ_all] at O6
          have hbk := (O6.alloc (Obj.cells #[.int .u8 64] 5))
          have hbk2 : (convert 23 9 (.slice (some ⟨g, 0, none⟩) L.length cap)).run Tryd.prog (wr.alloc (Obj.cells #[.int .u8 64] 5)) = .ok (.string (bs (L.map (255 - ·)))) (wr.alloc (Obj.cells #[.int .u8 64] 5)) := hbk.back (by simpa using hL0)
          have hd := dig_back wr 64 (by omega)
          have B7 := Lib.hid (HB6.out.alloc HB6.out.size (Obj.cells #[.int .u8 64] 5))
          have ec : bs [UInt8.ofNat (64 : Int).toNat] ++ bs (L.map (255 - ·)) = bs (64 :: L.map (255 - ·)) := bs_cat [64] _
          have ECC := Lib.hid ec
          have z1 : (bs [UInt8.ofNat (64 : Int).toNat]).size ≤ 1 := by rw [bs_size]; exact Nat.le_refl 1
          have z2 : (bs (L.map (255 - ·))).size ≤ 3000001 := by rw [bs_size, List.length_map]; exact hL1
          generalize bs [UInt8.ofNat (64 : Int).toNat] = S1 at *
          generalize bs (L.map (255 - ·)) = S2 at *
          clear ec hbk O6
          go_wp2_with fail
          go_ret
          exact ⟨by rw [EN.out, ← ECC.out]; rfl, B7.out⟩
end
section

set_option maxRecDepth 100000
def rkC (c : UInt8) : UInt8 := UInt8.ofNat (rankB c)
/-- One pair's bytes. -/
def pE (l : List UInt8) (j : Nat) : List UInt8 := ((plainOf (restN j l)).map rkC ++ [2]) ++ numsE (digsOf (restN j l))
def flatE (l : List UInt8) (k : Nat) : List UInt8 := (List.range k).flatMap (pE l)
theorem flatE_succ (l : List UInt8) (k : Nat) : flatE l (k + 1) = flatE l k ++ pE l k := by
  unfold flatE
  rw [List.range_succ, List.flatMap_append]
  simp
theorem pairE_pE (l : List UInt8) : pE l 0 = pairE l := rfl
theorem flatE_rest (l : List UInt8) (k : Nat) : flatE l (k + 1) = pairE l ++ flatE (restOf l) k := by
  unfold flatE
  rw [List.range_succ_eq_map, List.flatMap_cons, List.flatMap_map]
  rfl
theorem verN_flat : ∀ (na n : Nat) (l : List UInt8), na ≤ n → restN na l = [] → (∀ j, j < na → restN j l ≠ []) → verN n l = flatE l (na + 1)
  | 0, n, l, _, h, _ => by
    have hl : l = [] := h
    subst hl
    cases n <;> rfl
  | na + 1, 0, l, h, _, _ => by omega
  | na + 1, n + 1, l, h, h1, h2 => by
    have hl : l ≠ [] := h2 0 (by omega)
    rw [flatE_rest]
    show (if l = [] then [2, 0] else pairE l ++ verN n (restOf l)) = _
    rw [if_neg hl, verN_flat na n (restOf l) (by omega) h1 (fun j hj => h2 (j + 1) (by omega))]
theorem rest_split (l : List UInt8) : (plainOf l).length + (digsOf l).length + (restOf l).length = l.length := by
  have h1 := congrArg List.length (List.takeWhile_append_dropWhile (p := notDig) (l := l))
  have h2 := congrArg List.length (List.takeWhile_append_dropWhile (p := isDig) (l := l.dropWhile notDig))
  rw [List.length_append] at h1 h2
  unfold plainOf digsOf restOf
  omega
theorem numsE_len (d : List UInt8) : (numsE d).length ≤ 9 + d.length := by
  unfold numsE
  split
  · show 1 ≤ _; omega
  · have := trimL_len d
    simp [beN_len]
    omega
theorem flatE_len (l : List UInt8) : ∀ k, (flatE l k).length + (restN k l).length ≤ 10 * k + l.length
  | 0 => by show 0 + _ ≤ _; have : restN 0 l = l := rfl; rw [this]; omega
  | k + 1 => by
    have h := flatE_len l k
    have hs := rest_split (restN k l)
    have hn := numsE_len (digsOf (restN k l))
    rw [flatE_succ, List.length_append, restN_succ]
    unfold pE
    simp only [List.length_append, List.length_map, List.length_cons, List.length_nil]
    omega

def VrRel (w : World) (C B g n : Nat) (l : List UInt8) (b i : Value) (wr : World) : Prop :=
  ∃ k : Nat, k ≤ n ∧ i = .int .i64 k ∧ OwnB wr B b (flatE l k) ∧ Below C w wr ∧ PrAt wr g l n
def InRel (w : World) (C B g n : Nat) (l P pre : List UInt8) (f : UInt8 → UInt8) (b i : Value) (wr : World) : Prop :=
  ∃ k : Nat, k ≤ P.length ∧ i = .int .i64 k ∧ OwnB wr B b (pre ++ (P.take k).map f) ∧ Below C w wr ∧ PrAt wr g l n
theorem PrAt.keepB {w w' : World} {B g : Nat} {l : List UInt8} {n : Nat} (h : PrAt w g l n) (k : Below B w w') (hg : g < B) : PrAt w' g l n :=
  ⟨Nat.lt_of_lt_of_le h.lt k.size, fun j hj => (k.cell (p := ⟨g, j * 2, none⟩) hg).trans (h.c0 j hj), fun j hj => (k.cell (p := ⟨g, j * 2 + 1, none⟩) hg).trans (h.c1 j hj)⟩
theorem take_map_snoc (pre P : List UInt8) (f : UInt8 → UInt8) (k : Nat) (h : k < P.length) : pre ++ (P.take (k + 1)).map f = (pre ++ (P.take k).map f) ++ [f P[k]] := by
  rw [List.take_succ_eq_append_getElem h, List.map_append, ← List.append_assoc]
  rfl
theorem get_bs (P : List UInt8) (k : Nat) (h : k < (bs P).size) (h' : k < P.length) : (bs P)[k]'h = P[k]'h' := by
  rw [← get_atB (bs P) k h, bs_list]
  unfold atB
  rw [List.getD_eq_getElem?_getD, List.getElem?_eq_getElem h']; rfl
theorem rankC_lt (c : UInt8) : rankB c < 256 := by
  have h : ∀ x : Fin 256, rankB (UInt8.ofNat x) < 256 := by decide +kernel
  have := h ⟨c.toNat, c.toNat_lt⟩
  simpa using this

set_option maxHeartbeats 6400000 in
theorem version_ok (s : ByteArray) (w : World) (hs : s.size ≤ 1048576) : Calls Tryd.prog 61 #[.string s] w (RetBelow w (.string (bs (verN s.data.toList.length s.data.toList)))) := by
  have P1 := Lib.hid (fun W => pairsOf_ok s W hs)
  have el := Lib.size_eq s
  rw [el] at hs
  clear el
  generalize s.data.toList = l at *
  go_enter Tryd.func61, Tryd.ntmps61
  go_wp2_with fail
  refine (P1.out _).mono ?_
  rintro e w1 ⟨v1, na, rfl, hn1, hl1, hne, hrow1, hb1⟩
  obtain ⟨g, cp, rfl, hA⟩ := PrAt.of hrow1
  have HA1 := Lib.hid hA
  have B1 := Lib.hid hb1
  have VE := Lib.hid (verN_flat na l.length l hl1 hn1 hne)
  have O1 := Lib.hid (OwnB.nil w1)
  have lg := hA.lt
  have lw := hb1.size
  have hna : na ≤ 1048576 := Nat.le_trans hl1 hs
  clear hA hrow1 hb1 hn1 hne
  go_wp2_with fail
  go_loopw [4, 5] (fun b i wr => VrRel w w.heap.size w1.heap.size g (na + 1) l b i wr) (fun _ i _ => na + 1 - (intOf i).toNat)
  case atStart => exact ⟨0, Nat.zero_le _, rfl, O1.out, B1.out, HA1.out⟩
  case round =>
    obtain ⟨k, hk, rfl, hown, hbl, hpr⟩ := hrel
    have HO := Lib.hid hown
    have HB := Lib.hid hbl
    have HA := Lib.hid hpr
    have hfl := flatE_len l k
    have hF : (flatE l k).length ≤ 20000000 := by omega
    clear hown hbl hpr hfl
    have tn : decide ((k : Int) < (na : Int) + 1) = decide (k < na + 1) := decide_eq_decide.2 (by omega)
    by_cases hlt : k < na + 1
    · rw [decide_eq_true hlt] at tn
      obtain ⟨P, hP⟩ : ∃ P, P = plainOf (restN k l) := ⟨_, rfl⟩
      obtain ⟨D, hD⟩ : ∃ D, D = digsOf (restN k l) := ⟨_, rfl⟩
      have hrl := restN_len k l
      have hsp := rest_split (restN k l)
      have PL : P.length ≤ 2000000 := by rw [hP]; omega
      have DL : D.length ≤ 2000000 := by rw [hD]; omega
      have PD := Lib.hid (show ∀ x ∈ P, notDig x = true by rw [hP]; exact fun x hx => mem_tw hx)
      have FE := Lib.hid (show flatE l (k + 1) = (flatE l k ++ P.map rkC) ++ [2] ++ numsE D by rw [flatE_succ, hP, hD]; unfold pE; simp)
      have K0 := Lib.hid (show ∀ W, PrAt W g l (na + 1) → W.cell? ⟨g, k * 2, none⟩ = some (.string (bs P)) from fun W h => by rw [hP]; exact h.c0 k hlt)
      have K1 := Lib.hid (show ∀ W, PrAt W g l (na + 1) → W.cell? ⟨g, k * 2 + 1, none⟩ = some (.string (bs D)) from fun W h => by rw [hD]; exact h.c1 k hlt)
      have ZP := Lib.hid (bs_size P)
      clear hP hD hrl hsp
      go_wp2_with fail
      go_loopw [4, 6] (fun b i wr => InRel w w.heap.size w1.heap.size g (na + 1) l P (flatE l k) rkC b i wr) (fun _ i _ => P.length - (intOf i).toNat)
      case atStart => exact ⟨0, Nat.zero_le _, rfl, by rw [List.take_zero, List.map_nil, List.append_nil]; exact HO.out, HB.out, HA.out⟩
      case round =>
        obtain ⟨j, hj, rfl, hown, hbl, hpr⟩ := hrel
        have HO2 := Lib.hid hown
        have HB2 := Lib.hid hbl
        have HA2 := Lib.hid hpr
        have hG : (flatE l k ++ (P.take j).map rkC).length ≤ 30000000 := by rw [List.length_append, List.length_map, List.length_take]; omega
        have c0 := K0.out _ hpr
        clear hown hbl hpr
        by_cases hjl : j < P.length
        · have hjs : j < (bs P).size := by rw [ZP.out]; exact hjl
          have gb := get_bs P j hjs hjl
          have RC := Lib.hid (fun W => rankR_ok P[j] (PD.out _ (List.getElem_mem hjl)) W)
          have HS := Lib.hid (take_map_snoc (flatE l k) P rkC j hjl)
          have rl := rankC_lt P[j]
          have ER := Lib.hid (show rkC P[j] = UInt8.ofNat (rankB P[j]) from rfl)
          generalize P[j] = c at *
          generalize rankB c = rk at *
          have wk : IntKind.u8.wrap (rk : Int) = (rk : Int) := by unfold IntKind.wrap; simp [IntKind.bits, IntKind.signed]; omega
          have BR := Lib.hid (show (#[Value.int .u8 (rk : Int)] : Array Value) = (byV [UInt8.ofNat rk]).toArray by
            show _ = #[Value.int .u8 ((UInt8.ofNat rk).toNat : Int)]
            rw [UInt8.toNat_ofNat', Nat.mod_eq_of_lt (by omega)])
          generalize hL : flatE l k ++ (P.take j).map rkC = L at *
          clear hL
          go_wp2_with fail
          refine (RC.out _).mono ?_
          rintro e w2 ⟨rfl, rfl⟩
          go_wp2_with (at_builtin; refine wp_app rfl _ _ rfl w1.heap.size _ _ rfl HO2.out [UInt8.ofNat rk] _ BR.out rfl (by simp; omega) ?_)
          intro v' w' h1 h2 h3
          have KR := Lib.hid (show InRel w w.heap.size w1.heap.size g (na + 1) l P (flatE l k) rkC v' (.int .i64 ((j : Int) + 1)) w' from ⟨j + 1, hjl, by go_num, by rw [HS.out, ER.out]; exact h1, HB2.out.trans (h2.mono lw), HA2.out.keepB h2 lg⟩)
          clear h1 h2 h3 c0
          go_wp2_with fail
          exact ⟨KR.out, by simp [intOf]; omega⟩
        · have ej : P.take j = P := List.take_of_length_le (by omega)
          have hjs : ¬ j < (bs P).size := by rw [ZP.out]; exact hjl
          rw [ej] at HO2 hG
          obtain ⟨L, hL⟩ : ∃ L, L = flatE l k ++ P.map rkC := ⟨_, rfl⟩
          rw [← hL] at HO2 hG FE
          clear ej hL
          go_wp2_with (at_builtin; refine wp_app rfl _ _ rfl w1.heap.size _ _ rfl HO2.out [2] _ rfl rfl (by simp; omega) ?_)
          intro v2 w2 h1 h2 h3
          obtain ⟨L2, hL2⟩ : ∃ L2, L2 = L ++ [2] := ⟨_, rfl⟩
          have O3 := Lib.hid (show OwnB w2 w1.heap.size v2 L2 by rw [hL2]; exact h1)
          have B3 := Lib.hid (HB2.out.trans (h2.mono lw))
          have A3 := Lib.hid (HA2.out.keepB h2 lg)
          have FE2 := Lib.hid (show flatE l (k + 1) = L2 ++ numsE D by rw [FE.out, hL2])
          have h2l : L2.length ≤ 30000001 := by rw [hL2, List.length_append]; simp; omega
          clear h1 h2 h3 c0 hL2
          have c1 := K1.out _ A3.out
          by_cases hd : D = []
          · have hem : (bs D).toList.isEmpty = true ∧ ((bs D).toList == []) = true ∧ (bs D).toList = [] := by rw [hd, Lib.toList_data, bs_list]; exact ⟨rfl, rfl, rfl⟩
            obtain ⟨g1, g2, g3⟩ := hem
            have FN := Lib.hid (show flatE l (k + 1) = L2 ++ [0] by rw [FE2.out]; unfold numsE; rw [if_pos hd])
            generalize bs D = dd at *
            clear hd
            go_wp2_with (at_builtin; refine wp_app rfl _ _ rfl w1.heap.size _ _ rfl O3.out [0] _ rfl rfl (by simp; omega) ?_)
            intro v4 w4 h1 h2 h3
            have KR := Lib.hid (show VrRel w w.heap.size w1.heap.size g (na + 1) l v4 (.int .i64 ((k : Int) + 1)) w4 from ⟨k + 1, hlt, by go_num, by rw [FN.out]; exact h1, B3.out.trans (h2.mono lw), A3.out.keepB h2 lg⟩)
            clear h1 h2 h3 c1 tn
            go_wp2_with fail
            exact ⟨KR.out, by simp [intOf]; omega⟩
          · obtain ⟨g1, g2, g3⟩ := bs_more hd
            have FN := Lib.hid (show flatE l (k + 1) = ((L2 ++ [1]) ++ beN 8 (trimL D).length) ++ trimL D by rw [FE2.out]; unfold numsE; rw [if_neg hd]; simp)
            have zz : spanN isZero D ≤ (bs D).size := by rw [bs_size]; exact spanN_le _ _
            have et : (bs D).extract (spanN isZero D) (bs D).size = bs (trimL D) := by
              rw [extract_bs, bs_list, bs_size, trimL_span, List.take_of_length_le]
              rw [← trimL_span, List.length_drop]; omega
            have ZC := Lib.hid (fun W => same_q (zeros_ok (bs D) W (by rw [bs_size]; unfold maxLen; omega)))
            rw [bs_list] at ZC
            have sD : (bs D).size ≤ 2000000 := by rw [bs_size]; exact DL
            have tl : (trimL D).length ≤ 2000000 := by have := trimL_len D; omega
            have st := bs_size (trimL D)
            have ST := Lib.hid st
            have EC := Lib.hid (fun W => eight_ok (trimL D).length (by omega) W)
            rw [← st] at EC
            have LE := Lib.hid (show (beN 8 (trimL D).length).length = 8 by rw [beN8 _ (by omega)]; rfl)
            have wl : IntKind.u64.wrap ((bs (trimL D)).size : Int) = ((bs (trimL D)).size : Int) := by
              rw [st]
              unfold IntKind.wrap
              simp [IntKind.bits, IntKind.signed]
              omega
            have tl2 : (bs (trimL D)).size ≤ 2000000 := by rw [st]; exact tl
            rw [← st] at LE FN
            have TT := Lib.hid (bs_list (trimL D))
            generalize hTD : trimL D = T at *
            clear hTD st
            generalize spanN isZero D = z at *
            generalize bs D = dd at *
            generalize bs T = tt at *
            clear hd
            go_upto_region 13 with fail
            go_quiet ((go_at_call 57; exact Calls.quiet_of_same (ZC.out _)))
            have O5 := Lib.hid (OwnB.below O3.out (below_drewN w2 nq))
            have B5 := Lib.hid (bdrewB B3.out nq)
            have A5 := Lib.hid (A3.out.below (below_drewN w2 nq))
            generalize w2.drewN nq = w5 at *
            clear c1 g1 g2 g3 et zz
            go_wp2_with (at_builtin; refine wp_app rfl _ _ rfl w1.heap.size _ _ rfl O5.out [1] _ rfl rfl (by simp; omega) ?_)
            intro v6 w6 h1 h2 h3
            obtain ⟨L3, hL3⟩ : ∃ L3, L3 = L2 ++ [1] := ⟨_, rfl⟩
            have O6 := Lib.hid (show OwnB w6 w1.heap.size v6 L3 by rw [hL3]; exact h1)
            have B6 := Lib.hid (B5.out.trans (h2.mono lw))
            have A6 := Lib.hid (A5.out.keepB h2 lg)
            have h3l : L3.length ≤ 30000002 := by rw [hL3, List.length_append]; simp; omega
            rw [← hL3] at FN
            clear h1 h2 h3 hL3
            go_wp2_with fail
            refine (EC.out _).mono ?_
            rintro e w7 ⟨v7, rfl, hs7, hb7⟩
            have O7 := Lib.hid (OwnB.below O6.out hb7)
            have B7 := Lib.hid (B6.out.trans (hb7.mono B6.out.size))
            have A7 := Lib.hid (A6.out.below hb7)
            have S7 := Lib.hid hs7
            clear hb7 hs7
            go_wp2_with (at_builtin; refine wp_appv rfl _ _ rfl w1.heap.size _ _ rfl O7.out _ _ rfl S7.out (by rw [LE.out]; omega) ?_)
            intro v8 w8 h1 h2 h3
            obtain ⟨L4, hL4⟩ : ∃ L4, L4 = L3 ++ beN 8 tt.size := ⟨_, rfl⟩
            have O8 := Lib.hid (show OwnB w8 w1.heap.size v8 L4 by rw [hL4]; exact h1)
            have B8 := Lib.hid (B7.out.trans (h2.mono lw))
            have A8 := Lib.hid (A7.out.keepB h2 lg)
            have h4l : L4.length ≤ 30000010 := by rw [hL4, List.length_append, LE.out]; omega
            rw [← hL4] at FN
            clear h1 h2 h3 hL4
            go_wp2_with fail
            go_loopw [4, 8] (fun b i wr => InRel w w.heap.size w1.heap.size g (na + 1) l T L4 id b i wr) (fun _ i _ => T.length - (intOf i).toNat)
            case atStart => exact ⟨0, Nat.zero_le _, rfl, by rw [List.take_zero, List.map_nil, List.append_nil]; exact O8.out, B8.out, A8.out⟩
            case round =>
              obtain ⟨m, hm, rfl, hown, hbl, hpr⟩ := hrel
              have HO9 := Lib.hid hown
              have HB9 := Lib.hid hbl
              have HA9 := Lib.hid hpr
              have hG9 : (L4 ++ (T.take m).map id).length ≤ 40000000 := by rw [List.length_append, List.length_map, List.length_take]; omega
              clear hown hbl hpr
              by_cases hml : m < T.length
              · have hms : m < tt.size := by rw [ST.out]; exact hml
                have gb : tt[m] = T[m] := by
                  rw [← get_atB tt m hms, TT.out]
                  unfold atB
                  rw [List.getD_eq_getElem?_getD, List.getElem?_eq_getElem hml]; rfl
                have HS := Lib.hid (take_map_snoc L4 T id m hml)
                have GB := Lib.hid gb
                generalize T[m] = c at *
                clear gb
                have gb := GB.out
                generalize hL5 : L4 ++ (T.take m).map id = L5 at *
                clear hL5
                go_wp2_with (at_builtin; refine wp_app rfl _ _ rfl w1.heap.size _ _ rfl HO9.out [c] _ rfl rfl (by simp; omega) ?_)
                intro v' w' h1 h2 h3
                have KR := Lib.hid (show InRel w w.heap.size w1.heap.size g (na + 1) l T L4 id v' (.int .i64 ((m : Int) + 1)) w' from ⟨m + 1, hml, by go_num, by rw [HS.out]; exact h1, HB9.out.trans (h2.mono lw), HA9.out.keepB h2 lg⟩)
                clear h1 h2 h3
                go_wp2_with fail
                exact ⟨KR.out, by simp [intOf]; omega⟩
              · have em : T.take m = T := List.take_of_length_le (by omega)
                have hms : ¬ m < tt.size := by rw [ST.out]; exact hml
                rw [em, List.map_id, ← FN.out] at HO9
                have KR := Lib.hid (show VrRel w w.heap.size w1.heap.size g (na + 1) l _ (.int .i64 ((k : Int) + 1)) wr from ⟨k + 1, hlt, by go_num, HO9.out, HB9.out, HA9.out⟩)
                clear em tn
                go_wp2_with fail
                exact ⟨KR.out, by simp [intOf]; omega⟩
    · rw [decide_eq_false hlt] at tn
      have ek : k = na + 1 := by omega
      have hback := HO.out.back (by
        rw [ek, flatE_succ]
        intro h
        have := congrArg List.length h
        unfold pE at this
        simp at this)
      have EE := Lib.hid (show bs (flatE l k) = bs (verN l.length l) by rw [VE.out, ek])
      rw [EE.out] at hback
      clear ek
      go_wp2_with fail
      go_ret
      exact ⟨rfl, HB.out⟩
end
section

set_option maxRecDepth 100000
theorem embedded_ok (n : Bool) (D : List UInt8) (p : Int) (r : Nat) (hb : Bool) (w : World) (hl : D.length ≤ 2000000) (hp : -1000000000000000000 ≤ p ∧ p ≤ 1000000000000000000) (hr : r ≤ 10) :
    Calls Tryd.prog 59 #[numV n (bs D) p r, .bool hb] w (RetBelow w (.string (bs (embN n D p r hb)))) := by
  by_cases hne : D = []
  · have SG := Lib.hid (fun W => sign_ok n D p r W)
    have hsg : sgn n D = 0 := by unfold sgn; rw [if_pos hne]
    rw [hsg] at SG
    have EN : embN n D p r hb = [80] := by unfold embN; rw [if_pos hne]
    rw [EN]
    unfold numV at SG ⊢
    generalize bs D = d at *
    have C0 := Lib.hid (CellsAt.new w [.bool n, .string d, .int .i64 p, .int .i64 r] 77)
    have B0 := Lib.hid ((Below.refl w.heap.size w).alloc (Nat.le_refl _) (Obj.cells #[.bool n, .string d, .int .i64 p, .int .i64 r] 77))
    clear hsg EN hne
    go_enter Tryd.func59, Tryd.ntmps59
    go_upto_region 1 with fail
    generalize hX : w.alloc (Obj.cells #[.bool n, .string d, .int .i64 p, .int .i64 r] 77) = x at *
    clear hX
    have a0 := C0.out.cell 0 _ rfl
    have a1 := C0.out.cell 1 _ rfl
    have a2 := C0.out.cell 2 _ rfl
    have a3 := C0.out.cell 3 _ rfl
    go_wp2_with fail
    refine (SG.out _).mono ?_
    rintro e w1 ⟨rfl, hb1⟩
    have B1 := Lib.hid (B0.out.trans (hb1.mono B0.out.size))
    have B2 := Lib.hid (B1.out.alloc B1.out.size (Obj.cells #[.int .u8 80] 5))
    have hd := dig_back w1 80 (by omega)
    clear hb1 a0 a1 a2 a3
    go_wp2_with fail
    go_ret
    exact ⟨rfl, B2.out⟩
  · cases n <;> cases hb
    · exact embedded_p_s D _ rfl p r w hne hl hp hr
    · exact embedded_p_h D _ rfl p r w hne hl hp hr
    · exact embedded_n_s D _ rfl p r w hne hl hp hr
    · exact embedded_n_h D _ rfl p r w hne hl hp hr

theorem embN_val (n : Bool) (D W F : List UInt8) (p : Int) (r : Nat) (hb : Bool) (e : W ++ F = D) : embN n D p r hb = valE hb (valG n D W F p r) := by
  unfold embN valE valG
  by_cases h : D = []
  · rw [if_pos h, if_pos h]; rfl
  · rw [if_neg h, if_neg h]
    have es : sizeE hb ⟨if n then 64 else 96, r, p, W, F⟩ = embL n D p r hb := by
      unfold sizeE embL Val.digits
      simp only [e]
    cases n
    · show 96 :: embL false D p r hb = if (96 : Nat) = 96 then UInt8.ofNat 96 :: sizeE hb ⟨96, r, p, W, F⟩ else _
      rw [if_pos rfl, ← es]; rfl
    · show 64 :: (embL true D p r hb).map (255 - ·) = if (64 : Nat) = 96 then _ else if (64 : Nat) = 64 then UInt8.ofNat 64 :: (sizeE hb ⟨64, r, p, W, F⟩).map (255 - ·) else _
      rw [if_neg (by omega), if_pos rfl, ← es]; rfl

theorem numE_rng (l : List UInt8) (g : Bool) (h : l.length ≤ 1048576) : -1000000000000000000 ≤ numE (scanS l g) ∧ numE (scanS l g) ≤ 1000000000000000000 := by
  have ok := scanS_ok (bs l) g (by rw [bs_size]; omega)
  rw [bs_list] at ok
  have j := scanS_joint l g
  have e := ok.exp
  have h1 := trimL_len (trimR (scanS l g).frac)
  have h2 := trimR_len (scanS l g).frac
  have h3 := trimL_len (scanS l g).whole
  unfold numE
  split <;> omega
theorem nrP_rng (l : List UInt8) (h : l.length ≤ 1048576) : -1000000000000000000 ≤ nrP (scanS l false) ∧ nrP (scanS l false) ≤ 1000000000000000000 := by
  have := numE_rng l false h
  unfold nrP
  split <;> omega
theorem gExp_rng (l : List UInt8) (h : l.length ≤ 1048576) : -1000000000000000000 ≤ gExp (scanS l true) ∧ gExp (scanS l true) ≤ 1000000000000000000 := by
  have := numE_rng l true h
  unfold gExp
  split <;> omega

theorem embR_nh (kind : Nat) (hk : kind = 16 ∨ kind = 64) (s : ByteArray) (w : World) (hs : s.size ≤ 1048576) :
    Calls Tryd.prog 30 #[.int .i64 kind, .string s] w (RetBelow w (.string (bs (embS kind s.data.toList)))) := by
  have N1 := Lib.hid (fun W => number_ok16 kind hk s W (by omega))
  have l1 := numD_len s.data.toList false
  have hl := Lib.size_eq s
  have hr : (if kind = 64 then nrR (scanS s.data.toList false) s.data.toList else 0 : Nat) ≤ 10 := by
    split
    · unfold nrR
      split
      · omega
      · exact sufS_le _ _
    · omega
  have EC := Lib.hid (fun W => embedded_ok (nrNeg (scanS s.data.toList false)) (numD (scanS s.data.toList false)) (nrP (scanS s.data.toList false)) (if kind = 64 then nrR (scanS s.data.toList false) s.data.toList else 0) (kind == 64) W (by omega) (nrP_rng _ (by omega)) hr)
  have ES : embN (nrNeg (scanS s.data.toList false)) (numD (scanS s.data.toList false)) (nrP (scanS s.data.toList false)) (if kind = 64 then nrR (scanS s.data.toList false) s.data.toList else 0) (kind == 64) = embS kind s.data.toList := by
    rw [embN_val _ (numD (scanS s.data.toList false)) (numW (scanS s.data.toList false)) (numF (scanS s.data.toList false)) _ _ _ rfl, ← valS_nh kind hk]
    unfold embS
    rw [if_pos (by rcases hk with rfl | rfl; exact Or.inl rfl; exact Or.inr (Or.inr rfl))]
  rw [ES] at EC
  unfold numR at N1
  generalize bs (embS kind s.data.toList) = R at *
  unfold numV at N1 EC
  clear ES l1 hl
  generalize (if kind = 64 then nrR (scanS s.data.toList false) s.data.toList else 0 : Nat) = r at *
  generalize bs (numD (scanS s.data.toList false)) = d at *
  generalize nrP (scanS s.data.toList false) = p at *
  generalize nrNeg (scanS s.data.toList false) = n at *
  clear hr
  rcases hk with rfl | rfl
  all_goals
    go_enter Tryd.func30, Tryd.ntmps30
    go_wp2_with fail
    refine (N1.out _).mono ?_
    rintro e w1 ⟨rfl, hb1⟩
    have B1 := Lib.hid hb1
    clear hb1
    go_wp2_with fail
    refine (EC.out _).mono ?_
    rintro e w2 ⟨rfl, hb2⟩
    have B2 := Lib.hid (B1.out.trans (hb2.mono B1.out.size))
    clear hb2
    go_wp2_with fail
    go_ret
    exact ⟨rfl, B2.out⟩

theorem embR_m (s : ByteArray) (w : World) (hs : s.size ≤ 1048576) : Calls Tryd.prog 30 #[.int .i64 128, .string s] w (RetBelow w (.string (bs (embS 128 s.data.toList)))) := by
  have N1 := Lib.hid (fun W => monthR_ok s W (by omega))
  have hm : monthS s.data.toList ≤ 12 := by
    have := monthIn_le mNames (s.data.toList.dropWhile isBlank) 0
    have e : mNames.length = 12 := rfl
    unfold monthS; omega
  have EC := Lib.hid (show embS 128 s.data.toList = [UInt8.ofNat (monthS s.data.toList)] from rfl)
  rw [EC.out]
  clear EC
  generalize monthS s.data.toList = m at *
  have hm2 : (m : Int) ≤ 12 := by omega
  have wm : IntKind.u8.wrap (m : Int) = (m : Int) := by unfold IntKind.wrap; simp [IntKind.bits, IntKind.signed]; omega
  go_enter Tryd.func30, Tryd.ntmps30
  go_wp2_with fail
  refine (N1.out _).mono ?_
  rintro e w1 ⟨rfl, hb1⟩
  have B1 := Lib.hid (hb1.alloc hb1.size (Obj.cells #[.int .u8 (m : Int)] 5))
  have hd := dig_back w1 (m : Int) (by omega)
  rw [Int.toNat_natCast] at hd
  clear hb1
  go_wp2_with fail
  go_ret
  exact ⟨rfl, B1.out⟩

theorem embR_v (s : ByteArray) (w : World) (hs : s.size ≤ 1048576) : Calls Tryd.prog 30 #[.int .i64 256, .string s] w (RetBelow w (.string (bs (embS 256 s.data.toList)))) := by
  have N1 := Lib.hid (fun W => version_ok s W hs)
  have EC := Lib.hid (show embS 256 s.data.toList = verN s.data.toList.length s.data.toList from rfl)
  rw [EC.out]
  clear EC
  generalize bs (verN s.data.toList.length s.data.toList) = R at *
  go_enter Tryd.func30, Tryd.ntmps30
  go_wp2_with fail
  refine (N1.out _).mono ?_
  rintro e w1 ⟨rfl, hb1⟩
  have B1 := Lib.hid hb1
  clear hb1
  go_wp2_with fail
  go_ret
  exact ⟨rfl, B1.out⟩

theorem embR_b (kind : Nat) (h1 : kind ≠ 16) (h2 : kind ≠ 32) (h3 : kind ≠ 64) (h4 : kind ≠ 128) (h5 : kind ≠ 256) (s : ByteArray) (w : World) (hs : s.size ≤ 1048576) :
    Calls Tryd.prog 30 #[.int .i64 kind, .string s] w (RetBelow w (.string (bs (embS kind s.data.toList)))) := by
  have BC := Lib.hid (fun W => escaped_ok s W hs)
  have EC := Lib.hid (show embS kind s.data.toList = escS s.data.toList by
    unfold embS
    rw [if_neg (by omega), if_neg h4, if_neg h5])
  rw [EC.out]
  clear EC
  generalize bs (escS s.data.toList) = R at *
  have t1 : ((kind : Int) == 16) = false := by rw [beq_eq_false_iff_ne]; omega
  have t2 : ((kind : Int) == 32) = false := by rw [beq_eq_false_iff_ne]; omega
  have t3 : ((kind : Int) == 64) = false := by rw [beq_eq_false_iff_ne]; omega
  have t4 : ((kind : Int) == 128) = false := by rw [beq_eq_false_iff_ne]; omega
  have t5 : ((kind : Int) == 256) = false := by rw [beq_eq_false_iff_ne]; omega
  clear h1 h2 h3 h4 h5
  go_enter Tryd.func30, Tryd.ntmps30
  go_wp2_with fail
  refine (BC.out _).mono ?_
  rintro e w1 ⟨rfl, hb1⟩
  have B1 := Lib.hid hb1
  clear hb1
  go_wp2_with fail
  go_ret
  exact ⟨rfl, B1.out⟩

set_option maxHeartbeats 1600000 in
theorem embR_g (s : ByteArray) (w : World) (hs : s.size ≤ 1048576) : Calls Tryd.prog 30 #[.int .i64 32, .string s] w (RetBelow w (.string (bs (embS 32 s.data.toList)))) := by
  have N1 := Lib.hid (fun W => generalR_ok s W (by omega))
  have l1 := numD_len s.data.toList true
  have hl := Lib.size_eq s
  have EC := Lib.hid (fun W => embedded_ok (gNeg (scanS s.data.toList true)) (numD (scanS s.data.toList true)) (gExp (scanS s.data.toList true)) 0 false W (by omega) (gExp_rng _ (by omega)) (by omega))
  have G1 := Lib.hid (fun W => gnum_ok (scanS s.data.toList true).cls (gNeg (scanS s.data.toList true)) (bs (numD (scanS s.data.toList true))) (gExp (scanS s.data.toList true)) ((scanS s.data.toList true).size : Int) W)
  have ES : embS 32 s.data.toList = if (scanS s.data.toList true).cls = 3 then embN (gNeg (scanS s.data.toList true)) (numD (scanS s.data.toList true)) (gExp (scanS s.data.toList true)) 0 false else [UInt8.ofNat (clsV (scanS s.data.toList true).cls)] := by
    have e : embS 32 s.data.toList = valE false (valS 32 s.data.toList) := rfl
    have hc := (scan_cls s.data.toList).1
    rw [e, valS_g]
    by_cases h3 : (scanS s.data.toList true).cls = 3
    · rw [if_pos h3, if_pos h3]
      exact (embN_val _ (numD (scanS s.data.toList true)) (numW (scanS s.data.toList true)) (numF (scanS s.data.toList true)) _ _ _ rfl).symm
    · rw [if_neg h3, if_neg h3]
      rcases (show (scanS s.data.toList true).cls = 0 ∨ (scanS s.data.toList true).cls = 1 ∨ (scanS s.data.toList true).cls = 2 ∨ (scanS s.data.toList true).cls = 4 by omega) with h | h | h | h <;> rw [h] <;> rfl
  have k1 := (scan_cls s.data.toList).1
  simp only [genV_flat] at N1
  unfold numV at G1 EC
  generalize embS 32 s.data.toList = R at *
  generalize embN (gNeg (scanS s.data.toList true)) (numD (scanS s.data.toList true)) (gExp (scanS s.data.toList true)) 0 false = RN at *
  generalize bs (numD (scanS s.data.toList true)) = d1 at *
  generalize gExp (scanS s.data.toList true) = p1 at *
  generalize gNeg (scanS s.data.toList true) = n1 at *
  generalize ((scanS s.data.toList true).size : Int) = z1 at *
  generalize (scanS s.data.toList true).cls = c at *
  clear l1 hl
  have hc4 : (c : Int) ≤ 4 := by omega
  rcases (show c = 0 ∨ c = 1 ∨ c = 2 ∨ c = 3 ∨ c = 4 by omega) with rfl | rfl | rfl | rfl | rfl
  · rw [if_neg (by omega)] at ES
    rw [ES]
    go_enter Tryd.func30, Tryd.ntmps30
    go_wp2_with fail
    refine (N1.out _).mono ?_
    rintro e w1 ⟨rfl, hb1⟩
    have A1 := Lib.hid (CellsAt.new w1 [.int .u8 (0 : Nat), .bool n1, .string d1, .int .i64 p1, .int .i64 z1] 29)
    have B1 := Lib.hid (hb1.alloc hb1.size (Obj.cells #[.int .u8 (0 : Nat), .bool n1, .string d1, .int .i64 p1, .int .i64 z1] 29))
    clear hb1
    go_upto_region 11 with fail
    generalize hX : w1.alloc (Obj.cells #[.int .u8 (0 : Nat), .bool n1, .string d1, .int .i64 p1, .int .i64 z1] 29) = x1 at *
    clear hX
    have a0 := A1.out.cell 0 _ rfl
    have a1 := A1.out.cell 1 _ rfl
    have a2 := A1.out.cell 2 _ rfl
    have a3 := A1.out.cell 3 _ rfl
    have a4 := A1.out.cell 4 _ rfl
    have hd := dig_back x1 16 (by omega)
    have B2 := Lib.hid (B1.out.alloc B1.out.size (Obj.cells #[.int .u8 16] 5))
    go_wp2_with fail
    go_ret
    exact ⟨rfl, B2.out⟩
  · rw [if_neg (by omega)] at ES
    rw [ES]
    go_enter Tryd.func30, Tryd.ntmps30
    go_wp2_with fail
    refine (N1.out _).mono ?_
    rintro e w1 ⟨rfl, hb1⟩
    have A1 := Lib.hid (CellsAt.new w1 [.int .u8 (1 : Nat), .bool n1, .string d1, .int .i64 p1, .int .i64 z1] 29)
    have B1 := Lib.hid (hb1.alloc hb1.size (Obj.cells #[.int .u8 (1 : Nat), .bool n1, .string d1, .int .i64 p1, .int .i64 z1] 29))
    clear hb1
    go_upto_region 11 with fail
    generalize hX : w1.alloc (Obj.cells #[.int .u8 (1 : Nat), .bool n1, .string d1, .int .i64 p1, .int .i64 z1] 29) = x1 at *
    clear hX
    have a0 := A1.out.cell 0 _ rfl
    have a1 := A1.out.cell 1 _ rfl
    have a2 := A1.out.cell 2 _ rfl
    have a3 := A1.out.cell 3 _ rfl
    have a4 := A1.out.cell 4 _ rfl
    have hd := dig_back x1 32 (by omega)
    have B2 := Lib.hid (B1.out.alloc B1.out.size (Obj.cells #[.int .u8 32] 5))
    go_wp2_with fail
    go_ret
    exact ⟨rfl, B2.out⟩
  · rw [if_neg (by omega)] at ES
    rw [ES]
    go_enter Tryd.func30, Tryd.ntmps30
    go_wp2_with fail
    refine (N1.out _).mono ?_
    rintro e w1 ⟨rfl, hb1⟩
    have A1 := Lib.hid (CellsAt.new w1 [.int .u8 (2 : Nat), .bool n1, .string d1, .int .i64 p1, .int .i64 z1] 29)
    have B1 := Lib.hid (hb1.alloc hb1.size (Obj.cells #[.int .u8 (2 : Nat), .bool n1, .string d1, .int .i64 p1, .int .i64 z1] 29))
    clear hb1
    go_upto_region 11 with fail
    generalize hX : w1.alloc (Obj.cells #[.int .u8 (2 : Nat), .bool n1, .string d1, .int .i64 p1, .int .i64 z1] 29) = x1 at *
    clear hX
    have a0 := A1.out.cell 0 _ rfl
    have a1 := A1.out.cell 1 _ rfl
    have a2 := A1.out.cell 2 _ rfl
    have a3 := A1.out.cell 3 _ rfl
    have a4 := A1.out.cell 4 _ rfl
    have hd := dig_back x1 48 (by omega)
    have B2 := Lib.hid (B1.out.alloc B1.out.size (Obj.cells #[.int .u8 48] 5))
    go_wp2_with fail
    go_ret
    exact ⟨rfl, B2.out⟩
  · rw [if_pos rfl] at ES
    rw [ES]
    go_enter Tryd.func30, Tryd.ntmps30
    go_wp2_with fail
    refine (N1.out _).mono ?_
    rintro e w1 ⟨rfl, hb1⟩
    have A1 := Lib.hid (CellsAt.new w1 [.int .u8 (3 : Nat), .bool n1, .string d1, .int .i64 p1, .int .i64 z1] 29)
    have B1 := Lib.hid (hb1.alloc hb1.size (Obj.cells #[.int .u8 (3 : Nat), .bool n1, .string d1, .int .i64 p1, .int .i64 z1] 29))
    clear hb1
    go_upto_region 11 with fail
    generalize hX : w1.alloc (Obj.cells #[.int .u8 (3 : Nat), .bool n1, .string d1, .int .i64 p1, .int .i64 z1] 29) = x1 at *
    clear hX
    have a0 := A1.out.cell 0 _ rfl
    have a1 := A1.out.cell 1 _ rfl
    have a2 := A1.out.cell 2 _ rfl
    have a3 := A1.out.cell 3 _ rfl
    have a4 := A1.out.cell 4 _ rfl
    go_wp2_with fail
    refine (G1.out _).mono ?_
    rintro e w2 ⟨rfl, hb2⟩
    have B2 := Lib.hid (B1.out.trans (hb2.mono B1.out.size))
    clear hb2 a0 a1 a2 a3 a4
    go_wp2_with fail
    refine (EC.out _).mono ?_
    rintro e w3 ⟨rfl, hb3⟩
    have B3 := Lib.hid (B2.out.trans (hb3.mono B2.out.size))
    clear hb3
    go_wp2_with fail
    go_ret
    exact ⟨rfl, B3.out⟩
  · rw [if_neg (by omega)] at ES
    rw [ES]
    go_enter Tryd.func30, Tryd.ntmps30
    go_wp2_with fail
    refine (N1.out _).mono ?_
    rintro e w1 ⟨rfl, hb1⟩
    have A1 := Lib.hid (CellsAt.new w1 [.int .u8 (4 : Nat), .bool n1, .string d1, .int .i64 p1, .int .i64 z1] 29)
    have B1 := Lib.hid (hb1.alloc hb1.size (Obj.cells #[.int .u8 (4 : Nat), .bool n1, .string d1, .int .i64 p1, .int .i64 z1] 29))
    clear hb1
    go_upto_region 11 with fail
    generalize hX : w1.alloc (Obj.cells #[.int .u8 (4 : Nat), .bool n1, .string d1, .int .i64 p1, .int .i64 z1] 29) = x1 at *
    clear hX
    have a0 := A1.out.cell 0 _ rfl
    have a1 := A1.out.cell 1 _ rfl
    have a2 := A1.out.cell 2 _ rfl
    have a3 := A1.out.cell 3 _ rfl
    have a4 := A1.out.cell 4 _ rfl
    have hd := dig_back x1 112 (by omega)
    have B2 := Lib.hid (B1.out.alloc B1.out.size (Obj.cells #[.int .u8 112] 5))
    go_wp2_with fail
    go_ret
    exact ⟨rfl, B2.out⟩

theorem embedR_ok (kind : Nat) (s : ByteArray) (w : World) (hs : s.size ≤ 1048576) :
    Calls Tryd.prog 30 #[.int .i64 kind, .string s] w (RetBelow w (.string (bs (embS kind s.data.toList)))) := by
  by_cases h1 : kind = 16
  · exact embR_nh kind (Or.inl h1) s w hs
  · by_cases h2 : kind = 64
    · exact embR_nh kind (Or.inr h2) s w hs
    · by_cases h3 : kind = 32
      · subst h3; exact embR_g s w hs
      · by_cases h4 : kind = 128
        · subst h4; exact embR_m s w hs
        · by_cases h5 : kind = 256
          · subst h5; exact embR_v s w hs
          · exact embR_b kind h1 h3 h2 h4 h5 s w hs

set_option maxHeartbeats 800000 in
theorem embeds_card (k : Int) (s : ByteArray) (hk : 0 ≤ k ∧ k < 65536) (hs : s.size ≤ 1048576) (w : World) (T : Tabs w) : Calls Tryd.prog 13 #[.int .u16 k, .string s] w (RetBelow w (.bool true)) := by
  obtain ⟨kind, rfl⟩ : ∃ n : Nat, k = n := ⟨k.toNat, by omega⟩
  have hk2 : (kind : Int) < 65536 := hk.2
  have PC := Lib.hid (fun (W : World) (hT : Tabs W) => embed_ok kind s W (by omega) hT)
  have RC := Lib.hid (fun (W : World) => embedR_ok kind s W hs)
  have AL := Lib.hid (fun (W : World) (hT : Tabs W) => alive_ok W hT)
  generalize bs (embS kind s.data.toList) = c at *
  have HT := Lib.hid T
  clear T hk
  go_enter Tryd.func13, Tryd.ntmps13
  go_wp2_with fail
  refine (PC.out _ HT.out).mono ?_
  rintro e w1 ⟨rfl, hb1⟩
  have T1 := Lib.hid (HT.out.below hb1)
  have B1 := Lib.hid hb1
  clear hb1
  go_wp2_with fail
  refine (RC.out _).mono ?_
  rintro e w2 ⟨rfl, hb2⟩
  have T2 := Lib.hid (T1.out.below hb2)
  have B2 := Lib.hid (B1.out.trans (hb2.mono B1.out.size))
  clear hb2
  go_wp2_with fail
  refine (AL.out _ T2.out).mono ?_
  rintro e w3 ⟨rfl, hb3⟩
  have B3 := Lib.hid (B2.out.trans (hb3.mono B2.out.size))
  clear hb3
  go_wp2_with fail
  go_ret
  exact ⟨rfl, B3.out⟩
end
end Go.Proofs.YtpbbgmfjdachnaaDoor
