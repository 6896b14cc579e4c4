/- A writer of bits. A writer of bits: put. -/
import Derived.Test.YtfbeipfpkikakaaDoorUn
namespace Go.Proofs.YtfbeipfpkikakaaDoor
section
open Go.RowKit

set_option maxRecDepth 100000
/-- A whole block. -/
def BlkAt (w : World) (p : Nat) (t : TypeId) (vs : List Value) : Prop := w.heap[p]? = some (.cells vs.toArray t (0, 0))
theorem BlkAt.cells {w : World} {p : Nat} {t : TypeId} {vs : List Value} (h : BlkAt w p t vs) : CellsAt w p vs :=
  ⟨lt_of_heap h, fun j v hv => by unfold World.cell?; simp only [BlkAt] at h; rw [h]; simpa using hv, fun j => by unfold World.frozen?; simp only [BlkAt] at h; rw [h]; simp⟩
theorem BlkAt.new (w : World) (vs : List Value) (t : TypeId) : BlkAt (w.alloc (.cells vs.toArray t)) w.heap.size t vs := by
  show (w.heap.push _)[w.heap.size]? = _
  simp
theorem BlkAt.set {w : World} {p : Nat} {t : TypeId} {vs : List Value} (h : BlkAt w p t vs) (j : Nat) (x : Value) : BlkAt (w.setCell ⟨p, j, none⟩ x) p t (vs.set j x) := by
  unfold BlkAt at *
  show (w.heap.modify p _)[p]? = _
  rw [Array.getElem?_modify, if_pos rfl, h]
  simp
theorem BlkAt.other {w : World} {p c : Nat} {t : TypeId} {vs : List Value} (h : BlkAt w p t vs) (hc : c ≠ p) (j : Nat) (x : Value) : BlkAt (w.setCell ⟨c, j, none⟩ x) p t vs := by
  unfold BlkAt at *
  show (w.heap.modify c _)[p]? = _
  rw [Array.getElem?_modify, if_neg hc]
  exact h
theorem BlkAt.keepB {w w' : World} {p : Nat} {t : TypeId} {vs : List Value} (h : BlkAt w p t vs) (k : KeepB w w') (ht : t ≠ 5) : BlkAt w' p t vs := k p t _ ht h
theorem BlkAt.below {w w' : World} {p : Nat} {t : TypeId} {vs : List Value} (h : BlkAt w p t vs) (k : Below w.heap.size w w') : BlkAt w' p t vs := (k.block p (lt_of_heap h)).trans h
theorem OwnB.sets {w : World} {B p : Nat} {v : Value} {l : List UInt8} {t : TypeId} {vs : List Value} (h : OwnB w B v l) (hp : BlkAt w p t vs) (ht : t ≠ 5) (j : Nat) (x : Value) : OwnB (w.setCell ⟨p, j, none⟩ x) B v l := by
  refine ⟨⟨h.1.1, ?_⟩, by simpa using h.2⟩
  rcases h.1.2 with hn | ⟨g, cap, cur, hv, hb, hgg, rest⟩
  · exact .inl hn
  · refine .inr ⟨g, cap, cur, hv, hb, ?_, rest⟩
    have hne : p ≠ g := by
      intro e
      subst e
      unfold BlkAt at hp
      rw [hp] at hgg
      injection hgg with hgg
      injection hgg with _ y
      exact ht y
    show (w.heap.modify p _)[g]? = _
    rw [Array.getElem?_modify, if_neg hne]
    exact hgg

theorem BlkAt.drew {w : World} {p : Nat} {t : TypeId} {vs : List Value} (h : BlkAt w p t vs) : BlkAt w.drew p t vs := h
theorem BlkAt.alloc {w : World} {p : Nat} {t : TypeId} {vs : List Value} (h : BlkAt w p t vs) (o : Obj) : BlkAt (w.alloc o) p t vs := h.below (below_alloc w o)
/-- One byte is appended, as a step of a region that draws its order. -/
theorem step_app {w : World} {ops : Array Oper} {o : Oper} {a : Act} {K : Act → World → Prop} {Q : Exit → Act → World → Prop} {E : Prop} (hgd : o.guard = none) (s x : Operand)
    (ho : o.op = .call { callee := .builtin .append, args := #[s, x], argTypes := #[23, 23] })
    (B : Nat) (v : Value) (l : List UInt8) (hs : a.eval s = v) (hown : OwnB w B v l) (y g : Nat) (hy : y < 256) (hx : a.eval x = .slice (some ⟨g, 0, none⟩) 1 1) (hg : BlkAt w g 5 [.int .u8 (y : Int)]) (hlen : l.length + 1 ≤ 140737488355328)
    (h : ∀ g' cap w', OwnB w' B (.slice (some ⟨g', 0, none⟩) (l.length + 1) cap) (l ++ [UInt8.ofNat y]) → Below B w w' → KeepB w w' → K (a.put o.dst (.slice (some ⟨g', 0, none⟩) (l.length + 1) cap)) w') :
    if Region.wanted o (yielded ops a.tmps) = true then Oper.wp Tryd.prog o a w K Q else E := by
  obtain ⟨i0, hi, hz0, hz1, hz2⟩ := info_parts info5
  have hB := hown.2
  refine step_append_lies w hgd s x 23 ho B 5 i0 (.int .u8 0) 1 1 Tryd.underlying23 hi hz0 hz1 hz2 rfl (by decide) v l.length (byV l) hs hown.1 ⟨g, 0, none⟩ 1 1 [.int .u8 (y : Int)] hx rfl ?_ ?_ (by decide) ?_ ?_ hB w.heap.size rfl ?_
  · intro j u hj
    rw [add_plain, Nat.zero_add]
    exact hg.cells.cell j u hj
  · intro u hu
    simp only [List.mem_singleton] at hu
    subst hu
    rfl
  · unfold maxLen; omega
  · omega
  · intro g' cap w' h1 h2 _ hlt
    have hsz := h2.size
    refine h g' cap w' ⟨?_, Nat.le_trans hB hsz⟩ (hown.grown h2) (hown.keeps h2)
    have e : byV (l ++ [UInt8.ofNat y]) = byV l ++ [.int .u8 (y : Int)] := by
      rw [byV_app]; simp [byV, UInt8.toNat_ofNat', Nat.mod_eq_of_lt hy]
    rw [List.length_append, e]; exact h1

/-! Bits as a number: N bits, of which the first c bytes are out. -/
def outB (val N c : Nat) : List UInt8 := (List.range c).map fun i => UInt8.ofNat (val / 2 ^ (N - 8 * (i + 1)) % 256)
theorem outB_len (val N c : Nat) : (outB val N c).length = c := by simp [outB]
theorem outB_snoc (val N c : Nat) : outB val N (c + 1) = outB val N c ++ [UInt8.ofNat (val / 2 ^ (N - 8 * (c + 1)) % 256)] := by
  unfold outB
  rw [List.range_succ, List.map_append]
  rfl
theorem outB_more (val N n x : Nat) (hx : x < 2 ^ n) : outB (val * 2 ^ n + x) (N + n) (N / 8) = outB val N (N / 8) := by
  unfold outB
  apply List.map_congr_left
  intro i hi
  have hi' := List.mem_range.1 hi
  have e : N + n - 8 * (i + 1) = n + (N - 8 * (i + 1)) := by omega
  rw [e, Nat.pow_add, ← Nat.div_div_eq_div_mul]
  have : (val * 2 ^ n + x) / 2 ^ n = val := by
    rw [Nat.mul_comm, Nat.mul_add_div (Nat.two_pow_pos n), Nat.div_eq_of_lt hx, Nat.add_zero]
  rw [this]
theorem held_more (held val r n x : Nat) (h : held % 2 ^ r = val % 2 ^ r) (hx : x < 2 ^ n) : (held * 2 ^ n + x) % 2 ^ (r + n) = (val * 2 ^ n + x) % 2 ^ (r + n) := by
  have e : ∀ a : Nat, (a * 2 ^ n + x) % 2 ^ (r + n) = (a % 2 ^ r) * 2 ^ n + x := fun a => by
    have p := Nat.two_pow_pos n
    have q := Nat.mod_lt a (Nat.two_pow_pos r)
    have hd := Nat.div_add_mod a (2 ^ r)
    have lt : (a % 2 ^ r) * 2 ^ n + x < 2 ^ (r + n) := by
      rw [Nat.pow_add]
      calc (a % 2 ^ r) * 2 ^ n + x < (a % 2 ^ r) * 2 ^ n + 2 ^ n := by omega
        _ = (a % 2 ^ r + 1) * 2 ^ n := by rw [Nat.add_mul, Nat.one_mul]
        _ ≤ 2 ^ r * 2 ^ n := Nat.mul_le_mul_right _ q
    have : a * 2 ^ n + x = ((a % 2 ^ r) * 2 ^ n + x) + 2 ^ (r + n) * (a / 2 ^ r) := by
      rw [Nat.pow_add]
      conv => lhs; rw [← hd]
      rw [Nat.add_mul]
      have : 2 ^ r * (a / 2 ^ r) * 2 ^ n = 2 ^ r * 2 ^ n * (a / 2 ^ r) := by rw [Nat.mul_right_comm]
      omega
    rw [this, Nat.add_mul_mod_self_left, Nat.mod_eq_of_lt lt]
  rw [e, e, h]
theorem held_byte (held val m k : Nat) (h : held % 2 ^ k = val % 2 ^ k) (hm : m + 8 ≤ k) : held / 2 ^ m % 256 = val / 2 ^ m % 256 := by
  have e : ∀ a : Nat, a / 2 ^ m % 256 = (a % 2 ^ k) / 2 ^ m % 256 := fun a => by
    have : a % 2 ^ k % 2 ^ (m + 8) = a % 2 ^ (m + 8) := Nat.mod_mod_of_dvd _ (Nat.pow_dvd_pow 2 hm)
    have f : ∀ b : Nat, b / 2 ^ m % 256 = b % 2 ^ (m + 8) / 2 ^ m := fun b => by
      rw [Nat.pow_add, show (2 : Nat) ^ 8 = 256 from rfl, Nat.mod_mul_right_div_self]
    rw [f a, f (a % 2 ^ k), this]
  rw [e held, e val, h]
theorem held_less (held val m k : Nat) (h : held % 2 ^ k = val % 2 ^ k) (hm : m ≤ k) : held % 2 ^ m = val % 2 ^ m := by
  have e : ∀ a : Nat, a % 2 ^ k % 2 ^ m = a % 2 ^ m := fun a => Nat.mod_mod_of_dvd _ (Nat.pow_dvd_pow 2 hm)
  rw [← e held, ← e val, h]
/-- A writer: the last N % 8 bits are held. -/
def WrAt (w : World) (p B val N : Nat) : Prop := ∃ v held : _, BlkAt w p 100 [v, .int .u64 ((held : Nat) : Int), .int .i64 ((N % 8 : Nat) : Int)] ∧ OwnB w B v (outB val N (N / 8)) ∧ held % 2 ^ (N % 8) = val % 2 ^ (N % 8) ∧ held < 18446744073709551616
end

section
open Go.RowKit

set_option maxRecDepth 100000
/-- What a writer leaves alone. -/
structure WKeep (p B : Nat) (w w' : World) : Prop where
  below : Below B w w'
  keep : ∀ (g : Nat) (t : TypeId) (cs : Array Value), t ≠ 5 → g ≠ p → w.heap[g]? = some (.cells cs t (0, 0)) → w'.heap[g]? = some (.cells cs t (0, 0))
theorem WKeep.refl (p B : Nat) (w : World) : WKeep p B w w := ⟨Below.refl B w, fun _ _ _ _ _ h => h⟩
theorem WKeep.trans {p B : Nat} {a b c : World} (h : WKeep p B a b) (k : WKeep p B b c) : WKeep p B a c := ⟨h.below.trans k.below, fun g t cs ht hg x => k.keep g t cs ht hg (h.keep g t cs ht hg x)⟩
theorem WKeep.set {p B : Nat} (w : World) (hB : B ≤ p) (j : Nat) (x : Value) : WKeep p B w (w.setCell ⟨p, j, none⟩ x) :=
  ⟨(Below.refl B w).setCell (p := ⟨p, j, none⟩) hB x, fun g t cs _ hg h => by
    show (w.heap.modify p _)[g]? = _
    rw [Array.getElem?_modify, if_neg (Ne.symm hg)]
    exact h⟩
theorem WKeep.app {p B : Nat} {w w' : World} (hb : Below B w w') (hk : KeepB w w') : WKeep p B w w' := ⟨hb, fun g t cs ht _ h => hk g t cs ht h⟩
theorem BlkAt.wkeep {w w' : World} {p q B : Nat} {t : TypeId} {vs : List Value} (h : BlkAt w q t vs) (k : WKeep p B w w') (ht : t ≠ 5) (hq : q ≠ p) : BlkAt w' q t vs := k.keep q t _ ht hq h
def manyOf (w : World) (p : Nat) : Nat := match w.cell? ⟨p, 2, none⟩ with | some (.int _ z) => z.toNat | _ => 0
theorem BlkAt.many {w : World} {p : Nat} {t : TypeId} {a b : Value} {m : Nat} (h : BlkAt w p t [a, b, .int .i64 (m : Int)]) : manyOf w p = m := by
  unfold manyOf
  rw [h.cells.cell 2 _ rfl]
  simp
theorem held1_eq (h n : Nat) (hn : n ≤ 15) : h * 2 ^ n % 18446744073709551616 = 2 ^ n * (h % 2 ^ (64 - n)) := by
  have e : (18446744073709551616 : Nat) = 2 ^ n * 2 ^ (64 - n) := by rw [← Nat.pow_add, show n + (64 - n) = 64 by omega]
  rw [e, Nat.mul_comm h, Nat.mul_mod_mul_left]
theorem held1_lt (h n x : Nat) (hn : n ≤ 15) (hx : x < 2 ^ n) : h * 2 ^ n % 18446744073709551616 + x < 18446744073709551616 := by
  rw [held1_eq h n hn]
  have e : (18446744073709551616 : Nat) = 2 ^ n * 2 ^ (64 - n) := by rw [← Nat.pow_add, show n + (64 - n) = 64 by omega]
  have q := Nat.mod_lt h (Nat.two_pow_pos (64 - n))
  have : 2 ^ n * (h % 2 ^ (64 - n) + 1) ≤ 2 ^ n * 2 ^ (64 - n) := Nat.mul_le_mul_left _ q
  rw [Nat.mul_add, Nat.mul_one] at this
  omega
theorem held1_or (h n x : Nat) (hn : n ≤ 15) (hx : x < 2 ^ n) : bits .or .u64 (IntKind.u64.wrap ((h : Int) * 2 ^ n)) (x : Int) = ((h * 2 ^ n % 18446744073709551616 + x : Nat) : Int) := by
  have hlt := held1_lt h n x hn hx
  have w : IntKind.u64.wrap ((h : Int) * 2 ^ n) = ((h * 2 ^ n % 18446744073709551616 : Nat) : Int) := by
    rw [IntKind.wrap_u64]
    have : ((h : Int) * 2 ^ n) = ((h * 2 ^ n : Nat) : Int) := by rw [Int.natCast_mul, Int.natCast_pow]; rfl
    rw [this]
    omega
  rw [w]
  generalize hy : h * 2 ^ n % 18446744073709551616 = y at *
  have eo : y ||| x = y + x := by
    rw [← hy, held1_eq h n hn]
    exact (Nat.two_pow_add_eq_or_of_lt (i := n) hx (h % 2 ^ (64 - n))).symm
  show IntKind.u64.wrap ((BitVec.ofInt 64 (y : Int) ||| BitVec.ofInt 64 (x : Int)).toNat : Int) = _
  rw [BitVec.toNat_or, ofInt_u64 y (by omega), ofInt_u64 x (by omega), eo, IntKind.wrap_u64]
  omega
theorem held1_mod (h n x k : Nat) (hk : k ≤ 64) : (h * 2 ^ n % 18446744073709551616 + x) % 2 ^ k = (h * 2 ^ n + x) % 2 ^ k := by
  have : h * 2 ^ n % 18446744073709551616 % 2 ^ k = h * 2 ^ n % 2 ^ k := Nat.mod_mod_of_dvd _ (show (2 : Nat) ^ k ∣ 2 ^ 64 from Nat.pow_dvd_pow 2 hk)
  rw [Nat.add_mod, this, ← Nat.add_mod]
/-- While whole bytes go out. -/
def PtRel (w : World) (p B val N held : Nat) (wr : World) : Prop := ∃ c v, 8 * c ≤ N ∧ N - 8 * c ≤ 22 ∧ BlkAt wr p 100 [v, .int .u64 (held : Int), .int .i64 ((N - 8 * c : Nat) : Int)] ∧ OwnB wr B v (outB val N c) ∧ held % 2 ^ (N - 8 * c) = val % 2 ^ (N - 8 * c) ∧ WKeep p B w wr
def RetPut (w : World) (p B val N : Nat) (e : Ending) (w' : World) : Prop := e = .returned (.tuple #[]) ∧ WrAt w' p B val N ∧ WKeep p B w w'
set_option maxHeartbeats 1600000 in
theorem put_ok {w : World} {p B val N x n : Nat} (h : WrAt w p B val N) (hB : B ≤ p) (hx : x < 2 ^ n) (hn : n ≤ 15) (hN : N ≤ 1000000000) :
    Calls Tryd.prog 57 #[.pointer (some ⟨p, 0, none⟩), .int .u32 (x : Int), .int .i64 (n : Int)] w (RetPut w p B (val * 2 ^ n + x) (N + n)) := by
  obtain ⟨v, held, hb, ho, hh, h64⟩ := h
  have x15 : x < 32768 := Nat.lt_of_lt_of_le hx (Nat.pow_le_pow_right (by omega) hn)
  have c0 := hb.cells.cell 0 _ rfl
  have c1 := hb.cells.cell 1 _ rfl
  have c2 := hb.cells.cell 2 _ rfl
  have f1 := hb.cells.free 1
  have f2 := hb.cells.free 2
  have hl := hb.cells.lt
  have HB := Lib.hid hb
  have HO := Lib.hid ho
  have HH := Lib.hid hh
  have HX := Lib.hid hx
  obtain ⟨r, hr⟩ : ∃ r, r = N % 8 := ⟨_, rfl⟩
  rw [← hr] at c2
  have r8 : r < 8 := by omega
  clear hb ho hh hx
  obtain ⟨held1, hh1⟩ : ∃ held1, held1 = held * 2 ^ n % 18446744073709551616 + x := ⟨_, rfl⟩
  have ew : bits .or .u64 (IntKind.u64.wrap ((held : Int) * 2 ^ n)) (x : Int) = (held1 : Int) := by rw [hh1]; exact held1_or held n x hn HX.out
  have h1lt : held1 < 18446744073709551616 := by rw [hh1]; exact held1_lt held n x hn HX.out
  have EH := Lib.hid (show held1 % 2 ^ (r + n) = (val * 2 ^ n + x) % 2 ^ (r + n) by rw [hh1, held1_mod _ _ _ _ (by omega)]; rw [← hr] at HH; exact held_more held val r n x HH.out HX.out)
  have EO := Lib.hid (outB_more val N n x HX.out)
  obtain ⟨val1, hv1⟩ : ∃ val1, val1 = val * 2 ^ n + x := ⟨_, rfl⟩
  rw [← hv1] at EH EO ⊢
  have er : N + n - 8 * (N / 8) = r + n := by omega
  have HR := Lib.hid hr
  have ST := Lib.hid (show PtRel w p B val1 (N + n) held1 ((w.setCell ⟨p, 1, none⟩ (.int .u64 (held1 : Int))).setCell ⟨p, 2, none⟩ (.int .i64 ((r : Int) + (n : Int)))) from by
    have b1 := HB.out.set 1 (.int .u64 (held1 : Int))
    have b2 := b1.set 2 (.int .i64 ((r : Int) + (n : Int)))
    refine ⟨N / 8, v, by omega, by omega, ?_, ?_, by rw [er]; exact EH.out, (WKeep.set w hB _ _).trans (WKeep.set _ hB _ _)⟩
    · rw [er]; exact b2
    · rw [EO.out]; exact (HO.out.sets HB.out (by decide) _ _).sets b1 (by decide) _ _)
  clear hh1 hv1 hr HB HO HH EH EO er
  go_enter Tryd.func57, Tryd.ntmps57
  go_upto_region 2 with fail
  generalize (w.setCell ⟨p, 1, none⟩ (.int .u64 (held1 : Int))).setCell ⟨p, 2, none⟩ (.int .i64 ((r : Int) + (n : Int))) = x1 at *
  clear c0 c1 c2 f1 f2 hl ew
  go_loopw [] (fun wr => PtRel w p B val1 (N + n) held1 wr) (fun wr => manyOf wr p)
  case atStart => exact ST.out
  case round =>
    clear ST
    obtain ⟨c, v, h8, h22, hb, ho, hh, hk⟩ := hrel
    obtain ⟨M, hM⟩ : ∃ M, M = N + n - 8 * c := ⟨_, rfl⟩
    rw [← hM] at h22 hb hh
    have mm := hb.many
    by_cases hge : 8 ≤ M
    · obtain ⟨m, hm⟩ : ∃ m, m = M - 8 := ⟨_, rfl⟩
      have e1 : N + n - 8 * (c + 1) = m := by omega
      have c0 := hb.cells.cell 0 _ rfl
      have c1 := hb.cells.cell 1 _ rfl
      have c2 := hb.cells.cell 2 _ rfl
      have f2 := hb.cells.free 2
      have hl := hb.cells.lt
      have b2 := hb.set 2 (.int .i64 (m : Int))
      have HB2 := Lib.hid (show BlkAt (wr.setCell ⟨p, 2, none⟩ (.int .i64 (m : Int))) p 100 [v, .int .u64 (held1 : Int), .int .i64 (m : Int)] from b2)
      have HO2 := Lib.hid (ho.sets hb (by decide) 2 (.int .i64 (m : Int)))
      have HK2 := Lib.hid (hk.trans (WKeep.set wr hB 2 (.int .i64 (m : Int))))
      have OB := Lib.hid (show outB val1 (N + n) (c + 1) = outB val1 (N + n) c ++ [UInt8.ofNat (held1 / 2 ^ m % 256)] by rw [outB_snoc, e1, held_byte held1 val1 m M hh (by omega)])
      have HL := Lib.hid (held_less held1 val1 m M hh (by omega))
      have em : (M : Int) - 8 = (m : Int) := by omega
      have t1 : decide (8 ≤ (M : Int)) = true := decide_eq_true (by omega)
      have MM := Lib.hid mm
      have QM := Lib.hid hM
      have Qm := Lib.hid hm
      have lO : (outB val1 (N + n) c).length = c := outB_len _ _ _
      have E1 := Lib.hid e1
      clear hb ho hk hh b2 mm hM hm e1
      go_upto_region 4 with fail
      clear c0 c1 c2 f2 hl
      generalize wr.setCell ⟨p, 2, none⟩ (.int .i64 (m : Int)) = w2 at *
      have c0 := HB2.out.cells.cell 0 _ rfl
      have c1 := HB2.out.cells.cell 1 _ rfl
      have c2 := HB2.out.cells.cell 2 _ rfl
      have hl := HB2.out.cells.lt
      have g22 : m ≤ 22 := by rw [Qm.out]; omega
      have Y := Lib.hid (show held1 / 2 ^ m % 256 < 256 from Nat.mod_lt _ (by omega))
      have i1 : IntKind.u8.wrap ((held1 : Int) / 2 ^ m) = ((held1 / 2 ^ m % 256 : Nat) : Int) := by
        rw [IntKind.wrap_u8, show ((held1 : Int) / 2 ^ m) = ((held1 / 2 ^ m : Nat) : Int) by rw [Int.natCast_ediv, Int.natCast_pow]; rfl]
        omega
      have i2 : (m : Int).toNat = m := by omega
      have i3 : (0 : Int) ≤ (m : Int) := by omega
      obtain ⟨y, hy⟩ : ∃ y, y = held1 / 2 ^ m % 256 := ⟨_, rfl⟩
      rw [← hy] at i1 OB Y
      clear hy
      have W0 := Lib.hid HB2.out
      have OA := Lib.hid (show OwnB (w2.drew.alloc (.cells #[.int .u8 (y : Int)] 5)) B v (outB val1 (N + n) c) from OwnB.alloc (HO2.out.below (below_drewN w2 1)) _)
      have BA := Lib.hid (show BlkAt (w2.drew.alloc (.cells #[.int .u8 (y : Int)] 5)) p 100 [v, .int .u64 (held1 : Int), .int .i64 (m : Int)] from BlkAt.alloc (HB2.out.drew) _)
      have NA := Lib.hid (show BlkAt (w2.drew.alloc (.cells #[.int .u8 (y : Int)] 5)) w2.heap.size 5 [.int .u8 (y : Int)] from BlkAt.new w2.drew [.int .u8 (y : Int)] 5)
      have KA := Lib.hid (HK2.out.trans (WKeep.app ((below_drewN w2 1).mono (show B ≤ w2.heap.size by omega)) (KeepB.below (below_drewN w2 1))))
      have KA2 := Lib.hid (KA.out.trans (WKeep.app ((below_alloc (w2.drewN 1) (.cells #[.int .u8 (y : Int)] 5)).mono (show B ≤ w2.heap.size by omega)) (KeepB.below (below_alloc (w2.drewN 1) _))))
      have d0 := BA.out.cells.cell 0 _ rfl
      have hne : ¬ w2.heap.size = p := by omega
      have hne2 : ¬ p = w2.heap.size := by omega
      go_region_law (refine step_app (by rfl) _ _ (by rfl) B v _ (by rfl) OA.out y w2.heap.size Y.out (by rfl) NA.out (by rw [lO]; omega) ?_; intro g' cap w3 o3 b3 k3; have B3 := Lib.hid (BA.out.keepB k3 (by decide)); have O3 := Lib.hid o3; have K3 := Lib.hid (KA2.out.trans (WKeep.app b3 k3)); clear o3 b3 k3; have q1 := B3.out.cells.cell 1 _ rfl; have q2 := B3.out.cells.cell 2 _ rfl; have q0 := B3.out.cells.cell 0 _ rfl; have fq := B3.out.cells.free 0; have hl3 := B3.out.cells.lt; have s1 : (w3.setCell ⟨p, 0, none⟩ (.slice (some ⟨g', 0, none⟩) (c + 1) cap)).cell? ⟨p, 1, none⟩ = some (.int .u64 (held1 : Int)) := (World.cell?_setCell_other _ _ _ _ (by simp)).trans q1; have s2 : (w3.setCell ⟨p, 0, none⟩ (.slice (some ⟨g', 0, none⟩) (c + 1) cap)).cell? ⟨p, 2, none⟩ = some (.int .i64 (m : Int)) := (World.cell?_setCell_other _ _ _ _ (by simp)).trans q2)
      all_goals
        have bz := B3.out.set 0 (.slice (some ⟨g', 0, none⟩) (c + 1) cap)
        have oz := O3.out.sets B3.out (by decide) 0 (.slice (some ⟨g', 0, none⟩) (c + 1) cap)
        rw [lO] at oz
        have FIN := Lib.hid (show PtRel w p B val1 (N + n) held1 (w3.setCell ⟨p, 0, none⟩ (.slice (some ⟨g', 0, none⟩) (c + 1) cap)) from
          ⟨c + 1, .slice (some ⟨g', 0, none⟩) (c + 1) cap, by have := QM.out; omega, by rw [E1.out]; exact g22, by rw [E1.out]; exact bz, by rw [OB.out]; exact oz, by rw [E1.out]; exact HL.out, K3.out.trans (WKeep.set w3 hB 0 _)⟩)
        have ME := Lib.hid (show manyOf (w3.setCell ⟨p, 0, none⟩ (.slice (some ⟨g', 0, none⟩) (c + 1) cap)) p < manyOf wr p from by
          rw [MM.out, BlkAt.many (show BlkAt _ p 100 [.slice (some ⟨g', 0, none⟩) (c + 1) cap, .int .u64 (held1 : Int), .int .i64 (m : Int)] from bz), Qm.out]
          omega)
        clear bz oz q0 q1 q2 fq hl3 s1 s2 B3 O3 K3 c0 c1 c2 hl d0 lO i1 W0 OA BA NA KA KA2
        go_wp2_with fail
        exact ⟨FIN.out, ME.out⟩
    · have c2 := hb.cells.cell 2 _ rfl
      have hl := hb.cells.lt
      have t1 : decide (8 ≤ (M : Int)) = false := decide_eq_false (by omega)
      have FIN := Lib.hid (show RetPut w p B val1 (N + n) (.returned (.tuple #[])) wr from by
        have ec : c = (N + n) / 8 := by omega
        have em : M = (N + n) % 8 := by omega
        subst em
        exact ⟨rfl, ⟨v, held1, hb, by rw [← ec]; exact ho, hh, h1lt⟩, hk⟩)
      clear hb ho hh hk mm hM
      go_wp2_with fail
      go_end0
      exact FIN.out
end
end Go.Proofs.YtfbeipfpkikakaaDoor
