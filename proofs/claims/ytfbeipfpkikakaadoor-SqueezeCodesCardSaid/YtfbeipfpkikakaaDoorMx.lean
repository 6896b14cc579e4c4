/- Leaves and pairs, the cheapest first. -/
import Derived.Test.YtfbeipfpkikakaaDoorSo
namespace Go.Proofs.YtfbeipfpkikakaaDoor
open Go.RowKit

set_option maxRecDepth 100000
theorem info4 : (Tryd.prog.info? 4).map (fun i => (i.zero, i.size, i.bytes)) = some (some (.bool false), 1, 1) := by kernel_rfl
theorem size141 : (Tryd.prog.info? 141).map (·.size) = some 2 := by kernel_rfl
theorem zero141 : (Tryd.prog.info? 141).bind (·.zero) = some (.agg [.slice none 0 0, .slice none 0 0].toArray) := by kernel_rfl
def mixF : Nat → List Nat → List Nat → List (Nat × Bool)
  | 0, _, _ => []
  | _ + 1, [], [] => []
  | n + 1, x :: xs, [] => (x, true) :: mixF n xs []
  | n + 1, [], y :: ys => (y, false) :: mixF n [] ys
  | n + 1, x :: xs, y :: ys => if x ≤ y then (x, true) :: mixF n xs (y :: ys) else (y, false) :: mixF n (x :: xs) ys
/-- Leaves and pairs, the cheapest first; and which are leaves. -/
def mixN (xs ys : List Nat) : List (Nat × Bool) := mixF (xs.length + ys.length) xs ys
theorem mixN_nil : mixN [] [] = [] := rfl
theorem mixN_left (x : Nat) (xs : List Nat) : mixN (x :: xs) [] = (x, true) :: mixN xs [] := rfl
theorem mixN_right (y : Nat) (ys : List Nat) : mixN [] (y :: ys) = (y, false) :: mixN [] ys := by
  unfold mixN; rw [show ([] : List Nat).length + (y :: ys).length = (([] : List Nat).length + ys.length) + 1 by simp]; rfl
theorem mixN_le {x y : Nat} (xs ys : List Nat) (h : x ≤ y) : mixN (x :: xs) (y :: ys) = (x, true) :: mixN xs (y :: ys) := by
  unfold mixN; rw [show (x :: xs).length + (y :: ys).length = (xs.length + (y :: ys).length) + 1 by simp; omega]; conv => lhs; unfold mixF
  rw [if_pos h]
theorem mixN_gt {x y : Nat} (xs ys : List Nat) (h : ¬ x ≤ y) : mixN (x :: xs) (y :: ys) = (y, false) :: mixN (x :: xs) ys := by
  unfold mixN; rw [show (x :: xs).length + (y :: ys).length = ((x :: xs).length + ys.length) + 1 by simp; omega]; conv => lhs; unfold mixF
  rw [if_neg h]
def costV (L : List (Nat × Bool)) : List Value := L.map fun p => intV p.1
def leafV (L : List (Nat × Bool)) : List Value := L.map fun p => .bool p.2
/-- While things are taken. -/
structure MxAt (w0 : World) (T5 : Nat) (xs ys : List Nat) (L : List (Nat × Bool)) (wr : World) : Prop where
  v2 : ∃ v, BlkAt wr w0.heap.size 131 [v] ∧ SlI w0 v xs ∧ CapOk v
  v3 : ∃ v, BlkAt wr (w0.heap.size + 1) 131 [v] ∧ SlI w0 v ys ∧ CapOk v
  t4 : BlkAt wr (w0.heap.size + 1 + 1) 141 [.slice none 0 0, .slice none 0 0]
  l5 : ∃ c f, BlkAt wr T5 141 [c, f] ∧ OwnV wr w0.heap.size 2 c (costV L) ∧ OwnV wr w0.heap.size 4 f (leafV L)
  bel : Below w0.heap.size w0 wr
def RetMx (w : World) (L : List (Nat × Bool)) (e : Ending) (w' : World) : Prop := ∃ c f, e = .returned (.agg #[c, f]) ∧ OwnV w' w.heap.size 2 c (costV L) ∧ OwnV w' w.heap.size 4 f (leafV L) ∧ Below w.heap.size w w'
theorem OwnV.ofMade {W : World} {B g n : Nat} {t : TypeId} {z : Value} (h : W.heap[g]? = some (.cells (madeCells #[z] n) t (0, 0))) (hB : B ≤ g) (hn : n ≤ 1000000000) : OwnV W B t (.slice (some ⟨g, 0, none⟩) 0 n) [] := by
  refine ⟨⟨rfl, .inr ⟨g, n, _, rfl, hB, h, Nat.zero_le _, by unfold maxLen; omega, by rw [size_madeCells]; simp, by simp⟩⟩, ?_⟩
  have := lt_of_heap h
  omega
theorem alloc3 (w : World) (s : Nat) (hs : w.heap.size = s) (o1 o2 o3 : Obj) : (((w.alloc o1).alloc o2).alloc o3).drew.heap[s]? = some o1 ∧ (((w.alloc o1).alloc o2).alloc o3).drew.heap[s + 1]? = some o2 ∧ (((w.alloc o1).alloc o2).alloc o3).drew.heap[s + 1 + 1]? = some o3 := by
  have z1 : (w.alloc o1).heap.size = s + 1 := by simp [hs]
  have z2 : ((w.alloc o1).alloc o2).heap.size = s + 1 + 1 := by simp [hs]
  have y1 : (w.alloc o1).heap[s]? = some o1 := by rw [← hs]; exact heap_alloc_new w o1
  have y2 : ((w.alloc o1).alloc o2).heap[s + 1]? = some o2 := by rw [← z1]; exact heap_alloc_new _ o2
  have y3 : (((w.alloc o1).alloc o2).alloc o3).heap[s + 1 + 1]? = some o3 := by rw [← z2]; exact heap_alloc_new _ o3
  refine ⟨?_, ?_, y3⟩
  · show (((w.alloc o1).alloc o2).alloc o3).heap[s]? = some o1
    rw [Below.heap_alloc _ _ _ (by omega), Below.heap_alloc _ _ _ (by omega)]; exact y1
  · show (((w.alloc o1).alloc o2).alloc o3).heap[s + 1]? = some o2
    rw [Below.heap_alloc _ _ _ (by omega)]; exact y2
theorem mx_start {w w3 wx : World} {T cb fb n : Nat} {v u : Value} {xs ys : List Nat}
    (ht : BlkAt wx T 141 [.slice (some ⟨cb, 0, none⟩) 0 n, .slice (some ⟨fb, 0, none⟩) 0 n])
    (hc : wx.heap[cb]? = some (.cells (madeCells #[.int .i64 0] n) 2 (0, 0))) (hf : wx.heap[fb]? = some (.cells (madeCells #[.bool false] n) 4 (0, 0))) (h1 : w.heap.size ≤ cb) (h2 : w.heap.size ≤ fb)
    (hv : SlI w v xs) (hu : SlI w u ys) (gv : CapOk v) (gu : CapOk u) (k2 : BlkAt w3 w.heap.size 131 [v]) (k3 : BlkAt w3 (w.heap.size + 1) 131 [u])
    (k4 : BlkAt w3 (w.heap.size + 1 + 1) 141 [.slice none 0 0, .slice none 0 0]) (hb : Below w.heap.size w w3) (hx : Below w3.heap.size w3 wx) (hn : n ≤ 1000000000) : MxAt w T xs ys [] wx :=
  ⟨⟨v, k2.below hx, hv, gv⟩, ⟨u, k3.below hx, hu, gu⟩, k4.below hx, ⟨_, _, ht, OwnV.ofMade hc h1 hn, OwnV.ofMade hf h2 hn⟩, hb.trans (hx.mono hb.size)⟩
def lenAt (w : World) (p : Nat) : Nat := match w.cell? ⟨p, 0, none⟩ with | some (.slice _ n _) => n | _ => 0
theorem BlkAt.lenAt {w : World} {p n c : Nat} {t : TypeId} {a : Option Addr} (h : BlkAt w p t [.slice a n c]) : lenAt w p = n := by
  unfold Proofs.YtfbeipfpkikakaaDoor.lenAt; rw [h.cells.cell 0 _ rfl]
/-- Whole blocks and rows while things are taken. -/
structure MxB (B S T : Nat) (v2 v3 c f : Value) (L1 L2 : List Value) (wr : World) : Prop where
  k2 : BlkAt wr S 131 [v2]
  k3 : BlkAt wr (S + 1) 131 [v3]
  k4 : BlkAt wr (S + 1 + 1) 141 [.slice none 0 0, .slice none 0 0]
  k5 : BlkAt wr T 141 [c, f]
  oc : OwnV wr B 2 c L1
  of : OwnV wr B 4 f L2
theorem MxB.step {B S T : Nat} {v2 v3 c f : Value} {L1 L2 : List Value} {w w' : World} (h : MxB B S T v2 v3 c f L1 L2 w) (k : Below w.heap.size w w') : MxB B S T v2 v3 c f L1 L2 w' :=
  ⟨h.k2.below k, h.k3.below k, h.k4.below k, h.k5.below k, h.oc.below k, h.of.below k⟩
theorem MxB.appc {B S T : Nat} {v2 v3 c f c' : Value} {L1 L2 L' : List Value} {w w' : World} (h : MxB B S T v2 v3 c f L1 L2 w) (hT : S + 3 ≤ T) (o : OwnV w' B 2 c' L') (k : KeepO 2 w w') (hs : w.heap.size ≤ w'.heap.size) :
    MxB B S T v2 v3 c' f L' L2 (w'.setCell ⟨T, 0, none⟩ c') := by
  have k5 := h.k5.keepO k (by decide)
  exact ⟨(h.k2.keepO k (by decide)).other (by omega) _ _, (h.k3.keepO k (by decide)).other (by omega) _ _, (h.k4.keepO k (by decide)).other (by omega) _ _,
    k5.set 0 c', o.oset k5 (by decide) _ _, (h.of.keepO k (by decide) hs).oset k5 (by decide) _ _⟩
theorem MxB.appf {B S T : Nat} {v2 v3 c f f' : Value} {L1 L2 L' : List Value} {w w' : World} (h : MxB B S T v2 v3 c f L1 L2 w) (hT : S + 3 ≤ T) (o : OwnV w' B 4 f' L') (k : KeepO 4 w w') (hs : w.heap.size ≤ w'.heap.size) :
    MxB B S T v2 v3 c f' L1 L' (w'.setCell ⟨T, 1, none⟩ f') := by
  have k5 := h.k5.keepO k (by decide)
  exact ⟨(h.k2.keepO k (by decide)).other (by omega) _ _, (h.k3.keepO k (by decide)).other (by omega) _ _, (h.k4.keepO k (by decide)).other (by omega) _ _,
    k5.set 1 f', (h.oc.keepO k (by decide) hs).oset k5 (by decide) _ _, o.oset k5 (by decide) _ _⟩
theorem MxB.set2 {B S T : Nat} {v2 v3 c f v : Value} {L1 L2 : List Value} {w : World} (h : MxB B S T v2 v3 c f L1 L2 w) (hT : S + 3 ≤ T) : MxB B S T v v3 c f L1 L2 (w.setCell ⟨S, 0, none⟩ v) :=
  ⟨h.k2.set 0 v, h.k3.other (by omega) _ _, h.k4.other (by omega) _ _, h.k5.other (by omega) _ _, h.oc.oset h.k2 (by decide) _ _, h.of.oset h.k2 (by decide) _ _⟩
theorem MxB.set3 {B S T : Nat} {v2 v3 c f v : Value} {L1 L2 : List Value} {w : World} (h : MxB B S T v2 v3 c f L1 L2 w) (hT : S + 3 ≤ T) : MxB B S T v2 v c f L1 L2 (w.setCell ⟨S + 1, 0, none⟩ v) :=
  ⟨h.k2.other (by omega) _ _, h.k3.set 0 v, h.k4.other (by omega) _ _, h.k5.other (by omega) _ _, h.oc.oset h.k3 (by decide) _ _, h.of.oset h.k3 (by decide) _ _⟩
theorem SlI.tail {w : World} {b o n c x : Nat} {xs : List Nat} (h : SlI w (.slice (some ⟨b, o, none⟩) n c) (x :: xs)) : SlI w (.slice (some ⟨b, o + 1, none⟩) xs.length (c - 1)) xs := by
  obtain ⟨a, c', hv, h | ⟨b', off', ha, hb, hc⟩⟩ := h
  · cases h
  · injection hv with h1 h2 h3
    rw [ha] at h1
    injection h1 with h1
    injection h1 with h4 h5
    subst h4 h5
    refine ⟨_, _, rfl, .inr ⟨b, o + 1, rfl, hb, fun j u hu => ?_⟩⟩
    rw [show o + 1 + j = o + (j + 1) by omega]
    exact hc (j + 1) u (by simpa using hu)
/-- One value is appended, as a step of a region that draws its order. -/
theorem step_app1 {w : World} {ops : Array Oper} {o : Oper} {a : Act} {K : Act → World → Prop} {Q : Exit → Act → World → Prop} {E : Prop} (hgd : o.guard = none) (s x : Operand) (st t : TypeId) (z : Value) (bytes : Nat)
    (hu : Tryd.prog.underlying st = some (.slice t)) (hinfo : (Tryd.prog.info? t).map (fun i => (i.zero, i.size, i.bytes)) = some (some z, 1, bytes)) (hzs : z.cells.size = 1) (hby : bytes ≤ 8)
    (ho : o.op = .call { callee := .builtin .append, args := #[s, x], argTypes := #[st, st] })
    (B : Nat) (v : Value) (l : List Value) (hs : a.eval s = v) (hown : OwnV w B t v l) (u : Value) (h1 : u.oneCell' = true) (g : Nat)
    (hx : a.eval x = .slice (some ⟨g, 0, none⟩) 1 1) (hg : BlkAt w g t [u]) (n : Nat) (hn : n = l.length) (hlen : n + 1 ≤ 1000000)
    (h : ∀ g' cap w', OwnV w' B t (.slice (some ⟨g', 0, none⟩) (n + 1) cap) (l ++ [u]) → Below B w w' → KeepO t w w' → K (a.put o.dst (.slice (some ⟨g', 0, none⟩) (n + 1) cap)) w') :
    if Region.wanted o (yielded ops a.tmps) = true then Oper.wp Tryd.prog o a w K Q else E := by
  obtain ⟨i0, hi, hz0, hz1, hz2⟩ := info_parts hinfo
  subst hn
  have hB := hown.2
  have hb2 : (l.length + 1) * bytes ≤ 1000000 * 8 := Nat.mul_le_mul hlen hby
  refine step_append_lies w hgd s x st ho B t i0 z 1 bytes hu hi hz0 hz1 hz2 hzs (by decide) v l.length l hs hown.1 ⟨g, 0, none⟩ 1 1 [u] hx rfl ?_ ?_ (by decide) ?_ ?_ hB w.heap.size rfl ?_
  · intro j u' hj
    rw [add_plain, Nat.zero_add]
    exact hg.cells.cell j u' hj
  · intro u' hu'
    simp only [List.mem_cons, List.not_mem_nil, or_false] at hu'
    rw [hu']; exact h1
  · unfold maxLen; omega
  · omega
  · intro g' cap w' h1 h2 _ hlt
    have hsz := h2.size
    refine h g' cap w' ⟨?_, Nat.le_trans hB hsz⟩ ((Below.refl B w).grown h2 hB (fun k hk => (hown.1.lt k hk).1)) (hown.keeps h2)
    rw [List.length_append]; exact h1
def MxRel (w : World) (T : Nat) (R : List (Nat × Bool)) (wr : World) : Prop := ∃ xs ys L, MxAt w T xs ys L wr ∧ R = L ++ mixN xs ys ∧ xs.length + ys.length + L.length ≤ 100000
theorem MxAt.drewN {w wr : World} {T : Nat} {xs ys : List Nat} {L : List (Nat × Bool)} (h : MxAt w T xs ys L wr) (k : Nat) : MxAt w T xs ys L (wr.drewN k) := ⟨h.v2, h.v3, h.t4, h.l5, bdrewB h.bel k⟩
theorem SlI.tailC {w : World} {b o n c x : Nat} {xs : List Nat} (h : SlI w (.slice (some ⟨b, o, none⟩) n c) (x :: xs)) (hc : xs.length + 1 ≤ c) : SlI w (.slice (if c = 1 then some ⟨b, o, none⟩ else some ⟨b, o + 1, none⟩) xs.length (c - 1)) xs := by
  by_cases e : c = 1
  · subst e
    rw [if_pos rfl]
    obtain rfl : xs = [] := List.eq_nil_of_length_eq_zero (by omega)
    exact ⟨_, _, rfl, .inl rfl⟩
  · rw [if_neg e]; exact h.tail
theorem SlI.lenAt {w wr : World} {v : Value} {xs : List Nat} {p : Nat} {t : TypeId} (h : SlI w v xs) (k : BlkAt wr p t [v]) : lenAt wr p = xs.length := by
  obtain ⟨a, c, rfl, _⟩ := h
  exact k.lenAt
theorem mx_end2 {w w6 wr : World} {S T m2 p2 b2 o2 x : Nat} {xr ys' : List Nat} {L R : List (Nat × Bool)} {v3 c f : Value} (hS : S = w.heap.size) (hT : S + 3 ≤ T)
    (hB : MxB w.heap.size S T (.slice (some ⟨b2, o2, none⟩) (m2 + 1) p2) v3 c f (costV L ++ [.int .i64 (x : Int)]) (leafV L ++ [.bool true]) w6) (be : Below w.heap.size w w6)
    (q2 : SlI w (.slice (some ⟨b2, o2, none⟩) (x :: xr).length p2) (x :: xr)) (hp : m2 + 1 ≤ p2) (hm : m2 = xr.length) (q3 : SlI w v3 ys') (z3 : CapOk v3)
    (hq : R = L ++ mixN (x :: xr) ys') (hqq : mixN (x :: xr) ys' = (x, true) :: mixN xr ys') (hl : (x :: xr).length + ys'.length + L.length ≤ 100000) (ln2 : lenAt wr S = (x :: xr).length) (ln3 : lenAt wr (S + 1) = ys'.length) :
    MxRel w T R (w6.setCell ⟨S, 0, none⟩ (.slice (if p2 = 1 then some ⟨b2, o2, none⟩ else some ⟨b2, o2 + 1, none⟩) m2 (p2 - 1))) ∧
      lenAt (w6.setCell ⟨S, 0, none⟩ (.slice (if p2 = 1 then some ⟨b2, o2, none⟩ else some ⟨b2, o2 + 1, none⟩) m2 (p2 - 1))) S + lenAt (w6.setCell ⟨S, 0, none⟩ (.slice (if p2 = 1 then some ⟨b2, o2, none⟩ else some ⟨b2, o2 + 1, none⟩) m2 (p2 - 1))) (S + 1) < lenAt wr S + lenAt wr (S + 1) := by
  have h := hB.set2 (v := .slice (if p2 = 1 then some ⟨b2, o2, none⟩ else some ⟨b2, o2 + 1, none⟩) m2 (p2 - 1)) hT
  subst hm
  have t2 := q2.tailC hp
  refine ⟨⟨xr, ys', L ++ [(x, true)], ⟨⟨_, by rw [← hS]; exact h.k2, t2, ⟨_, _, _, rfl, by omega⟩⟩, ⟨v3, by rw [← hS]; exact h.k3, q3, z3⟩, by rw [← hS]; exact h.k4, ⟨c, f, h.k5, ?_, ?_⟩, be.setCell (p := ⟨S, 0, none⟩) (Nat.le_of_eq hS.symm) _⟩, by rw [hq, hqq]; simp, by simp at hl ⊢; omega⟩, ?_⟩
  · have := h.oc; unfold costV at *; rw [List.map_append]; exact this
  · have := h.of; unfold leafV at *; rw [List.map_append]; exact this
  · rw [t2.lenAt h.k2, q3.lenAt h.k3, ln2, ln3]; simp
theorem mx_end3 {w w6 wr : World} {S T m2 p2 b2 o2 y : Nat} {xs' yr : List Nat} {L R : List (Nat × Bool)} {v2 c f : Value} (hS : S = w.heap.size) (hT : S + 3 ≤ T)
    (hB : MxB w.heap.size S T v2 (.slice (some ⟨b2, o2, none⟩) (m2 + 1) p2) c f (costV L ++ [.int .i64 (y : Int)]) (leafV L ++ [.bool false]) w6) (be : Below w.heap.size w w6)
    (q3 : SlI w (.slice (some ⟨b2, o2, none⟩) (y :: yr).length p2) (y :: yr)) (hp : m2 + 1 ≤ p2) (hm : m2 = yr.length) (q2 : SlI w v2 xs') (z2 : CapOk v2)
    (hq : R = L ++ mixN xs' (y :: yr)) (hqq : mixN xs' (y :: yr) = (y, false) :: mixN xs' yr) (hl : xs'.length + (y :: yr).length + L.length ≤ 100000) (ln2 : lenAt wr S = xs'.length) (ln3 : lenAt wr (S + 1) = (y :: yr).length) :
    MxRel w T R (w6.setCell ⟨S + 1, 0, none⟩ (.slice (if p2 = 1 then some ⟨b2, o2, none⟩ else some ⟨b2, o2 + 1, none⟩) m2 (p2 - 1))) ∧
      lenAt (w6.setCell ⟨S + 1, 0, none⟩ (.slice (if p2 = 1 then some ⟨b2, o2, none⟩ else some ⟨b2, o2 + 1, none⟩) m2 (p2 - 1))) S + lenAt (w6.setCell ⟨S + 1, 0, none⟩ (.slice (if p2 = 1 then some ⟨b2, o2, none⟩ else some ⟨b2, o2 + 1, none⟩) m2 (p2 - 1))) (S + 1) < lenAt wr S + lenAt wr (S + 1) := by
  have h := hB.set3 (v := .slice (if p2 = 1 then some ⟨b2, o2, none⟩ else some ⟨b2, o2 + 1, none⟩) m2 (p2 - 1)) hT
  subst hm
  have t2 := q3.tailC hp
  refine ⟨⟨xs', yr, L ++ [(y, false)], ⟨⟨v2, by rw [← hS]; exact h.k2, q2, z2⟩, ⟨_, by rw [← hS]; exact h.k3, t2, ⟨_, _, _, rfl, by omega⟩⟩, by rw [← hS]; exact h.k4, ⟨c, f, h.k5, ?_, ?_⟩, be.setCell (p := ⟨S + 1, 0, none⟩) (show w.heap.size ≤ S + 1 by omega) _⟩, by rw [hq, hqq]; simp, by simp at hl ⊢; omega⟩, ?_⟩
  · have := h.oc; unfold costV at *; rw [List.map_append]; exact this
  · have := h.of; unfold leafV at *; rw [List.map_append]; exact this
  · rw [t2.lenAt h.k3, q2.lenAt h.k2, ln2, ln3]; simp
set_option maxHeartbeats 1600000 in
theorem mixed_ok {w : World} {v u : Value} {xs ys : List Nat} (hv : SlI w v xs) (hu : SlI w u ys) (gv : CapOk v) (gu : CapOk u) (hn : xs.length + ys.length ≤ 100000) :
    Calls Tryd.prog 89 #[v, u] w (RetMx w (mixN xs ys)) := by
  have HV := Lib.hid hv
  have HU := Lib.hid hu
  have GV := Lib.hid gv
  have GU := Lib.hid gu
  clear gv gu
  obtain ⟨va, vc, rfl, _⟩ := hv
  obtain ⟨ua, uc, rfl, _⟩ := hu
  obtain ⟨n, hnn⟩ : ∃ n, n = xs.length + ys.length := ⟨_, rfl⟩
  have e1 : IntKind.i64.wrap ((xs.length : Int) + (ys.length : Int)) = (n : Int) := by rw [show (xs.length : Int) + (ys.length : Int) = (n : Int) by omega]; exact IntWalk.i64_in _ (by omega)
  have m1 := fun (W : World) => run_make_room (P := Tryd.prog) 131 2 (.int .i64 0) 8 Tryd.underlying131 info2 rfl .i64 .i64 n (by omega) (by omega) W
  have m2 := fun (W : World) => run_make_room (P := Tryd.prog) 139 4 (.bool false) 1 Tryd.underlying139 info4 rfl .i64 .i64 n (by omega) (by omega) W
  have N2 := Lib.hid hnn
  have NLE := Lib.hid (show n ≤ 1000000000 by omega)
  have Z := Lib.hid zero141
  clear hnn
  go_enter Tryd.func89, Tryd.ntmps89
  go_upto_region 1 with fail
  have b2 : BlkAt (((w.alloc (.cells #[.slice va xs.length vc] 131)).alloc (.cells #[.slice ua ys.length uc] 131)).alloc (.cells #[.slice none 0 0, .slice none 0 0] 141)) w.heap.size 131 [.slice va xs.length vc] := ((BlkAt.new w [_] 131).alloc _).alloc _
  have b3 : BlkAt (((w.alloc (.cells #[.slice va xs.length vc] 131)).alloc (.cells #[.slice ua ys.length uc] 131)).alloc (.cells #[.slice none 0 0, .slice none 0 0] 141)) (w.heap.size + 1) 131 [.slice ua ys.length uc] := by
    have := (BlkAt.new (w.alloc (.cells #[.slice va xs.length vc] 131)) [.slice ua ys.length uc] 131).alloc (.cells #[.slice none 0 0, .slice none 0 0] 141)
    rw [show (w.alloc (.cells #[.slice va xs.length vc] 131)).heap.size = w.heap.size + 1 by simp] at this
    exact this
  have b4 : BlkAt (((w.alloc (.cells #[.slice va xs.length vc] 131)).alloc (.cells #[.slice ua ys.length uc] 131)).alloc (.cells #[.slice none 0 0, .slice none 0 0] 141)) (w.heap.size + 1 + 1) 141 [.slice none 0 0, .slice none 0 0] := by
    have := BlkAt.new ((w.alloc (.cells #[.slice va xs.length vc] 131)).alloc (.cells #[.slice ua ys.length uc] 131)) [.slice none 0 0, .slice none 0 0] 141
    rw [show ((w.alloc (.cells #[.slice va xs.length vc] 131)).alloc (.cells #[.slice ua ys.length uc] 131)).heap.size = w.heap.size + 1 + 1 by simp] at this
    exact this
  have B3 := Lib.hid ((((below_alloc w (.cells #[.slice va xs.length vc] 131)).alloc (by simp) (.cells #[.slice ua ys.length uc] 131)).alloc (by simp; omega) (.cells #[.slice none 0 0, .slice none 0 0] 141)))
  have s3 : (((w.alloc (.cells #[.slice va xs.length vc] 131)).alloc (.cells #[.slice ua ys.length uc] 131)).alloc (.cells #[.slice none 0 0, .slice none 0 0] 141)).heap.size = w.heap.size + 3 := by simp
  generalize (((w.alloc (.cells #[.slice va xs.length vc] 131)).alloc (.cells #[.slice ua ys.length uc] 131)).alloc (.cells #[.slice none 0 0, .slice none 0 0] 141)) = w3 at *
  have c2 := b2.cells.cell 0 _ rfl
  have c3 := b3.cells.cell 0 _ rfl
  have K2 := Lib.hid b2
  have K3 := Lib.hid b3
  have K4 := Lib.hid b4
  clear b2 b3 b4
  obtain ⟨S, hS⟩ : ∃ S, S = w.heap.size := ⟨_, rfl⟩
  rw [← hS] at c2 c3 s3 K2 K3 K4 ⊢
  have QS := Lib.hid hS
  clear hS
  go_cut [5] from 6 (fun v5 wx => ∃ T, v5 = .pointer (some ⟨T, 0, none⟩) ∧ S + 3 ≤ T ∧ MxAt w T xs ys [] wx)
  case first =>
    have HS := Lib.hid s3
    go_region
    all_goals (go_wp2_with fail; go_meet)
    all_goals
      have HS2 := HS.out
      have QS2 := QS.out
      subst QS2
      refine ⟨_, rfl, by omega, ?_⟩
      exact mx_start (by first | exact (alloc3 w3 _ HS2 _ _ _).1 | exact (alloc3 w3 _ HS2 _ _ _).2.1 | exact (alloc3 w3 _ HS2 _ _ _).2.2)
        (by first | exact (alloc3 w3 _ HS2 _ _ _).1 | exact (alloc3 w3 _ HS2 _ _ _).2.1 | exact (alloc3 w3 _ HS2 _ _ _).2.2)
        (by first | exact (alloc3 w3 _ HS2 _ _ _).1 | exact (alloc3 w3 _ HS2 _ _ _).2.1 | exact (alloc3 w3 _ HS2 _ _ _).2.2)
        (by omega) (by omega) HV.out HU.out GV.out GU.out K2.out K3.out K4.out B3.out ((((below_alloc w3 _).alloc (by simp) _).alloc (by simp; omega) _).drew) NLE.out
  case rest =>
    obtain ⟨T, rfl, hT, hm⟩ := hcut
    have TL := Lib.hid hT
    have ST := Lib.hid (show MxRel w T (mixN xs ys) wc from ⟨xs, ys, [], hm, rfl, by simpa using hn⟩)
    clear hm hT m1 m2 e1 s3 K2 K3 K4 B3 c2 c3 HV HU GV GU N2 Z NLE hn
    go_wp2_with fail
    go_loopw [6, 7] (fun _ _ wr => MxRel w T (mixN xs ys) wr) (fun _ _ wr => lenAt wr S + lenAt wr (S + 1))
    case atStart => exact ST.out
    case round =>
      clear ST
      obtain ⟨xs', ys', L, hm, hq, hl⟩ := hrel
      have MM := Lib.hid hm
      obtain ⟨⟨v2, k2, q2, z2⟩, ⟨v3, k3, q3, z3⟩, k4, ⟨c, f, k5, oc, of'⟩, bel⟩ := hm
      clear z2 z3
      rw [← QS.out] at k2 k3 k4
      obtain ⟨ac, kc, rfl⟩ := oc.form
      obtain ⟨af, kf, rfl⟩ := of'.form
      have ecl : (costV L).length = L.length := by simp [costV]
      have efl : (leafV L).length = L.length := by simp [leafV]
      rw [ecl] at oc k5
      rw [efl] at of' k5
      clear ecl efl
      have HQ := Lib.hid hq
      have HLn := Lib.hid hl
      have BE := Lib.hid bel
      have K2 := Lib.hid k2
      have K3 := Lib.hid k3
      have K4 := Lib.hid k4
      have K5 := Lib.hid k5
      have OC := Lib.hid oc
      have OF := Lib.hid of'
      have H2 := Lib.hid q2
      have H3 := Lib.hid q3
      obtain ⟨a2, p2, rfl, _⟩ := q2
      obtain ⟨a3, p3, rfl, _⟩ := q3
      have c2 := k2.cells.cell 0 _ rfl
      have c3 := k3.cells.cell 0 _ rfl
      clear hq hl bel k2 k3 k4 k5 oc of'
      by_cases he : xs' = [] ∧ ys' = []
      · obtain ⟨rfl, rfl⟩ := he
        have c4 := K4.out.cells.cell 0 _ rfl
        have c4b := K4.out.cells.cell 1 _ rfl
        have f4 := K4.out.cells.free
        have l4 := K4.out.cells.lt
        have c5 := K5.out.cells.cell 0 _ rfl
        have c5b := K5.out.cells.cell 1 _ rfl
        obtain ⟨c, hc⟩ : ∃ c, c = Value.slice ac L.length kc := ⟨_, rfl⟩
        obtain ⟨f, hf⟩ : ∃ f, f = Value.slice af L.length kf := ⟨_, rfl⟩
        rw [← hc, ← hf] at K5
        rw [← hc] at OC
        rw [← hf] at OF
        have F1 := (K4.out.set 0 c).set 1 f
        have FIN := Lib.hid (show RetMx w (mixN xs ys) (.returned (.agg #[c, f])) ((wr.setCell ⟨S + 1 + 1, 0, none⟩ c).setCell ⟨S + 1 + 1, 1, none⟩ f) from by
          have hL : mixN xs ys = L := by rw [HQ.out, mixN_nil, List.append_nil]
          rw [hL]
          have k4' := K4.out.set 0 c
          refine ⟨c, f, rfl, ?_, ?_, ?_⟩
          · exact (OC.out.oset K4.out (by decide) 0 c).oset k4' (by decide) 1 f
          · exact (OF.out.oset K4.out (by decide) 0 c).oset k4' (by decide) 1 f
          · have le : w.heap.size ≤ S + 1 + 1 := by rw [QS.out]; omega
            exact (BE.out.setCell (p := ⟨S + 1 + 1, 0, none⟩) le c).setCell (p := ⟨S + 1 + 1, 1, none⟩) le f)
        have H1 := Lib.hid F1
        clear F1
        subst hc hf
        clear K2 K3 K5 OC OF H2 H3 MM HQ HLn BE
        go_wp2_with fail
        exact bodyPost_ret (results_range rfl _ _ (S + 1 + 1) [.slice ac L.length kc, .slice af L.length kf] _ rfl H1.out.cells.range Tryd.underlying141 rfl size141) rfl FIN.out
      · have CUT : True := trivial
        have BX := bcell BE.out
        have ln2 := K2.out.lenAt
        have ln3 := K3.out.lenAt
        have HL2 := HLn.out
        have W1 : IntKind.i64.wrap ((xs'.length : Int) + (ys'.length : Int)) = (xs'.length : Int) + (ys'.length : Int) := IntWalk.i64_in _ (by omega)
        have P1 : (0 : Int) < (xs'.length : Int) + (ys'.length : Int) := by
          have : ¬ (xs'.length = 0 ∧ ys'.length = 0) := by rw [List.length_eq_zero_iff, List.length_eq_zero_iff]; exact he
          omega
        have P1n : 0 < xs'.length + ys'.length := by omega
        have LN2 := Lib.hid ln2
        have LN3 := Lib.hid ln3
        clear ln2 ln3 HL2
        go_upto_region 3 with fail
        go_cut [6] from 21 to 66 (fun v6 wx => MxAt w T xs' ys' L wx ∧ ((∃ x xr, v6 = .bool true ∧ xs' = x :: xr ∧ mixN xs' ys' = (x, true) :: mixN xr ys') ∨
          (∃ y yr, v6 = .bool false ∧ ys' = y :: yr ∧ mixN xs' ys' = (y, false) :: mixN xs' yr)))
        case first =>
          clear K4 K5 OC OF LN2 LN3
          rcases hy : ys' with _ | ⟨y, yr⟩
          · rcases hx : xs' with _ | ⟨x, xr⟩
            · exact absurd ⟨hx, hy⟩ he
            · subst hx hy
              have FIN := Lib.hid (fun k => MM.out.drewN k)
              clear MM H2 H3 K2 K3 HQ HLn BE BX W1 P1 P1n he
              go_quiet (fail)
              go_wp2_with fail
              go_meet
              exact ⟨FIN.out _, .inl ⟨x, xr, rfl, rfl, mixN_left x xr⟩⟩
          · rcases hx : xs' with _ | ⟨x, xr⟩
            · subst hx hy
              have FIN := Lib.hid (fun k => MM.out.drewN k)
              obtain ⟨m3, hm3⟩ : ∃ m, m = (y :: yr).length := ⟨_, rfl⟩
              have z3 : 0 < m3 := by rw [hm3]; simp
              rw [← hm3] at c3
              have g1 : ((m3 : Int) == 0) = false := by rw [beq_eq_false_iff_ne]; omega
              have g1n : (m3 == 0) = false := by rw [beq_eq_false_iff_ne]; omega
              change wr.cell? _ = some (.slice a2 0 p2) at c2
              clear MM H2 H3 K2 K3 HQ HLn BE BX W1 P1 P1n he hm3
              go_quiet (fail)
              go_wp2_with fail
              go_meet
              exact ⟨FIN.out _, .inr ⟨y, yr, rfl, rfl, mixN_right y yr⟩⟩
            · subst hx hy
              have FIN := Lib.hid (fun k => MM.out.drewN k)
              obtain ⟨b2, o2, rfl, l2⟩ : ∃ b o, a2 = some ⟨b, o, none⟩ ∧ b < w.heap.size := by
                obtain ⟨a, c, e, h | ⟨b, o, ha, hb, _⟩⟩ := H2.out
                · cases h
                · injection e with e1 _ _; exact ⟨b, o, by rw [e1, ha], hb⟩
              obtain ⟨b3, o3, rfl, l3⟩ : ∃ b o, a3 = some ⟨b, o, none⟩ ∧ b < w.heap.size := by
                obtain ⟨a, c, e, h | ⟨b, o, ha, hb, _⟩⟩ := H3.out
                · cases h
                · injection e with e1 _ _; exact ⟨b, o, by rw [e1, ha], hb⟩
              have d2 := (BX.1 b2 (o2 + 0) l2).trans (H2.out.get.2 0 x rfl)
              have d3 := (BX.1 b3 (o3 + 0) l3).trans (H3.out.get.2 0 y rfl)
              rw [Nat.add_zero] at d2 d3
              obtain ⟨m3, hm3⟩ : ∃ m, m = (y :: yr).length := ⟨_, rfl⟩
              have z3 : 0 < m3 := by rw [hm3]; simp
              obtain ⟨m2, hm2⟩ : ∃ m, m = (x :: xr).length := ⟨_, rfl⟩
              have z2 : 0 < m2 := by rw [hm2]; simp
              rw [← hm3] at c3
              rw [← hm2] at c2
              have g1 : ((m3 : Int) == 0) = false := by rw [beq_eq_false_iff_ne]; omega
              have g1n : (m3 == 0) = false := by rw [beq_eq_false_iff_ne]; omega
              have g2 : decide ((0 : Int) < (m2 : Int)) = true := decide_eq_true (by omega)
              have g2n : decide (0 < m2) = true := decide_eq_true z2
              have e2 : (0 : Int) < (m2 : Int) := by omega
              have e3 : (0 : Int) < (m3 : Int) := by omega
              by_cases hxy : x ≤ y
              · have RQ := Lib.hid (mixN_le xr yr hxy)
                have t1 : decide ((x : Int) ≤ (y : Int)) = true := decide_eq_true (by omega)
                have t1n : decide (x ≤ y) = true := decide_eq_true hxy
                clear MM H2 H3 K2 K3 HQ HLn BE BX W1 P1 P1n he hxy hm2 hm3
                go_quiet (fail)
                go_wp2_with fail
                go_meet
                exact ⟨FIN.out _, .inl ⟨x, xr, rfl, rfl, RQ.out⟩⟩
              · have RQ := Lib.hid (mixN_gt xr yr hxy)
                have t1 : decide ((x : Int) ≤ (y : Int)) = false := decide_eq_false (by omega)
                have t1n : decide (x ≤ y) = false := decide_eq_false hxy
                clear MM H2 H3 K2 K3 HQ HLn BE BX W1 P1 P1n he hxy hm2 hm3
                go_quiet (fail)
                go_wp2_with fail
                go_meet
                exact ⟨FIN.out _, .inr ⟨y, yr, rfl, rfl, RQ.out⟩⟩
        case rest =>
          obtain ⟨hm2, hw⟩ := hcut
          clear c2 c3 MM BE K2 K3 K4 K5 OC OF H2 H3 W1 P1 P1n he BX
          rcases hw with ⟨x, xr, rfl, hx, hqq⟩ | ⟨y, yr, rfl, hy, hqq⟩
          · go_upto_region 7 with fail
            subst hx
            obtain ⟨⟨v2, k2, q2, z2⟩, ⟨v3, k3, q3, z3⟩, k4, ⟨c', f', k5, oc, of'⟩, bel⟩ := hm2
            have Z2 := Lib.hid z2
            have Z3 := Lib.hid z3
            clear z2 z3
            rw [← QS.out] at k2 k3 k4
            have CF := Lib.hid oc.form
            obtain ⟨ac', kc', rfl⟩ := oc.form
            have lc : (costV L).length = L.length := by simp [costV]
            have lf : (leafV L).length = L.length := by simp [leafV]
            obtain ⟨af', kf', rfl⟩ := of'.form
            rw [lc] at oc k5
            rw [lf] at of' k5
            have Q2 := Lib.hid q2
            obtain ⟨a2', p2', rfl, hh⟩ := q2
            obtain ⟨b2, o2, rfl, l2⟩ : ∃ b o, a2' = some ⟨b, o, none⟩ ∧ b < w.heap.size := by
              rcases hh with h | ⟨b, o, ha, hb, _⟩
              · cases h
              · exact ⟨b, o, ha, hb⟩
            have d2 : wc.drew.cell? ⟨b2, o2 + 0, none⟩ = some (.int .i64 (x : Int)) := ((bcell bel).1 b2 (o2 + 0) l2).trans (Q2.out.get.2 0 x rfl)
            rw [Nat.add_zero] at d2
            obtain ⟨m2, hm2⟩ : ∃ m, m = xr.length := ⟨_, rfl⟩
            have k2' : BlkAt wc S 131 [.slice (some ⟨b2, o2, none⟩) (m2 + 1) p2'] := by rw [hm2]; exact k2
            have MB0 := Lib.hid (show MxB w.heap.size S T (.slice (some ⟨b2, o2, none⟩) (m2 + 1) p2') v3 (.slice ac' L.length kc') (.slice af' L.length kf') (costV L) (leafV L) wc.drew from ⟨k2', k3, k4, k5, oc, of'⟩)
            have lL : L.length + 1 ≤ 1000000 := by have := HLn.out; simp at this; omega
            have BE := Lib.hid (show Below w.heap.size w wc.drew from bdrewB bel 1)
            have OQ := Lib.hid q3
            have M2 := Lib.hid hm2
            have TL2 := TL.out
            have c2 : wc.drew.cell? ⟨S, 0, none⟩ = some (.slice (some ⟨b2, o2, none⟩) (m2 + 1) p2') := k2'.cells.cell 0 _ rfl
            have lt2 : S < wc.drew.heap.size := k2'.cells.lt
            have c5 : wc.drew.cell? ⟨T, 0, none⟩ = some (.slice ac' L.length kc') := k5.cells.cell 0 _ rfl
            have e2 : (0 : Int) < ((m2 + 1 : Nat) : Int) := by omega
            have e2n : 0 < m2 + 1 := by omega
            have MBA := Lib.hid (MB0.out.step (below_alloc wc.drew (.cells #[.int .i64 (x : Int)] 2)))
            have NA := Lib.hid (show BlkAt (wc.drew.alloc (.cells #[.int .i64 (x : Int)] 2)) wc.heap.size 2 [.int .i64 (x : Int)] from BlkAt.new wc.drew [.int .i64 (x : Int)] 2)
            have d5 : (wc.alloc (.cells #[.int .i64 (x : Int)] 2)).drew.cell? ⟨T, 0, none⟩ = some (.slice ac' L.length kc') := MBA.out.k5.cells.cell 0 _ rfl
            have szA : w.heap.size ≤ wc.drew.heap.size := by have := BE.out.size; omega
            have BEA := Lib.hid (BE.out.trans ((below_alloc wc.drew (.cells #[.int .i64 (x : Int)] 2)).mono szA))
            have tS : T ≠ S := by omega
            have tb : T ≠ b2 := by have := QS.out; omega
            have cA2 : (wc.drew.alloc (.cells #[.int .i64 (x : Int)] 2)).cell? ⟨S, 0, none⟩ = some (.slice (some ⟨b2, o2, none⟩) (m2 + 1) p2') := MBA.out.k2.cells.cell 0 _ rfl
            have dA2 : (wc.drew.alloc (.cells #[.int .i64 (x : Int)] 2)).cell? ⟨b2, o2, none⟩ = some (.int .i64 (x : Int)) := ((below_alloc wc.drew (.cells #[.int .i64 (x : Int)] 2)).cell (p := ⟨b2, o2, none⟩) (Nat.lt_of_lt_of_le l2 BE.out.size)).trans d2
            clear hh k2 k2' k3 k4 k5 oc of' bel q3 hm2 CF
            go_region_law (refine step_app1 (by rfl) _ _ 131 2 (.int .i64 0) 8 Tryd.underlying131 info2 rfl (by decide) (by rfl) w.heap.size _ (costV L) (by rfl) MBA.out.oc (.int .i64 (x : Int)) rfl wc.heap.size (by rfl) NA.out L.length lc.symm lL ?_; intro g' cap w3 o3 b3 k3; have O3 := Lib.hid o3; have B3 := Lib.hid b3; have K3 := Lib.hid k3; clear o3 b3 k3; have q5 := (MBA.out.k2.keepO K3.out (by decide)).cells.cell 0 _ rfl; have q6 := (B3.out.cell (p := ⟨b2, o2, none⟩) l2).trans ((BEA.out.cell (p := ⟨b2, o2, none⟩) l2).trans ((Q2.out.get.2 0 x rfl))); have q7 := (MBA.out.k5.keepO K3.out (by decide)).cells.cell 0 _ rfl; have q8 := (MBA.out.k5.keepO K3.out (by decide)).cells.free 0; have q9 := (MBA.out.k5.keepO K3.out (by decide)).cells.lt; have s1 : (w3.setCell ⟨T, 0, none⟩ (.slice (some ⟨g', 0, none⟩) (L.length + 1) cap)).cell? ⟨S, 0, none⟩ = some (.slice (some ⟨b2, o2, none⟩) (m2 + 1) p2') := (World.cell?_setCell_other _ _ _ _ (fun e => tS (congrArg Addr.block e))).trans q5; have s2 : (w3.setCell ⟨T, 0, none⟩ (.slice (some ⟨g', 0, none⟩) (L.length + 1) cap)).cell? ⟨b2, o2, none⟩ = some (.int .i64 (x : Int)) := (World.cell?_setCell_other _ _ _ _ (fun e => tb (congrArg Addr.block e))).trans q6)
            all_goals
              have sz3 : (wc.drew.alloc (.cells #[.int .i64 (x : Int)] 2)).heap.size ≤ w3.heap.size := B3.out.size
              have BW3 := Lib.hid (BEA.out.trans B3.out)
              have MB1 := Lib.hid (MBA.out.appc TL2 O3.out K3.out sz3)
              have BE1 := Lib.hid (BW3.out.setCell (p := ⟨T, 0, none⟩) (show w.heap.size ≤ T by have := QS.out; omega) (.slice (some ⟨g', 0, none⟩) (L.length + 1) cap))
              clear sz3 BW3 O3 B3 K3 q5 q6 q7 q8 q9 s1 s2 c5 d5 cA2 dA2 c2 d2 lt2 MB0 MBA NA BE BEA szA
              generalize w3.setCell ⟨T, 0, none⟩ (.slice (some ⟨g', 0, none⟩) (L.length + 1) cap) = w4 at *
              have c51 : w4.cell? ⟨T, 1, none⟩ = some (.slice af' L.length kf') := MB1.out.k5.cells.cell 1 _ rfl
              have lt5 := MB1.out.k5.cells.lt
              go_upto_region 8 with fail
              go_wp2_with (at_builtin; refine wp_app1 (by rfl) _ _ 139 4 (.bool false) 1 Tryd.underlying139 info4 rfl (by decide) (by rfl) w.heap.size _ (leafV L) (by rfl) MB1.out.of (.bool true) rfl (by rfl) (by rw [lf]; exact lL) ?_)
              intro v' w5 o' b' k'
              obtain ⟨av, ln, cv, rfl⟩ : ∃ a n c, v' = .slice a n c := by obtain ⟨a, c, h⟩ := o'.form; exact ⟨a, _, c, h⟩
              have MB2 := Lib.hid (MB1.out.appf TL2 o' k' b'.size)
              have BE2 := Lib.hid ((BE1.out.trans b').setCell (p := ⟨T, 1, none⟩) (show w.heap.size ≤ T by have := QS.out; omega) (.slice av ln cv))
              have q51 : w5.cell? ⟨T, 1, none⟩ = some (.slice af' L.length kf') := (MB1.out.k5.keepO k' (by decide)).cells.cell 1 _ rfl
              have lt51 := (MB1.out.k5.keepO k' (by decide)).cells.lt
              have fr51 := (MB1.out.k5.keepO k' (by decide)).cells.free 1
              clear o' k' b' c51 lt5 MB1 BE1
              go_upto_region 9 with fail
              clear q51 lt51 fr51
              generalize w5.setCell ⟨T, 1, none⟩ (.slice av ln cv) = w6 at *
              have c22 : w6.cell? ⟨S, 0, none⟩ = some (.slice (some ⟨b2, o2, none⟩) (m2 + 1) p2') := MB2.out.k2.cells.cell 0 _ rfl
              have lt22 := MB2.out.k2.cells.lt
              have fr22 := MB2.out.k2.cells.free 0
              have CP := Lib.hid (show m2 + 1 ≤ p2' from by obtain ⟨_, _, _, e, h⟩ := Z2.out; injection e with e1 e2 e3; have := M2.out; simp at e2; omega)
              have FIN := Lib.hid (mx_end2 QS.out TL.out MB2.out BE2.out Q2.out CP.out M2.out OQ.out Z3.out HQ.out hqq HLn.out LN2.out LN3.out)
              clear CP MB2 BE2 Q2 M2 OQ HQ hqq HLn LN2 LN3 Z2 Z3
              go_wp2_with fail
              exact FIN.out
          · go_upto_region 7 with fail
            subst hy
            obtain ⟨⟨v2, k2, q2, z2⟩, ⟨v3, k3, q3, z3⟩, k4, ⟨c', f', k5, oc, of'⟩, bel⟩ := hm2
            have Z2 := Lib.hid z2
            have Z3 := Lib.hid z3
            clear z2 z3
            rw [← QS.out] at k2 k3 k4
            have CF := Lib.hid oc.form
            obtain ⟨ac', kc', rfl⟩ := oc.form
            have lc : (costV L).length = L.length := by simp [costV]
            have lf : (leafV L).length = L.length := by simp [leafV]
            obtain ⟨af', kf', rfl⟩ := of'.form
            rw [lc] at oc k5
            rw [lf] at of' k5
            have Q2 := Lib.hid q3
            obtain ⟨a2', p2', rfl, hh⟩ := q3
            obtain ⟨b2, o2, rfl, l2⟩ : ∃ b o, a2' = some ⟨b, o, none⟩ ∧ b < w.heap.size := by
              rcases hh with h | ⟨b, o, ha, hb, _⟩
              · cases h
              · exact ⟨b, o, ha, hb⟩
            have d2 : wc.drew.cell? ⟨b2, o2 + 0, none⟩ = some (.int .i64 (y : Int)) := ((bcell bel).1 b2 (o2 + 0) l2).trans (Q2.out.get.2 0 y rfl)
            rw [Nat.add_zero] at d2
            obtain ⟨m2, hm2⟩ : ∃ m, m = yr.length := ⟨_, rfl⟩
            have k2' : BlkAt wc (S + 1) 131 [.slice (some ⟨b2, o2, none⟩) (m2 + 1) p2'] := by rw [hm2]; exact k3
            have MB0 := Lib.hid (show MxB w.heap.size S T v2 (.slice (some ⟨b2, o2, none⟩) (m2 + 1) p2') (.slice ac' L.length kc') (.slice af' L.length kf') (costV L) (leafV L) wc.drew from ⟨k2, k2', k4, k5, oc, of'⟩)
            have lL : L.length + 1 ≤ 1000000 := by have := HLn.out; simp at this; omega
            have BE := Lib.hid (show Below w.heap.size w wc.drew from bdrewB bel 1)
            have OQ := Lib.hid q2
            have M2 := Lib.hid hm2
            have TL2 := TL.out
            have c2 : wc.drew.cell? ⟨S + 1, 0, none⟩ = some (.slice (some ⟨b2, o2, none⟩) (m2 + 1) p2') := k2'.cells.cell 0 _ rfl
            have lt2 : S + 1 < wc.drew.heap.size := k2'.cells.lt
            have c5 : wc.drew.cell? ⟨T, 0, none⟩ = some (.slice ac' L.length kc') := k5.cells.cell 0 _ rfl
            have e2 : (0 : Int) < ((m2 + 1 : Nat) : Int) := by omega
            have e2n : 0 < m2 + 1 := by omega
            have MBA := Lib.hid (MB0.out.step (below_alloc wc.drew (.cells #[.int .i64 (y : Int)] 2)))
            have NA := Lib.hid (show BlkAt (wc.drew.alloc (.cells #[.int .i64 (y : Int)] 2)) wc.heap.size 2 [.int .i64 (y : Int)] from BlkAt.new wc.drew [.int .i64 (y : Int)] 2)
            have d5 : (wc.alloc (.cells #[.int .i64 (y : Int)] 2)).drew.cell? ⟨T, 0, none⟩ = some (.slice ac' L.length kc') := MBA.out.k5.cells.cell 0 _ rfl
            have szA : w.heap.size ≤ wc.drew.heap.size := by have := BE.out.size; omega
            have BEA := Lib.hid (BE.out.trans ((below_alloc wc.drew (.cells #[.int .i64 (y : Int)] 2)).mono szA))
            have tS : T ≠ S + 1 := by omega
            have tb : T ≠ b2 := by have := QS.out; omega
            have cA2 : (wc.drew.alloc (.cells #[.int .i64 (y : Int)] 2)).cell? ⟨S + 1, 0, none⟩ = some (.slice (some ⟨b2, o2, none⟩) (m2 + 1) p2') := MBA.out.k3.cells.cell 0 _ rfl
            have dA2 : (wc.drew.alloc (.cells #[.int .i64 (y : Int)] 2)).cell? ⟨b2, o2, none⟩ = some (.int .i64 (y : Int)) := ((below_alloc wc.drew (.cells #[.int .i64 (y : Int)] 2)).cell (p := ⟨b2, o2, none⟩) (Nat.lt_of_lt_of_le l2 BE.out.size)).trans d2
            clear hh k2 k2' k3 k4 k5 oc of' bel q2 hm2 CF
            go_region_law (refine step_app1 (by rfl) _ _ 131 2 (.int .i64 0) 8 Tryd.underlying131 info2 rfl (by decide) (by rfl) w.heap.size _ (costV L) (by rfl) MBA.out.oc (.int .i64 (y : Int)) rfl wc.heap.size (by rfl) NA.out L.length lc.symm lL ?_; intro g' cap w3 o3 b3 k3; have O3 := Lib.hid o3; have B3 := Lib.hid b3; have K3 := Lib.hid k3; clear o3 b3 k3; have q5 := (MBA.out.k3.keepO K3.out (by decide)).cells.cell 0 _ rfl; have q6 := (B3.out.cell (p := ⟨b2, o2, none⟩) l2).trans ((BEA.out.cell (p := ⟨b2, o2, none⟩) l2).trans ((Q2.out.get.2 0 y rfl))); have q7 := (MBA.out.k5.keepO K3.out (by decide)).cells.cell 0 _ rfl; have q8 := (MBA.out.k5.keepO K3.out (by decide)).cells.free 0; have q9 := (MBA.out.k5.keepO K3.out (by decide)).cells.lt; have s1 : (w3.setCell ⟨T, 0, none⟩ (.slice (some ⟨g', 0, none⟩) (L.length + 1) cap)).cell? ⟨S + 1, 0, none⟩ = some (.slice (some ⟨b2, o2, none⟩) (m2 + 1) p2') := (World.cell?_setCell_other _ _ _ _ (fun e => tS (congrArg Addr.block e))).trans q5; have s2 : (w3.setCell ⟨T, 0, none⟩ (.slice (some ⟨g', 0, none⟩) (L.length + 1) cap)).cell? ⟨b2, o2, none⟩ = some (.int .i64 (y : Int)) := (World.cell?_setCell_other _ _ _ _ (fun e => tb (congrArg Addr.block e))).trans q6)
            all_goals
              have sz3 : (wc.drew.alloc (.cells #[.int .i64 (y : Int)] 2)).heap.size ≤ w3.heap.size := B3.out.size
              have BW3 := Lib.hid (BEA.out.trans B3.out)
              have MB1 := Lib.hid (MBA.out.appc TL2 O3.out K3.out sz3)
              have BE1 := Lib.hid (BW3.out.setCell (p := ⟨T, 0, none⟩) (show w.heap.size ≤ T by have := QS.out; omega) (.slice (some ⟨g', 0, none⟩) (L.length + 1) cap))
              clear sz3 BW3 O3 B3 K3 q5 q6 q7 q8 q9 s1 s2 c5 d5 cA2 dA2 c2 d2 lt2 MB0 MBA NA BE BEA szA
              generalize w3.setCell ⟨T, 0, none⟩ (.slice (some ⟨g', 0, none⟩) (L.length + 1) cap) = w4 at *
              have c51 : w4.cell? ⟨T, 1, none⟩ = some (.slice af' L.length kf') := MB1.out.k5.cells.cell 1 _ rfl
              have lt5 := MB1.out.k5.cells.lt
              go_upto_region 8 with fail
              go_wp2_with (at_builtin; refine wp_app1 (by rfl) _ _ 139 4 (.bool false) 1 Tryd.underlying139 info4 rfl (by decide) (by rfl) w.heap.size _ (leafV L) (by rfl) MB1.out.of (.bool false) rfl (by rfl) (by rw [lf]; exact lL) ?_)
              intro v' w5 o' b' k'
              obtain ⟨av, ln, cv, rfl⟩ : ∃ a n c, v' = .slice a n c := by obtain ⟨a, c, h⟩ := o'.form; exact ⟨a, _, c, h⟩
              have MB2 := Lib.hid (MB1.out.appf TL2 o' k' b'.size)
              have BE2 := Lib.hid ((BE1.out.trans b').setCell (p := ⟨T, 1, none⟩) (show w.heap.size ≤ T by have := QS.out; omega) (.slice av ln cv))
              have q51 : w5.cell? ⟨T, 1, none⟩ = some (.slice af' L.length kf') := (MB1.out.k5.keepO k' (by decide)).cells.cell 1 _ rfl
              have lt51 := (MB1.out.k5.keepO k' (by decide)).cells.lt
              have fr51 := (MB1.out.k5.keepO k' (by decide)).cells.free 1
              clear o' k' b' c51 lt5 MB1 BE1
              go_upto_region 9 with fail
              clear q51 lt51 fr51
              generalize w5.setCell ⟨T, 1, none⟩ (.slice av ln cv) = w6 at *
              have c22 : w6.cell? ⟨S + 1, 0, none⟩ = some (.slice (some ⟨b2, o2, none⟩) (m2 + 1) p2') := MB2.out.k3.cells.cell 0 _ rfl
              have lt22 := MB2.out.k3.cells.lt
              have fr22 := MB2.out.k3.cells.free 0
              have CP := Lib.hid (show m2 + 1 ≤ p2' from by obtain ⟨_, _, _, e, h⟩ := Z3.out; injection e with e1 e2 e3; have := M2.out; simp at e2; omega)
              have FIN := Lib.hid (mx_end3 QS.out TL.out MB2.out BE2.out Q2.out CP.out M2.out OQ.out Z2.out HQ.out hqq HLn.out LN2.out LN3.out)
              clear CP MB2 BE2 Q2 M2 OQ HQ hqq HLn LN2 LN3 Z2 Z3
              go_wp2_with fail
              exact FIN.out
end Go.Proofs.YtfbeipfpkikakaaDoor
