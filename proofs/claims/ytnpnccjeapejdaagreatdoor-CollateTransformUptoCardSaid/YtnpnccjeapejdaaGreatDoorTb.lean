/- What each key of an order compares with: the contract of every function value that keyOf makes. -/
import Derived.Test.YtnpnccjeapejdaaGreatDoorNl
import Derived.Laws.AppendOwn
import Derived.Test.YtnpnccjeapejdaaGreatDoorTa
import Derived.Test.YtnpnccjeapejdaaGreatDoorGd
import Derived.Deep.RegionHeld3
import Derived.BigQuiet
namespace Go.Proofs.YtnpnccjeapejdaaGreatDoor
section
open Go.RowKit
theorem CellsAt.agree {w w' : World} {b : Nat} {vs : List Value} (h : CellsAt w b vs) (he : w'.heap[b]? = w.heap[b]?) (hs : w.heap.size ≤ w'.heap.size) : CellsAt w' b vs :=
  ⟨Nat.lt_of_lt_of_le h.lt hs, fun j v hv => (World.cell?_of_block (a := ⟨b, j, none⟩) he).trans (h.cell j v hv), fun j => (World.frozen?_of_block (a := ⟨b, j, none⟩) he).trans (h.free j)⟩
theorem CmpAt.agree {w w' : World} {B K lt : Nat} {fo : Bool} {fv : Value} (h : CmpAt w B K lt fo fv) (hs : w.heap.size ≤ w'.heap.size) (he : ∀ b, B ≤ b → b < w.heap.size → w'.heap[b]? = w.heap[b]?) : CmpAt w' B K lt fo fv := by
  rcases h with h | h | ⟨h, p, q, u, v, h1, h2, h3⟩ | ⟨h, h0, p, u, h1, h2⟩
  · exact Or.inl h
  · exact Or.inr (Or.inl h)
  · exact Or.inr (Or.inr (Or.inl ⟨h, p, q, u, v, h1, h2.agree (he p u h2.lt) hs, h3.agree (he q v h3.lt) hs⟩))
  · exact Or.inr (Or.inr (Or.inr ⟨h, h0, p, u, h1, h2.agree (he p u h2.lt) hs⟩))
theorem KeyH.agree {w w' : World} {B x kd lt : Nat} {fo : Bool} {fv : Value} (h : KeyH w B x kd lt fo fv) (hs : w.heap.size ≤ w'.heap.size) (he : ∀ b, B ≤ b → b < w.heap.size → w'.heap[b]? = w.heap[b]?) : KeyH w' B x kd lt fo fv := by
  rcases h with ⟨h0, h⟩ | ⟨h0, g, h, q, u, v, hq⟩
  · exact Or.inl ⟨h0, h.agree hs he⟩
  · exact Or.inr ⟨h0, g, h.agree hs he, q, u, v, hq.agree (he q u hq.lt) hs⟩
/-- What KeyF says, in the present world. -/
theorem KeyF.now {wr : World} {R x kd lt : Nat} {r : Option Nat} {fo : Bool} {fv : Value} (h : KeyF wr R r x kd lt fo fv) : ∃ B, R ≤ B ∧ KeyH wr B x kd lt fo fv := by
  obtain ⟨B, w0, h1, h2, h3, _, h5⟩ := h.ex
  exact ⟨B, h1, h5.agree h2 h3⟩
end
section
open Go.RowKit
set_option maxRecDepth 100000
/-- All the tables. -/
structure Tbs (w : World) : Prop where
  cls : Tabs w
  num : Num.Tabs w
theorem Tbs.below {w w' : World} (h : Tbs w) (k : Below w.heap.size w w') : Tbs w' := ⟨h.cls.below k, h.num.below k⟩
/-- numeral.Compare of a kind of number, within a key. -/
theorem ncompare_ok (kind : Nat) (x y : ByteArray) (hx : x.size ≤ 1048576) (hy : y.size ≤ 1048576) (w : World) (T : Tbs w) :
    Calls Tryz.prog 80 #[.int .u16 (kind : Int), .string x, .string y] w (RetBk w (.int .i64 (Num.cmpS kind x.data.toList y.data.toList))) :=
  Num.compare_ok kind x y w (by omega) (by omega) T.num
/-- The comparison of numbers, as a closure. -/
theorem cmp81_ok (kind : Nat) (b : Nat) (x y : ByteArray) (hx : x.size ≤ 1048576) (hy : y.size ≤ 1048576) (w : World) (T : Tbs w) (C : CellsAt w b [.int .u16 (kind : Int)]) :
    Calls Tryz.prog 81 #[.string x, .string y, .pointer (some ⟨b, 0, none⟩)] w (RetBk w (.int .i64 (Num.cmpS kind x.data.toList y.data.toList))) := by
  have NC := Lib.hid (ncompare_ok kind x y hx hy w T)
  have c0 := C.cell 0 _ rfl
  clear T hx hy
  go_enter Tryz.func81, Tryz.ntmps81
  go_wp2_with fail
  refine NC.out.mono ?_
  rintro e w1 ⟨rfl, hb⟩
  have HB := Lib.hid hb
  clear hb
  go_wp2_with fail
  go_ret
  exact ⟨rfl, HB.out⟩
/-- What a comparison that is turned gives. -/
theorem turn82_ok (f : Nat) (B C : Array Value) (b : Nat) (x y : ByteArray) (z : Int) (w : World) (G : CellsAt w b [.func (.func f) B C])
    (CF : Hid (∀ (xs : Array Value) (W : World), Sem.run Tryz.prog (callFunc f xs) W = .ok (.enter f xs) W))
    (CM : Hid (Calls Tryz.prog f (B ++ (#[.string y, .string x] ++ C)) w (RetBk w (.int .i64 z)))) :
    Calls Tryz.prog 82 #[.string x, .string y, .pointer (some ⟨b, 0, none⟩)] w (RetBk w (.int .i64 z)) := by
  have c0 := G.cell 0 _ rfl
  have hcf := CF.out
  go_enter Tryz.func82, Tryz.ntmps82
  go_wp2_with fail
  refine CM.out.mono ?_
  rintro e w1 ⟨rfl, hb⟩
  have HB := Lib.hid hb
  clear hb
  go_wp2_with fail
  go_ret
  exact ⟨rfl, HB.out⟩
structure C79 (w W : World) (b c lt : Nat) (fo : Bool) : Prop where
  k : CellsAt W b [.int .u16 256]
  f : CellsAt W c [.int .u8 (lt : Int), .bool fo]
  t : Tbs W
  bel : Below w.heap.size w W
theorem C79.step {w W W' : World} {b c lt : Nat} {fo : Bool} (h : C79 w W b c lt fo) (k : Below W.heap.size W W') : C79 w W' b c lt fo :=
  ⟨h.k.step k, h.f.step k, h.t.below k, h.bel.trans (k.mono h.bel.size)⟩
set_option maxHeartbeats 3200000 in
/-- The comparison of versions, of what counts of two texts. -/
theorem cmp79_g (lt : Nat) (fo : Bool) (b c : Nat) (x y X Y : ByteArray) (z : Int) (w : World) (C : C79 w w b c lt fo)
    (FX : Hid (∀ W, C79 w W b c lt fo → Calls Tryz.prog 35 #[.agg #[.int .u8 (lt : Int), .bool fo], .string x] W (RetBk W (.string X))))
    (FY : Hid (∀ W, C79 w W b c lt fo → Calls Tryz.prog 35 #[.agg #[.int .u8 (lt : Int), .bool fo], .string y] W (RetBk W (.string Y))))
    (NC : Hid (∀ W, C79 w W b c lt fo → Calls Tryz.prog 80 #[.int .u16 256, .string X, .string Y] W (RetBk W (.int .i64 z)))) :
    Calls Tryz.prog 79 #[.string x, .string y, .pointer (some ⟨b, 0, none⟩), .pointer (some ⟨c, 0, none⟩)] w (RetBk w (.int .i64 z)) := by
  have D := C.step (Below.refl w.heap.size w).drew
  have k0 := C.k.cell 0 _ rfl
  have f0 := C.f.cell 0 _ rfl
  have f1 := C.f.cell 1 _ rfl
  clear C
  go_enter Tryz.func79, Tryz.ntmps79
  go_upto_region 1 with fail
  go_region_held3 (fun w' => w'.cell? ⟨b, 0, none⟩ = some (.int .u16 256) ∧ w'.cell? ⟨c, 0, none⟩ = some (.int .u8 (lt : Int)) ∧ w'.cell? ⟨c, 1, none⟩ = some (.bool fo))
    (first | go_keep)
    ((first
      | (go_at_call 35; ((first | (with_reducible refine (FX.out _ (by first | exact D2 | exact D)).mono ?_) | (with_reducible refine (FY.out _ (by first | exact D2 | exact D)).mono ?_)); rintro ee w8 ⟨rfl, hbb⟩; have D2 := C79.step (by first | exact D2 | exact D) hbb; have k0 := D2.k.cell 0 _ rfl; have f0 := D2.f.cell 0 _ rfl; have f1 := D2.f.cell 1 _ rfl))
      | (go_at_call 80; ((with_reducible refine (NC.out _ (by first | exact D2 | exact D)).mono ?_); rintro ee w9 ⟨rfl, hbb⟩; have D3 := C79.step (by first | exact D2 | exact D) hbb; have k0 := D3.k.cell 0 _ rfl; have f0 := D3.f.cell 0 _ rfl; have f1 := D3.f.cell 1 _ rfl))))
  all_goals
    have HB := Lib.hid D3.bel
    clear D3 D2 D k0 f0 f1
    go_wp2_with fail
    go_ret
    exact ⟨rfl, HB.out⟩
theorem cmp79_ok (lt : Nat) (hl : lt = 0 ∨ lt = 2 ∨ lt = 4) (fo : Bool) (b c : Nat) (x y : ByteArray) (hx : x.size ≤ 1048576) (hy : y.size ≤ 1048576) (w : World) (T : Tbs w)
    (Cb : CellsAt w b [.int .u16 256]) (Cc : CellsAt w c [.int .u8 (lt : Int), .bool fo]) :
    Calls Tryz.prog 79 #[.string x, .string y, .pointer (some ⟨b, 0, none⟩), .pointer (some ⟨c, 0, none⟩)] w (RetBk w (.int .i64 (Num.cmpS 256 (filtS lt fo x.data.toList) (filtS lt fo y.data.toList)))) := by
  have len : ∀ s : ByteArray, s.size ≤ 1048576 → (bs (filtS lt fo s.data.toList)).size ≤ 1048576 := fun s hs => by
    rw [bs_size]
    have := filt_len lt fo s.data.toList
    rw [← Lib.size_eq] at this
    omega
  refine cmp79_g lt fo b c x y (bs (filtS lt fo x.data.toList)) (bs (filtS lt fo y.data.toList)) _ w ⟨Cb, Cc, T, Below.refl _ _⟩
    (Lib.hid fun W h => apply_ok lt hl fo x hx W h.t.cls) (Lib.hid fun W h => apply_ok lt hl fo y hy W h.t.cls) (Lib.hid fun W h => ?_)
  have := ncompare_ok 256 (bs (filtS lt fo x.data.toList)) (bs (filtS lt fo y.data.toList)) (len x hx) (len y hy) W h.t
  rw [bs_list, bs_list] at this
  exact this
/-- What a key compares with is a function value, and its contract. -/
theorem cmpAt_ok {w : World} {B K lt : Nat} {fo : Bool} {fv : Value} (h : CmpAt w B K lt fo fv) (hl : lt = 0 ∨ lt = 2 ∨ lt = 4) :
    ∃ n bs cs, fv = .func (.func n) bs cs ∧ (∀ (xs : Array Value) (W : World), Sem.run Tryz.prog (callFunc n xs) W = .ok (.enter n xs) W) ∧
      ∀ (x y : ByteArray) (W : World), x.size ≤ 1048576 → y.size ≤ 1048576 → Below w.heap.size w W → Tbs W →
        Calls Tryz.prog n (bs ++ (#[.string x, .string y] ++ cs)) W (RetBk W (.int .i64 (if K = 0 then Lib.compareBytes (filtS lt fo x.data.toList) (filtS lt fo y.data.toList) else if K = 256 then Num.cmpS 256 (filtS lt fo x.data.toList) (filtS lt fo y.data.toList) else Num.cmpS K x.data.toList y.data.toList))) := by
  rcases h with ⟨rfl, rfl, rfl, rfl⟩ | ⟨rfl, _, rfl⟩ | ⟨rfl, p, q, _, _, rfl, h2, h3⟩ | ⟨h0, h1, p, _, rfl, h2⟩
  · refine ⟨_, _, _, rfl, fun xs W => by kernel_rfl, fun x y W _ _ _ _ => ?_⟩
    rw [if_pos rfl, filt_all, filt_all]
    exact (Tryz.strings_Compare x y W).mono fun e w' ⟨h1, h2⟩ => ⟨h1, by rw [h2]; exact Below.refl _ _⟩
  · refine ⟨_, _, _, rfl, fun xs W => by kernel_rfl, fun x y W hx hy _ T => ?_⟩
    rw [if_pos rfl]
    exact fcompare_ok lt hl fo x y hx hy W T.cls
  · refine ⟨_, _, _, rfl, fun xs W => by kernel_rfl, fun x y W hx hy b T => ?_⟩
    rw [if_neg (by decide), if_pos rfl]
    exact cmp79_ok lt hl fo p q x y hx hy W T (h2.step b) (h3.step b)
  · refine ⟨_, _, _, rfl, fun xs W => by kernel_rfl, fun x y W hx hy b T => ?_⟩
    rw [if_neg h0, if_neg h1]
    exact cmp81_ok K p x y hx hy W T (h2.step b)
theorem keyH_ok {w : World} {B m : Nat} {fv : Value} (h : KeyH w B (m &&& 512) (m &&& 496) (letsS m) (foldS m) fv) :
    ∃ n bs cs, fv = .func (.func n) bs cs ∧ (∀ (xs : Array Value) (W : World), Sem.run Tryz.prog (callFunc n xs) W = .ok (.enter n xs) W) ∧
      ∀ (x y : ByteArray) (W : World), x.size ≤ 1048576 → y.size ≤ 1048576 → Below w.heap.size w W → Tbs W →
        Calls Tryz.prog n (bs ++ (#[.string x, .string y] ++ cs)) W (RetBk W (.int .i64 (zK m x.data.toList y.data.toList))) := by
  rcases h with ⟨h0, h⟩ | ⟨h0, g, h, q, _, rfl, hq⟩
  · obtain ⟨n, b1, c1, e, CF, CM⟩ := cmpAt_ok h (lets_any m)
    refine ⟨n, b1, c1, e, CF, fun x y W hx hy b T => ?_⟩
    unfold zK zB
    rw [if_pos h0]
    exact CM x y W hx hy b T
  · obtain ⟨n, b1, c1, rfl, CF, CM⟩ := cmpAt_ok h (lets_any m)
    refine ⟨_, _, _, rfl, fun xs W => by kernel_rfl, fun x y W hx hy b T => ?_⟩
    have := turn82_ok n b1 c1 q x y (zK m x.data.toList y.data.toList) W (hq.step b) (Lib.hid CF) (Lib.hid (by
      unfold zK zB
      rw [if_neg h0]
      exact CM y x W hy hx b T))
    exact this
end
end Go.Proofs.YtnpnccjeapejdaaGreatDoor
