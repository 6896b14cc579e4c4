/- A body unpacked: what the bits say, step by step. A body unpacked: the walk. A packed frame: what its parts say. Unpack: a packed block without a fault. -/
import Derived.Test.YtfbeipfpkikakaaDoorCo
import Derived.Recover
import Derived.Defers
namespace Go.Proofs.YtfbeipfpkikakaaDoor
section
open Go.RowKit

set_option maxRecDepth 100000
structure Dcd where
  sy : Nat → Nat
  en : Nat → Int
  sh : Nat → Int
def DcAt (w : World) (d : Nat) (D : Dcd) : Prop := DecAt w d D.sy D.en D.sh
/-- At bit a there stands a code of m bits, whose symbol is s. -/
structure Symb (l : List UInt8) (D : Dcd) (a m s : Nat) : Prop where
  hm : 1 ≤ m ∧ m ≤ 15
  lt : ∀ j, 1 ≤ j → j < m → D.en j ≤ aheadN l a
  en : (aheadN l a : Int) < D.en m
  fits : a + m ≤ 8 * l.length
  ix : ∃ i : Nat, D.sh m + ((aheadN l a / 2 ^ (15 - m) : Nat) : Int) = i ∧ i < 272 ∧ s = D.sy i
  sh : -100000 ≤ D.sh m ∧ D.sh m ≤ 100000
  small : s < 65536
/-- So many bytes are repeated. -/
def backs (out : List UInt8) (d : Nat) : Nat → List UInt8
  | 0 => out
  | i + 1 => backs out d i ++ [(backs out d i).getD ((backs out d i).length - d) 0]
theorem backs_len (out : List UInt8) (d : Nat) : ∀ i, (backs out d i).length = out.length + i
  | 0 => rfl
  | i + 1 => by show (backs out d i ++ [_]).length = _; rw [List.length_append, backs_len out d i]; rfl
inductive Dec (l : List UInt8) (D1 D2 : Dcd) (size : Nat) : Nat → List UInt8 → Nat → List UInt8 → Prop
  | done {a : Nat} {out : List UInt8} (h : out.length = size) : Dec l D1 D2 size a out a out
  | lit {a m s a' : Nat} {out out' : List UInt8} (h : out.length < size) (hs : Symb l D1 a m s) (h256 : s < 256) (next : Dec l D1 D2 size (a + m) (out ++ [UInt8.ofNat s]) a' out') : Dec l D1 D2 size a out a' out'
  | back {a m k m2 t a' n d : Nat} {out out' : List UInt8} (h : out.length < size) (hs : Symb l D1 a m (256 + k)) (hk : k < 16) (hn : n = basesN.getD k 0 + aheadN l (a + m) / 2 ^ (15 - lbits k)) (f1 : a + m + lbits k ≤ 8 * l.length)
      (ht : Symb l D2 (a + m + lbits k) m2 t) (h30 : t < 30) (hd : d = dbase t + aheadN l (a + m + lbits k + m2) / 2 ^ (15 - dbits t)) (f2 : a + m + lbits k + m2 + dbits t ≤ 8 * l.length)
      (hd1 : 1 ≤ d ∧ d ≤ out.length) (hn1 : n ≤ size - out.length) (hn2 : 1 ≤ n) (next : Dec l D1 D2 size (a + m + lbits k + m2 + dbits t) (backs out d n) a' out') : Dec l D1 D2 size a out a' out'
theorem OwnB.keepX {r : Nat} {w w' : World} {B : Nat} {v : Value} {l : List UInt8} (h : OwnB w B v l) (k : KeepX r w w') (hr : r < B) : OwnB w' B v l := by
  refine ⟨⟨h.1.1, ?_⟩, Nat.le_trans h.2 k.size⟩
  rcases h.1.2 with hn | ⟨g, cap, cur, hv, hb, hgg, rest⟩
  · exact .inl hn
  · exact .inr ⟨g, cap, cur, hv, hb, (k.block g (lt_of_heap hgg) (by omega)).trans hgg, rest⟩
theorem OwnB.mono {w : World} {B C : Nat} {v : Value} {l : List UInt8} (h : OwnB w C v l) (hB : B ≤ C) : OwnB w B v l := by
  refine ⟨⟨h.1.1, ?_⟩, Nat.le_trans hB h.2⟩
  rcases h.1.2 with a | ⟨g, cap, cur, hv, hb, rest⟩
  · exact Or.inl a
  · exact Or.inr ⟨g, cap, cur, hv, Nat.le_trans hB hb, rest⟩
theorem DecAt.keep {w w' : World} {B d : Nat} {sy : Nat → Nat} {en sh : Nat → Int} (h : DecAt w d sy en sh) (k : Below B w w') (hb : d < B) : DecAt w' d sy en sh :=
  ⟨Nat.lt_of_lt_of_le h.lt k.size, fun j hj => ((bcell k).1 d j hb).trans (h.sym j hj), fun j hj => ((bcell k).1 d (272 + j) hb).trans (h.ends j hj), fun j hj => ((bcell k).1 d (288 + j) hb).trans (h.shifts j hj)⟩
theorem symbol_x {w : World} {r b off cp a f d m s : Nat} {l : List UInt8} {D : Dcd} (h : Rdr w r b off cp l a f) (hd : DcAt w d D) (hs : Symb l D a m s) (hdr : d ≠ r) :
    Calls Tryd.prog 63 #[.pointer (some ⟨r, 0, none⟩), .pointer (some ⟨d, 0, none⟩)] w (fun e w' => e = .returned (.int .i64 (s : Int)) ∧ Rdr w' r b off cp l (a + m) f ∧ KeepX r w w') := by
  obtain ⟨i, h1, h2, rfl⟩ := hs.ix
  refine (symbol_ok h hd m hs.hm hs.lt hs.en hs.fits i h1 h2 hs.small hs.sh hdr).mono ?_
  rintro e w' ⟨he, v, hb, hb2⟩
  have hz : (v.setCell ⟨r, 1, none⟩ (.int .i64 ((a + m : Nat) : Int))).heap.size = v.heap.size := by simp
  have g := (h.step hb).go hs.fits
  exact ⟨he, g.step (by rw [hz]; exact hb2), ((KeepX.below hb).trans (KeepX.set r v 1 _)).trans (KeepX.below (by rw [hz]; exact hb2))⟩
theorem len_x {w : World} {r b off cp a f k : Nat} {l : List UInt8} (h : Rdr w r b off cp l a f) (T : Tabs w) (hk : k < 16) (hn : a + lbits k ≤ 8 * l.length) :
    Calls Tryd.prog 64 #[.pointer (some ⟨r, 0, none⟩), .int .i64 k, .func (.func 65) #[] #[]] w (fun e w' => e = .returned (.int .i64 ((basesN.getD k 0 + aheadN l a / 2 ^ (15 - lbits k) : Nat) : Int)) ∧ Rdr w' r b off cp l (a + lbits k) f ∧ KeepX r w w') := by
  refine (value_len h T hk hn).mono ?_
  rintro e w' ⟨he, v, hb, rfl⟩
  exact ⟨he, (h.step hb).go hn, (KeepX.below hb).trans (KeepX.set r v 1 _)⟩
theorem dist_x {w : World} {r b off cp a f k : Nat} {l : List UInt8} (h : Rdr w r b off cp l a f) (hk : k < 30) (hn : a + dbits k ≤ 8 * l.length) :
    Calls Tryd.prog 64 #[.pointer (some ⟨r, 0, none⟩), .int .i64 k, .func (.func 66) #[] #[]] w (fun e w' => e = .returned (.int .i64 ((dbase k + aheadN l a / 2 ^ (15 - dbits k) : Nat) : Int)) ∧ Rdr w' r b off cp l (a + dbits k) f ∧ KeepX r w w') := by
  refine (value_dist h hk hn).mono ?_
  rintro e w' ⟨he, v, hb, rfl⟩
  exact ⟨he, (h.step hb).go hn, (KeepX.below hb).trans (KeepX.set r v 1 _)⟩
def lenOf : Value → Nat
  | .slice _ n _ => n
  | _ => 0
theorem OwnB.len {w : World} {B : Nat} {v : Value} {l : List UInt8} (h : OwnB w B v l) : lenOf v = l.length := by
  obtain ⟨a, c, rfl, _⟩ := h.sl
  rfl
/-- Between two symbols: x1, the world behind the reader's box; B, where the bytes' blocks begin. -/
structure UnAt (x1 : World) (r b off cp B d1 d2 : Nat) (l : List UInt8) (D1 D2 : Dcd) (a f : Nat) (v : Value) (out : List UInt8) (wr : World) : Prop where
  rdr : Rdr wr r b off cp l a f
  own : OwnB wr B v out
  kx : KeepX r x1 wr
  at1 : DcAt wr d1 D1
  at2 : DcAt wr d2 D2
structure UnOk (x1 : World) (r b B d1 d2 : Nat) : Prop where
  r1 : r < B
  b1 : b < B
  l1 : d1 < B
  l2 : d2 < B
  n1 : d1 ≠ r
  n2 : d2 ≠ r
  x : x1.heap.size ≤ B
theorem UnAt.keep {x1 wr w' : World} {r b off cp B d1 d2 a f a' f' : Nat} {l : List UInt8} {D1 D2 : Dcd} {v : Value} {out : List UInt8} (h : UnAt x1 r b off cp B d1 d2 l D1 D2 a f v out wr) (o : UnOk x1 r b B d1 d2) (hr : Rdr w' r b off cp l a' f') (k : KeepX r wr w') :
    UnAt x1 r b off cp B d1 d2 l D1 D2 a' f' v out w' :=
  ⟨hr, h.own.keepX k o.r1, h.kx.trans k, DecAt.keepX h.at1 k o.n1, DecAt.keepX h.at2 k o.n2⟩
theorem UnAt.app {x1 wr w' : World} {r b off cp B d1 d2 a f : Nat} {l : List UInt8} {D1 D2 : Dcd} {v v' : Value} {out out' : List UInt8} (h : UnAt x1 r b off cp B d1 d2 l D1 D2 a f v out wr) (o : UnOk x1 r b B d1 d2) (ho : OwnB w' B v' out') (k : Below B wr w') :
    UnAt x1 r b off cp B d1 d2 l D1 D2 a f v' out' w' :=
  ⟨h.rdr.keep k o.r1 o.b1, ho, h.kx.up k o.x, DecAt.keep h.at1 k o.l1, DecAt.keep h.at2 k o.l2⟩
end

section
open Go.RowKit

set_option maxRecDepth 100000
def dcd1 (l : List UInt8) (a q : Nat) : Dcd := ⟨symF (firstL l a q) 272, endsUp (cnt (firstL l a q)) 15, shUp (cnt (firstL l a q)) 15⟩
def dcd2 (l : List UInt8) (a q : Nat) : Dcd := ⟨symF (secondL l a q) 30, endsUp (cnt (secondL l a q)) 15, shUp (cnt (secondL l a q)) 15⟩
def UnRel (x1 : World) (r b off cp B d1 d2 size : Nat) (l : List UInt8) (D1 D2 : Dcd) (aE : Nat) (oE : List UInt8) (v : Value) (wr : World) : Prop :=
  ∃ a f out, Dec l D1 D2 size a out aE oE ∧ UnAt x1 r b off cp B d1 d2 l D1 D2 a f v out wr ∧ out.length ≤ size
def UbRel (x1 : World) (r b off cp B d1 d2 : Nat) (l : List UInt8) (D1 D2 : Dcd) (a f d n : Nat) (out : List UInt8) (v i : Value) (wr : World) : Prop :=
  ∃ k : Nat, k ≤ n ∧ i = .int .i64 (k : Int) ∧ UnAt x1 r b off cp B d1 d2 l D1 D2 a f v (backs out d k) wr
set_option maxHeartbeats 1600000 in
theorem unpacked_ok {w : World} (T : Tabs w) (b off cp size q aE : Nat) (l oE : List UInt8) (hh : HeldB w b off l) (hl : l.length ≤ 16777215) (hs : size ≤ 16777215) (hq : doneK l 0 q = 302) (hl8 : 8 * q ≤ 8 * l.length)
    (g1 : isCode (cnt (firstL l 0 q)) = true) (g2 : isCode (cnt (secondL l 0 q)) = true ∨ symsN (cnt (secondL l 0 q)) 15 = 0)
    (dec : Dec l (dcd1 l 0 q) (dcd2 l 0 q) size (8 * q) [] aE oE) (h8 : 8 * l.length - aE < 8) (h0 : aheadN l aE = 0) :
    Calls Tryd.prog 45 #[.slice (some ⟨b, off, none⟩) l.length cp, .int .i64 (size : Int)] w (RetOwn w.heap.size w oE) := by
  have T0 := Lib.hid T
  have H8 := Lib.hid h8
  have H0 := Lib.hid h0
  have DE := Lib.hid dec
  have HH := Lib.hid hh
  have hb := hh.lt
  have T1 : 1 < w.heap.size := by obtain ⟨_, ⟨t, fr, h⟩⟩ := T; exact lt_of_block h
  have CO := Lib.hid (fun (W : World) (r : Nat) (h : Rdr W r b off cp l 0 0) => codes_ok h hq (by omega) g1 g2)
  clear T h8 h0 dec hh hq g1 g2
  go_enter Tryd.func45, Tryd.ntmps45
  go_upto_region 2 with fail
  obtain ⟨r, hr⟩ : ∃ r, r = w.heap.size := ⟨_, rfl⟩
  have k1 := below_alloc w (.cells #[.slice (some ⟨b, off, none⟩) l.length cp, .int .i64 0, .int .i64 0] 108)
  have R1 := Lib.hid (show Rdr (w.alloc (.cells #[.slice (some ⟨b, off, none⟩) l.length cp, .int .i64 0, .int .i64 0] 108)) r b off cp l 0 0 from ⟨by rw [hr]; exact CellsAt.new w [.slice (some ⟨b, off, none⟩) l.length cp, .int .i64 0, .int .i64 0] 108, HH.out.below k1, by omega, hl, by omega⟩)
  have T2 := Lib.hid (T0.out.below k1)
  have K1 := Lib.hid k1
  have S1 : (w.alloc (.cells #[.slice (some ⟨b, off, none⟩) l.length cp, .int .i64 0, .int .i64 0] 108)).heap.size = r + 1 := by rw [hr]; simp
  generalize w.alloc (.cells #[.slice (some ⟨b, off, none⟩) l.length cp, .int .i64 0, .int .i64 0] 108) = x1 at *
  rw [← hr]
  have QR := Lib.hid hr
  rw [← hr] at hb T1
  clear hr k1 HH T0
  go_wp2_with fail
  refine (CO.out x1 r R1.out).mono ?_
  rintro e x2 ⟨d1, d2, rfl, hd1, hd2, l1, l2, ⟨f2, hr2⟩, kx2⟩
  rw [show 0 + 8 * q = 8 * q by omega] at hr2
  have R2 := Lib.hid hr2
  have D1 := Lib.hid (show DcAt x2 d1 (dcd1 l 0 q) from hd1)
  have D2 := Lib.hid (show DcAt x2 d2 (dcd2 l 0 q) from hd2)
  have K2 := Lib.hid kx2
  have L1 := hd1.lt
  have L2 := hd2.lt
  have S2 := kx2.size
  rw [S1] at l1 l2 S2
  clear hr2 hd1 hd2 kx2 CO R1
  generalize dcd1 l 0 q = E1 at *
  generalize dcd2 l 0 q = E2 at *
  obtain ⟨B, hB⟩ : ∃ B, B = x2.heap.size := ⟨_, rfl⟩
  have OK := Lib.hid (show UnOk x1 r b B d1 d2 from ⟨by omega, by omega, by omega, by omega, by omega, by omega, by omega⟩)
  obtain ⟨LL, hLL⟩ : ∃ LL, LL = l.length := ⟨_, rfl⟩
  rw [← hLL] at hl ⊢
  have QL := Lib.hid hLL
  clear hLL
  go_wp2_with (refine wp_make rfl _ _ rfl B (by omega) .i64 .i64 _ (min size (250 * LL)) rfl rfl (by omega) (by omega) ?_)
  intro v3 w3 o3 b3 kb3
  rw [← hB] at o3 b3
  have U3 := Lib.hid (show UnAt x1 r b off cp B d1 d2 l E1 E2 (8 * q) f2 v3 [] w3 from ⟨R2.out.keep b3 OK.out.r1 OK.out.b1, o3, K2.out.up b3 OK.out.x, DecAt.keep D1.out b3 OK.out.l1, DecAt.keep D2.out b3 OK.out.l2⟩)
  have ST := Lib.hid (show UnRel x1 r b off cp B d1 d2 size l E1 E2 aE oE v3 w3 from ⟨8 * q, f2, [], DE.out, U3.out, Nat.zero_le _⟩)
  have TX := Lib.hid (fun (W : World) (k : KeepX r x1 W) => show Tabs W from by
    obtain ⟨⟨t, fr, h0⟩, ⟨t1, fr1, h1⟩⟩ := T2.out
    exact ⟨⟨t, fr, (k.block 0 (lt_of_block h0) (by omega)).trans h0⟩, ⟨t1, fr1, (k.block 1 (lt_of_block h1) (by omega)).trans h1⟩⟩)
  clear o3 b3 kb3 U3 R2 K2 D1 D2 DE L1 L2 S2 l1 l2 hB T2
  go_wp2_with fail
  go_loopw [8, 9, 10, 11] (fun v _ _ _ wr => UnRel x1 r b off cp B d1 d2 size l E1 E2 aE oE v wr) (fun v _ _ _ _ => size - lenOf v)
  case atStart => exact ST.out
  case round =>
    clear ST
    obtain ⟨a, f, out, dec, U, ho⟩ := hrel
    obtain ⟨va, vc, rfl, vn, vh⟩ := U.own.sl
    have UU := Lib.hid U
    have VH := Lib.hid vh
    clear U vn vh
    cases dec with
    | done h =>
      have t1 : decide ((oE.length : Int) < (size : Int)) = false := decide_eq_false (by omega)
      have EC := Lib.hid (end_ok UU.out.rdr H8.out H0.out)
      have FIN := Lib.hid (show ∀ w', Below wr.heap.size (wr.setCell ⟨r, 2, none⟩ (.int .i64 aE)) w' → RetOwn w.heap.size w oE (.returned (.slice va size vc)) w' from fun w' hbw => by
        have hz : (wr.setCell ⟨r, 2, none⟩ (.int .i64 aE)).heap.size = wr.heap.size := by simp
        have kx : KeepX r wr w' := (KeepX.set r wr 2 _).trans (KeepX.below (by rw [hz]; exact hbw))
        have kb : Below w.heap.size w w' := K1.out.trans ((UU.out.kx.trans kx).to_below (by rw [QR.out]; exact Nat.le_refl _) (by rw [← QR.out]; omega))
        have ow := (UU.out.own.keepX kx OK.out.r1).mono (show w.heap.size ≤ B by rw [← QR.out]; exact Nat.le_of_lt OK.out.r1)
        rw [h] at ow
        exact ⟨_, rfl, ow, kb, KeepB.below kb⟩)
      clear UU VH
      go_wp2_with fail
      refine EC.out.mono ?_
      rintro e w4 ⟨rfl, hb4⟩
      have F4 := Lib.hid (FIN.out w4 hb4)
      clear hb4 FIN EC
      go_wp2_with fail
      go_ret
      exact F4.out
    | @lit _ m s _ _ _ h hs h256 next =>
      have t1 : decide ((out.length : Int) < (size : Int)) = true := decide_eq_true (by omega)
      have BC := Lib.hid (begin_x UU.out.rdr)
      have NX := Lib.hid next
      have HS := Lib.hid hs
      clear next hs
      go_wp2_with fail
      refine BC.out.mono ?_
      rintro e w4 ⟨rfl, h4, k4⟩
      have U4 := Lib.hid (UU.out.keep OK.out h4 k4)
      clear UU h4 k4 BC VH
      have SC := Lib.hid (symbol_x U4.out.rdr U4.out.at1 HS.out OK.out.n1)
      go_wp2_with fail
      refine SC.out.mono ?_
      rintro e w5 ⟨rfl, h5, k5⟩
      have U5 := Lib.hid (U4.out.keep OK.out h5 k5)
      clear U4 h5 k5 SC
      have t2 : decide ((s : Int) < 256) = true := decide_eq_true (by omega)
      have i1 : IntKind.u8.wrap (s : Int) = (s : Int) := by rw [IntKind.wrap_u8]; omega
      have OW := Lib.hid U5.out.own
      go_wp2_with (at_builtin; refine wp_app rfl _ _ rfl B _ out rfl OW.out [UInt8.ofNat s] _ (by simp [byV, UInt8.toNat_ofNat', Nat.mod_eq_of_lt h256]) rfl (by simp; omega) ?_)
      intro v6 w6 o6 b6 kb6
      have U6 := Lib.hid (U5.out.app OK.out o6 b6)
      have ln := o6.len
      have FIN := Lib.hid (show UnRel x1 r b off cp B d1 d2 size l E1 E2 aE oE v6 w6 from ⟨_, _, _, NX.out, U6.out, by simp; omega⟩)
      have ME := Lib.hid (show size - lenOf v6 < size - lenOf (.slice va out.length vc) by rw [ln]; simp [lenOf]; omega)
      clear o6 b6 kb6 U5 U6 OW NX ln
      go_wp2_with fail
      exact ⟨FIN.out, ME.out⟩
    | @back _ m k m2 t _ n d _ _ h hs hk hn f1 ht h30 hd f2 hd1 hn1 hn2 next =>
      have t1 : decide ((out.length : Int) < (size : Int)) = true := decide_eq_true (by omega)
      have BC := Lib.hid (begin_x UU.out.rdr)
      have NX := Lib.hid next
      obtain ⟨S, hS⟩ : ∃ S, S = 256 + k := ⟨_, rfl⟩
      rw [← hS] at hs
      have HS := Lib.hid hs
      have HT := Lib.hid ht
      clear next hs ht
      go_wp2_with fail
      refine BC.out.mono ?_
      rintro e w4 ⟨rfl, h4, k4⟩
      have U4 := Lib.hid (UU.out.keep OK.out h4 k4)
      clear UU h4 k4 BC VH
      have SC := Lib.hid (symbol_x U4.out.rdr U4.out.at1 HS.out OK.out.n1)
      go_wp2_with fail
      refine SC.out.mono ?_
      rintro e w5 ⟨rfl, h5, k5⟩
      have U5 := Lib.hid (U4.out.keep OK.out h5 k5)
      clear U4 h5 k5 SC
      have t2 : decide ((S : Int) < 256) = false := decide_eq_false (by omega)
      have HN := Lib.hid hn
      have HD := Lib.hid hd
      have LC := Lib.hid (len_x U5.out.rdr (TX.out w5 U5.out.kx) hk f1)
      rw [← hn] at LC
      have e2 : (S : Int) - 256 = (k : Int) := by omega
      clear hn hd hS
      go_wp2_with fail
      refine LC.out.mono ?_
      rintro e w6 ⟨rfl, h6, k6⟩
      have U6 := Lib.hid (U5.out.keep OK.out h6 k6)
      clear U5 h6 k6 LC e2 t2
      have SC := Lib.hid (symbol_x U6.out.rdr U6.out.at2 HT.out OK.out.n2)
      go_wp2_with fail
      refine SC.out.mono ?_
      rintro e w7 ⟨rfl, h7, k7⟩
      have U7 := Lib.hid (U6.out.keep OK.out h7 k7)
      clear U6 h7 k7 SC
      have DC := Lib.hid (dist_x U7.out.rdr h30 f2)
      rw [← HD.out] at DC
      go_wp2_with fail
      refine DC.out.mono ?_
      rintro e w8 ⟨rfl, h8, k8⟩
      have U8 := Lib.hid (U7.out.keep OK.out h8 k8)
      clear U7 h8 k8 DC HN HD HS HT
      have t3 : decide ((out.length : Int) < (d : Int)) = false := decide_eq_false (by omega)
      have t3n : decide (out.length < d) = false := decide_eq_false (by omega)
      have t4 : decide ((size : Int) - (out.length : Int) < (n : Int)) = false := decide_eq_false (by omega)
      obtain ⟨A, hA⟩ : ∃ A, A = a + m + lbits k + m2 + dbits t := ⟨_, rfl⟩
      rw [← hA] at U8 NX
      clear f1 f2 hA
      go_wp2_with fail
      have SB := Lib.hid (show UbRel x1 r b off cp B d1 d2 l E1 E2 A a d n out (.slice va out.length vc) (.int .i64 (0 : Nat)) w8 from ⟨0, Nat.zero_le _, rfl, U8.out⟩)
      clear U8 t3 t4 t1 t3n
      go_loopw [8, 67] (fun v i wr => UbRel x1 r b off cp B d1 d2 l E1 E2 A a d n out v i wr) (fun _ i _ => (n - (intOf i).toNat))
      case atStart => exact SB.out
      case round =>
        clear SB
        obtain ⟨k', hk', rfl, U⟩ := hrel
        obtain ⟨O, hO⟩ : ∃ O, O = backs out d k' := ⟨_, rfl⟩
        have lO : O.length = out.length + k' := by rw [hO]; exact backs_len out d k'
        rw [← hO] at U
        have UU := Lib.hid U
        have OW := Lib.hid U.own
        obtain ⟨va', vc', rfl, vn', vh'⟩ := U.own.sl
        clear U
        by_cases hlt : k' < n
        · rcases vh' with hnil | ⟨g, o, rfl, hg, hcell⟩
          · rw [hnil] at lO; simp at lO; omega
          · obtain ⟨j, hj⟩ : ∃ j, j = O.length - d := ⟨_, rfl⟩
            have jl : j < O.length := by omega
            have cx := hcell j O[j] (List.getElem?_eq_getElem jl)
            have SX := Lib.hid (show backs out d (k' + 1) = O ++ [O[j]] by show backs out d k' ++ [_] = _; rw [← hO, ← hj, List.getD_eq_getElem?_getD, List.getElem?_eq_getElem jl]; rfl)
            generalize O[j] = x at *
            have ej : (O.length : Int) - (d : Int) = (j : Int) := by omega
            have t1 : decide ((k' : Int) < (n : Int)) = true := decide_eq_true (by omega)
            have ME := Lib.hid (show n - ((k' : Int) + 1).toNat < n - (k' : Int).toNat by omega)
            have lo2 : O.length + 1 ≤ 16777215 := by omega
            have QO := Lib.hid hO
            clear hj hcell vn' hO lO
            go_wp2_with (at_builtin; refine wp_app rfl _ _ rfl B _ O rfl OW.out [x] _ (by simp [byV]) rfl (by simp; omega) ?_)
            intro v9 w9 o9 b9 kb9
            have FIN := Lib.hid (show UbRel x1 r b off cp B d1 d2 l E1 E2 A a d n out v9 (.int .i64 ((k' : Int) + 1)) w9 from ⟨k' + 1, by omega, by go_num, UU.out.app OK.out (by rw [SX.out]; exact o9) b9⟩)
            clear o9 b9 kb9 UU OW SX
            go_wp2_with fail
            exact ⟨FIN.out, ME.out⟩
        · obtain rfl : k' = n := by omega
          have FIN := Lib.hid (show UnRel x1 r b off cp B d1 d2 size l E1 E2 aE oE (.slice va' O.length vc') wr from ⟨A, a, O, by rw [hO]; exact NX.out, UU.out, by omega⟩)
          have ME := Lib.hid (show size - lenOf (.slice va' O.length vc') < size - lenOf (.slice va out.length vc) by simp only [lenOf]; omega)
          have t1 : decide ((k' : Int) < (k' : Int)) = false := decide_eq_false (by omega)
          clear UU OW vh' vn' hO lO
          go_wp2_with fail
          exact ⟨FIN.out, ME.out⟩
end

section
open Go.RowKit

set_option maxRecDepth 100000
theorem num_big3 (n : Nat) (h : n < 16777216) : numB (big3 n) = n := by
  simp only [numB, big3, List.foldl_cons, List.foldl_nil, UInt8.toNat_ofNat', Nat.reducePow]
  omega
theorem num_big4 (n : Nat) (h : n < 4294967296) : numB (big4 n) = n := by
  simp only [numB, big4, List.foldl_cons, List.foldl_nil, UInt8.toNat_ofNat', Nat.reducePow]
  omega
theorem frame_len (raw : Nat) (c : List UInt8) : (frameN 2 raw c).length = 16 + c.length := by
  simp [frameN, headN, big3, big4]; omega
theorem frame_mark (raw : Nat) (c : List UInt8) : ((frameN 2 raw c).getD 0 0).toNat = 181 := rfl
theorem frame_mode (raw : Nat) (c : List UInt8) : ((frameN 2 raw c).getD 1 0).toNat = 2 := rfl
theorem frame_raw (raw : Nat) (c : List UInt8) : cutN (frameN 2 raw c) 2 3 = big3 raw := rfl
theorem frame_body (raw : Nat) (c : List UInt8) : cutN (frameN 2 raw c) 5 3 = big3 c.length := rfl
theorem frame_head (raw : Nat) (c : List UInt8) : cutN (frameN 2 raw c) 0 8 = headN 2 raw c.length := rfl
theorem frame_sum (raw : Nat) (c : List UInt8) : cutN (frameN 2 raw c) 8 4 = big4 (sumN (headN 2 raw c.length)) := rfl
theorem frame_in (raw : Nat) (c : List UInt8) : cutN (frameN 2 raw c) 12 c.length = c := by
  have e : (frameN 2 raw c).drop 12 = c ++ big4 (sumN c) := rfl
  unfold cutN
  rw [e, List.take_left]
theorem frame_last (raw : Nat) (c : List UInt8) : cutN (frameN 2 raw c) (12 + c.length) 4 = big4 (sumN c) := by
  have e : (frameN 2 raw c).drop 12 = c ++ big4 (sumN c) := rfl
  unfold cutN
  rw [← List.drop_drop, e, List.drop_left]
  rfl
end

section
open Go.RowKit

set_option maxRecDepth 100000
theorem catch_idle (a b c : Value) (w : World) :
    CallsD Tryd.prog 44 #[a, b, c] .returning w fun e u' w' => e = .returned (.tuple #[]) ∧ u' = .returning ∧ w' = w := by
  refine callsD_of_wpS Tryd.func44 rfl fun c₀ cs hu => ?_
  apply wpS_seq
  apply wpS_region
  simp [wpOpsS, go_sem, recoverD, hu, Tryd.ntmps44, Exit.thenS]
  apply wpS_seq
  apply wpS_region
  simp [wpOpsS, go_sem, recoverD, hu, Exit.thenS]
  refine wpS_cond (t := false) (by simp [Act.eval, Array.replicate]) ?_
  simp only [Bool.false_eq_true, if_false]
  refine wpS_of_wp (wp_skip ?_)
  cases c₀
  simp_all [bodyPostS, results, Tryd.results44]
theorem zero44 : (Tryd.prog.info? 44).bind (·.zero) = some (.agg #[.int .i64 0, .int .i64 0, .int .i64 0, .int .i64 0]) := by kernel_rfl
theorem info44 : (Tryd.prog.info? 44).map (·.size) = some 4 := by kernel_rfl
/-- The three results of Unpack, in their cells. -/
structure UpAt (w : World) (B : Nat) (v : Value) (wr : World) : Prop where
  raw : CellsAt wr B [v]
  place : CellsAt wr (B + 1) [.int .i64 0]
  errno : CellsAt wr (B + 2) [.int .i64 0]
  below : Below B w wr
theorem UpAt.step {w wr w' : World} {B : Nat} {v : Value} (h : UpAt w B v wr) (k : Below wr.heap.size wr w') (hB : B ≤ wr.heap.size) : UpAt w B v w' :=
  ⟨h.raw.step k, h.place.step k, h.errno.step k, h.below.trans (k.mono hB)⟩
theorem UpAt.fine {w wr : World} {B : Nat} {v : Value} (h : UpAt w B v wr) : UpAt w B v ((wr.setCell ⟨B + 1, 0, none⟩ (.int .i64 0)).setCell ⟨B + 2, 0, none⟩ (.int .i64 0)) :=
  ⟨(h.raw.other (by omega) _ _).other (by omega) _ _, (h.place.set 0 (.int .i64 0) (by simp)).other (by omega) _ _, (h.errno.other (by omega) _ _).set 0 (.int .i64 0) (by simp),
   (h.below.setCell (p := ⟨B + 1, 0, none⟩) (by show B ≤ B + 1; omega) _).setCell (p := ⟨B + 2, 0, none⟩) (by show B ≤ B + 2; omega) _⟩
def RetUnpack (w : World) (oE : List UInt8) (e : Ending) (w' : World) : Prop := ∃ v, e = .returned (.tuple #[v, .int .i64 0, .int .i64 0]) ∧ OwnB w' w.heap.size v oE ∧ Below w.heap.size w w'
set_option maxHeartbeats 1600000 in
theorem unpack_ok (b off cp raw q aE : Nat) (c oE : List UInt8) (most : Int) (hr : 1 ≤ raw ∧ raw ≤ 16777215) (hcl : 1 ≤ c.length ∧ c.length ≤ 16777215) (hcp : 16 + c.length ≤ cp ∧ cp ≤ 9223372036854775807) (hm : (raw : Int) ≤ most) (w : World) (HB : HeldB w b off (frameN 2 raw c)) (T : Tabs w)
    (hq : doneK c 0 q = 302) (hl8 : 8 * q ≤ 8 * c.length) (g1 : isCode (cnt (firstL c 0 q)) = true) (g2 : isCode (cnt (secondL c 0 q)) = true ∨ symsN (cnt (secondL c 0 q)) 15 = 0)
    (dec : Dec c (dcd1 c 0 q) (dcd2 c 0 q) raw (8 * q) [] aE oE) (h8 : 8 * c.length - aE < 8) (h0 : aheadN c aE = 0) :
    Calls Tryd.prog 29 #[.slice (some ⟨b, off, none⟩) (16 + c.length : Nat) cp, .int .i64 most] w (RetUnpack w oE) := by
  have fl := frame_len raw c
  have s32 : sumN c < 2 ^ 32 := sumMoreN_lt (by decide) _
  have s32h : sumN (headN 2 raw c.length) < 2 ^ 32 := sumMoreN_lt (by decide) _
  have LK := Lib.hid (fun (W : World) (k : Below w.heap.size w W) => look_long b off cp (frameN 2 raw c) (by omega) (by omega) (by omega) W (HB.below k) (T.below k) (0, 0) 2 raw c.length (frame_mode raw c).symm (by rw [frame_raw, num_big3 _ (by omega)]) (by rw [frame_body, num_big3 _ (by omega)])
    (by rw [frame_mark, frame_sum, frame_head, num_big4 _ (by omega)]; unfold faultN; rw [if_neg (by omega), if_neg (by omega), if_neg (by omega), if_neg (by omega), if_neg (by omega)]))
  have FF := Lib.hid (fun (W : World) (k : Below w.heap.size w W) => frameFault_ok b off cp (frameN 2 raw c) (by omega) (by omega) 2 raw c.length fl (by omega) (by omega) most hm W (HB.below k) (T.below k) (by rw [frame_last, frame_in, num_big4 _ (by omega)]))
  have UC := Lib.hid (fun (W : World) (k : Below w.heap.size w W) (cp : Nat) => unpacked_ok (T.below k) b (off + 12) cp raw q aE c oE (by
    have := (HB.below k).cut 12 c.length
    rw [frame_in] at this
    exact this) (by omega) (by omega) hq hl8 g1 g2 dec h8 h0)
  rw [fl] at LK FF
  clear HB T hq g1 g2 dec h8 h0
  generalize c.length = d at *
  have hmf : ∀ (fn : Fn) (first cap : Array Value) (w : World), (Instr.makeFunc fn first cap).run Tryd.prog w = .ok (.func fn first cap) w := fun _ _ _ _ => rfl
  go_enter_defers Tryd.func29, Tryd.ntmps29
  go_upto_region 1 with fail
  have U3 := Lib.hid (show UpAt w w.heap.size (.slice none 0 0) (((w.alloc (.cells #[.slice none 0 0] 23)).alloc (.cells #[.int .i64 0] 3)).alloc (.cells #[.int .i64 0] 31)) from by
    have s1 : (w.alloc (.cells #[.slice none 0 0] 23)).heap.size = w.heap.size + 1 := by simp
    have s2 : ((w.alloc (.cells #[.slice none 0 0] 23)).alloc (.cells #[.int .i64 0] 3)).heap.size = w.heap.size + 2 := by simp
    have c0 := CellsAt.new w [.slice none 0 0] 23
    have c1 := CellsAt.new (w.alloc (.cells #[.slice none 0 0] 23)) [.int .i64 0] 3
    have c2 := CellsAt.new ((w.alloc (.cells #[.slice none 0 0] 23)).alloc (.cells #[.int .i64 0] 3)) [.int .i64 0] 31
    rw [s1] at c1
    rw [s2] at c2
    exact ⟨(c0.alloc _).alloc _, c1.alloc _, c2, (((Below.refl _ _).alloc (Nat.le_refl _) _).alloc (by simp) _).alloc (by simp; omega) _⟩)
  generalize ((w.alloc (.cells #[.slice none 0 0] 23)).alloc (.cells #[.int .i64 0] 3)).alloc (.cells #[.int .i64 0] 31) = x3 at *
  obtain ⟨B, hB⟩ : ∃ B, B = w.heap.size := ⟨_, rfl⟩
  rw [← hB] at U3 ⊢
  rw [show B + 1 + 1 = B + 2 from rfl]
  have QB := Lib.hid hB
  have L3 := U3.out.errno.lt
  have LK3 := Lib.hid (LK.out x3 (by rw [← hB]; exact U3.out.below))
  clear LK hB
  go_wp2_with fail
  refine LK3.out.mono ?_
  rintro e x4 he4
  obtain ⟨rfl, hb4⟩ : RetLook x3 2 raw d (16 + d) 0 0 e x4 := by simpa using he4
  have U4 := Lib.hid (U3.out.step hb4 (by omega))
  have L4 := hb4.size
  clear he4 hb4 U3 LK3
  have Z := Lib.hid zero44
  have c5 := CellsAt.new x4 [.int .i64 0, .int .i64 0, .int .i64 0, .int .i64 0] 44
  have T5 := Lib.hid (show (x4.alloc (.cells #[.int .i64 0, .int .i64 0, .int .i64 0, .int .i64 0] 44)).there x4.heap.size 0 4 from c5.there)
  have C6 := Lib.hid (c5.sets (us := [.int .i64 2, .int .i64 raw, .int .i64 d, .int .i64 (16 + (d : Int))]) rfl)
  have U6 := Lib.hid (U4.out.step (below_sets x4.heap.size (Nat.le_refl _) [.int .i64 2, .int .i64 raw, .int .i64 d, .int .i64 (16 + (d : Int))] 0 (below_alloc x4 (.cells #[.int .i64 0, .int .i64 0, .int .i64 0, .int .i64 0] 44))) (by omega))
  clear c5 U4
  go_upto_region 2 with (first
    | (guard_target =~ wpList _ _ _ (⟨some _, Op.alloc 44, _, _, _, _⟩ :: _) _ _; go_must (refine wp_alloc0 rfl 44 rfl _ Z.out ?_; simp only [Value.cells]))
    | (guard_target =~ wpList _ _ _ (⟨none, Op.store 44 _ _, _, _, _, _⟩ :: _) _ _; go_must (refine wpList_store_mid rfl 44 _ _ rfl x4.heap.size 0 #[.int .i64 2, .int .i64 raw, .int .i64 d, .int .i64 (16 + (d : Int))] rfl rfl T5.out info44 (by simp [Value.oneCell']) ?_; change wpList _ _ _ _ _ ((x4.alloc (.cells #[.int .i64 0, .int .i64 0, .int .i64 0, .int .i64 0] 44)).setCells x4.heap.size 0 [.int .i64 2, .int .i64 raw, .int .i64 d, .int .i64 (16 + (d : Int))]); generalize (x4.alloc (.cells #[.int .i64 0, .int .i64 0, .int .i64 0, .int .i64 0] 44)).setCells x4.heap.size 0 [.int .i64 2, .int .i64 raw, .int .i64 d, .int .i64 (16 + (d : Int))] = x6 at C6 U6 ⊢; have p5 := U6.out.place.cell 0 _ rfl; have f5 := U6.out.place.free 0; have p6 := U6.out.errno.cell 0 _ rfl; have f6 := U6.out.errno.free 0; clear T5)))
  have U7 := Lib.hid U6.out.fine
  have C7 := Lib.hid ((C6.out.other (c := B + 1) (by omega) 0 (.int .i64 0)).other (c := B + 2) (by omega) 0 (.int .i64 0))
  have hE : B + 2 < x4.heap.size := by omega
  clear p5 f5 p6 f6 U6 C6
  generalize (x6.setCell ⟨B + 1, 0, none⟩ (.int .i64 0)).setCell ⟨B + 2, 0, none⟩ (.int .i64 0) = x7 at *
  generalize x4.heap.size = E at *
  have p6 := U7.out.errno.cell 0 _ rfl
  have R7 := Lib.hid C7.out.range
  have FF7 := Lib.hid (FF.out x7 (by rw [← QB.out]; exact U7.out.below))
  go_wp2_with (guard_target =~ wpList _ _ _ (⟨some _, Op.load 44 _, _, _, _, _⟩ :: _) _ _; go_must (refine wpList_load_mid rfl 44 _ rfl E 0 rfl [.int .i64 2, .int .i64 raw, .int .i64 d, .int .i64 (16 + (d : Int))] _ R7.out Tryd.underlying44 rfl info44 ?_))
  refine FF7.out.mono ?_
  rintro e x8 ⟨rfl, hb8⟩
  have L7 := C7.out.lt
  have U8 := Lib.hid (U7.out.step hb8 (by omega))
  have C8 := Lib.hid (C7.out.step hb8)
  clear hb8 p6 R7 U7 C7 FF7 FF
  have p5 := U8.out.place.cell 0 _ rfl
  have f5 := U8.out.place.free 0
  have p6 := U8.out.errno.cell 0 _ rfl
  have f6 := U8.out.errno.free 0
  go_upto_region 4 with fail
  have U9 := Lib.hid U8.out.fine
  have C9 := Lib.hid ((C8.out.other (c := B + 1) (by omega) 0 (.int .i64 0)).other (c := B + 2) (by omega) 0 (.int .i64 0))
  clear p5 f5 p6 f6 U8 C8
  generalize (x8.setCell ⟨B + 1, 0, none⟩ (.int .i64 0)).setCell ⟨B + 2, 0, none⟩ (.int .i64 0) = x9 at *
  have p6 := U9.out.errno.cell 0 _ rfl
  have q0 := C9.out.cell 0 _ rfl
  have q1 := C9.out.cell 1 _ rfl
  have q2 := C9.out.cell 2 _ rfl
  go_wp2_with fail
  have L9 := C9.out.lt
  refine (UC.out x9 (by rw [← QB.out]; exact U9.out.below) (cp - 12)).mono ?_
  rintro e x10 ⟨v, rfl, ho, hb10, _⟩
  have U10 := Lib.hid (U9.out.step hb10 (by omega))
  have L10 := hb10.size
  have O10 := Lib.hid ho
  clear ho hb10 p6 q0 q1 q2 U9 C9 UC
  have p4 := U10.out.raw.cell 0 _ rfl
  have f4 := U10.out.raw.free 0
  have p5 := U10.out.place.cell 0 _ rfl
  have f5 := U10.out.place.free 0
  have p6 := U10.out.errno.cell 0 _ rfl
  have f6 := U10.out.errno.free 0
  obtain ⟨va, vc, rfl, _⟩ := O10.out.sl
  go_wp2_with fail
  refine leaves_cons (f := 44) (args := #[.pointer (some ⟨B, 0, none⟩), .pointer (some ⟨B + 1, 0, none⟩), .pointer (some ⟨B + 2, 0, none⟩)]) (by simp) (by simp [go_sem]) ?_
  refine (catch_idle _ _ _ _).mono ?_
  rintro e u' w'' ⟨rfl, rfl, rfl⟩
  have UZ : UpAt w B (.slice va oE.length vc) (((x10.setCell ⟨B, 0, none⟩ (.slice va oE.length vc)).setCell ⟨B + 1, 0, none⟩ (.int .i64 0)).setCell ⟨B + 2, 0, none⟩ (.int .i64 0)) :=
    UpAt.fine ⟨U10.out.raw.set 0 _ (by simp), U10.out.place.other (by omega) _ _, U10.out.errno.other (by omega) _ _, U10.out.below.setCell (p := ⟨B, 0, none⟩) (Nat.le_refl B) _⟩
  have OZ : OwnB (((x10.setCell ⟨B, 0, none⟩ (.slice va oE.length vc)).setCell ⟨B + 1, 0, none⟩ (.int .i64 0)).setCell ⟨B + 2, 0, none⟩ (.int .i64 0)) w.heap.size (.slice va oE.length vc) oE :=
    (((O10.out.keepX (KeepX.set B x10 0 (.slice va oE.length vc)) (by omega)).keepX (KeepX.set (B + 1) _ 0 (.int .i64 0)) (by omega)).keepX (KeepX.set (B + 2) _ 0 (.int .i64 0)) (by omega)).mono (by rw [← QB.out]; omega)
  generalize ((x10.setCell ⟨B, 0, none⟩ (.slice va oE.length vc)).setCell ⟨B + 1, 0, none⟩ (.int .i64 0)).setCell ⟨B + 2, 0, none⟩ (.int .i64 0) = z at *
  have z4 := UZ.raw.cell 0 _ rfl
  have z5 := UZ.place.cell 0 _ rfl
  have z6 := UZ.errno.cell 0 _ rfl
  have FIN := UZ.below
  rw [QB.out] at FIN
  exact ⟨.tuple #[.slice va oE.length vc, .int .i64 0, .int .i64 0], by simp [results, Tryd.results29, go_sem, z4, z5, z6], _, rfl, OZ, FIN⟩
end
end Go.Proofs.YtfbeipfpkikakaaDoor
