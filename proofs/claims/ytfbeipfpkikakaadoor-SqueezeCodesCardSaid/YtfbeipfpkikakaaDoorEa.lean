/- The symbols of a block, one by one. -/
import Derived.Test.YtfbeipfpkikakaaDoorSf
namespace Go.Proofs.YtfbeipfpkikakaaDoor
open Go.RowKit

set_option maxRecDepth 100000
abbrev Suf := Nat × Nat × Nat
def sufO (s : Suf) : Value := sufV s.1 s.2.1 s.2.2
def SufOk (s : Suf) : Prop := s.1 < 302 ∧ s.2.2 < 2 ^ s.2.1 ∧ s.2.1 ≤ 15
/-- Whole blocks from X on are kept, but for bytes. -/
structure KeepT (X : Nat) (w w' : World) : Prop where
  size : w.heap.size ≤ w'.heap.size
  keep : ∀ (g : Nat) (t : TypeId) (cs : Array Value), t ≠ 5 → X ≤ g → w.heap[g]? = some (.cells cs t (0, 0)) → w'.heap[g]? = some (.cells cs t (0, 0))
theorem KeepT.trans {X : Nat} {a b c : World} (h : KeepT X a b) (k : KeepT X b c) : KeepT X a c := ⟨Nat.le_trans h.size k.size, fun g t cs ht hg x => k.keep g t cs ht hg (h.keep g t cs ht hg x)⟩
theorem KeepT.below {X : Nat} {w w' : World} (h : Below w.heap.size w w') : KeepT X w w' := ⟨h.size, fun g _ _ _ _ x => (h.block g (lt_of_heap x)).trans x⟩
theorem BlkAt.keepT {X : Nat} {w w' : World} {p : Nat} {t : TypeId} {vs : List Value} (h : BlkAt w p t vs) (k : KeepT X w w') (ht : t ≠ 5) (hp : X ≤ p) : BlkAt w' p t vs := k.keep p t _ ht hp h
/-- The same, but for one block. -/
structure KeepU (X p : Nat) (w w' : World) : Prop where
  size : w.heap.size ≤ w'.heap.size
  keep : ∀ (g : Nat) (t : TypeId) (cs : Array Value), t ≠ 5 → X ≤ g → g ≠ p → w.heap[g]? = some (.cells cs t (0, 0)) → w'.heap[g]? = some (.cells cs t (0, 0))
theorem KeepU.refl (X p : Nat) (w : World) : KeepU X p w w := ⟨Nat.le_refl _, fun _ _ _ _ _ _ h => h⟩
theorem KeepU.trans {X p : Nat} {a b c : World} (h : KeepU X p a b) (k : KeepU X p b c) : KeepU X p a c := ⟨Nat.le_trans h.size k.size, fun g t cs ht hg hp x => k.keep g t cs ht hg hp (h.keep g t cs ht hg hp x)⟩
theorem KeepT.up {X p : Nat} {w w' : World} (h : KeepT X w w') : KeepU X p w w' := ⟨h.size, fun g t cs ht hg _ x => h.keep g t cs ht hg x⟩
theorem KeepU.set (X p : Nat) (w : World) (j : Nat) (x : Value) : KeepU X p w (w.setCell ⟨p, j, none⟩ x) := ⟨by simp, fun g t cs _ _ hp h => by
  show (w.heap.modify p _)[g]? = _
  rw [Array.getElem?_modify, if_neg (Ne.symm hp)]
  exact h⟩
theorem BlkAt.keepU {X q : Nat} {w w' : World} {p : Nat} {t : TypeId} {vs : List Value} (h : BlkAt w p t vs) (k : KeepU X q w w') (ht : t ≠ 5) (hp : X ≤ p) (hq : p ≠ q) : BlkAt w' p t vs := k.keep p t _ ht hp hq h
/-- The symbols of bytes that stand for themselves. -/
def lits (l : List UInt8) (a : Nat) : Nat → List Suf
  | 0 => []
  | n + 1 => lits l a n ++ [((l.getD (a + n) 0).toNat, 0, 0)]
theorem lits_len (l : List UInt8) (a : Nat) : ∀ n, (lits l a n).length = n
  | 0 => rfl
  | n + 1 => by show (lits l a n ++ [_]).length = _; rw [List.length_append, lits_len l a n]; rfl
/-- What holds between two symbols. -/
structure EachI (X : Nat) (bv : Value) (l : List UInt8) (I : List Suf → World → Prop) : Prop where
  st1 : ∀ L W W', I L W → Below W.heap.size W W' → I L W'
  st2 : ∀ L W c j v (t : TypeId) vs, I L W → X ≤ c → BlkAt W c t vs → t ≠ 5 → I L (W.setCell ⟨c, j, none⟩ v)
  hold : ∀ L W, I L W → SlB W bv l
  len : l.length ≤ 16777215
theorem SlB.byte {w : World} {g o n c j : Nat} {l : List UInt8} {x : UInt8} (h : SlB w (.slice (some ⟨g, o, none⟩) n c) l) (hx : l[j]? = some x) : w.cell? ⟨g, o + j, none⟩ = some (.int .u8 x.toNat) := by
  obtain ⟨a, c', hv, hn, hh⟩ := h
  rcases hh with hnil | ⟨b, off, ha, _, hc⟩
  · rw [hnil] at hx; cases hx
  · rw [ha] at hv
    injection hv with h1 h2 h3
    injection h1 with h1
    injection h1 with h4 h5
    subst h4 h5
    exact hc j x hx
def atOf (w : World) (p : Nat) : Nat := match w.cell? ⟨p, 0, none⟩ with | some (.int _ z) => z.toNat | _ => 0
theorem BlkAt.atOf {w : World} {p : Nat} {t : TypeId} {m : Nat} (h : BlkAt w p t [.int .i64 (m : Int)]) : atOf w p = m := by
  unfold Go.Proofs.YtfbeipfpkikakaaDoor.atOf
  rw [h.cells.cell 0 _ rfl]
  simp
def EaRel (X : Nat) (I : List Suf → World → Prop) (l : List UInt8) (L : List Suf) (a n pa : Nat) (w : World) (wr : World) : Prop := ∃ k, k ≤ n ∧ I (L ++ lits l a k) wr ∧ BlkAt wr pa 3 [.int .i64 ((a + k : Nat) : Int)] ∧ KeepU X pa w wr
def DoOk51 (X cap : Nat) (I : List Suf → World → Prop) (ga gb : Value) : Prop := ∀ L W s, L.length < cap → I L W → SufOk s → Calls Tryd.prog 51 #[sufO s, ga, gb] W (fun e W' => e = .returned (.tuple #[]) ∧ I (L ++ [s]) W' ∧ KeepT X W W')
set_option maxHeartbeats 1600000 in
theorem bytesTo_51 {w : World} {X cap pa pd pb a n : Nat} {bv ga gb : Value} {l : List UInt8} {I : List Suf → World → Prop} {L : List Suf} (E : EachI X bv l I) (D : DoOk51 X cap I ga gb) (hcap : L.length + n ≤ cap) (h : I L w) (hn : a + n ≤ l.length)
    (ha : BlkAt w pa 3 [.int .i64 (a : Int)]) (hd : BlkAt w pd 85 [.func (.func 51) #[] #[ga, gb]]) (hb : BlkAt w pb 23 [bv]) (xa : X ≤ pa) (xd : X ≤ pd) (xb : X ≤ pb) (n1 : pd ≠ pa) (n2 : pb ≠ pa) :
    Calls Tryd.prog 69 #[.int .i64 ((a + n : Nat) : Int), .pointer (some ⟨pa, 0, none⟩), .pointer (some ⟨pd, 0, none⟩), .pointer (some ⟨pb, 0, none⟩)] w (fun e w' => e = .returned (.tuple #[]) ∧ I (L ++ lits l a n) w' ∧ BlkAt w' pa 3 [.int .i64 ((a + n : Nat) : Int)] ∧ KeepU X pa w w') := by
  have ST := Lib.hid (show EaRel X I l L a n pa w w from ⟨0, Nat.zero_le _, by show I (L ++ []) w; rw [List.append_nil]; exact h, ha, KeepU.refl X pa w⟩)
  have HD := Lib.hid hd
  have HB := Lib.hid hb
  have DD := Lib.hid D
  have hl := E.len
  have EE := Lib.hid E
  clear hd hb D E h ha
  go_enter Tryd.func69, Tryd.ntmps69
  go_wp2_with fail
  go_loopw [] (fun wr => EaRel X I l L a n pa w wr) (fun wr => a + n - atOf wr pa)
  case atStart => exact ST.out
  case round =>
    clear ST
    obtain ⟨k, hk, hI, hA, hK⟩ := hrel
    have AO := Lib.hid hA.atOf
    have HI := Lib.hid hI
    have HA := Lib.hid hA
    have HK := Lib.hid hK
    have c0 := hA.cells.cell 0 _ rfl
    have f0 := hA.cells.free 0
    have la := hA.cells.lt
    clear hI hA hK
    by_cases hlt : k < n
    · have HDw := Lib.hid (HD.out.keepU HK.out (by decide) xd n1)
      have HBw := Lib.hid (HB.out.keepU HK.out (by decide) xb n2)
      have SB := EE.out.hold _ _ HI.out
      obtain ⟨va, vc, rfl, vn, vh⟩ := SB
      rcases vh with hnil | ⟨g, o, rfl, hg, hcell⟩
      · rw [hnil] at hn; simp at hn; omega
      · obtain ⟨j, hj⟩ : ∃ j, j = a + k := ⟨_, rfl⟩
        have jl : j < l.length := by omega
        have cx := hcell j l[j] (List.getElem?_eq_getElem jl)
        have LX := Lib.hid (show lits l a (k + 1) = lits l a k ++ [(l[j].toNat, 0, 0)] by show lits l a k ++ [_] = _; rw [← hj, List.getD_eq_getElem?_getD, List.getElem?_eq_getElem jl]; rfl)
        have HBY := Lib.hid (show ∀ W, SlB W (.slice (some ⟨g, o, none⟩) l.length vc) l → W.cell? ⟨g, o + j, none⟩ = some (.int .u8 l[j].toNat) from fun W hW => hW.byte (List.getElem?_eq_getElem jl))
        generalize l[j] = x at *
        have x8 := x.toNat_lt
        have DC := Lib.hid (DD.out (L ++ lits l a k) wr.drew (x.toNat, 0, 0) (by rw [List.length_append, lits_len]; omega) (EE.out.st1 _ _ _ HI.out (below_drewN wr 1)) ⟨by show x.toNat < 302; omega, by show 0 < 2 ^ 0; decide, by show 0 ≤ 15; omega⟩)
        rw [← hj] at c0
        have t1 : decide ((j : Int) < ((a + n : Nat) : Int)) = true := decide_eq_true (by omega)
        have t1n : decide (j < a + n) = true := decide_eq_true (by omega)
        have d0 := HDw.out.cells.cell 0 _ rfl
        have b0 := HBw.out.cells.cell 0 _ rfl
        have ld := HDw.out.cells.lt
        have lb := HBw.out.cells.lt
        have xi : ((x.toNat : Nat) : Int) = (x.toNat : Int) := rfl
        have i1 : IntKind.i64.wrap ((x.toNat : Nat) : Int) = (x.toNat : Int) := IntWalk.i64_in _ (by omega)
        have j1 : (j : Int) < (l.length : Int) := by omega
        have j2 : (0 : Int) ≤ (j : Int) := by omega
        have QJ := Lib.hid hj
        obtain ⟨M, hM⟩ : ∃ M, M = a + n := ⟨_, rfl⟩
        rw [← hM] at t1 t1n ⊢
        have QM := Lib.hid hM
        clear hj hcell vn hM xi
        generalize x.toNat = y at *
        go_upto_region 2 with fail
        go_region_held3 (fun w' => w'.cell? ⟨pd, 0, none⟩ = some (.func (.func 51) #[] #[ga, gb]) ∧ w'.cell? ⟨pb, 0, none⟩ = some (.slice (some ⟨g, o, none⟩) l.length vc) ∧ w'.cell? ⟨pa, 0, none⟩ = some (.int .i64 (j : Int)) ∧ w'.cell? ⟨g, o + j, none⟩ = some (.int .u8 (y : Int)))
          (first | go_keep)
          ((first | (go_at_call 51; refine DC.out.mono ?_; rintro e w3 ⟨rfl, i3, k3⟩; have I3 := Lib.hid i3; have K3 := Lib.hid ((KeepT.below (X := X) (below_drewN wr 1)).trans k3); clear i3 k3; have s1 := (HDw.out.keepT K3.out (by decide) xd).cells.cell 0 _ rfl; have s2 := (HBw.out.keepT K3.out (by decide) xb).cells.cell 0 _ rfl; have s3 := (HA.out.keepT K3.out (by decide) xa).cells.cell 0 _ rfl; rw [← QJ.out] at s3; have s4 := HBY.out w3 (EE.out.hold _ _ I3.out))))
        have A3 := Lib.hid (HA.out.keepT K3.out (by decide) xa)
        have f3 := A3.out.cells.free 0
        have l3 := A3.out.cells.lt
        have FIN := Lib.hid (show EaRel X I l L a n pa w (w3.setCell ⟨pa, 0, none⟩ (.int .i64 ((j : Int) + 1))) from
          ⟨k + 1, by omega, EE.out.st2 _ _ _ _ _ _ _ (by rw [LX.out, ← List.append_assoc]; exact I3.out) xa A3.out (by decide), by
            have b := A3.out.set 0 (.int .i64 ((j : Int) + 1))
            have e : ((a + (k + 1) : Nat) : Int) = (j : Int) + 1 := by have := QJ.out; omega
            rw [e]; exact b, (HK.out.trans K3.out.up).trans (KeepU.set X pa w3 0 _)⟩)
        have ME := Lib.hid (show M - atOf (w3.setCell ⟨pa, 0, none⟩ (.int .i64 ((j : Int) + 1))) pa < M - atOf wr pa from by
          have b := A3.out.set 0 (.int .i64 ((j : Int) + 1))
          have e : (j : Int) + 1 = ((j + 1 : Nat) : Int) := by omega
          rw [e] at b ⊢
          rw [BlkAt.atOf (show BlkAt _ pa 3 [.int .i64 ((j + 1 : Nat) : Int)] from b), AO.out]
          have := QJ.out
          have := QM.out
          omega)
        clear s1 s2 s4 d0 b0 c0 f0 la cx HDw HBw DC I3 HI HA A3
        go_wp2_with fail
        exact ⟨FIN.out, ME.out⟩
    · obtain rfl : k = n := by omega
      have t1 : decide (((a + k : Nat) : Int) < ((a + k : Nat) : Int)) = false := decide_eq_false (by omega)
      have t1n : decide (a + k < a + k) = false := decide_eq_false (by omega)
      go_wp2_with fail
      go_end0
      exact ⟨rfl, HI.out, HA.out, HK.out⟩
def DoOk59 (X cap : Nat) (I : List Suf → World → Prop) (ga gb gd : Value) : Prop := ∀ L W s, L.length < cap → I L W → SufOk s → Calls Tryd.prog 59 #[sufO s, ga, gb, gd] W (fun e W' => e = .returned (.tuple #[]) ∧ I (L ++ [s]) W' ∧ KeepT X W W')
set_option maxHeartbeats 1600000 in
theorem bytesTo_59 {w : World} {X cap pa pd pb a n : Nat} {bv ga gb gd : Value} {l : List UInt8} {I : List Suf → World → Prop} {L : List Suf} (E : EachI X bv l I) (D : DoOk59 X cap I ga gb gd) (hcap : L.length + n ≤ cap) (h : I L w) (hn : a + n ≤ l.length)
    (ha : BlkAt w pa 3 [.int .i64 (a : Int)]) (hd : BlkAt w pd 85 [.func (.func 59) #[] #[ga, gb, gd]]) (hb : BlkAt w pb 23 [bv]) (xa : X ≤ pa) (xd : X ≤ pd) (xb : X ≤ pb) (n1 : pd ≠ pa) (n2 : pb ≠ pa) :
    Calls Tryd.prog 69 #[.int .i64 ((a + n : Nat) : Int), .pointer (some ⟨pa, 0, none⟩), .pointer (some ⟨pd, 0, none⟩), .pointer (some ⟨pb, 0, none⟩)] w (fun e w' => e = .returned (.tuple #[]) ∧ I (L ++ lits l a n) w' ∧ BlkAt w' pa 3 [.int .i64 ((a + n : Nat) : Int)] ∧ KeepU X pa w w') := by
  have ST := Lib.hid (show EaRel X I l L a n pa w w from ⟨0, Nat.zero_le _, by show I (L ++ []) w; rw [List.append_nil]; exact h, ha, KeepU.refl X pa w⟩)
  have HD := Lib.hid hd
  have HB := Lib.hid hb
  have DD := Lib.hid D
  have hl := E.len
  have EE := Lib.hid E
  clear hd hb D E h ha
  go_enter Tryd.func69, Tryd.ntmps69
  go_wp2_with fail
  go_loopw [] (fun wr => EaRel X I l L a n pa w wr) (fun wr => a + n - atOf wr pa)
  case atStart => exact ST.out
  case round =>
    clear ST
    obtain ⟨k, hk, hI, hA, hK⟩ := hrel
    have AO := Lib.hid hA.atOf
    have HI := Lib.hid hI
    have HA := Lib.hid hA
    have HK := Lib.hid hK
    have c0 := hA.cells.cell 0 _ rfl
    have f0 := hA.cells.free 0
    have la := hA.cells.lt
    clear hI hA hK
    by_cases hlt : k < n
    · have HDw := Lib.hid (HD.out.keepU HK.out (by decide) xd n1)
      have HBw := Lib.hid (HB.out.keepU HK.out (by decide) xb n2)
      have SB := EE.out.hold _ _ HI.out
      obtain ⟨va, vc, rfl, vn, vh⟩ := SB
      rcases vh with hnil | ⟨g, o, rfl, hg, hcell⟩
      · rw [hnil] at hn; simp at hn; omega
      · obtain ⟨j, hj⟩ : ∃ j, j = a + k := ⟨_, rfl⟩
        have jl : j < l.length := by omega
        have cx := hcell j l[j] (List.getElem?_eq_getElem jl)
        have LX := Lib.hid (show lits l a (k + 1) = lits l a k ++ [(l[j].toNat, 0, 0)] by show lits l a k ++ [_] = _; rw [← hj, List.getD_eq_getElem?_getD, List.getElem?_eq_getElem jl]; rfl)
        have HBY := Lib.hid (show ∀ W, SlB W (.slice (some ⟨g, o, none⟩) l.length vc) l → W.cell? ⟨g, o + j, none⟩ = some (.int .u8 l[j].toNat) from fun W hW => hW.byte (List.getElem?_eq_getElem jl))
        generalize l[j] = x at *
        have x8 := x.toNat_lt
        have DC := Lib.hid (DD.out (L ++ lits l a k) wr.drew (x.toNat, 0, 0) (by rw [List.length_append, lits_len]; omega) (EE.out.st1 _ _ _ HI.out (below_drewN wr 1)) ⟨by show x.toNat < 302; omega, by show 0 < 2 ^ 0; decide, by show 0 ≤ 15; omega⟩)
        rw [← hj] at c0
        have t1 : decide ((j : Int) < ((a + n : Nat) : Int)) = true := decide_eq_true (by omega)
        have t1n : decide (j < a + n) = true := decide_eq_true (by omega)
        have d0 := HDw.out.cells.cell 0 _ rfl
        have b0 := HBw.out.cells.cell 0 _ rfl
        have ld := HDw.out.cells.lt
        have lb := HBw.out.cells.lt
        have xi : ((x.toNat : Nat) : Int) = (x.toNat : Int) := rfl
        have i1 : IntKind.i64.wrap ((x.toNat : Nat) : Int) = (x.toNat : Int) := IntWalk.i64_in _ (by omega)
        have j1 : (j : Int) < (l.length : Int) := by omega
        have j2 : (0 : Int) ≤ (j : Int) := by omega
        have QJ := Lib.hid hj
        obtain ⟨M, hM⟩ : ∃ M, M = a + n := ⟨_, rfl⟩
        rw [← hM] at t1 t1n ⊢
        have QM := Lib.hid hM
        clear hj hcell vn hM xi
        generalize x.toNat = y at *
        go_upto_region 2 with fail
        go_region_held3 (fun w' => w'.cell? ⟨pd, 0, none⟩ = some (.func (.func 59) #[] #[ga, gb, gd]) ∧ w'.cell? ⟨pb, 0, none⟩ = some (.slice (some ⟨g, o, none⟩) l.length vc) ∧ w'.cell? ⟨pa, 0, none⟩ = some (.int .i64 (j : Int)) ∧ w'.cell? ⟨g, o + j, none⟩ = some (.int .u8 (y : Int)))
          (first | go_keep)
          ((first | (go_at_call 59; refine DC.out.mono ?_; rintro e w3 ⟨rfl, i3, k3⟩; have I3 := Lib.hid i3; have K3 := Lib.hid ((KeepT.below (X := X) (below_drewN wr 1)).trans k3); clear i3 k3; have s1 := (HDw.out.keepT K3.out (by decide) xd).cells.cell 0 _ rfl; have s2 := (HBw.out.keepT K3.out (by decide) xb).cells.cell 0 _ rfl; have s3 := (HA.out.keepT K3.out (by decide) xa).cells.cell 0 _ rfl; rw [← QJ.out] at s3; have s4 := HBY.out w3 (EE.out.hold _ _ I3.out))))
        have A3 := Lib.hid (HA.out.keepT K3.out (by decide) xa)
        have f3 := A3.out.cells.free 0
        have l3 := A3.out.cells.lt
        have FIN := Lib.hid (show EaRel X I l L a n pa w (w3.setCell ⟨pa, 0, none⟩ (.int .i64 ((j : Int) + 1))) from
          ⟨k + 1, by omega, EE.out.st2 _ _ _ _ _ _ _ (by rw [LX.out, ← List.append_assoc]; exact I3.out) xa A3.out (by decide), by
            have b := A3.out.set 0 (.int .i64 ((j : Int) + 1))
            have e : ((a + (k + 1) : Nat) : Int) = (j : Int) + 1 := by have := QJ.out; omega
            rw [e]; exact b, (HK.out.trans K3.out.up).trans (KeepU.set X pa w3 0 _)⟩)
        have ME := Lib.hid (show M - atOf (w3.setCell ⟨pa, 0, none⟩ (.int .i64 ((j : Int) + 1))) pa < M - atOf wr pa from by
          have b := A3.out.set 0 (.int .i64 ((j : Int) + 1))
          have e : (j : Int) + 1 = ((j + 1 : Nat) : Int) := by omega
          rw [e] at b ⊢
          rw [BlkAt.atOf (show BlkAt _ pa 3 [.int .i64 ((j + 1 : Nat) : Int)] from b), AO.out]
          have := QJ.out
          have := QM.out
          omega)
        clear s1 s2 s4 d0 b0 c0 f0 la cx HDw HBw DC I3 HI HA A3
        go_wp2_with fail
        exact ⟨FIN.out, ME.out⟩
    · obtain rfl : k = n := by omega
      have t1 : decide (((a + k : Nat) : Int) < ((a + k : Nat) : Int)) = false := decide_eq_false (by omega)
      have t1n : decide (a + k < a + k) = false := decide_eq_false (by omega)
      go_wp2_with fail
      go_end0
      exact ⟨rfl, HI.out, HA.out, HK.out⟩
end Go.Proofs.YtfbeipfpkikakaaDoor
