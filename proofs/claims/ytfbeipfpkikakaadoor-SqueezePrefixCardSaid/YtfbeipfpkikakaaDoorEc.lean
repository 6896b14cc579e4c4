/- The symbols of a block with its repeats, one by one. -/
import Derived.Test.YtfbeipfpkikakaaDoorEa
namespace Go.Proofs.YtfbeipfpkikakaaDoor
open Go.RowKit

set_option maxRecDepth 100000
theorem BlkAt.setsFrom {p : Nat} {t : TypeId} : ∀ (us pre rest : List Value) {w : World}, BlkAt w p t (pre ++ rest) → us.length = rest.length → BlkAt (w.setCells p pre.length us) p t (pre ++ us)
  | [], pre, rest, w, h, hl => by
    have : rest = [] := List.eq_nil_of_length_eq_zero hl.symm
    subst this
    exact h
  | u :: us, pre, [], w, h, hl => by simp at hl
  | u :: us, pre, r :: rest, w, h, hl => by
    rw [World.setCells]
    have h1 := h.set pre.length u
    have e : (pre ++ r :: rest).set pre.length u = (pre ++ [u]) ++ rest := by simp [List.set_append]
    rw [e] at h1
    have h2 := BlkAt.setsFrom us (pre ++ [u]) rest h1 (by simpa using hl)
    rw [List.append_assoc] at h2
    simpa using h2
theorem BlkAt.setsAll {w : World} {p : Nat} {t : TypeId} {vs us : List Value} (h : BlkAt w p t vs) (hl : us.length = vs.length) : BlkAt (w.setCells p 0 us) p t us := BlkAt.setsFrom us [] vs h hl
theorem newB_blk (w : World) (t : TypeId) (zs us : List Value) (hl : us.length = zs.length) : BlkAt ((w.alloc (.cells zs.toArray t)).setCells w.heap.size 0 us) w.heap.size t us := (BlkAt.new w zs t).setsAll hl
theorem newB_below (w : World) (t : TypeId) (zs us : List Value) : Below w.heap.size w ((w.alloc (.cells zs.toArray t)).setCells w.heap.size 0 us) := below_sets w.heap.size (Nat.le_refl _) us 0 (below_alloc w _)
theorem newB_there (w : World) (t : TypeId) (zs : List Value) : (w.alloc (.cells zs.toArray t)).there w.heap.size 0 zs.length := (CellsAt.new w zs t).there
theorem newB_lt (w : World) (t : TypeId) (zs us : List Value) : w.heap.size < ((w.alloc (.cells zs.toArray t)).setCells w.heap.size 0 us).heap.size := by rw [size_setCells]; simp
structure Rep where
  at' : Nat
  back : Nat
  len : Nat
/-- A slice of repeats that reads so. -/
def SlR (w : World) (v : Value) (reps : List Rep) : Prop :=
  ∃ a c, v = .slice a reps.length c ∧ (reps = [] ∨ ∃ b off, a = some ⟨b, off, none⟩ ∧ b < w.heap.size ∧ ∀ (j : Nat) r, reps[j]? = some r →
    w.cell? ⟨b, off + j * 3, none⟩ = some (.int .u32 (r.at' : Int)) ∧ w.cell? ⟨b, off + j * 3 + 1, none⟩ = some (.int .u16 (r.back : Int)) ∧ w.cell? ⟨b, off + j * 3 + 2, none⟩ = some (.int .u8 (r.len : Int)))
theorem SlR.rep {w : World} {g o n c j : Nat} {reps : List Rep} {r : Rep} (h : SlR w (.slice (some ⟨g, o, none⟩) n c) reps) (hr : reps[j]? = some r) : w.rangeAt g (o + j * 3) [.int .u32 (r.at' : Int), .int .u16 (r.back : Int), .int .u8 (r.len : Int)] := by
  obtain ⟨a, c', hv, hh⟩ := h
  rcases hh with hnil | ⟨b, off, ha, _, hc⟩
  · rw [hnil] at hr; cases hr
  · rw [ha] at hv
    injection hv with h1 h2 h3
    injection h1 with h1
    injection h1 with h4 h5
    subst h4 h5
    obtain ⟨c0, c1, c2⟩ := hc j r hr
    intro i v hv
    match i, hv with
    | 0, hv => cases hv; exact c0
    | 1, hv => cases hv; exact c1
    | 2, hv => cases hv; exact c2
def lenS (n : Nat) : Suf := (256 + symN lbase n 15, lbits (symN lbase n 15), n - lbase (symN lbase n 15))
def distS (d : Nat) : Suf := (272 + symN dbase d 29, dbits (symN dbase d 29), d - dbase (symN dbase d 29))
def RepOk (r : Rep) : Prop := 3 ≤ r.len ∧ r.len ≤ 250 ∧ 1 ≤ r.back ∧ r.back ≤ 32768 ∧ SufOk (lenS r.len) ∧ SufOk (distS r.back)
/-- Where the next byte to be told stands. -/
def posR (a : Nat) : List Rep → Nat
  | [] => a
  | r :: rs => posR (r.at' + r.len) rs
def symsR (l : List UInt8) : Nat → List Rep → List Suf
  | _, [] => []
  | a, r :: rs => lits l a (r.at' - a) ++ [lenS r.len] ++ [distS r.back] ++ symsR l (r.at' + r.len) rs
def RepsOk (l : List UInt8) : Nat → List Rep → Prop
  | a, [] => a ≤ l.length
  | a, r :: rs => a ≤ r.at' ∧ r.at' ≤ l.length ∧ r.at' + r.len ≤ l.length ∧ RepOk r ∧ RepsOk l (r.at' + r.len) rs
structure EachR (lp : Nat) (rv : Value) (reps : List Rep) (I : List Suf → World → Prop) : Prop where
  ptr : ∀ L W, I L W → W.cell? ⟨lp, 0, none⟩ = some rv
  low : ∀ L W, I L W → lp < W.heap.size
  reps : ∀ L W, I L W → SlR W rv reps
  tabs : ∀ L W, I L W → Tabs W
/-- Between two repeats. -/
structure EcAt (X : Nat) (I : List Suf → World → Prop) (bv fv : Value) (L : List Suf) (a : Nat) (wr : World) : Prop where
  i : I L wr
  b : BlkAt wr X 23 [bv]
  d : BlkAt wr (X + 1) 85 [fv]
  a : BlkAt wr (X + 2) 3 [.int .i64 (a : Int)]
theorem EcAt.step {X : Nat} {bv bv0 fv : Value} {l : List UInt8} {I : List Suf → World → Prop} {L : List Suf} {a : Nat} {w w' : World} (E : EachI X bv0 l I) (h : EcAt X I bv fv L a w) (k : Below w.heap.size w w') : EcAt X I bv fv L a w' :=
  ⟨E.st1 _ _ _ h.i k, h.b.below k, h.d.below k, h.a.below k⟩
theorem EcAt.oset {X c : Nat} {bv bv0 fv : Value} {l : List UInt8} {I : List Suf → World → Prop} {L : List Suf} {a : Nat} {w : World} (E : EachI X bv0 l I) (h : EcAt X I bv fv L a w) (hc : X + 2 < c) {t : TypeId} {vs : List Value} (hb : BlkAt w c t vs) (ht : t ≠ 5) (j : Nat) (v : Value) : EcAt X I bv fv L a (w.setCell ⟨c, j, none⟩ v) :=
  ⟨E.st2 _ _ _ _ _ _ _ h.i (by omega) hb ht, h.b.other (by omega) _ _, h.d.other (by omega) _ _, h.a.other (by omega) _ _⟩
theorem EcAt.said {X : Nat} {bv fv : Value} {I : List Suf → World → Prop} {L L' : List Suf} {a : Nat} {w w' : World} (h : EcAt X I bv fv L a w) (hi : I L' w') (k : KeepT X w w') : EcAt X I bv fv L' a w' :=
  ⟨hi, h.b.keepT k (by decide) (Nat.le_refl _), h.d.keepT k (by decide) (by omega), h.a.keepT k (by decide) (by omega)⟩
theorem EcAt.went {X : Nat} {bv fv : Value} {I : List Suf → World → Prop} {L L' : List Suf} {a a' : Nat} {w w' : World} (h : EcAt X I bv fv L a w) (hi : I L' w') (k : KeepU X (X + 2) w w') (ha : BlkAt w' (X + 2) 3 [.int .i64 (a' : Int)]) : EcAt X I bv fv L' a' w' :=
  ⟨hi, h.b.keepU k (by decide) (Nat.le_refl _) (by omega), h.d.keepU k (by decide) (by omega) (by omega), ha⟩
theorem zero95 : (Tryd.prog.info? 95).bind (·.zero) = some (.agg [.int .u32 0, .int .u16 0, .int .u8 0].toArray) := by kernel_rfl
theorem zero84 : (Tryd.prog.info? 84).bind (·.zero) = some (.agg [.int .i64 0, .int .i64 0, .int .i64 0].toArray) := by kernel_rfl
theorem info95 : (Tryd.prog.info? 95).map (·.size) = some 3 := by kernel_rfl
def EcRel (X : Nat) (I : List Suf → World → Prop) (bv fv : Value) (l : List UInt8) (reps : List Rep) (i : Value) (wr : World) : Prop :=
  ∃ (k : Nat) (L : List Suf) (a : Nat), k ≤ reps.length ∧ i = .int .i64 (k : Int) ∧ EcAt X I bv fv L a wr ∧ RepsOk l a (reps.drop k) ∧ L ++ symsR l a (reps.drop k) ++ lits l (posR a (reps.drop k)) (l.length - posR a (reps.drop k)) = symsR l 0 reps ++ lits l (posR 0 reps) (l.length - posR 0 reps)
set_option maxHeartbeats 800000 in
theorem each_51 {w : World} {lp cap : Nat} {bv rv ga gb : Value} {l : List UInt8} {reps : List Rep} {I : List Suf → World → Prop} (E : EachI w.heap.size bv l I) (R : EachR lp rv reps I) (D : DoOk51 w.heap.size cap I ga gb) (h : I [] w) (ho : RepsOk l 0 reps) (hrl : reps.length ≤ 16777215) (hcap : (symsR l 0 reps ++ lits l (posR 0 reps) (l.length - posR 0 reps)).length ≤ cap) :
    Calls Tryd.prog 50 #[.pointer (some ⟨lp, 0, none⟩), bv, .func (.func 51) #[] #[ga, gb]] w (fun e w' => e = .returned (.tuple #[]) ∧ I (symsR l 0 reps ++ lits l (posR 0 reps) (l.length - posR 0 reps)) w') := by
  have EE := Lib.hid E
  have RR := Lib.hid R
  have DD := Lib.hid D
  have HO := Lib.hid ho
  have hmf : ∀ (fn : Fn) (first cap : Array Value) (w : World), (Instr.makeFunc fn first cap).run Tryd.prog w = .ok (.func fn first cap) w := fun _ _ _ _ => rfl
  have I0 := Lib.hid h
  have HCP := Lib.hid hcap
  clear E R D ho h hcap
  obtain ⟨bva, bvc, rfl, _, _⟩ := EE.out.hold _ _ I0.out
  go_enter Tryd.func50, Tryd.ntmps50
  go_upto_region 2 with fail
  have ST := Lib.hid (show EcRel w.heap.size I (.slice bva l.length bvc) (.func (.func 51) #[] #[ga, gb]) l reps (.int .i64 (0 : Nat)) (((w.alloc (.cells #[.slice bva l.length bvc] 23)).alloc (.cells #[.func (.func 51) #[] #[ga, gb]] 85)).alloc (.cells #[.int .i64 0] 3)) from by
    have s1 : (w.alloc (.cells #[.slice bva l.length bvc] 23)).heap.size = w.heap.size + 1 := by simp
    have s2 : ((w.alloc (.cells #[.slice bva l.length bvc] 23)).alloc (.cells #[.func (.func 51) #[] #[ga, gb]] 85)).heap.size = w.heap.size + 2 := by simp
    have b0 := BlkAt.new w [.slice bva l.length bvc] 23
    have b1 := BlkAt.new (w.alloc (.cells #[.slice bva l.length bvc] 23)) [.func (.func 51) #[] #[ga, gb]] 85
    have b2 := BlkAt.new ((w.alloc (.cells #[.slice bva l.length bvc] 23)).alloc (.cells #[.func (.func 51) #[] #[ga, gb]] 85)) [.int .i64 0] 3
    rw [s1] at b1
    rw [s2] at b2
    exact ⟨0, [], 0, Nat.zero_le _, rfl, ⟨EE.out.st1 _ _ _ (EE.out.st1 _ _ _ (EE.out.st1 _ _ _ I0.out (below_alloc _ _)) (below_alloc _ _)) (below_alloc _ _), (b0.alloc _).alloc _, b1.alloc _, b2⟩, HO.out, rfl⟩)
  have xs : ((w.alloc (.cells #[.slice bva l.length bvc] 23)).alloc (.cells #[.func (.func 51) #[] #[ga, gb]] 85)).alloc (.cells #[.int .i64 0] 3) = ((w.alloc (.cells #[.slice bva l.length bvc] 23)).alloc (.cells #[.func (.func 51) #[] #[ga, gb]] 85)).alloc (.cells #[.int .i64 0] 3) := rfl
  clear xs
  generalize ((w.alloc (.cells #[.slice bva l.length bvc] 23)).alloc (.cells #[.func (.func 51) #[] #[ga, gb]] 85)).alloc (.cells #[.int .i64 0] 3) = x1 at *
  obtain ⟨X, hX⟩ : ∃ X, X = w.heap.size := ⟨_, rfl⟩
  rw [← hX] at ST EE DD ⊢
  rw [show X + 1 + 1 = X + 2 from rfl]
  obtain ⟨bv, hbv⟩ : ∃ bv, bv = Value.slice bva l.length bvc := ⟨_, rfl⟩
  rw [← hbv] at ST EE ⊢
  have IS := Lib.hid (show ∃ L, I L x1 from by obtain ⟨_, L, _, _, _, h, _⟩ := ST.out; exact ⟨L, h.i⟩)
  have p0 : x1.cell? ⟨lp, 0, none⟩ = some rv := by obtain ⟨L, h⟩ := IS.out; exact RR.out.ptr _ _ h
  have pl : lp < x1.heap.size := by obtain ⟨L, h⟩ := IS.out; exact RR.out.low _ _ h
  obtain ⟨ra, rc, hrv, _⟩ := (show SlR x1 rv reps from by obtain ⟨L, h⟩ := IS.out; exact RR.out.reps _ _ h)
  rw [hrv] at p0
  have QR := Lib.hid hrv
  have QB := Lib.hid hbv
  clear I0 hX hbv hrv IS HO
  go_wp2_with fail
  go_loopw [9, 10, 11, 18] (fun _ _ _ i wr => EcRel X I bv (.func (.func 51) #[] #[ga, gb]) l reps i wr) (fun _ _ _ i _ => (reps.length - (intOf i).toNat))
  case atStart => exact ST.out
  case round =>
    clear ST p0 pl
    obtain ⟨k, L, a, hk, rfl, hE, hO, hS⟩ := hrel
    have E0 := Lib.hid hE
    have HS := Lib.hid hS
    clear hE hS
    by_cases hlt : k < reps.length
    · have ED := List.drop_eq_getElem_cons hlt
      rw [ED] at hO HS
      have RB := RR.out.reps _ _ E0.out.i
      obtain ⟨r, hr⟩ : ∃ r, r = reps[k] := ⟨_, rfl⟩
      rw [← hr] at hO HS
      have hcl := congrArg List.length HS.out
      have hcl2 := HCP.out
      rw [← hcl] at hcl2
      simp only [symsR, List.length_append, List.length_cons, List.length_nil, lits_len] at hcl2
      clear hcl
      obtain ⟨h1, h2, h3, hro, hrest⟩ := hO
      obtain ⟨q3, q250, qb1, qb2, so1, so2⟩ := hro
      have hg : ∃ g o, ra = some ⟨g, o, none⟩ := by
        obtain ⟨a', c', hv, hh⟩ := RB
        rw [QR.out] at hv
        injection hv with h1 h2 h3
        rcases hh with hnil | ⟨b', off', ha, _⟩
        · rw [hnil] at hlt; exact absurd hlt (Nat.not_lt_zero _)
        · exact ⟨b', off', by rw [h1, ha]⟩
      obtain ⟨g, o, rfl⟩ := hg
      rw [QR.out] at RB
      have RG := Lib.hid (RB.rep (show reps[k]? = some r by rw [hr]; exact List.getElem?_eq_getElem hlt))
      have Z95 := Lib.hid zero95
      have Z84 := Lib.hid zero84
      have l2 := E0.out.a.cells.lt
      clear RB ED hr
      have E5 := Lib.hid (E0.out.step EE.out (newB_below wr 95 [.int .u32 0, .int .u16 0, .int .u8 0] [.int .u32 (r.at' : Int), .int .u16 (r.back : Int), .int .u8 (r.len : Int)]))
      have B9 := Lib.hid (newB_blk wr 95 [.int .u32 0, .int .u16 0, .int .u8 0] [.int .u32 (r.at' : Int), .int .u16 (r.back : Int), .int .u8 (r.len : Int)] rfl)
      have TH := Lib.hid (newB_there wr 95 [.int .u32 0, .int .u16 0, .int .u8 0])
      clear E0
      go_upto_region 6 with (first
        | (guard_target =~ wpList _ _ _ (⟨some _, Op.load 95 _, _, _, _, _⟩ :: _) _ _; go_must (refine wpList_load_mid rfl 95 _ rfl g (o + k * 3) (by rfl) [.int .u32 (r.at' : Int), .int .u16 (r.back : Int), .int .u8 (r.len : Int)] _ RG.out Tryd.underlying95 rfl info95 ?_))
        | (guard_target =~ wpList _ _ _ (⟨some _, Op.alloc 95, _, _, _, _⟩ :: _) _ _; go_must (refine wp_alloc0 rfl 95 rfl _ Z95.out ?_; simp only [Value.cells]))
        | (guard_target =~ wpList _ _ _ (⟨none, Op.store 95 _ _, _, _, _, _⟩ :: _) _ _; go_must (refine wpList_store_mid rfl 95 _ _ rfl wr.heap.size 0 [.int .u32 (r.at' : Int), .int .u16 (r.back : Int), .int .u8 (r.len : Int)].toArray rfl rfl TH.out info95 (by simp [Value.oneCell']) ?_)))
      generalize (wr.alloc (.cells [.int .u32 0, .int .u16 0, .int .u8 0].toArray 95)).setCells wr.heap.size 0 [.int .u32 (r.at' : Int), .int .u16 (r.back : Int), .int .u8 (r.len : Int)] = x5 at *
      obtain ⟨R9, hR9⟩ : ∃ R9, R9 = wr.heap.size := ⟨_, rfl⟩
      rw [← hR9] at B9 l2 ⊢
      clear hR9 TH RG
      have el := EE.out.len
      have rl : r.at' ≤ 16777215 := by omega
      have BC := Lib.hid (bytesTo_51 (pa := X + 2) (pd := X + 1) (pb := X) (n := r.at' - a) EE.out DD.out (by omega) E5.out.i (by omega) E5.out.a E5.out.d E5.out.b (by omega) (by omega) (Nat.le_refl _) (by omega) (by omega))
      rw [show a + (r.at' - a) = r.at' by omega] at BC
      have c0 := B9.out.cells.cell 0 _ rfl
      have m0 := B9.out.cells.lt
      go_wp2_with fail
      refine BC.out.mono ?_
      rintro e x6 ⟨rfl, i6, a6, k6⟩
      have E6 := Lib.hid (E5.out.went i6 k6 a6)
      have B96 := Lib.hid (B9.out.keepU k6 (by decide) (by omega) (by omega))
      clear i6 a6 k6 BC c0 m0 E5 B9
      have T6 := RR.out.tabs _ _ E6.out.i
      have SC := Lib.hid (symbolFor_len T6 r.len (by omega) (by omega))
      have SO := Lib.hid (show sufO (lenS r.len) = sufV (256 + symN lbase r.len 15) (lbits (symN lbase r.len 15)) (r.len - lbase (symN lbase r.len 15)) from rfl)
      have DS := Lib.hid (fun W (h : I (L ++ lits l a (r.at' - a)) W) => DD.out (L ++ lits l a (r.at' - a)) W (lenS r.len) (by simp only [List.length_append, List.length_cons, List.length_nil, lits_len]; omega) h so1)
      rw [SO.out] at DS
      have sle := symN_le lbase r.len 15
      generalize r.len - lbase (symN lbase r.len 15) = rr at *
      generalize lbits (symN lbase r.len 15) = bb at *
      generalize symN lbase r.len 15 = S at *
      obtain ⟨T, hT⟩ : ∃ T, T = 256 + S := ⟨_, rfl⟩
      have eT : (S : Int) + 256 = (T : Int) := by omega
      rw [← hT] at DS
      have QT := Lib.hid hT
      have c6 := B96.out.cells.cell 2 _ rfl
      have m6 := B96.out.cells.lt
      clear T6 SO hT
      go_wp2_with fail
      refine SC.out.mono ?_
      rintro e y6 ⟨rfl, hb⟩
      have F6 := Lib.hid (E6.out.step EE.out hb)
      have B9b6 := Lib.hid (B96.out.below hb)
      have ly6 := hb.size
      clear hb SC c6 E6 B96
      have G6 := Lib.hid (F6.out.step EE.out (newB_below y6 84 [.int .i64 0, .int .i64 0, .int .i64 0] [.int .i64 (S : Int), .int .i64 (bb : Int), .int .i64 (rr : Int)]))
      have H6 := Lib.hid (newB_blk y6 84 [.int .i64 0, .int .i64 0, .int .i64 0] [.int .i64 (S : Int), .int .i64 (bb : Int), .int .i64 (rr : Int)] rfl)
      have B9c6 := Lib.hid (B9b6.out.below (newB_below y6 84 [.int .i64 0, .int .i64 0, .int .i64 0] [.int .i64 (S : Int), .int .i64 (bb : Int), .int .i64 (rr : Int)]))
      have TH := Lib.hid (newB_there y6 84 [.int .i64 0, .int .i64 0, .int .i64 0])
      clear F6 B9b6
      go_upto_region 8 with (first
        | (guard_target =~ wpList _ _ _ (⟨some _, Op.alloc 84, _, _, _, _⟩ :: _) _ _; go_must (refine wp_alloc0 rfl 84 rfl _ Z84.out ?_; simp only [Value.cells]))
        | (guard_target =~ wpList _ _ _ (⟨none, Op.store 84 _ _, _, _, _, _⟩ :: _) _ _; go_must (refine wpList_store_mid rfl 84 _ _ rfl y6.heap.size 0 [.int .i64 (S : Int), .int .i64 (bb : Int), .int .i64 (rr : Int)].toArray rfl rfl TH.out info84 (by simp [Value.oneCell']) ?_)))
      generalize (y6.alloc (.cells [.int .i64 0, .int .i64 0, .int .i64 0].toArray 84)).setCells y6.heap.size 0 [.int .i64 (S : Int), .int .i64 (bb : Int), .int .i64 (rr : Int)] = z6 at *
      obtain ⟨P6, hP⟩ : ∃ P6, P6 = y6.heap.size := ⟨_, rfl⟩
      have lp6 : R9 < P6 := by omega
      rw [← hP] at H6 ⊢
      clear hP TH ly6 m6
      have h0 := H6.out.cells.cell 0 _ rfl
      have g0 := H6.out.cells.free 0
      have hl := H6.out.cells.lt
      go_upto_region 9 with fail
      have J6 := Lib.hid (G6.out.oset EE.out (show X + 2 < P6 by omega) H6.out (by decide) 0 (.int .i64 (T : Int)))
      have K6 := Lib.hid (show BlkAt (z6.setCell ⟨P6, 0, none⟩ (.int .i64 (T : Int))) P6 84 [.int .i64 (T : Int), .int .i64 (bb : Int), .int .i64 (rr : Int)] from H6.out.set 0 (.int .i64 (T : Int)))
      have B9d6 := Lib.hid (B9c6.out.other (show P6 ≠ R9 by omega) 0 (.int .i64 (T : Int)))
      clear h0 g0 hl eT G6 H6 B9c6
      generalize z6.setCell ⟨P6, 0, none⟩ (.int .i64 (T : Int)) = u6 at *
      have d0 := J6.out.d.cells.cell 0 _ rfl
      have RK := Lib.hid K6.out.cells.range
      have dl := J6.out.d.cells.lt
      have DC := Lib.hid (DS.out _ J6.out.i)
      clear DS
      go_wp2_with (guard_target =~ wpList _ _ _ (⟨some _, Op.load 84 _, _, _, _, _⟩ :: _) _ _; go_must (refine wpList_load_mid rfl 84 _ rfl P6 0 rfl [.int .i64 (T : Int), .int .i64 (bb : Int), .int .i64 (rr : Int)] _ RK.out Tryd.underlying84 rfl info84 ?_))
      refine DC.out.mono ?_
      rintro e v6 ⟨rfl, hi, hk⟩
      have EA := Lib.hid (J6.out.said hi hk)
      have B9A := Lib.hid (B9d6.out.keepT hk (by decide) (by omega))
      clear hi hk DC d0 RK dl J6 K6 B9d6 QT sle
      have TA := RR.out.tabs _ _ EA.out.i
      have SC := Lib.hid (symbolFor_dist TA r.back (by omega) (by omega))
      have SO := Lib.hid (show sufO (distS r.back) = sufV (272 + symN dbase r.back 29) (dbits (symN dbase r.back 29)) (r.back - dbase (symN dbase r.back 29)) from rfl)
      have DS := Lib.hid (fun W (h : I (L ++ lits l a (r.at' - a) ++ [lenS r.len]) W) => DD.out (L ++ lits l a (r.at' - a) ++ [lenS r.len]) W (distS r.back) (by simp only [List.length_append, List.length_cons, List.length_nil, lits_len]; omega) h so2)
      rw [SO.out] at DS
      have sle := symN_le dbase r.back 29
      generalize r.back - dbase (symN dbase r.back 29) = rr at *
      generalize dbits (symN dbase r.back 29) = bb at *
      generalize symN dbase r.back 29 = S at *
      obtain ⟨T, hT⟩ : ∃ T, T = 272 + S := ⟨_, rfl⟩
      have eT : (S : Int) + 272 = (T : Int) := by omega
      rw [← hT] at DS
      have QT := Lib.hid hT
      have cA := B9A.out.cells.cell 1 _ rfl
      have mA := B9A.out.cells.lt
      clear TA SO hT
      go_wp2_with fail
      refine SC.out.mono ?_
      rintro e yA ⟨rfl, hb⟩
      have FA := Lib.hid (EA.out.step EE.out hb)
      have B9bA := Lib.hid (B9A.out.below hb)
      have lyA := hb.size
      clear hb SC cA EA B9A
      have GA := Lib.hid (FA.out.step EE.out (newB_below yA 84 [.int .i64 0, .int .i64 0, .int .i64 0] [.int .i64 (S : Int), .int .i64 (bb : Int), .int .i64 (rr : Int)]))
      have HA := Lib.hid (newB_blk yA 84 [.int .i64 0, .int .i64 0, .int .i64 0] [.int .i64 (S : Int), .int .i64 (bb : Int), .int .i64 (rr : Int)] rfl)
      have B9cA := Lib.hid (B9bA.out.below (newB_below yA 84 [.int .i64 0, .int .i64 0, .int .i64 0] [.int .i64 (S : Int), .int .i64 (bb : Int), .int .i64 (rr : Int)]))
      have TH := Lib.hid (newB_there yA 84 [.int .i64 0, .int .i64 0, .int .i64 0])
      clear FA B9bA
      go_upto_region 11 with (first
        | (guard_target =~ wpList _ _ _ (⟨some _, Op.alloc 84, _, _, _, _⟩ :: _) _ _; go_must (refine wp_alloc0 rfl 84 rfl _ Z84.out ?_; simp only [Value.cells]))
        | (guard_target =~ wpList _ _ _ (⟨none, Op.store 84 _ _, _, _, _, _⟩ :: _) _ _; go_must (refine wpList_store_mid rfl 84 _ _ rfl yA.heap.size 0 [.int .i64 (S : Int), .int .i64 (bb : Int), .int .i64 (rr : Int)].toArray rfl rfl TH.out info84 (by simp [Value.oneCell']) ?_)))
      generalize (yA.alloc (.cells [.int .i64 0, .int .i64 0, .int .i64 0].toArray 84)).setCells yA.heap.size 0 [.int .i64 (S : Int), .int .i64 (bb : Int), .int .i64 (rr : Int)] = zA at *
      obtain ⟨PA, hP⟩ : ∃ PA, PA = yA.heap.size := ⟨_, rfl⟩
      have lpA : R9 < PA := by omega
      rw [← hP] at HA ⊢
      clear hP TH lyA mA
      have h0 := HA.out.cells.cell 0 _ rfl
      have g0 := HA.out.cells.free 0
      have hl := HA.out.cells.lt
      go_upto_region 12 with fail
      have JA := Lib.hid (GA.out.oset EE.out (show X + 2 < PA by omega) HA.out (by decide) 0 (.int .i64 (T : Int)))
      have KA := Lib.hid (show BlkAt (zA.setCell ⟨PA, 0, none⟩ (.int .i64 (T : Int))) PA 84 [.int .i64 (T : Int), .int .i64 (bb : Int), .int .i64 (rr : Int)] from HA.out.set 0 (.int .i64 (T : Int)))
      have B9dA := Lib.hid (B9cA.out.other (show PA ≠ R9 by omega) 0 (.int .i64 (T : Int)))
      clear h0 g0 hl eT GA HA B9cA
      generalize zA.setCell ⟨PA, 0, none⟩ (.int .i64 (T : Int)) = uA at *
      have d0 := JA.out.d.cells.cell 0 _ rfl
      have RK := Lib.hid KA.out.cells.range
      have dl := JA.out.d.cells.lt
      have DC := Lib.hid (DS.out _ JA.out.i)
      clear DS
      go_wp2_with (guard_target =~ wpList _ _ _ (⟨some _, Op.load 84 _, _, _, _, _⟩ :: _) _ _; go_must (refine wpList_load_mid rfl 84 _ rfl PA 0 rfl [.int .i64 (T : Int), .int .i64 (bb : Int), .int .i64 (rr : Int)] _ RK.out Tryd.underlying84 rfl info84 ?_))
      refine DC.out.mono ?_
      rintro e vA ⟨rfl, hi, hk⟩
      have EB := Lib.hid (JA.out.said hi hk)
      have B9B := Lib.hid (B9dA.out.keepT hk (by decide) (by omega))
      clear hi hk DC d0 RK dl JA KA B9dA QT sle
      have cz := B9B.out.cells.cell 2 _ rfl
      have mz := B9B.out.cells.lt
      have ca := EB.out.a.cells.cell 0 _ rfl
      have fa := EB.out.a.cells.free 0
      have la := EB.out.a.cells.lt
      have FIN := Lib.hid (show EcRel X I bv (.func (.func 51) #[] #[ga, gb]) l reps (.int .i64 ((k : Int) + 1)) (vA.setCell ⟨X + 2, 0, none⟩ (.int .i64 ((r.at' : Int) + (r.len : Int)))) from by
        have ba := EB.out.a.set 0 (.int .i64 ((r.at' : Int) + (r.len : Int)))
        refine ⟨k + 1, L ++ lits l a (r.at' - a) ++ [lenS r.len] ++ [distS r.back], r.at' + r.len, by omega, by go_num, ⟨EE.out.st2 _ _ _ _ _ _ _ EB.out.i (by omega) EB.out.a (by decide), EB.out.b.other (by omega) _ _, EB.out.d.other (by omega) _ _, ba⟩, hrest, ?_⟩
        have h := HS.out
        rw [← h]
        simp only [symsR, posR, List.append_assoc])
      have ME := Lib.hid (show reps.length - ((k : Int) + 1).toNat < reps.length - (k : Int).toNat by omega)
      clear EB B9B HS hrest
      generalize r.at' = ra' at *
      generalize r.len = rn at *
      go_wp2_with fail
      exact ⟨FIN.out, ME.out⟩
    · obtain rfl : k = reps.length := by omega
      rw [List.drop_length] at hO HS
      have HO2 := Lib.hid (show a ≤ l.length from hO)
      have HS2 := Lib.hid (show L ++ lits l a (l.length - a) = symsR l 0 reps ++ lits l (posR 0 reps) (l.length - posR 0 reps) by have h := HS.out; simpa [symsR, posR] using h)
      have BC := Lib.hid (bytesTo_51 (pa := X + 2) (pd := X + 1) (pb := X) (n := l.length - a) EE.out DD.out (by have := HCP.out; rw [← HS2.out, List.length_append, lits_len] at this; exact this) E0.out.i (by have := HO2.out; omega) E0.out.a E0.out.d (by have := E0.out.b; exact this) (by omega) (by omega) (Nat.le_refl _) (by omega) (by omega))
      rw [show a + (l.length - a) = l.length by have := HO2.out; omega] at BC
      have b0 := E0.out.b.cells.cell 0 _ rfl
      rw [QB.out] at b0
      have lb := E0.out.b.cells.lt
      clear hO HS E0
      go_wp2_with fail
      refine BC.out.mono ?_
      rintro e w9 ⟨rfl, i9, _, _⟩
      have I9 := Lib.hid i9
      clear i9 BC b0 lb
      go_wp2_with fail
      go_end0
      exact ⟨rfl, by rw [← HS2.out]; exact I9.out⟩
set_option maxHeartbeats 800000 in
theorem each_59 {w : World} {lp cap : Nat} {bv rv ga gb gd : Value} {l : List UInt8} {reps : List Rep} {I : List Suf → World → Prop} (E : EachI w.heap.size bv l I) (R : EachR lp rv reps I) (D : DoOk59 w.heap.size cap I ga gb gd) (h : I [] w) (ho : RepsOk l 0 reps) (hrl : reps.length ≤ 16777215) (hcap : (symsR l 0 reps ++ lits l (posR 0 reps) (l.length - posR 0 reps)).length ≤ cap) :
    Calls Tryd.prog 50 #[.pointer (some ⟨lp, 0, none⟩), bv, .func (.func 59) #[] #[ga, gb, gd]] w (fun e w' => e = .returned (.tuple #[]) ∧ I (symsR l 0 reps ++ lits l (posR 0 reps) (l.length - posR 0 reps)) w') := by
  have EE := Lib.hid E
  have RR := Lib.hid R
  have DD := Lib.hid D
  have HO := Lib.hid ho
  have hmf : ∀ (fn : Fn) (first cap : Array Value) (w : World), (Instr.makeFunc fn first cap).run Tryd.prog w = .ok (.func fn first cap) w := fun _ _ _ _ => rfl
  have I0 := Lib.hid h
  have HCP := Lib.hid hcap
  clear E R D ho h hcap
  obtain ⟨bva, bvc, rfl, _, _⟩ := EE.out.hold _ _ I0.out
  go_enter Tryd.func50, Tryd.ntmps50
  go_upto_region 2 with fail
  have ST := Lib.hid (show EcRel w.heap.size I (.slice bva l.length bvc) (.func (.func 59) #[] #[ga, gb, gd]) l reps (.int .i64 (0 : Nat)) (((w.alloc (.cells #[.slice bva l.length bvc] 23)).alloc (.cells #[.func (.func 59) #[] #[ga, gb, gd]] 85)).alloc (.cells #[.int .i64 0] 3)) from by
    have s1 : (w.alloc (.cells #[.slice bva l.length bvc] 23)).heap.size = w.heap.size + 1 := by simp
    have s2 : ((w.alloc (.cells #[.slice bva l.length bvc] 23)).alloc (.cells #[.func (.func 59) #[] #[ga, gb, gd]] 85)).heap.size = w.heap.size + 2 := by simp
    have b0 := BlkAt.new w [.slice bva l.length bvc] 23
    have b1 := BlkAt.new (w.alloc (.cells #[.slice bva l.length bvc] 23)) [.func (.func 59) #[] #[ga, gb, gd]] 85
    have b2 := BlkAt.new ((w.alloc (.cells #[.slice bva l.length bvc] 23)).alloc (.cells #[.func (.func 59) #[] #[ga, gb, gd]] 85)) [.int .i64 0] 3
    rw [s1] at b1
    rw [s2] at b2
    exact ⟨0, [], 0, Nat.zero_le _, rfl, ⟨EE.out.st1 _ _ _ (EE.out.st1 _ _ _ (EE.out.st1 _ _ _ I0.out (below_alloc _ _)) (below_alloc _ _)) (below_alloc _ _), (b0.alloc _).alloc _, b1.alloc _, b2⟩, HO.out, rfl⟩)
  have xs : ((w.alloc (.cells #[.slice bva l.length bvc] 23)).alloc (.cells #[.func (.func 59) #[] #[ga, gb, gd]] 85)).alloc (.cells #[.int .i64 0] 3) = ((w.alloc (.cells #[.slice bva l.length bvc] 23)).alloc (.cells #[.func (.func 59) #[] #[ga, gb, gd]] 85)).alloc (.cells #[.int .i64 0] 3) := rfl
  clear xs
  generalize ((w.alloc (.cells #[.slice bva l.length bvc] 23)).alloc (.cells #[.func (.func 59) #[] #[ga, gb, gd]] 85)).alloc (.cells #[.int .i64 0] 3) = x1 at *
  obtain ⟨X, hX⟩ : ∃ X, X = w.heap.size := ⟨_, rfl⟩
  rw [← hX] at ST EE DD ⊢
  rw [show X + 1 + 1 = X + 2 from rfl]
  obtain ⟨bv, hbv⟩ : ∃ bv, bv = Value.slice bva l.length bvc := ⟨_, rfl⟩
  rw [← hbv] at ST EE ⊢
  have IS := Lib.hid (show ∃ L, I L x1 from by obtain ⟨_, L, _, _, _, h, _⟩ := ST.out; exact ⟨L, h.i⟩)
  have p0 : x1.cell? ⟨lp, 0, none⟩ = some rv := by obtain ⟨L, h⟩ := IS.out; exact RR.out.ptr _ _ h
  have pl : lp < x1.heap.size := by obtain ⟨L, h⟩ := IS.out; exact RR.out.low _ _ h
  obtain ⟨ra, rc, hrv, _⟩ := (show SlR x1 rv reps from by obtain ⟨L, h⟩ := IS.out; exact RR.out.reps _ _ h)
  rw [hrv] at p0
  have QR := Lib.hid hrv
  have QB := Lib.hid hbv
  clear I0 hX hbv hrv IS HO
  go_wp2_with fail
  go_loopw [9, 10, 11, 18] (fun _ _ _ i wr => EcRel X I bv (.func (.func 59) #[] #[ga, gb, gd]) l reps i wr) (fun _ _ _ i _ => (reps.length - (intOf i).toNat))
  case atStart => exact ST.out
  case round =>
    clear ST p0 pl
    obtain ⟨k, L, a, hk, rfl, hE, hO, hS⟩ := hrel
    have E0 := Lib.hid hE
    have HS := Lib.hid hS
    clear hE hS
    by_cases hlt : k < reps.length
    · have ED := List.drop_eq_getElem_cons hlt
      rw [ED] at hO HS
      have RB := RR.out.reps _ _ E0.out.i
      obtain ⟨r, hr⟩ : ∃ r, r = reps[k] := ⟨_, rfl⟩
      rw [← hr] at hO HS
      have hcl := congrArg List.length HS.out
      have hcl2 := HCP.out
      rw [← hcl] at hcl2
      simp only [symsR, List.length_append, List.length_cons, List.length_nil, lits_len] at hcl2
      clear hcl
      obtain ⟨h1, h2, h3, hro, hrest⟩ := hO
      obtain ⟨q3, q250, qb1, qb2, so1, so2⟩ := hro
      have hg : ∃ g o, ra = some ⟨g, o, none⟩ := by
        obtain ⟨a', c', hv, hh⟩ := RB
        rw [QR.out] at hv
        injection hv with h1 h2 h3
        rcases hh with hnil | ⟨b', off', ha, _⟩
        · rw [hnil] at hlt; exact absurd hlt (Nat.not_lt_zero _)
        · exact ⟨b', off', by rw [h1, ha]⟩
      obtain ⟨g, o, rfl⟩ := hg
      rw [QR.out] at RB
      have RG := Lib.hid (RB.rep (show reps[k]? = some r by rw [hr]; exact List.getElem?_eq_getElem hlt))
      have Z95 := Lib.hid zero95
      have Z84 := Lib.hid zero84
      have l2 := E0.out.a.cells.lt
      clear RB ED hr
      have E5 := Lib.hid (E0.out.step EE.out (newB_below wr 95 [.int .u32 0, .int .u16 0, .int .u8 0] [.int .u32 (r.at' : Int), .int .u16 (r.back : Int), .int .u8 (r.len : Int)]))
      have B9 := Lib.hid (newB_blk wr 95 [.int .u32 0, .int .u16 0, .int .u8 0] [.int .u32 (r.at' : Int), .int .u16 (r.back : Int), .int .u8 (r.len : Int)] rfl)
      have TH := Lib.hid (newB_there wr 95 [.int .u32 0, .int .u16 0, .int .u8 0])
      clear E0
      go_upto_region 6 with (first
        | (guard_target =~ wpList _ _ _ (⟨some _, Op.load 95 _, _, _, _, _⟩ :: _) _ _; go_must (refine wpList_load_mid rfl 95 _ rfl g (o + k * 3) (by rfl) [.int .u32 (r.at' : Int), .int .u16 (r.back : Int), .int .u8 (r.len : Int)] _ RG.out Tryd.underlying95 rfl info95 ?_))
        | (guard_target =~ wpList _ _ _ (⟨some _, Op.alloc 95, _, _, _, _⟩ :: _) _ _; go_must (refine wp_alloc0 rfl 95 rfl _ Z95.out ?_; simp only [Value.cells]))
        | (guard_target =~ wpList _ _ _ (⟨none, Op.store 95 _ _, _, _, _, _⟩ :: _) _ _; go_must (refine wpList_store_mid rfl 95 _ _ rfl wr.heap.size 0 [.int .u32 (r.at' : Int), .int .u16 (r.back : Int), .int .u8 (r.len : Int)].toArray rfl rfl TH.out info95 (by simp [Value.oneCell']) ?_)))
      generalize (wr.alloc (.cells [.int .u32 0, .int .u16 0, .int .u8 0].toArray 95)).setCells wr.heap.size 0 [.int .u32 (r.at' : Int), .int .u16 (r.back : Int), .int .u8 (r.len : Int)] = x5 at *
      obtain ⟨R9, hR9⟩ : ∃ R9, R9 = wr.heap.size := ⟨_, rfl⟩
      rw [← hR9] at B9 l2 ⊢
      clear hR9 TH RG
      have el := EE.out.len
      have rl : r.at' ≤ 16777215 := by omega
      have BC := Lib.hid (bytesTo_59 (pa := X + 2) (pd := X + 1) (pb := X) (n := r.at' - a) EE.out DD.out (by omega) E5.out.i (by omega) E5.out.a E5.out.d E5.out.b (by omega) (by omega) (Nat.le_refl _) (by omega) (by omega))
      rw [show a + (r.at' - a) = r.at' by omega] at BC
      have c0 := B9.out.cells.cell 0 _ rfl
      have m0 := B9.out.cells.lt
      go_wp2_with fail
      refine BC.out.mono ?_
      rintro e x6 ⟨rfl, i6, a6, k6⟩
      have E6 := Lib.hid (E5.out.went i6 k6 a6)
      have B96 := Lib.hid (B9.out.keepU k6 (by decide) (by omega) (by omega))
      clear i6 a6 k6 BC c0 m0 E5 B9
      have T6 := RR.out.tabs _ _ E6.out.i
      have SC := Lib.hid (symbolFor_len T6 r.len (by omega) (by omega))
      have SO := Lib.hid (show sufO (lenS r.len) = sufV (256 + symN lbase r.len 15) (lbits (symN lbase r.len 15)) (r.len - lbase (symN lbase r.len 15)) from rfl)
      have DS := Lib.hid (fun W (h : I (L ++ lits l a (r.at' - a)) W) => DD.out (L ++ lits l a (r.at' - a)) W (lenS r.len) (by simp only [List.length_append, List.length_cons, List.length_nil, lits_len]; omega) h so1)
      rw [SO.out] at DS
      have sle := symN_le lbase r.len 15
      generalize r.len - lbase (symN lbase r.len 15) = rr at *
      generalize lbits (symN lbase r.len 15) = bb at *
      generalize symN lbase r.len 15 = S at *
      obtain ⟨T, hT⟩ : ∃ T, T = 256 + S := ⟨_, rfl⟩
      have eT : (S : Int) + 256 = (T : Int) := by omega
      rw [← hT] at DS
      have QT := Lib.hid hT
      have c6 := B96.out.cells.cell 2 _ rfl
      have m6 := B96.out.cells.lt
      clear T6 SO hT
      go_wp2_with fail
      refine SC.out.mono ?_
      rintro e y6 ⟨rfl, hb⟩
      have F6 := Lib.hid (E6.out.step EE.out hb)
      have B9b6 := Lib.hid (B96.out.below hb)
      have ly6 := hb.size
      clear hb SC c6 E6 B96
      have G6 := Lib.hid (F6.out.step EE.out (newB_below y6 84 [.int .i64 0, .int .i64 0, .int .i64 0] [.int .i64 (S : Int), .int .i64 (bb : Int), .int .i64 (rr : Int)]))
      have H6 := Lib.hid (newB_blk y6 84 [.int .i64 0, .int .i64 0, .int .i64 0] [.int .i64 (S : Int), .int .i64 (bb : Int), .int .i64 (rr : Int)] rfl)
      have B9c6 := Lib.hid (B9b6.out.below (newB_below y6 84 [.int .i64 0, .int .i64 0, .int .i64 0] [.int .i64 (S : Int), .int .i64 (bb : Int), .int .i64 (rr : Int)]))
      have TH := Lib.hid (newB_there y6 84 [.int .i64 0, .int .i64 0, .int .i64 0])
      clear F6 B9b6
      go_upto_region 8 with (first
        | (guard_target =~ wpList _ _ _ (⟨some _, Op.alloc 84, _, _, _, _⟩ :: _) _ _; go_must (refine wp_alloc0 rfl 84 rfl _ Z84.out ?_; simp only [Value.cells]))
        | (guard_target =~ wpList _ _ _ (⟨none, Op.store 84 _ _, _, _, _, _⟩ :: _) _ _; go_must (refine wpList_store_mid rfl 84 _ _ rfl y6.heap.size 0 [.int .i64 (S : Int), .int .i64 (bb : Int), .int .i64 (rr : Int)].toArray rfl rfl TH.out info84 (by simp [Value.oneCell']) ?_)))
      generalize (y6.alloc (.cells [.int .i64 0, .int .i64 0, .int .i64 0].toArray 84)).setCells y6.heap.size 0 [.int .i64 (S : Int), .int .i64 (bb : Int), .int .i64 (rr : Int)] = z6 at *
      obtain ⟨P6, hP⟩ : ∃ P6, P6 = y6.heap.size := ⟨_, rfl⟩
      have lp6 : R9 < P6 := by omega
      rw [← hP] at H6 ⊢
      clear hP TH ly6 m6
      have h0 := H6.out.cells.cell 0 _ rfl
      have g0 := H6.out.cells.free 0
      have hl := H6.out.cells.lt
      go_upto_region 9 with fail
      have J6 := Lib.hid (G6.out.oset EE.out (show X + 2 < P6 by omega) H6.out (by decide) 0 (.int .i64 (T : Int)))
      have K6 := Lib.hid (show BlkAt (z6.setCell ⟨P6, 0, none⟩ (.int .i64 (T : Int))) P6 84 [.int .i64 (T : Int), .int .i64 (bb : Int), .int .i64 (rr : Int)] from H6.out.set 0 (.int .i64 (T : Int)))
      have B9d6 := Lib.hid (B9c6.out.other (show P6 ≠ R9 by omega) 0 (.int .i64 (T : Int)))
      clear h0 g0 hl eT G6 H6 B9c6
      generalize z6.setCell ⟨P6, 0, none⟩ (.int .i64 (T : Int)) = u6 at *
      have d0 := J6.out.d.cells.cell 0 _ rfl
      have RK := Lib.hid K6.out.cells.range
      have dl := J6.out.d.cells.lt
      have DC := Lib.hid (DS.out _ J6.out.i)
      clear DS
      go_wp2_with (guard_target =~ wpList _ _ _ (⟨some _, Op.load 84 _, _, _, _, _⟩ :: _) _ _; go_must (refine wpList_load_mid rfl 84 _ rfl P6 0 rfl [.int .i64 (T : Int), .int .i64 (bb : Int), .int .i64 (rr : Int)] _ RK.out Tryd.underlying84 rfl info84 ?_))
      refine DC.out.mono ?_
      rintro e v6 ⟨rfl, hi, hk⟩
      have EA := Lib.hid (J6.out.said hi hk)
      have B9A := Lib.hid (B9d6.out.keepT hk (by decide) (by omega))
      clear hi hk DC d0 RK dl J6 K6 B9d6 QT sle
      have TA := RR.out.tabs _ _ EA.out.i
      have SC := Lib.hid (symbolFor_dist TA r.back (by omega) (by omega))
      have SO := Lib.hid (show sufO (distS r.back) = sufV (272 + symN dbase r.back 29) (dbits (symN dbase r.back 29)) (r.back - dbase (symN dbase r.back 29)) from rfl)
      have DS := Lib.hid (fun W (h : I (L ++ lits l a (r.at' - a) ++ [lenS r.len]) W) => DD.out (L ++ lits l a (r.at' - a) ++ [lenS r.len]) W (distS r.back) (by simp only [List.length_append, List.length_cons, List.length_nil, lits_len]; omega) h so2)
      rw [SO.out] at DS
      have sle := symN_le dbase r.back 29
      generalize r.back - dbase (symN dbase r.back 29) = rr at *
      generalize dbits (symN dbase r.back 29) = bb at *
      generalize symN dbase r.back 29 = S at *
      obtain ⟨T, hT⟩ : ∃ T, T = 272 + S := ⟨_, rfl⟩
      have eT : (S : Int) + 272 = (T : Int) := by omega
      rw [← hT] at DS
      have QT := Lib.hid hT
      have cA := B9A.out.cells.cell 1 _ rfl
      have mA := B9A.out.cells.lt
      clear TA SO hT
      go_wp2_with fail
      refine SC.out.mono ?_
      rintro e yA ⟨rfl, hb⟩
      have FA := Lib.hid (EA.out.step EE.out hb)
      have B9bA := Lib.hid (B9A.out.below hb)
      have lyA := hb.size
      clear hb SC cA EA B9A
      have GA := Lib.hid (FA.out.step EE.out (newB_below yA 84 [.int .i64 0, .int .i64 0, .int .i64 0] [.int .i64 (S : Int), .int .i64 (bb : Int), .int .i64 (rr : Int)]))
      have HA := Lib.hid (newB_blk yA 84 [.int .i64 0, .int .i64 0, .int .i64 0] [.int .i64 (S : Int), .int .i64 (bb : Int), .int .i64 (rr : Int)] rfl)
      have B9cA := Lib.hid (B9bA.out.below (newB_below yA 84 [.int .i64 0, .int .i64 0, .int .i64 0] [.int .i64 (S : Int), .int .i64 (bb : Int), .int .i64 (rr : Int)]))
      have TH := Lib.hid (newB_there yA 84 [.int .i64 0, .int .i64 0, .int .i64 0])
      clear FA B9bA
      go_upto_region 11 with (first
        | (guard_target =~ wpList _ _ _ (⟨some _, Op.alloc 84, _, _, _, _⟩ :: _) _ _; go_must (refine wp_alloc0 rfl 84 rfl _ Z84.out ?_; simp only [Value.cells]))
        | (guard_target =~ wpList _ _ _ (⟨none, Op.store 84 _ _, _, _, _, _⟩ :: _) _ _; go_must (refine wpList_store_mid rfl 84 _ _ rfl yA.heap.size 0 [.int .i64 (S : Int), .int .i64 (bb : Int), .int .i64 (rr : Int)].toArray rfl rfl TH.out info84 (by simp [Value.oneCell']) ?_)))
      generalize (yA.alloc (.cells [.int .i64 0, .int .i64 0, .int .i64 0].toArray 84)).setCells yA.heap.size 0 [.int .i64 (S : Int), .int .i64 (bb : Int), .int .i64 (rr : Int)] = zA at *
      obtain ⟨PA, hP⟩ : ∃ PA, PA = yA.heap.size := ⟨_, rfl⟩
      have lpA : R9 < PA := by omega
      rw [← hP] at HA ⊢
      clear hP TH lyA mA
      have h0 := HA.out.cells.cell 0 _ rfl
      have g0 := HA.out.cells.free 0
      have hl := HA.out.cells.lt
      go_upto_region 12 with fail
      have JA := Lib.hid (GA.out.oset EE.out (show X + 2 < PA by omega) HA.out (by decide) 0 (.int .i64 (T : Int)))
      have KA := Lib.hid (show BlkAt (zA.setCell ⟨PA, 0, none⟩ (.int .i64 (T : Int))) PA 84 [.int .i64 (T : Int), .int .i64 (bb : Int), .int .i64 (rr : Int)] from HA.out.set 0 (.int .i64 (T : Int)))
      have B9dA := Lib.hid (B9cA.out.other (show PA ≠ R9 by omega) 0 (.int .i64 (T : Int)))
      clear h0 g0 hl eT GA HA B9cA
      generalize zA.setCell ⟨PA, 0, none⟩ (.int .i64 (T : Int)) = uA at *
      have d0 := JA.out.d.cells.cell 0 _ rfl
      have RK := Lib.hid KA.out.cells.range
      have dl := JA.out.d.cells.lt
      have DC := Lib.hid (DS.out _ JA.out.i)
      clear DS
      go_wp2_with (guard_target =~ wpList _ _ _ (⟨some _, Op.load 84 _, _, _, _, _⟩ :: _) _ _; go_must (refine wpList_load_mid rfl 84 _ rfl PA 0 rfl [.int .i64 (T : Int), .int .i64 (bb : Int), .int .i64 (rr : Int)] _ RK.out Tryd.underlying84 rfl info84 ?_))
      refine DC.out.mono ?_
      rintro e vA ⟨rfl, hi, hk⟩
      have EB := Lib.hid (JA.out.said hi hk)
      have B9B := Lib.hid (B9dA.out.keepT hk (by decide) (by omega))
      clear hi hk DC d0 RK dl JA KA B9dA QT sle
      have cz := B9B.out.cells.cell 2 _ rfl
      have mz := B9B.out.cells.lt
      have ca := EB.out.a.cells.cell 0 _ rfl
      have fa := EB.out.a.cells.free 0
      have la := EB.out.a.cells.lt
      have FIN := Lib.hid (show EcRel X I bv (.func (.func 59) #[] #[ga, gb, gd]) l reps (.int .i64 ((k : Int) + 1)) (vA.setCell ⟨X + 2, 0, none⟩ (.int .i64 ((r.at' : Int) + (r.len : Int)))) from by
        have ba := EB.out.a.set 0 (.int .i64 ((r.at' : Int) + (r.len : Int)))
        refine ⟨k + 1, L ++ lits l a (r.at' - a) ++ [lenS r.len] ++ [distS r.back], r.at' + r.len, by omega, by go_num, ⟨EE.out.st2 _ _ _ _ _ _ _ EB.out.i (by omega) EB.out.a (by decide), EB.out.b.other (by omega) _ _, EB.out.d.other (by omega) _ _, ba⟩, hrest, ?_⟩
        have h := HS.out
        rw [← h]
        simp only [symsR, posR, List.append_assoc])
      have ME := Lib.hid (show reps.length - ((k : Int) + 1).toNat < reps.length - (k : Int).toNat by omega)
      clear EB B9B HS hrest
      generalize r.at' = ra' at *
      generalize r.len = rn at *
      go_wp2_with fail
      exact ⟨FIN.out, ME.out⟩
    · obtain rfl : k = reps.length := by omega
      rw [List.drop_length] at hO HS
      have HO2 := Lib.hid (show a ≤ l.length from hO)
      have HS2 := Lib.hid (show L ++ lits l a (l.length - a) = symsR l 0 reps ++ lits l (posR 0 reps) (l.length - posR 0 reps) by have h := HS.out; simpa [symsR, posR] using h)
      have BC := Lib.hid (bytesTo_59 (pa := X + 2) (pd := X + 1) (pb := X) (n := l.length - a) EE.out DD.out (by have := HCP.out; rw [← HS2.out, List.length_append, lits_len] at this; exact this) E0.out.i (by have := HO2.out; omega) E0.out.a E0.out.d (by have := E0.out.b; exact this) (by omega) (by omega) (Nat.le_refl _) (by omega) (by omega))
      rw [show a + (l.length - a) = l.length by have := HO2.out; omega] at BC
      have b0 := E0.out.b.cells.cell 0 _ rfl
      rw [QB.out] at b0
      have lb := E0.out.b.cells.lt
      clear hO HS E0
      go_wp2_with fail
      refine BC.out.mono ?_
      rintro e w9 ⟨rfl, i9, _, _⟩
      have I9 := Lib.hid i9
      clear i9 BC b0 lb
      go_wp2_with fail
      go_end0
      exact ⟨rfl, by rw [← HS2.out]; exact I9.out⟩
end Go.Proofs.YtfbeipfpkikakaaDoor
