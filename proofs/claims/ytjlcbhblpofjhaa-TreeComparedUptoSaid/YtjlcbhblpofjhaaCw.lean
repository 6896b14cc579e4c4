/- TreeCompared: its walk. -/
import Derived.Test.YtjlcbhblpofjhaaCp
namespace Go.Proofs.Ytjlcbhblpofjhaa
open Go.RowKit
set_option maxRecDepth 100000
theorem lenN_le (ls : List (List It)) (i : Nat) (hi : i ≤ ls.length) : lenN ls i ≤ lenN ls ls.length := by
  unfold lenN
  generalize ls.length = m at hi
  induction m with
  | zero => obtain rfl : i = 0 := by omega
            exact Nat.le_refl _
  | succ m ih =>
    by_cases e : i = m + 1
    · subst e; exact Nat.le_refl _
    · have := ih (by omega)
      show _ ≤ tot _ m + _
      omega
theorem dgf_le : ∀ (f n : Nat), dgf f n ≤ f
  | 0, _ => Nat.le_refl _
  | f + 1, n => by
    unfold dgf
    split
    · omega
    · have := dgf_le f (n / 2); omega
def CompIn (w : World) (k : Nat) (rb gb : Nat → Nat) (G : Geo) (n b : Nat) (iv : Value) (wr : World) : Prop :=
  ∃ (j : Nat) (T : TS OS) (r : Nat), iv = .int .i64 ((j : Int) + 1) ∧ j ≤ n ∧ CompAt w k rb gb G T r wr ∧ r + j = n ∧ ((T.played = false ∧ T.cmpd = 0) ∨ (T.played = true ∧ T.cmpd + b ≤ (k - 1) + j * b))
theorem CompAt.below {w wr wx : World} {k : Nat} {rb gb : Nat → Nat} {G : Geo} {T : TS OS} {r : Nat} (h : CompAt w k rb gb G T r wr) (b : Below wr.heap.size wr wx) : CompAt w k rb gb G T r wx :=
  ⟨h.tree.below (by rw [h.gk]; exact EC_ok k rb gb _) b, h.iv, h.rem, h.cc, h.big, h.gk, h.bel.trans (b.mono h.bel.size)⟩
theorem CompAt.cell {w wr : World} {k : Nat} {rb gb : Nat → Nat} {G : Geo} {T : TS OS} {r : Nat} (h : CompAt w k rb gb G T r wr) (hb : T.cmpd ≤ 1099511627776) : wr.cell? ⟨w.heap.size, 0, none⟩ = some (.int .i64 (T.cmpd : Int)) := by
  have c := h.tree.env.2.2.1.cell 0 _ rfl
  rw [← h.cc] at c
  rw [c]
  have e : wrap64 (T.cmpd : Int) = (T.cmpd : Int) := by unfold wrap64; omega
  rw [e]
theorem CompAt.lt {w wr : World} {k : Nat} {rb gb : Nat → Nat} {G : Geo} {T : TS OS} {r : Nat} (h : CompAt w k rb gb G T r wr) : w.heap.size < wr.heap.size := h.tree.env.2.2.1.lt
set_option maxHeartbeats 8000000 in
theorem compared_law {w : World} {a : Option Addr} {c : Nat} {ls : List (List It)} (h : LsAt w (.slice a ls.length c) ls) (hk : 0 < ls.length) (h64 : ls.length ≤ 64) (hn : lenN ls ls.length ≤ 1048576) : Calls Try.prog 3 #[.slice a ls.length c] w (RetTrue w) := by
  have hmf : ∀ (fn : Fn) (first cap : Array Value) (w : World), (Instr.makeFunc fn first cap).run Try.prog w = .ok (.func fn first cap) w := fun _ _ _ _ => rfl
  have HL := Lib.hid h
  obtain ⟨k, hkl⟩ : ∃ k, k = ls.length := ⟨_, rfl⟩
  have HK := Lib.hid hkl
  rw [← hkl] at hk h64 hn ⊢
  clear hkl h
  have t1 : decide ((64 : Int) < (k : Int)) = false := decide_eq_false (by omega)
  have t1n : decide (64 < k) = false := decide_eq_false (by omega)
  have W1 := Lib.hid (show SrcsR w ls (.slice none 0 0) (.int .i64 0) (.int .i64 0) (w.alloc (.cells #[.int .i64 0] 3)) from
    ⟨0, fun _ => 0, fun _ => 0, rfl, rfl, Nat.zero_le _, ⟨World.ownsRow_nil _ _ _ _, ⟨fun i hi => absurd hi (by omega), fun i hi => absurd hi (by omega), fun i j hi => absurd hi (by omega)⟩, CellsAt.new w [.int .i64 0] 3, ⟨_, 3, by decide, heap_new w _⟩, fun b ⟨i, hi, _⟩ => absurd hi (by omega), below_alloc w _, fun _ => rfl⟩⟩)
  have HN := Lib.hid hn
  have H64 := Lib.hid h64
  have H0 := Lib.hid hk
  clear hn h64 hk
  go_enter Try.func3, Try.ntmps3
  go_wp2_with fail
  go_loopw [4, 5, 6] (fun sv nv iv wr => SrcsR w ls sv nv iv wr) (fun _ _ iv _ => k - (intOf iv).toNat)
  case atStart => exact W1.out
  case round =>
    clear W1
    obtain ⟨i, rb, gb, rfl, rfl, hi, hS⟩ := hrel
    have HS := Lib.hid hS
    have HI := Lib.hid hi
    clear hS hi
    by_cases hlt : i < k
    · have t2 : decide ((i : Int) < (k : Int)) = true := decide_eq_true (by omega)
      have t2n : decide (i < k) = true := decide_eq_true hlt
      have i1 : (i : Int) < (k : Int) := by omega
      have i2 : (0 : Int) ≤ (i : Int) := by omega
      have i3 : (i : Int) < 64 := by have := H64.out; omega
      have HLT := Lib.hid hlt
      obtain ⟨vi, lb, off, la, lc, rfl, rfl, lbw, cvw, ITS⟩ : ∃ vi lb off la lc, a = some ⟨lb, off, none⟩ ∧ vi = Value.slice la (ls.getD i []).length lc ∧ lb < w.heap.size ∧ w.cell? ⟨lb, off + i, none⟩ = some vi ∧ Hid (ItsAt w vi (ls.getD i [])) := by
        have hL := HL.out
        have hil : i < ls.length := by have := HK.out; omega
        obtain ⟨a', c', hv, hnone⟩ := hL.form
        injection hv with e1 e2 e3
        subst e1
        cases ha : a with
        | none => rw [ha] at hnone; have := (hnone rfl).2; rw [this] at hil; simp at hil
        | some ad =>
          subst ha
          have pl := hL.plain ad _ _ (fun e => by rw [e] at hil; simp at hil) rfl
          obtain ⟨b, off, sp⟩ := ad
          have pl' : sp = none := pl
          subst pl'
          obtain ⟨hb, vi, h1, h2⟩ := hL.cell b off _ _ rfl i hil
          obtain ⟨a2, c2, hv2, _⟩ := h2.form
          have eg : ls.getD i [] = ls[i] := by rw [List.getD_eq_getElem?_getD, List.getElem?_eq_getElem hil]; rfl
          exact ⟨vi, b, off, a2, c2, rfl, by rw [eg]; exact hv2, hb, h1, by rw [eg]; exact h2⟩
      have LI := Lib.hid (show lenN ls (i + 1) = lenN ls i + (ls.getD i []).length from rfl)
      have LE := Lib.hid (show lenN ls (i + 1) ≤ 1048576 by have q := lenN_le ls (i + 1) (by have := HK.out; omega); rw [← HK.out] at q; have := HN.out; omega)
      have lbl : lb < wr.heap.size := Nat.lt_of_lt_of_le lbw HS.out.bel.size
      have cvi := (HS.out.bel.cell (p := ⟨lb, off + i, none⟩) lbw).trans cvw
      have LBW := Lib.hid lbw
      have CVW := Lib.hid cvw
      clear lbw cvw
      have OFK := Lib.hid (of_ok (ITS.out.below HS.out.bel) (by have := LI.out; have := LE.out; omega))
      generalize hli : (ls.getD i []).length = li at *
      clear hli
      have l1 : (lenN ls i : Int) ≤ 1048576 := by have := LI.out; have := LE.out; omega
      have l2 : (0 : Int) ≤ (lenN ls i : Int) := by omega
      have l3 : (li : Int) ≤ 1048576 := by have := LI.out; have := LE.out; omega
      have l4 : (0 : Int) ≤ (li : Int) := by omega
      clear hlt
      go_wp2_with fail
      refine OFK.out.mono ?_
      rintro e w2 ⟨r, g, rfl, hr, r1, g1, gl, rn, gn, hb⟩
      have AL := Lib.hid (below_alloc w2 (.cells #[.func (.func 36) #[] #[.pointer (some ⟨r, 0, none⟩)]] 25))
      have B2 := Lib.hid (hb.trans (AL.out.mono hb.size))
      have HR2 := Lib.hid (hr.same AL.out.size (AL.out.block _ hr.lt) (fun _ => AL.out.block _ gl))
      have GL2 := Lib.hid (Nat.lt_of_lt_of_le gl AL.out.size)
      have RN2 := Lib.hid (rn.below AL.out)
      have GN2 := Lib.hid (gn.below AL.out)
      have R1 := Lib.hid r1
      have G1 := Lib.hid g1
      have S2 := Lib.hid (HS.out.below B2.out)
      have C2 := Lib.hid (show (w2.alloc (.cells #[.func (.func 36) #[] #[.pointer (some ⟨r, 0, none⟩)]] 25)).cell? ⟨w2.heap.size, 0, none⟩ = some (.func (.func 36) #[] #[.pointer (some ⟨r, 0, none⟩)]) from (CellsAt.new w2 [.func (.func 36) #[] #[.pointer (some ⟨r, 0, none⟩)]] 25).cell 0 _ rfl)
      clear hr r1 g1 gl rn gn hb OFK lbl cvi AL
      go_wp2_with (at_builtin; refine wp_appS rfl _ _ rfl w.heap.size _ i _ rfl S2.out.row S2.out.bel.size (.func (.func 36) #[] #[.pointer (some ⟨r, 0, none⟩)]) w2.heap.size rfl rfl C2.out (by have := HLT.out; have := H64.out; omega) ?_; intro sv' w4 h41 h42 h43 h44; have cv4 := ((S2.out.bel.trans h42).cell (p := ⟨lb, off + i, none⟩) LBW.out).trans CVW.out; have ll4 := Nat.lt_of_lt_of_le LBW.out (S2.out.bel.trans h42).size)
      have FIN := Lib.hid (show SrcsR w ls sv' (.int .i64 ((lenN ls i : Int) + (li : Int))) (.int .i64 ((i : Int) + 1)) w4 from
        ⟨i + 1, upN rb i r, upN gb i g, by rw [LI.out]; congr 1, by congr 1, by have := HK.out; have := HLT.out; omega, HS.out.more B2.out HR2.out R1.out G1.out GL2.out RN2.out GN2.out h41 h42 h43⟩)
      exact ⟨FIN.out, by have := HLT.out; show k - ((i : Int) + 1).toNat < k - (i : Int).toNat; omega⟩
    · have ik : i = k := by have := HI.out; have := HK.out; omega
      subst ik
      have t2 : decide ((i : Int) < (i : Int)) = false := decide_eq_false (by omega)
      have t2n : decide (i < i) = false := decide_eq_false (by omega)
      have hEC : (EC i rb gb w.heap.size).S wr (YC i rb gb w.heap.size) (osOf ls) := ⟨rfl, HS.out.box, (show CellsAt wr w.heap.size [.int .i64 (wrap64 ((0 : Nat) : Int))] from by rw [show wrap64 ((0 : Nat) : Int) = 0 by unfold wrap64; rfl]; exact HS.out.cnt), fun j hj => ⟨by have := (HS.out.nt (rb j) ⟨j, hj, Or.inl rfl⟩).2; omega, by have := (HS.out.nt (gb j) ⟨j, hj, Or.inr rfl⟩).2; omega⟩⟩
      have NEW := Lib.hid (new_ok (EC_ok i rb gb w.heap.size) hEC (src_row (sF := fun _ => 36) (sC := fun j => #[.pointer (some ⟨rb j, 0, none⟩)]) HS.out.row) H0.out H64.out)
      clear hEC
      go_wp2_with fail
      refine NEW.out.mono ?_
      rintro e w5 ⟨G, hG, rfl, g1, g2, g3, hT, hB⟩
      have TT := Lib.hid hT
      have BB := Lib.hid (HS.out.bel.trans (hB.mono HS.out.bel.size))
      have CA := Lib.hid (show CompAt w i rb gb G (T0 i (osOf ls)) (lenN ls i) w5 from ⟨hT, Iv.new _, by
        unfold rem lenN
        refine tot_congr i fun j _ => ?_
        show 0 + _ = _
        rw [Nat.zero_add]; rfl, rfl, fun b hb => by
        have zs := HS.out.bel.size
        rcases hb with (e | e | e) | e | e
        · rw [e]; omega
        · rw [e]; omega
        · rw [e]; omega
        · have := (HS.out.nt b e).2; omega
        · rw [e]; omega, hG, BB.out⟩)
      clear hT hB g1 g2 g3 hG NEW TT BB
      have HNI := Lib.hid (show lenN ls i ≤ 1048576 from HN.out)
      generalize lenN ls i = n at *
      have n1 : (n : Int) ≤ 1048576 := by have := HNI.out; omega
      have n2 : (0 : Int) ≤ (n : Int) := by omega
      have D := Lib.hid (fun W : World => digits_ok (i - 1) (by have := H64.out; omega) W)
      rw [show ((i - 1 : Nat) : Int) = (i : Int) - 1 by have := H0.out; omega] at D
      have DB := Lib.hid (show dgf 7 (i - 1) ≤ 7 from dgf_le 7 _)
      have D1 := Lib.hid (show i = 1 → dgf 7 (i - 1) = 0 by intro h; subst h; rfl)
      have CA0 := Lib.hid (show CompIn w i rb gb G n (dgf 7 (i - 1)) (.int .i64 1) w5 from ⟨0, _, n, rfl, Nat.zero_le _, CA.out, by omega, Or.inl ⟨rfl, rfl⟩⟩)
      obtain ⟨b, hb⟩ : ∃ b, b = dgf 7 (i - 1) := ⟨_, rfl⟩
      have BD := Lib.hid hb
      rw [← hb] at D DB D1 CA0
      clear hb
      clear CA t2 t2n hlt
      have i3 : (i : Int) ≤ 64 := by have := H64.out; omega
      have i4 : (0 : Int) ≤ (i : Int) := by omega
      by_cases h1 : 1 < i
      · have t3 : decide ((1 : Int) < (i : Int)) = true := decide_eq_true (by omega)
        have t3n : decide (1 < i) = true := decide_eq_true h1
        clear h1
        go_wp2_with (first | (go_at_call 15; refine (num_ok _ _).mono ?_; rintro e w' ⟨rfl, rfl⟩) | (go_at_call 16; refine (D.out _).mono ?_; rintro e w' ⟨rfl, rfl⟩))
        go_loopw [10] (fun iv wr => CompIn w i rb gb G n b iv wr) (fun iv _ => n + 2 - (intOf iv).toNat)
        case atStart => exact CA0.out
        case round =>
          clear CA0
          obtain ⟨j, T, r, rfl, hj, hC, hrj, hB⟩ := hrel
          have HC := Lib.hid hC
          have HJ := Lib.hid hj
          have HR := Lib.hid hrj
          have HB := Lib.hid hB
          have HJB := Lib.hid (show j * b ≤ 8388608 from Nat.le_trans (Nat.mul_le_mul (show j ≤ 1048576 by have := HNI.out; omega) DB.out) (by omega))
          have NX := Lib.hid (comp_next HC.out (by have := HB.out; have := HJB.out; have := H64.out; omega))
          have j1 : (j : Int) ≤ 1048576 := by have := HNI.out; omega
          have j2 : (0 : Int) ≤ (j : Int) := by omega
          by_cases hlt : j < n
          · have t4 : decide ((j : Int) + 1 ≤ (n : Int)) = true := decide_eq_true (by omega)
            have HLT := Lib.hid hlt
            clear hC hj hrj hB hlt
            go_wp2_with fail
            refine NX.out.mono ?_
            rintro e w6 ⟨xk, xw, sr, is, T', r', rfl, hC', hcm, hpl, hor⟩
            have his : is = true ∧ r = r' + 1 := by
              have := HR.out; have := HLT.out
              rcases hor with ⟨q1, q2⟩ | ⟨q1, q2⟩
              · exact ⟨q2, q1⟩
              · omega
            obtain ⟨rfl, hrr⟩ := his
            have HRR := Lib.hid hrr
            have HC6 := Lib.hid hC'
            have NB := Lib.hid (show T'.cmpd + b ≤ (i - 1) + (j + 1) * b by
              rw [Nat.add_mul, Nat.one_mul]
              have := H0.out
              rcases HB.out with ⟨q1, q2⟩ | ⟨q1, q2⟩
              · rw [q1, if_neg (by decide)] at hcm; have := HJB.out; omega
              · rw [q1, if_pos rfl] at hcm; rw [← BD.out] at hcm; omega)
            have PL := Lib.hid hpl
            clear hC' hcm hpl hor hrr NX
            have AL := Lib.hid (below_alloc w6 (.cells #[.int .i64 xk, .int .i64 xw] 28))
            have C7 := Lib.hid (show CompAt w i rb gb G T' r' (w6.alloc (.cells #[.int .i64 xk, .int .i64 xw] 28)) from HC6.out.below AL.out)
            go_upto_region 21 with fail
            generalize w6.alloc (.cells #[.int .i64 xk, .int .i64 xw] 28) = x7 at C7 ⊢
            obtain ⟨P, hP⟩ : ∃ P, P = (j + 1) * b := ⟨_, rfl⟩
            rw [← hP] at NB
            have HP := Lib.hid hP
            have PB := Lib.hid (show P ≤ 8388608 + 7 by rw [hP, Nat.add_mul, Nat.one_mul]; have := HJB.out; have := DB.out; omega)
            have hx : ((j : Int) + 1) * (b : Int) = (P : Int) := by rw [hP]; push_cast; rfl
            have p1 : IntKind.i64.wrap (((j : Int) + 1) * (b : Int)) = (P : Int) := by
              rw [hx]
              exact IntWalk.i64_in _ (by have := PB.out; omega)
            have p2 : IntKind.i64.wrap ((i : Int) + (P : Int)) = (i : Int) + (P : Int) := IntWalk.i64_in _ (by have := PB.out; omega)
            have c64 := H64.out
            have cpb := PB.out
            have cnb := NB.out
            have cb := C7.out.cell (by omega)
            have t5 : decide ((i : Int) + (P : Int) < (T'.cmpd : Int)) = false := decide_eq_false (by have := H0.out; omega)
            have t5n : decide (i + P < T'.cmpd) = false := decide_eq_false (by have := H0.out; omega)
            have lc := C7.out.lt
            have CMP := Lib.hid (show ∀ q : Nat, Calls Try.prog 18 #[.pointer (some ⟨G.t, 0, none⟩)] (x7.drewN q) (fun e w' => e = .returned (.int .i64 (T'.cmpd : Int)) ∧ w' = x7.drewN q) from fun q => (compared_live (C7.out.below (below_drewN x7 q)).tree).mono fun _ _ ⟨h1, h2⟩ => ⟨h1, h2.symm⟩)
            have FIN := Lib.hid (fun wx (bx : Below x7.heap.size x7 wx) => (show CompIn w i rb gb G n b (.int .i64 ((j : Int) + 1 + 1)) wx from ⟨j + 1, T', r', by congr 1, by have := HLT.out; omega, C7.out.below bx, by have := HR.out; have := HRR.out; omega, Or.inr ⟨PL.out, by rw [← HP.out]; exact NB.out⟩⟩))
            generalize T'.cmpd = cm at *
            clear hP hx c64 cpb cnb
            go_quiet ((go_at_call 18; exact Calls.quiet_of_same (CMP.out _)))
            go_wp2_with fail
            exact ⟨FIN.out _ (below_drewN _ _), by have := HLT.out; simp [intOf]; omega⟩
          · have jn : j = n := by omega
            have t4 : decide ((j : Int) + 1 ≤ (n : Int)) = false := decide_eq_false (by omega)
            have JN := Lib.hid jn
            clear hC hj hrj hB hlt jn
            go_wp2_with fail
            refine NX.out.mono ?_
            rintro e w6 ⟨xk, xw, sr, is, T', r', rfl, hC', hcm, hpl, hor⟩
            have his : is = false := by
              have := HR.out; have := JN.out
              rcases hor with ⟨q1, q2⟩ | ⟨q1, q2⟩
              · omega
              · exact q2
            subst his
            have HC6 := Lib.hid hC'
            have NB := Lib.hid (show T'.cmpd + b ≤ (i - 1) + (n + 1) * b by
              rw [← JN.out, Nat.add_mul, Nat.one_mul]
              have := H0.out
              rcases HB.out with ⟨q1, q2⟩ | ⟨q1, q2⟩
              · rw [q1, if_neg (by decide)] at hcm; have := HJB.out; omega
              · rw [q1, if_pos rfl] at hcm; rw [← BD.out] at hcm; omega)
            clear hC' hcm hpl hor NX
            have AL := Lib.hid (below_alloc w6 (.cells #[.int .i64 xk, .int .i64 xw] 28))
            have C7 := Lib.hid (show CompAt w i rb gb G T' r' (w6.alloc (.cells #[.int .i64 xk, .int .i64 xw] 28)) from HC6.out.below AL.out)
            go_upto_region 24 with fail
            generalize w6.alloc (.cells #[.int .i64 xk, .int .i64 xw] 28) = x7 at C7 ⊢
            obtain ⟨P, hP⟩ : ∃ P, P = (n + 1) * b := ⟨_, rfl⟩
            rw [← hP] at NB
            have PB := Lib.hid (show P ≤ 8388608 + 7 by rw [hP, ← JN.out, Nat.add_mul, Nat.one_mul]; have := HJB.out; have := DB.out; omega)
            have hx : ((n : Int) + 1) * (b : Int) = (P : Int) := by rw [hP]; push_cast; rfl
            have p1 : IntKind.i64.wrap (((n : Int) + 1) * (b : Int)) = (P : Int) := by
              rw [hx]
              exact IntWalk.i64_in _ (by have := PB.out; omega)
            have p2 : IntKind.i64.wrap ((i : Int) + (P : Int)) = (i : Int) + (P : Int) := IntWalk.i64_in _ (by have := PB.out; omega)
            have p3 : IntKind.i64.wrap ((n : Int) + 1) = (n : Int) + 1 := IntWalk.i64_in _ (by omega)
            have c64 := H64.out
            have cpb := PB.out
            have cnb := NB.out
            have cb := C7.out.cell (by omega)
            have t5 : decide ((T'.cmpd : Int) ≤ (i : Int) + (P : Int)) = true := decide_eq_true (by have := H0.out; omega)
            have t5n : decide (T'.cmpd ≤ i + P) = true := decide_eq_true (by have := H0.out; omega)
            have lc := C7.out.lt
            have CMP := Lib.hid (show ∀ q : Nat, Calls Try.prog 18 #[.pointer (some ⟨G.t, 0, none⟩)] (x7.drewN q) (fun e w' => e = .returned (.int .i64 (T'.cmpd : Int)) ∧ w' = x7.drewN q) from fun q => (compared_live (C7.out.below (below_drewN x7 q)).tree).mono fun _ _ ⟨h1, h2⟩ => ⟨h1, h2.symm⟩)
            have FIN := Lib.hid C7.out.bel
            generalize T'.cmpd = cm at *
            clear hP hx c64 cpb cnb
            go_quiet ((go_at_call 18; exact Calls.quiet_of_same (CMP.out _)))
            go_wp2_with fail
            go_ret
            exact ⟨rfl, FIN.out.trans ((below_drewN _ _).mono FIN.out.size)⟩
      · have I1 := Lib.hid (show i = 1 by have := H0.out; omega)
        have B0 := Lib.hid (D1.out I1.out)
        have t3 : decide ((1 : Int) < (i : Int)) = false := decide_eq_false (by omega)
        have t3n : decide (1 < i) = false := decide_eq_false h1
        clear h1
        go_wp2_with (first | (go_at_call 15; refine (num_ok _ _).mono ?_; rintro e w' ⟨rfl, rfl⟩) | (go_at_call 16; refine (D.out _).mono ?_; rintro e w' ⟨rfl, rfl⟩))
        go_loopw [10] (fun iv wr => CompIn w i rb gb G n b iv wr) (fun iv _ => n + 2 - (intOf iv).toNat)
        case atStart => exact CA0.out
        case round =>
          clear CA0
          obtain ⟨j, T, r, rfl, hj, hC, hrj, hB⟩ := hrel
          have HC := Lib.hid hC
          have HJ := Lib.hid hj
          have HR := Lib.hid hrj
          have HB := Lib.hid hB
          have HJB := Lib.hid (show j * b ≤ 8388608 from Nat.le_trans (Nat.mul_le_mul (show j ≤ 1048576 by have := HNI.out; omega) DB.out) (by omega))
          have NX := Lib.hid (comp_next HC.out (by have := HB.out; have := HJB.out; have := H64.out; omega))
          have j1 : (j : Int) ≤ 1048576 := by have := HNI.out; omega
          have j2 : (0 : Int) ≤ (j : Int) := by omega
          by_cases hlt : j < n
          · have t4 : decide ((j : Int) + 1 ≤ (n : Int)) = true := decide_eq_true (by omega)
            have HLT := Lib.hid hlt
            clear hC hj hrj hB hlt
            go_wp2_with fail
            refine NX.out.mono ?_
            rintro e w6 ⟨xk, xw, sr, is, T', r', rfl, hC', hcm, hpl, hor⟩
            have his : is = true ∧ r = r' + 1 := by
              have := HR.out; have := HLT.out
              rcases hor with ⟨q1, q2⟩ | ⟨q1, q2⟩
              · exact ⟨q2, q1⟩
              · omega
            obtain ⟨rfl, hrr⟩ := his
            have HRR := Lib.hid hrr
            have HC6 := Lib.hid hC'
            have NB := Lib.hid (show T'.cmpd + b ≤ (i - 1) + (j + 1) * b by
              rw [Nat.add_mul, Nat.one_mul]
              have := H0.out
              rcases HB.out with ⟨q1, q2⟩ | ⟨q1, q2⟩
              · rw [q1, if_neg (by decide)] at hcm; have := HJB.out; omega
              · rw [q1, if_pos rfl] at hcm; rw [← BD.out] at hcm; omega)
            have PL := Lib.hid hpl
            clear hC' hcm hpl hor hrr NX
            have AL := Lib.hid (below_alloc w6 (.cells #[.int .i64 xk, .int .i64 xw] 28))
            have C7 := Lib.hid (show CompAt w i rb gb G T' r' (w6.alloc (.cells #[.int .i64 xk, .int .i64 xw] 28)) from HC6.out.below AL.out)
            go_upto_region 21 with fail
            generalize w6.alloc (.cells #[.int .i64 xk, .int .i64 xw] 28) = x7 at C7 ⊢
            obtain ⟨P, hP⟩ : ∃ P, P = (j + 1) * b := ⟨_, rfl⟩
            rw [← hP] at NB
            have HP := Lib.hid hP
            have PB := Lib.hid (show P ≤ 8388608 + 7 by rw [hP, Nat.add_mul, Nat.one_mul]; have := HJB.out; have := DB.out; omega)
            have hx : ((j : Int) + 1) * 0 = (P : Int) := by rw [hP, B0.out]; simp
            have p1 : IntKind.i64.wrap (((j : Int) + 1) * 0) = (P : Int) := by
              rw [hx]
              exact IntWalk.i64_in _ (by have := PB.out; omega)
            have p2 : IntKind.i64.wrap ((i : Int) + (P : Int)) = (i : Int) + (P : Int) := IntWalk.i64_in _ (by have := PB.out; omega)
            have c64 := H64.out
            have cpb := PB.out
            have cnb := NB.out
            have cb := C7.out.cell (by omega)
            have p0 : P = 0 := by have e : (P : Int) = 0 := (by rw [← hx]; simp); omega
            have t6 : decide ((i : Int) < (T'.cmpd : Int)) = false := decide_eq_false (by have := H0.out; omega)
            have t6n : decide (i < T'.cmpd) = false := decide_eq_false (by have := H0.out; omega)
            clear p0
            have t5 : decide ((i : Int) + (P : Int) < (T'.cmpd : Int)) = false := decide_eq_false (by have := H0.out; omega)
            have t5n : decide (i + P < T'.cmpd) = false := decide_eq_false (by have := H0.out; omega)
            have lc := C7.out.lt
            have CMP := Lib.hid (show ∀ q : Nat, Calls Try.prog 18 #[.pointer (some ⟨G.t, 0, none⟩)] (x7.drewN q) (fun e w' => e = .returned (.int .i64 (T'.cmpd : Int)) ∧ w' = x7.drewN q) from fun q => (compared_live (C7.out.below (below_drewN x7 q)).tree).mono fun _ _ ⟨h1, h2⟩ => ⟨h1, h2.symm⟩)
            have FIN := Lib.hid (fun wx (bx : Below x7.heap.size x7 wx) => (show CompIn w i rb gb G n b (.int .i64 ((j : Int) + 1 + 1)) wx from ⟨j + 1, T', r', by congr 1, by have := HLT.out; omega, C7.out.below bx, by have := HR.out; have := HRR.out; omega, Or.inr ⟨PL.out, by rw [← HP.out]; exact NB.out⟩⟩))
            generalize T'.cmpd = cm at *
            clear hP hx c64 cpb cnb
            go_quiet ((go_at_call 18; exact Calls.quiet_of_same (CMP.out _)))
            go_wp2_with fail
            exact ⟨FIN.out _ (below_drewN _ _), by have := HLT.out; simp [intOf]; omega⟩
          · have jn : j = n := by omega
            have t4 : decide ((j : Int) + 1 ≤ (n : Int)) = false := decide_eq_false (by omega)
            have JN := Lib.hid jn
            clear hC hj hrj hB hlt jn
            go_wp2_with fail
            refine NX.out.mono ?_
            rintro e w6 ⟨xk, xw, sr, is, T', r', rfl, hC', hcm, hpl, hor⟩
            have his : is = false := by
              have := HR.out; have := JN.out
              rcases hor with ⟨q1, q2⟩ | ⟨q1, q2⟩
              · omega
              · exact q2
            subst his
            have HC6 := Lib.hid hC'
            have NB := Lib.hid (show T'.cmpd + b ≤ (i - 1) + (n + 1) * b by
              rw [← JN.out, Nat.add_mul, Nat.one_mul]
              have := H0.out
              rcases HB.out with ⟨q1, q2⟩ | ⟨q1, q2⟩
              · rw [q1, if_neg (by decide)] at hcm; have := HJB.out; omega
              · rw [q1, if_pos rfl] at hcm; rw [← BD.out] at hcm; omega)
            clear hC' hcm hpl hor NX
            have AL := Lib.hid (below_alloc w6 (.cells #[.int .i64 xk, .int .i64 xw] 28))
            have C7 := Lib.hid (show CompAt w i rb gb G T' r' (w6.alloc (.cells #[.int .i64 xk, .int .i64 xw] 28)) from HC6.out.below AL.out)
            go_upto_region 24 with fail
            generalize w6.alloc (.cells #[.int .i64 xk, .int .i64 xw] 28) = x7 at C7 ⊢
            obtain ⟨P, hP⟩ : ∃ P, P = (n + 1) * b := ⟨_, rfl⟩
            rw [← hP] at NB
            have PB := Lib.hid (show P ≤ 8388608 + 7 by rw [hP, ← JN.out, Nat.add_mul, Nat.one_mul]; have := HJB.out; have := DB.out; omega)
            have hx : ((n : Int) + 1) * 0 = (P : Int) := by rw [hP, B0.out]; simp
            have p1 : IntKind.i64.wrap (((n : Int) + 1) * 0) = (P : Int) := by
              rw [hx]
              exact IntWalk.i64_in _ (by have := PB.out; omega)
            have p2 : IntKind.i64.wrap ((i : Int) + (P : Int)) = (i : Int) + (P : Int) := IntWalk.i64_in _ (by have := PB.out; omega)
            have p3 : IntKind.i64.wrap ((n : Int) + 1) = (n : Int) + 1 := IntWalk.i64_in _ (by omega)
            have c64 := H64.out
            have cpb := PB.out
            have cnb := NB.out
            have cb := C7.out.cell (by omega)
            have p0 : P = 0 := by have e : (P : Int) = 0 := (by rw [← hx]; simp); omega
            have t6 : decide ((T'.cmpd : Int) ≤ (i : Int)) = true := decide_eq_true (by have := H0.out; omega)
            have t6n : decide (T'.cmpd ≤ i) = true := decide_eq_true (by have := H0.out; omega)
            clear p0
            have t5 : decide ((T'.cmpd : Int) ≤ (i : Int) + (P : Int)) = true := decide_eq_true (by have := H0.out; omega)
            have t5n : decide (T'.cmpd ≤ i + P) = true := decide_eq_true (by have := H0.out; omega)
            have lc := C7.out.lt
            have CMP := Lib.hid (show ∀ q : Nat, Calls Try.prog 18 #[.pointer (some ⟨G.t, 0, none⟩)] (x7.drewN q) (fun e w' => e = .returned (.int .i64 (T'.cmpd : Int)) ∧ w' = x7.drewN q) from fun q => (compared_live (C7.out.below (below_drewN x7 q)).tree).mono fun _ _ ⟨h1, h2⟩ => ⟨h1, h2.symm⟩)
            have FIN := Lib.hid C7.out.bel
            generalize T'.cmpd = cm at *
            clear hP hx c64 cpb cnb
            go_quiet ((go_at_call 18; exact Calls.quiet_of_same (CMP.out _)))
            go_wp2_with fail
            go_ret
            exact ⟨rfl, FIN.out.trans ((below_drewN _ _).mono FIN.out.size)⟩
end Go.Proofs.Ytjlcbhblpofjhaa
