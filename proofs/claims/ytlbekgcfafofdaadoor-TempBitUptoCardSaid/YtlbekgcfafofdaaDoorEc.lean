/- Encode: the program's. -/
import Derived.Test.YtlbekgcfafofdaaDoorAp
namespace Go.Proofs.YtlbekgcfafofdaaDoor
open Go.RowKit
set_option maxRecDepth 100000

theorem runs_mem : ∀ (l : List Int) (x : Int), runsUp x l = true → ∀ y ∈ l, x < y ∧ y ≤ 131071
  | [], _, _, y, hy => by cases hy
  | z :: l, x, h, y, hy => by
    simp only [runsUp, Bool.and_eq_true, decide_eq_true_eq] at h
    obtain ⟨⟨h1, h2⟩, h3⟩ := h
    rcases List.mem_cons.1 hy with rfl | hy
    · exact ⟨h1, h2⟩
    · have := runs_mem l z h3 y hy
      omega
theorem nat_of {z : Int} (h : 0 ≤ z) : ∃ n : Nat, z = n := ⟨z.toNat, by omega⟩
theorem body_ok (e : Ent) (E : EntIs e) (M : May e) {u : Value} {w : World} (h : SlI w u e.inn) (T : Tabs w) : Calls Tryd.prog 21 #[eA e u] w (RetOwn w.heap.size w (bodyE e)) := by
  obtain ⟨k, pr, nm, ru, re, li, su, inn⟩ := e
  have hpr := E.pr
  have hsu := E.su
  cases M with
  | job h1 h2 h3 h4 h5 h6 h7 =>
    simp only at h1 h2 h3 h4 h5 h6 h7 h hpr
    subst h1 h2 h3 h4 h5 h6 h7
    obtain ⟨a, c, rfl, _⟩ := h.form
    exact body1_ok w pr hpr a c T _ rfl
  | make h1 h2 h3 h4 h5 h6 h7 h8 =>
    simp only at h1 h2 h3 h4 h5 h6 h7 h8 h
    subst h1 h2 h4 h5 h6 h7 h8
    obtain ⟨a, c, rfl, _⟩ := h.form
    have hc := clean_len h3
    exact body2_ok w (bs nm) (by rw [bs_size]; exact hc.1) (by rw [bs_size]; exact hc.2) a c T _ (by rw [bs_size, bs_list]; rfl)
  | run h1 h2 h3 h4 h5 =>
    simp only at h1 h2 h3 h5 h hsu
    subst h1 h2 h5
    obtain ⟨⟨a1, a2⟩, ⟨b1, b2⟩, ⟨c1, c2⟩⟩ := h4
    simp only at a1 a2 b1 b2 c1 c2
    obtain ⟨a, c, rfl, _⟩ := h.form
    have hc := clean_len h3
    obtain ⟨ru, rfl⟩ := nat_of a1
    obtain ⟨re, rfl⟩ := nat_of b1
    obtain ⟨li, rfl⟩ := nat_of c1
    exact body3_ok w (bs nm) (by rw [bs_size]; exact hc.1) (by rw [bs_size]; exact hc.2) ru (by omega) re (by omega) li (by omega) su hsu a c T _ (by rw [bs_size, bs_list]; rfl)
  | bare h1 h2 h3 h4 h5 h6 h7 h8 =>
    simp only at h1 h2 h3 h4 h5 h6 h7 h8 h
    subst h2 h3 h4 h5 h6 h7 h8
    obtain ⟨a, c, rfl, _⟩ := h.form
    rcases h1 with rfl | rfl
    · exact body4_ok w a c T _ rfl
    · exact body6_ok w a c T _ rfl
  | merge h1 h2 h3 h4 h5 h6 h7 h8 =>
    simp only at h1 h2 h3 h5 h6 h7 h8 h hsu
    subst h1 h2 h5
    obtain ⟨⟨a1, a2⟩, ⟨b1, b2⟩, _⟩ := h4
    simp only at a1 a2 b1 b2
    have hc := clean_len h3
    obtain ⟨b, off, c, rfl, _, hb, hcell⟩ := h.get (by rintro rfl; simp at h6)
    obtain ⟨ru, rfl⟩ := nat_of a1
    obtain ⟨re, rfl⟩ := nat_of b1
    exact body5_ok w b off c (bs nm) (by rw [bs_size]; exact hc.1) (by rw [bs_size]; exact hc.2) ru (by omega) re (by omega) su hsu inn h6 h7 (fun x hx => by have := runs_mem _ _ h8 x hx; omega) hb hcell T _ (by rw [bs_size, bs_list]; rfl)
set_option maxHeartbeats 1600000 in
theorem head_ok (n L : Nat) (hn : n ≤ 2147483647) (hL : L ≤ 65535) (w : World) (T : Tabs w) : Calls Tryd.prog 22 #[.int .i64 n, .int .i64 L] w (RetOwn w.heap.size w (headE n L)) := by
  have O0 := Lib.hid (OwnB.lit w w.heap.size [229] (Nat.le_refl _) (by simp))
  have HT := Lib.hid T
  have BA := Lib.hid (below_alloc w (.cells (byV [229]).toArray 5))
  have SS := Lib.hid (fun (v : Value) (W : World) (k : Below w.heap.size w W) (o : SlB W v (hd7 n L)) => sum_ok v _ W (by simp [hd7, be_len]) o (HT.out.below k))
  have hs := sumN_lt (hd7 n L)
  have HH := Lib.hid (show headE n L = hd7 n L ++ be 4 (sumN (hd7 n L)) from rfl)
  have H7 := Lib.hid (show hd7 n L = [229] ++ be 4 n ++ be 2 L from rfl)
  generalize headE n L = R at *
  generalize sumN (hd7 n L) = S at *
  generalize hd7 n L = D at *
  clear T
  have n63 : (n : Int) ≤ 2147483647 := by omega
  have L63 : (L : Int) ≤ 65535 := by omega
  go_enter Tryd.func22, Tryd.ntmps22
  go_wp2_with fail
  change Hid (OwnB (w.alloc (.cells #[.int .u8 229] 5)) w.heap.size _ _) at O0
  change Hid (Below _ w (w.alloc (.cells #[.int .u8 229] 5))) at BA
  generalize w.alloc (.cells #[.int .u8 229] 5) = w0 at *
  generalize hv0 : (Value.slice (some ⟨w.heap.size, 0, none⟩) 1 1) = v0 at *
  clear hv0
  refine (lay_ok w.heap.size v0 _ n 4 (by omega) (by decide) w0 O0.out (by simp)).mono ?_
  rintro e w1 ⟨v1, rfl, q1, q2, q3⟩
  have O1 := Lib.hid q1
  have B1 := Lib.hid (BA.out.trans q2)
  clear q1 q2 q3 O0 BA
  have l1 : ([229] ++ be 4 n).length ≤ 5 := len_be (by simp)
  generalize hQ : [229] ++ be 4 n = Q at *
  have HQ := Lib.hid hQ
  clear hQ
  go_wp2_with fail
  refine (lay_ok w.heap.size v1 _ L 2 (by omega) (by decide) w1 O1.out (by omega)).mono ?_
  rintro e w2 ⟨v2, rfl, q1, q2, q3⟩
  have q4 : OwnB w2 w.heap.size v2 D := by rw [H7.out]; exact q1
  have O2 := Lib.hid q4
  have B2 := Lib.hid (B1.out.trans q2)
  have lD : D.length ≤ 7 := by have := len_be (k := 2) (n := L) l1; rw [H7.out]; exact this
  clear q1 q2 q3 q4 O1 B1 l1
  go_wp2_with fail
  refine (SS.out v2 w2 B2.out O2.out.sl).mono ?_
  rintro e w3 ⟨rfl, rfl⟩
  have LY := Lib.hid (lay_ok w.heap.size v2 D S 4 (by omega) (by decide) w2 O2.out (by omega))
  go_wp2_with fail
  refine LY.out.mono ?_
  rintro e w3 ⟨v3, rfl, q1, q2, q3⟩
  have O3 := Lib.hid (show OwnB w3 w.heap.size v3 R by rw [HH.out]; exact q1)
  have B3 := Lib.hid (B2.out.trans q2)
  clear q1 q2 q3 O2 B2
  go_wp2_with fail
  go_ret
  exact ⟨_, rfl, O3.out, B3.out, KeepB.below B3.out⟩
/-- What is answered: bytes and an error. -/
def RetEnc (w : World) (l : List UInt8) (x : Int) (e : Ending) (w' : World) : Prop := ∃ v, e = .returned (.tuple #[v, .int .i64 x]) ∧ OwnB w' w.heap.size v l ∧ Below w.heap.size w w'
def encL (n : Int) (e : Ent) : List UInt8 := if n < 0 ∨ 2147483647 < n then [] else if mayP e then frameE n.toNat (bodyE e) else []
def encX (n : Int) (e : Ent) : Int := if n < 0 ∨ 2147483647 < n then 2 else if mayP e then 0 else 112
def ifL (b : Bool) (l : List UInt8) : List UInt8 := if b then l else []
def ifX (b : Bool) : Int := if b then 0 else 112
theorem OwnB.nilB (w : World) (B : Nat) (h : B ≤ w.heap.size) : OwnB w B (.slice none 0 0) [] := ⟨World.ownsRow_nil _ _ _ _, h⟩
set_option maxHeartbeats 3200000 in
theorem enc_raw (k pr : Nat) (s : ByteArray) (ru re li : Int) (su : Nat) (a : Option Addr) (m c : Nat) (w : World) (n : Nat) (hn : n ≤ 2147483647) (b : Bool) (body : List UInt8) (hbl : b = true → body.length ≤ 400)
    (MB : ∀ W, Below w.heap.size w W → Calls Tryd.prog 20 #[.agg #[.int .u8 k, .int .u64 pr, .string s, .int .i64 ru, .int .i64 re, .int .i64 li, .int .u32 su, .slice a m c]] W (RetBelow W (.bool b)))
    (BD : b = true → ∀ W, Below w.heap.size w W → Calls Tryd.prog 21 #[.agg #[.int .u8 k, .int .u64 pr, .string s, .int .i64 ru, .int .i64 re, .int .i64 li, .int .u32 su, .slice a m c]] W (RetOwn W.heap.size W body)) (T : Tabs w) :
    Calls Tryd.prog 9 #[.int .i64 n, .agg #[.int .u8 k, .int .u64 pr, .string s, .int .i64 ru, .int .i64 re, .int .i64 li, .int .u32 su, .slice a m c]] w (RetEnc w (ifL b (frameE n body)) (ifX b)) := by
  have HM := Lib.hid MB
  have HB := Lib.hid BD
  have HT := Lib.hid T
  have EB := Lib.hid (CellsAt.new w [.int .u8 k, .int .u64 pr, .string s, .int .i64 ru, .int .i64 re, .int .i64 li, .int .u32 su, .slice a m c] 27)
  have BE := Lib.hid (below_alloc w (.cells #[.int .u8 k, .int .u64 pr, .string s, .int .i64 ru, .int .i64 re, .int .i64 li, .int .u32 su, .slice a m c] 27))
  clear MB BD T
  have t1 : decide ((n : Int) < 0) = false := decide_eq_false (by omega)
  have t2 : decide (2147483647 < (n : Int)) = false := decide_eq_false (by omega)
  have t2n : decide (2147483647 < n) = false := decide_eq_false (by omega)
  have n0 : 0 ≤ (n : Int) := by omega
  have n1 : (n : Int) ≤ 2147483647 := by omega
  go_enter Tryd.func9, Tryd.ntmps9
  go_wp2_with fail
  change Hid (CellsAt (w.alloc (.cells #[.int .u8 k, .int .u64 pr, .string s, .int .i64 ru, .int .i64 re, .int .i64 li, .int .u32 su, .slice a m c] 27)) _ _) at EB
  generalize w.alloc (.cells #[.int .u8 k, .int .u64 pr, .string s, .int .i64 ru, .int .i64 re, .int .i64 li, .int .u32 su, .slice a m c] 27) = w0 at *
  refine (HM.out w0 BE.out).mono ?_
  rintro e w1 ⟨rfl, q⟩
  have E1 := Lib.hid (EB.out.step q)
  have B1 := Lib.hid (BE.out.trans (q.mono BE.out.size))
  clear q EB BE
  cases b with
  | false =>
    go_wp2_with fail
    go_ret2
    exact ⟨_, rfl, OwnB.nilB _ _ B1.out.size, B1.out⟩
  | true =>
    have e0 := E1.out.cell 0 _ rfl
    have e1 := E1.out.cell 1 _ rfl
    have e2 := E1.out.cell 2 _ rfl
    have e3 := E1.out.cell 3 _ rfl
    have e4 := E1.out.cell 4 _ rfl
    have e5 := E1.out.cell 5 _ rfl
    have e6 := E1.out.cell 6 _ rfl
    have e7 := E1.out.cell 7 _ rfl
    have lb := hbl rfl
    have BL := Lib.hid lb
    have bl : (body.length : Int) ≤ 400 := by omega
    have SF := Lib.hid (sumN_lt body)
    have FR := Lib.hid (show frameE n body = headE n body.length ++ body ++ be 4 (sumN body) from rfl)
    have HL := Lib.hid (headE_len n body.length)
    have SB := Lib.hid (fun (v : Value) (W : World) (k : Below w.heap.size w W) (o : SlB W v body) => sum_ok v _ W (by omega) o (HT.out.below k))
    have HO := Lib.hid (fun (W : World) (k : Below w.heap.size w W) => head_ok n body.length hn (by omega) W (HT.out.below k))
    clear hbl lb
    generalize frameE n body = FF at *
    generalize headE n body.length = HD at *
    generalize sumN body = S at *
    go_wp2_with fail
    refine (HB.out (by trivial) w1 B1.out).mono ?_
    rintro e w2 ⟨v2, rfl, q1, q2, q3⟩
    have O2 := Lib.hid q1
    have B2 := Lib.hid (B1.out.trans (q2.mono B1.out.size))
    clear q1 q2 q3 e0 e1 e2 e3 e4 e5 e6 e7 E1
    obtain ⟨va, vc, hv2⟩ : ∃ va vc, v2 = .slice va body.length vc := by
      obtain ⟨a, c, h, _⟩ := O2.out.sl
      exact ⟨a, c, h⟩
    subst hv2
    go_wp2_with fail
    refine (HO.out w2 B2.out).mono ?_
    rintro e w3 ⟨v3, rfl, q1, q2, q3⟩
    have O3 := Lib.hid q1
    have B3 := Lib.hid (B2.out.trans (q2.mono B2.out.size))
    have S2 := Lib.hid O2.out.sl
    have QB := Lib.hid q2
    have S3 := Lib.hid (O2.out.sl.below q2)
    have Z2 := Lib.hid B2.out.size
    have Z1 := Lib.hid q2.size
    clear q1 q2 q3 O2
    have LQ := Lib.hid (show HD.length + body.length ≤ 140737488355328 by have := HL.out; have := BL.out; omega)
    go_wp2_with (at_builtin; refine wp_appv rfl _ _ rfl w2.heap.size _ _ rfl O3.out _ body rfl S3.out LQ.out ?_)
    intro v4 w4 q1 q2 q3
    have O4 := Lib.hid q1
    have B4 := Lib.hid (B3.out.trans (q2.mono Z2.out))
    have S4 := Lib.hid (S2.out.below (QB.out.trans q2))
    clear q1 q2 q3 O3 S3
    go_wp2_with fail
    refine (SB.out _ w4 B4.out S4.out).mono ?_
    rintro e w5 ⟨rfl, rfl⟩
    have sf : (S : Int) ≤ 4294967295 := by have := SF.out; omega
    have LY := Lib.hid (lay_ok w2.heap.size v4 (HD ++ body) S 4 (by have := SF.out; omega) (by decide) w4 O4.out (by rw [List.length_append]; have := HL.out; have := BL.out; omega))
    go_wp2_with fail
    refine LY.out.mono ?_
    rintro e w5 ⟨v5, rfl, q1, q2, q3⟩
    have O5 := Lib.hid (show OwnB w5 w2.heap.size v5 FF by rw [FR.out]; exact q1)
    have B5 := Lib.hid (B4.out.trans (q2.mono Z2.out))
    clear q1 q2 q3 O4 B4
    go_wp2_with fail
    go_ret2
    exact ⟨_, rfl, O5.out.base Z2.out, B5.out⟩
theorem enc_ok (n : Int) (e : Ent) (E : EntIs e) {u : Value} {w : World} (h : SlI w u e.inn) (T : Tabs w) : Calls Tryd.prog 9 #[.int .i64 n, eA e u] w (RetEnc w (encL n e) (encX n e)) := by
  by_cases h1 : n < 0
  · unfold encL encX
    rw [if_pos (Or.inl h1), if_pos (Or.inl h1)]
    obtain ⟨a, c, rfl, _⟩ := h.form
    have t1 : decide (n < 0) = true := decide_eq_true h1
    have BE := Lib.hid (below_alloc w (.cells #[.int .u8 e.k, .int .u64 e.pr, .string (bs e.nm), .int .i64 e.ru, .int .i64 e.re, .int .i64 e.li, .int .u32 e.su, .slice a e.inn.length c] 27))
    clear h1 E h
    go_enter Tryd.func9, Tryd.ntmps9
    go_wp2_with fail
    go_ret2
    exact ⟨_, rfl, OwnB.nilB _ _ BE.out.size, BE.out⟩
  · by_cases h2 : 2147483647 < n
    · unfold encL encX
      rw [if_pos (Or.inr h2), if_pos (Or.inr h2)]
      obtain ⟨a, c, rfl, _⟩ := h.form
      have t1 : decide (n < 0) = false := decide_eq_false h1
      have t2 : decide (2147483647 < n) = true := decide_eq_true h2
      have BE := Lib.hid (below_alloc w (.cells #[.int .u8 e.k, .int .u64 e.pr, .string (bs e.nm), .int .i64 e.ru, .int .i64 e.re, .int .i64 e.li, .int .u32 e.su, .slice a e.inn.length c] 27))
      clear h1 h2 E h
      go_enter Tryd.func9, Tryd.ntmps9
      go_wp2_with fail
      go_ret2
      exact ⟨_, rfl, OwnB.nilB _ _ BE.out.size, BE.out⟩
    · obtain ⟨m, rfl⟩ := nat_of (z := n) (by omega)
      have MB : ∀ W, Below w.heap.size w W → Calls Tryd.prog 20 #[eA e u] W (RetBelow W (.bool (mayP e))) := fun W q => mayBe_ok e E (h.below q) (T.below q)
      have BD : mayP e = true → ∀ W, Below w.heap.size w W → Calls Tryd.prog 21 #[eA e u] W (RetOwn W.heap.size W (bodyE e)) := fun hm W q => body_ok e E ((may_iff e).1 hm) (h.below q) (T.below q)
      have BL : mayP e = true → (bodyE e).length ≤ 400 := fun hm => body_len ((may_iff e).1 hm)
      have e1 : encL (m : Int) e = ifL (mayP e) (frameE m (bodyE e)) := by
        unfold encL ifL
        rw [if_neg (by omega)]
        rfl
      have e2 : encX (m : Int) e = ifX (mayP e) := by
        unfold encX ifX
        rw [if_neg (by omega)]
      rw [e1, e2]
      obtain ⟨a, c, rfl, _⟩ := h.form
      exact enc_raw e.k e.pr (bs e.nm) e.ru e.re e.li e.su a e.inn.length c w m (by omega) (mayP e) (bodyE e) BL MB BD T
end Go.Proofs.YtlbekgcfafofdaaDoor
