/- The law TempRound, walked. -/
import Derived.Test.YtlbekgcfafofdaaDoorTd
namespace Go.Proofs.YtlbekgcfafofdaaDoor
section
section
section
open Go.RowKit
set_option maxRecDepth 100000

/-- An entry that may stand as number n. -/
structure FrOk (n : Nat) (e : Ent) : Prop where
  may : May e
  is : EntIs e
  job : e.k = 1 ↔ n = 0
  lt : n < 4294967296
/-- A frame's parts. -/
theorem frame_parts (n : Nat) (B rest : List UInt8) : frameE n B ++ rest = [229] ++ (be 4 n ++ (be 2 B.length ++ (be 4 (sumN (hd7 n B.length)) ++ (B ++ (be 4 (sumN B) ++ rest))))) := by
  simp [frameE, headE, hd7, List.append_assoc]
theorem fr_take1 (n : Nat) (B rest : List UInt8) : (frameE n B ++ rest).take 1 = [229] := by rw [frame_parts]; rfl
theorem fr_take7 (n : Nat) (B rest : List UInt8) : (frameE n B ++ rest).take 7 = hd7 n B.length := by
  have : frameE n B ++ rest = hd7 n B.length ++ (be 4 (sumN (hd7 n B.length)) ++ (B ++ (be 4 (sumN B) ++ rest))) := by simp [frameE, headE, List.append_assoc]
  rw [this]
  exact List.take_left' (by simp [hd7, be_len])
theorem fr_num (n : Nat) (B rest : List UInt8) : seg (frameE n B ++ rest) 1 4 = be 4 n := seg_at [229] (be 4 n) _ _ (frame_parts n B rest) rfl (be_len 4 n)
theorem fr_size (n : Nat) (B rest : List UInt8) : seg (frameE n B ++ rest) 5 2 = be 2 B.length := seg_at ([229] ++ be 4 n) (be 2 B.length) (be 4 (sumN (hd7 n B.length)) ++ (B ++ (be 4 (sumN B) ++ rest))) _ (by rw [frame_parts]; simp) (by simp [be_len]) (be_len 2 _)
theorem fr_hsum (n : Nat) (B rest : List UInt8) : seg (frameE n B ++ rest) 7 4 = be 4 (sumN (hd7 n B.length)) := seg_at ([229] ++ be 4 n ++ be 2 B.length) _ (B ++ (be 4 (sumN B) ++ rest)) _ (by rw [frame_parts]; simp) (by simp [be_len]) (be_len 4 _)
theorem fr_body (n : Nat) (B rest : List UInt8) : seg (frameE n B ++ rest) 11 B.length = B := seg_at ([229] ++ be 4 n ++ be 2 B.length ++ be 4 (sumN (hd7 n B.length))) _ (be 4 (sumN B) ++ rest) _ (by rw [frame_parts]; simp) (by simp [be_len]) rfl
theorem fr_bsum (n : Nat) (B rest : List UInt8) : seg (frameE n B ++ rest) (11 + B.length) 4 = be 4 (sumN B) := seg_at ([229] ++ be 4 n ++ be 2 B.length ++ be 4 (sumN (hd7 n B.length)) ++ B) _ rest _ (by rw [frame_parts]; simp) (by simp [be_len]; omega) (be_len 4 _)
theorem fr_len (n : Nat) (B rest : List UInt8) : (frameE n B ++ rest).length = 15 + B.length + rest.length := by rw [List.length_append, frameE_len]; omega
theorem fr_feL (n : Nat) (B rest : List UInt8) (hB : B.length ≤ 400) : feL (frameE n B ++ rest) = B.length := by unfold feL; rw [fr_size, val_be_lt (by omega)]
/-- A frame that was written is read. -/
theorem fr_fe {n : Nat} {e : Ent} (h : FrOk n e) (rest : List UInt8) : feE (frameE n (bodyE e) ++ rest) n = 0 ∧ feX (frameE n (bodyE e) ++ rest) n = e ∧ feN (frameE n (bodyE e) ++ rest) n = 15 + (bodyE e).length := by
  have hB := body_len h.may
  obtain ⟨ok1, ok2⟩ := okE_of h.is.pr h.is.su h.may
  have hL := fr_feL n (bodyE e) rest hB
  have hb : feB (frameE n (bodyE e) ++ rest) = bodyE e := by unfold feB; rw [hL]; exact fr_body n _ rest
  have hlen := fr_len n (bodyE e) rest
  have s1 := sumN_lt (hd7 n (bodyE e).length)
  have s2 := sumN_lt (bodyE e)
  have hE : feE (frameE n (bodyE e) ++ rest) n = 0 := by
    unfold feE
    have hj : ¬ (decide (e.k = 1) ≠ decide (n = 0)) := by
      have := h.job
      by_cases c : n = 0
      · rw [decide_eq_true c, decide_eq_true (this.2 c)]; simp
      · rw [decide_eq_false c, decide_eq_false (fun x => c (this.1 x))]; simp
    have v1 : valB (be 4 (sumN (hd7 n (bodyE e).length))) = sumN (hd7 n (bodyE e).length) := val_be_lt (by omega)
    have v2 : valB (be 4 (sumN (bodyE e))) = sumN (bodyE e) := val_be_lt (by omega)
    have v3 : valB (be 4 n) = n := val_be_lt (by have := h.lt; omega)
    have h00 : ¬ (frameE n (bodyE e) ++ rest).length = 0 := by omega
    have h11 : ¬ (frameE n (bodyE e) ++ rest).length < 11 := by omega
    have h15 : ¬ (frameE n (bodyE e) ++ rest).length < 15 + feL (frameE n (bodyE e) ++ rest) := by rw [hL, hlen]; omega
    rw [if_neg h00, if_neg (by rw [fr_take1]; simp [valB]), if_neg h11, if_neg (by rw [fr_hsum, fr_take7, v1]; simp), if_neg (by rw [fr_num, v3]; simp),
      if_neg h15, if_neg (by rw [hL, hb, fr_bsum, v2]; simp), if_neg (by rw [hb, ok1]; simp), if_neg (by rw [hb, ok2]; exact hj)]
  have hG : feG (frameE n (bodyE e) ++ rest) n = true := by unfold feG; rw [hE, decide_eq_true (show (frameE n (bodyE e) ++ rest).length ≠ 0 by omega)]; rfl
  refine ⟨hE, ?_, ?_⟩
  · unfold feX; rw [hG, hb, if_pos rfl, ok2]
  · unfold feN; rw [hG, hL, if_pos rfl]
/-- Entries one behind the other, numbered from n. -/
def frs : Nat → List Ent → List UInt8
  | _, [] => []
  | n, e :: l => frameE n (bodyE e) ++ frs (n + 1) l
def FrsOk : Nat → List Ent → Prop
  | _, [] => True
  | n, e :: l => FrOk n e ∧ FrsOk (n + 1) l
theorem frs_snoc : ∀ (n : Nat) (l : List Ent) (e : Ent), frs n (l ++ [e]) = frs n l ++ frameE (n + l.length) (bodyE e)
  | n, [], e => by simp [frs]
  | n, a :: l, e => by
    rw [List.cons_append, frs, frs_snoc (n + 1) l e, frs, List.append_assoc]
    rw [show n + 1 + l.length = n + (a :: l).length by simp; omega]
theorem frs_app : ∀ (n : Nat) (l m : List Ent), frs n (l ++ m) = frs n l ++ frs (n + l.length) m
  | n, [], m => by simp [frs]
  | n, a :: l, m => by
    rw [List.cons_append, frs, frs_app (n + 1) l m, frs, List.append_assoc]
    rw [show n + 1 + l.length = n + (a :: l).length by simp; omega]
theorem frsOk_app : ∀ (n : Nat) (l m : List Ent), FrsOk n (l ++ m) ↔ FrsOk n l ∧ FrsOk (n + l.length) m
  | n, [], m => by simp [FrsOk]
  | n, a :: l, m => by
    rw [List.cons_append, FrsOk, frsOk_app (n + 1) l m, FrsOk, and_assoc]
    rw [show n + 1 + l.length = n + (a :: l).length by simp; omega]
theorem dec_frs : ∀ (n : Nat) (l : List Ent) (rest : List UInt8), FrsOk n l → decC (frs n l ++ rest) n = (l ++ (decC rest (n + l.length)).1, (frs n l).length + (decC rest (n + l.length)).2.1, (decC rest (n + l.length)).2.2)
  | n, [], rest, _ => by simp [frs]
  | n, e :: l, rest, h => by
    obtain ⟨h1, h2⟩ := h
    rw [frs, List.append_assoc]
    obtain ⟨a, b, c⟩ := fr_fe h1 (frs (n + 1) l ++ rest)
    rw [decC_more (by rw [c]; omega), b, c]
    have hd : (frameE n (bodyE e) ++ (frs (n + 1) l ++ rest)).drop (15 + (bodyE e).length) = frs (n + 1) l ++ rest := List.drop_left' (by rw [frameE_len]; omega)
    rw [hd, dec_frs (n + 1) l rest h2]
    rw [show n + 1 + l.length = n + (e :: l).length by simp; omega]
    simp only [List.cons_append, List.length_append, frameE_len, Prod.mk.injEq, true_and, and_true]
    omega
theorem seg_take {l : List UInt8} {a n c : Nat} (h : a + n ≤ c) : seg (l.take c) a n = seg l a n := by
  unfold seg
  rw [List.drop_take, List.take_take, Nat.min_eq_left (by omega)]
/-- A frame that is cut off is torn. -/
theorem fr_torn (n : Nat) (B : List UInt8) (hB : B.length ≤ 400) (hn : n < 4294967296) (c : Nat) (h0 : 0 < c) (hc : c < 15 + B.length) : feE ((frameE n B).take c) n = 71 := by
  have hl : ((frameE n B).take c).length = c := by rw [List.length_take, frameE_len]; omega
  have s1 := sumN_lt (hd7 n B.length)
  have e0 := fr_take1 n B []
  have e7 := fr_take7 n B []
  have es := fr_hsum n B []
  have en := fr_num n B []
  have eL := fr_feL n B [] hB
  rw [List.append_nil] at e0 e7 es en eL
  have v1 : valB (be 4 (sumN (hd7 n B.length))) = sumN (hd7 n B.length) := val_be_lt (by omega)
  have v3 : valB (be 4 n) = n := val_be_lt (by omega)
  have h00 : ¬ ((frameE n B).take c).length = 0 := by omega
  unfold feE
  rw [if_neg h00, if_neg (by rw [List.take_take, Nat.min_eq_left (show 1 ≤ c by omega), e0]; simp [valB])]
  by_cases h11 : c < 11
  · rw [if_pos (show ((frameE n B).take c).length < 11 by omega)]
  · rw [if_neg (show ¬ ((frameE n B).take c).length < 11 by omega), if_neg (by rw [seg_take (show 7 + 4 ≤ c by omega), List.take_take, Nat.min_eq_left (show 7 ≤ c by omega), es, e7, v1]; simp), if_neg (by rw [seg_take (show 1 + 4 ≤ c by omega), en, v3]; simp)]
    rw [if_pos (by
      have : feL ((frameE n B).take c) = B.length := by
        unfold feL at *
        rw [seg_take (show 5 + 2 ≤ c by omega)]; exact eL
      rw [this]; omega)]
theorem dec_err {b : List UInt8} {n x : Nat} (h : feE b n = x) (hx : x ≠ 0) : decC b n = ([], 0, x) := by
  have g : feN b n = 0 := by
    rw [feN_zero]
    unfold feG
    rw [h]
    simp [hx]
  rw [decC_zero g, h]
end
section
open Go.RowKit
set_option maxRecDepth 100000

def okp (e : Ent) : Bool := decide (e.k ≠ 1) && mayP e
def pr (L : List Ent) : List Ent := (L.filter okp).take 200
theorem pr_snoc_no (L : List Ent) (e : Ent) (h : okp e = false) : pr (L ++ [e]) = pr L := by unfold pr; rw [List.filter_append]; simp [h]
theorem pr_snoc_yes (L : List Ent) (e : Ent) (h : okp e = true) (hl : (pr L).length < 200) : pr (L ++ [e]) = pr L ++ [e] := by
  unfold pr at *
  rw [List.length_take] at hl
  have h2 : (L.filter okp).length < 200 := by omega
  have e1 : [e].filter okp = [e] := by simp [h]
  rw [List.filter_append, e1, List.take_of_length_le (by rw [List.length_append]; simp; omega), List.take_of_length_le (by omega)]
theorem pr_full (L M : List Ent) (hl : 200 ≤ (pr L).length) : pr (L ++ M) = pr L := by
  unfold pr at *
  rw [List.length_take] at hl
  rw [List.filter_append, List.take_append_of_le_length (by omega)]
theorem pr_le (L : List Ent) : (pr L).length ≤ 200 := by unfold pr; rw [List.length_take]; omega
theorem pr_mem {L : List Ent} {e : Ent} (h : e ∈ pr L) : e ∈ L ∧ e.k ≠ 1 ∧ May e := by
  have h1 := List.mem_of_mem_take h
  rw [List.mem_filter] at h1
  unfold okp at h1
  simp only [Bool.and_eq_true, decide_eq_true_eq] at h1
  exact ⟨h1.1, h1.2.1, (may_iff e).1 h1.2.2⟩
def PrP (w : World) (L : List Ent) (e : Ending) (w' : World) : Prop := ∃ v us, e = .returned v ∧ OwnEs w' w.heap.size v (pr L) us ∧ Below w.heap.size w w'
def PrRel (w : World) (L : List Ent) (o i : Value) (wr : World) : Prop :=
  ∃ (k m : Nat) (us : List Value) (va : Option Addr) (vc : Nat), k ≤ L.length ∧ m = (pr (L.take k)).length ∧ i = .int .i64 (k : Int) ∧ o = .slice va m vc ∧ OwnEs wr w.heap.size (.slice va m vc) (pr (L.take k)) us ∧ Below w.heap.size w wr
set_option maxHeartbeats 2400000 in
theorem proper_raw (w : World) (L : List Ent) (hE : ∀ e ∈ L, EntIs e) (a : Option Addr) (n c : Nat) (hn : n = L.length) (hx : n ≤ 9223372036854775807) (h : EsAt w (.slice a n c) L) : Calls Tryd.prog 14 #[.slice a n c] w (PrP w L) := by
  have H := Lib.hid h
  have HE := Lib.hid hE
  have HN := Lib.hid hn
  clear h hE hn
  have in0 : (n : Int) ≤ 9223372036854775807 := by omega
  go_enter Tryd.func14, Tryd.ntmps14
  go_wp2_with fail
  go_loopw [3, 4] (fun o i wr => PrRel w L o i wr) (fun _ i _ => n - (intOf i).toNat)
  case atStart => exact ⟨0, 0, [], none, 0, Nat.zero_le _, rfl, rfl, rfl, OwnEs.nil _ _ (Nat.le_refl _), Below.refl _ _⟩
  case round =>
    obtain ⟨k, m, us, va, vc, hk, hm, rfl, rfl, OE, BW⟩ := hrel
    have HM := Lib.hid hm
    have HOE := Lib.hid OE
    have HBW := Lib.hid BW
    clear hm OE BW
    by_cases hlt : k < n
    · have kl : k < L.length := by have := HN.out; omega
      have HK := Lib.hid kl
      have ik : (k : Int) < (n : Int) := by omega
      have d1 : decide ((k : Int) < (n : Int)) = true := decide_eq_true ik
      by_cases h200 : m < 200
      · have d2 : decide ((m : Int) < 200) = true := decide_eq_true (by omega)
        obtain ⟨b1, e1, q1, _, _, r1⟩ := H.out
        injection q1 with q1 q2 q3
        clear q2 q3
        subst q1
        obtain ⟨g, off, rfl, hg, s1⟩ := r1.resolve_left (by rintro rfl; simp at kl)
        obtain ⟨u, hu, hi⟩ := s1 k L[k] (List.getElem?_eq_getElem kl)
        have HX := Lib.hid (fun j x (hx : (entV L[k] u)[j]? = some x) => (show wr.cell? ⟨g, off + k * 8 + j, none⟩ = some x by rw [Nat.mul_comm k 8]; exact ((bcell HBW.out).1 g (off + 8 * k + j) hg).trans (hu j x hx)))
        have EI := Lib.hid (HE.out L[k] (List.getElem_mem kl))
        have SI := Lib.hid (hi.below HBW.out)
        have t1 := Lib.hid (show L.take (k + 1) = L.take k ++ [L[k]] from List.take_succ_eq_append_getElem kl)
        have HG := Lib.hid (Nat.lt_of_lt_of_le hg HBW.out.size)
        clear s1 hu hi r1 hg
        obtain ⟨e, he⟩ : ∃ e, e = L[k] := ⟨_, rfl⟩
        rw [← he] at HX EI SI t1
        clear he kl
        have x0 := HX.out 0 _ rfl
        have x0' : wr.cell? ⟨g, off + k * 8, none⟩ = some (.int .u8 (e.k : Int)) := by rw [Nat.add_zero] at x0; exact x0
        by_cases hk1 : e.k = 1
        · have g1 : ((e.k : Int) != 1) = false := by rw [hk1]; rfl
          have g2 : ((e.k : Int) == 1) = true := by rw [hk1]; rfl
          have hno : okp e = false := by unfold okp; rw [hk1]; rfl
          have KEY := Lib.hid (show PrRel w L (.slice va m vc) (.int .i64 ((k : Int) + 1)) wr from ⟨k + 1, m, us, va, vc, HK.out, by rw [t1.out, pr_snoc_no _ _ hno]; exact HM.out, by go_num, rfl, by rw [t1.out, pr_snoc_no _ _ hno]; exact HOE.out, HBW.out⟩)
          clear hno hk1
          go_wp2_with fail
          refine ⟨?_, by simp [intOf]; have := HK.out; omega⟩
          repeat (refine Exists.intro _ ?_)
          first | exact ⟨rfl, KEY.out⟩ | exact ⟨KEY.out, rfl⟩ | exact KEY.out
        · have g1 : ((e.k : Int) != 1) = true := by simp; omega
          have g2 : ((e.k : Int) == 1) = false := by simp; omega
          have HK1 := Lib.hid hk1
          have MB := Lib.hid (dmay_ok e EI.out SI.out)
          obtain ⟨ek, epr, enm, eru, ere, eli, esu, einn⟩ := e
          simp only at g1 g2 x0' x0
          unfold eA at MB
          simp only at MB
          unfold entV at HX
          simp only at HX
          obtain ⟨s, hs⟩ : ∃ s, s = bs enm := ⟨_, rfl⟩
          rw [← hs] at MB HX
          have HSS := Lib.hid hs
          clear hs hk1
          have x1 := HX.out 1 _ rfl
          have x2 := HX.out 2 _ rfl
          have x3 := HX.out 3 _ rfl
          have x4 := HX.out 4 _ rfl
          have x5 := HX.out 5 _ rfl
          have x6 := HX.out 6 _ rfl
          have x7 := HX.out 7 _ rfl
          rw [Nat.add_zero] at x0
          go_wp2_with fail
          with_reducible refine MB.out.mono ?_
          rintro z w1 ⟨rfl, b1⟩
          clear x0 x1 x2 x3 x4 x5 x6 x7 x0' MB
          have B1 : Below w.heap.size w w1 := HBW.out.trans (b1.mono HBW.out.size)
          have HB1 := Lib.hid B1
          have HOE1 := Lib.hid (HOE.out.below b1)
          have glt : g < wr.heap.size := HG.out
          have HX1 := Lib.hid (fun j x (hx : [Value.int .u8 (ek : Int), .int .u64 (epr : Int), .string s, .int .i64 eru, .int .i64 ere, .int .i64 eli, .int .u32 (esu : Int), u][j]? = some x) => ((bcell b1).1 g (off + k * 8 + j) glt).trans (HX.out j x hx))
          have SI1 := Lib.hid (SI.out.below b1)
          clear glt HX SI HOE HBW B1 b1
          generalize hmay : mayP (⟨ek, epr, enm, eru, ere, eli, esu, einn⟩ : Ent) = my at *
          cases my with
          | false =>
            have hno : okp ⟨ek, epr, enm, eru, ere, eli, esu, einn⟩ = false := by unfold okp; rw [hmay, Bool.and_false]
            have KEY := Lib.hid (show PrRel w L (.slice va m vc) (.int .i64 ((k : Int) + 1)) w1 from ⟨k + 1, m, us, va, vc, HK.out, by rw [t1.out, pr_snoc_no _ _ hno]; exact HM.out, by go_num, rfl, by rw [t1.out, pr_snoc_no _ _ hno]; exact HOE1.out, HB1.out⟩)
            clear hno hmay
            go_wp2_with fail
            refine ⟨?_, by simp [intOf]; have := HK.out; omega⟩
            repeat (refine Exists.intro _ ?_)
            first | exact ⟨rfl, KEY.out⟩ | exact ⟨KEY.out, rfl⟩ | exact KEY.out
          | true =>
            have hyes : okp ⟨ek, epr, enm, eru, ere, eli, esu, einn⟩ = true := by unfold okp; rw [hmay, decide_eq_true HK1.out]; rfl
            have HY := Lib.hid hyes
            clear hyes hmay
            have x0 := HX1.out 0 _ rfl
            rw [Nat.add_zero] at x0
            have x1 := HX1.out 1 _ rfl
            have x2 := HX1.out 2 _ rfl
            have x3 := HX1.out 3 _ rfl
            have x4 := HX1.out 4 _ rfl
            have x5 := HX1.out 5 _ rfl
            have x6 := HX1.out 6 _ rfl
            have x7 := HX1.out 7 _ rfl
            have TW := twin_ok ⟨ek, epr, enm, eru, ere, eli, esu, einn⟩ (u := u) (w := w1) EI.out.ii SI1.out
            unfold RetEO eA at TW
            simp only at TW
            rw [← HSS.out] at TW
            have HTW := Lib.hid TW
            clear TW
            go_wp2_with fail
            with_reducible refine HTW.out.mono ?_
            rintro z w2 ⟨v2, rfl, o2, b2⟩
            clear x0 x1 x2 x3 x4 x5 x6 x7 HTW
            obtain ⟨ua, un, uc, rfl⟩ : ∃ a n c, v2 = .slice a n c := by obtain ⟨a, c, h, _⟩ := o2.sl.form; exact ⟨_, _, _, h⟩
            have P5 : CellsAt (w2.alloc (.cells #[.int .u8 (ek : Int), .int .u64 (epr : Int), .string s, .int .i64 eru, .int .i64 ere, .int .i64 eli, .int .u32 (esu : Int), .slice ua un uc] 27)) w2.heap.size (entV ⟨ek, epr, enm, eru, ere, eli, esu, einn⟩ (.slice ua un uc)) := by unfold entV; simp only; rw [← HSS.out]; exact CellsAt.new w2 [.int .u8 (ek : Int), .int .u64 (epr : Int), .string s, .int .i64 eru, .int .i64 ere, .int .i64 eli, .int .u32 (esu : Int), .slice ua un uc] 27
            have AL := below_alloc w2 (.cells #[.int .u8 (ek : Int), .int .u64 (epr : Int), .string s, .int .i64 eru, .int .i64 ere, .int .i64 eli, .int .u32 (esu : Int), .slice ua un uc] 27)
            have B2 : Below w.heap.size w w2 := HB1.out.trans (b2.mono HB1.out.size)
            have B5 := Lib.hid (B2.trans (AL.mono B2.size))
            have OE5 := Lib.hid ((HOE1.out.below b2).below AL)
            have OI5 := Lib.hid ((o2.below AL).base (show w.heap.size ≤ w1.heap.size from HB1.out.size))
            have HP5 := Lib.hid P5
            clear P5 AL B2 o2 b2
            go_wp2_with (at_builtin; go_loud (refine wp_apE rfl _ _ rfl w.heap.size _ (pr (L.take k)) us rfl OE5.out w2.heap.size ⟨ek, epr, enm, eru, ere, eli, esu, einn⟩ _ rfl HP5.out rfl OI5.out (by have := pr_le (L.take k); omega) ?_))
            intro v6 w6 OE6 B6 _
            have hl6 : (pr (L.take k) ++ [(⟨ek, epr, enm, eru, ere, eli, esu, einn⟩ : Ent)]).length = m + 1 := by rw [List.length_append, HM.out]; rfl
            obtain ⟨va6, vc6, rfl⟩ : ∃ a c, v6 = .slice a (m + 1) c := by
              have ho := OE6.own.2
              rw [hl6] at ho
              rcases ho with ⟨hn, h⟩ | ⟨g, cap, cur, hv, _⟩
              · omega
              · exact ⟨_, _, hv⟩
            have hpr := pr_snoc_yes (L.take k) ⟨ek, epr, enm, eru, ere, eli, esu, einn⟩ HY.out (by rw [← HM.out]; omega)
            have KEY := Lib.hid (show PrRel w L (.slice va6 (m + 1) vc6) (.int .i64 ((k : Int) + 1)) w6 from ⟨k + 1, m + 1, us ++ [.slice ua un uc], va6, vc6, HK.out, by rw [t1.out, hpr]; exact hl6.symm, by go_num, rfl, by rw [t1.out, hpr]; exact OE6, B5.out.trans B6⟩)
            clear OE6 B6 hl6 hpr
            go_wp2_with fail
            refine ⟨?_, by simp [intOf]; have := HK.out; omega⟩
            repeat (refine Exists.intro _ ?_)
            first | exact ⟨rfl, KEY.out⟩ | exact ⟨KEY.out, rfl⟩ | exact KEY.out
      · have d2 : decide ((m : Int) < 200) = false := decide_eq_false (by omega)
        have hpr : pr L = pr (L.take k) := by
          conv => lhs; rw [← List.take_append_drop k L]
          exact pr_full _ _ (by rw [← HM.out]; omega)
        have HPR := Lib.hid hpr
        clear hpr kl
        go_wp2_with fail
        go_ret
        exact ⟨_, us, rfl, by rw [HPR.out]; exact HOE.out, HBW.out⟩
    · have d1 : decide ((k : Int) < (n : Int)) = false := decide_eq_false (by omega)
      have hpr : L.take k = L := List.take_of_length_le (by have := HN.out; omega)
      have HPR := Lib.hid hpr
      clear hpr
      go_wp2_with fail
      go_ret
      exact ⟨_, us, rfl, by rw [← HPR.out]; exact HOE.out, HBW.out⟩
end
end
section
open Go.RowKit
set_option maxRecDepth 100000

def jobE (p : Nat) : Ent := ⟨1, p, [], 0, 0, 0, 0, []⟩
theorem jobE_is {p : Nat} (h : p < 18446744073709551616) : EntIs (jobE p) := by
  have z : (-9223372036854775808 : Int) ≤ 0 ∧ (0 : Int) ≤ 9223372036854775807 := by omega
  exact ⟨by show 1 < 256; omega, h, by simp [jobE], z, z, z, by show 0 < 4294967296; omega, by simp [jobE], by simp [jobE]⟩
theorem jobE_may (p : Nat) : May (jobE p) := .job rfl rfl rfl rfl rfl rfl rfl
theorem body_pos {e : Ent} : 1 ≤ (bodyE e).length := by
  unfold bodyE
  split
  · simp
  · split
    · simp
    · split
      · simp
      · split <;> simp
/-- Where the entries begin. -/
def ats (M : List Ent) (k : Nat) : List Int := (List.range (k + 1)).map fun i => ((frs 0 (M.take i)).length : Int)
theorem ats_len (M : List Ent) (k : Nat) : (ats M k).length = k + 1 := by simp [ats]
theorem ats_zero (M : List Ent) : ats M 0 = [0] := by simp [ats, frs]
theorem ats_snoc (M : List Ent) (k : Nat) : ats M (k + 1) = ats M k ++ [((frs 0 (M.take (k + 1))).length : Int)] := by unfold ats; rw [List.range_succ, List.map_append]; rfl
theorem frs_len : ∀ (n : Nat) (l : List Ent), (∀ e ∈ l, May e) → (frs n l).length ≤ 415 * l.length
  | _, [], _ => by simp [frs]
  | n, e :: l, h => by
    have h1 := body_len (h e (by simp))
    have h2 := frs_len (n + 1) l fun x hx => h x (by simp [hx])
    rw [frs, List.length_append, frameE_len, List.length_cons]
    omega
theorem OwnB.keepT {w w' : World} {B : Nat} {v : Value} {l : List UInt8} {t0 : TypeId} (h : OwnB w B v l) (ht : 5 ≠ t0) (k : KeepT t0 w w') (hs : w.heap.size ≤ w'.heap.size) : OwnB w' B v l := by
  refine ⟨⟨h.1.1, ?_⟩, Nat.le_trans h.2 hs⟩
  rcases h.1.2 with hn | ⟨g, cap, cur, hv, hb, hg, rest⟩
  · exact .inl hn
  · exact .inr ⟨g, cap, cur, hv, hb, k g 5 cur ht hg, rest⟩
theorem keepB_T {w w' : World} (h : KeepB w w') : KeepT 5 w w' := fun g t cs ht x => h g t cs ht x
theorem own_le {w : World} {B B' size n : Nat} {e : TypeId} {v : Value} {xs : List Value} (h : w.ownsRow B e size v n xs) (hb : B' ≤ B) : w.ownsRow B' e size v n xs :=
  ⟨h.1, h.2.imp id fun ⟨g, cap, cur, a, b, r⟩ => ⟨g, cap, cur, a, Nat.le_trans hb b, r⟩⟩
def CdP (w : World) (p : Nat) (L : List Ent) (e : Ending) (w' : World) : Prop :=
  ∃ vb va, e = .returned (.tuple #[vb, va, .bool true]) ∧ OwnB w' w.heap.size vb (frs 0 (jobE p :: L)) ∧ OwnIB w' w.heap.size va (ats (jobE p :: L) L.length) ∧ Below w.heap.size w w'
def CdRel (w : World) (p : Nat) (L : List Ent) (vb va i : Value) (wr : World) : Prop :=
  ∃ (k mb mk : Nat) (ab ak : Option Addr) (cb ck : Nat), k ≤ L.length ∧ i = .int .i64 (k : Int) ∧ vb = .slice ab mb cb ∧ va = .slice ak mk ck ∧ mb = (frs 0 (jobE p :: L.take k)).length ∧ OwnB wr w.heap.size (.slice ab mb cb) (frs 0 (jobE p :: L.take k)) ∧ OwnIB wr w.heap.size (.slice ak mk ck) (ats (jobE p :: L) k) ∧ Below w.heap.size w wr
set_option maxHeartbeats 2400000 in
theorem coded_raw (w : World) (p : Nat) (hp : p < 18446744073709551616) (L : List Ent) (hE : ∀ e ∈ L, EntIs e) (hM : ∀ e ∈ L, May e) (h200 : L.length ≤ 200) (a : Option Addr) (n c : Nat) (hn : n = L.length) (h : EsAt w (.slice a n c) L) (T : Tabs w) : Calls Tryd.prog 15 #[.int .u64 (p : Int), .slice a n c] w (CdP w p L) := by
  have H := Lib.hid h
  have HE := Lib.hid hE
  have HMy := Lib.hid hM
  have HN := Lib.hid hn
  have HT := Lib.hid T
  have H200 := Lib.hid h200
  have in2 : (n : Int) ≤ 200 := by omega
  have EN0 := enc_ok 0 (jobE p) (jobE_is hp) (u := .slice none 0 0) (w := w) (SlAt.nil w) T
  have l0 : encL 0 (jobE p) = frameE 0 (bodyE (jobE p)) := by unfold encL; rw [if_neg (by omega), if_pos ((may_iff _).2 (jobE_may p))]; rfl
  have c0 : encX 0 (jobE p) = 0 := by unfold encX; rw [if_neg (by omega), if_pos ((may_iff _).2 (jobE_may p))]
  rw [l0, c0] at EN0
  have HEN0 : Hid (Calls Tryd.prog 9 #[.int .i64 0, .agg #[.int .u8 1, .int .u64 (p : Int), .string ⟨#[]⟩, .int .i64 0, .int .i64 0, .int .i64 0, .int .u32 0, .slice none 0 0]] w (RetEnc w (frameE 0 (bodyE (jobE p))) 0)) := Lib.hid EN0
  clear h hE hM hn T h200 EN0 l0 c0
  go_enter Tryd.func15, Tryd.ntmps15
  go_wp2_with fail
  with_reducible refine HEN0.out.mono ?_
  rintro z w1 ⟨v1, rfl, o1, b1⟩
  clear HEN0
  obtain ⟨ab, mb, cb, rfl, hmb⟩ : ∃ a m c, v1 = .slice a m c ∧ m = (frameE 0 (bodyE (jobE p))).length := by obtain ⟨a, c, h, _⟩ := o1.sl; exact ⟨_, _, _, h, rfl⟩
  have HO1 := Lib.hid o1
  have HB1 := Lib.hid b1
  have HMB := Lib.hid hmb
  clear o1 b1 hmb
  go_wp2_with fail
  refine (num_ok 0 w1).mono ?_
  rintro e w9 ⟨rfl, rfl⟩
  have OL : OwnIB (w1.alloc (.cells #[.int .i64 0] 3)) w.heap.size (.slice (some ⟨w1.heap.size, 0, none⟩) 1 1) [0] := ⟨World.ownsRow_lit w1 #[.int .i64 0] 1 HB1.out.size (by unfold maxLen; omega) rfl, Nat.le_trans HB1.out.size (below_alloc w1 _).size⟩
  have AL := below_alloc w1 (.cells #[.int .i64 0] 3)
  have HOL := Lib.hid OL
  have HO2 := Lib.hid (HO1.out.below AL)
  have HB2 := Lib.hid (HB1.out.trans (AL.mono HB1.out.size))
  clear OL AL
  have HR0 : Hid (CdRel w p L (.slice ab mb cb) (.slice (some ⟨w1.heap.size, 0, none⟩) 1 1) (.int .i64 0) (w1.alloc (.cells #[.int .i64 0] 3))) := Lib.hid ⟨0, mb, 1, ab, _, cb, 1, Nat.zero_le _, rfl, rfl, rfl, by rw [List.take_zero, frs, frs, List.append_nil]; exact HMB.out, by rw [List.take_zero, frs, frs, List.append_nil]; exact HO2.out, by rw [ats_zero]; exact HOL.out, HB2.out⟩
  clear HOL HO2 HB2 HO1 HB1
  go_wp2_with fail
  go_loopw [7, 9, 10] (fun vb va i wr => CdRel w p L vb va i wr) (fun _ _ i _ => n - (intOf i).toNat)
  case atStart => exact HR0.out
  case round =>
    clear HR0
    obtain ⟨k, mb, mk, ab, ak, cb, ck, hk, rfl, rfl, rfl, hmb, OB, OK, BW⟩ := hrel
    have HMB := Lib.hid hmb
    have HOB := Lib.hid OB
    have HOK := Lib.hid OK
    have HBW := Lib.hid BW
    have HK := Lib.hid hk
    clear hmb OB OK BW hk
    by_cases hlt : k < n
    · have kl : k < L.length := by have := HN.out; omega
      have HKL := Lib.hid kl
      have ik : (k : Int) < (n : Int) := by omega
      obtain ⟨b1, e1, q1, _, _, r1⟩ := H.out
      injection q1 with q1 q2 q3
      clear q2 q3
      subst q1
      obtain ⟨g, off, rfl, hg, s1⟩ := r1.resolve_left (by rintro rfl; simp at kl)
      obtain ⟨u, hu, hi⟩ := s1 k L[k] (List.getElem?_eq_getElem kl)
      have HX := Lib.hid (fun j x (hx : (entV L[k] u)[j]? = some x) => (show wr.cell? ⟨g, off + k * 8 + j, none⟩ = some x by rw [Nat.mul_comm k 8]; exact ((bcell HBW.out).1 g (off + 8 * k + j) hg).trans (hu j x hx)))
      have EI := Lib.hid (HE.out L[k] (List.getElem_mem kl))
      have EM := Lib.hid (HMy.out L[k] (List.getElem_mem kl))
      have t1 := Lib.hid (show L.take (k + 1) = L.take k ++ [L[k]] from List.take_succ_eq_append_getElem kl)
      have SI := hi.below HBW.out
      have EN := enc_ok ((k : Int) + 1) L[k] EI.out SI (HT.out.below HBW.out)
      have lk : encL ((k : Int) + 1) L[k] = frameE (k + 1) (bodyE L[k]) := by unfold encL; rw [if_neg (by have := H200.out; omega), if_pos ((may_iff _).2 EM.out)]; rfl
      have xk : encX ((k : Int) + 1) L[k] = 0 := by unfold encX; rw [if_neg (by have := H200.out; omega), if_pos ((may_iff _).2 EM.out)]
      rw [lk, xk] at EN
      have HEN := Lib.hid EN
      clear s1 hu hi r1 hg SI EN lk xk
      obtain ⟨e, he⟩ : ∃ e, e = L[k] := ⟨_, rfl⟩
      rw [← he] at HX EI EM t1 HEN
      clear he kl
      have flen : (frameE (k + 1) (bodyE e)).length = (bodyE e).length + 15 := frameE_len _ _
      have bpos := body_pos (e := e)
      have blen := body_len EM.out
      obtain ⟨FR, hFR⟩ : ∃ FR, FR = frameE (k + 1) (bodyE e) := ⟨_, rfl⟩
      rw [← hFR] at HEN flen
      have HFR := Lib.hid hFR
      clear hFR
      obtain ⟨ek, epr, enm, eru, ere, eli, esu, einn⟩ := e
      unfold eA at HEN
      simp only at HEN
      unfold entV at HX
      simp only at HX
      obtain ⟨s, hs⟩ : ∃ s, s = bs enm := ⟨_, rfl⟩
      rw [← hs] at HEN HX
      clear hs
      have x0 := HX.out 0 _ rfl
      rw [Nat.add_zero] at x0
      have x1 := HX.out 1 _ rfl
      have x2 := HX.out 2 _ rfl
      have x3 := HX.out 3 _ rfl
      have x4 := HX.out 4 _ rfl
      have x5 := HX.out 5 _ rfl
      have x6 := HX.out 6 _ rfl
      have x7 := HX.out 7 _ rfl
      go_wp2_with fail
      with_reducible refine HEN.out.mono ?_
      rintro z w2 ⟨v2, rfl, o2, b2⟩
      clear x0 x1 x2 x3 x4 x5 x6 x7 HEN HX
      obtain ⟨m2, hm2⟩ : ∃ m2, m2 = FR.length := ⟨_, rfl⟩
      obtain ⟨fa, fm, fc, rfl, hfm⟩ : ∃ a m c, v2 = .slice a m c ∧ m = m2 := by obtain ⟨a, c, h, _⟩ := o2.sl; exact ⟨_, _, _, h, hm2.symm⟩
      subst hfm
      have m16 : ¬ (fm : Int) < 16 := by omega
      have m16' : (16 : Int) ≤ (fm : Int) := by omega
      have m415 : fm ≤ 415 := by omega
      have B2 : Below w.heap.size w w2 := HBW.out.trans (b2.mono HBW.out.size)
      have HB2 := Lib.hid B2
      have HOB2 := Lib.hid (HOB.out.below b2)
      have HOK2 := Lib.hid (HOK.out.below b2)
      have HS2 := Lib.hid o2
      have HFM := Lib.hid hm2
      have H415 := Lib.hid m415
      clear flen bpos blen B2 o2 b2 HOB HOK HBW hm2 m415
      go_wp2_with fail
      refine (num_ok 0 w2).mono ?_
      rintro z w9 ⟨rfl, rfl⟩
      have AL := below_alloc w2 (.cells #[.int .i64 (mb : Int)] 3)
      have HOB3 := Lib.hid (HOB2.out.below AL)
      have HOK3 := Lib.hid (HOK2.out.below AL)
      have HS3 := Lib.hid (HS2.out.below AL)
      have HB3 := Lib.hid (HB2.out.trans (AL.mono HB2.out.size))
      have NL : SlI (w2.alloc (.cells #[.int .i64 (mb : Int)] 3)) (.slice (some ⟨w2.heap.size, 0, none⟩) 1 1) [(mb : Int)] := ⟨_, 1, rfl, Nat.le_refl _, by omega, (fun e => by cases e), Or.inr ⟨w2.heap.size, 0, rfl, by simp, fun j y hy => by
        have hj : j = 0 := by have := (List.getElem?_eq_some_iff.1 hy).1; simpa [iV] using this
        subst hj
        cases hy
        rw [World.cell?_alloc_at _ _ _ _ rfl]; rfl⟩⟩
      have HNL := Lib.hid NL
      clear NL AL HOB2 HOK2 HS2 HB2
      go_wp2_with (at_builtin; refine wp_apvI rfl _ _ rfl w.heap.size _ _ rfl HOK3.out _ [(mb : Int)] rfl HNL.out (by rw [ats_len]; have := H200.out; have := HKL.out; simp; omega) ?_)
      intro v4 w4 h1 h2 h3
      have HOK4 := Lib.hid h1
      have HOB4 := Lib.hid (HOB3.out.keepT (by decide) h3 h2.size)
      have HB4 := Lib.hid (HB3.out.trans h2)
      have HS4 := Lib.hid (HS3.out.keepT (by decide) h3 h2.size)
      obtain ⟨ka, kc, rfl⟩ : ∃ a c, v4 = .slice a (k + 2) c := by
        obtain ⟨a, c, h, _⟩ := h1.sl.form
        rw [List.length_append, ats_len] at h
        exact ⟨a, c, h⟩
      clear h1 h2 h3 HOK3 HOB3 HS3 HB3 HNL
      have hbig : (frs 0 (jobE p :: L.take k)).length + FR.length ≤ 140737488355328 := by
        have h1 := frs_len 0 (jobE p :: L.take k) (fun e he => by
          rcases List.mem_cons.1 he with rfl | he
          · exact jobE_may p
          · exact HMy.out e (List.mem_of_mem_take he))
        rw [List.length_cons, List.length_take] at h1
        have := HFM.out
        have := H415.out
        have := H200.out
        omega
      have HBIG := Lib.hid hbig
      clear hbig
      go_wp2_with (at_builtin; refine wp_appv rfl _ _ rfl w.heap.size _ _ rfl HOB4.out _ FR rfl HS4.out.sl HBIG.out ?_)
      intro v5 w5 h1 h2 h3
      have HOK5 := Lib.hid (HOK4.out.keepT (by decide) (keepB_T h3) h2.size)
      have HB5 := Lib.hid (HB4.out.trans h2)
      have hfr : frs 0 (jobE p :: L.take (k + 1)) = frs 0 (jobE p :: L.take k) ++ FR := by
        rw [t1.out, ← List.cons_append, frs_snoc, HFR.out]
        congr 2
        rw [List.length_cons, List.length_take]
        have := HKL.out
        omega
      have hat : ats (jobE p :: L) (k + 1) = ats (jobE p :: L) k ++ [(mb : Int)] := by
        rw [ats_snoc, HMB.out]; rfl
      obtain ⟨na, nm, nc, rfl, hnm⟩ : ∃ a m c, v5 = .slice a m c ∧ m = (frs 0 (jobE p :: L.take k) ++ FR).length := by obtain ⟨a, c, h, _⟩ := h1.sl; exact ⟨_, _, _, h, rfl⟩
      have KEY := Lib.hid (show CdRel w p L (.slice na nm nc) (.slice ka (k + 2) kc) (.int .i64 ((k : Int) + 1)) w5 from ⟨k + 1, nm, k + 2, na, ka, nc, kc, HKL.out, by go_num, rfl, rfl, by rw [hfr]; exact hnm, by rw [hfr]; exact h1, by rw [hat]; exact HOK5.out, HB5.out⟩)
      clear h1 h2 h3 hfr hat hnm
      go_wp2_with fail
      refine ⟨?_, by simp [intOf]; have := HKL.out; omega⟩
      repeat (refine Exists.intro _ ?_)
      first | exact ⟨rfl, KEY.out⟩ | exact ⟨KEY.out, rfl⟩ | exact KEY.out
    · have hpr : L.take k = L := List.take_of_length_le (by have := HN.out; omega)
      have hkn : k = L.length := by have := HN.out; have := HK.out; omega
      have HPR := Lib.hid hpr
      have HKN := Lib.hid hkn
      clear hpr hkn
      go_wp2_with fail
      go_ret3
      exact ⟨_, _, rfl, by rw [← HPR.out]; exact HOB.out, by rw [← HKN.out]; exact HOK.out, HBW.out⟩
theorem coded_ok (w : World) (p : Nat) (hp : p < 18446744073709551616) (L : List Ent) (hE : ∀ e ∈ L, EntIs e) (hM : ∀ e ∈ L, May e) (h200 : L.length ≤ 200) {v : Value} (h : EsAt w v L) (T : Tabs w) : Calls Tryd.prog 15 #[.int .u64 (p : Int), v] w (CdP w p L) := by
  obtain ⟨a, c, rfl, h1, h2, h3⟩ := h
  exact coded_raw w p hp L hE hM h200 a _ c rfl ⟨a, c, rfl, h1, h2, h3⟩ T
theorem flatE_len : ∀ (l : List Ent) (us : List Value), us.length = l.length → (flatE l us).length = l.length * 8
  | [], [], _ => rfl
  | [], _ :: _, h => by simp at h
  | _ :: _, [], h => by simp at h
  | e :: l, u :: us, h => by
    rw [flatE, List.length_append, flatE_len l us (by simpa using h), List.length_cons]
    simp [entV]
    omega
theorem flatE_one : ∀ (l : List Ent) (us : List Value), (∀ u ∈ us, u.oneCell' = true) → ∀ y ∈ flatE l us, y.oneCell' = true
  | [], _, _, y, hy => by simp [flatE] at hy
  | _ :: _, [], _, y, hy => by simp [flatE] at hy
  | e :: l, u :: us, h, y, hy => by
    rw [flatE, List.mem_append] at hy
    rcases hy with hy | hy
    · simp only [entV, List.mem_cons, List.not_mem_nil, or_false] at hy
      rcases hy with rfl | rfl | rfl | rfl | rfl | rfl | rfl | rfl
      all_goals first | rfl | exact h _ (by simp)
    · exact flatE_one l us (fun x hx => h x (by simp [hx])) y hy
/-- job: the list with its first entry. -/
def JbP (w : World) (B : Nat) (M : List Ent) (e : Ending) (w' : World) : Prop := ∃ v us, e = .returned v ∧ OwnEs w' B v M us ∧ Below w.heap.size w w'
set_option maxHeartbeats 2400000 in
theorem job_ok (w : World) (p : Nat) (L : List Ent) (h200 : L.length ≤ 200) (B : Nat) (v : Value) (us : List Value) (O : OwnEs w B v L us) : Calls Tryd.prog 18 #[.int .u64 (p : Int), v] w (JbP w B (jobE p :: L)) := by
  have hu : ∀ u ∈ us, u.oneCell' = true := fun u hu => by
    obtain ⟨i, hi, rfl⟩ := List.mem_iff_getElem.1 hu
    obtain ⟨a, c, h, _⟩ := (O.ins i (L[i]'(by rw [← O.len]; exact hi)) us[i] (List.getElem?_eq_getElem (by rw [← O.len]; exact hi)) (List.getElem?_eq_getElem hi)).sl.form
    rw [h]; rfl
  have HO := Lib.hid O
  have HU := Lib.hid hu
  have H200 := Lib.hid h200
  clear O hu h200
  have AL := below_alloc w (.cells #[.int .u8 1, .int .u64 (p : Int), .string ⟨#[]⟩, .int .i64 0, .int .i64 0, .int .i64 0, .int .u32 0, .slice none 0 0] 27)
  have R1 : (w.alloc (.cells #[.int .u8 1, .int .u64 (p : Int), .string ⟨#[]⟩, .int .i64 0, .int .i64 0, .int .i64 0, .int .u32 0, .slice none 0 0] 27)).ownsRow w.heap.size 27 8 (.slice (some ⟨w.heap.size, 0, none⟩) 1 1) 1 (entV (jobE p) (.slice none 0 0)) := World.ownsRow_lit w #[.int .u8 1, .int .u64 (p : Int), .string ⟨#[]⟩, .int .i64 0, .int .i64 0, .int .i64 0, .int .u32 0, .slice none 0 0] 1 (Nat.le_refl _) (by unfold maxLen; omega) rfl
  have HAL := Lib.hid AL
  have HR1 := Lib.hid R1
  clear AL R1
  obtain ⟨i0, hi, hz0, hz1, hz2⟩ := info_parts info27
  have HI := Lib.hid hi
  have HZ0 := Lib.hid hz0
  have HZ1 := Lib.hid hz1
  have HZ2 := Lib.hid hz2
  clear hi hz0 hz1 hz2
  rcases HO.out.own.2 with ⟨hv, hn⟩ | ⟨g, cap, cur, hv, hb, hg, h1, h2, h3, h4⟩
  · have hL : L = [] := List.eq_nil_of_length_eq_zero hn
    subst hL hv
    clear hn
    go_enter Tryd.func18, Tryd.ntmps18
    go_wp2_with (at_builtin; refine wpList_append_own_none rfl _ _ 39 rfl w.heap.size 27 i0 8 Tryd.underlying39 HI.out _ 1 _ rfl HR1.out rfl ?_)
    go_wp2_with fail
    go_ret
    refine ⟨_, [.slice none 0 0], rfl, ⟨own_le HR1.out HO.out.low, rfl, fun i e u he hu => ?_, Nat.le_trans HO.out.low HAL.out.size⟩, HAL.out⟩
    have hi : i = 0 := by have := (List.getElem?_eq_some_iff.1 he).1; simpa using this
    subst hi
    simp at he hu
    subst he hu
    exact OwnIB.nil _ _ (Nat.le_trans HO.out.low HAL.out.size)
  · subst hv
    have hne : ¬ L = [] ∨ L = [] := (Classical.em (L = [])).symm
    have HC : Hid (∀ (j : Nat) (y : Value), (flatE L us)[j]? = some y → (w.alloc (.cells #[.int .u8 1, .int .u64 (p : Int), .string ⟨#[]⟩, .int .i64 0, .int .i64 0, .int .i64 0, .int .u32 0, .slice none 0 0] 27)).cell? ((⟨g, 0, none⟩ : Addr).add j) = some y) := Lib.hid (fun j y hy => by
      have := (HO.out.below HAL.out).own.cells (g := g) rfl j y hy
      exact this)
    have HW : Hid (∀ y ∈ flatE L us, y.oneCell' = true) := Lib.hid (flatE_one L us HU.out)
    clear hb hg h1 h2 h3 h4 hne
    obtain ⟨n, hn⟩ : ∃ n, n = L.length := ⟨_, rfl⟩
    rw [← hn]
    have HN := Lib.hid hn
    clear hn
    go_enter Tryd.func18, Tryd.ntmps18
    go_wp2_with (at_builtin; refine wpList_append_own _ rfl _ _ 39 rfl w.heap.size 27 i0 _ 8 _ Tryd.underlying39 HI.out HZ0.out HZ1.out HZ2.out rfl (by decide) _ 1 (entV (jobE p) (.slice none 0 0)) rfl HR1.out ⟨g, 0, none⟩ n cap (flatE L us) rfl (by rw [flatE_len L us HO.out.len, HN.out]) HC.out HW.out (by have := HN.out; have := H200.out; unfold maxLen; omega) (by have := HN.out; have := H200.out; omega) HAL.out.size ?_)
    intro v' w' r1 r2 _
    have hsz := r2.size
    have B0 : Below w.heap.size (w.alloc (.cells #[.int .u8 1, .int .u64 (p : Int), .string ⟨#[]⟩, .int .i64 0, .int .i64 0, .int .i64 0, .int .u32 0, .slice none 0 0] 27)) w' := (Below.refl _ _).grown r2 HAL.out.size (fun k hk => (HR1.out.lt k hk).1)
    have K := Lib.hid (HAL.out.trans B0)
    have HRR := Lib.hid r1
    clear r1 r2 B0 hsz
    go_wp2_with fail
    go_ret
    refine ⟨_, .slice none 0 0 :: us, rfl, ⟨?_, by rw [List.length_cons, List.length_cons, HO.out.len], ?_, Nat.le_trans HO.out.low K.out.size⟩, K.out⟩
    · have := own_le HRR.out HO.out.low
      rw [List.length_cons, ← HN.out, Nat.add_comm]
      exact this
    · intro i e u he hu
      cases i with
      | zero =>
        simp at he hu
        subst he hu
        exact OwnIB.nil _ _ (Nat.le_trans HO.out.low K.out.size)
      | succ i => exact (HO.out.ins i e u (by simpa using he) (by simpa using hu)).below K.out
end
end
section
open Go.RowKit
set_option maxRecDepth 100000

theorem frsOk_of : ∀ (n : Nat) (l : List Ent), 1 ≤ n → n + l.length ≤ 4294967295 → (∀ e ∈ l, May e ∧ EntIs e ∧ e.k ≠ 1) → FrsOk n l
  | _, [], _, _, _ => trivial
  | n, e :: l, h1, h2, h => by
    rw [List.length_cons] at h2
    obtain ⟨a, b, c⟩ := h e (by simp)
    exact ⟨⟨a, b, ⟨fun x => absurd x c, fun x => by omega⟩, by omega⟩, frsOk_of (n + 1) l (by omega) (by omega) fun x hx => h x (by simp [hx])⟩
theorem frsOk_job {p : Nat} (hp : p < 18446744073709551616) (L : List Ent) (hE : ∀ e ∈ L, EntIs e) : FrsOk 0 (jobE p :: pr L) :=
  ⟨⟨jobE_may p, jobE_is hp, ⟨fun _ => rfl, fun _ => rfl⟩, by omega⟩, frsOk_of 1 _ (Nat.le_refl _) (by have := pr_le L; omega) fun e he => ⟨(pr_mem he).2.2, hE e (pr_mem he).1, (pr_mem he).2.1⟩⟩
theorem job_is {p : Nat} (hp : p < 18446744073709551616) (L : List Ent) (hE : ∀ e ∈ L, EntIs e) : ∀ e ∈ jobE p :: pr L, EntIs e := fun e he => by
  rcases List.mem_cons.1 he with rfl | he
  · exact jobE_is hp
  · exact hE e (pr_mem he).1
theorem frs_small (p : Nat) (L : List Ent) : (frs 0 (jobE p :: pr L)).length ≤ 90000 := by
  have h := frs_len 0 (jobE p :: pr L) (fun e he => by
    rcases List.mem_cons.1 he with rfl | he
    · exact jobE_may p
    · exact (pr_mem he).2.2)
  have := pr_le L
  rw [List.length_cons] at h
  omega
set_option maxHeartbeats 2400000 in
theorem tempRound_walk (w : World) (p : Nat) (hp : p < 18446744073709551616) (L : List Ent) (hE : ∀ e ∈ L, EntIs e) (v : Value) (h : EsAt w v L) (T : Tabs w) : Calls Tryd.prog 4 #[.int .u64 (p : Int), v] w (RetTrue w) := by
  have HPR : Hid (Calls Tryd.prog 14 #[v] w (PrP w L)) := Lib.hid (by
    obtain ⟨a, c, rfl, h1, h2, h3⟩ := h
    exact proper_raw w L hE a _ c rfl (by omega) ⟨a, c, rfl, h1, h2, h3⟩)
  have HE := Lib.hid hE
  have HT := Lib.hid T
  have HP := Lib.hid hp
  clear h hE T hp
  go_enter Tryd.func4, Tryd.ntmps4
  go_wp2_with fail
  with_reducible refine HPR.out.mono ?_
  rintro z w1 ⟨v1, us1, rfl, O1, b1⟩
  clear HPR
  have HCD := Lib.hid (coded_ok w1 p HP.out (pr L) (fun e he => HE.out e (pr_mem he).1) (fun e he => (pr_mem he).2.2) (pr_le L) O1.es (HT.out.below b1))
  have HO1 := Lib.hid O1
  have HB1 := Lib.hid b1
  clear O1 b1
  go_wp2_with fail
  with_reducible refine HCD.out.mono ?_
  rintro z w2 ⟨vb, va, rfl, OB, OA, b2⟩
  clear HCD
  obtain ⟨ba, bm, bc, rfl, hbm⟩ : ∃ a m c, vb = .slice a m c ∧ m = (frs 0 (jobE p :: pr L)).length := by obtain ⟨a, c, h, _⟩ := OB.sl; exact ⟨_, _, _, h, rfl⟩
  have HB2 := Lib.hid (HB1.out.trans (b2.mono HB1.out.size))
  have D := decode_ok w2 _ _ OB.slc (by have := frs_small p L; omega) (HT.out.below HB2.out)
  have hd : decC (frs 0 (jobE p :: pr L)) 0 = (jobE p :: pr L, bm, 0) := by
    have := dec_frs 0 (jobE p :: pr L) [] (frsOk_job HP.out L HE.out)
    rw [List.append_nil, decC_nil] at this
    rw [this, hbm]
    simp
  unfold DeP at D
  rw [hd] at D
  have HD := Lib.hid D
  have HO2 := Lib.hid (HO1.out.below b2)
  have ibm : (0 : Int) ≤ (bm : Int) := by omega
  clear D OA OB b2 hd hbm HO1 HB1
  go_wp2_with fail
  with_reducible refine HD.out.mono ?_
  rintro z w3 ⟨v3, us3, rfl, E3, b3⟩
  clear HD
  have HB3 := Lib.hid (HB2.out.trans (b3.mono HB2.out.size))
  have HE3 := Lib.hid E3.es
  have HJ := Lib.hid (job_ok w3 p (pr L) (pr_le L) _ _ _ (HO2.out.below b3))
  clear E3 b3 HO2 HB2
  go_wp2_with fail
  refine (num_ok _ w3).mono ?_
  rintro e w9 ⟨rfl, rfl⟩
  go_wp2_with fail
  with_reducible refine HJ.out.mono ?_
  rintro z w4 ⟨v4, us4, rfl, E4, b4⟩
  clear HJ
  have HEN := Lib.hid (entries_ok w4 _ _ (job_is HP.out L HE.out) (HE3.out.below b4) E4.es true (by simp))
  have HB4 := Lib.hid (HB3.out.trans (b4.mono HB3.out.size))
  clear E4 b4 HE3 HB3
  go_wp2_with fail
  with_reducible refine HEN.out.mono ?_
  rintro z w5 ⟨rfl, b5⟩
  go_wp2_with fail
  go_ret
  exact ⟨rfl, HB4.out.trans (b5.mono HB4.out.size)⟩
end
end Go.Proofs.YtlbekgcfafofdaaDoor
