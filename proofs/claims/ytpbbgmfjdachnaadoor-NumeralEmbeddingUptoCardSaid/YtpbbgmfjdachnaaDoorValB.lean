/- numeral's embedValue: below 0. -/
import Derived.Test.YtpbbgmfjdachnaaDoorValE
namespace Go.Proofs.YtpbbgmfjdachnaaDoor
open Go.RowKit

set_option maxRecDepth 100000
set_option maxHeartbeats 1600000 in
theorem embedBelow_ok (kind : Nat) (hk64 : kind ≠ 64) (v : Val) (w : World) (h1 : v.cls = 64) (_ : v.rank ≤ 255) (hw : v.whole.length ≤ 10000000) (hf : v.frac.length ≤ 10000000) (he : -4611686018427387904 ≤ v.exp ∧ v.exp < 4611686018427387904) :
    Calls Tryd.prog 46 #[.int .u16 kind, valV v] w (RetBelow w (.string (bs (valE (kind == 64) v)))) := by
  have EV := Lib.hid (show valE (kind == 64) v = 64 :: (sizeE (kind == 64) v).map (255 - ·) by unfold valE; rw [if_neg (by rw [h1]; decide), if_pos h1, h1]; rfl)
  have HW := Lib.hid (show (bs v.whole).size ≤ 10000000 by rw [bs_size]; exact hw)
  have HF := Lib.hid (show (bs v.frac).size ≤ 10000000 by rw [bs_size]; exact hf)
  have HD := Lib.hid (show v.digits = (bs v.whole).data.toList ++ (bs v.frac).data.toList by rw [bs_list, bs_list]; rfl)
  unfold valV
  rw [h1]
  have HB := Lib.hid ((Below.refl w.heap.size w).alloc (Nat.le_refl _) (Obj.cells #[.int .u8 64, .int .i64 v.rank, .int .i64 v.exp, .string (bs v.whole), .string (bs v.frac)] 65))
  have HG : (w.alloc (Obj.cells #[.int .u8 64, .int .i64 v.rank, .int .i64 v.exp, .string (bs v.whole), .string (bs v.frac)] 65)).heap[w.heap.size]? = some (.cells #[.int .u8 64, .int .i64 v.rank, .int .i64 v.exp, .string (bs v.whole), .string (bs v.frac)] 65 (0, 0)) := heap_alloc_new w _
  have HGG := Lib.hid HG
  clear HG h1 hw hf
  generalize bs v.whole = W at *
  generalize bs v.frac = F at *
  have HC := Lib.hid (fun (w1 : World) (h : w1.heap[w.heap.size]? = some (.cells #[.int .u8 64, .int .i64 v.rank, .int .i64 v.exp, .string W, .string F] 65 (0, 0))) =>
    (⟨cell_of_row w1 w.heap.size 0 _ 65 (0, 0) h, cell_of_row w1 w.heap.size 1 _ 65 (0, 0) h, cell_of_row w1 w.heap.size 2 _ 65 (0, 0) h, cell_of_row w1 w.heap.size 3 _ 65 (0, 0) h, cell_of_row w1 w.heap.size 4 _ 65 (0, 0) h⟩ :
      w1.cell? ⟨w.heap.size, 0, none⟩ = some (.int .u8 64) ∧ w1.cell? ⟨w.heap.size, 1, none⟩ = some (.int .i64 v.rank) ∧ w1.cell? ⟨w.heap.size, 2, none⟩ = some (.int .i64 v.exp) ∧ w1.cell? ⟨w.heap.size, 3, none⟩ = some (.string W) ∧ w1.cell? ⟨w.heap.size, 4, none⟩ = some (.string F)))
  have hk : ((kind : Int) == 64) = false := by simp; omega
  obtain ⟨he1, he2⟩ := he
  obtain ⟨n, hn⟩ : ∃ n : Nat, v.exp + 4611686018427387904 = n := ⟨(v.exp + 4611686018427387904).toNat, by omega⟩
  have HN := Lib.hid hn
  have hn64 : (n : Int) < 9223372036854775808 := by omega
  go_enter Tryd.func46, Tryd.ntmps46
  go_wp2_with fail
  generalize w.alloc (Obj.cells #[.int .u8 64, .int .i64 v.rank, .int .i64 v.exp, .string W, .string F] 65) = w0 at *
  have HS := Lib.hid (lt_of_heap HGG.out)
  have C72 := Lib.hid (fun W1 => count_ok W F W1 (by have := HW.out; omega) (by have := HF.out; omega))
  have hbw : Below (w.heap.size + 1) w0 w0.drew := (Below.refl _ _).drew
  have hs1 : w.heap.size + 1 ≤ w0.heap.size := HS.out
  have hba : Below (w.heap.size + 1) w0 (w0.alloc (.cells #[.int .u8 64] 5)).drew := ((Below.refl _ _).alloc hs1 _).drew
  have SB := Lib.hid (fun (X : World) (h : Below (w.heap.size + 1) w0 X) => HC.out X ((h.block w.heap.size (by omega)).trans HGG.out))
  have SK := Lib.hid (fun (X : World) (h : Below (w.heap.size + 1) w0 X) => (⟨(SB.out X h).1, (SB.out X h).2.2.2.1, (SB.out X h).2.2.2.2⟩ : X.cell? ⟨w.heap.size, 0, none⟩ = some (.int .u8 64) ∧ X.cell? ⟨w.heap.size, 3, none⟩ = some (.string W) ∧ X.cell? ⟨w.heap.size, 4, none⟩ = some (.string F)))
  obtain ⟨g0, g1, g2, g3, g4⟩ := SB.out w0.drew hbw
  have hsum : IntKind.i64.wrap ((W.size : Int) + (F.size : Int) + 11) = (W.size : Int) + (F.size : Int) + 11 := by
    rw [IntWalk.i64_in _ (by have := HW.out; have := HF.out; omega)]
  go_region_held3 (fun w' => w'.cell? ⟨w.heap.size, 0, none⟩ = some (.int .u8 64) ∧ w'.cell? ⟨w.heap.size, 3, none⟩ = some (.string W) ∧ w'.cell? ⟨w.heap.size, 4, none⟩ = some (.string F))
    (first | exact SK.out _ b8 | exact SK.out _ b9 | exact SK.out _ b7 | exact SK.out _ (b7.alloc (by omega) _) | exact SK.out _ b5 | exact SK.out _ (b5.alloc (by omega) _) | exact SK.out _ hba | exact SK.out _ hbw | go_keep)
    ((first
      | (go_at_call 72; ((with_reducible refine (C72.out w0.drew).mono ?_); rintro e w5 ⟨rfl, hbb⟩; have b5 := hbw.trans (hbb.mono hs1); have hz5 : w.heap.size + 1 ≤ w5.heap.size := (by have h1 := b5.size; have h2 := HS.out; omega); obtain ⟨v7, w7, hm7, ho7, hb7⟩ := make_run w5 (w.heap.size + 1) hz5 (W.size + F.size + 11) (↑W.size + ↑F.size + 11) (by omega) (by have := HW.out; have := HF.out; omega); have b7 := b5.trans (hb7.mono hz5); have hz7 := ho7.2; obtain ⟨v9, w9, hm9, ho9, hb9⟩ := make_run (w5.alloc (.cells #[.int .u8 64] 5)) (w.heap.size + 1) (Nat.le_trans hz5 (by simp)) (W.size + F.size + 11) (↑W.size + ↑F.size + 11) (by omega) (by have := HW.out; have := HF.out; omega); have b9 := (b5.alloc hz5 (.cells #[.int .u8 64] 5)).trans (hb9.mono (Nat.le_trans hz5 (by simp))); have kb9 : w9.cell? ⟨w5.heap.size, 0, none⟩ = some (.int .u8 64) := (by rw [(bcell hb9).1 _ _ (by simp)]; simp)))
      | (go_at_call 72; ((with_reducible refine (C72.out ((w0.alloc (.cells #[.int .u8 64] 5)).drew)).mono ?_); rintro e w5 ⟨rfl, hbb⟩; have b5 := hba.trans (hbb.mono (Nat.le_trans hs1 (by simp))); have hz5 : w.heap.size + 1 ≤ w5.heap.size := (by have h1 := b5.size; have h2 := HS.out; omega); obtain ⟨v7, w7, hm7, ho7, hb7⟩ := make_run w5 (w.heap.size + 1) hz5 (W.size + F.size + 11) (↑W.size + ↑F.size + 11) (by omega) (by have := HW.out; have := HF.out; omega); have b7 := b5.trans (hb7.mono hz5); have hz7 := ho7.2; have kb9 : w7.cell? ⟨w0.heap.size, 0, none⟩ = some (.int .u8 64) := (by rw [(bcell hb7).1 _ _ (by have := hbb.size; simp at this; omega), (bcell hbb).1 _ _ (by simp)]; simp)))
      | (refine step_app rfl _ _ rfl (w.heap.size + 1) _ [] rfl (by first | assumption | exact OwnB.alloc (by assumption) _) _ 64 64 rfl rfl (by first | assumption | (simp; done)) (by simp) ?_; intro v8 w8 h8 hb8 hk8; have b8 : Below (w.heap.size + 1) w0 w8 := (by first | exact b9.trans hb8 | exact b7.trans hb8 | exact (b7.alloc (by omega) _).trans hb8))))
  all_goals
    have H8 := Lib.hid h8
    have HB8 := Lib.hid b8
    obtain ⟨e0, e1, e2, e3, e4⟩ := SB.out w8 HB8.out
    clear h8 b8 hbw hba hb8 hk8 g0 g1 g2 g3 g4
    go_wp2_with fail
    refine (appendCount_ok (w.heap.size + 1) v8 [64] n (by omega) w8 H8.out (by simp)).mono ?_
    rintro e wa ⟨va, rfl, p1, p2, p3⟩
    have P1 := Lib.hid p1
    have P2 := Lib.hid (HB8.out.trans p2)
    clear p1 p2 p3 e0 e1 e2 e3 e4 hn hn64
    obtain ⟨e0, e1, e2, e3, e4⟩ := SB.out wa P2.out
    go_wp2_with fail
    refine (digAppend_ok (w.heap.size + 1) va ([64] ++ beN 8 n) W F wa P1.out (by simp [beN_len]) (Nat.le_trans HW.out (by decide)) (Nat.le_trans HF.out (by decide))).mono ?_
    rintro e wb ⟨vb, rfl, p1, p2, p3⟩
    have Q1 := Lib.hid p1
    have Q2 := Lib.hid (P2.out.trans p2)
    have HLQ := Lib.hid (show ([64] ++ beN 8 n ++ (W.data.toList ++ F.data.toList)).length + ([0] : List UInt8).length ≤ 1099511627776 by have a1 := HW.out; have a2 := HF.out; simp [beN_len]; omega)
    clear p1 p2 p3 e0 e1 e2 e3 e4
    obtain ⟨e0, e1, e2, e3, e4⟩ := SB.out wb Q2.out
    go_wp2_with (at_builtin; refine wp_app rfl _ _ rfl (w.heap.size + 1) _ _ rfl Q1.out [0] _ rfl rfl HLQ.out ?_)
    intro vc wc p1 p2 p3
    obtain ⟨L, hL⟩ : ∃ L, L = beN 8 n ++ (W.data.toList ++ (F.data.toList ++ [0])) := ⟨_, rfl⟩
    have EF := Lib.hid (show valE (kind == 64) v = 64 :: L.map (255 - ·) by
      have hk' : (kind == 64) = false := by simpa using hk64
      have hn' : (v.exp + 4611686018427387904).toNat = n := by have := HN.out; omega
      rw [EV.out, hL]
      unfold sizeE
      rw [hk', hn', HD.out]
      simp)
    have p1' : OwnB wc (w.heap.size + 1) vc (64 :: L) := by rw [hL]; simpa using p1
    obtain ⟨M, hM⟩ : ∃ M : List UInt8, M = 64 :: L := ⟨_, rfl⟩
    rw [← hM] at p1'
    have hlen : M.length = L.length + 1 := by rw [hM]; rfl
    obtain ⟨g, cap, rfl, hg1, hg2⟩ := p1'.1.form (by omega)
    have S1 := Lib.hid p1'
    have HLL := Lib.hid (show M.length ≤ 1000000000 by rw [hlen, hL]; have a1 := HW.out; have a2 := HF.out; simp [beN_len]; omega)
    have HMP := Lib.hid (show 1 ≤ M.length by omega)
    have R2 := Lib.hid (Q2.out.trans p2)
    have EM := Lib.hid (show bs (turnK M.length M) = bs (valE (kind == 64) v) by rw [EF.out, hlen, hM, turnK_all])
    clear p1 p1' p2 p3 e0 e1 e2 e3 e4 hL hg2 hM hlen
    obtain ⟨e0, e1, e2, e3, e4⟩ := SB.out wc R2.out
    go_wp2_with fail
    go_loopw [6] (fun i wq => TuRel w0 (w.heap.size + 1) g cap M i wq) (fun i _ => M.length - (intOf i).toNat)
    case atStart => exact ⟨1, by omega, HMP.out, rfl, by rw [turnK_one]; exact S1.out, R2.out⟩
    case round =>
      obtain ⟨k, hk1, hk2, rfl, ho, hb⟩ := hrel
      have HO := Lib.hid ho
      have HBB := Lib.hid hb
      clear ho hb
      have hML := HLL.out
      by_cases hlt : k < M.length
      · obtain ⟨x, hx, hby, c1, c2⟩ : ∃ x : Nat, x = M[k].toNat ∧ x < 256 ∧ wr.cell? ⟨g, k, none⟩ = some (.int .u8 (x : Int)) ∧ wr.frozen? ⟨g, k, none⟩ = false := ⟨_, rfl, M[k].toNat_lt, (TuRel.cell HO.out hlt).1, (TuRel.cell HO.out hlt).2⟩
        have HX := Lib.hid hx
        have HLT := Lib.hid hlt
        have HK1 := Lib.hid hk1
        clear hx
        go_wp2_with fail
        refine ⟨TuRel.next HO.out HBB.out HLT.out HK1.out _ rfl _ ?_, ?_⟩
        · rw [← HX.out]
        · have := HLT.out; simp [intOf]; omega
      · have hke : k = M.length := by omega
        subst hke
        have hback := HO.out.back (by intro h; have h1 := congrArg List.length h; rw [turnK_len] at h1; have h2 := HMP.out; have h3 : ([] : List UInt8).length = 0 := rfl; omega)
        rw [EM.out] at hback
        go_wp2_with fail
        go_ret
        exact ⟨rfl, HB.out.trans (HBB.out.mono (by omega))⟩
end Go.Proofs.YtpbbgmfjdachnaaDoor
