/- Codes: the law's own walk. -/
import Derived.Test.YtfbeipfpkikakaaDoorCv
namespace Go.Proofs.YtfbeipfpkikakaaDoor
open Go.RowKit

set_option maxRecDepth 100000
def RetNb (w : World) (n : Int) (e : Ending) (w' : World) : Prop := e = .returned (.tuple #[.slice none 0 0, .int .i64 n]) ∧ Below w.heap.size w w'
theorem RetNo.nb {w w' : World} {n : Int} {e : Ending} (h : RetNo w n e w') : RetNb w n e w' := ⟨h.1, by rw [← h.2]; exact Below.refl _ _⟩
theorem cnt_nil : natL 16 (cnt []) = natL 16 fun _ => 0 := rfl
set_option maxHeartbeats 800000 in
theorem count30_nil (w : World) : Calls Tryd.prog 30 #[.slice none 0 0] w (RetBelow w (.agg (natL 16 (cnt [])).toArray)) := by
  have Z := Lib.hid zero60
  rw [cnt_nil]
  go_enter Tryd.func30, Tryd.ntmps30
  go_upto_region 2 with (guard_target =~ wpList _ _ _ (⟨some _, Op.alloc 60, _, _, _, _⟩ :: _) _ _; go_must (refine wp_alloc0 rfl 60 rfl _ Z.out ?_; simp only [Value.cells]))
  have b0 := BlkAt.new w (natL 16 fun _ => 0) 60
  have b1 := BlkAt.new (w.alloc (.cells (natL 16 fun _ => 0).toArray 60)) (natL 16 fun _ => 0) 60
  have s1 : (w.alloc (.cells (natL 16 fun _ => 0).toArray 60)).heap.size = w.heap.size + 1 := by simp
  rw [s1] at b1
  have BA := Lib.hid (b0.alloc (.cells (natL 16 fun _ => 0).toArray 60))
  have BB := Lib.hid b1
  have BW := Lib.hid (((Below.refl w.heap.size w).alloc (Nat.le_refl _) (.cells (natL 16 fun _ => 0).toArray 60)).alloc (by simp) (.cells (natL 16 fun _ => 0).toArray 60))
  rw [s1]
  generalize (w.alloc (.cells (natL 16 fun _ => 0).toArray 60)).alloc (.cells (natL 16 fun _ => 0).toArray 60) = x1 at *
  clear b0 b1 s1
  obtain ⟨R, hR⟩ : ∃ R, R = w.heap.size := ⟨_, rfl⟩
  rw [← hR] at BA BB ⊢
  have QR := Lib.hid hR
  clear hR
  go_wp2_with fail
  refine wp_loop_rounds 1 ?_
  rw [rounds_succ]
  have RG := Lib.hid BB.out.cells.range
  have TH := Lib.hid (show x1.there R 0 (natL 16 fun _ => 0).toArray.size by have := BA.out.cells.there; simpa [natL_len] using this)
  have H1 := Lib.hid (BA.out.cells.sets (us := natL 16 fun _ => 0) (by simp [natL_len]))
  have HB := Lib.hid (below_sets R (Nat.le_of_eq QR.out.symm) (natL 16 fun _ => 0) 0 BW.out)
  clear BA BB BW
  go_wp2_with (first
    | (guard_target =~ wpList _ _ _ (⟨some _, Op.load 60 _, _, _, _, _⟩ :: _) _ _; go_must (refine wpList_load_mid rfl 60 _ rfl (R + 1) 0 rfl (natL 16 fun _ => 0) _ RG.out Tryd.underlying60 rfl (info60n _) ?_))
    | (guard_target =~ wpList _ _ _ (⟨none, Op.store 60 _ _, _, _, _, _⟩ :: _) _ _; go_must (refine wpList_store_mid rfl 60 _ _ rfl R 0 (natL 16 fun _ => 0).toArray rfl rfl TH.out (info60a _) (natL_one _ _) ?_)))
  exact bodyPost_ret (results_range rfl _ _ R _ _ rfl H1.out.range Tryd.underlying60 rfl (info60n _)) rfl ⟨rfl, HB.out⟩
set_option maxHeartbeats 800000 in
theorem codes14_nil (w : World) : Calls Tryd.prog 14 #[.slice none 0 0] w (RetNb w 65) := by
  have CL := Lib.hid (count30_nil w)
  have hc : isCode (cnt []) = false := by decide
  have HM := Lib.hid (cnt_le [] (by decide))
  go_enter Tryd.func14, Tryd.ntmps14
  go_wp2_with fail
  refine wp_loop_rounds 1 ?_
  rw [rounds_succ]
  go_wp2_with fail
  refine CL.out.mono ?_
  rintro e x2 ⟨rfl, hb2⟩
  have B2 := Lib.hid hb2
  clear hb2 CL
  have T2 := Lib.hid (laid_there x2 16 60 (cnt []))
  have C2 := Lib.hid (laid_at x2 16 60 (cnt []))
  have B3 := Lib.hid (B2.out.trans ((laid_below x2 16 60 (cnt [])).mono B2.out.size))
  have Z := Lib.hid zero60
  clear B2
  go_upto_region 10 with (first
    | (guard_target =~ wpList _ _ _ (⟨some _, Op.alloc 60, _, _, _, _⟩ :: _) _ _; go_must (refine wp_alloc0 rfl 60 rfl _ Z.out ?_; simp only [Value.cells]))
    | (guard_target =~ wpList _ _ _ (⟨none, Op.store 60 _ _, _, _, _, _⟩ :: _) _ _; go_must (refine wpList_store_mid rfl 60 _ _ rfl x2.heap.size 0 (natL 16 (cnt [])).toArray rfl rfl T2.out (info60a _) (natL_one _ _) ?_)))
  generalize (x2.alloc (.cells (natL 16 fun _ => 0).toArray 60)).setCells x2.heap.size 0 (natL 16 (cnt [])) = x3 at *
  generalize x2.heap.size = M1 at *
  clear T2
  have RG := Lib.hid C2.out.range
  go_wp2_with (first
    | (guard_target =~ wpList _ _ _ (⟨some _, Op.load 60 _, _, _, _, _⟩ :: _) _ _; go_must (refine wpList_load_mid rfl 60 _ rfl M1 0 rfl (natL 16 (cnt [])) _ RG.out Tryd.underlying60 rfl (info60n _) ?_)))
  refine (code_ok _ HM.out _).mono ?_
  rintro e x4 ⟨rfl, hb4⟩
  have B4 := Lib.hid (B3.out.trans (hb4.mono B3.out.size))
  clear hb4 B3 C2 RG
  rw [hc]
  go_wp2_with fail
  go_ret2
  exact ⟨rfl, B4.out⟩
set_option maxHeartbeats 1600000 in
theorem codes_no (a : Option Addr) (c : Nat) (zs : List Int) (n : Int) (hn : 0 ≤ n ∧ n ≤ 1000) (w : World) (hz : SlZ w (.slice a zs.length c) zs) (hlen : zs.length * 8 ≤ 140737488355328) (T : Tabs w)
    (P14 : ∀ u W B, OwnV W B 3 u (zs.map zV) → Calls Tryd.prog 14 #[u] W (RetNb W n)) (P20 : ∀ W, SlZ W (.slice a zs.length c) zs → Calls Tryd.prog 20 #[.slice a zs.length c] W (RetNo W n)) :
    Calls Tryd.prog 6 #[.slice a zs.length c] w (RetBelow w (.bool true)) := by
  have IN := Lib.hid (ints_ok _ zs w hz hlen)
  have HZ := Lib.hid hz
  have HT := Lib.hid T
  have H14 := Lib.hid P14
  have H20 := Lib.hid P20
  clear hz T P14 P20
  go_enter Tryd.func6, Tryd.ntmps6
  go_wp2_with fail
  refine IN.out.mono ?_
  rintro e w1 ⟨v1, rfl, h1, hb1⟩
  have C14 := Lib.hid (H14.out v1 w1 _ h1)
  have B1 := Lib.hid hb1
  clear h1 hb1 H14
  go_wp2_with fail
  refine C14.out.mono ?_
  rintro e w2 ⟨rfl, hb2⟩
  have B1 := Lib.hid (B1.out.trans (hb2.mono B1.out.size))
  have C20 := Lib.hid (H20.out w2 (HZ.out.below B1.out))
  have NM := Lib.hid (num_ok n (by omega) w2)
  have AL := Lib.hid (alive_ok w2 (HT.out.below B1.out))
  clear hb2 C14 H20
  go_wp2_with (first | (go_at_call 20; refine C20.out.mono ?_; rintro e w2 ⟨rfl, rfl⟩) | (go_at_call 16; refine NM.out.mono ?_; rintro e w2 ⟨rfl, rfl⟩))
  refine wp_loop_rounds 1 ?_
  rw [rounds_succ]
  go_wp2_with (go_at_call 13; refine AL.out.mono ?_; rintro e w2 ⟨rfl, hb2⟩)
  go_ret
  exact ⟨rfl, B1.out.trans (hb2.mono B1.out.size)⟩
def CuRel (w3 : World) (n : Nat) (i : Value) (wr : World) : Prop := ∃ k : Nat, k ≤ n ∧ i = .int .i64 (k : Int) ∧ ∃ d, wr = w3.drewN d
set_option maxHeartbeats 1600000 in
theorem codes_yes (a : Option Addr) (c : Nat) (ls : List Nat) (h16 : ∀ x ∈ ls, x < 16) (hl : ls.length ≤ 512) (hcode : isCode (cnt ls) = true) (w : World) (hz : SlZ w (.slice a ls.length c) (ls.map fun (x : Nat) => (x : Int))) (T : Tabs w) :
    Calls Tryd.prog 6 #[.slice a ls.length c] w (RetBelow w (.bool true)) := by
  have IN := Lib.hid (ints_ok _ (ls.map fun (x : Nat) => (x : Int)) w hz (by rw [List.length_map]; omega))
  have HZ := Lib.hid hz.sli
  have HT := Lib.hid T
  have H16 := Lib.hid h16
  have HCO := Lib.hid hcode
  have hne : ls ≠ [] := by
    intro e; rw [e] at hcode
    have : isCode (cnt []) = false := by decide
    rw [this] at hcode; cases hcode
  clear hz T h16 hcode
  go_enter Tryd.func6, Tryd.ntmps6
  go_wp2_with fail
  refine IN.out.mono ?_
  rintro e w1 ⟨v1, rfl, h1, hb1⟩
  have S1 := h1.slz.sli
  obtain ⟨a1, c1, rfl, hn | ⟨b, off, rfl, hb, hcell⟩⟩ := id S1
  · exact absurd hn hne
  · have C14 := Lib.hid (codes14_ok b off c1 ls.length ls rfl H16.out hl w1 hb hcell)
    have Z1 := Lib.hid (HZ.out.below hb1)
    have B1 := Lib.hid hb1
    clear h1 hb1 S1 hb hcell IN
    go_wp2_with fail
    refine C14.out.mono ?_
    rintro e w2 h2
    unfold RetCd at h2
    rw [if_pos HCO.out] at h2
    obtain ⟨g, rfl, hf, hg, hb2⟩ := h2
    have Z2 := Lib.hid (Z1.out.below hb2)
    have B2 := Lib.hid (B1.out.trans (hb2.mono B1.out.size))
    have F2 := Lib.hid hf
    have C20 := Lib.hid (codes20_ok H16.out hl w2 Z2.out HCO.out)
    clear hf hg hb2 C14 Z1 B1
    go_wp2_with fail
    refine C20.out.mono ?_
    rintro e w3 ⟨g2, rfl, hk, hb3⟩
    have F3 := Lib.hid (F2.out.step hb3)
    have K3 := Lib.hid hk
    have B3 := Lib.hid (B2.out.trans (hb3.mono B2.out.size))
    have NM := Lib.hid (num_ok 0 (by omega) w3)
    clear hk hb3 C20 F2 B2 Z2
    have ST := Lib.hid (show CuRel w3 ls.length (.int .i64 0) w3 from ⟨0, Nat.zero_le _, rfl, 0, rfl⟩)
    go_wp2_with (go_at_call 16; refine NM.out.mono ?_; rintro e w4 ⟨rfl, rfl⟩)
    go_loopw [7] (fun i wr => CuRel w3 ls.length i wr) (fun i _ => (ls.length - (intOf i).toNat))
    case atStart => exact ST.out
    case round =>
      clear ST
      obtain ⟨k, hk, rfl, d, rfl⟩ := hrel
      by_cases hlt : k < ls.length
      · have c1 : (w3.drewN d).cell? ⟨g, k, none⟩ = some (.int .u32 ((codF ls ls.length k : Nat) : Int)) := F3.out.cell k hlt
        have c2 : (w3.drewN d).cell? ⟨g2, k, none⟩ = some (.int .u32 ((codF ls ls.length k : Nat) : Int)) := K3.out.cells.cell k _ (natU_get hlt)
        have l1 : g < (w3.drewN d).heap.size := F3.out.lt
        have l2 : g2 < (w3.drewN d).heap.size := K3.out.cells.lt
        have DD := Lib.hid (fun (n : Nat) => (World.drewN_drewN w3 d n))
        have k1 : (k : Int) < (ls.length : Int) := by omega
        have k2 : (0 : Int) ≤ (k : Int) := by omega
        have t1 : decide ((k : Int) < (ls.length : Int)) = true := decide_eq_true k1
        have t1n : decide (k < ls.length) = true := decide_eq_true hlt
        have ME := Lib.hid (show ls.length - ((k : Int) + 1).toNat < ls.length - (k : Int).toNat by omega)
        generalize codF ls ls.length k = q at *
        generalize w3.drewN d = wd at *
        go_upto_region 8 with fail
        go_quiet (fail)
        go_wp2_with fail
        exact ⟨⟨k + 1, hlt, by congr 1, _, DD.out _⟩, ME.out⟩
      · obtain rfl : k = ls.length := by omega
        have t1 : decide ((ls.length : Int) < (ls.length : Int)) = false := decide_eq_false (by omega)
        have B4 := Lib.hid (bdrewB B3.out d)
        have AL := Lib.hid (alive_ok (w3.drewN d) (HT.out.below B4.out))
        generalize w3.drewN d = wd at *
        go_wp2_with (go_at_call 13; refine AL.out.mono ?_; rintro e w2 ⟨rfl, hb2⟩)
        go_ret
        exact ⟨rfl, B4.out.trans (hb2.mono B4.out.size)⟩
theorem first_bad (zs : List Int) : (∃ k, ∃ h : k < zs.length, BadZ zs[k] ∧ ∀ i (h' : i < k), ¬ BadZ (zs[i]'(by omega))) ∨ ∃ ls : List Nat, zs = ls.map (fun (x : Nat) => (x : Int)) ∧ ∀ x ∈ ls, x < 16 := by
  induction zs with
  | nil => right; exact ⟨[], rfl, fun x h => by cases h⟩
  | cons z zs ih =>
    by_cases hz : BadZ z
    · left; exact ⟨0, by simp, hz, fun i h => by omega⟩
    · rcases ih with ⟨k, h, hb, hg⟩ | ⟨ls, rfl, hl⟩
      · left
        refine ⟨k + 1, by simpa using h, hb, fun i hi => ?_⟩
        cases i with
        | zero => exact hz
        | succ i => exact hg i (by omega)
      · right
        unfold BadZ at hz
        refine ⟨z.toNat :: ls, by rw [List.map_cons, Int.toNat_of_nonneg (by omega)], fun x hx => ?_⟩
        rcases List.mem_cons.1 hx with rfl | hx
        · omega
        · exact hl x hx
theorem codes_card (a : Option Addr) (c : Nat) (zs : List Int) (w : World) (hz : SlZ w (.slice a zs.length c) zs) (hlen : zs.length * 8 ≤ 140737488355328) (T : Tabs w) : Calls Tryd.prog 6 #[.slice a zs.length c] w (RetBelow w (.bool true)) := by
  by_cases h512 : 512 < zs.length
  · refine codes_no a c zs 2 (by omega) w hz hlen T (fun u W B hu => ?_) (fun W _ => codes20_long a zs.length c h512 (by omega) W)
    obtain ⟨ua, uc, rfl, _⟩ := hu.slz
    exact (codes14_long ua zs.length uc h512 (by omega) W).mono fun e w' h => h.nb
  · rcases first_bad zs with ⟨k, hk, hb, hg⟩ | ⟨ls, rfl, h16⟩
    · refine codes_no a c zs 65 (by omega) w hz hlen T (fun u W B hu => ?_) (fun W hW => codes20_no (by omega) W (makes_bad k hk hb hg (by omega) W hW))
      obtain ⟨ua, uc, rfl, _⟩ := id hu.slz
      exact (codes14_bad k hk hb hg (by omega) W hu.slz).mono fun e w' h => h.nb
    · have hl : ls.length ≤ 512 := by rw [List.length_map] at h512; omega
      rcases hcode : isCode (cnt ls) with _ | _
      · refine codes_no a c _ 65 (by omega) w hz hlen T (fun u W B hu => ?_) (fun W hW => ?_)
        · rcases hu.1.2 with ⟨hv, _⟩ | ⟨g, cap, cur, hv, _, hgg, _⟩
          · rw [hv]; exact codes14_nil W
          · obtain ⟨ua, uc, hv2, hn | ⟨b, off, rfl, hb, hcell⟩⟩ := id hu.slz.sli
            · subst hn
              rw [hv2] at hv
              injection hv with e1 e2 e3
              rw [hv2, e1, e3]
              refine (codes14_ok g 0 cap 0 [] rfl (fun x h => by cases h) (by omega) W (lt_of_heap hgg) (fun j x hx => by cases hx)).mono fun e w' h => ?_
              unfold RetCd at h
              rw [if_neg (by decide)] at h
              exact h
            · rw [hv2]
              refine (codes14_ok b off uc ls.length ls rfl h16 hl W hb hcell).mono fun e w' h => ?_
              unfold RetCd at h
              rw [if_neg (by rw [hcode]; decide)] at h
              exact h
        · have h2 := makes_ok h16 hl W (by have := hW.sli; rw [List.length_map] at this; exact this)
          rw [hcode] at h2
          have := codes20_no hl W h2
          rw [List.length_map]
          exact this
      · have := codes_yes a c ls h16 hl hcode w (by rw [List.length_map] at hz; exact hz) T
        rw [List.length_map]
        exact this
end Go.Proofs.YtfbeipfpkikakaaDoor
