/- LineRefusals: the law's own walk. -/
import Derived.Test.YtolnojhepakaoaaCalm
import Derived.Test.YtolnojhepakaoaaIter
namespace Go.Proofs.Ytolnojhepakaoaa
open Go.RowKit Go.Maps Go.MuLone
attribute [local go_sem] Oper.semAt_some

theorem calls_field (s : FSt) (w : World) : (Instr.field 71 s.stats 0).run Try.prog w = .ok (.int .i64 s.calls) w := by kernel_rfl
theorem keeps_below {w a c : World} (h : Keeps [] w a) (k : Below w.heap.size a c) : Keeps [] w c := ⟨k.os.trans h.os, k.tape.trans h.tape, k.output.trans h.output, Nat.le_trans h.size k.size, fun i hi hn => (k.block i hi).trans (h.block i hi hn)⟩
theorem keeps_of_below {w w' : World} (h : Below w.heap.size w w') : Keeps [] w w' := ⟨h.os, h.tape, h.output, h.size, fun k hk _ => h.block k hk⟩

set_option maxRecDepth 100000 in
set_option maxHeartbeats 3200000 in
theorem refusals_ok (size sep : Int) (line : ByteArray) (w : World) (hwhy : why size sep = 0) : Calls Try.prog 8 #[.int .i64 size, .int .u8 sep, .string line] w fun e w' => e = .returned (.bool true) ∧ Keeps [] w w' := by
  have hmk := fun w => made_true size sep w
  have hrd := fun f w => reader_at f size sep w
  have hwr := fun f w => writer_at f size sep w
  generalize why size sep = r at *
  subst hwhy
  have HMK := Lib.hid hmk
  have HRD := Lib.hid hrd
  have HWR := Lib.hid hwr
  clear hmk hrd hwr
  have q : ∀ (w : World) (p : Addr), (binOp .eql 47 (.func (.func 46) #[] #[.pointer (some p)]) .nilFunc).run Try.prog w = .ok (.bool false) w := fun w p => by kernel_rfl
  refine (callsIn_wide (n := 6)).1 ?_
  refine callsIn_of_wp_marks Try.func8 rfl trivial ?_ rfl
  simp only [Try.ntmps8, List.size_toArray, List.length_cons, List.length_nil, Nat.reduceAdd, Nat.reduceSub, Array.replicate_succ, Array.replicate_zero, List.push_toArray, List.append_toArray, List.nil_append, List.cons_append]
  gi_wp2_with fail
  refine ⟨trivial, (callsIn_wide.2 (calm_nil w)).mono ?_⟩
  rintro e w1 ⟨b, mp, sh', d, rfl, hb1, hwb, hk1⟩
  have hcalls : (newFS 67108864 8 8 0 sh' d mp).calls = 0 := rfl
  generalize newFS 67108864 8 8 0 sh' d mp = s at *
  have Hb1 := Lib.hid hb1
  have Hk1 := Lib.hid hk1
  have Hcalls := Lib.hid hcalls
  clear hb1 hk1 hcalls
  gi_wp2_with fail
  refine ⟨trivial, (callsIn_wide.2 (sink_ok b s w1 Hb1.out)).mono ?_⟩
  rintro e w2 ⟨f, rfl, hb2, hwf, hk2⟩
  have hk12 : Keeps [] w w2 := ((Hk1.out.mono (by simp)).trans hk2).drop (fun k hk => .inr (by simp at hk; omega))
  have Hb2 := Lib.hid hb2
  have Hk2 := Lib.hid hk12
  clear hb2 hk2 hk12 hwf Hb1 Hk1
  gi_wp2_with fail
  refine ⟨trivial, (callsIn_wide.2 (reader_nil size sep w2)).mono ?_⟩
  rintro e w' ⟨rfl, rfl⟩
  gi_wp2_with fail
  refine ⟨trivial, (callsIn_wide.2 (writer_nil size sep w2)).mono ?_⟩
  rintro e w' ⟨rfl, rfl⟩
  gi_wp2_with fail
  refine ⟨trivial, (callsIn_wide.2 (HRD.out f w2)).mono ?_⟩
  rintro e w3 ⟨p, rfl, hp, hk3⟩
  obtain ⟨a1, rfl⟩ : ∃ a1, p = some a1 := by
    cases p with
    | none => exact absurd rfl (hp.1 rfl)
    | some x => exact ⟨x, rfl⟩
  clear hp
  have Hb3 := Lib.hid (Hb2.out.keeps hk3 (by simp))
  have Hk3 := Lib.hid (Hk2.out.trans hk3)
  clear hk3 Hb2 Hk2
  gi_wp2_with fail
  refine ⟨trivial, (callsIn_wide.2 (HWR.out f w3)).mono ?_⟩
  rintro e w4 ⟨p2, rfl, hp, hk4⟩
  obtain ⟨a2, rfl⟩ : ∃ a2, p2 = some a2 := by
    cases p2 with
    | none => exact absurd rfl (hp.1 rfl)
    | some x => exact ⟨x, rfl⟩
  clear hp
  have Hb4 := Lib.hid (Hb3.out.keeps hk4 (by simp))
  have Hk4 := Lib.hid (Hk3.out.trans hk4)
  clear hk4 Hb3 Hk3
  gi_wp2_with fail
  refine ⟨trivial, (callsIn_wide.2 (HMK.out w4)).mono ?_⟩
  rintro e w' ⟨rfl, rfl⟩
  gi_wp2_with fail
  refine ⟨trivial, (callsIn_wide.2 (num_ok 1 w4)).mono ?_⟩
  rintro e w' ⟨rfl, rfl⟩
  gi_wp2_with fail
  refine ⟨trivial, (callsIn_wide.2 (num_ok 1 w4)).mono ?_⟩
  rintro e w' ⟨rfl, rfl⟩
  gi_wp2_with fail
  refine ⟨trivial, (callsIn_wide.2 (num_ok _ w4)).mono ?_⟩
  rintro e w' ⟨rfl, rfl⟩
  gi_wp2_with fail
  refine ⟨trivial, (callsIn_wide.2 (num_ok _ w4)).mono ?_⟩
  rintro e w' ⟨rfl, rfl⟩
  gi_wp2_with fail
  refine ⟨trivial, (callsIn_wide.2 (next_nil w4)).mono ?_⟩
  rintro e w' ⟨rfl, rfl⟩
  gi_wp2_with fail
  refine ⟨trivial, (callsIn_wide.2 (all_nil _)).mono ?_⟩
  rintro e w' ⟨rfl, rfl⟩
  gi_wp2_with fail
  have hn := World.new_ne w4
  have hcb : ((w4.alloc (.cells #[.int .i64 0] 3)).alloc (.cells #[.pointer none] 41)).cell? ⟨w4.heap.size + 1, 0, none⟩ = some (.pointer none) := by
    have h := heap_alloc_new (w4.alloc (.cells #[.int .i64 0] 3)) (.cells #[.pointer none] 41)
    rw [World.size_alloc] at h
    rw [cell_of h]; rfl
  have hcn : ((w4.alloc (.cells #[.int .i64 0] 3)).alloc (.cells #[.pointer none] 41)).cell? ⟨w4.heap.size, 0, none⟩ = some (.int .i64 0) := by
    have h := heap_alloc_new w4 (.cells #[.int .i64 0] 3)
    have h2 := (Below.heap_alloc (w4.alloc (.cells #[.int .i64 0] 3)) (.cells #[.pointer none] 41) w4.heap.size (by simp)).trans h
    rw [cell_of h2]; rfl
  have Hb5 := Lib.hid ((Hb4.out.keeps ((Keeps.refl [] w4).alloc (.cells #[.int .i64 0] 3)) (by simp)).keeps ((Keeps.refl [] _).alloc (.cells #[.pointer none] 41)) (by simp))
  have Hk5 := Lib.hid ((Hk4.out.alloc (.cells #[.int .i64 0] 3)).alloc (.cells #[.pointer none] 41))
  have hs5 : ((w4.alloc (.cells #[.int .i64 0] 3)).alloc (.cells #[.pointer none] 41)).heap.size = w4.heap.size + 2 := by simp
  clear hn Hb4 Hk4
  generalize (w4.alloc (.cells #[.int .i64 0] 3)).alloc (.cells #[.pointer none] 41) = w5 at *
  generalize w4.heap.size = nb at *
  have hsz5 : w.heap.size ≤ w5.heap.size := Hk5.out.size
  have hblt : b < w5.heap.size := lt_of_block Hb5.out
  have Hcb := Lib.hid hcb
  have Hcn := Lib.hid hcn
  have Hs5 := Lib.hid hs5
  clear hcb hcn hs5
  refine wpIn_rangeFunc_ownF rfl (by omega) (gf := 46) (lb := #[.pointer (some ⟨nb + 1, 0, none⟩)]) rfl trivial (enters_of Try.func46 (by kernel_rfl) rfl)
    (seq_stops (nb + 1) w5 (by rw [Hs5.out]; omega) Hcb.out 5 w5.heap.size) belowK_t (belowK_b (Nat.le_refl _)) (Below.refl _ _) (fun _ => rfl)
    (fun _ W => Below w5.heap.size w5 W) (fun _ _ _ => False) (ownFrom_below (Nat.le_refl _) (Nat.le_refl _)) (fun _ _ _ _ _ hs _ _ => hs) (Below.refl _ _) ?a1 ?assign ?body ?done ?stop
  case assign =>
    intro l x W K hK
    gi_wp2
    exact hK
  case body =>
    rintro l pre x W _ hlt
    exact absurd hlt (by omega)
  case stop =>
    rintro D c pre W _ h
    exact h.elim
  case done =>
    rintro D ys W hD _ hB hK
    have hkB : Keeps [] w5 W := keeps_of_below hB
    have Hb6 := Lib.hid (Hb5.out.keeps hkB (by simp))
    have Hk6 := Lib.hid (Hk5.out.trans hkB)
    have hcn : W.cell? ⟨nb, 0, none⟩ = some (.int .i64 0) := (hB.cell (p := ⟨nb, 0, none⟩) (by rw [Hs5.out]; show nb < nb + 2; omega)).trans Hcn.out
    have HK := Lib.hid hK
    clear hB hkB hK Hb5 Hk5
    gi_wp2_with fail
    refine ⟨trivial, (callsIn_wide.2 (put_nobody line W)).mono ?_⟩
    rintro e w' ⟨rfl, rfl⟩
    gi_wp2_with fail
    refine ⟨trivial, (callsIn_wide.2 (raw_nobody line W)).mono ?_⟩
    rintro e w' ⟨rfl, rfl⟩
    gi_wp2_with fail
    refine ⟨trivial, (callsIn_wide.2 (flush_nobody W)).mono ?_⟩
    rintro e w' ⟨rfl, rfl⟩
    gi_wp2_with fail
    refine ⟨trivial, (callsIn_wide.2 (stat_nobody W)).mono ?_⟩
    rintro e w' ⟨rfl, rfl⟩
    gi_wp2_with fail
    refine ⟨trivial, (callsIn_wide.2 (num_ok 1 W)).mono ?_⟩
    rintro e w' ⟨rfl, rfl⟩
    gi_wp2_with fail
    refine ⟨trivial, (callsIn_wide.2 (whole_nobody W)).mono ?_⟩
    rintro e w' ⟨rfl, rfl⟩
    gi_wp2_with fail
    refine ⟨trivial, (callsIn_wide.2 (lines_nobody W)).mono ?_⟩
    rintro e w' ⟨rfl, rfl⟩
    gi_wp2_with fail
    refine ⟨trivial, (callsIn_wide.2 (rerr_nobody W)).mono ?_⟩
    rintro e w' ⟨rfl, rfl⟩
    gi_wp2_with fail
    refine ⟨trivial, (callsIn_wide.2 (num_ok 1 W)).mono ?_⟩
    rintro e w' ⟨rfl, rfl⟩
    gi_wp2_with fail
    refine ⟨trivial, (callsIn_wide.2 (num_ok 1 W)).mono ?_⟩
    rintro e w' ⟨rfl, rfl⟩
    gi_wp2_with fail
    refine ⟨trivial, (callsIn_wide.2 (num_ok 1 W)).mono ?_⟩
    rintro e w' ⟨rfl, rfl⟩
    gi_wp2_with fail
    refine ⟨trivial, (callsIn_wide.2 (num_ok 1 W)).mono ?_⟩
    rintro e w' ⟨rfl, rfl⟩
    gi_wp2_with fail
    refine ⟨trivial, (callsIn_wide.2 (werr_nobody W)).mono ?_⟩
    rintro e w' ⟨rfl, rfl⟩
    gi_wp2_with fail
    refine ⟨trivial, (callsIn_wide.2 (num_ok 1 W)).mono ?_⟩
    rintro e w' ⟨rfl, rfl⟩
    gi_wp2_with fail
    refine ⟨trivial, (callsIn_wide.2 (stats_ok b s W Hb6.out)).mono ?_⟩
    rintro e W7 ⟨rfl, hb7, hk7⟩
    have hfl := calls_field s W7
    rw [Hcalls.out] at hfl
    have hK7 : W7.heap[D]? = some (.deferred (some [])) := (hk7.block D (lt_of_block HK.out) (by simp; omega)).trans HK.out
    have hk17 : Keeps [] w W7 := ((Hk6.out.mono (by simp)).trans hk7).drop (fun k hk => .inr (by simp at hk; omega))
    have HK7 := Lib.hid hK7
    have Hk7 := Lib.hid hk17
    clear hb7 hk7 hK7 hk17 HK
    gi_wp2_with fail
    refine ⟨by simp, .inl ⟨_, _, rfl, run_takeDeferred HK7.out, ?_⟩⟩
    refine ⟨_, results_tmp rfl _ _ _, rfl, ?_⟩
    exact keeps_below Hk7.out (belowK_b (w := w5) hsz5 W7 D _ _ hD HK7.out rfl rfl)

set_option maxRecDepth 100000 in
set_option maxHeartbeats 3200000 in
theorem refusals_no (size sep : Int) (line : ByteArray) (w : World) (hwhy : why size sep ≠ 0) : Calls Try.prog 8 #[.int .i64 size, .int .u8 sep, .string line] w fun e w' => e = .returned (.bool true) ∧ Keeps [] w w' := by
  have hmk := fun w => made_true size sep w
  have hrd := fun f w => reader_at f size sep w
  have hwr := fun f w => writer_at f size sep w
  generalize why size sep = r at *
  have t0 : (r != 0) = true := by rw [bne_iff_ne]; exact hwhy
  have Hwhy := Lib.hid hwhy
  clear hwhy
  have HMK := Lib.hid hmk
  have HRD := Lib.hid hrd
  have HWR := Lib.hid hwr
  clear hmk hrd hwr
  have q : ∀ (w : World) (p : Addr), (binOp .eql 47 (.func (.func 46) #[] #[.pointer (some p)]) .nilFunc).run Try.prog w = .ok (.bool false) w := fun w p => by kernel_rfl
  refine (callsIn_wide (n := 6)).1 ?_
  refine callsIn_of_wp_marks Try.func8 rfl trivial ?_ rfl
  simp only [Try.ntmps8, List.size_toArray, List.length_cons, List.length_nil, Nat.reduceAdd, Nat.reduceSub, Array.replicate_succ, Array.replicate_zero, List.push_toArray, List.append_toArray, List.nil_append, List.cons_append]
  gi_wp2_with fail
  refine ⟨trivial, (callsIn_wide.2 (calm_nil w)).mono ?_⟩
  rintro e w1 ⟨b, mp, sh', d, rfl, hb1, hwb, hk1⟩
  have hcalls : (newFS 67108864 8 8 0 sh' d mp).calls = 0 := rfl
  generalize newFS 67108864 8 8 0 sh' d mp = s at *
  have Hb1 := Lib.hid hb1
  have Hk1 := Lib.hid hk1
  have Hcalls := Lib.hid hcalls
  clear hb1 hk1 hcalls
  gi_wp2_with fail
  refine ⟨trivial, (callsIn_wide.2 (sink_ok b s w1 Hb1.out)).mono ?_⟩
  rintro e w2 ⟨f, rfl, hb2, hwf, hk2⟩
  have hk12 : Keeps [] w w2 := ((Hk1.out.mono (by simp)).trans hk2).drop (fun k hk => .inr (by simp at hk; omega))
  have Hb2 := Lib.hid hb2
  have Hk2 := Lib.hid hk12
  clear hb2 hk2 hk12 hwf Hb1 Hk1
  gi_wp2_with fail
  refine ⟨trivial, (callsIn_wide.2 (reader_nil size sep w2)).mono ?_⟩
  rintro e w' ⟨rfl, rfl⟩
  gi_wp2_with fail
  refine ⟨trivial, (callsIn_wide.2 (writer_nil size sep w2)).mono ?_⟩
  rintro e w' ⟨rfl, rfl⟩
  gi_wp2_with fail
  refine ⟨trivial, (callsIn_wide.2 (HRD.out f w2)).mono ?_⟩
  rintro e w3 ⟨p, rfl, hp, hk3⟩
  obtain rfl : p = none := hp.2 Hwhy.out
  clear hp
  have Hb3 := Lib.hid (Hb2.out.keeps hk3 (by simp))
  have Hk3 := Lib.hid (Hk2.out.trans hk3)
  clear hk3 Hb2 Hk2
  gi_wp2_with fail
  refine ⟨trivial, (callsIn_wide.2 (HWR.out f w3)).mono ?_⟩
  rintro e w4 ⟨p2, rfl, hp, hk4⟩
  obtain rfl : p2 = none := hp.2 Hwhy.out
  clear hp
  have Hb4 := Lib.hid (Hb3.out.keeps hk4 (by simp))
  have Hk4 := Lib.hid (Hk3.out.trans hk4)
  clear hk4 Hb3 Hk3
  gi_wp2_with fail
  refine ⟨trivial, (callsIn_wide.2 (HMK.out w4)).mono ?_⟩
  rintro e w' ⟨rfl, rfl⟩
  gi_wp2_with fail
  refine ⟨trivial, (callsIn_wide.2 (num_ok 1 w4)).mono ?_⟩
  rintro e w' ⟨rfl, rfl⟩
  gi_wp2_with fail
  refine ⟨trivial, (callsIn_wide.2 (num_ok 1 w4)).mono ?_⟩
  rintro e w' ⟨rfl, rfl⟩
  gi_wp2_with fail
  refine ⟨trivial, (callsIn_wide.2 (num_ok _ w4)).mono ?_⟩
  rintro e w' ⟨rfl, rfl⟩
  gi_wp2_with fail
  refine ⟨trivial, (callsIn_wide.2 (num_ok _ w4)).mono ?_⟩
  rintro e w' ⟨rfl, rfl⟩
  gi_wp2_with fail
  refine ⟨trivial, (callsIn_wide.2 (next_nil w4)).mono ?_⟩
  rintro e w' ⟨rfl, rfl⟩
  gi_wp2_with fail
  refine ⟨trivial, (callsIn_wide.2 (all_nil _)).mono ?_⟩
  rintro e w' ⟨rfl, rfl⟩
  gi_wp2_with fail
  have hn := World.new_ne w4
  have hcb : ((w4.alloc (.cells #[.int .i64 0] 3)).alloc (.cells #[.pointer none] 41)).cell? ⟨w4.heap.size + 1, 0, none⟩ = some (.pointer none) := by
    have h := heap_alloc_new (w4.alloc (.cells #[.int .i64 0] 3)) (.cells #[.pointer none] 41)
    rw [World.size_alloc] at h
    rw [cell_of h]; rfl
  have hcn : ((w4.alloc (.cells #[.int .i64 0] 3)).alloc (.cells #[.pointer none] 41)).cell? ⟨w4.heap.size, 0, none⟩ = some (.int .i64 0) := by
    have h := heap_alloc_new w4 (.cells #[.int .i64 0] 3)
    have h2 := (Below.heap_alloc (w4.alloc (.cells #[.int .i64 0] 3)) (.cells #[.pointer none] 41) w4.heap.size (by simp)).trans h
    rw [cell_of h2]; rfl
  have Hb5 := Lib.hid ((Hb4.out.keeps ((Keeps.refl [] w4).alloc (.cells #[.int .i64 0] 3)) (by simp)).keeps ((Keeps.refl [] _).alloc (.cells #[.pointer none] 41)) (by simp))
  have Hk5 := Lib.hid ((Hk4.out.alloc (.cells #[.int .i64 0] 3)).alloc (.cells #[.pointer none] 41))
  have hs5 : ((w4.alloc (.cells #[.int .i64 0] 3)).alloc (.cells #[.pointer none] 41)).heap.size = w4.heap.size + 2 := by simp
  clear hn Hb4 Hk4
  generalize (w4.alloc (.cells #[.int .i64 0] 3)).alloc (.cells #[.pointer none] 41) = w5 at *
  generalize w4.heap.size = nb at *
  have hsz5 : w.heap.size ≤ w5.heap.size := Hk5.out.size
  have hblt : b < w5.heap.size := lt_of_block Hb5.out
  have Hcb := Lib.hid hcb
  have Hcn := Lib.hid hcn
  have Hs5 := Lib.hid hs5
  clear hcb hcn hs5
  refine wpIn_rangeFunc_ownF rfl (by omega) (gf := 46) (lb := #[.pointer (some ⟨nb + 1, 0, none⟩)]) rfl trivial (enters_of Try.func46 (by kernel_rfl) rfl)
    (seq_stops (nb + 1) w5 (by rw [Hs5.out]; omega) Hcb.out 5 w5.heap.size) belowK_t (belowK_b (Nat.le_refl _)) (Below.refl _ _) (fun _ => rfl)
    (fun _ W => Below w5.heap.size w5 W) (fun _ _ _ => False) (ownFrom_below (Nat.le_refl _) (Nat.le_refl _)) (fun _ _ _ _ _ hs _ _ => hs) (Below.refl _ _) ?a1 ?assign ?body ?done ?stop
  case assign =>
    intro l x W K hK
    gi_wp2
    exact hK
  case body =>
    rintro l pre x W _ hlt
    exact absurd hlt (by omega)
  case stop =>
    rintro D c pre W _ h
    exact h.elim
  case done =>
    rintro D ys W hD _ hB hK
    have hkB : Keeps [] w5 W := keeps_of_below hB
    have Hb6 := Lib.hid (Hb5.out.keeps hkB (by simp))
    have Hk6 := Lib.hid (Hk5.out.trans hkB)
    have hcn : W.cell? ⟨nb, 0, none⟩ = some (.int .i64 0) := (hB.cell (p := ⟨nb, 0, none⟩) (by rw [Hs5.out]; show nb < nb + 2; omega)).trans Hcn.out
    have HK := Lib.hid hK
    clear hB hkB hK Hb5 Hk5
    gi_wp2_with fail
    refine ⟨trivial, (callsIn_wide.2 (put_nobody line W)).mono ?_⟩
    rintro e w' ⟨rfl, rfl⟩
    gi_wp2_with fail
    refine ⟨trivial, (callsIn_wide.2 (raw_nobody line W)).mono ?_⟩
    rintro e w' ⟨rfl, rfl⟩
    gi_wp2_with fail
    refine ⟨trivial, (callsIn_wide.2 (flush_nobody W)).mono ?_⟩
    rintro e w' ⟨rfl, rfl⟩
    gi_wp2_with fail
    refine ⟨trivial, (callsIn_wide.2 (stat_nobody W)).mono ?_⟩
    rintro e w' ⟨rfl, rfl⟩
    gi_wp2_with fail
    refine ⟨trivial, (callsIn_wide.2 (num_ok 1 W)).mono ?_⟩
    rintro e w' ⟨rfl, rfl⟩
    gi_wp2_with fail
    refine ⟨trivial, (callsIn_wide.2 (whole_nobody W)).mono ?_⟩
    rintro e w' ⟨rfl, rfl⟩
    gi_wp2_with fail
    refine ⟨trivial, (callsIn_wide.2 (lines_nobody W)).mono ?_⟩
    rintro e w' ⟨rfl, rfl⟩
    gi_wp2_with fail
    refine ⟨trivial, (callsIn_wide.2 (rerr_nobody W)).mono ?_⟩
    rintro e w' ⟨rfl, rfl⟩
    gi_wp2_with fail
    refine ⟨trivial, (callsIn_wide.2 (num_ok 1 W)).mono ?_⟩
    rintro e w' ⟨rfl, rfl⟩
    gi_wp2_with fail
    refine ⟨trivial, (callsIn_wide.2 (num_ok 1 W)).mono ?_⟩
    rintro e w' ⟨rfl, rfl⟩
    gi_wp2_with fail
    refine ⟨trivial, (callsIn_wide.2 (num_ok 1 W)).mono ?_⟩
    rintro e w' ⟨rfl, rfl⟩
    gi_wp2_with fail
    refine ⟨trivial, (callsIn_wide.2 (num_ok 1 W)).mono ?_⟩
    rintro e w' ⟨rfl, rfl⟩
    gi_wp2_with fail
    refine ⟨trivial, (callsIn_wide.2 (werr_nobody W)).mono ?_⟩
    rintro e w' ⟨rfl, rfl⟩
    gi_wp2_with fail
    refine ⟨trivial, (callsIn_wide.2 (num_ok 1 W)).mono ?_⟩
    rintro e w' ⟨rfl, rfl⟩
    gi_wp2_with fail
    refine ⟨trivial, (callsIn_wide.2 (stats_ok b s W Hb6.out)).mono ?_⟩
    rintro e W7 ⟨rfl, hb7, hk7⟩
    have hfl := calls_field s W7
    rw [Hcalls.out] at hfl
    have hK7 : W7.heap[D]? = some (.deferred (some [])) := (hk7.block D (lt_of_block HK.out) (by simp; omega)).trans HK.out
    have hk17 : Keeps [] w W7 := ((Hk6.out.mono (by simp)).trans hk7).drop (fun k hk => .inr (by simp at hk; omega))
    have HK7 := Lib.hid hK7
    have Hk7 := Lib.hid hk17
    clear hb7 hk7 hK7 hk17 HK
    gi_wp2_with fail
    refine ⟨by simp, .inl ⟨_, _, rfl, run_takeDeferred HK7.out, ?_⟩⟩
    refine ⟨_, results_tmp rfl _ _ _, rfl, ?_⟩
    exact keeps_below Hk7.out (belowK_b (w := w5) hsz5 W7 D _ _ hD HK7.out rfl rfl)
end Go.Proofs.Ytolnojhepakaoaa
