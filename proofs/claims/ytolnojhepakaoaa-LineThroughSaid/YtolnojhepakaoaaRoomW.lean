/- makeRoom: a walk. -/
import Derived.Test.YtolnojhepakaoaaRoom
import Derived.Test.YtolnojhepakaoaaOpen
namespace Go.Proofs.Ytolnojhepakaoaa
open Go.RowKit

set_option maxRecDepth 100000 in
set_option maxHeartbeats 3200000 in
theorem room_make (r B g L cap n : Nat) (d : Rd) (bs : List Int) (w : World) (hr : RdAt w r d) (hb : BufAt w B d bs) (hbuf : d.buf = .slice (some ⟨g, 0, none⟩) L cap) (hL : bs.length = L) (hc : L ≤ cap) (hcap : cap ≤ 9223372036854775807)
    (hcell : ∀ j, j < L → w.cell? ⟨g, j, none⟩ = some (.int .u8 (bs.getD j 0))) (hfc : d.fr < cap) (hq : L / 2 < (d.up - d.fr) + n) (hnb : n ≤ 1073741824) (hLb : L ≤ 1073741824) (hB : B ≤ w.heap.size) (hgr : g ≠ r) :
    Calls Try.prog 64 #[.pointer (some ⟨r, 0, none⟩), .int .i64 (n : Int)] w (Roomy w B r d bs n) := by
  have h1 := hb.h1
  have h2 := hb.h2
  rw [hL] at h2
  have hRl : (d.rest bs).length = d.up - d.fr := rest_len hb.h1 hb.h2
  have g3 : w.cell? ⟨r, 3, none⟩ = some (.slice (some ⟨g, 0, none⟩) L cap) := by rw [hr.cell, ← hbuf]; rfl
  have g4 : w.cell? ⟨r, 4, none⟩ = some (.int .i64 d.fr) := by rw [hr.cell]; rfl
  have g5 : w.cell? ⟨r, 5, none⟩ = some (.int .i64 d.up) := by rw [hr.cell]; rfl
  have hne : ¬ cap = d.fr := by omega
  obtain ⟨i0, hi, hz0, hz1, hz2⟩ := info_parts info5
  have Hi := Lib.hid hi
  have Hz0 := Lib.hid hz0
  have Hz1 := Lib.hid hz1
  have Hz2 := Lib.hid hz2
  have Hr := Lib.hid hr
  have Hb := Lib.hid hb
  have Hbuf := Lib.hid hbuf
  have HL := Lib.hid hL
  have Hcell := Lib.hid hcell
  have HRl := Lib.hid hRl
  clear hi hz0 hz1 hz2 hr hb hbuf hL hcell hRl
  go_enter Try.func64, Try.ntmps64
  go_wp2_with fail
  go_quiet (fail)
  generalize hw1 : w.drewN _ = w1 at *
  have hr1 := Hr.out.ofDrewN hw1
  have k1 := (Keeps.refl [] w).ofDrewN hw1
  have hB1 : B ≤ w1.heap.size := by rw [← hw1]; exact hB
  have hs1 : w1.heap.size = w.heap.size := by rw [← hw1]; rfl
  have Hr1 := Lib.hid hr1
  have K1 := Lib.hid k1
  have Hs1 := Lib.hid hs1
  clear hw1 hr1 k1 g3 g4 g5 Hr hs1
  go_wp2_with (at_make; go_must (refine wpList_make_full _ rfl _ _ 22 rfl B 5 i0 (.int .u8 0) 1 Try.underlying22 Hi.out Hz0.out Hz1.out _ _ _ _ (2 * ((d.up - d.fr) + n)) rfl rfl (by omega) (by omega) ?b2 ?b3 hB1 ?_))
  case b2 => rw [Hz2.out]; omega
  case b3 => unfold maxLen; omega
  intro w2 hown2 hgrow2
  rw [made_bytes] at hown2
  have hk2 : Keeps [] w1 w2 := (Keeps.refl [] w1).grown hgrow2 (fun k hk => by cases hk)
  have hr2 := Hr1.out.keeps hk2 (by simp)
  have hsrc : ∀ j u, ((d.rest bs).map (Value.int .u8))[j]? = some u → w2.cell? ((⟨g, d.fr, none⟩ : Addr).add j) = some u := fun j u hj => by
    have hjl : j < d.up - d.fr := by
      rcases Nat.lt_or_ge j (d.up - d.fr) with h | h
      · exact h
      · rw [List.getElem?_eq_none (by rw [List.length_map, HRl.out]; exact h)] at hj; cases hj
    have e : (⟨g, d.fr, none⟩ : Addr).add j = ⟨g, d.fr + j, none⟩ := by unfold Addr.add; split <;> simp_all
    have h0 := Hcell.out (d.fr + j) (by omega)
    rw [e, (World.cell?_of_block ((K1.out.trans hk2).block _ (World.block_lt_of_cell? w _ h0) (by simp))).trans h0, ← hj]
    unfold Rd.rest
    have h8 : d.fr + j < bs.length := by rw [HL.out]; omega
    simp [List.getD, hjl, h8]
  have hrw : r < w1.heap.size := lt_of_block Hr1.out
  have hcin : CopyIn w2 B 5 (.slice (some ⟨w1.heap.size, 0, none⟩) (2 * ((d.up - d.fr) + n)) (2 * ((d.up - d.fr) + n))) (2 * ((d.up - d.fr) + n)) ((List.replicate (2 * ((d.up - d.fr) + n)) (0 : Int)).map (Value.int .u8)) 0 (some ⟨w1.heap.size, 0, none⟩) (some ⟨g, d.fr, none⟩) (2 * ((d.up - d.fr) + n)) (d.up - d.fr) ((d.rest bs).map (Value.int .u8)) :=
    ⟨hown2, by rw [List.length_map, HRl.out]; exact (Nat.min_eq_left (by omega)).symm, fun _ => ⟨⟨_, rfl, rfl⟩, _, rfl, hsrc⟩, by rw [List.length_map, HRl.out]; omega, fun u hu => by obtain ⟨x, _, rfl⟩ := List.mem_map.1 hu; rfl⟩
  have hW : w1.heap.size ≤ w2.heap.size := hk2.size
  have Hcin := Lib.hid hcin
  have Hr2 := Lib.hid hr2
  have K2 := Lib.hid (K1.out.trans hk2)
  clear hown2 hgrow2 hk2 hr2 hsrc hcin
  go_wp2_with (refine wpList_copy_in (o := ⟨some 39, _, _, _, _, _⟩) rfl (.tmp 37) (.tmp 38) 22 22 rfl 5 Try.underlying22 info5s _ _ _ _ _ _ rfl rfl B _ _ _ 0 _ Hcin.out ?_; intro w3 hown3 hk3; have Hr3 := Lib.hid (Hr2.out.keeps hk3 (by simp [Value.ownBlock]; omega)); obtain ⟨c3, c4, c5, f3, f4, f5⟩ := rd_facts Hr3.out; have Hown3 := Lib.hid hown3; have K3 := Lib.hid hk3; clear hown3 hk3)
  go_end0
  have k3 : Keeps [r] w3 (((w3.setCell ⟨r, 5, none⟩ (.int .i64 ((d.rest bs).length : Nat))).setCell ⟨r, 4, none⟩ (.int .i64 0)).setCell ⟨r, 3, none⟩ (.slice (some ⟨w1.heap.size, 0, none⟩) (2 * ((d.up - d.fr) + n)) (2 * ((d.up - d.fr) + n)))) := (((Keeps.refl [r] w3).setCell (by simp) _).setCell (by simp) _).setCell (by simp) _
  have hr4 : RdAt (((w3.setCell ⟨r, 5, none⟩ (.int .i64 ((d.rest bs).length : Nat))).setCell ⟨r, 4, none⟩ (.int .i64 0)).setCell ⟨r, 3, none⟩ (.slice (some ⟨w1.heap.size, 0, none⟩) (2 * ((d.up - d.fr) + n)) (2 * ((d.up - d.fr) + n)))) r { d with buf := (.slice (some ⟨w1.heap.size, 0, none⟩) (2 * ((d.up - d.fr) + n)) (2 * ((d.up - d.fr) + n))), fr := 0, up := (d.rest bs).length } :=
    ((Hr3.out.set (d' := { d with up := (d.rest bs).length }) 5 _ rfl).set (d' := { d with up := (d.rest bs).length, fr := 0 }) 4 _ rfl).set 3 _ rfl
  generalize (((w3.setCell ⟨r, 5, none⟩ (.int .i64 ((d.rest bs).length : Nat))).setCell ⟨r, 4, none⟩ (.int .i64 0)).setCell ⟨r, 3, none⟩ (.slice (some ⟨w1.heap.size, 0, none⟩) (2 * ((d.up - d.fr) + n)) (2 * ((d.up - d.fr) + n)))) = w4 at *
  have hkp : Keeps (r :: d.buf.ownBlock.toList) w w4 := (((K2.out.mono (T := [r, w1.heap.size]) (by simp)).trans (K3.out.mono (by simp [Value.ownBlock]))).trans (k3.mono (by simp))).drop (fun k hk => by
    simp at hk
    rcases hk with rfl | rfl
    · exact .inl (by simp)
    · exact .inr (by rw [Hs1.out]; exact Nat.le_refl _))
  refine buf_moved (xs := List.replicate (2 * ((d.up - d.fr) + n)) 0) Hb.out hr4 (by rw [List.length_replicate]; exact ownsRow_keeps Hown3.out k3 (fun j hj => by simp [Value.ownBlock] at hj; simp; omega)) (fun z hz => by rw [(List.mem_replicate.1 hz).2]; exact ⟨by omega, by omega⟩) (by rw [List.length_replicate, HRl.out]; omega) (by rw [List.length_replicate, HRl.out]; omega) hkp (.inr (by rw [← Hs1.out]; rfl))

end Go.Proofs.Ytolnojhepakaoaa
