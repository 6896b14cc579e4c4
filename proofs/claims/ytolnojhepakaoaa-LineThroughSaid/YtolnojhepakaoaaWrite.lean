/- Write, to an open File of a file, of what there is room for: the walk. -/
import Derived.Test.YtolnojhepakaoaaFile
import Derived.Deep.AppendLies
import Derived.Deep.RegionLaw
import Derived.Deep.RegionHeldLaw
import Derived.Laws.AppendOwnNone
namespace Go.Proofs.Ytolnojhepakaoaa
open Go.RowKit Go.Maps Go.MuLone

/-- append onto a row of the call's own, of what lies behind an address, however little: at a step of a region that draws its order. -/
theorem step_append_at {P : Program} {w : World} {ops : Array Oper} {o : Oper} {a : Act} {K : Act → World → Prop} {Q : Exit → Act → World → Prop} {E : Prop} (hgd : o.guard = none) (s x : Operand) (t : TypeId)
    (ho : o.op = .call { callee := .builtin .append, args := #[s, x], argTypes := #[t, t] })
    (base : Nat) (e : TypeId) (i : TypeInfo) (z : Value) (size bytes : Nat) (ht : P.underlying t = some (.slice e)) (hi : P.info? e = some i) (hz : i.zero = some z)
    (hsize : i.size = size) (hby : i.bytes = bytes) (hzs : z.cells.size = size) (hsz : 0 < size)
    (v : Value) (n : Nat) (xs : List Value) (hs : a.eval s = v) (hown : w.ownsRow base e size v n xs)
    (ad : Addr) (m c : Nat) (news : List Value) (hx : a.eval x = .slice (some ad) m c) (hl : news.length = m * size) (hnews : ∀ j u, news[j]? = some u → w.cell? (ad.add j) = some u) (h1 : ∀ u ∈ news, u.oneCell' = true)
    (h63 : n + m ≤ maxLen) (hbytes : (n + m) * bytes ≤ 140737488355328) (hbase : base ≤ w.heap.size)
    (h : ∀ v' w', w'.ownsRow base e size v' (n + m) (xs ++ news) → w.grownBy w' v.ownBlock → (v'.ownBlock = v.ownBlock ∨ v'.ownBlock = some w.heap.size) → K (a.put o.dst v') w') :
    if Region.wanted o (yielded ops a.tmps) = true then Oper.wp P o a w K Q else E := by
  have hw : Region.wanted o (yielded ops a.tmps) = true := by simp [Region.wanted, hgd]
  rw [if_pos hw]
  obtain ⟨v', w', hr, h2, h3, _, h5⟩ := run_append_own_at (P := P) w base t o.type e i z size bytes ht hi hz hsize hby hzs hsz v n xs hown ad m c news hl hnews h1 h63 hbytes hbase
  unfold Oper.wp execOp
  simp only [ho, resolve, invoke, builtin, Sem.run_bind, Sem.run_pure, Result.andThen_ok, List.map_toArray, List.map_cons, List.map_nil, hs, hx, hr]
  exact h v' w' h2 h3 h5

theorem ownsRow_keeps {S : List Nat} {w w' : World} {base : Nat} {e : TypeId} {size : Nat} {v : Value} {n : Nat} {xs : List Value} (h : w.ownsRow base e size v n xs) (k : Keeps S w w') (hs : ∀ j, v.ownBlock = some j → j ∉ S) : w'.ownsRow base e size v n xs := by
  refine ⟨h.1, ?_⟩
  rcases h.2 with hn | ⟨g, cap, cur, rfl, hb, hgg, rest⟩
  · exact .inl hn
  · exact .inr ⟨g, cap, cur, rfl, hb, (k.block g (lt_of_block hgg) (hs g rfl)).trans hgg, rest⟩
theorem cells_keeps {S : List Nat} {w w' : World} {ad : Addr} {xs : List Value} (h : ∀ j u, xs[j]? = some u → w.cell? (ad.add j) = some u) (k : Keeps S w w') (hs : ad.block ∉ S) : ∀ j u, xs[j]? = some u → w'.cell? (ad.add j) = some u := by
  intro j u hu
  have h0 := h j u hu
  have hb : (ad.add j).block = ad.block := by unfold Addr.add; split <;> rfl
  have hlt := World.block_lt_of_cell? w _ h0
  exact (World.cell?_of_block (k.block _ hlt (by rw [hb]; exact hs))).trans h0
theorem block_grown {w w' : World} {row : Option Nat} {g : Nat} {o : Obj} (h : w.heap[g]? = some o) (hg : w.grownBy w' row) (hne : row ≠ some g) : w'.heap[g]? = some o := (hg.block g (lt_of_block h) (fun e => hne e.symm)).trans h
/-- A statement that ends, and goes on. -/
def Goes (J : Act → World → Prop) : Exit → Act → World → Prop
  | .normal, a, w => J a w
  | _, _, _ => False
theorem wp_goes {P : Program} {c : Code} {K : Act → World → Prop} {Q' : Exit → Act → World → Prop} {a : Act} {w : World} (h : ∀ J : Act → World → Prop, (∀ a' w', K a' w' → J a' w') → c.wp P (Goes J) a w) : c.wp P (Exit.then K Q') a w := by
  refine wp_mono (h K fun _ _ q => q) ?_
  intro e a' w' hq
  cases e with
  | normal => exact hq
  | exit id => exact hq.elim
  | goto l => exact hq.elim
  | ret => exact hq.elim
  | panic ch => exact hq.elim
  | outgrown => exact hq.elim

theorem ownsRow_slice {w : World} {base : Nat} {e : TypeId} {size : Nat} {v : Value} {n : Nat} {xs : List Value} (h : w.ownsRow base e size v n xs) : ∃ ao cap, v = .slice ao n cap := by
  rcases h.2 with ⟨rfl, rfl⟩ | ⟨g, cap, _, rfl, _⟩
  · exact ⟨none, 0, rfl⟩
  · exact ⟨_, cap, rfl⟩
theorem info5 : (Try.prog.info? 5).map (fun i => (i.zero, i.size, i.bytes)) = some (some (.int .u8 0), 1, 1) := by kernel_rfl

def FSt.wrote (s : FSt) (n : Int) : FSt := { s with written := s.written + n }

set_option maxRecDepth 100000 in
set_option maxHeartbeats 1600000 in
/-- Write, to an open file, of what there is room for. -/
theorem write_ok (f b g : Nat) (s : FSt) (nm : ByteArray) (p q : Int) (v : Value) (sy op : Int) (wr : Bool) (n : Nat) (xs : List Value) (ad : Addr) (m c : Nat) (news : List Value) (w : World) (hb : FsAt w b 0 s) (hf : FileAt w f b s.life nm true true false g p q) (hg : BodyAt w g v sy op wr)
    (hv : w.ownsRow 0 5 1 v n xs) (hl : news.length = m) (hnews : ∀ j u, news[j]? = some u → w.cell? (ad.add j) = some u) (h1 : ∀ u ∈ news, u.oneCell' = true) (hmc : m ≤ c) (hcm : c ≤ maxLen)
    (e1 : f ≠ b) (e2 : g ≠ b) (e3 : f ≠ g) (e4 : v.ownBlock ≠ some b) (e5 : v.ownBlock ≠ some g) (e6 : v.ownBlock ≠ some f) (e7 : m = 0 ∨ ad.block ≠ b) (hroom : (m : Int) ≤ s.mb - s.used) (u0 : 0 ≤ s.used) (b1 : s.mb ≤ 67108864) (hnu : n ≤ 67108864) (wr0 : 0 ≤ s.written) (wr1 : s.written < 4611686018427387904)
    (hfa : s.fa = .slice none 0 0) (hpi : s.pi = 0) (c0 : 0 ≤ s.calls) (c1 : s.calls < 4611686018427387904) (o0 : 0 ≤ s.ops 2) (o1 : s.ops 2 < 4611686018427387904) (hpp : s.pp = 0 ∨ s.calls + 1 < s.pp) (hd : s.drk = false) :
    Calls Try.prog 75 #[.pointer (some ⟨f, 0, none⟩), .slice (some ad) m c] w fun e w' => ∃ v', e = .returned (.tuple #[.int .i64 m, .int .i64 0]) ∧
      FsAt w' b 0 (((s.called 2 false).wrote m).grown m) ∧ FileAt w' f b s.life nm true true false g p q ∧ BodyAt w' g v' sy op wr ∧ w'.ownsRow 0 5 1 v' (n + m) (xs ++ news) ∧
      Keeps ([b, g] ++ v.ownBlock.toList) w w' ∧ (v'.ownBlock = v.ownBlock ∨ ∃ k, v'.ownBlock = some k ∧ w.heap.size ≤ k) := by
  have h0 := (file_facts hf).1
  have z0 : w.cell? ⟨b, 0, none⟩ = some (.int .i32 0) := by rw [hb.cell]; rfl
  have f0 := hb.free 0
  have Hb := Lib.hid hb
  have Hf := Lib.hid hf
  have Hg := Lib.hid hg
  have Hv := Lib.hid hv
  have Hl := Lib.hid hl
  have Hnews := Lib.hid hnews
  have Hfa := Lib.hid hfa
  have Hpi := Lib.hid hpi
  have Hd := Lib.hid hd
  have Hpp := Lib.hid hpp
  clear hfa hpi hd hpp hb hf hg hv hl hnews
  go_enter_defers Try.func75, Try.ntmps75
  go_wp2_with fail
  refine (made_ok f b w h0).mono ?_
  rintro e w' ⟨rfl, rfl⟩
  go_wp2_with fail
  refine (lock_free Try.muLib ⟨b, 0, none⟩ _ z0 f0).mono ?_
  rintro e w1 ⟨rfl, hw1⟩
  have hb1 : FsAt w1 b 1 s := by rw [hw1]; exact Hb.out.set 0 _ rfl
  have kp1 : Keeps [b] w w1 := by rw [hw1]; exact (Keeps.refl _ _).setCell (by simp) _
  clear z0 f0 h0
  have Hw1 := Lib.hid hw1
  clear hw1
  go_wp2_with fail
  refine (call_ok b 2 1 s _ hb1 (by omega) Hfa.out Hpi.out c0 c1 o0 o1 Hpp.out Hd.out).mono ?_
  rintro e w2 ⟨rfl, hb2, kp2⟩
  have kp2 := kp1.trans kp2
  clear hb1 kp1
  have hf2 := Hf.out.keeps kp2 (by simpa using e1)
  have hg2 := Hg.out.keeps kp2 (by simpa using e2)
  obtain ⟨h0, h1', h3, h4, h5, h6, h7, h8, hf5, _⟩ := file_facts hf2
  have hl2 : w2.cell? ⟨b, 32, none⟩ = some (.int .i64 s.life) := by rw [hb2.cell]; rfl
  go_wp2_with fail
  refine (closed_no f b s.life w2 h0 h1' h5 hl2).mono ?_
  rintro e w3 ⟨rfl, q', hw3⟩
  have hb3 := hb2.ofDrewN hw3.symm
  have kp3 := kp2.ofDrewN hw3.symm
  have hf3 := hf2.keeps ((Keeps.refl [] w2).ofDrewN hw3.symm) (by simp)
  have hg3 := hg2.keeps ((Keeps.refl [] w2).ofDrewN hw3.symm) (by simp)
  clear hw3 hb2 hf2 hg2 h0 h1' h3 h4 h5 h6 h7 h8 hf5 hl2 kp2
  obtain ⟨h0, h1', h3, h4, h5, h6, h7, h8, hf5, _⟩ := file_facts hf3
  have g2 : w3.cell? ⟨b, 2, none⟩ = some (.int .i64 s.mb) := by rw [hb3.cell]; rfl
  have g27 : w3.cell? ⟨b, 27, none⟩ = some (.int .i64 s.used) := by rw [hb3.cell]; rfl
  go_wp2_with fail
  refine (free_named f b s.mb s.used w3 h0 h3 g2 g27 (by omega) (by omega) u0 (by omega)).mono ?_
  rintro e w4 ⟨rfl, q', hw4⟩
  have hb4 := hb3.ofDrewN hw4.symm
  have kp4 := kp3.ofDrewN hw4.symm
  have hf4 := hf3.keeps ((Keeps.refl [] w3).ofDrewN hw4.symm) (by simp)
  have hg4 := hg3.keeps ((Keeps.refl [] w3).ofDrewN hw4.symm) (by simp)
  clear hw4 hb3 hf3 hg3 h0 h1' h3 h4 h5 h6 h7 h8 hf5 g2 g27 kp3
  obtain ⟨h0, h1', h3, h4, h5, h6, h7, h8, hf5, _⟩ := file_facts hf4
  obtain ⟨k0, k1, k2, k3, kf0, kf1, kf2, kf3⟩ := body_facts hg4
  have tm : min (m : Int) (s.mb - s.used) = (m : Int) := by omega
  go_wp2_with fail
  have hv4 := ownsRow_keeps Hv.out kp4 (fun j hj => by simp only [List.mem_singleton]; exact fun e => e4 (e ▸ hj))
  have hn4 : ∀ j u, news[j]? = some u → w4.cell? (ad.add j) = some u := by
    rcases e7 with h | h
    · have hnil : news = [] := List.eq_nil_of_length_eq_zero (by rw [Hl.out, h])
      intro j u hu
      rw [hnil] at hu
      simp at hu
    · exact cells_keeps Hnews.out kp4 (by simpa using h)
  obtain ⟨i0, hi, hz0, hz1, hz2⟩ := info_parts info5
  have hl1 : news.length = m * 1 := by rw [Hl.out, Nat.mul_one]
  have b63 : n + m ≤ maxLen := by unfold maxLen; omega
  have b47 : (n + m) * 1 ≤ 140737488355328 := by omega
  have Hi := Lib.hid hi
  have Hz0 := Lib.hid hz0
  have Hz1 := Lib.hid hz1
  have Hz2 := Lib.hid hz2
  have Hv4 := Lib.hid hv4
  have Hn4 := Lib.hid hn4
  have Hl1 := Lib.hid hl1
  have B63 := Lib.hid b63
  have B47 := Lib.hid b47
  have Hb4 := Lib.hid hb4
  have Hf4 := Lib.hid hf4
  have Hg4 := Lib.hid hg4
  have Kp4 := Lib.hid kp4
  have H1 := Lib.hid h1
  clear hi hz0 hz1 hz2 hv4 hn4 hl1 b63 b47 hb4 hf4 hg4 kp4 h1 h0 h1' h3 h4 h5 h7 h8 hf5 k1 k2 k3 kf1 kf2 kf3
  have hcm' : (c : Int) ≤ 9223372036854775807 := by unfold maxLen at hcm; omega
  have hmc' : (m : Int) ≤ (c : Int) := by omega
  have hm0 : (0 : Int) ≤ (m : Int) := by omega
  refine wp_goes fun J hJ => ?_
  go_region_law (refine step_append_at rfl (.tmp 50) (.tmp 53) 22 rfl 0 5 i0 (.int .u8 0) 1 1 Try.underlying22 Hi.out Hz0.out Hz1.out Hz2.out rfl (by decide) v n xs rfl Hv4.out ad m c news rfl Hl1.out Hn4.out H1.out B63.out B47.out (Nat.zero_le _) ?_; intro v' w5 hown5 hgrow5 hloc5; obtain ⟨ao5, cp5, rfl⟩ := ownsRow_slice hown5; have hf5 : FileAt w5 f b s.life nm true true false g p q := block_grown (w := w4.drew) Hf4.out hgrow5 e6; have hg5 : BodyAt w5 g v sy op wr := block_grown (w := w4.drew) Hg4.out hgrow5 e5; have h6' := (file_facts hf5).2.2.2.2.2.1; have k0' := (body_facts hg5).1; have kf0' := (body_facts hg5).2.2.2.2.1)
  all_goals
    refine hJ _ _ ?_
    clear hJ
    have hb5 : FsAt w5 b 1 (s.called 2 false) := block_grown (w := w4.drew) Hb4.out hgrow5 e4
    have kp5 : Keeps (b :: v.ownBlock.toList) w w5 := ((Kp4.out.mono (T := b :: v.ownBlock.toList) (by simp)).drew).grown hgrow5 (fun k hk => .inl (by simp [hk]))
    have ho5 : (Value.slice ao5 (n + m) cp5).ownBlock = v.ownBlock ∨ ∃ k, (Value.slice ao5 (n + m) cp5).ownBlock = some k ∧ w4.heap.size ≤ k := by
      rcases hloc5 with h | h
      · exact .inl h
      · exact .inr ⟨_, h, Nat.le_refl _⟩
    have hog : (Value.slice ao5 (n + m) cp5).ownBlock ≠ some g := by
      rcases ho5 with h | ⟨k, h, hk⟩
      · rw [h]; exact e5
      · rw [h]; intro e; have := lt_of_block Hg4.out; cases e; omega
    have hob : (Value.slice ao5 (n + m) cp5).ownBlock ≠ some b := by
      rcases ho5 with h | ⟨k, h, hk⟩
      · rw [h]; exact e4
      · rw [h]; intro e; have := lt_of_block Hb4.out; cases e; omega
    have hg6 : BodyAt (w5.setCell ⟨g, 0, none⟩ (.slice ao5 (n + m) cp5)) g (.slice ao5 (n + m) cp5) sy op wr := heap_set hg5 _
    have hf6 : FileAt (w5.setCell ⟨g, 0, none⟩ (.slice ao5 (n + m) cp5)) f b s.life nm true true false g p q := (heap_set_ne (by simpa using e3) _).trans hf5
    have hb6 := hb5.setNe (a := ⟨g, 0, none⟩) (fun e => e2 e.symm) (.slice ao5 (n + m) cp5)
    have hv6 := ownsRow_setCell_other hown5 (a := ⟨g, 0, none⟩) hog (.slice ao5 (n + m) cp5)
    have kp6 : Keeps ([b, g] ++ v.ownBlock.toList) w (w5.setCell ⟨g, 0, none⟩ (.slice ao5 (n + m) cp5)) := (kp5.mono (by intro k hk; simp at hk ⊢; rcases hk with h | h <;> simp [h])).setCell (by simp) _
    have hsz : w.heap.size ≤ w4.heap.size := Kp4.out.size
    clear hown5 hgrow5 hloc5 hf5 hg5 hb5 kp5 h6' k0' kf0' h6 k0 kf0 tm
    generalize w5.setCell ⟨g, 0, none⟩ (.slice ao5 (n + m) cp5) = w6 at *
    have h3 := (file_facts hf6).2.2.1
    have g24 : w6.cell? ⟨b, 24, none⟩ = some (.int .i64 s.written) := by rw [hb6.cell]; rfl
    have f24 := hb6.free 24
    have Hb6 := Lib.hid hb6
    have Hf6 := Lib.hid hf6
    have Hg6 := Lib.hid hg6
    have Hv6 := Lib.hid hv6
    have Kp6 := Lib.hid kp6
    have Ho5 := Lib.hid ho5
    clear hb6 hf6 hg6 hv6 kp6 ho5
    go_wp2_with fail
    have hb7 := Hb6.out.set (s' := (s.called 2 false).wrote m) (l' := 1) 24 (.int .i64 (s.written + m)) rfl
    refine (grow_ok b 1 m _ _ hb7 (by show _ ≤ s.used + m; omega) (by show s.used + m ≤ _; omega)).mono ?_
    rintro e w7 ⟨rfl, hb8, kp8⟩
    clear hb7 h3 g24 f24
    go_wp2_with fail
    refine leaves_cons (f := 43) (args := #[.pointer (some ⟨b, 0, none⟩)]) (by simp) (by simp [go_sem]) ?_
    refine (unlock_deferred Try.muLib ⟨b, 0, none⟩ .returning _ ?_ ?_).mono ?_
    · rw [hb8.cell]; rfl
    · exact hb8.free 0
    rintro e u' w'' ⟨rfl, rfl, rfl⟩
    have kp9 : Keeps [b] w6 (w7.setCell ⟨b, 0, none⟩ (.int .i32 0)) := (((Keeps.refl [b] w6).setCell (by simp) _).trans kp8).setCell (by simp) _
    refine ⟨_, results_tmp2 rfl _ _ _, .slice ao5 (n + m) cp5, rfl, hb8.set 0 _ rfl, Hf6.out.keeps kp9 (by simpa using e1), Hg6.out.keeps kp9 (by simpa using e2), ownsRow_keeps Hv6.out kp9 (fun j hj => by simp only [List.mem_singleton]; exact fun e => hob (e ▸ hj)), Kp6.out.trans (kp9.mono (by simp)), ?_⟩
    rcases Ho5.out with h | ⟨k, h, hk⟩
    · exact .inl h
    · exact .inr ⟨k, h, Nat.le_trans hsz hk⟩
end Go.Proofs.Ytolnojhepakaoaa
