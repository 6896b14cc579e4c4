/- Open, ModeNew, under a name that is not there: the walk. -/
import Derived.Test.YtolnojhepakaoaaRefuse
import Derived.StillTailTactics
namespace Go.Proofs.Ytolnojhepakaoaa
open Go.RowKit Go.Maps Go.MuLone

/-- A File, in memory. -/
def FileAt (w : World) (f b : Nat) (life : Int) (nm : ByteArray) (named writes shut : Bool) (g : Nat) (at_ room : Int) : Prop :=
  w.heap[f]? = some (.cells #[.pointer (some ⟨b, 0, none⟩), .int .i64 life, .string nm, .bool named, .bool writes, .bool shut, .pointer (some ⟨g, 0, none⟩), .int .i64 at_, .int .i64 room] 99 (0, 0))

theorem FsAt.keeps {S : List Nat} {w w' : World} {b : Nat} {l : Int} {s : FSt} (h : FsAt w b l s) (k : Keeps S w w') (hb : b ∉ S) : FsAt w' b l s := (k.block b (lt_of_block h) hb).trans h
theorem BodyAt.keeps {S : List Nat} {w w' : World} {g : Nat} {v : Value} {sy op : Int} {wr : Bool} (h : BodyAt w g v sy op wr) (k : Keeps S w w') (hb : g ∉ S) : BodyAt w' g v sy op wr := (k.block g (lt_of_block h) hb).trans h
theorem FileAt.keeps {S : List Nat} {w w' : World} {f b : Nat} {life : Int} {nm : ByteArray} {x y z : Bool} {g : Nat} {p q : Int} (h : FileAt w f b life nm x y z g p q) (k : Keeps S w w') (hb : f ∉ S) : FileAt w' f b life nm x y z g p q := (k.block f (lt_of_block h) hb).trans h

theorem FsAt.alloc {w : World} {b : Nat} {l : Int} {s : FSt} (h : FsAt w b l s) (o : Obj) : FsAt (w.alloc o) b l s := h.keeps ((Keeps.refl [] w).alloc o) (by simp)

theorem Keeps.drop {S T : List Nat} {w w' : World} (h : Keeps S w w') (hs : ∀ k ∈ S, k ∈ T ∨ w.heap.size ≤ k) : Keeps T w w' :=
  ⟨h.os, h.tape, h.output, h.size, fun k hk hn => h.block k hk fun hm => by rcases hs k hm with h' | h' <;> first | exact hn h' | omega⟩
theorem FsAt.setNe {w : World} {b : Nat} {l : Int} {s : FSt} (h : FsAt w b l s) {a : Addr} (ha : b ≠ a.block) (v : Value) : FsAt (w.setCell a v) b l s := (heap_set_ne ha v).trans h

def FSt.opened (s : FSt) (mk : Int) : FSt := { s with made := s.made + mk, opn := s.opn + 1, peak := max s.peak (s.opn + 1) }

theorem after_put {S : List Nat} {w w3 w4 : World} {b mp : Nat} {l : Int} {s : FSt} {c : Array Value} {T : TypeId} (hb : FsAt w3 b l s) (kp : Keeps S w w3) (hg : (w3.alloc (.cells c T)).grownBy w4 (some mp)) (hne : mp ≠ b) (hmp : mp < w3.heap.size) :
    FsAt w4 b l s ∧ w4.heap[w3.heap.size]? = some (.cells c T (0, 0)) ∧ Keeps (mp :: S) w w4 ∧ w3.heap.size < w4.heap.size := by
  have hbl := lt_of_block hb
  refine ⟨?_, ?_, ?_, ?_⟩
  · exact (hg.block b (by simp; omega) (fun e => hne (Option.some.inj e).symm)).trans (hb.alloc _)
  · exact (hg.block _ (by simp) (fun e => by have := Option.some.inj e; omega)).trans (heap_alloc_new w3 _)
  · exact ((kp.mono (fun k hk => List.mem_cons_of_mem _ hk)).alloc (.cells c T)).grown hg (fun k hk => .inl (by cases hk; simp))
  · have := hg.size; simp at this; omega

/-- What a walk reads of a body that lies in block g. -/
theorem body_facts {w : World} {g : Nat} {v : Value} {sy op : Int} {wr : Bool} (h : BodyAt w g v sy op wr) :
    w.cell? ⟨g, 0, none⟩ = some v ∧ w.cell? ⟨g, 1, none⟩ = some (.int .i64 sy) ∧ w.cell? ⟨g, 2, none⟩ = some (.int .i64 op) ∧ w.cell? ⟨g, 3, none⟩ = some (.bool wr) ∧ w.frozen? ⟨g, 0, none⟩ = false ∧ w.frozen? ⟨g, 1, none⟩ = false ∧ w.frozen? ⟨g, 2, none⟩ = false ∧ w.frozen? ⟨g, 3, none⟩ = false :=
  ⟨by rw [cell_of h]; rfl, by rw [cell_of h]; rfl, by rw [cell_of h]; rfl, by rw [cell_of h]; rfl, free_of h, free_of h, free_of h, free_of h⟩
/-- What Open reads and writes of the system's block. -/
theorem stat_facts {w : World} {b k : Nat} {l : Int} {s : FSt} {d : Bool} (h : FsAt w b l (s.called k d)) :
    w.cell? ⟨b, 23, none⟩ = some (.int .i64 s.made) ∧ w.cell? ⟨b, 25, none⟩ = some (.int .i64 s.opn) ∧ w.frozen? ⟨b, 23, none⟩ = false ∧ w.frozen? ⟨b, 25, none⟩ = false :=
  ⟨by rw [h.cell]; rfl, by rw [h.cell]; rfl, h.free _, h.free _⟩

set_option maxRecDepth 100000 in
set_option maxHeartbeats 1600000 in
/-- Open, ModeNew, under a name that isn't there. -/
theorem open_new (b : Nat) (s : FSt) (n : Nat) (D : DataW Value) (nm : ByteArray) (w : World) (hb : FsAt w b 0 s) (hn : Nam nm) (hown : w.ownsMap Try.prog 9 heldR s.mp n D) (hne : s.mp ≠ b)
    (hat : D.atKey (key nm) (.held (.pointer none)) = .held (.pointer none)) (hf : (n : Int) < s.mf) (hh : s.opn < s.mh) (hs : Maps.size D = n)
    (hfa : s.fa = .slice none 0 0) (hpi : s.pi = 0) (c0 : 0 ≤ s.calls) (c1 : s.calls < 4611686018427387904) (o0 : 0 ≤ s.ops 0) (o1 : s.ops 0 < 4611686018427387904) (hpp : s.pp = 0 ∨ s.calls + 1 < s.pp) (hd : s.drk = false)
    (m0 : 0 ≤ s.made) (m1 : s.made < 4611686018427387904) (hN : n < 4611686018427387904) (n0 : 0 ≤ s.opn) (n1 : s.mh ≤ 256) :
    Calls Try.prog 52 #[.pointer (some ⟨b, 0, none⟩), .string nm, .int .u8 2] w fun e w' => ∃ f g, e = .returned (.tuple #[.pointer (some ⟨f, 0, none⟩), .int .i64 0]) ∧
      FsAt w' b 0 ((s.called 0 false).opened 1) ∧ BodyAt w' g (.slice none 0 0) 0 1 true ∧ FileAt w' f b s.life nm true true false g 0 0 ∧ w'.ownsMap Try.prog 9 heldR s.mp (n + 1) (D.put (key nm) (.held (.pointer (some ⟨g, 0, none⟩)))) ∧
      Keeps [b, s.mp] w w' ∧ w.heap.size ≤ g ∧ w.heap.size ≤ f ∧ f ≠ g := by
  have hkey := key_of hn
  have Hat := Lib.hid hat
  have Hown := Lib.hid hown
  have Hkey := Lib.hid hkey
  have Hn := Lib.hid hn
  have Hs := Lib.hid hs
  have Hfa := Lib.hid hfa
  have Hpi := Lib.hid hpi
  have Hd := Lib.hid hd
  have Hpp := Lib.hid hpp
  have Hb := Lib.hid hb
  have z0 : w.cell? ⟨b, 0, none⟩ = some (.int .i32 0) := by rw [hb.cell]; rfl
  have f0 := hb.free 0
  clear hat hown hkey hn hs hfa hpi hd hpp hb
  go_enter_defers Try.func52, Try.ntmps52
  go_wp2_with fail
  refine (lock_free Try.muLib ⟨b, 0, none⟩ _ z0 f0).mono ?_
  rintro e w1 ⟨rfl, hw1⟩
  have hb1 : FsAt w1 b 1 s := by rw [hw1]; exact Hb.out.set 0 _ rfl
  have kp1 : Keeps [b] w w1 := by rw [hw1]; exact (Keeps.refl _ _).setCell (by simp) _
  clear z0 f0
  have Hw1 := Lib.hid hw1
  clear hw1
  go_wp2_with fail
  refine (call_ok b 0 1 s _ hb1 (by omega) Hfa.out Hpi.out c0 c1 o0 o1 Hpp.out Hd.out).mono ?_
  rintro e w2 ⟨rfl, hb2, kp2⟩
  have kp2 := kp1.trans kp2
  clear hb1 kp1
  have hown2 := ownsMap_keeps Hown.out kp2 (by simpa using hne)
  go_wp2_with fail
  refine (refuseOpen_new b 1 _ n D nm 2 w2 hb2 Hn.out hown2 Hat.out (by omega) (by omega) hf hh Hs.out).mono ?_
  rintro e w3 ⟨rfl, q, hw3⟩
  have hb3 := hb2.ofDrewN hw3.symm
  have kp3 := kp2.ofDrewN hw3.symm
  have hown3 := ownsMap_keeps Hown.out kp3 (by simpa using hne)
  clear hb2 kp2 hown2 hw3
  have g12 : w3.cell? ⟨b, 12, none⟩ = some (.map (some s.mp)) := by rw [hb3.cell]; rfl
  have hN' : n < maxLen := by unfold maxLen; omega
  have g12a : ∀ o, (w3.alloc o).cell? ⟨b, 12, none⟩ = some (.map (some s.mp)) := fun o => by rw [(hb3.alloc o).cell]; rfl
  have Hb3 := Lib.hid hb3
  have Hown3 := Lib.hid hown3
  have Kp3 := Lib.hid kp3
  have hne' : ¬ (w3.heap.size = b) := by have := lt_of_block hb3; omega
  clear hb3 hown3 kp3
  go_wp2_with (first
    | (at_lookup; refine wpList_lookup_held _ rfl _ _ 90 rfl 9 94 law9 Try.underlying90 (Try.zeroValue94 _) s.mp n D rfl Hown3.out _ _ rfl Hkey.out (.pointer none) Hat.out ?_)
    | (at_mapUpdate; go_must (refine wpList_mapUpdate_own _ rfl _ _ _ 90 rfl 9 94 law9 Try.underlying90 heldR s.mp n D rfl (Hown3.out.alloc _) hN' _ _ (key nm) rfl rfl Hkey.out (.held (.pointer (some ⟨w3.heap.size, 0, none⟩))) [] rfl ?_; intro w4 hown4 hgrow4; clear g12 g12a; obtain ⟨hb4, hg4, kp4, lt4⟩ := after_put Hb3.out Kp3.out hgrow4 hne Hown3.out.lt; obtain ⟨g23, g25, f23, f25⟩ := stat_facts hb4; obtain ⟨k0, k1, k2, k3, kf0, kf1, kf2, kf3⟩ := body_facts hg4; have d1 := fun e => hne' e; have d2 := fun e => hne' (Eq.symm e))))
  clear g23 g25 f23 f25 k0 k1 k2 k3 kf0 kf1 kf2 kf3
  generalize hg : w3.heap.size = g at *
  have hb5 : FsAt ((((w4.setCell ⟨b, 23, none⟩ (.int .i64 (s.made + 1))).setCell ⟨g, 2, none⟩ (.int .i64 1)).setCell ⟨g, 3, none⟩ (.bool true)).setCell ⟨b, 25, none⟩ (.int .i64 (s.opn + 1))) b 1 { s.called 0 false with made := s.made + 1, opn := s.opn + 1 } := by
    refine FsAt.set (s := { s.called 0 false with made := s.made + 1 }) (l := 1) ?_ 25 _ rfl
    unfold FsAt
    rw [heap_set_ne (by simpa using d2), heap_set_ne (by simpa using d2)]
    exact hb4.set 23 _ rfl
  have hg5 : BodyAt ((((w4.setCell ⟨b, 23, none⟩ (.int .i64 (s.made + 1))).setCell ⟨g, 2, none⟩ (.int .i64 1)).setCell ⟨g, 3, none⟩ (.bool true)).setCell ⟨b, 25, none⟩ (.int .i64 (s.opn + 1))) g (.slice none 0 0) 0 1 true := by
    unfold BodyAt
    rw [heap_set_ne (by simpa using d1)]
    have h0 : (w4.setCell ⟨b, 23, none⟩ (.int .i64 (s.made + 1))).heap[g]? = _ := (heap_set_ne (by simpa using d1) _).trans hg4
    exact heap_set (heap_set h0 _) _
  have kp5 : Keeps [g, b] w4 ((((w4.setCell ⟨b, 23, none⟩ (.int .i64 (s.made + 1))).setCell ⟨g, 2, none⟩ (.int .i64 1)).setCell ⟨g, 3, none⟩ (.bool true)).setCell ⟨b, 25, none⟩ (.int .i64 (s.opn + 1))) :=
    ((((Keeps.refl _ w4).setCell (by simp) _).setCell (by simp) _).setCell (by simp) _).setCell (by simp) _
  generalize ((((w4.setCell ⟨b, 23, none⟩ (.int .i64 (s.made + 1))).setCell ⟨g, 2, none⟩ (.int .i64 1)).setCell ⟨g, 3, none⟩ (.bool true)).setCell ⟨b, 25, none⟩ (.int .i64 (s.opn + 1))) = w5 at *
  have hlm : s.mp < w.heap.size := Hown.out.lt
  have hgw : w.heap.size ≤ g := by rw [← hg]; exact Kp3.out.size
  have kp6 : Keeps [g, s.mp, b] w w5 := (kp4.mono (fun k hk => List.mem_cons_of_mem _ hk)).trans (kp5.mono (fun k hk => by simp at hk ⊢; omega))
  have hown6 := ownsMap_keeps hown4 kp5 (by simp; omega)
  clear kp5 hb4 kp4
  have g25 : w5.cell? ⟨b, 25, none⟩ = some (.int .i64 (s.opn + 1)) := by rw [hb5.cell]; rfl
  have g26 : w5.cell? ⟨b, 26, none⟩ = some (.int .i64 s.peak) := by rw [hb5.cell]; rfl
  have f26 := hb5.free 26
  go_still_tail 15, (by kernel_rfl)
  change wpList _ _ _ _ _ w5.drew
  have hb6 := hb5.drew
  have hg6 : BodyAt w5.drew g (.slice none 0 0) 0 1 true := hg5
  have kp7 := kp6.drew
  have hown7 : w5.drew.ownsMap Try.prog 9 heldR s.mp (n + 1) _ := hown6.drew
  have f26' : w5.drew.frozen? ⟨b, 26, none⟩ = false := hb6.free 26
  have g26' : w5.drew.cell? ⟨b, 26, none⟩ = some (.int .i64 s.peak) := by rw [hb6.cell]; rfl
  clear g25 g26 f26 hb5 hg5 kp6 hown6 hown4 hgrow4 hg4
  generalize w5.drew = w6 at *
  go_wp2_with fail
  have hb7 := (hb6.set (s' := (s.called 0 false).opened 1) (l' := 1) 26 (.int .i64 (max s.peak (s.opn + 1))) rfl)
  have hg7 : BodyAt (w6.setCell ⟨b, 26, none⟩ (.int .i64 (max s.peak (s.opn + 1)))) g (.slice none 0 0) 0 1 true := (heap_set_ne (by simpa using d1) _).trans hg6
  have kp8 := (kp7.setCell (p := ⟨b, 26, none⟩) (by simp) (.int .i64 (max s.peak (s.opn + 1))))
  have hown8 : (w6.setCell ⟨b, 26, none⟩ (.int .i64 (max s.peak (s.opn + 1)))).ownsMap Try.prog 9 heldR s.mp (n + 1) _ := ownsMap_keeps hown7 (((Keeps.refl [b] w6).setCell (p := ⟨b, 26, none⟩) (by simp) _)) (by simpa using hne)
  clear hb6 hg6 hown7 kp7 f26' g26'
  generalize (w6.setCell ⟨b, 26, none⟩ (.int .i64 (max s.peak (s.opn + 1)))) = w7 at *
  have g32 : w7.cell? ⟨b, 32, none⟩ = some (.int .i64 s.life) := by rw [hb7.cell]; rfl
  have k3 : w7.cell? ⟨g, 3, none⟩ = some (.bool true) := by rw [cell_of hg7]; rfl
  go_still_tail 12, (by kernel_rfl)
  change wpList _ _ _ _ _ w7.drew
  generalize hw8 : w7.drew = w8 at *
  go_wp2_with fail
  have hb8 : FsAt w8 b 1 ((s.called 0 false).opened 1) := by rw [← hw8]; exact hb7
  have hg8 : BodyAt w8 g (.slice none 0 0) 0 1 true := by rw [← hw8]; exact hg7
  have kp9 : Keeps [g, s.mp, b] w w8 := by rw [← hw8]; exact kp8.drew
  have hown9 := hown8.drew
  rw [hw8] at hown9
  have hbl := lt_of_block hb8
  have hgl := lt_of_block hg8
  have hml := hown9.lt
  clear hb7 hg7 kp8 hown8 g32 k3
  refine leaves_cons (f := 43) (args := #[.pointer (some ⟨b, 0, none⟩)]) (by simp) (by simp [go_sem]) ?_
  refine (unlock_deferred Try.muLib ⟨b, 0, none⟩ .returning _ ?_ ?_).mono ?_
  · rw [(hb8.alloc _).cell]; rfl
  · exact (hb8.alloc _).free 0
  rintro e u' w'' ⟨rfl, rfl, rfl⟩
  refine ⟨_, results_tmp2 rfl _ _ _, w8.heap.size, g, rfl, (hb8.alloc _).set 0 _ rfl, ?_, ?_, ?_, ?_, hgw, ?_, ?_⟩
  · exact (heap_set_ne (by simpa using d1) _).trans ((Below.heap_alloc w8 _ g hgl).trans hg8)
  · exact (heap_set_ne (by simp; omega) _).trans (heap_alloc_new w8 _)
  · exact ownsMap_keeps (hown9.alloc _) ((Keeps.refl [b] _).setCell (by simp) _) (by simpa using hne)
  · exact ((kp9.alloc _).setCell (by simp) _).drop (fun k hk => by simp at hk ⊢; omega)
  · exact kp9.size
  · omega
end Go.Proofs.Ytolnojhepakaoaa
