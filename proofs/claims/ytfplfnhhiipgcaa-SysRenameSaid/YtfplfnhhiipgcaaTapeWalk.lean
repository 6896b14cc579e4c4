/- SysTape, over pieces and a list of short reads that are not nil: the walk. -/
import Derived.Test.YtfplfnhhiipgcaaTape
namespace Go.Proofs.Ytfplfnhhiipgcaa
open Go.RowKit Go.Maps Go.MuLone

theorem ShortAt.lt {w : World} {sh : Value} {b : Nat} (h : ShortAt w sh b) : ∀ so sb sn sc, sh = .slice (some ⟨sb, so, none⟩) sn sc → 0 < sn → sb < w.heap.size := by
  intro so sb sn sc e h0
  rcases h with ⟨so', sc', h'⟩ | ⟨sb', so', sn', sc', z, h', _, _, _, h3⟩
  · rw [h'] at e; simp at e; omega
  · rw [h'] at e
    simp only [Value.slice.injEq, Option.some.injEq, Addr.mk.injEq] at e
    obtain ⟨⟨rfl, rfl, _⟩, rfl, rfl⟩ := e
    exact World.block_lt_of_cell? w _ (h3 0 h0).1
theorem ShortAt.apart {w : World} {sh : Value} {b mp n : Nat} {D : DataW Value} (h : ShortAt w sh b) (hm : w.ownsMap Try.prog 9 heldR mp n D) : ∀ so sb sn sc, sh = .slice (some ⟨sb, so, none⟩) sn sc → 0 < sn → sb ∉ [b, mp] := by
  intro so sb sn sc e h0
  rcases h with ⟨so', sc', h'⟩ | ⟨sb', so', sn', sc', z, h', _, _, h2, h3⟩
  · rw [h'] at e; simp at e; omega
  · rw [h'] at e
    simp only [Value.slice.injEq, Option.some.injEq, Addr.mk.injEq] at e
    obtain ⟨⟨rfl, rfl, _⟩, rfl, rfl⟩ := e
    intro hmem
    simp at hmem
    rcases hmem with rfl | rfl
    · exact h2 rfl
    · obtain ⟨es, clock, hb, _⟩ := hm
      have h4 := (h3 0 h0).1
      simp [World.cell?, hb] at h4
/-- append of a piece, nil or not, onto a row of the call's own. -/
theorem wpList_append_piece {P : Program} {w : World} {ops : Array Oper} {rest : List Oper} {o : Oper} {a : Act} {Q : Exit → Act → World → Prop} (hgd : o.guard = none) (s x : Operand) (t : TypeId)
    (ho : o.op = .call { callee := .builtin .append, args := #[s, x], argTypes := #[t, t] })
    (base : Nat) (e : TypeId) (i : TypeInfo) (z : Value) (bytes : Nat) (ht : P.underlying t = some (.slice e)) (hi : P.info? e = some i) (hz : i.zero = some z)
    (hsize : i.size = 1) (hby : i.bytes = bytes) (hzs : z.cells.size = 1)
    (v : Value) (n : Nat) (xs : List Value) (hs : a.eval s = v) (hown : w.ownsRow base e 1 v n xs)
    (ao : Option Addr) (m c : Nat) (news : List Value) (hx : a.eval x = .slice ao m c) (h0 : ao = none → m = 0 ∧ c = 0) (hl : news.length = m) (hnews : ∀ ad, ao = some ad → ∀ j u, news[j]? = some u → w.cell? (ad.add j) = some u) (h1 : ∀ u ∈ news, u.oneCell' = true)
    (h63 : n + m ≤ maxLen) (hbytes : (n + m) * bytes ≤ 140737488355328) (hbase : base ≤ w.heap.size)
    (h : ∀ v' w', w'.ownsRow base e 1 v' (n + m) (xs ++ news) → w.grownBy w' v.ownBlock → (v'.ownBlock = v.ownBlock ∨ v'.ownBlock = some w.heap.size) → wpList P ops Q rest (a.put o.dst v') w') : wpList P ops Q (o :: rest) a w := by
  refine wpList_plain hgd fun _ hK => ?_
  cases ao with
  | none =>
    obtain ⟨rfl, rfl⟩ := h0 rfl
    have hn : news = [] := List.eq_nil_of_length_eq_zero hl
    subst hn
    have hr := run_append_owned_none (P := P) (w := w) base t o.type e i 1 ht hi v n xs hown
    unfold Oper.wp execOp
    simp only [ho, resolve, invoke, builtin, Sem.run_bind, Sem.run_pure, Result.andThen_ok, List.map_toArray, List.map_cons, List.map_nil, hs, hx, hr]
    exact hK _ _ (h v w (by simpa using hown) ⟨rfl, rfl, rfl, Nat.le_refl _, fun _ _ _ => rfl⟩ (.inl rfl))
  | some ad =>
    obtain ⟨v', w', hr, h2, h3, _, h5⟩ := run_append_own_at (P := P) w base t o.type e i z 1 bytes ht hi hz hsize hby hzs (by omega) v n xs hown ad m c news (by omega) (hnews ad rfl) h1 h63 hbytes hbase
    unfold Oper.wp execOp
    simp only [ho, resolve, invoke, builtin, Sem.run_bind, Sem.run_pure, Result.andThen_ok, List.map_toArray, List.map_cons, List.map_nil, hs, hx, hr]
    exact hK _ _ (h v' w' h2 h3 h5)

/-- Behind the append: the loop's state at the next round. -/
theorem tape_next {w : World} {B b mp g : Nat} {sh : Value} {X : Nat → List Int} {L : Nat → Nat} {M : Int} {k f : Nat} {v want want' : Value} {s : FSt} {wr w' : World} (h : TapeIn w B b mp g sh X L M (k + 1) k f v want s wr) (hM : M + 4 * (k : Int) ≤ 2 + 4 * ((k + 1 : Nat) : Int))
    (h1 : w'.ownsRow B 5 1 want' (tot L k + L k) ((cat X k).map (Value.int .u8) ++ (X k).map (Value.int .u8))) (h2 : wr.grownBy w' want.ownBlock) (h3 : want'.ownBlock = want.ownBlock ∨ want'.ownBlock = some wr.heap.size) :
    TapeIn w B b mp g sh X L 2 (k + 1) (k + 1) f v want' s w' := by
  have hwB : ∀ j, want.ownBlock = some j → B ≤ j := fun j hj => (h.rowW.lt j hj).1
  have hnb : ∀ j, j < B → want.ownBlock ≠ some j := fun j hj e => by have := hwB j e; omega
  have hgl : g < wr.heap.size := lt_of_block h.body
  have hfl : f < wr.heap.size := lt_of_block h.file
  have hkp : Keeps want.ownBlock.toList wr w' := (Keeps.refl _ wr).grown h2 (fun j hj => .inl (by simp [hj]))
  have hkm : ∀ j, j ∈ want.ownBlock.toList → want.ownBlock = some j := fun j hj => by simpa using hj
  have hnew : ∀ j, want'.ownBlock = some j → want.ownBlock = some j ∨ j = wr.heap.size := fun j hj => by
    rcases h3 with h4 | h4
    · exact .inl (h4 ▸ hj)
    · rw [h4] at hj; cases hj; exact .inr rfl
  exact { fs := h.fs.keeps hkp (fun hm => hnb b h.bB (hkm b hm)), fine := h.fine.mono hM, used := h.used, written := h.written, mpe := h.mpe, she := h.she, life := h.life, opn := h.opn, file := h.file.keeps hkp (fun hm => h.wf (hkm f hm)), body := h.body.keeps hkp (fun hm => h.wg (hkm g hm)), rowV := ownsRow_keeps h.rowV hkp (fun j hj hm => h.vw j hj (hkm j hm)), rowW := (by show w'.ownsRow B 5 1 want' (tot L k + L k) ((cat X k ++ X k).map (Value.int .u8)); rw [List.map_append]; exact h1), hB := Nat.le_trans h.hB h2.size, bB := h.bB, mB := h.mB, fB := h.fB, gB := h.gB, fg := h.fg, vg := h.vg, vf := h.vf, wg := (fun e => by rcases hnew g e with h4 | h4 <;> first | exact h.wg h4 | omega), wf := (fun e => by rcases hnew f e with h4 | h4 <;> first | exact h.wf h4 | omega), vw := (fun j hj e => by rcases hnew j e with h4 | h4 <;> first | exact h.vw j hj h4 | (have := (h.rowV.lt j hj).2; omega)), map := ownsMap_keeps h.map hkp (fun hm => hnb mp h.mB (hkm mp hm)), short := h.short.keeps hkp (fun so sb sn sc e h0 hm => hnb sb (h.shB so sb sn sc e h0) (hkm sb hm)), shB := h.shB, wB := h.wB, bm := h.bm, old := ((h.old.mono (by simp)).trans hkp).drop (fun j hj => .inr (by have h4 := hwB j (hkm j hj); have h5 := h.bB; have h6 := h.wB.1; omega)) }

/-- Look, whatever row the bytes lie in. -/
theorem look_any (b g : Nat) (s : FSt) (nm : ByteArray) (n : Nat) (D : DataW Value) (k : Nat) (v : Value) (sy op : Int) (wr : Bool) (zs : List Int) (w : World) (hb : FsAt w b 0 s) (hn : Nam nm) (hown : w.ownsMap Try.prog 9 heldR s.mp k D) (hne : s.mp ≠ b)
    (hat : D.atKey (key nm) (.held (.pointer none)) = .held (.pointer (some ⟨g, 0, none⟩))) (hg : BodyAt w g v sy op wr) (e2 : g ≠ b) (hv : w.ownsRow 0 5 1 v n (zs.map (Value.int .u8))) (e4 : v.ownBlock ≠ some b) (hn1 : n ≤ 67108864) :
    Calls Try.prog 17 #[.pointer (some ⟨b, 0, none⟩), .string nm] w fun e w' => ∃ u : Value, e = .returned (.tuple #[u, .bool true]) ∧ FsAt w' b 0 s ∧ BytesAt w' u zs ∧ Keeps [b] w w' := by
  have hzl : zs.length = n := by have := hv.1; simpa using this
  rcases hv.2 with ⟨rfl, rfl⟩ | ⟨d, cp, cur, rfl, _, hd, hcp, hcm, _⟩
  · have hz : zs = [] := List.eq_nil_of_length_eq_zero hzl
    subst hz
    refine (look_nil' b g s nm D k sy op wr w hb hn hown hne hat hg e2).mono ?_
    rintro e w' ⟨rfl, h1, h2⟩
    exact ⟨_, rfl, h1, bytes_row (World.ownsRow_nil w' 0 5 1), h2⟩
  · have hc : ∀ j, j < n → w.cell? ⟨d, j, none⟩ = some (.int .u8 (zs.getD j 0)) := fun j hj => by
      have h := hv.cells (g := d) rfl j (.int .u8 (zs.getD j 0)) (by simp [List.getD, List.getElem?_eq_getElem (by omega : j < zs.length)])
      have ha : (⟨d, 0, none⟩ : Addr).add j = ⟨d, j, none⟩ := by unfold Addr.add; split <;> simp_all
      rw [ha] at h; exact h
    refine (look_row b g d s nm n cp D k sy op wr zs w hb hn hown hne hat hg e2 (fun e => e4 (by rw [e]; rfl)) hzl hc hn1).mono ?_
    rintro e w' ⟨u, rfl, h1, h2, h3⟩
    exact ⟨u, rfl, h1, bytes_row h2, h3⟩

theorem used_field (s : FSt) (w : World) : (Instr.field 47 s.stats 6).run Try.prog w = .ok (.int .i64 s.used) w := by kernel_rfl

def TapeRel (w : World) (B b mp g : Nat) (sh : Value) (X : Nat → List Int) (L : Nat → Nat) (N : Nat) (f want i : Value) (wr : World) : Prop :=
  ∃ (k fb : Nat) (v : Value) (s : FSt), k ≤ N ∧ f = .pointer (some ⟨fb, 0, none⟩) ∧ i = .int .i64 k ∧ TapeIn w B b mp g sh X L 2 k k fb v want s wr

set_option maxRecDepth 100000 in
set_option maxHeartbeats 3200000 in
theorem tape_some (pb po N C sb so sn sc : Nat) (A : Nat → Option Addr) (L Cc : Nat → Nat) (X : Nat → List Int) (half most : Int) (z : Nat → Int) (w : World) (hN : N ≤ 5864062014805)
    (hp : ∀ i, i < N → w.cell? ⟨pb, po + i, none⟩ = some (.slice (A i) (L i) (Cc i)) ∧ PieceAt w (A i) (L i) (Cc i) (X i))
    (hs : ∀ j, j < sn → w.cell? ⟨sb, so + j, none⟩ = some (.int .i64 (z j))) (hsn : sn ≤ 4611686018427387904) :
    Calls Try.prog 3 #[.slice (some ⟨pb, po, none⟩) N C, .int .i64 half, .slice (some ⟨sb, so, none⟩) sn sc, .int .i64 most] w fun e w' => e = .returned (.bool true) ∧ Keeps [] w w' := by
  have Hp := Lib.hid hp
  have Hs := Lib.hid hs
  clear hp hs
  go_enter Try.func3, Try.ntmps3
  go_wp2_with fail
  refine (fits_ok pb po N C A L Cc w (by omega) (fun i hi => ⟨(Hp.out i hi).1, by have h := (Hp.out i hi).2.1; have h2 := (Hp.out i hi).2.2.1; omega⟩)).mono ?_
  rintro e w' ⟨t, rfl, ht, rfl⟩
  cases t with
  | false =>
    clear ht
    go_wp2_with fail
    go_ret
    exact ⟨rfl, Keeps.refl _ _⟩
  | true =>
    have htot := ht rfl
    clear ht
    by_cases hm : most < 1
    · have t1 : decide (most < 1) = true := by rw [decide_eq_true_iff]; omega
      go_wp2_with fail
      go_ret
      exact ⟨rfl, Keeps.refl _ _⟩
    by_cases hsn : 64 < sn
    · have t1 : decide (most < 1) = false := by rw [decide_eq_false_iff_not]; omega
      go_wp2_with fail
      go_ret
      exact ⟨rfl, Keeps.refl _ _⟩
    have t1 : decide (most < 1) = false := by rw [decide_eq_false_iff_not]; omega
    have t0 : decide (64 < (sn : Int)) = false := by rw [decide_eq_false_iff_not]; omega
    go_wp2_with fail
    go_loop [9] (fun i => ∃ k : Nat, k ≤ sn ∧ i = .int .i64 k ∧ ∀ j, j < k → 1 ≤ z j) (fun i => sn - (intOf i).toNat)
    case atStart => exact ⟨0, Nat.zero_le _, rfl, fun j hj => by omega⟩
    case round =>
      obtain ⟨k, hk, rfl, hz⟩ := hrel
      have Hz := Lib.hid hz
      clear hz
      by_cases hlt : k < sn
      · have hc := Hs.out k hlt
        by_cases hzk : z k < 1
        · have t2 : decide (z k < 1) = true := by rw [decide_eq_true_iff]; omega
          go_wp2_with fail
          go_ret
          exact ⟨rfl, Keeps.refl _ _⟩
        · have t2 : decide (z k < 1) = false := by rw [decide_eq_false_iff_not]; omega
          go_wp2_with fail
          go_round
          case rel => exact ⟨k + 1, by omega, by go_num, fun j hj => by
            rcases Nat.lt_or_ge j k with h | h
            · exact Hz.out j h
            · have : j = k := by omega
              rw [this]; omega⟩
          case measure => simp [intOf]; omega
      · have hks : k = sn := by omega
        have hz1 : ∀ j, j < sn → 1 ≤ z j := fun j hj => Hz.out j (by omega)
        have hok : ShortOk w (.slice (some ⟨sb, so, none⟩) sn sc) := by
          rcases Nat.eq_zero_or_pos sn with h | h
          · exact .inl ⟨_, _, by rw [h]⟩
          · exact .inr ⟨sb, so, sn, sc, z, rfl, h, by omega, fun j hj => ⟨Hs.out j hj, hz1 j hj⟩⟩
        have Hok := Lib.hid hok
        clear hks hz1 hok Hz
        go_wp2_with fail
        refine (wide_ok 0 _ w Hok.out (by omega)).mono ?_
        rintro e w1 ⟨b, mp, sh', d, rfl, hb1, hm1, hs1, hne1, hwb, hwm, kp1⟩
        clear Hok
        have hF1 : Fine (newFS 67108864 1024 256 0 sh' d mp) 0 := ⟨rfl, rfl, rfl, rfl, by simp [newFS], by simp [newFS], fun k => by simp [newFS], fun k => by simp [newFS], by simp [newFS], by simp [newFS], by simp [newFS], rfl, rfl, rfl, by simp [newFS], by simp [newFS]⟩
        have hs1e : (newFS 67108864 1024 256 0 sh' d mp).mp = mp ∧ (newFS 67108864 1024 256 0 sh' d mp).used = 0 ∧ (newFS 67108864 1024 256 0 sh' d mp).written = 0 ∧ (newFS 67108864 1024 256 0 sh' d mp).sh = sh' ∧ (newFS 67108864 1024 256 0 sh' d mp).life = 0 ∧ (newFS 67108864 1024 256 0 sh' d mp).opn = 0 := ⟨rfl, rfl, rfl, rfl, rfl, rfl⟩
        generalize newFS 67108864 1024 256 0 sh' d mp = s0 at *
        have HF1 := Lib.hid hF1
        have Hs1e := Lib.hid hs1e
        have Hb1 := Lib.hid hb1
        have Hm1 := Lib.hid hm1
        have Hs1 := Lib.hid hs1
        have Kp1 := Lib.hid kp1
        clear hF1 hs1e hb1 hm1 hs1 kp1
        go_wp2_with fail
        refine (open_new b s0 0 _ tape w1 Hb1.out tape_nam (by rw [Hs1e.out.1]; exact Hm1.out) (by rw [Hs1e.out.1]; exact hne1) rfl (by have := HF1.out.mf; omega) (by have := HF1.out.mh; have := Hs1e.out.2.2.2.2.2; omega) rfl HF1.out.fa HF1.out.pi HF1.out.c0 (by have := HF1.out.c1; omega) (HF1.out.o0 0) (by have := HF1.out.o1 0; omega) (.inl HF1.out.pp) HF1.out.drk HF1.out.m0 (by have := HF1.out.m1; omega) (by omega) HF1.out.n0 (by have := HF1.out.mh; omega)).mono ?_
        rintro e w2 ⟨f, g, rfl, hb2, hg2, hf2, hm2, kp2, hg0, hf0, hfg⟩
        go_wp2_with fail
        refine (num_ok 0 w2).mono ?_
        rintro e w' ⟨rfl, rfl⟩
        go_wp2_with fail
        obtain ⟨s2, hs2e⟩ : ∃ s2, s2 = (s0.called 0 false).opened 1 := ⟨_, rfl⟩
        have hs2f : s2.used = s0.used ∧ s2.written = s0.written ∧ s2.mp = s0.mp ∧ s2.sh = s0.sh ∧ s2.life = s0.life ∧ s2.opn = s0.opn + 1 := by rw [hs2e]; exact ⟨rfl, rfl, rfl, rfl, rfl, rfl⟩
        have hF2 : Fine s2 2 := by
          have h1 := Fine.mono (HF1.out.called 0) (show (0 : Int) + 1 ≤ 2 by omega)
          have h2 := HF1.out
          rw [hs2e]
          exact ⟨h1.fa, h1.pi, h1.pp, h1.drk, h1.c0, h1.c1, h1.o0, h1.o1, by have := h2.m0; show 0 ≤ s0.made + 1; omega, by have := h2.m1; show s0.made + 1 ≤ 2; omega, by have := h2.n0; show 0 ≤ s0.opn + 1; omega, h1.mh, h1.mb, h1.mf, h1.w0, h1.w1⟩
        rw [← hs2e] at hb2
        have he := Hs1e.out
        have hlb : b < w1.heap.size := lt_of_block Hb1.out
        have hlm : mp < w1.heap.size := Hm1.out.lt
        have hkp2 : Keeps [b, mp] w1 w2 := by rw [← he.1]; exact kp2
        have hold : Keeps [] w w2 := ((Kp1.out.mono (by simp)).trans hkp2).drop (fun k hk => .inr (by simp at hk; omega))
        have hin : TapeIn w w1.heap.size b mp g sh' X L 2 0 0 f (.slice none 0 0) (.slice none 0 0) s2 w2 :=
          { fs := hb2, fine := by simpa using hF2, used := by rw [hs2f.1, he.2.1]; rfl, written := by rw [hs2f.2.1, he.2.2.1]; rfl, mpe := by rw [hs2f.2.2.1, he.1], she := by rw [hs2f.2.2.2.1, he.2.2.2.1], life := by rw [hs2f.2.2.2.2.1, he.2.2.2.2.1], opn := by rw [hs2f.2.2.2.2.2, he.2.2.2.2.2]; rfl, file := (by rw [he.2.2.2.2.1] at hf2; exact hf2), body := hg2, rowV := World.ownsRow_nil _ _ _ _, rowW := World.ownsRow_nil _ _ _ _, hB := hkp2.size, bB := hlb, mB := hlm, fB := hf0, gB := hg0, fg := hfg, vg := (by simp [Value.ownBlock]), vf := (by simp [Value.ownBlock]), wg := (by simp [Value.ownBlock]), wf := (by simp [Value.ownBlock]), vw := (fun j hj => by simp [Value.ownBlock] at hj), map := (by rw [← he.1]; exact hm2), short := Hs1.out.keeps hkp2 (Hs1.out.apart Hm1.out), shB := Hs1.out.lt, wB := ⟨hwb, hwm⟩, bm := hne1, old := hold }
        have Hin := Lib.hid hin
        have Htot := Lib.hid htot
        clear hin hold hkp2 he hs2f hF2 hb2 hg2 hf2 hm2 kp2 hg0 hf0 hfg hs2e HF1 Hs1e Hb1 Hm1 Hs1 Kp1
        generalize w1.heap.size = B at *
        have Hl := Lib.hid hlb
        clear hlb hlm
        go_loopw [11, 13, 14] (fun f want i wr => TapeRel w B b mp g sh' X L N f want i wr) (fun _ _ i _ => N - (intOf i).toNat)
        case atStart => exact ⟨0, f, _, s2, Nat.zero_le _, rfl, rfl, Hin.out⟩
        case round =>
          obtain ⟨k', fb, v, s, hk', rfl, rfl, hin⟩ := hrel
          clear Hin
          have HIN0 := Lib.hid hin
          clear hin
          by_cases hlt : k' < N
          · have hcell : wr.cell? ⟨pb, po + k', none⟩ = some (.slice (A k') (L k') (Cc k')) := (World.cell?_of_block (HIN0.out.old.block _ (World.block_lt_of_cell? w _ (Hp.out k' hlt).1) (by simp))).trans (Hp.out k' hlt).1
            by_cases hh : (k' : Int) = half
            · have th : ((k' : Int) == half) = true := by rw [beq_iff_eq]; exact hh
              have Hh := Lib.hid hh
              clear hh hcell
              go_wp2_with fail
              refine (tape_close HIN0.out (by omega)).mono ?_
              rintro e wc ⟨sC, rfl, hshut⟩
              have HSH := Lib.hid hshut
              clear hshut
              go_wp2_with fail
              refine (num_ok 0 wc).mono ?_
              rintro e w' ⟨rfl, rfl⟩
              go_wp2_with fail
              refine (tape_reopen HSH.out (by omega)).mono ?_
              rintro e wd ⟨fb2, sD, rfl, hin2⟩
              have HIN := Lib.hid hin2
              clear hin2
              go_wp2_with fail
              refine (num_ok 0 wd).mono ?_
              rintro e w' ⟨rfl, rfl⟩
              have hcell : wd.cell? ⟨pb, po + k', none⟩ = some (.slice (A k') (L k') (Cc k')) := (World.cell?_of_block (HIN.out.old.block _ (World.block_lt_of_cell? w _ (Hp.out k' hlt).1) (by simp))).trans (Hp.out k' hlt).1
              go_wp2_with fail
              refine (tape_write HIN.out (Hp.out k' hlt).2 (by have := tot_le L (show k' + 1 ≤ N by omega); have := Htot.out; omega) (by omega)).mono ?_
              rintro e wb ⟨v', s', rfl, hin3⟩
              have HIN3 := Lib.hid hin3
              clear hin3
              have hbB := HIN3.out.bB
              have hnew := HIN3.out.old
              obtain ⟨oa, oc, hoe⟩ := ownsRow_slice HIN3.out.rowW
              have Hoe := Lib.hid hoe
              clear hoe
              have hcp : wb.cell? ⟨pb, po + k', none⟩ = some (.slice (A k') (L k') (Cc k')) := (World.cell?_of_block (hnew.block _ (World.block_lt_of_cell? w _ (Hp.out k' hlt).1) (by simp))).trans (Hp.out k' hlt).1
              clear hcell
              have tt : ((L k' : Int) != (L k' : Int)) = false := by simp
              have Hnew := Lib.hid hnew
              clear hnew
              go_wp2_with fail
              refine (num_ok 0 wb).mono ?_
              rintro e w' ⟨rfl, rfl⟩
              obtain ⟨i0, hi, hz0, hz1, hz2⟩ := info_parts info5
              have hpk := (Hp.out k' hlt).2
              have hnone : A k' = none → L k' = 0 ∧ Cc k' = 0 := fun h => by have h1 := hpk.2.2.2.1 h; have h2 := hpk.1; omega
              have hxl : ((X k').map (Value.int .u8)).length = L k' := by rw [List.length_map]; exact hpk.2.2.1
              have hcu : ∀ ad, A k' = some ad → ∀ j u, ((X k').map (Value.int .u8))[j]? = some u → wb.cell? (ad.add j) = some u := fun ad ha => hpk.cells Hnew.out ha
              have htk : tot L k' + L k' ≤ 1048576 := by have h1 := tot_le L (show k' + 1 ≤ N by omega); have h2 := Htot.out; have h3 : tot L (k' + 1) = tot L k' + L k' := rfl; omega
              have b63 : tot L k' + L k' ≤ maxLen := by unfold maxLen; omega
              have b47 : (tot L k' + L k') * 1 ≤ 140737488355328 := by omega
              have Hi := Lib.hid hi
              have Hz0 := Lib.hid hz0
              have Hz1 := Lib.hid hz1
              have Hz2 := Lib.hid hz2
              have Hnone := Lib.hid hnone
              have Hxl := Lib.hid hxl
              have Hcu := Lib.hid hcu
              have B63 := Lib.hid b63
              have B47 := Lib.hid b47
              clear hi hz0 hz1 hz2 hpk hnone hxl hcu htk b63 b47
              go_wp2_with (at_builtin; (first | (refine wpList_append_piece rfl _ _ 36 rfl B 5 i0 (.int .u8 0) 1 Try.underlying36 Hi.out Hz0.out Hz1.out Hz2.out rfl _ (tot L k') ((cat X k').map (Value.int .u8)) rfl HIN3.out.rowW (A k') (L k') (Cc k') ((X k').map (Value.int .u8)) rfl Hnone.out Hxl.out Hcu.out (oneCell_bytes _) B63.out B47.out HIN3.out.hB ?_; intro v4 w4 hown4 hgrow4 hloc4) | fail))
              refine ⟨⟨k' + 1, fb2, v', s', by omega, rfl, by go_num, tape_next HIN3.out (by omega) hown4 hgrow4 hloc4⟩, by simp [intOf]; omega⟩
            · have th : ((k' : Int) == half) = false := by rw [beq_eq_false_iff_ne]; exact hh
              have HIN := HIN0
              clear HIN0
              go_wp2_with fail
              refine (tape_write HIN.out (Hp.out k' hlt).2 (by have := tot_le L (show k' + 1 ≤ N by omega); have := Htot.out; omega) (by omega)).mono ?_
              rintro e wb ⟨v', s', rfl, hin3⟩
              have HIN3 := Lib.hid hin3
              clear hin3
              have hbB := HIN3.out.bB
              have hnew := HIN3.out.old
              obtain ⟨oa, oc, hoe⟩ := ownsRow_slice HIN3.out.rowW
              have Hoe := Lib.hid hoe
              clear hoe
              have hcp : wb.cell? ⟨pb, po + k', none⟩ = some (.slice (A k') (L k') (Cc k')) := (World.cell?_of_block (hnew.block _ (World.block_lt_of_cell? w _ (Hp.out k' hlt).1) (by simp))).trans (Hp.out k' hlt).1
              clear hcell
              have tt : ((L k' : Int) != (L k' : Int)) = false := by simp
              have Hnew := Lib.hid hnew
              clear hnew
              go_wp2_with fail
              refine (num_ok 0 wb).mono ?_
              rintro e w' ⟨rfl, rfl⟩
              obtain ⟨i0, hi, hz0, hz1, hz2⟩ := info_parts info5
              have hpk := (Hp.out k' hlt).2
              have hnone : A k' = none → L k' = 0 ∧ Cc k' = 0 := fun h => by have h1 := hpk.2.2.2.1 h; have h2 := hpk.1; omega
              have hxl : ((X k').map (Value.int .u8)).length = L k' := by rw [List.length_map]; exact hpk.2.2.1
              have hcu : ∀ ad, A k' = some ad → ∀ j u, ((X k').map (Value.int .u8))[j]? = some u → wb.cell? (ad.add j) = some u := fun ad ha => hpk.cells Hnew.out ha
              have htk : tot L k' + L k' ≤ 1048576 := by have h1 := tot_le L (show k' + 1 ≤ N by omega); have h2 := Htot.out; have h3 : tot L (k' + 1) = tot L k' + L k' := rfl; omega
              have b63 : tot L k' + L k' ≤ maxLen := by unfold maxLen; omega
              have b47 : (tot L k' + L k') * 1 ≤ 140737488355328 := by omega
              have Hi := Lib.hid hi
              have Hz0 := Lib.hid hz0
              have Hz1 := Lib.hid hz1
              have Hz2 := Lib.hid hz2
              have Hnone := Lib.hid hnone
              have Hxl := Lib.hid hxl
              have Hcu := Lib.hid hcu
              have B63 := Lib.hid b63
              have B47 := Lib.hid b47
              clear hi hz0 hz1 hz2 hpk hnone hxl hcu htk b63 b47
              go_wp2_with (at_builtin; (first | (refine wpList_append_piece rfl _ _ 36 rfl B 5 i0 (.int .u8 0) 1 Try.underlying36 Hi.out Hz0.out Hz1.out Hz2.out rfl _ (tot L k') ((cat X k').map (Value.int .u8)) rfl HIN3.out.rowW (A k') (L k') (Cc k') ((X k').map (Value.int .u8)) rfl Hnone.out Hxl.out Hcu.out (oneCell_bytes _) B63.out B47.out HIN3.out.hB ?_; intro v4 w4 hown4 hgrow4 hloc4) | fail))
              refine ⟨⟨k' + 1, fb, v', s', by omega, rfl, by go_num, tape_next HIN3.out (by omega) hown4 hgrow4 hloc4⟩, by simp [intOf]; omega⟩
          · have hkN : k' = N := by omega
            obtain ⟨oa, oc, hoe⟩ := ownsRow_slice HIN0.out.rowW
            have Hoe := Lib.hid hoe
            have HkN := Lib.hid hkN
            clear hoe hkN
            go_wp2_with fail
            refine (tape_close HIN0.out (by omega)).mono ?_
            rintro e wc ⟨sC, rfl, hshut⟩
            have HSH := Lib.hid hshut
            clear hshut
            go_wp2_with fail
            refine (num_ok 0 wc).mono ?_
            rintro e w' ⟨rfl, rfl⟩
            have hgB := HSH.out.gB
            have hbB := HSH.out.bB
            have hsbg : ∀ so sb sn sc, sC.sh = .slice (some ⟨sb, so, none⟩) sn sc → 0 < sn → sb ≠ g := fun so sb sn sc e h0 => by have := HSH.out.shB so sb sn sc (by rw [← HSH.out.she]; exact e) h0; omega
            have hvb : v.ownBlock ≠ some b := fun e => by have := (HSH.out.rowV.lt _ e).1; omega
            have hle : tot L k' ≤ 1048576 := by have h1 := tot_le L (show k' ≤ N by omega); have h2 := Htot.out; omega
            have Hle := Lib.hid hle
            clear hle
            go_wp2_with fail
            refine (all_ok b g sC (2 + 1 + 4 * (k' : Int)) 1 _ tape v (tot L k') 0 (cat X k') most wc HSH.out.fs HSH.out.fine (by omega) HSH.out.opn tape_nam (by rw [HSH.out.mpe]; exact HSH.out.map) (by rw [HSH.out.mpe]; exact hne1) (tape_at g) HSH.out.body (row_up HSH.out.rowV (Nat.zero_le _)) Hle.out (by omega) (by rw [HSH.out.she]; exact HSH.out.short) (by omega) hvb HSH.out.vg (by rw [HSH.out.mpe]; have := HSH.out.mB; omega) hsbg).mono ?_
            rintro e wd ⟨u, sD, rfl, hbD, hst, hFD, hgD, hvD, huD, kpD⟩
            have hmapD := ownsMap_keeps HSH.out.map kpD (by have := HSH.out.mB; simp; omega)
            have hwD := ownsRow_keeps HSH.out.rowW kpD (fun j hj => by have h6 := (HSH.out.rowW.lt j hj).1; simp; exact ⟨by omega, fun e => HSH.out.wg (e ▸ hj)⟩)
            have holdD : Keeps [] w wd := ((HSH.out.old.mono (by simp)).trans kpD).drop (fun j hj => .inr (by have h6 := HSH.out.wB.1; simp at hj; omega))
            have hmpD : sD.mp = mp := hst.mp.trans HSH.out.mpe
            have husD : sD.used = (tot L k' : Nat) := hst.used.trans HSH.out.used
            have hubase := huD
            have hcu : wc.heap.size ≤ wd.heap.size := kpD.size
            have hbc : b < wc.heap.size := lt_of_block HSH.out.fs
            have HbD := Lib.hid hbD
            have HgD := Lib.hid hgD
            have HvD := Lib.hid hvD
            have HuD := Lib.hid huD
            have HmapD := Lib.hid hmapD
            have HwD := Lib.hid hwD
            have HoldD := Lib.hid holdD
            have HmpD := Lib.hid hmpD
            have HusD := Lib.hid husD
            clear hbD hst hFD hgD hvD huD kpD hmapD hwD holdD hmpD husD hubase hsbg
            go_wp2_with fail
            refine (look_any b g sD tape (tot L k') _ 1 v 0 0 false (cat X k') wd HbD.out tape_nam (by rw [HmpD.out]; exact HmapD.out) (by rw [HmpD.out]; exact hne1) (tape_at g) HgD.out (by omega) HvD.out hvb (by have := Hle.out; omega)).mono ?_
            rintro e we ⟨u2, rfl, hbE, hu2, kpE⟩
            have hwE := ownsRow_keeps HwD.out kpE (fun j hj => by have h6 := (HwD.out.lt j hj).1; simp; omega)
            have huE := ownsRow_keeps HuD.out kpE (fun j hj => by have h6 := (HuD.out.lt j hj).1; simp; omega)
            have HbE := Lib.hid hbE
            have Hu2 := Lib.hid hu2
            have HwE := Lib.hid hwE
            have HuE := Lib.hid huE
            have KpE := Lib.hid kpE
            clear hbE hu2 hwE huE kpE
            go_wp2_with fail
            refine (same_ok _ _ (cat X k') we (bytes_row HuE.out) (bytes_row HwE.out)).mono ?_
            rintro e w' ⟨rfl, rfl⟩
            go_wp2_with fail
            refine (same_ok _ _ (cat X k') we Hu2.out (bytes_row HwE.out)).mono ?_
            rintro e w' ⟨rfl, rfl⟩
            go_wp2_with fail
            refine (stats_ok b sD we HbE.out).mono ?_
            rintro e wf ⟨rfl, hbF, kpF⟩
            have hx := Hoe.out
            have hfl := used_field sD wf
            rw [HusD.out] at hfl
            clear hbF
            have KpF := Lib.hid kpF
            clear kpF
            go_wp2_with fail
            go_ret
            refine ⟨rfl, ?_⟩
            · exact ((HoldD.out.mono (T := [b]) (by simp)).trans KpE.out |>.trans KpF.out).drop (fun j hj => .inr (by have h6 := HIN0.out.wB.1; simp at hj; omega))
end Go.Proofs.Ytfplfnhhiipgcaa
