/- readAll, of the statements: the walk. -/
import Derived.Test.YtolnojhepakaoaaAllA
import Derived.Test.YtolnojhepakaoaaOpenR
namespace Go.Proofs.Ytolnojhepakaoaa
open Go.RowKit Go.Maps Go.MuLone

/-- A line more stands in the list. -/
theorem AllAt.line {w w5 w6 wx : World} {B r f b g : Nat} {sep : Int} {nm : ByteArray} {q : Int} {v : Value} {n : Nat} {sy op : Int} {wr : Bool} {zs : List Int} {D : List (List Int)} {l l' : Value} {d d' : Rd} {bs bs' : List Int} {s s' : FSt} {N N' : Int} {p p' : Nat} {x : List Int} {o : Obj}
    (h : AllAt w B r f b g sep nm q v n sy op wr zs D l d bs s N p wx) (hB : B = w.heap.size) (hF : Frame wx b f r d d' w5) (hl : Live w5 B r f d' bs' p' n) (hs : Src w5 B f b g s' N' nm p' q v n sy op wr zs) (hsp : d'.sep = d.sep) (hb : Bud d'.en N' (n - p')) (hln : d'.ln = d.ln + 1)
    (hrow : w6.ownsRow B 9 1 l' (D ++ [x]).length ((D ++ [x]).map strV)) (hg : (w5.alloc o).grownBy w6 l.ownBlock)
    (hcase : (idx sep (d.rest bs ++ zs.drop p) < (d.rest bs ++ zs.drop p).length ∧ x = (d.rest bs ++ zs.drop p).take (idx sep (d.rest bs ++ zs.drop p)) ∧ d'.rest bs' ++ zs.drop p' = (d.rest bs ++ zs.drop p).drop (idx sep (d.rest bs ++ zs.drop p) + 1) ∧ d'.ba = d.ba) ∨
      (¬ idx sep (d.rest bs ++ zs.drop p) < (d.rest bs ++ zs.drop p).length ∧ d.rest bs ++ zs.drop p ≠ [] ∧ x = d.rest bs ++ zs.drop p ∧ d'.rest bs' ++ zs.drop p' = [] ∧ d'.ba = true)) :
    AllAt w B r f b g sep nm q v n sy op wr zs (D ++ [x]) l' d' bs' s' N' p' w6 ∧ (d'.rest bs' ++ zs.drop p').length < (d.rest bs ++ zs.drop p).length := by
  obtain ⟨hr5, hk5⟩ := h.frame hB hF
  have hB5 : B ≤ w5.heap.size := by have := hk5.size; omega
  have kk : Keeps l.ownBlock.toList (w5.alloc o) w6 := ⟨hg.os, hg.tape, hg.output, hg.size, fun k hk hn => hg.block k hk (fun e => hn (by rw [← e]; simp))⟩
  have kk5 : Keeps l.ownBlock.toList w5 w6 := (((Keeps.refl [] w5).alloc o).mono (by simp)).trans kk
  have nr := row9_ne hr5 hl.rd (by decide)
  have n5 := row9_row5 hr5 hl.buf.row
  have hl6 := hl.keeps kk5 (fun hm => nr r (by simpa using hm) rfl) (fun j hj hm => n5 j (by simpa using hm) hj)
  have hs6 := hs.above kk5 (fun y hy => row9_above hr5 (by simpa using hy))
  have hk6 : Keeps [b, f] w w6 := by
    have k1 : Keeps ([b, f] ++ l.ownBlock.toList) w w5 := hk5.mono (fun x hx => List.mem_append_left _ hx)
    have k2 : Keeps ([b, f] ++ l.ownBlock.toList) w5 w6 := kk5.mono (fun x hx => List.mem_append_right _ hx)
    refine (k1.trans k2).drop (fun y hy => ?_)
    rcases List.mem_append.1 hy with hy | hy
    · exact .inl hy
    · have := row9_above hr5 (show l.ownBlock = some y by simpa using hy)
      exact .inr (by omega)
  have hsm := h.small
  rcases hcase with ⟨c1, c2, c3, c4⟩ | ⟨c1, c2, c3, c4, c5⟩
  · have cf := cut_found sep (d.rest bs ++ zs.drop p) [] c1
    rw [List.nil_append, ← c2, ← c3] at cf
    have hlen : (d'.rest bs' ++ zs.drop p').length < (d.rest bs ++ zs.drop p).length := by rw [c3, List.length_drop]; omega
    refine ⟨⟨hl6, hs6, hsp.trans h.hsep, hb, by rw [hln, h.ln]; simp, ?_, ?_, hrow, hk6, by rw [List.length_append, List.length_singleton]; omega⟩, hlen⟩
    · rw [← h.out, cf]; simp
    · rcases h.ba with ⟨e1, e2⟩ | ⟨_, e2, _⟩
      · left
        refine ⟨c4.trans e1, ?_⟩
        rw [← e2, cf]
      · rw [e2] at c1; simp at c1
  · have cn := cut_none sep (d.rest bs ++ zs.drop p) [] c1
    rw [List.nil_append, if_neg (by simpa using c2)] at cn
    have hlen : (d'.rest bs' ++ zs.drop p').length < (d.rest bs ++ zs.drop p).length := by rw [c4]; exact List.length_pos_iff.2 c2
    refine ⟨⟨hl6, hs6, hsp.trans h.hsep, hb, by rw [hln, h.ln]; simp, ?_, ?_, hrow, hk6, by rw [List.length_append, List.length_singleton]; omega⟩, hlen⟩
    · rw [← h.out, cn, c4, c3]; simp [cutL]
    · right
      refine ⟨c5, c4, ?_⟩
      rcases h.ba with ⟨_, e2⟩ | ⟨_, e2, _⟩
      · rw [← e2, cn]
      · exact absurd e2 c2
def AllR (w : World) (B r f b g : Nat) (sep : Int) (nm : ByteArray) (q : Int) (v : Value) (n : Nat) (sy op : Int) (wr : Bool) (zs : List Int) (l : Value) (wx : World) : Prop := ∃ D d bs s N p, AllAt w B r f b g sep nm q v n sy op wr zs D l d bs s N p wx
theorem Fine.opened {s : FSt} {N : Int} (h : Fine s N) : Fine (s.opened 0) N :=
  ⟨h.fa, h.pi, h.pp, h.drk, h.c0, h.c1, h.o0, h.o1, by have := h.m0; show 0 ≤ s.made + 0; omega, by have := h.m1; show s.made + 0 ≤ N; omega, by have := h.n0; show 0 ≤ s.opn + 1; omega, h.mb, h.w0, h.w1⟩
def AllPost (w : World) (b g : Nat) (sep : Int) (zs : List Int) (e : Ending) (w' : World) : Prop :=
  ∃ l, e = .returned (.tuple #[l, .bool (cutL sep [] zs).2, .int .i64 0]) ∧ w'.ownsRow w.heap.size 9 1 l (cutL sep [] zs).1.length ((cutL sep [] zs).1.map strV) ∧ Keeps [b, g] w w'
theorem row9_up {w : World} {B B' : Nat} {v : Value} {n : Nat} {xs : List Value} (h : w.ownsRow B 9 1 v n xs) (hB : B' ≤ B) : w.ownsRow B' 9 1 v n xs := by
  refine ⟨h.1, ?_⟩
  rcases h.2 with h3 | ⟨g', c', cur, h3, h4, h5⟩
  · exact .inl h3
  · exact .inr ⟨g', c', cur, h3, Nat.le_trans hB h4, h5⟩
set_option maxRecDepth 100000 in
set_option maxHeartbeats 3200000 in
theorem all_ok (b g : Nat) (s : FSt) (N : Int) (D : DataW Value) (nm : ByteArray) (v : Value) (sy : Int) (n : Nat) (zs : List Int) (size sep : Int) (w : World) (hb : FsAt w b 0 s) (hn : Nam nm) (hown : w.ownsMap Try.prog 9 heldR s.mp 1 D) (hne : s.mp ≠ b)
    (hat : D.atKey (key nm) (.held (.pointer none)) = .held (.pointer (some ⟨g, 0, none⟩))) (hg : BodyAt w g v sy 0 false) (hgb : g ≠ b) (hF : Fine s N) (hN : N ≤ 1000) (hh : s.opn < s.mh) (n1 : s.mh ≤ 256)
    (hv : w.ownsRow 0 5 1 v n (zs.map (Value.int .u8))) (hnn : n ≤ 4096) (zb : ∀ z ∈ zs, InByte z) (hsh : ShortAt w s.sh b) (hshg : ∀ so sb sn sc, s.sh = .slice (some ⟨sb, so, none⟩) sn sc → 0 < sn → sb ≠ g)
    (hvb : ∀ j, v.ownBlock = some j → j ≠ b ∧ j ≠ g) (hw : why size sep = 0) (hs1 : 1 ≤ size) (hsp : InByte sep) :
    Calls Try.prog 26 #[.pointer (some ⟨b, 0, none⟩), .string nm, .int .i64 size, .int .u8 sep] w (AllPost w b g sep zs) := by
  have OP := Lib.hid (open_read b g s 1 D nm v sy 0 w hb hn hown hne hat hg hgb hh hF.fa hF.pi hF.c0 (by have := hF.c1; omega) (hF.o0 0) (by have := hF.o1 0; omega) (.inl hF.pp) hF.drk hF.n0 n1 (by omega) (by omega))
  have Hw := Lib.hid hw
  have hbl := lt_of_block hb
  have hgl := lt_of_block hg
  have Hsh := Lib.hid hsh
  have Hshg := Lib.hid hshg
  have HF := Lib.hid hF
  have Hv := Lib.hid hv
  have Hvb := Lib.hid hvb
  have Hzb := Lib.hid zb
  clear hb hn hown hne hat hg hw hsh hshg hF hv hvb zb
  go_enter Try.func26, Try.ntmps26
  go_wp2_with fail
  refine OP.out.mono ?_
  rintro e w1 ⟨f, rfl, hfs, hbo, hfi, hk1, hfl⟩
  have Hfs := Lib.hid hfs
  have Hbo := Lib.hid hbo
  have Hfi := Lib.hid hfi
  have Hk1 := Lib.hid hk1
  have hf1 := lt_of_block hfi
  clear hfs hbo hfi hk1 OP
  go_wp2_with fail
  refine (num_ok _ _).mono ?_
  rintro e wx ⟨rfl, rfl⟩
  go_wp2_with fail
  refine (reader_ok f size sep _ Hw.out).mono ?_
  rintro e w2 ⟨r, rfl, hr1, hr2, hr3⟩
  have hS1 := Hk1.out.size
  have START := Lib.hid (show AllR w1 w1.heap.size r f b g sep nm 0 v n sy 1 false zs (.slice none 0 0) w2 from by
    have hzl : zs.length = n := by have := Hv.out.1; simpa using this
    have sh1 : ShortAt w1 s.sh b := Hsh.out.keeps Hk1.out (fun so sb sn sc e h0 hm => by
      simp only [List.mem_cons, List.mem_nil_iff, or_false] at hm
      rcases hm with rfl | rfl
      · rcases Hsh.out with ⟨_, _, e'⟩ | ⟨_, _, _, _, _, e', _, _, hne, _⟩
        · rw [e'] at e; cases e; omega
        · rw [e'] at e; cases e; exact hne rfl
      · exact Hshg.out so _ sn sc e h0 rfl)
    have shB : ∀ so sb sn sc, s.sh = .slice (some ⟨sb, so, none⟩) sn sc → 0 < sn → sb < w.heap.size ∧ sb ≠ b := fun so sb sn sc e h0 => by
      rcases Hsh.out with ⟨_, _, e'⟩ | ⟨_, _, _, _, _, e', _, _, hne, hc⟩
      · rw [e'] at e; cases e; omega
      · rw [e'] at e; cases e
        exact ⟨World.block_lt_of_cell? w _ (hc 0 h0).1, hne⟩
    refine ⟨[], ⟨f, size, sep, .slice none 0 0, 0, 0, 0, false, false, 0, 0⟩, [], (s.called 0 false).opened 0, N + 1, 0, ?_⟩
    refine ⟨⟨hr2, ⟨World.ownsRow_nil _ _ _ _, by simp, Nat.le_refl _, Nat.le_refl _, Nat.zero_le _, fun j hj => absurd hj (Nat.not_lt_zero _), hsp⟩, rfl, hs1, hr1, by simp, by simp [Rd.rest]; omega, rfl, fun h => by cases h⟩,
      ⟨Hfs.out.keeps hr3 (by simp), (HF.out.called 0).opened, Hfi.out.keeps hr3 (by simp), Hbo.out.keeps hr3 (by simp), ownsRow_keeps Hv.out (Hk1.out.trans (hr3.mono (by simp))) (fun j hj => by obtain ⟨h1, h2⟩ := Hvb.out j hj; simp [h1, h2]), by omega, Nat.zero_le _, Hzb.out,
        (show ShortAt w1 s.sh b from sh1).keeps hr3 (fun _ _ _ _ _ _ => by simp), hr3.size, hf1, by omega, by omega, fun j hj => by have := (Hv.out.lt j hj).2; omega, fun so sb sn sc e h0 => by obtain ⟨h1, h2⟩ := shB so sb sn sc e h0; exact ⟨by omega, h2, by omega⟩⟩,
      rfl, ?_, rfl, ?_, ?_, World.ownsRow_nil _ _ _ _, hr3.mono (by simp), ?_⟩
    · unfold Bud; simp; omega
    · simp [Rd.rest]
    · exact .inl ⟨rfl, by simp [Rd.rest]⟩
    · simp [Rd.rest, hzl]; exact hnn)
  clear hr2 hr3
  go_wp2_with fail
  refine (num_ok _ _).mono ?_
  rintro e w3 ⟨rfl, rfl⟩
  go_wp2_with fail
  go_loopw [15] (fun l wx => AllR w1 w1.heap.size r f b g sep nm 0 v n sy 1 false zs l wx) (fun _ wx => restM f r n wx)
  case atStart => exact START.out
  case round =>
    clear START
    obtain ⟨D1, d, bs, s1, N1, p, M⟩ := hrel
    have HM := Lib.hid M
    have hRl := M.small
    have NX := Lib.hid (rd_next r w1.heap.size f b g d bs s1 N1 nm p 0 v n sy 1 false zs wr M.live M.src M.bud (by have hzl : zs.length = n := by { have := M.src.row.1; simpa using this }; rw [List.length_append, List.length_drop, hzl] at hRl; omega) (by rw [M.ln]; omega) (by rw [M.ln]; omega))
    have MEA := Lib.hid (restM_at M.live M.src)
    have hD := M.small
    clear M
    go_wp2_with fail
    refine NX.out.mono ?_
    rintro e w5 ⟨d', bs', s', N', p', hl', hs', hsp', hb', hF', hcase⟩
    have HL' := Lib.hid hl'
    have HS' := Lib.hid hs'
    have HSP := Lib.hid hsp'
    have HB' := Lib.hid hb'
    have HF' := Lib.hid hF'
    have FR := Lib.hid (HM.out.frame rfl hF')
    have HSE := Lib.hid HM.out.hsep
    clear hl' hs' hsp' hb' hF' NX
    have hB5 : w1.heap.size ≤ w5.heap.size := FR.out.2.size
    obtain ⟨i0, hi, hz0, hz1, hz2⟩ := info_parts info9
    have Hi := Lib.hid hi
    have Hz0 := Lib.hid hz0
    have Hz1 := Lib.hid hz1
    have Hz2 := Lib.hid hz2
    clear hi hz0 hz1 hz2
    rcases hcase with ⟨g1, he, g2, g3, g4⟩ | ⟨g1, gn, he, g2, g3, g4⟩ | ⟨g1, he, g2, g3, g4⟩
    · rw [HSE.out] at g1 g2
      obtain ⟨x, hx⟩ : ∃ x, x = (d.rest bs ++ zs.drop p).take (idx sep (d.rest bs ++ zs.drop p)) := ⟨_, rfl⟩
      rw [HSE.out, ← hx] at he
      have CASE := Lib.hid (show (idx sep (d.rest bs ++ zs.drop p) < (d.rest bs ++ zs.drop p).length ∧ x = (d.rest bs ++ zs.drop p).take (idx sep (d.rest bs ++ zs.drop p)) ∧ d'.rest bs' ++ zs.drop p' = (d.rest bs ++ zs.drop p).drop (idx sep (d.rest bs ++ zs.drop p) + 1) ∧ d'.ba = d.ba) ∨
        (¬ idx sep (d.rest bs ++ zs.drop p) < (d.rest bs ++ zs.drop p).length ∧ d.rest bs ++ zs.drop p ≠ [] ∧ x = d.rest bs ++ zs.drop p ∧ d'.rest bs' ++ zs.drop p' = [] ∧ d'.ba = true) from .inl ⟨g1, hx, g2, g3⟩)
      have hpos : 0 < (d.rest bs ++ zs.drop p).length := by omega
      have G4 := Lib.hid g4
      have hlD : D1.length + 1 ≤ 4096 := by omega
      subst he
      clear g1 g2 g3 g4 hx hpos hD hRl
      go_wp2_with fail
      refine (num_ok _ _).mono ?_
      rintro e wx ⟨rfl, rfl⟩
      go_wp2_with (at_builtin; refine wpList_append_own _ rfl _ _ 23 rfl w1.heap.size 9 i0 (.string ⟨#[]⟩) 1 16 Try.underlying23 Hi.out Hz0.out Hz1.out Hz2.out rfl (by decide) _ _ _ rfl (FR.out.1.alloc _) ⟨w5.heap.size, 0, none⟩ 1 1 [strV x] rfl rfl (cell_new _ _ _) (by intro u hu; simp at hu; subst hu; rfl) (by unfold maxLen; omega) (by omega) (by simp; omega) ?_; intro v' w6 hown' hgrow _; have LN := Lib.hid (HM.out.line (x := x) rfl HF'.out HL'.out HS'.out HSP.out HB'.out G4.out (by rw [List.length_append, List.map_append]; exact hown') hgrow CASE.out); have ME := Lib.hid (show restM f r n w6 < restM f r n wr by rw [MEA.out, restM_at LN.out.1.live LN.out.1.src]; exact LN.out.2); clear hown' hgrow)
      exact ⟨⟨_, _, _, _, _, _, LN.out.1⟩, ME.out⟩
    · rw [HSE.out] at g1
      obtain ⟨x, hx⟩ : ∃ x, x = d.rest bs ++ zs.drop p := ⟨_, rfl⟩
      rw [← hx] at he
      have CASE := Lib.hid (show (idx sep (d.rest bs ++ zs.drop p) < (d.rest bs ++ zs.drop p).length ∧ x = (d.rest bs ++ zs.drop p).take (idx sep (d.rest bs ++ zs.drop p)) ∧ d'.rest bs' ++ zs.drop p' = (d.rest bs ++ zs.drop p).drop (idx sep (d.rest bs ++ zs.drop p) + 1) ∧ d'.ba = d.ba) ∨
        (¬ idx sep (d.rest bs ++ zs.drop p) < (d.rest bs ++ zs.drop p).length ∧ d.rest bs ++ zs.drop p ≠ [] ∧ x = d.rest bs ++ zs.drop p ∧ d'.rest bs' ++ zs.drop p' = [] ∧ d'.ba = true) from .inr ⟨g1, gn, hx, g2, g3⟩)
      have hpos : 0 < (d.rest bs ++ zs.drop p).length := List.length_pos_iff.2 gn
      clear gn
      have G4 := Lib.hid g4
      have hlD : D1.length + 1 ≤ 4096 := by omega
      subst he
      clear g1 g2 g3 g4 hx hpos hD hRl
      go_wp2_with fail
      refine (num_ok _ _).mono ?_
      rintro e wx ⟨rfl, rfl⟩
      go_wp2_with (at_builtin; refine wpList_append_own _ rfl _ _ 23 rfl w1.heap.size 9 i0 (.string ⟨#[]⟩) 1 16 Try.underlying23 Hi.out Hz0.out Hz1.out Hz2.out rfl (by decide) _ _ _ rfl (FR.out.1.alloc _) ⟨w5.heap.size, 0, none⟩ 1 1 [strV x] rfl rfl (cell_new _ _ _) (by intro u hu; simp at hu; subst hu; rfl) (by unfold maxLen; omega) (by omega) (by simp; omega) ?_; intro v' w6 hown' hgrow _; have LN := Lib.hid (HM.out.line (x := x) rfl HF'.out HL'.out HS'.out HSP.out HB'.out G4.out (by rw [List.length_append, List.map_append]; exact hown') hgrow CASE.out); have ME := Lib.hid (show restM f r n w6 < restM f r n wr by rw [MEA.out, restM_at LN.out.1.live LN.out.1.src]; exact LN.out.2); clear hown' hgrow)
      exact ⟨⟨_, _, _, _, _, _, LN.out.1⟩, ME.out⟩
    · have FIN := Lib.hid (show AllPost w b g sep zs (.returned (.tuple #[u15, .bool (!d'.ba), .int .i64 0])) w5 from by
        have h1 := HM.out.out
        have h2 := HM.out.ba
        rw [g1] at h1 h2
        simp [cutL] at h1 h2
        have hk := FR.out.2
        refine ⟨u15, ?_, ?_, ?_⟩
        rotate_left
        · rw [← h1]
          exact row9_up FR.out.1 hS1
        · have k1 : Keeps [b, g, f] w w1 := Hk1.out.mono (fun x hx => by simp at hx; rcases hx with rfl | rfl <;> simp)
          have k2 : Keeps [b, g, f] w1 w5 := hk.mono (fun x hx => by simp at hx; rcases hx with rfl | rfl <;> simp)
          refine (k1.trans k2).drop (fun x hx => ?_)
          simp at hx
          rcases hx with rfl | rfl | rfl
          · exact .inl (by simp)
          · exact .inl (by simp)
          · exact .inr hfl
        · rw [g3]
          rcases h2 with ⟨e1, e2⟩ | ⟨e1, e2⟩
          · rw [e1, e2]; rfl
          · rw [e1, e2]; rfl)
      subst he
      have RW := Lib.hid (rwhole_at r d' w5 HL'.out.rd)
      clear g1 g2 g3 g4 hD hRl
      go_wp2_with fail
      refine (num_ok _ _).mono ?_
      rintro e wx ⟨rfl, rfl⟩
      go_wp2_with (go_at_call 37; refine RW.out.mono ?_; rintro e wx ⟨rfl, rfl⟩)
      exact bodyPost_ret (v := .tuple #[u15, .bool (!d'.ba), .int .i64 0]) (by simp [results, Try.results26, go_sem]) rfl FIN.out
end Go.Proofs.Ytolnojhepakaoaa
