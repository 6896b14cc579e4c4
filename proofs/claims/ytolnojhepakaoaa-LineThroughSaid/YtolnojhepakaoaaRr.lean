/- The Reader's one Read: the walk. -/
import Derived.Test.YtolnojhepakaoaaMore
import Derived.Test.YtolnojhepakaoaaReadAny
import Derived.Test.YtolnojhepakaoaaCopy2
import Derived.Deep.RegionLaw
import Derived.StillTailTactics
import Derived.Deep.RegionHeldLaw
namespace Go.Proofs.Ytolnojhepakaoaa
open Go.RowKit Go.Maps Go.MuLone

/-- Two blocks of cells of different types are two. -/
theorem block_ne {w : World} {a b T U : Nat} {x y : Array Value} {fx fy : Nat × Nat} (ha : w.heap[a]? = some (.cells x T fx)) (hb : w.heap[b]? = some (.cells y U fy)) (h : T ≠ U) : a ≠ b := by
  rintro rfl
  rw [ha] at hb
  simp at hb
  exact h hb.2.1
theorem row_ne {w : World} {B b T : Nat} {v : Value} {n : Nat} {xs : List Value} {c : Array Value} {fz : Nat × Nat} (h : w.ownsRow B 5 1 v n xs) (hb : w.heap[b]? = some (.cells c T fz)) (hT : T ≠ 5) : ∀ j, v.ownBlock = some j → j ≠ b := by
  intro j hj e
  subst e
  rcases h.2 with ⟨rfl, _⟩ | ⟨g, cap, cur, rfl, _, h1, _⟩
  · simp [Value.ownBlock] at hj
  · simp [Value.ownBlock] at hj
    subst hj
    rw [h1] at hb
    simp at hb
    exact hT hb.2.1.symm

/-- What the one Read leaves. -/
def Took (w : World) (B r : Nat) (d : Rd) (bs : List Int) (f b : Nat) (s : FSt) (nm : ByteArray) (p : Nat) (q : Int) (n : Nat) (zs : List Int) (g : Nat) (e : Ending) (w' : World) : Prop :=
  ∃ (k : Nat) (d' : Rd) (bs' : List Int), e = .returned (.tuple #[]) ∧ (k : Int) ≤ d.size ∧ k ≤ n - p ∧ (k = 0 → p = n) ∧ RdAt w' r d' ∧ BufAt w' B d' bs' ∧ d'.rest bs' = d.rest bs ++ (zs.drop p).take k ∧
    d'.f = d.f ∧ d'.size = d.size ∧ d'.sep = d.sep ∧ d'.en = decide (k = 0) ∧ d'.ba = d.ba ∧ d'.ln = d.ln ∧ d'.er = d.er ∧ d'.cl = d.cl ∧ bs'.length ≤ max bs.length (2 * ((d.rest bs).length + k)) ∧
    FsAt w' b 0 (s.called 1 false) ∧ FileAt w' f b s.life nm true false false g ((p + k : Nat) : Int) q ∧ Keeps ([b, f, r] ++ d.buf.ownBlock.toList) w w' ∧ ∀ j, d'.buf.ownBlock = some j → d.buf.ownBlock = some j ∨ w.heap.size ≤ j

theorem rd_f {w : World} {r f : Nat} {d : Rd} (h : RdAt w r d) (e : d.f = f) : w.cell? ⟨r, 0, none⟩ = some (.pointer (some ⟨f, 0, none⟩)) := by
  rw [h.cell, ← e]; rfl
theorem rd_size {w : World} {r : Nat} {d : Rd} (h : RdAt w r d) : w.cell? ⟨r, 1, none⟩ = some (.int .i64 d.size) := by
  rw [h.cell]; rfl

theorem row_shape {w : World} {B k : Nat} {u : Value} {zs : List Int} (h : w.ownsRow B 5 1 u k (zs.map (Value.int .u8))) :
    ∃ so sc, u = .slice so k sc ∧ (0 < k → ∃ g, so = some ⟨g, 0, none⟩) := by
  rcases h.2 with ⟨rfl, h0⟩ | ⟨g, cap, cur, rfl, _⟩
  · exact ⟨none, 0, by rw [h0], fun h => by omega⟩
  · exact ⟨_, cap, rfl, fun _ => ⟨g, rfl⟩⟩
theorem rd_more {w : World} {r : Nat} {d : Rd} (h : RdAt w r d) : w.cell? ⟨r, 7, none⟩ = some (.bool d.en) ∧ w.frozen? ⟨r, 7, none⟩ = false :=
  ⟨by rw [h.cell]; rfl, h.free 7⟩

theorem ownsRow_above {w : World} {B n j : Nat} {v : Value} {xs : List Value} (h : w.ownsRow B 5 1 v n xs) (hj : v.ownBlock = some j) : B ≤ j := by
  rcases h.2 with ⟨rfl, _⟩ | ⟨g, cap, cur, rfl, h0, _⟩
  · simp [Value.ownBlock] at hj
  · simp [Value.ownBlock] at hj
    omega
/-- BufAt speaks of the buffer's fields alone. -/
theorem BufAt.en {w w' : World} {B : Nat} {d : Rd} {bs : List Int} {S : List Nat} (h : BufAt w B d bs) (k : Keeps S w w') (hS : ∀ j, d.buf.ownBlock = some j → j ∉ S) (x : Bool) : BufAt w' B { d with en := x } bs :=
  ⟨ownsRow_keeps h.row k hS, h.byte, h.h1, h.h2, h.h4, h.clean, h.sep⟩

/-- The Reader once there is room for what was read. -/
structure Mid (w3 : World) (B r : Nat) (d : Rd) (bs : List Int) (k : Nat) (d5 : Rd) (bs5 : List Int) (w5 : World) : Prop where
  rd : RdAt w5 r d5
  buf : BufAt w5 B d5 bs5
  rest : d5.rest bs5 = d.rest bs
  room : d5.up + k ≤ bs5.length
  e1 : d5.f = d.f ∧ d5.size = d.size ∧ d5.sep = d.sep ∧ d5.en = d.en ∧ d5.ba = d.ba ∧ d5.ln = d.ln ∧ d5.er = d.er ∧ d5.cl = d.cl
  len : bs5.length ≤ max bs.length (2 * ((d.rest bs).length + k))
  keeps : Keeps (r :: d.buf.ownBlock.toList) w3 w5
  own : d5.buf.ownBlock = d.buf.ownBlock ∨ d5.buf.ownBlock = some w3.heap.size
theorem Roomy.mid {w w' : World} {B r k : Nat} {d : Rd} {bs : List Int} {e : Ending} (h : Roomy w B r d bs k e w') : e = .returned (.tuple #[]) ∧ ∃ d5 bs5, Mid w B r d bs k d5 bs5 w' := by
  obtain ⟨v, bs', h0, h1, h2, h3, h4, h5, h6, h7⟩ := h
  exact ⟨h0, _, bs', h1, h2, h3, h4, ⟨rfl, rfl, rfl, rfl, rfl, rfl, rfl, rfl⟩, h5, h6, h7⟩
theorem Mid.stay {w w' : World} {B r k : Nat} {d : Rd} {bs : List Int} (hr : RdAt w' r d) (hb : BufAt w' B d bs) (h : d.up + k ≤ bs.length) (hk : Keeps [] w w') : Mid w B r d bs k d bs w' :=
  ⟨hr, hb, rfl, h, ⟨rfl, rfl, rfl, rfl, rfl, rfl, rfl, rfl⟩, Nat.le_max_left _ _, hk.mono (by simp), .inl rfl⟩

theorem step_copy_k {P : Program} {ops : Array Oper} {o : Oper} {a : Act} {w : World} {K : Act → World → Prop} {Q : Exit → Act → World → Prop} {E : Prop} (hgd : o.guard = none) (d s : Operand) (dT sT : TypeId)
    (ho : o.op = .call { callee := .builtin .copy, args := #[d, s], argTypes := #[dT, sT] }) (elem : TypeId) (hu : P.underlying dT = some (.slice elem)) (hsz : (P.info? elem).map (·.size) = some 1)
    (dp sp : Option Addr) (dLen dCap sLen sCap : Nat) (hd : a.eval d = .slice dp dLen dCap) (hs : a.eval s = .slice sp sLen sCap)
    (B : Nat) (v : Value) (n : Nat) (xs : List Value) (off : Nat) (cs : List Value) (hc : CopyIn w B elem v n xs off dp sp dLen sLen cs)
    (k : Nat) (hk : cs.length = k) (h : ∀ w', w'.ownsRow B elem 1 v n (splice xs off cs) → Keeps v.ownBlock.toList w w' → K (a.put o.dst (goInt k)) w') :
    if Region.wanted o (yielded ops a.tmps) = true then Oper.wp P o a w K Q else E := by
  subst hk
  exact step_copy_in hgd d s dT sT ho elem hu hsz dp sp dLen dCap sLen sCap hd hs B v n xs off cs hc h
theorem cin_any {w4 w5 : World} {B B0 r k sc g5 cap5 : Nat} {so : Option Addr} {d3 d5 : Rd} {bs bs5 more : List Int} (hm : Mid w4 B r d3 bs k d5 bs5 w5) (hu : w5.ownsRow B0 5 1 (.slice so k sc) k (more.map (Value.int .u8))) (hl : more.length = k)
    (hso : 0 < k → ∃ g, so = some ⟨g, 0, none⟩) (hbuf : d5.buf = .slice (some ⟨g5, 0, none⟩) bs5.length cap5) :
    CopyIn w5.drew B 5 (.slice (some ⟨g5, 0, none⟩) bs5.length cap5) bs5.length (bs5.map (Value.int .u8)) d5.up (some ⟨g5, d5.up, none⟩) so (bs5.length - d5.up) k (more.map (Value.int .u8)) := by
  have h1 := hm.room
  refine ⟨by have := hm.buf.row; rw [hbuf] at this; exact this, by rw [List.length_map, hl]; exact (Nat.min_eq_left (by omega)).symm, fun hc => ?_, by rw [List.length_map, hl]; exact h1, fun u hu => by obtain ⟨x, _, rfl⟩ := List.mem_map.1 hu; rfl⟩
  rw [List.length_map, hl] at hc
  obtain ⟨g, rfl⟩ := hso hc
  exact ⟨⟨_, rfl, rfl⟩, _, rfl, fun j u hj => hu.cells (g := g) rfl j u hj⟩
theorem cin_none {w4 w5 : World} {B r k dLen : Nat} {so dp : Option Addr} {d3 d5 : Rd} {bs bs5 more : List Int} (hm : Mid w4 B r d3 bs k d5 bs5 w5) (hk : k = 0) (hl : more.length = k) :
    CopyIn w5.drew B 5 d5.buf bs5.length (bs5.map (Value.int .u8)) d5.up dp so dLen k (more.map (Value.int .u8)) := by
  have h1 := hm.room
  exact ⟨hm.buf.row, by rw [List.length_map, hl]; exact (Nat.min_eq_left (by omega)).symm, fun hc => by rw [List.length_map, hl] at hc; omega, by rw [List.length_map, hl]; exact h1, fun u hu => by obtain ⟨x, _, rfl⟩ := List.mem_map.1 hu; rfl⟩

theorem rd_up {w : World} {r u : Nat} {d : Rd} (h : RdAt w r d) (e : d.up = u) : w.cell? ⟨r, 5, none⟩ = some (.int .i64 u) := by
  rw [h.cell, ← e]; rfl
theorem row_lt {w : World} {B n j : Nat} {v : Value} {xs : List Value} (h : w.ownsRow B 5 1 v n xs) (hj : v.ownBlock = some j) : j < w.heap.size := by
  rcases h.2 with ⟨rfl, _⟩ | ⟨g, cap, cur, rfl, _, hg, _⟩
  · simp [Value.ownBlock] at hj
  · simp [Value.ownBlock] at hj
    subst hj
    exact lt_of_block hg
theorem mid_off {w4 w5 : World} {B r f b k : Nat} {d3 d5 : Rd} {bs bs5 : List Int} (hm : Mid w4 B r d3 bs k d5 bs5 w5) (h3 : ∀ j, d3.buf.ownBlock = some j → j ≠ f ∧ j ≠ b ∧ j ≠ r) (hr : r < w4.heap.size) : r ∉ d5.buf.ownBlock.toList := by
  intro h
  have h' : d5.buf.ownBlock = some r := by simpa using h
  rcases hm.own with e | e
  · exact (h3 r (by rw [← e]; exact h')).2.2 rfl
  · rw [e] at h'
    cases h'
    omega
theorem buf_apart {w3 : World} {W n r : Nat} {u v : Value} {xs : List Value} (hu : w3.ownsRow W 5 1 u n xs) (hO : ∀ j, v.ownBlock = some j → j < W) (hr : r < W) : ∀ j, u.ownBlock = some j → j ∉ r :: v.ownBlock.toList := by
  intro j hj hm
  have h1 := ownsRow_above hu hj
  rcases List.mem_cons.1 hm with h | h
  · omega
  · have h2 : v.ownBlock = some j := by simpa using h
    have := hO j h2
    omega

/-- What stands behind the copy and the last store. -/
theorem took_of {w w3 w4 w5 w6 : World} {B r f b g k p n : Nat} {q : Int} {d d3 d5 : Rd} {bs bs5 more zs : List Int} {s : FSt} {nm : ByteArray} {v : Value} (hd3 : d3 = { d with en := ((k : Int) == 0) }) (hm : Mid w4 B r d3 bs k d5 bs5 w5) (hl : more.length = k) (hmore : more = (zs.drop p).take k) (hmb : ∀ z ∈ more, InByte z)
    (hk1 : (k : Int) ≤ d.size) (hk2 : k ≤ n - p) (hk3 : k = 0 → p = n) (hn3 : ∀ j, d3.buf.ownBlock = some j → j ≠ f ∧ j ≠ b ∧ j ≠ r) (k3 : Keeps [b, f, r] w w3) (k4 : Keeps [] w3 w4)
    (hrw : r < w.heap.size) (hup : d5.up + k ≤ 4611686018427387904) (hfs : FsAt w3 b 0 (s.called 1 false)) (hf : FileAt w3 f b s.life nm true false false g ((p + k : Nat) : Int) q) (hrb : r ≠ b) (hrf : r ≠ f) 
    (hv : d5.buf = v) (hown : w6.ownsRow B 5 1 v bs5.length (splice (bs5.map (Value.int .u8)) d5.up (more.map (Value.int .u8)))) (k6 : Keeps v.ownBlock.toList w5.drew w6) :
    Took w B r d bs f b s nm p q n zs g (.returned (.tuple #[])) (w6.setCell ⟨r, 5, none⟩ (.int .i64 (IntKind.i64.wrap ((d5.up : Int) + k)))) := by
  subst hv
  have hw34 := k4.size
  have hw3 := k3.size
  have hblt : b < w3.heap.size := lt_of_block hfs
  have hflt : f < w3.heap.size := lt_of_block hf
  have h5 : ∀ j, d5.buf.ownBlock = some j → j ≠ f ∧ j ≠ b ∧ j ≠ r := by
    intro j hj
    rcases hm.own with h | h
    · exact hn3 j (by rw [← h]; exact hj)
    · rw [h] at hj
      cases hj
      exact ⟨by omega, by omega, by omega⟩
  have kd : Keeps d5.buf.ownBlock.toList w5 w6 := (Keeps.refl _ w5).drew.trans k6
  have k7 : Keeps [r] w6 (w6.setCell ⟨r, 5, none⟩ (.int .i64 (IntKind.i64.wrap ((d5.up : Int) + k)))) := (Keeps.refl [r] w6).setCell (by simp) _
  have off5 : ∀ x, (x = f ∨ x = b ∨ x = r) → x ∉ d5.buf.ownBlock.toList := by
    intro x hx h
    have h' : d5.buf.ownBlock = some x := by simpa using h
    have := h5 x h'
    omega
  have off3 : ∀ x, (x = f ∨ x = b) → x ∉ r :: d3.buf.ownBlock.toList := by
    intro x hx h
    rcases List.mem_cons.1 h with e | e
    · omega
    · have h' : d3.buf.ownBlock = some x := by simpa using e
      have := hn3 x h'
      omega
  have hr6 := hm.rd.keeps kd (off5 r (by simp))
  have hr7 : RdAt (w6.setCell ⟨r, 5, none⟩ (.int .i64 (IntKind.i64.wrap ((d5.up : Int) + k)))) r { d5 with up := d5.up + k } :=
    hr6.set 5 _ (by rw [IntWalk.i64_in _ (by omega)]; rfl)
  have hfs7 := (((hfs.keeps k4 (by simp)).keeps hm.keeps (off3 b (by simp))).keeps kd (off5 b (by simp))).keeps k7 (by simp; omega)
  have hf7 := (((hf.keeps k4 (by simp)).keeps hm.keeps (off3 f (by simp))).keeps kd (off5 f (by simp))).keeps k7 (by simp; omega)
  have hown7 := ownsRow_keeps hown k7 (fun j hj => by have := h5 j hj; simp; omega)
  generalize (w6.setCell ⟨r, 5, none⟩ (.int .i64 (IntKind.i64.wrap ((d5.up : Int) + k)))) = w7 at *
  obtain ⟨bs', hb7, hrest, hlen⟩ := buf_more hown7 hm.buf.byte hmb hm.buf.h1 (by rw [hl]; exact hm.room) hm.buf.h4 hm.buf.clean hm.buf.sep k hl
  obtain ⟨e1, e2, e3, e4, e5, e6, e7, e8⟩ := hm.e1
  have hl5 := hm.len
  have hr5 := hm.rest
  have ho5 := hm.own
  have hk5 := hm.keeps
  subst hd3
  refine ⟨k, { d5 with up := d5.up + k }, bs', rfl, hk1, hk2, hk3, hr7, hb7, by rw [hrest, hr5, hmore]; rfl, e1, e2, e3, ?_, e5, e6, e7, e8, by rw [hlen]; exact hl5, hfs7, hf7, ?_, fun j hj => ?_⟩
  · show d5.en = decide (k = 0)
    rw [e4]
    show ((k : Int) == 0) = decide (k = 0)
    by_cases h : k = 0 <;> simp [h]
  · have s1 : ∀ x ∈ [b, f, r], x ∈ [b, f, r] ++ d.buf.ownBlock.toList ++ d5.buf.ownBlock.toList := fun x hx => List.mem_append_left _ (List.mem_append_left _ hx)
    have s2 : ∀ x ∈ r :: d.buf.ownBlock.toList, x ∈ [b, f, r] ++ d.buf.ownBlock.toList ++ d5.buf.ownBlock.toList := fun x hx => by
      rcases List.mem_cons.1 hx with h | h
      · subst h; simp
      · exact List.mem_append_left _ (List.mem_append_right _ h)
    have a := (((k3.mono s1).trans (k4.mono (by simp))).trans (hk5.mono s2)).trans ((kd.mono (fun x hx => List.mem_append_right _ hx)).trans (k7.mono (fun x hx => s2 x (by rw [List.mem_singleton.1 hx]; exact List.mem_cons_self ..))))
    refine a.drop (fun x hx => ?_)
    rcases List.mem_append.1 hx with h | h
    · exact .inl h
    · have h' : d5.buf.ownBlock = some x := by simpa using h
      rcases ho5 with e | e
      · left
        apply List.mem_append_right
        have e' : d5.buf.ownBlock = d.buf.ownBlock := e
        rw [← e', h']
        simp
      · right
        rw [h'] at e
        cases e
        omega
  · have hj' : d5.buf.ownBlock = some j := hj
    rcases ho5 with e | e
    · left
      rw [← hj']
      exact e.symm
    · right
      rw [hj'] at e
      cases e
      omega

set_option maxRecDepth 100000 in
set_option maxHeartbeats 25600000 in
theorem rd_read (r B f b g : Nat) (d : Rd) (bs : List Int) (s : FSt) (N : Int) (nm : ByteArray) (p : Nat) (q : Int) (v : Value) (n : Nat) (sy op : Int) (wr : Bool) (zs : List Int) (w : World) (hr : RdAt w r d) (hb : BufAt w B d bs) (hdf : d.f = f) (hsz : 1 ≤ d.size)
    (hfs : FsAt w b 0 s) (hF : Fine s N) (hN : N < 4611686018427387904) (hf : FileAt w f b s.life nm true false false g p q) (hg : BodyAt w g v sy op wr) (hv : w.ownsRow 0 5 1 v n (zs.map (Value.int .u8))) (hn : n ≤ 67108864) (hp : p ≤ n) (hzb : ∀ z ∈ zs, InByte z) (hsh : ShortAt w s.sh b)
    (hLb : bs.length ≤ 1073741824) (hB : B ≤ w.heap.size) (hgb : g ≠ b) (hvb : v.ownBlock ≠ some b) :
    Calls Try.prog 49 #[.pointer (some ⟨r, 0, none⟩)] w (Took w B r d bs f b s nm p q n zs g) := by
  have g0 : w.cell? ⟨r, 0, none⟩ = some (.pointer (some ⟨f, 0, none⟩)) := by rw [hr.cell, ← hdf]; rfl
  have g1 : w.cell? ⟨r, 1, none⟩ = some (.int .i64 d.size) := by rw [hr.cell]; rfl
  have hfb : f ≠ b := block_ne hf hfs (by decide)
  have hrb : r ≠ b := block_ne hr hfs (by decide)
  have hrf : r ≠ f := block_ne hr hf (by decide)
  have Hdf := Lib.hid hdf
  have Hr := Lib.hid hr
  have Hb := Lib.hid hb
  have Hfs := Lib.hid hfs
  have HF := Lib.hid hF
  have Hf := Lib.hid hf
  have Hg := Lib.hid hg
  have Hv := Lib.hid hv
  have Hzb := Lib.hid hzb
  have Hsh := Lib.hid hsh
  clear hr hb hfs hF hf hg hv hzb hsh hdf
  go_enter Try.func49, Try.ntmps49
  go_wp2_with fail
  refine wp_goes fun J hJ => ?_
  go_region_held_law (fun w' => w'.cell? ⟨r, 0, none⟩ = some (.pointer (some ⟨f, 0, none⟩)) ∧ w'.cell? ⟨r, 1, none⟩ = some (.int .i64 d.size)) (first | exact ⟨g0, g1⟩ | exact ⟨q0, q1⟩) ((go_simp; go_at_call 63; refine (read_any f b g s N nm p q v n sy op wr zs d.size w.drew (by exact Hfs.out) HF.out hN (by exact Hf.out) (by exact Hg.out) (by exact Hv.out) hn hp hsz (by exact Hsh.out) hfb hgb hvb).mono ?_; rintro e w2 hpost; obtain ⟨k, u, rfl, hk1, hk2, hk3, hfs2, hf2, hu2, kp2⟩ := hpost; have hr2 : RdAt w2 r d := RdAt.keeps (w := w.drew) Hr.out kp2 (by intro hm; rcases List.mem_cons.1 hm with h | h; exact hrb h; exact hrf (List.mem_singleton.1 h)); have q0 : w2.cell? ⟨r, 0, none⟩ = some (.pointer (some ⟨f, 0, none⟩)) := rd_f hr2 Hdf.out; have q1 : w2.cell? ⟨r, 1, none⟩ = some (.int .i64 d.size) := rd_size hr2; have Hfs2 := Lib.hid hfs2; have Hf2 := Lib.hid hf2; have Hu2 := Lib.hid hu2; have Kp2 := Lib.hid kp2; have Hr2 := Lib.hid hr2; clear hfs2 hf2 hu2 kp2 hr2; dsimp only))
  refine hJ _ _ ?_
  clear hJ g0 g1 q0 q1
  rename_i K0 hK0 _
  refine hK0 _ _ ?_
  clear hK0
  obtain ⟨so, sc, rfl, hso⟩ := row_shape Hu2.out
  obtain ⟨c7, f7⟩ := rd_more Hr2.out
  have hzl : zs.length = n := by have := Hv.out.1; simpa using this
  have hml : ((zs.drop p).take k).length = k := by rw [List.length_take, List.length_drop, hzl]; omega
  have hmb : ∀ z ∈ (zs.drop p).take k, InByte z := fun z hz => Hzb.out z (List.mem_of_mem_drop (List.mem_of_mem_take hz))
  obtain ⟨more, hmore⟩ : ∃ more, more = (zs.drop p).take k := ⟨_, rfl⟩
  have hu2 := Hu2.out
  rw [← hmore] at hml hmb hu2
  clear Hu2
  have Hu2 := Lib.hid hu2
  have Hmore := Lib.hid hmore
  have Hml := Lib.hid hml
  have Hmb := Lib.hid hmb
  clear hu2 hmore hml hmb
  go_wp2_with fail
  refine wp_goes fun J hJ => ?_
  have hr3 : RdAt (w2.setCell ⟨r, 7, none⟩ (.bool ((k : Int) == 0))) r { d with en := ((k : Int) == 0) } := Hr2.out.set 7 _ rfl
  have k3 : Keeps [r] w2 (w2.setCell ⟨r, 7, none⟩ (.bool ((k : Int) == 0))) := (Keeps.refl [r] w2).setCell (by simp) _
  generalize (w2.setCell ⟨r, 7, none⟩ (.bool ((k : Int) == 0))) = w3 at *
  have n1 := row_ne Hb.out.row Hfs.out (by decide)
  have n2 := row_ne Hb.out.row Hf.out (by decide)
  have n3 := row_ne Hb.out.row Hr.out (by decide)
  have ka : Keeps [b, f, r] w.drew w2 := Kp2.out.mono (fun x hx => List.mem_append_left [r] hx)
  have kb : Keeps [b, f, r] w2 w3 := k3.mono (fun x hx => List.mem_append_right [b, f] hx)
  have kw3 : Keeps [b, f, r] w w3 := (Keeps.refl [b, f, r] w).drew.trans (ka.trans kb)
  have hb3 : BufAt w3 B { d with en := ((k : Int) == 0) } bs := Hb.out.en kw3 (fun j hj => by have := n1 j hj; have := n2 j hj; have := n3 j hj; simp; omega) _
  have hfs3 := Hfs2.out.keeps k3 (by simp; omega)
  have hf3 := Hf2.out.keeps k3 (by simp; omega)
  have hrw : r < w.heap.size := lt_of_block Hr.out
  have hu3 := ownsRow_keeps Hu2.out k3 (fun j hj => by have := ownsRow_above Hu2.out hj; simp; show ¬ j = r; have h : w.heap.size ≤ j := this; omega)
  have hB3 : B ≤ w3.heap.size := Nat.le_trans hB kw3.size
  obtain ⟨d3, hd3⟩ : ∃ d3, d3 = { d with en := ((k : Int) == 0) } := ⟨_, rfl⟩
  rw [← hd3] at hr3 hb3
  obtain ⟨bo, bc, hbuf, hbo⟩ := row_shape hb3.row
  obtain ⟨c3, c4, c5, f3, f4, f5⟩ := rd_facts hr3
  rw [hbuf] at c3
  have h2 := hb3.h2
  have hob : d3.buf.ownBlock ≠ some r := by rw [hd3]; exact fun e => n3 _ e rfl
  have hn3 : ∀ j, d3.buf.ownBlock = some j → j ≠ f ∧ j ≠ b ∧ j ≠ r := fun j hj => by rw [hd3] at hj; exact ⟨n2 j hj, n1 j hj, n3 j hj⟩
  have hO : ∀ j, d3.buf.ownBlock = some j → j < w.heap.size := fun j hj => by rw [hd3] at hj; exact row_lt Hb.out.row hj
  have hrl : (d3.rest bs).length ≤ bs.length := by rw [rest_len hb3.h1 hb3.h2]; omega
  have HbO := Lib.hid hO
  have Hr3 := Lib.hid hr3
  clear hO
  have Hb3 := Lib.hid hb3
  have Hfs3 := Lib.hid hfs3
  have Hf3 := Lib.hid hf3
  have Hu3 := Lib.hid hu3
  have Hd3 := Lib.hid hd3
  have Hbuf := Lib.hid hbuf
  have Hbo := Lib.hid hbo
  have Hso := Lib.hid hso
  have Kw3 := Lib.hid kw3
  have Hn3 := Lib.hid hn3
  have Hob := Lib.hid hob
  clear hr3 hb3 hfs3 hf3 hu3 hd3 hbuf hbo hso kw3 hn3 hob n1 n2 n3 ka kb k3 c7 f7 Hr2 Hfs2 Hf2 Hu2 Kp2 Hfs Hf Hg Hv Hsh Hr HF
  go_quiet (fail)
  refine hJ _ _ ?_
  clear hJ
  generalize hw4 : w3.drewN _ = w4 at *
  have hr4 := Hr3.out.ofDrewN hw4
  have k4 : Keeps [] w3 w4 := (Keeps.refl [] w3).ofDrewN hw4
  have hb4 : BufAt w4 B d3 bs := ⟨ownsRow_keeps Hb3.out.row k4 (fun j hj => by simp), Hb3.out.byte, Hb3.out.h1, Hb3.out.h2, Hb3.out.h4, Hb3.out.clean, Hb3.out.sep⟩
  have hs4 : w4.heap.size = w3.heap.size := by rw [← hw4]; rfl
  have hB4 : B ≤ w4.heap.size := by rw [hs4]; exact hB3
  have Hr4 := Lib.hid hr4
  have Hb4 := Lib.hid hb4
  have K4 := Lib.hid k4
  clear hr4 hb4 k4 hw4 c3 c4 c5 f3 f4 f5
  by_cases hq : bs.length - d3.up < k
  · have tq : decide ((bs.length : Int) - d3.up < k) = true := by rw [decide_eq_true_iff]; omega
    rw [tq]
    clear tq
    go_wp2_with fail
    refine (room_any r B k d3 bs w4 Hr4.out Hb4.out (by omega) (by omega) hLb hB4 Hob.out).mono ?_
    rintro e w5 hroom
    obtain ⟨rfl, d5, bs5, hm⟩ := hroom.mid
    clear hroom
    go_wp2_with fail
    have hu5 := ownsRow_keeps (ownsRow_keeps Hu3.out K4.out (fun j hj => by simp)) hm.keeps (buf_apart Hu3.out HbO.out hrw)
    rcases row_cells hm.buf.row with ⟨h, h0⟩ | ⟨g5, cap5, hbuf5, hc1, hc2, _⟩
    · have := hm.room
      rw [h0] at this
      simp at this
      omega
    obtain ⟨c3, c4, c5, f3, f4, f5⟩ := rd_facts hm.rd
    have hr1 := hm.room
    have hr2 := hm.len
    have hr3 := hm.buf.h2
    have hc5 : d5.up + k ≤ 4611686018427387904 := by omega
    have hn5 : r ∉ d5.buf.ownBlock.toList := mid_off hm Hn3.out (Nat.lt_of_lt_of_le (Nat.lt_of_lt_of_le hrw Kw3.out.size) (Nat.le_of_eq hs4.symm))
    have hb5 : True := trivial
    rw [hbuf5] at c3 hn5
    have hcin := cin_any hm hu5 Hml.out Hso.out hbuf5
    have hne : ¬ cap5 = d5.up := by omega
    have hcc : (more.map (Value.int .u8)).length = k := by rw [List.length_map]; exact Hml.out
    have Hcc := Lib.hid hcc
    have Hm := Lib.hid hm
    have Hu5 := Lib.hid hu5
    have Hcin := Lib.hid hcin
    have Hn5 := Lib.hid hn5
    have Hb5 := Lib.hid hb5
    clear hm hu5 hcin hn5 hb5 hcc
    go_region_law (refine step_copy_k rfl (.tmp 57) (.tmp 58) 22 22 rfl 5 Try.underlying22 info5s _ _ _ _ _ _ rfl rfl B _ _ _ _ _ Hcin.out k Hcc.out ?_; intro w6 hown6 hk6; have hr6 : RdAt w6 r d5 := RdAt.keeps (w := w5.drew) Hm.out.rd hk6 Hn5.out; obtain ⟨q3, q4, q5, p3, p4, p5⟩ := rd_facts hr6; have Hown6 := Lib.hid hown6; have K6 := Lib.hid hk6; clear hown6 hk6 hr6)
    all_goals go_end0
    all_goals exact took_of Hd3.out Hm.out Hml.out Hmore.out Hmb.out hk1 hk2 hk3 Hn3.out Kw3.out K4.out hrw hc5 Hfs3.out Hf3.out hrb hrf hbuf5 Hown6.out K6.out
  · have tq : decide ((bs.length : Int) - d3.up < k) = false := by rw [decide_eq_false_iff_not]; omega
    rw [tq]
    clear tq
    go_wp2_with fail
    have hm : Mid w4 B r d3 bs k d3 bs w4 := Mid.stay Hr4.out Hb4.out (by omega) (Keeps.refl [] w4)
    have hu5 := ownsRow_keeps Hu3.out K4.out (fun j hj => by simp)
    rcases row_cells hm.buf.row with ⟨hbuf5, h0⟩ | ⟨g5, cap5, hbuf5, hc1, hc2, _⟩
    · obtain ⟨c3, c4, c5, f3, f4, f5⟩ := rd_facts hm.rd
      have hr1 := hm.room
      have hr2 := hm.len
      have hr3 := hm.buf.h2
      have hc5 : d3.up + k ≤ 4611686018427387904 := by omega
      have hn5 : r ∉ d3.buf.ownBlock.toList := mid_off hm Hn3.out (Nat.lt_of_lt_of_le (Nat.lt_of_lt_of_le hrw Kw3.out.size) (Nat.le_of_eq hs4.symm))
      have hb5 : True := trivial
      have hll : bs.length = 0 := by rw [h0]; rfl
      have hup0 : d3.up = 0 := by omega
      have hk0 : k = 0 := by omega
      rw [hbuf5] at c3
      have z5 := rd_up hm.rd hup0
      clear c5
      have Hup := Lib.hid hup0
      clear hup0 hll h0 hr1 hr2 hr3
      have ew : IntKind.i64.wrap ((d3.up : Int) + k) = IntKind.i64.wrap (k : Int) := by rw [Hup.out]; simp
      have hcin := cin_none (dp := none) (dLen := 0) (so := so) hm hk0 Hml.out
      clear hk0
      have hcc : (more.map (Value.int .u8)).length = k := by rw [List.length_map]; exact Hml.out
      have Hcc := Lib.hid hcc
      have Hm := Lib.hid hm
      have Hu5 := Lib.hid hu5
      have Hcin := Lib.hid hcin
      have Hn5 := Lib.hid hn5
      have Hb5 := Lib.hid hb5
      clear hm hu5 hcin hn5 hb5 hcc
      go_region_law (refine step_copy_k rfl (.tmp 57) (.tmp 58) 22 22 rfl 5 Try.underlying22 info5s _ _ _ _ _ _ rfl rfl B _ _ _ _ _ Hcin.out k Hcc.out ?_; intro w6 hown6 hk6; have hr6 : RdAt w6 r d3 := RdAt.keeps (w := w4.drew) Hm.out.rd hk6 Hn5.out; obtain ⟨q3, q4, _, p3, p4, p5⟩ := rd_facts hr6; have q5 := rd_up hr6 Hup.out; have Hown6 := Lib.hid hown6; have K6 := Lib.hid hk6; clear hown6 hk6 hr6)
      all_goals go_end0
      all_goals have hend := took_of Hd3.out Hm.out Hml.out Hmore.out Hmb.out hk1 hk2 hk3 Hn3.out Kw3.out K4.out hrw hc5 Hfs3.out Hf3.out hrb hrf rfl Hown6.out K6.out
      all_goals rw [ew] at hend
      all_goals exact hend
    · by_cases hue : d3.up < cap5
      · obtain ⟨c3, c4, c5, f3, f4, f5⟩ := rd_facts hm.rd
        have hr1 := hm.room
        have hr2 := hm.len
        have hr3 := hm.buf.h2
        have hc5 : d3.up + k ≤ 4611686018427387904 := by omega
        have hn5 : r ∉ d3.buf.ownBlock.toList := mid_off hm Hn3.out (Nat.lt_of_lt_of_le (Nat.lt_of_lt_of_le hrw Kw3.out.size) (Nat.le_of_eq hs4.symm))
        have hb5 : True := trivial
        rw [hbuf5] at c3 hn5
        have hcin := cin_any hm hu5 Hml.out Hso.out hbuf5
        have hne : ¬ cap5 = d3.up := by omega
        have hcc : (more.map (Value.int .u8)).length = k := by rw [List.length_map]; exact Hml.out
        have Hcc := Lib.hid hcc
        have Hm := Lib.hid hm
        have Hu5 := Lib.hid hu5
        have Hcin := Lib.hid hcin
        have Hn5 := Lib.hid hn5
        have Hb5 := Lib.hid hb5
        clear hm hu5 hcin hn5 hb5 hcc
        go_region_law (refine step_copy_k rfl (.tmp 57) (.tmp 58) 22 22 rfl 5 Try.underlying22 info5s _ _ _ _ _ _ rfl rfl B _ _ _ _ _ Hcin.out k Hcc.out ?_; intro w6 hown6 hk6; have hr6 : RdAt w6 r d3 := RdAt.keeps (w := w4.drew) Hm.out.rd hk6 Hn5.out; obtain ⟨q3, q4, q5, p3, p4, p5⟩ := rd_facts hr6; have Hown6 := Lib.hid hown6; have K6 := Lib.hid hk6; clear hown6 hk6 hr6)
        all_goals go_end0
        all_goals exact took_of Hd3.out Hm.out Hml.out Hmore.out Hmb.out hk1 hk2 hk3 Hn3.out Kw3.out K4.out hrw hc5 Hfs3.out Hf3.out hrb hrf hbuf5 Hown6.out K6.out
      · obtain ⟨c3, c4, c5, f3, f4, f5⟩ := rd_facts hm.rd
        have hr1 := hm.room
        have hr2 := hm.len
        have hr3 := hm.buf.h2
        have hc5 : d3.up + k ≤ 4611686018427387904 := by omega
        have hn5 : r ∉ d3.buf.ownBlock.toList := mid_off hm Hn3.out (Nat.lt_of_lt_of_le (Nat.lt_of_lt_of_le hrw Kw3.out.size) (Nat.le_of_eq hs4.symm))
        have hb5 : True := trivial
        have hcl : cap5 = d3.up := by omega
        have hll : bs.length = d3.up := by omega
        rw [hbuf5, hll, hcl] at c3
        have hcin := cin_none (dp := some ⟨g5, 0, none⟩) (dLen := 0) (so := so) hm (by omega) Hml.out
        have hcc : (more.map (Value.int .u8)).length = k := by rw [List.length_map]; exact Hml.out
        have Hcc := Lib.hid hcc
        have Hm := Lib.hid hm
        have Hu5 := Lib.hid hu5
        have Hcin := Lib.hid hcin
        have Hn5 := Lib.hid hn5
        have Hb5 := Lib.hid hb5
        clear hm hu5 hcin hn5 hb5 hcc
        go_region_law (refine step_copy_k rfl (.tmp 57) (.tmp 58) 22 22 rfl 5 Try.underlying22 info5s _ _ _ _ _ _ rfl rfl B _ _ _ _ _ Hcin.out k Hcc.out ?_; intro w6 hown6 hk6; have hr6 : RdAt w6 r d3 := RdAt.keeps (w := w4.drew) Hm.out.rd hk6 Hn5.out; obtain ⟨q3, q4, q5, p3, p4, p5⟩ := rd_facts hr6; have Hown6 := Lib.hid hown6; have K6 := Lib.hid hk6; clear hown6 hk6 hr6)
        all_goals go_end0
        all_goals exact took_of Hd3.out Hm.out Hml.out Hmore.out Hmb.out hk1 hk2 hk3 Hn3.out Kw3.out K4.out hrw hc5 Hfs3.out Hf3.out hrb hrf rfl Hown6.out K6.out
end Go.Proofs.Ytolnojhepakaoaa
