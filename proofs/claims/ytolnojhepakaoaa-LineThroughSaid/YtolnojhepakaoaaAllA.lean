/- readAll, of the statements: what stands between two lines. -/
import Derived.Test.YtolnojhepakaoaaNext
import Derived.Test.YtolnojhepakaoaaCutw
namespace Go.Proofs.Ytolnojhepakaoaa
open Go.RowKit

theorem row9_ne {w : World} {B b T : Nat} {v : Value} {n : Nat} {xs : List Value} {c : Array Value} {fz : Nat × Nat} (h : w.ownsRow B 9 1 v n xs) (hb : w.heap[b]? = some (.cells c T fz)) (hT : T ≠ 9) : ∀ j, v.ownBlock = some j → j ≠ b := by
  intro j hj e
  subst e
  rcases h.2 with ⟨rfl, _⟩ | ⟨g, cap, cur, rfl, _, h1, _⟩
  · simp [Value.ownBlock] at hj
  · simp [Value.ownBlock] at hj
    subst hj
    rw [h1] at hb
    injection hb with hb
    injection hb with _ y
    exact hT y.symm
theorem row9_row5 {w : World} {B B' : Nat} {v u : Value} {n m : Nat} {xs ys : List Value} (h : w.ownsRow B 9 1 v n xs) (k : w.ownsRow B' 5 1 u m ys) : ∀ j, v.ownBlock = some j → u.ownBlock ≠ some j := by
  intro j hj e
  rcases k.2 with ⟨rfl, _⟩ | ⟨g, cap, cur, rfl, _, h1, _⟩
  · simp [Value.ownBlock] at e
  · simp [Value.ownBlock] at e
    subst e
    exact row9_ne h h1 (by decide) g hj rfl
theorem row9_above {w : World} {B n j : Nat} {v : Value} {xs : List Value} (h : w.ownsRow B 9 1 v n xs) (hj : v.ownBlock = some j) : B ≤ j := (h.lt j hj).1
theorem Live.keeps {S : List Nat} {w w' : World} {B r f p n : Nat} {d : Rd} {bs : List Int} (h : Live w B r f d bs p n) (k : Keeps S w w') (hr : r ∉ S) (hb : ∀ j, d.buf.ownBlock = some j → j ∉ S) : Live w' B r f d bs p n :=
  ⟨h.rd.keeps k hr, ⟨ownsRow_keeps h.buf.row k hb, h.buf.byte, h.buf.h1, h.buf.h2, h.buf.h4, h.buf.clean, h.buf.sep⟩, h.df, h.sz, h.rB, h.hL, h.hT, h.er, h.en⟩
def numAt (w : World) (b i : Nat) : Nat := match w.cell? ⟨b, i, none⟩ with | some (.int _ x) => x.toNat | _ => 0
def restM (f r n : Nat) (w : World) : Nat := (numAt w r 5 - numAt w r 4) + (n - numAt w f 7)
theorem restM_at {w : World} {B r f b g : Nat} {d : Rd} {bs : List Int} {s : FSt} {N : Int} {nm : ByteArray} {p : Nat} {q : Int} {v : Value} {n : Nat} {sy op : Int} {wr : Bool} {zs : List Int} (h : Live w B r f d bs p n) (hs : Src w B f b g s N nm p q v n sy op wr zs) :
    restM f r n w = (d.rest bs ++ zs.drop p).length := by
  have c : w.cell? ⟨f, 7, none⟩ = some (.int .i64 (p : Int)) := by rw [cell_of hs.file]; rfl
  have e4 : w.cell? ⟨r, 4, none⟩ = some (.int .i64 (d.fr : Int)) := by rw [h.rd.cell]; rfl
  have e5 : w.cell? ⟨r, 5, none⟩ = some (.int .i64 (d.up : Int)) := by rw [h.rd.cell]; rfl
  have hzl : zs.length = n := by have := hs.row.1; simpa using this
  unfold restM numAt
  rw [c, e4, e5, List.length_append, List.length_drop, rest_len h.buf.h1 h.buf.h2, hzl]
  simp
/-- Between two lines. -/
structure AllAt (w : World) (B r f b g : Nat) (sep : Int) (nm : ByteArray) (q : Int) (v : Value) (n : Nat) (sy op : Int) (wr : Bool) (zs : List Int) (D : List (List Int)) (l : Value) (d : Rd) (bs : List Int) (s : FSt) (N : Int) (p : Nat) (wx : World) : Prop where
  live : Live wx B r f d bs p n
  src : Src wx B f b g s N nm p q v n sy op wr zs
  hsep : d.sep = sep
  bud : Bud d.en N (n - p)
  ln : d.ln = (D.length : Int)
  out : D ++ (cutL sep [] (d.rest bs ++ zs.drop p)).1 = (cutL sep [] zs).1
  ba : (d.ba = false ∧ (cutL sep [] (d.rest bs ++ zs.drop p)).2 = (cutL sep [] zs).2) ∨ (d.ba = true ∧ d.rest bs ++ zs.drop p = [] ∧ (cutL sep [] zs).2 = false)
  row : wx.ownsRow B 9 1 l D.length (D.map strV)
  keep : Keeps [b, f] w wx
  small : D.length + (d.rest bs ++ zs.drop p).length ≤ 4096
/-- What Next leaves of it, the list as it was. -/
theorem AllAt.frame {w w' wx : World} {B r f b g : Nat} {sep : Int} {nm : ByteArray} {q : Int} {v : Value} {n : Nat} {sy op : Int} {wr : Bool} {zs : List Int} {D : List (List Int)} {l : Value} {d d' : Rd} {bs : List Int} {s : FSt} {N : Int} {p : Nat}
    (h : AllAt w B r f b g sep nm q v n sy op wr zs D l d bs s N p wx) (hB : B = w.heap.size) (hF : Frame wx b f r d d' w') : w'.ownsRow B 9 1 l D.length (D.map strV) ∧ Keeps [b, f] w w' := by
  have nb := row9_ne h.row h.src.fs (by decide)
  have nf := row9_ne h.row h.src.file (by decide)
  have nr := row9_ne h.row h.live.rd (by decide)
  have n5 := row9_row5 h.row h.live.buf.row
  refine ⟨ownsRow_keeps h.row hF.1 (fun j hj => ?_), ?_⟩
  · intro hm
    rcases List.mem_append.1 hm with hm | hm
    · simp only [List.mem_cons, List.mem_nil_iff, or_false] at hm
      rcases hm with rfl | rfl | rfl
      · exact nb j hj rfl
      · exact nf j hj rfl
      · exact nr j hj rfl
    · exact n5 j hj (by simpa using hm)
  · have k1 : Keeps ([b, f] ++ ([b, f, r] ++ d.buf.ownBlock.toList)) w wx := h.keep.mono (fun x hx => List.mem_append_left _ hx)
    have k2 : Keeps ([b, f] ++ ([b, f, r] ++ d.buf.ownBlock.toList)) wx w' := hF.1.mono (fun x hx => List.mem_append_right _ hx)
    refine (k1.trans k2).drop (fun x hx => ?_)
    rcases List.mem_append.1 hx with hx | hx
    · exact .inl hx
    · rcases List.mem_append.1 hx with hx | hx
      · simp only [List.mem_cons, List.mem_nil_iff, or_false] at hx
        rcases hx with rfl | rfl | rfl
        · exact .inl (by simp)
        · exact .inl (by simp)
        · exact .inr (by rw [← hB]; exact h.live.rB)
      · have hb : d.buf.ownBlock = some x := by simpa using hx
        have := ownsRow_above h.live.buf.row hb
        exact .inr (by omega)
end Go.Proofs.Ytolnojhepakaoaa
