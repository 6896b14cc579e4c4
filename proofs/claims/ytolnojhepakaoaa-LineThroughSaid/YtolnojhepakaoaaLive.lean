/- A Reader over a file that is open to be read: what stands between two calls, and what read leaves of it. -/
import Derived.Test.YtolnojhepakaoaaRr
import Derived.Test.YtolnojhepakaoaaMade
namespace Go.Proofs.Ytolnojhepakaoaa
open Go.RowKit

/-- The file that is read: its block, its system's, its bytes'. All of it lies below B. -/
structure Src (w : World) (B f b g : Nat) (s : FSt) (N : Int) (nm : ByteArray) (p : Nat) (q : Int) (v : Value) (n : Nat) (sy op : Int) (wr : Bool) (zs : List Int) : Prop where
  fs : FsAt w b 0 s
  fine : Fine s N
  file : FileAt w f b s.life nm true false false g p q
  body : BodyAt w g v sy op wr
  row : w.ownsRow 0 5 1 v n (zs.map (Value.int .u8))
  hn : n ≤ 67108864
  hp : p ≤ n
  zb : ∀ z ∈ zs, InByte z
  sh : ShortAt w s.sh b
  hB : B ≤ w.heap.size
  fB : f < B
  bB : b < B
  gB : g < B
  vB : ∀ j, v.ownBlock = some j → j < B
  shB : ∀ so sb sn sc, s.sh = .slice (some ⟨sb, so, none⟩) sn sc → 0 < sn → sb < B ∧ sb ≠ b ∧ sb ≠ f

/-- A Reader of it. -/
structure Live (w : World) (B r f : Nat) (d : Rd) (bs : List Int) (p n : Nat) : Prop where
  rd : RdAt w r d
  buf : BufAt w B d bs
  df : d.f = f
  sz : 1 ≤ d.size
  rB : B ≤ r
  hL : bs.length ≤ 1073741824
  hT : 2 * ((d.rest bs).length + (n - p)) ≤ 1073741824
  er : d.er = 0
  en : d.en = true → p = n

/-- What read leaves of it. -/
theorem Live.read {w w' : World} {B r f b g : Nat} {d : Rd} {bs : List Int} {s : FSt} {N : Int} {nm : ByteArray} {p : Nat} {q : Int} {v : Value} {n : Nat} {sy op : Int} {wr : Bool} {zs : List Int} {e : Ending} (h : Live w B r f d bs p n) (hs : Src w B f b g s N nm p q v n sy op wr zs)
    (ht : Took w B r d bs f b s nm p q n zs g e w') :
    e = .returned (.tuple #[]) ∧ ∃ (k : Nat) (d' : Rd) (bs' : List Int), p + k ≤ n ∧ (k = 0 → p = n) ∧ Live w' B r f d' bs' (p + k) n ∧ Src w' B f b g (s.called 1 false) (N + 1) nm (p + k) q v n sy op wr zs ∧
      d'.rest bs' = d.rest bs ++ (zs.drop p).take k ∧ d'.rest bs' ++ zs.drop (p + k) = d.rest bs ++ zs.drop p ∧ d'.en = decide (k = 0) ∧ d'.size = d.size ∧ d'.sep = d.sep ∧ d'.ba = d.ba ∧ d'.ln = d.ln ∧ Keeps ([b, f, r] ++ d.buf.ownBlock.toList) w w' ∧ ∀ j, d'.buf.ownBlock = some j → d.buf.ownBlock = some j ∨ w.heap.size ≤ j := by
  obtain ⟨k, d', bs', rfl, h1, h2, h3, h4, h5, h6, h7, h8, h9, h10, h11, h12, h13, h14, h15, h16, h17, h18, h19⟩ := ht
  have hp := hs.hp
  have hzl : zs.length = n := by have := hs.row.1; simpa using this
  have hml : ((zs.drop p).take k).length = k := by rw [List.length_take, List.length_drop, hzl]; omega
  have hT := h.hT
  have hL := h.hL
  have hrl : (d'.rest bs').length = (d.rest bs).length + k := by rw [h6, List.length_append, hml]
  have hgf : g ≠ f := block_ne hs.body hs.file (by decide)
  have hgb : g ≠ b := block_ne hs.body hs.fs (by decide)
  have hvf := row_ne hs.row hs.file (by decide)
  have hvb := row_ne hs.row hs.fs (by decide)
  have low : ∀ x, x < B → x ≠ b → x ≠ f → x ∉ [b, f, r] ++ d.buf.ownBlock.toList := by
    intro x hx h1 h2 hm
    have hr := h.rB
    rcases List.mem_append.1 hm with h | h
    · simp at h
      omega
    · have hb : d.buf.ownBlock = some x := by simpa using h
      have := ownsRow_above (Live.buf ‹_›).row hb
      omega
  refine ⟨rfl, k, d', bs', by omega, h3, ⟨h4, h5, by rw [h7]; exact h.df, by rw [h8]; exact h.sz, h.rB, ?_, by rw [hrl]; omega, by rw [h13]; exact h.er, fun he => ?_⟩,
    ⟨h16, hs.fine.called 1, h17, hs.body.keeps h18 (low g hs.gB hgb hgf), ownsRow_keeps hs.row h18 (fun j hj => low j (hs.vB j hj) (hvb j hj) (hvf j hj)), hs.hn, by omega, hs.zb, ?_, Nat.le_trans hs.hB h18.size, hs.fB, hs.bB, hs.gB, hs.vB, hs.shB⟩, h6, ?_, h10, h8, h9, h11, h12, h18, h19⟩
  · have : bs'.length ≤ max bs.length (2 * ((d.rest bs).length + k)) := h15
    omega
  · rw [h10] at he
    have := h3 (of_decide_eq_true he)
    omega
  · exact hs.sh.keeps h18 (fun so sb sn sc e h0 => by obtain ⟨a, b', c⟩ := hs.shB so sb sn sc e h0; exact low sb a b' c)
  · rw [h6, List.append_assoc]
    congr 1
    rw [← List.drop_drop, List.take_append_drop]
end Go.Proofs.Ytolnojhepakaoaa
