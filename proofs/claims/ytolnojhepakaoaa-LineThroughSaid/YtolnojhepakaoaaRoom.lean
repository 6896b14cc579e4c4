/- makeRoom: the walks. -/
import Derived.Test.YtolnojhepakaoaaGive
import Derived.Test.YtolnojhepakaoaaCopy
namespace Go.Proofs.Ytolnojhepakaoaa
open Go.RowKit

/-- What makeRoom leaves. -/
def Roomy (w : World) (B r : Nat) (d : Rd) (bs : List Int) (n : Nat) (e : Ending) (w' : World) : Prop :=
  ∃ (v : Value) (bs' : List Int), e = .returned (.tuple #[]) ∧ RdAt w' r { d with buf := v, fr := 0, up := (d.rest bs).length } ∧ BufAt w' B { d with buf := v, fr := 0, up := (d.rest bs).length } bs' ∧
    Rd.rest { d with buf := v, fr := 0, up := (d.rest bs).length } bs' = d.rest bs ∧ (d.rest bs).length + n ≤ bs'.length ∧ bs'.length ≤ max bs.length (2 * ((d.rest bs).length + n)) ∧ Keeps (r :: d.buf.ownBlock.toList) w w' ∧
    (v.ownBlock = d.buf.ownBlock ∨ v.ownBlock = some w.heap.size)

theorem info5s : (Try.prog.info? 5).map (·.size) = some 1 := by kernel_rfl
theorem rest_len {d : Rd} {bs : List Int} (h1 : d.fr ≤ d.up) (h2 : d.up ≤ bs.length) : (d.rest bs).length = d.up - d.fr := by unfold Rd.rest; simp; omega

/-- The buffer behind a move of the rest to its beginning. -/
theorem buf_moved {w w' : World} {B r n : Nat} {d : Rd} {bs xs : List Int} {v : Value} (hb : BufAt w B d bs) (hr : RdAt w' r { d with buf := v, fr := 0, up := (d.rest bs).length })
    (hown : w'.ownsRow B 5 1 v xs.length (splice (xs.map (Value.int .u8)) 0 ((d.rest bs).map (Value.int .u8)))) (hxb : ∀ z ∈ xs, InByte z) (hl : (d.rest bs).length + n ≤ xs.length) (hm : xs.length ≤ max bs.length (2 * ((d.rest bs).length + n)))
    (hk : Keeps (r :: d.buf.ownBlock.toList) w w') (hv : v.ownBlock = d.buf.ownBlock ∨ v.ownBlock = some w.heap.size) : Roomy w B r d bs n (.returned (.tuple #[])) w' := by
  have hRb : ∀ z ∈ d.rest bs, InByte z := fun z hz => hb.byte z (by unfold Rd.rest at hz; exact List.mem_of_mem_drop (List.mem_of_mem_take hz))
  have hrl := rest_len hb.h1 hb.h2
  have e : splice (xs.map (Value.int .u8)) 0 ((d.rest bs).map (Value.int .u8)) = (d.rest bs ++ xs.drop (d.rest bs).length).map (Value.int .u8) := by
    simp [splice, List.map_drop]
  have hlen : (d.rest bs ++ xs.drop (d.rest bs).length).length = xs.length := by simp; omega
  have hrest : Rd.rest { d with buf := v, fr := 0, up := (d.rest bs).length } (d.rest bs ++ xs.drop (d.rest bs).length) = d.rest bs := by
    show ((d.rest bs ++ xs.drop (d.rest bs).length).drop 0).take ((d.rest bs).length - 0) = d.rest bs
    simp
  rw [e] at hown
  refine ⟨v, _, rfl, hr, ⟨by rw [hlen]; exact hown, fun z hz => ?_, Nat.zero_le _, by rw [hlen]; show (d.rest bs).length ≤ xs.length; omega, by have := hb.h4; show d.cl ≤ (d.rest bs).length - 0; omega, fun j hj => by rw [hrest]; exact hb.clean j hj, hb.sep⟩, hrest, by rw [hlen]; exact hl, by rw [hlen]; exact hm, hk, hv⟩
  rcases List.mem_append.1 hz with h | h
  · exact hRb z h
  · exact hxb z (List.mem_of_mem_drop h)
theorem made_bytes (n : Nat) : (madeCells #[Value.int .u8 0] n).toList = (List.replicate n (0 : Int)).map (Value.int .u8) := by
  rw [toList_madeCells_one, List.map_replicate]
theorem rd_facts {w : World} {r : Nat} {d : Rd} (h : RdAt w r d) : w.cell? ⟨r, 3, none⟩ = some d.buf ∧ w.cell? ⟨r, 4, none⟩ = some (.int .i64 d.fr) ∧ w.cell? ⟨r, 5, none⟩ = some (.int .i64 d.up) ∧ w.frozen? ⟨r, 3, none⟩ = false ∧ w.frozen? ⟨r, 4, none⟩ = false ∧ w.frozen? ⟨r, 5, none⟩ = false :=
  ⟨by rw [h.cell]; rfl, by rw [h.cell]; rfl, by rw [h.cell]; rfl, h.free 3, h.free 4, h.free 5⟩
end Go.Proofs.Ytolnojhepakaoaa
