/- The tables of names in memory. -/
import Derived.Test.YtbgbmojoldkcfaaDoorSr
import Derived.Test.YtbgbmojoldkcfaaDoorShelf
import Derived.Test.YtbgbmojoldkcfaaDoorLaid
namespace Go.Proofs.YtbgbmojoldkcfaaDoor
open Go.RowKit

def bs (l : List UInt8) : ByteArray := ⟨l.toArray⟩
theorem bs_list (l : List UInt8) : (bs l).data.toList = l := by simp [bs]
theorem bs_of (s : ByteArray) : bs s.data.toList = s := by simp [bs]
theorem bs_size (l : List UInt8) : (bs l).size = l.length := by rw [Lib.size_eq, bs_list]
/-- The options of the program: name, letter, whether it wants a value, what stands for it. -/
def optL : List (List UInt8 × Nat × Bool × List UInt8) := [([105, 103, 110, 111, 114, 101, 45, 108, 101, 97, 100, 105, 110, 103, 45, 98, 108, 97, 110, 107, 115], 98, false, []), ([100, 105, 99, 116, 105, 111, 110, 97, 114, 121, 45, 111, 114, 100, 101, 114], 100, false, []), ([105, 103, 110, 111, 114, 101, 45, 99, 97, 115, 101], 102, false, []), ([103, 101, 110, 101, 114, 97, 108, 45, 110, 117, 109, 101, 114, 105, 99, 45, 115, 111, 114, 116], 103, false, []), ([104, 117, 109, 97, 110, 45, 110, 117, 109, 101, 114, 105, 99, 45, 115, 111, 114, 116], 104, false, []), ([105, 103, 110, 111, 114, 101, 45, 110, 111, 110, 112, 114, 105, 110, 116, 105, 110, 103], 105, false, []), ([109, 111, 110, 116, 104, 45, 115, 111, 114, 116], 77, false, []), ([110, 117, 109, 101, 114, 105, 99, 45, 115, 111, 114, 116], 110, false, []), ([114, 101, 118, 101, 114, 115, 101], 114, false, []), ([118, 101, 114, 115, 105, 111, 110, 45, 115, 111, 114, 116], 86, false, []), ([99, 104, 101, 99, 107], 99, false, [100, 105, 97, 103, 110, 111, 115, 101, 45, 102, 105, 114, 115, 116]), ([99, 104, 101, 99, 107], 67, false, [113, 117, 105, 101, 116]), ([109, 101, 114, 103, 101], 109, false, []), ([115, 116, 97, 98, 108, 101], 115, false, []), ([117, 110, 105, 113, 117, 101], 117, false, []), ([122, 101, 114, 111, 45, 116, 101, 114, 109, 105, 110, 97, 116, 101, 100], 122, false, []), ([107, 101, 121], 107, true, []), ([111, 117, 116, 112, 117, 116], 111, true, []), ([102, 105, 101, 108, 100, 45, 115, 101, 112, 97, 114, 97, 116, 111, 114], 116, true, []), ([98, 117, 102, 102, 101, 114, 45, 115, 105, 122, 101], 83, true, []), ([116, 101, 109, 112, 111, 114, 97, 114, 121, 45, 112, 114, 101, 102, 105, 120], 84, true, []), ([108, 105, 110, 101, 115], 0, true, []), ([98, 97, 116, 99, 104, 45, 115, 105, 122, 101], 0, true, []), ([112, 97, 114, 97, 108, 108, 101, 108], 0, true, []), ([112, 97, 99, 107], 0, false, []), ([99, 104, 101, 99, 107, 112, 111, 105, 110, 116], 0, true, []), ([115, 111, 114, 116], 0, true, [])]
def optRow (p : List UInt8 × Nat × Bool × List UInt8) : List Value := [.string (bs p.1), .int .u8 (p.2.1 : Int), .bool p.2.2.1, .string (bs p.2.2.2)]
def cOptions : Array Value := (optL.flatMap optRow).toArray
/-- The names of the document. -/
def namL : List (List UInt8 × Nat × Int) := [([105, 103, 110, 111, 114, 101, 45, 108, 101, 97, 100, 105, 110, 103, 45, 98, 108, 97, 110, 107, 115], 98, 0), ([100, 105, 99, 116, 105, 111, 110, 97, 114, 121, 45, 111, 114, 100, 101, 114], 100, 0), ([105, 103, 110, 111, 114, 101, 45, 99, 97, 115, 101], 102, 0), ([103, 101, 110, 101, 114, 97, 108, 45, 110, 117, 109, 101, 114, 105, 99, 45, 115, 111, 114, 116], 103, 0), ([104, 117, 109, 97, 110, 45, 110, 117, 109, 101, 114, 105, 99, 45, 115, 111, 114, 116], 104, 0), ([105, 103, 110, 111, 114, 101, 45, 110, 111, 110, 112, 114, 105, 110, 116, 105, 110, 103], 105, 0), ([109, 111, 110, 116, 104, 45, 115, 111, 114, 116], 77, 0), ([110, 117, 109, 101, 114, 105, 99, 45, 115, 111, 114, 116], 110, 0), ([114, 101, 118, 101, 114, 115, 101], 114, 0), ([118, 101, 114, 115, 105, 111, 110, 45, 115, 111, 114, 116], 86, 0), ([99, 104, 101, 99, 107], 99, 2), ([109, 101, 114, 103, 101], 109, 0), ([115, 116, 97, 98, 108, 101], 115, 0), ([117, 110, 105, 113, 117, 101], 117, 0), ([122, 101, 114, 111, 45, 116, 101, 114, 109, 105, 110, 97, 116, 101, 100], 122, 0), ([107, 101, 121], 107, 1), ([111, 117, 116, 112, 117, 116], 111, 1), ([102, 105, 101, 108, 100, 45, 115, 101, 112, 97, 114, 97, 116, 111, 114], 116, 1), ([98, 117, 102, 102, 101, 114, 45, 115, 105, 122, 101], 83, 1), ([116, 101, 109, 112, 111, 114, 97, 114, 121, 45, 112, 114, 101, 102, 105, 120], 84, 1), ([108, 105, 110, 101, 115], 0, 1), ([98, 97, 116, 99, 104, 45, 115, 105, 122, 101], 0, 1), ([112, 97, 114, 97, 108, 108, 101, 108], 0, 1), ([112, 97, 99, 107], 0, 0), ([99, 104, 101, 99, 107, 112, 111, 105, 110, 116], 0, 1), ([115, 111, 114, 116], 0, 1)]
def namRow (p : List UInt8 × Nat × Int) : List Value := [.string (bs p.1), .int .u8 (p.2.1 : Int), .int .i64 p.2.2]
def namD (p : List UInt8 × Nat × Int) : DataW Unit := .agg [.lit (.string p.1), .lit (.int .u8 (p.2.1 : Int)), .lit (.int .i64 p.2.2)]
structure Tabs (w : World) : Prop where
  options : ∃ t fr, w.heap[1]? = some (.cells cOptions t fr)
  names : ∃ t fr b off c, w.heap[0]? = some (.cells #[.slice (some ⟨b, off, none⟩) 26 c] t fr) ∧ b < w.heap.size ∧ ∀ i, i < 26 → ∀ j v, (namRow (namL.getD i ([], 0, 0)))[j]? = some v → w.cell? ⟨b, off + i * 3 + j, none⟩ = some v
theorem lt_of_block {w : World} {b : Nat} {o : Obj} (h : w.heap[b]? = some o) : b < w.heap.size := by
  rcases Nat.lt_or_ge b w.heap.size with h' | h'
  · exact h'
  · rw [Array.getElem?_eq_none h'] at h; cases h
theorem Tabs.below {w w' : World} (h : Tabs w) (k : Below w.heap.size w w') : Tabs w' := by
  obtain ⟨⟨t, fr, h0⟩, ⟨t1, fr1, b, off, c, h1, h2, h3⟩⟩ := h
  exact ⟨⟨t, fr, (k.block 1 (lt_of_block h0)).trans h0⟩, ⟨t1, fr1, b, off, c, (k.block 0 (lt_of_block h1)).trans h1, Nat.lt_of_lt_of_le h2 k.size, fun i hi j v hv => (k.cell (p := ⟨b, off + i * 3 + j, none⟩) h2).trans (h3 i hi j v hv)⟩⟩
theorem index_opts (k : Nat) (h : k < 27) (w : World) : (Instr.index 82 (.agg cOptions) (.int .i64 k)).run Tryd.prog w = .ok (.agg (optRow (optL.getD k ([], 0, false, []))).toArray) w := by
  obtain rfl | rfl | rfl | rfl | rfl | rfl | rfl | rfl | rfl | rfl | rfl | rfl | rfl | rfl | rfl | rfl | rfl | rfl | rfl | rfl | rfl | rfl | rfl | rfl | rfl | rfl | rfl : k = 0 ∨ k = 1 ∨ k = 2 ∨ k = 3 ∨ k = 4 ∨ k = 5 ∨ k = 6 ∨ k = 7 ∨ k = 8 ∨ k = 9 ∨ k = 10 ∨ k = 11 ∨ k = 12 ∨ k = 13 ∨ k = 14 ∨ k = 15 ∨ k = 16 ∨ k = 17 ∨ k = 18 ∨ k = 19 ∨ k = 20 ∨ k = 21 ∨ k = 22 ∨ k = 23 ∨ k = 24 ∨ k = 25 ∨ k = 26 := by omega
  all_goals kernel_rfl
theorem infoOpts : (Tryd.prog.info? 82).map (·.size) = some cOptions.size := by kernel_rfl
theorem lay_names (i : Nat) (h : i < 26) : (namD (namL.getD i ([], 0, 0))).lay Tryd.prog 52 0 = some (namRow (namL.getD i ([], 0, 0)), []) := by
  obtain rfl | rfl | rfl | rfl | rfl | rfl | rfl | rfl | rfl | rfl | rfl | rfl | rfl | rfl | rfl | rfl | rfl | rfl | rfl | rfl | rfl | rfl | rfl | rfl | rfl | rfl : i = 0 ∨ i = 1 ∨ i = 2 ∨ i = 3 ∨ i = 4 ∨ i = 5 ∨ i = 6 ∨ i = 7 ∨ i = 8 ∨ i = 9 ∨ i = 10 ∨ i = 11 ∨ i = 12 ∨ i = 13 ∨ i = 14 ∨ i = 15 ∨ i = 16 ∨ i = 17 ∨ i = 18 ∨ i = 19 ∨ i = 20 ∨ i = 21 ∨ i = 22 ∨ i = 23 ∨ i = 24 ∨ i = 25 := by omega
  all_goals kernel_rfl
end Go.Proofs.YtbgbmojoldkcfaaDoor
