/- Hash; numbers, the highest byte first. -/
import Derived.Test.YtfbeipfpkikakaaDoorHs
namespace Go.Proofs.YtfbeipfpkikakaaDoor
open Go.RowKit

set_option maxRecDepth 100000
def HhRel (l : List UInt8) (h i : Value) : Prop := ∃ k : Nat, k ≤ l.length ∧ i = .int .i64 k ∧ h = .int .u64 ((hashN (l.take k) : Nat) : Int)
theorem fold_snoc {α β : Type} (f : β → α → β) (h0 : β) (l : List α) (k : Nat) (h : k < l.length) : (l.take (k + 1)).foldl f h0 = f ((l.take k).foldl f h0) l[k] := by
  rw [List.take_succ_eq_append_getElem h, List.foldl_append]
  rfl
theorem hash_snoc (l : List UInt8) (k : Nat) (h : k < l.length) : hashN (l.take (k + 1)) = hashStep (hashN (l.take k)) l[k] := fold_snoc hashStep _ l k h
theorem wrap_u64 (n : Nat) : IntKind.u64.wrap (n : Int) = ((n % 2 ^ 64 : Nat) : Int) := by
  unfold IntKind.wrap
  simp [IntKind.bits, IntKind.signed]
theorem hash_facts (d x : Nat) (hd : d < 2 ^ 64) (hx : x < 256) : ∃ y : Nat, bits .xor .u64 (d : Int) (x : Int) = (y : Int) ∧ y < 2 ^ 64 ∧ (d ^^^ x) = y := by
  refine ⟨d ^^^ x, u64_xor_nat _ _ hd (by omega), Nat.xor_lt_two_pow hd (by omega), rfl⟩
set_option maxHeartbeats 1600000 in
theorem hash_some (b off cp : Nat) (l : List UInt8) (hl : l.length ≤ 140737488355328) (w : World) (hb : b < w.heap.size) (hc : ∀ j u, l[j]? = some u → w.cell? ⟨b, off + j, none⟩ = some (.int .u8 u.toNat)) :
    Calls Tryd.prog 18 #[.slice (some ⟨b, off, none⟩) l.length cp] w (Same w (.int .u64 (hashN l))) := by
  have HC := Lib.hid hc
  clear hc
  go_enter Tryd.func18, Tryd.ntmps18
  go_wp2_with fail
  go_loop [3, 8] (fun x i => HhRel l x i) (fun _ i => l.length - (intOf i).toNat)
  case atStart => exact ⟨0, Nat.zero_le _, rfl, rfl⟩
  case round =>
    obtain ⟨k, hk, rfl, rfl⟩ := hrel
    have hlt64 : hashN (l.take k) < 2 ^ 64 := hash_lt _ _ (by decide)
    by_cases hlt : k < l.length
    · have HSN := Lib.hid (hash_snoc l k hlt)
      have c1 := HC.out k l[k] (List.getElem?_eq_getElem hlt)
      have hx := l[k].toNat_lt
      generalize l[k] = x at *
      generalize hashN (l.take k) = d at *
      obtain ⟨y, y1, y2, y3⟩ := hash_facts d x.toNat hlt64 hx
      have HS := Lib.hid (show hashStep d x = y * 1099511628211 % 2 ^ 64 by unfold hashStep; rw [y3])
      clear y3 hlt64
      have KEY := Lib.hid (show HhRel l (.int .u64 (IntKind.u64.wrap ((y : Int) * 1099511628211))) (.int .i64 ((k : Int) + 1)) from ⟨k + 1, by omega, by go_num, by
        rw [HSN.out, HS.out, ← wrap_u64, Int.natCast_mul]; rfl⟩)
      go_wp2_with fail
      exact ⟨KEY.out, by simp [intOf]; omega⟩
    · have ek : l.take k = l := List.take_of_length_le (by omega)
      have EK := Lib.hid (show hashN (l.take k) = hashN l by rw [ek])
      generalize hashN (l.take k) = d at *
      clear ek
      go_wp2_with fail
      go_ret
      exact ⟨by rw [← EK.out]; rfl, rfl⟩
set_option maxHeartbeats 1600000 in
theorem refHash_some (b off cp : Nat) (l : List UInt8) (hl : l.length ≤ 140737488355328) (w : World) (hb : b < w.heap.size) (hc : ∀ j u, l[j]? = some u → w.cell? ⟨b, off + j, none⟩ = some (.int .u8 u.toNat)) :
    Calls Tryd.prog 19 #[.slice (some ⟨b, off, none⟩) l.length cp] w (Same w (.int .u64 (hashN l))) := by
  have HC := Lib.hid hc
  clear hc
  go_enter Tryd.func19, Tryd.ntmps19
  go_wp2_with fail
  go_loop [3, 4] (fun x i => HhRel l x i) (fun _ i => l.length - (intOf i).toNat)
  case atStart => exact ⟨0, Nat.zero_le _, rfl, rfl⟩
  case round =>
    obtain ⟨k, hk, rfl, rfl⟩ := hrel
    have hlt64 : hashN (l.take k) < 2 ^ 64 := hash_lt _ _ (by decide)
    by_cases hlt : k < l.length
    · have HSN := Lib.hid (hash_snoc l k hlt)
      have c1 := HC.out k l[k] (List.getElem?_eq_getElem hlt)
      have hx := l[k].toNat_lt
      generalize l[k] = x at *
      generalize hashN (l.take k) = d at *
      obtain ⟨y, y1, y2, y3⟩ := hash_facts d x.toNat hlt64 hx
      have HS := Lib.hid (show hashStep d x = y * 1099511628211 % 2 ^ 64 by unfold hashStep; rw [y3])
      clear y3 hlt64
      have KEY := Lib.hid (show HhRel l (.int .u64 (IntKind.u64.wrap ((y : Int) * 1099511628211))) (.int .i64 ((k : Int) + 1)) from ⟨k + 1, by omega, by go_num, by
        rw [HSN.out, HS.out, ← wrap_u64, Int.natCast_mul]; rfl⟩)
      go_wp2_with fail
      exact ⟨KEY.out, by simp [intOf]; omega⟩
    · have ek : l.take k = l := List.take_of_length_le (by omega)
      have EK := Lib.hid (show hashN (l.take k) = hashN l by rw [ek])
      generalize hashN (l.take k) = d at *
      clear ek
      go_wp2_with fail
      go_ret
      exact ⟨by rw [← EK.out]; rfl, rfl⟩
theorem hash_none (a : Option Addr) (cp : Nat) (w : World) : Calls Tryd.prog 18 #[.slice a 0 cp] w (Same w (.int .u64 (hashN []))) := by
  have EK := Lib.hid (show ((hashN [] : Nat) : Int) = 14695981039346656037 from rfl)
  go_enter Tryd.func18, Tryd.ntmps18
  go_wp2_with fail
  go_loop [3, 8] (fun x i => x = .int .u64 14695981039346656037 ∧ i = .int .i64 0) (fun _ i => 0)
  case atStart => exact ⟨rfl, rfl⟩
  case round =>
    obtain ⟨rfl, rfl⟩ := hrel
    go_wp2_with fail
    go_ret
    exact ⟨by rw [EK.out]; rfl, rfl⟩
theorem refHash_none (a : Option Addr) (cp : Nat) (w : World) : Calls Tryd.prog 19 #[.slice a 0 cp] w (Same w (.int .u64 (hashN []))) := by
  have EK := Lib.hid (show ((hashN [] : Nat) : Int) = 14695981039346656037 from rfl)
  go_enter Tryd.func19, Tryd.ntmps19
  go_wp2_with fail
  go_loop [3, 4] (fun x i => x = .int .u64 14695981039346656037 ∧ i = .int .i64 0) (fun _ i => 0)
  case atStart => exact ⟨rfl, rfl⟩
  case round =>
    obtain ⟨rfl, rfl⟩ := hrel
    go_wp2_with fail
    go_ret
    exact ⟨by rw [EK.out]; rfl, rfl⟩
theorem hash_ok (v : Value) (l : List UInt8) (w : World) (hl : l.length ≤ 140737488355328) (h : SlB w v l) : Calls Tryd.prog 18 #[v] w (Same w (.int .u64 (hashN l))) := by
  obtain ⟨a, c, rfl, _, rfl | ⟨b, off, rfl, hb, hc⟩⟩ := h
  · exact hash_none a c w
  · exact hash_some b off c l hl w hb hc
theorem refHash_ok (v : Value) (l : List UInt8) (w : World) (hl : l.length ≤ 140737488355328) (h : SlB w v l) : Calls Tryd.prog 19 #[v] w (Same w (.int .u64 (hashN l))) := by
  obtain ⟨a, c, rfl, _, rfl | ⟨b, off, rfl, hb, hc⟩⟩ := h
  · exact refHash_none a c w
  · exact refHash_some b off c l hl w hb hc
end Go.Proofs.YtfbeipfpkikakaaDoor
