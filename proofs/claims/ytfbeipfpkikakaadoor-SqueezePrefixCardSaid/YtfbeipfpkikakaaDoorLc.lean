/- SqueezeLooks but for alive. -/
import Derived.Test.YtfbeipfpkikakaaDoorRl
namespace Go.Proofs.YtfbeipfpkikakaaDoor
open Go.RowKit

set_option maxRecDepth 100000
theorem SlB.held {w : World} {a : Option Addr} {cp : Nat} {l : List UInt8} (h : SlB w (.slice a l.length cp) l) (hne : 12 ≤ l.length) : ∃ b off, a = some ⟨b, off, none⟩ ∧ HeldB w b off l := by
  obtain ⟨a2, c2, he, _, rfl | ⟨b, off, rfl, hb, hc⟩⟩ := h
  · simp at hne
  · injection he with e1 e2 e3
    subst e1
    exact ⟨b, off, rfl, hb, hc⟩
theorem OwnB.held {w : World} {B : Nat} {v : Value} {l : List UInt8} (h : OwnB w B v l) (hne : 12 ≤ l.length) : ∃ b cap, v = .slice (some ⟨b, 0, none⟩) l.length cap ∧ l.length ≤ cap ∧ cap ≤ maxLen ∧ HeldB w b 0 l := by
  have hs := h.sl
  rcases h.1.2 with ⟨rfl, hn⟩ | ⟨g, cap, cur, rfl, hb, hg, h1, h2, _⟩
  · omega
  · obtain ⟨b, off, e, hh⟩ := hs.held hne
    cases e
    exact ⟨g, cap, rfl, h1, h2, hh⟩
set_option maxHeartbeats 1600000 in
theorem looks_walk (AL : AliveOk) (ua : Option Addr) (uc : Nat) (c : List UInt8) (w : World) (hc : SlB w (.slice ua c.length uc) c) (hlen : c.length ≤ 140737488355328) (T : Tabs w) (m r d z p f : Int) (hf : 0 ≤ f ∧ f ≤ 1000)
    (L1 : ∀ v W, OwnB W w.heap.size v c → Below w.heap.size w W → Calls Tryd.prog 21 #[v] W (RetLook W m r d z p f)) (L2 : ∀ W, Below w.heap.size w W → Calls Tryd.prog 22 #[.slice ua c.length uc] W (RetLook W m r d z p f)) :
    Calls Tryd.prog 7 #[.slice ua c.length uc] w (RetBelow w (.bool true)) := by
  have AC := Lib.hid (fun (W : World) (k : Below w.heap.size w W) => AL W (T.below k))
  have TW := Lib.hid (twin_ok _ c w hc hlen)
  have X1 := Lib.hid L1
  have X2 := Lib.hid L2
  have NC := Lib.hid (fun W => num_ok f (by omega) W)
  clear L1 L2 T hc
  go_enter Tryd.func7, Tryd.ntmps7
  go_wp2_with fail
  refine TW.out.mono ?_
  rintro e w1 ⟨v1, rfl, h1, h2, _⟩
  have O1 := Lib.hid h1
  have K1 := Lib.hid h2
  clear h1 h2
  go_wp2_with fail
  refine (X1.out v1 w1 O1.out K1.out).mono ?_
  rintro e w2 ⟨rfl, h2⟩
  have K2 := Lib.hid (K1.out.trans (h2.mono K1.out.size))
  clear h2
  go_wp2_with fail
  have A2 := Lib.hid (CellsAt.new w2 [.int .i64 m, .int .i64 r, .int .i64 d, .int .i64 z] 44)
  have K2a := Lib.hid (K2.out.alloc K2.out.size (Obj.cells #[.int .i64 m, .int .i64 r, .int .i64 d, .int .i64 z] 44))
  generalize w2.alloc (Obj.cells #[.int .i64 m, .int .i64 r, .int .i64 d, .int .i64 z] 44) = w2a at *
  refine (X2.out w2a K2a.out).mono ?_
  rintro e w3 ⟨rfl, h2⟩
  have A3 := Lib.hid (A2.out.step h2)
  have K3 := Lib.hid (K2a.out.trans (h2.mono K2a.out.size))
  clear h2
  have a0 := A3.out.cell 0 _ rfl
  have a1 := A3.out.cell 1 _ rfl
  have a2 := A3.out.cell 2 _ rfl
  have a3 := A3.out.cell 3 _ rfl
  have hp := A3.out.lt
  go_wp2_with fail
  have K4 := Lib.hid (K3.out.alloc K3.out.size (Obj.cells #[.int .i64 m, .int .i64 r, .int .i64 d, .int .i64 z] 44))
  clear a0 a1 a2 a3
  generalize w3.alloc (Obj.cells #[.int .i64 m, .int .i64 r, .int .i64 d, .int .i64 z] 44) = w4 at *
  refine (NC.out w4).mono ?_
  rintro e w5 ⟨rfl, rfl⟩
  go_wp2_with fail
  refine (AC.out w4 K4.out).mono ?_
  rintro e w6 ⟨rfl, hz⟩
  have KZ := Lib.hid (K4.out.trans (hz.mono K4.out.size))
  clear hz
  go_wp2_with fail
  go_ret
  exact ⟨rfl, KZ.out⟩
theorem looks_card (AL : AliveOk) (ua : Option Addr) (uc : Nat) (c : List UInt8) (w : World) (hc : SlB w (.slice ua c.length uc) c) (hcap : c.length ≤ uc ∧ uc ≤ 9223372036854775807) (hlen : c.length ≤ 140737488355328) (T : Tabs w) : Calls Tryd.prog 7 #[.slice ua c.length uc] w (RetBelow w (.bool true)) := by
  by_cases h12 : c.length < 12
  · refine looks_walk AL ua uc c w hc hlen T 0 0 0 0 c.length 63 (by omega) (fun v W o k => ?_) (fun W k => refLook_short ua uc c.length h12 W)
    obtain ⟨a2, c2, rfl, _, _⟩ := o.sl
    exact look_short a2 c2 c.length h12 W
  · have h12' : 12 ≤ c.length := by omega
    obtain ⟨b, off, rfl, hh⟩ := hc.held h12'
    obtain ⟨m, hm⟩ : ∃ m, m = (c.getD 1 0).toNat := ⟨_, rfl⟩
    obtain ⟨r, hr⟩ : ∃ r, r = numB (cutN c 2 3) := ⟨_, rfl⟩
    obtain ⟨d, hd⟩ : ∃ d, d = numB (cutN c 5 3) := ⟨_, rfl⟩
    obtain ⟨F, hF⟩ : ∃ F, F = faultN (c.getD 0 0).toNat m (numB (cutN c 8 4)) (sumN (cutN c 0 8)) r d := ⟨_, rfl⟩
    have P1 : ∀ v W, OwnB W w.heap.size v c → Below w.heap.size w W → Calls Tryd.prog 21 #[v] W (if F.2 = 0 then RetLook W m r d (16 + d) 0 0 else RetLook W 0 0 0 0 F.1 F.2) := by
      intro v W o k
      obtain ⟨b2, cap, rfl, q1, q2, hh2⟩ := o.held h12'
      exact look_long b2 0 cap c h12' q1 (by unfold maxLen at q2; omega) W hh2 (T.below k) F m r d hm hr hd hF
    have P2 := fun W (k : Below w.heap.size w W) => refLook_long b off uc c h12' hcap.1 hcap.2 W (hh.below k) F m r d hm hr hd hF
    have hf : F.2 ≤ 1000 := by
      rw [hF]
      unfold faultN
      repeat (split; simp)
      simp
    by_cases hz : F.2 = 0
    · simp only [if_pos hz] at P1 P2
      exact looks_walk AL _ uc c w hc hlen T _ _ _ _ _ _ (by omega) P1 P2
    · simp only [if_neg hz] at P1 P2
      exact looks_walk AL _ uc c w hc hlen T _ _ _ _ _ _ (by omega) P1 P2
end Go.Proofs.YtfbeipfpkikakaaDoor
