/- CollateWhole, with the contracts laid in. -/
import Derived.Test.YtgpcmlbmmcnkjaaGreatDoorTw
import Derived.Test.YtgpcmlbmmcnkjaaGreatDoorTj
namespace Go.Proofs.YtgpcmlbmmcnkjaaGreatDoor
open Go.RowKit
set_option maxRecDepth 100000
def KW (m : Nat) (b : Bool) : KeyL := ⟨1, 1, 0, 0, m, b⟩
theorem effW_nil (m : Nat) (t : Int) : effL [] m t = [KW m (modB m)] := by
  unfold effL dflt own
  simp [KW, turn, o3]
theorem effW_0 (m : Nat) (t : Int) : effL [K11 0] m t = [KW m (modB m)] := by
  unfold effL dflt own
  simp [K11, KW, turn, o3]
theorem effW_m (m : Nat) (t : Int) (h : m ≠ 0) : effL [K11 m] m t = [KW m false] := by
  unfold effL dflt own
  simp [K11, KW, h]
theorem modB_0 : modB 0 = false := by decide
theorem shW (m : Nat) (h : m < 1024) : shK (K11 m) = true := by
  unfold shK shB K11
  simp
  omega
theorem docW_0 (m : Nat) (t : Int) : docS [K11 0] m t = docS [] m t := by
  unfold docS
  rw [effW_0, effW_nil]
  simp [shW 0 (by omega)]
theorem docW_m (m : Nat) (t : Int) : docS [K11 m] m t = docS [] m t := by
  by_cases h0 : m = 0
  · subst h0; exact docW_0 0 t
  · unfold docS
    rw [effW_m m t h0, effW_nil]
    by_cases h : m < 1024
    · simp [shW m h, KW]
    · simp [h]
theorem spL_ef (s : ByteArray) (oo : Option UInt8) (m : Nat) (b b' : Bool) : spL s oo [KW m b] 0 = spL s oo [KW m b'] 0 := by
  unfold spL
  simp only [List.getElem?_cons_zero]
  unfold KW spanP spanE
  simp
theorem kyS_ef (oo : Option UInt8) (m : Nat) (b' b'' : Bool) (a b : ByteArray) : kyS oo [KW m b'] a b = kyS oo [KW m b''] a b := by
  rw [kyS_one, kyS_one]
  unfold cutL
  rw [spL_ef a oo m b' b'', spL_ef b oo m b' b'']
  rfl
theorem cpS_ef (b1 b2 : Bool) (oo : Option UInt8) (m : Nat) (b' b'' : Bool) (a b : ByteArray) : cpS b1 b2 oo [KW m b'] a b = cpS b1 b2 oo [KW m b''] a b := by
  unfold cpS
  rw [kyS_ef oo m b' b'']
theorem ky_plain (a b : ByteArray) : kyS (tabO (-1)) (effL [] 0 (-1)) a b = Lib.compareBytes a.data.toList b.data.toList := by
  rw [effW_nil, kyS_one]
  unfold cutL
  rw [spL_whole a _ (KW 0 (modB 0)) rfl rfl rfl (by decide), spL_whole b _ (KW 0 (modB 0)) rfl rfl rfl (by decide)]
  simp only [ext_whole]
  have e1 : letsS 0 = 0 := by decide
  have e2 : foldS 0 = false := by decide
  show zK 0 a.data.toList b.data.toList = _
  unfold zK zB
  rw [if_pos (by decide), if_pos (by decide), e1, e2, filt_all, filt_all]
theorem cp_plain (a b : ByteArray) : cpS true false (tabO (-1)) (effL [] 0 (-1)) a b = Lib.compareBytes a.data.toList b.data.toList := by
  unfold cpS cmpV
  rw [ky_plain]
  split
  · rename_i h; simp
  · rfl
theorem whole_ok (o : Opt) (ak : Option Addr) (kn kc' : Nat) (fa : Option Addr) (fn fc : Nat) (a b : ByteArray) (w : World) (hmm : o.mods < 65536) (ha : a.size ≤ 1048576) (hb : b.size ≤ 1048576) (T : Tbs w) :
    Calls Tryz.prog 4 #[optV o (.slice ak kn kc') (.slice fa fn fc), .string a, .string b] w (RetBk w (.bool true)) := by
  have base : ∀ (ks : List KeyL) (kv : Value) (W : World), ks.length ≤ 1 → (∀ k ∈ ks, k.m < 65536) → SlAt W W.heap.size kv 6 ks.length (ksV ks) → Below w.heap.size w W → _ := fun ks kv W h1 h2 h3 h4 => mayC_ok o ks kv (.slice fa fn fc) a b W hmm h2 h3 (by omega) ha hb (T.below h4)
  refine whole_g (docS [] o.mods o.tab) o ak kn kc' fa fn fc a b _ _ _ w
    (Lib.hid fun W bb => base [] (.slice none 0 0) W (by simp) (fun k h => by cases h) (sl_none W _) bb)
    (Lib.hid fun W g bb h => ?_) (Lib.hid fun W g bb h => ?_) (Lib.hid fun W bb => ?_) (cb_ends a.data.toList b.data.toList)
    (by rw [Lib.toList_data, Lib.toList_data]; exact eq_cb _ _) (by rw [Lib.toList_data, Lib.toList_data]; exact less_cb _ _)
  · have := base [K11 0] (.slice (some ⟨g, 0, none⟩) 1 1) W (by simp) (fun k h => by simp at h; subst h; show (0 : Nat) < 65536; omega) (ky_sl h h.lt) bb
    rw [docW_0, effW_0] at this
    rw [effW_nil]
    exact this
  · have := base [K11 o.mods] (.slice (some ⟨g, 0, none⟩) 1 1) W (by simp) (fun k h => by simp at h; subst h; exact hmm) (ky_sl h h.lt) bb
    rw [docW_m] at this
    rw [effW_nil]
    by_cases h0 : o.mods = 0
    · rw [h0, effW_0] at this
      rw [h0]
      exact this
    · rw [effW_m _ _ h0, cpS_ef _ _ _ o.mods false (modB o.mods), kyS_ef _ o.mods false (modB o.mods)] at this
      exact this
  · have := mayC_ok (o3 0 (-1)) [] (.slice none 0 0) (.slice none 0 0) a b W (by show (0 : Nat) < 65536; omega) (fun k h => by cases h) (sl_none W _) (by simp) ha hb (T.below bb)
    have e1 : docS [] (o3 0 (-1)).mods (o3 0 (-1)).tab = true := by decide
    have e2 : cpS (!(o3 0 (-1)).stable && !(o3 0 (-1)).unique) (!decide ((o3 0 (-1)).mods &&& 512 = 0)) (tabO (o3 0 (-1)).tab) (effL [] (o3 0 (-1)).mods (o3 0 (-1)).tab) a b = Lib.compareBytes a.data.toList b.data.toList := cp_plain a b
    have e3 : kyS (tabO (o3 0 (-1)).tab) (effL [] (o3 0 (-1)).mods (o3 0 (-1)).tab) a b = Lib.compareBytes a.data.toList b.data.toList := ky_plain a b
    rw [e1, e2, e3] at this
    exact this
end Go.Proofs.YtgpcmlbmmcnkjaaGreatDoor
