/-
  The walks of Invert, Reverse, Ones and Run, the program's and the specification's.
-/
import Derived.Test.YtmogmmnldggdhaaW5
namespace Go.Proofs.Ytmogmmnldggdhaa
open Go.RowKit
set_option linter.unusedVariables false
set_option linter.unusedSimpArgs false

/-- What Invert, Reverse, Ones and Run answer. -/
def ivT (l : List UInt8) : List UInt8 := if okB l = true then iv l else []
def reT (l : List UInt8) : List UInt8 := if okB l = true then l.reverse else []
def onV (l : List UInt8) : Nat := if okB l = true then on1 l else 0
def ruV (l : List UInt8) (at_ : Int) : Nat := if okB l = true ∧ 0 ≤ at_ ∧ at_ < l.length then rn l at_.toNat else 0
theorem ivT_bad {l : List UInt8} (h : okB l = false) : ivT l = [] := by unfold ivT; rw [h]; rfl
theorem ivT_ok {l : List UInt8} (h : okB l = true) : ivT l = iv l := by unfold ivT; rw [h]; rfl
theorem reT_bad {l : List UInt8} (h : okB l = false) : reT l = [] := by unfold reT; rw [h]; rfl
theorem reT_ok {l : List UInt8} (h : okB l = true) : reT l = l.reverse := by unfold reT; rw [h]; rfl
theorem onV_bad {l : List UInt8} (h : okB l = false) : onV l = 0 := by unfold onV; rw [h]; rfl
theorem onV_ok {l : List UInt8} (h : okB l = true) : onV l = on1 l := by unfold onV; rw [h]; rfl
theorem ruV_bad {l : List UInt8} {a : Int} (h : okB l = false ∨ a < 0 ∨ l.length ≤ a) : ruV l a = 0 := by
  unfold ruV; rw [if_neg]
  rintro ⟨h1, h2, h3⟩
  rcases h with h | h | h
  · rw [h] at h1; cases h1
  · omega
  · omega
theorem ruV_ok {l : List UInt8} {a : Nat} (h : okB l = true) (h' : a < l.length) : ruV l a = rn l a := by
  unfold ruV; rw [if_pos ⟨h, by omega, by omega⟩]; rfl

/-- The first k characters, inverted; the last k, backwards. -/
theorem iv_take (s : ByteArray) (k : Nat) (h : k < s.size) : iv (s.data.toList.take (k + 1)) = iv (s.data.toList.take k) ++ [97 - s[k]] := by
  rw [take_snoc s k h, iv, List.map_append]; rfl
theorem rev_take (s : ByteArray) (k : Nat) (h : k < s.size) : s.data.toList.reverse.take (k + 1) = s.data.toList.reverse.take k ++ [s[s.size - 1 - k]] := by
  have hl := size_len s
  rw [List.take_succ_eq_append_getElem (by simpa using h)]
  congr 2
  rw [List.getElem_reverse]
  simp only [← hl]
  rfl

set_option maxRecDepth 20000 in
set_option maxHeartbeats 1000000 in
theorem invert_any (s : ByteArray) (w : World) (hs : s.size ≤ 140737488351232) :
    Calls Try.prog 20 #[.string s] w fun e w' => e = .returned (.string ⟨(ivT s.data.toList).toArray⟩) ∧ Below w.heap.size w w' := by
  have hlen := size_len s
  have hs' : (s.size : Int) ≤ 140737488351232 := by omega
  have HV := Lib.hid (fun w => valid_any s w hs)
  rcases hok : okB s.data.toList with _ | _
  · rw [hok] at HV
    rw [ivT_bad hok]
    clear hok hlen
    go_enter Try.func20, Try.ntmps20
    go_wp2_with (go_at_call 14; go_must (refine (HV.out _).mono ?_; rintro e w1 ⟨rfl, rfl⟩))
    go_returns
    exact ⟨rfl, Below.refl _ _⟩
  · rw [hok] at HV
    rw [ivT_ok hok]
    have hn0 : (s.size : Int) ≤ 65536 := by have := okB_len hok; omega
    have HL := Lib.hid hlen
    have HB : Hid (∀ k (hk : k < s.size), s[k].toNat = 48 ∨ s[k].toNat = 49) := fun k hk => okB_mem hok (List.getElem_mem (l := s.data.toList) (by rw [← HL.out]; exact hk))
    clear hok hlen
    go_enter Try.func20, Try.ntmps20
    go_wp2_with (first
      | (go_at_call 14; go_must (refine (HV.out _).mono ?_; rintro e w1 ⟨rfl, rfl⟩))
      | (at_make; go_must (refine wpList_make_zeros rfl _ _ rfl _ _ _ _ s.size rfl rfl rfl rfl (by omega) ?_; intro w0 ho0 hb0)))
    have HF0 := Lib.hid ho0
    clear ho0
    go_loopw [13] (fun x wr => ∃ k : Nat, k ≤ s.size ∧ x = .int .i64 k ∧ Hid (Row wr w.heap.size (.slice (some ⟨w.heap.size, 0, none⟩) s.size s.size) (iv (s.data.toList.take k) ++ List.replicate (s.size - k) 0)) ∧ Below w.heap.size w wr) (fun x _ => s.size - (intOf x).toNat)
    case atStart => exact ⟨0, by omega, rfl, by rw [List.take_zero, Nat.sub_zero]; exact HF0.out, hb0⟩
    case round =>
      obtain ⟨k, hk, rfl, HF, hb⟩ := hrel
      have hsz := hb.size
      by_cases he : k = s.size
      · subst he
        have kc := HF.out.conv
        rw [Nat.sub_self, List.replicate_zero, List.append_nil, List.take_of_length_le (by rw [← HL.out]; exact Nat.le_refl _)] at kc
        go_wp2
        go_returns
        exact ⟨rfl, hb⟩
      · have hlt : k < s.size := by omega
        have hd := HB.out k hlt
        have HLK : Hid ((iv (s.data.toList.take k) ++ List.replicate (s.size - k) 0).length = s.size) := by
          show _ = _
          rw [List.length_append, iv_length, List.length_take_of_le (by rw [← HL.out]; omega), List.length_replicate]; omega
        have hc1 := HF.out.cell HLK.out.symm k (by rw [HLK.out]; exact hlt)
        have hf1 := HF.out.frozen HLK.out.symm k
        go_wp2
        go_roundw
        case rel =>
          refine ⟨k + 1, by omega, by go_num, ?_, hb.setCell (Nat.le_refl _) _⟩
          have := HF.out.set k (97 - s[k]) (97 - (s[k].toNat : Int)) (by have := (iv_one hd).1; omega) HLK.out.symm
          rw [set_next _ _ k s.size (by rw [iv_length, List.length_take_of_le (by rw [← HL.out]; omega)]) hlt, ← iv_take s k hlt] at this
          exact this
        case measure => simp [intOf]; omega

set_option maxRecDepth 20000 in
set_option maxHeartbeats 1000000 in
theorem reverse_any (s : ByteArray) (w : World) (hs : s.size ≤ 140737488351232) :
    Calls Try.prog 22 #[.string s] w fun e w' => e = .returned (.string ⟨(reT s.data.toList).toArray⟩) ∧ Below w.heap.size w w' := by
  have hlen := size_len s
  have hs' : (s.size : Int) ≤ 140737488351232 := by omega
  have HV := Lib.hid (fun w => valid_any s w hs)
  rcases hok : okB s.data.toList with _ | _
  · rw [hok] at HV
    rw [reT_bad hok]
    clear hok hlen
    go_enter Try.func22, Try.ntmps22
    go_wp2_with (go_at_call 14; go_must (refine (HV.out _).mono ?_; rintro e w1 ⟨rfl, rfl⟩))
    go_returns
    exact ⟨rfl, Below.refl _ _⟩
  · rw [hok] at HV
    rw [reT_ok hok]
    have hn0 : (s.size : Int) ≤ 65536 := by have := okB_len hok; omega
    have HL := Lib.hid hlen
    clear hok hlen
    go_enter Try.func22, Try.ntmps22
    go_wp2_with (first
      | (go_at_call 14; go_must (refine (HV.out _).mono ?_; rintro e w1 ⟨rfl, rfl⟩))
      | (at_make; go_must (refine wpList_make_zeros rfl _ _ rfl _ _ _ _ s.size rfl rfl rfl rfl (by omega) ?_; intro w0 ho0 hb0)))
    have HF0 := Lib.hid ho0
    clear ho0
    go_loopw [13] (fun x wr => ∃ k : Nat, k ≤ s.size ∧ x = .int .i64 k ∧ Hid (Row wr w.heap.size (.slice (some ⟨w.heap.size, 0, none⟩) s.size s.size) (s.data.toList.reverse.take k ++ List.replicate (s.size - k) 0)) ∧ Below w.heap.size w wr) (fun x _ => s.size - (intOf x).toNat)
    case atStart => exact ⟨0, by omega, rfl, by rw [List.take_zero, Nat.sub_zero]; exact HF0.out, hb0⟩
    case round =>
      obtain ⟨k, hk, rfl, HF, hb⟩ := hrel
      have hsz := hb.size
      by_cases he : k = s.size
      · subst he
        have kc := HF.out.conv
        rw [Nat.sub_self, List.replicate_zero, List.append_nil, List.take_of_length_le (by rw [List.length_reverse, ← HL.out]; exact Nat.le_refl _)] at kc
        go_wp2
        go_returns
        exact ⟨rfl, hb⟩
      · have hlt : k < s.size := by omega
        have hj0 : (0 : Int) ≤ (s.size : Int) - 1 - k := by omega
        have hj1 : (s.size : Int) - 1 - k < s.size := by omega
        have HLK : Hid ((s.data.toList.reverse.take k ++ List.replicate (s.size - k) 0).length = s.size) := by
          show _ = _
          rw [List.length_append, List.length_take_of_le (by rw [List.length_reverse, ← HL.out]; omega), List.length_replicate]; omega
        have hc1 := HF.out.cell HLK.out.symm k (by rw [HLK.out]; exact hlt)
        have hf1 := HF.out.frozen HLK.out.symm k
        go_wp2
        go_roundw
        case rel =>
          refine ⟨k + 1, by omega, by go_num, ?_, hb.setCell (Nat.le_refl _) _⟩
          have := HF.out.set k s[s.size - 1 - k] _ rfl HLK.out.symm
          rw [set_next _ _ k s.size (by rw [List.length_take_of_le (by rw [List.length_reverse, ← HL.out]; omega)]) hlt, ← rev_take s k hlt] at this
          exact this
        case measure => simp [intOf]; omega

end Go.Proofs.Ytmogmmnldggdhaa
