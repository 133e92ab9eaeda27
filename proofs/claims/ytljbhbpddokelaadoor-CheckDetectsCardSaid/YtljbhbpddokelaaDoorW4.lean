/-
  The walks of Int and FromBytes, the program's and the specification's.
-/
import Derived.Test.YtljbhbpddokelaaDoorW3
namespace Go.Proofs.YtljbhbpddokelaaDoor
open Go.RowKit
set_option linter.unusedVariables false
set_option linter.unusedSimpArgs false

/-- What Int answers: the number, and the error. -/
def inV (l : List UInt8) (msb : Bool) : Nat := if okB l = true ∧ l.length ≤ 62 then numV l msb else 0
def inE (l : List UInt8) : Nat := if okB l = true then (if l.length ≤ 62 then 0 else 6) else 4
theorem in_bad {l : List UInt8} (msb : Bool) (h : okB l = false) : inV l msb = 0 ∧ inE l = 4 := by
  unfold inV inE; rw [h]; simp
theorem in_long {l : List UInt8} (msb : Bool) (h : okB l = true) (h' : 62 < l.length) : inV l msb = 0 ∧ inE l = 6 := by
  unfold inV inE; rw [h, if_neg (by omega), if_pos rfl, if_neg (by omega)]; exact ⟨rfl, rfl⟩
theorem in_ok {l : List UInt8} (msb : Bool) (h : okB l = true) (h' : l.length ≤ 62) : inV l msb = numV l msb ∧ inE l = 0 := by
  unfold inV inE; rw [h, if_pos ⟨rfl, h'⟩, if_pos rfl, if_pos h']; exact ⟨rfl, rfl⟩
theorem inV_lt (l : List UInt8) (msb : Bool) : inV l msb < 2 ^ 62 := by
  unfold inV
  split
  · rename_i h
    exact Nat.lt_of_lt_of_le (numV_lt l msb fun b hb => okB_mem h.1 hb) (Nat.pow_le_pow_right (by omega) h.2)
  · decide
def inVal (l : List UInt8) (msb : Bool) : Value := .tuple #[.int .i64 (inV l msb : Nat), .int .i64 (inE l : Nat)]
theorem inVal_of {l : List UInt8} {msb : Bool} {a b : Nat} (h : inV l msb = a ∧ inE l = b) (x y : Int) (hx : x = a) (hy : y = b) : Ending.returned (.tuple #[.int .i64 x, .int .i64 y]) = .returned (inVal l msb) := by
  subst hx hy; unfold inVal; rw [h.1, h.2]

set_option maxHeartbeats 1000000 in
theorem int_any (s : ByteArray) (msb : Bool) (w : World) (hs : s.size ≤ 140737488351232) :
    Calls Tryd.prog 42 #[.string s, .bool msb] w fun e w' => e = .returned (inVal s.data.toList msb) ∧ Below w.heap.size w w' := by
  have hlen := size_len s
  have hs' : (s.size : Int) ≤ 140737488351232 := by omega
  have HV := Lib.hid (fun w => valid_any s w hs)
  rcases hok : okB s.data.toList with _ | _
  · rw [hok] at HV
    have HA := Lib.hid (in_bad msb hok)
    clear hok hlen
    go_enter Tryd.func42, Tryd.ntmps42
    go_wp2_with (go_at_call 44; go_must (refine (HV.out _).mono ?_; rintro e w1 ⟨rfl, rfl⟩))
    go_returns
    exact ⟨inVal_of HA.out _ _ rfl rfl, Below.refl _ _⟩
  · rw [hok] at HV
    by_cases hb : 62 < s.size
    · have HA := Lib.hid (in_long msb hok (by omega))
      clear hok hlen
      go_enter Tryd.func42, Tryd.ntmps42
      go_wp2_with (go_at_call 44; go_must (refine (HV.out _).mono ?_; rintro e w1 ⟨rfl, rfl⟩))
      go_returns
      exact ⟨inVal_of HA.out _ _ rfl rfl, Below.refl _ _⟩
    · have HA := Lib.hid (in_ok msb hok (by omega))
      have HN := Lib.hid (fun w => number_any s msb w (by omega) hok)
      clear hok hlen
      go_enter Tryd.func42, Tryd.ntmps42
      go_wp2_with (first
        | (go_at_call 44; go_must (refine (HV.out _).mono ?_; rintro e w1 ⟨rfl, rfl⟩))
        | (go_at_call 45; go_must (refine (HN.out _).mono ?_; rintro e w1 ⟨rfl, hb1⟩)))
      go_returns
      exact ⟨inVal_of HA.out _ _ rfl rfl, hb1⟩

/-- What FromBytes answers. -/
def fbT (l : List UInt8) (msb : Bool) : List UInt8 := if l.length ≤ 8192 then fb l msb else []
theorem fb_take (s : ByteArray) (msb : Bool) (k : Nat) (h : k < s.size) : fb (s.data.toList.take (k + 1)) msb = fb (s.data.toList.take k) msb ++ fi s[k].toNat 8 msb := by
  rw [take_snoc s k h, fb_snoc]

set_option maxRecDepth 20000 in
set_option maxHeartbeats 1000000 in
theorem fromBytes_any (s : ByteArray) (msb : Bool) (w : World) (hs : s.size ≤ 140737488351232) :
    Calls Tryd.prog 32 #[.string s, .bool msb] w fun e w' => e = .returned (.string ⟨(fbT s.data.toList msb).toArray⟩) ∧ Below w.heap.size w w' := by
  have hlen := size_len s
  have hs' : (s.size : Int) ≤ 140737488351232 := by omega
  by_cases h : 8192 < s.size
  · rw [show fbT s.data.toList msb = [] by unfold fbT; rw [if_neg (by omega)]]
    clear hlen
    go_enter Tryd.func32, Tryd.ntmps32
    go_wp2
    go_returns
    exact ⟨rfl, Below.refl _ _⟩
  · rw [show fbT s.data.toList msb = fb s.data.toList msb by unfold fbT; rw [if_pos (by omega)]]
    have HL := Lib.hid hlen
    clear hlen
    go_enter Tryd.func32, Tryd.ntmps32
    go_wp2_with (at_make; go_must (refine wpList_make_empty rfl _ _ rfl _ _ _ (8 * s.size) rfl rfl (by omega) (by omega) ?_; intro v0 w0 ho0 hb0; obtain ⟨A0, N0, c0, rfl, -⟩ := ho0.form))
    have HF0 := Lib.hid ho0
    clear ho0
    go_loopw [16, 5] (fun x v wr => ∃ k : Nat, k ≤ s.size ∧ x = .int .i64 k ∧ Hid (Row wr w.heap.size v (fb (s.data.toList.take k) msb)) ∧ Below w.heap.size w wr) (fun x _ _ => s.size - (intOf x).toNat)
    case atStart => exact ⟨0, by omega, rfl, by rw [List.take_zero, fb_nil]; exact HF0.out, hb0⟩
    case round =>
      obtain ⟨k, hk, rfl, HF, hb⟩ := hrel
      have hsz := hb.size
      obtain ⟨A', N', c', rfl, -⟩ := HF.out.form
      by_cases he : k = s.size
      · subst he
        have kc := HF.out.conv
        rw [List.take_of_length_le (by rw [← HL.out]; exact Nat.le_refl _)] at kc
        go_wp2
        go_returns
        exact ⟨rfl, hb⟩
      · have hlt : k < s.size := by omega
        have hc0 : s[k].toNat < 256 := UInt8.toNat_lt _
        have HC := Lib.hid (fun v (h : Row wr w.heap.size v (fb (s.data.toList.take k) msb)) => appendBits_any v _ s[k].toNat 8 msb wr w.heap.size h hsz (by omega) (by rw [fb_length, List.length_take_of_le (by rw [← HL.out]; omega)]; omega) (by omega) (by have := UInt8.toNat_lt s[k]; omega))
        go_wp2_with (go_at_call 38; go_must (refine (HC.out _ HF.out).mono ?_; rintro e w1 ⟨v1, rfl, ho1, hb1⟩; obtain ⟨A1, N1, c1, rfl, -⟩ := ho1.form))
        go_roundw
        case rel => exact ⟨k + 1, by omega, by go_num, by rw [fb_take s msb k hlt]; exact ho1, hb.trans hb1⟩
        case measure => simp [intOf]; omega

end Go.Proofs.YtljbhbpddokelaaDoor
