/-
  The walks of Bytes, the program's and the specification's.
-/
import Derived.Test.YtmogmmnldggdhaaW4
namespace Go.Proofs.Ytmogmmnldggdhaa
open Go.RowKit
set_option linter.unusedVariables false
set_option linter.unusedSimpArgs false

/-- What Bytes answers: the bytes, and the error. -/
def byT (l : List UInt8) (msb : Bool) : List UInt8 := if okB l = true ∧ l.length % 8 = 0 then by8 l msb else []
def byE (l : List UInt8) : Nat := if okB l = true then (if l.length % 8 = 0 then 0 else 1) else 4
theorem by_bad {l : List UInt8} (msb : Bool) (h : okB l = false) : byT l msb = [] ∧ byE l = 4 := by
  unfold byT byE; rw [h]; simp
theorem by_odd {l : List UInt8} (msb : Bool) (h : okB l = true) (h' : l.length % 8 ≠ 0) : byT l msb = [] ∧ byE l = 1 := by
  unfold byT byE; rw [h, if_neg (by omega), if_pos rfl, if_neg (by omega)]; exact ⟨rfl, rfl⟩
theorem by_ok {l : List UInt8} (msb : Bool) (h : okB l = true) (h' : l.length % 8 = 0) : byT l msb = by8 l msb ∧ byE l = 0 := by
  unfold byT byE; rw [h, if_pos ⟨rfl, h'⟩, if_pos rfl, if_pos h']; exact ⟨rfl, rfl⟩
def byVal (l : List UInt8) (msb : Bool) : Value := .tuple #[.string ⟨(byT l msb).toArray⟩, .int .i64 (byE l : Nat)]
theorem byVal_of {l : List UInt8} {msb : Bool} {a : List UInt8} {b : Nat} (h : byT l msb = a ∧ byE l = b) (x : ByteArray) (y : Int) (hx : x = ⟨a.toArray⟩) (hy : y = b) : Ending.returned (.tuple #[.string x, .int .i64 y]) = .returned (byVal l msb) := by
  subst hx hy; unfold byVal; rw [h.1, h.2]

/-- Eight characters out of a sequence of bits. -/
theorem eight (s : ByteArray) (k : Nat) (h : 8 * (k + 1) ≤ s.size) (hok : okB s.data.toList = true) (T : ByteArray) (hT : T = s.extract (8 * k) (8 * (k + 1))) :
    T.data.toList = (s.data.toList.drop (8 * k)).take 8 ∧ T.size = 8 ∧ okB T.data.toList = true := by
  have e : T.data.toList = (s.data.toList.drop (8 * k)).take 8 := by
    rw [hT, Lib.extract_data]
    congr 1
    omega
  have hz : T.size = 8 := by rw [hT, ByteArray.size_extract]; omega
  refine ⟨e, hz, okB_of (by rw [← size_len]; omega) fun b hb => ?_⟩
  rw [e] at hb
  exact okB_mem hok (List.mem_of_mem_drop (List.mem_of_mem_take hb))
theorem set_next (a : List UInt8) (b : UInt8) (k n : Nat) (ha : a.length = k) (hk : k < n) : (a ++ List.replicate (n - k) 0).set k b = a ++ [b] ++ List.replicate (n - (k + 1)) 0 := by
  have e : n - k = (n - (k + 1)) + 1 := by omega
  rw [e, List.replicate_succ, List.set_append_right _ _ (by omega), show k - a.length = 0 by omega, List.set_cons_zero, List.append_assoc]
  rfl

theorem byte_mod (x : Nat) : (x : Int) % 256 = ((UInt8.ofNat x).toNat : Int) := by simp

set_option maxRecDepth 20000 in
set_option maxHeartbeats 1000000 in
theorem bytes_any (s : ByteArray) (msb : Bool) (w : World) (hs : s.size ≤ 140737488351232) :
    Calls Try.prog 16 #[.string s, .bool msb] w fun e w' => e = .returned (byVal s.data.toList msb) ∧ Below w.heap.size w w' := by
  have hlen := size_len s
  have hs' : (s.size : Int) ≤ 140737488351232 := by omega
  have HV := Lib.hid (fun w => valid_any s w hs)
  rcases hok : okB s.data.toList with _ | _
  · rw [hok] at HV
    have HA := Lib.hid (by_bad msb hok)
    clear hok hlen
    go_enter Try.func16, Try.ntmps16
    go_wp2_with (go_at_call 14; go_must (refine (HV.out _).mono ?_; rintro e w1 ⟨rfl, rfl⟩))
    go_returns
    exact ⟨byVal_of HA.out _ _ rfl rfl, Below.refl _ _⟩
  · rw [hok] at HV
    by_cases hb : s.size % 8 ≠ 0
    · have HA := Lib.hid (by_odd msb hok (by omega))
      clear hok hlen
      go_enter Try.func16, Try.ntmps16
      go_wp2_with (go_at_call 14; go_must (refine (HV.out _).mono ?_; rintro e w1 ⟨rfl, rfl⟩))
      go_returns
      exact ⟨byVal_of HA.out _ _ rfl rfl, Below.refl _ _⟩
    · obtain ⟨n, hn⟩ : ∃ n, s.size = 8 * n := ⟨s.size / 8, by omega⟩
      have hn0 : n ≤ 8192 := by have := okB_len hok; omega
      have HA : Hid (byT s.data.toList msb = byk s.data.toList msb n ∧ byE s.data.toList = 0) := by
        have := by_ok msb hok (by omega)
        unfold by8 at this
        rw [← hlen, hn, Nat.mul_div_cancel_left _ (by omega)] at this
        exact this
      have HE : Hid (∀ k, k < n → ∀ T : ByteArray, T = s.extract (8 * k) (8 * (k + 1)) → ∀ w, Calls Try.prog 28 #[.string T, .bool msb] w fun e w' => e = .returned (.int .i64 (numV ((s.data.toList.drop (8 * k)).take 8) msb : Nat)) ∧ Below w.heap.size w w') := fun k hk T hT w => by
        obtain ⟨e1, e2, e3⟩ := eight s k (by omega) hok T hT
        have := number_any T msb w (by omega) e3
        rwa [e1] at this
      have HB : Hid (∀ k, numV ((s.data.toList.drop (8 * k)).take 8) msb < 256) := fun k => by
        have := numV_lt ((s.data.toList.drop (8 * k)).take 8) msb fun b hb => okB_mem hok (List.mem_of_mem_drop (List.mem_of_mem_take hb))
        refine Nat.lt_of_lt_of_le this ?_
        have : 2 ^ ((s.data.toList.drop (8 * k)).take 8).length ≤ 2 ^ 8 := Nat.pow_le_pow_right (by omega) (by simp; omega)
        exact this
      have hn1 : (s.size : Int) = 8 * n := by omega
      have hn2 : (n : Int) ≤ 8192 := by omega
      clear hok hlen hb hs hs'
      go_enter Try.func16, Try.ntmps16
      go_wp2_with (first
        | (go_at_call 14; go_must (refine (HV.out _).mono ?_; rintro e w1 ⟨rfl, rfl⟩))
        | (at_make; go_must (refine wpList_make_zeros rfl _ _ rfl _ _ _ _ n rfl rfl (by omega) (by omega) (by omega) ?_; intro w0 ho0 hb0)))
      have HF0 := Lib.hid ho0
      clear ho0
      go_loopw [21] (fun x wr => ∃ k : Nat, k ≤ n ∧ x = .int .i64 k ∧ Hid (Row wr w.heap.size (.slice (some ⟨w.heap.size, 0, none⟩) n n) (byk s.data.toList msb k ++ List.replicate (n - k) 0)) ∧ Below w.heap.size w wr) (fun x _ => n - (intOf x).toNat)
      case atStart => exact ⟨0, by omega, rfl, by rw [byk_zero, List.nil_append, Nat.sub_zero]; exact HF0.out, hb0⟩
      case round =>
        obtain ⟨k, hk, rfl, HF, hb⟩ := hrel
        have hsz := hb.size
        by_cases he : k = n
        · subst he
          have kc := HF.out.conv
          rw [Nat.sub_self, List.replicate_zero, List.append_nil] at kc
          go_wp2
          go_returns
          exact ⟨byVal_of HA.out _ _ rfl rfl, hb⟩
        · have hlt : k < n := by omega
          have hk1 : (8 : Int) * (k + 1) ≤ s.size := by omega
          have HN := HE.out k hlt
          have hlk : (byk s.data.toList msb k ++ List.replicate (n - k) 0).length = n := by rw [List.length_append, byk_length, List.length_replicate]; omega
          have HLK := Lib.hid hlk
          clear hlk
          go_wp2_with (go_at_call 28; go_must (refine (HN _ rfl _).mono ?_; rintro e w1 ⟨rfl, hb1⟩; have HF1 := Lib.hid (HF.out.keep hb1); have hc1 := HF1.out.cell HLK.out.symm k (by rw [HLK.out]; exact hlt); have hf1 := HF1.out.frozen HLK.out.symm k))
          go_roundw
          case rel =>
            refine ⟨k + 1, by omega, by go_num, ?_, (hb.trans (hb1.mono hsz)).setCell (Nat.le_refl _) _⟩
            have := HF1.out.set k (UInt8.ofNat (numV ((s.data.toList.drop (8 * k)).take 8) msb)) _ (byte_mod _) HLK.out.symm
            rw [set_next _ _ k n (byk_length _ _ _) hlt, ← byk_succ] at this
            exact this
          case measure => simp [intOf]; omega

set_option maxRecDepth 20000 in
set_option maxHeartbeats 1000000 in
theorem rbytes_any (s : ByteArray) (msb : Bool) (w : World) (hs : s.size ≤ 140737488351232) :
    Calls Try.prog 17 #[.string s, .bool msb] w fun e w' => e = .returned (byVal s.data.toList msb) ∧ Below w.heap.size w w' := by
  have hlen := size_len s
  have hs' : (s.size : Int) ≤ 140737488351232 := by omega
  have HV := Lib.hid (fun w => rvalid_any s w hs)
  rcases hok : okB s.data.toList with _ | _
  · rw [hok] at HV
    have HA := Lib.hid (by_bad msb hok)
    clear hok hlen
    go_enter Try.func17, Try.ntmps17
    go_wp2_with (go_at_call 15; go_must (refine (HV.out _).mono ?_; rintro e w1 ⟨rfl, rfl⟩))
    go_returns
    exact ⟨byVal_of HA.out _ _ rfl rfl, Below.refl _ _⟩
  · rw [hok] at HV
    by_cases hb : s.size % 8 ≠ 0
    · have HA := Lib.hid (by_odd msb hok (by omega))
      clear hok hlen
      go_enter Try.func17, Try.ntmps17
      go_wp2_with (go_at_call 15; go_must (refine (HV.out _).mono ?_; rintro e w1 ⟨rfl, rfl⟩))
      go_returns
      exact ⟨byVal_of HA.out _ _ rfl rfl, Below.refl _ _⟩
    · obtain ⟨n, hn⟩ : ∃ n, s.size = 8 * n := ⟨s.size / 8, by omega⟩
      have hn0 : n ≤ 8192 := by have := okB_len hok; omega
      have HA : Hid (byT s.data.toList msb = byk s.data.toList msb n ∧ byE s.data.toList = 0) := by
        have := by_ok msb hok (by omega)
        unfold by8 at this
        rw [← hlen, hn, Nat.mul_div_cancel_left _ (by omega)] at this
        exact this
      have HE : Hid (∀ k, k < n → ∀ T : ByteArray, T = s.extract (8 * k) (8 * k + 8) → ∀ w, Calls Try.prog 11 #[.string T, .bool msb] w fun e w' => e = .returned (.tuple #[.int .i64 (numV ((s.data.toList.drop (8 * k)).take 8) msb : Nat), .int .i64 (0 : Nat)]) ∧ Below w.heap.size w w') := fun k hk T hT w => by
        obtain ⟨e1, e2, e3⟩ := eight s k (by omega) hok T (by rw [hT]; rfl)
        have := rint_any T msb w (by omega)
        unfold inVal at this
        rw [(in_ok msb e3 (by rw [← size_len]; omega)).1, (in_ok msb e3 (by rw [← size_len]; omega)).2, e1] at this
        exact this
      have hn1 : (s.size : Int) = 8 * n := by omega
      have hn2 : (n : Int) ≤ 8192 := by omega
      clear hok hlen hb hs hs'
      go_enter Try.func17, Try.ntmps17
      go_wp2_with (go_at_call 15; go_must (refine (HV.out _).mono ?_; rintro e w1 ⟨rfl, rfl⟩))
      go_loopw [7, 6] (fun x v wr => ∃ k : Nat, k ≤ n ∧ x = .int .i64 (8 * (k : Int)) ∧ Hid (Row wr w.heap.size v (byk s.data.toList msb k)) ∧ Below w.heap.size w wr) (fun x _ _ => 8 * n - (intOf x).toNat)
      case atStart => exact ⟨0, by omega, rfl, by rw [byk_zero]; exact Row.empty w _ (Nat.le_refl _), ba w _⟩
      case round =>
        obtain ⟨k, hk, rfl, HF, hb⟩ := hrel
        have hsz := hb.size
        obtain ⟨A', N', c', rfl, -⟩ := HF.out.form
        by_cases he : k = n
        · subst he
          have kc := HF.out.conv
          go_wp2
          go_returns
          exact ⟨byVal_of HA.out _ _ rfl rfl, hb⟩
        · have hlt : k < n := by omega
          have hk1 : (8 : Int) * k + 8 ≤ s.size := by omega
          have HN := HE.out k hlt
          have HY : Hid ((byk s.data.toList msb k).length + 1 ≤ 140737488355328) := by rw [byk_length]; show _ ≤ _; omega
          go_wp2_with (first
            | (go_at_call 11; go_must (refine (HN _ rfl _).mono ?_; rintro e w1 ⟨rfl, hb1⟩))
            | (at_builtin; go_must (refine wpList_append_new rfl (.tmp 34) (.tmp 37) rfl rfl rfl (HF.out.keep hb1) (Nat.le_trans hsz hb1.size) (UInt8.ofNat (numV ((s.data.toList.drop (8 * k)).take 8) msb)) (byte_mod _) HY.out ?_; intro v2 w2 ho2 hb2)))
          go_roundw
          case rel => exact ⟨k + 1, by omega, val_int (by omega), by rw [byk_succ]; exact ho2, (hb.trans (hb1.mono hsz)).trans hb2⟩
          case measure => simp [intOf]; omega

end Go.Proofs.Ytmogmmnldggdhaa
