/-
  The walks of PutUint, PutInt and PutText, the program's and the specification's: the bytes of the slice, then the encoding, in memory of the call's own.
-/
import Derived.Test.YtnbdbeiakmmkaaaM1
import Derived.Test.YtnbdbeiakmmkaaaB1
import Derived.Deep.DeepMust
namespace Go.Proofs.Ytnbdbeiakmmkaaa
open Go.RowKit
set_option linter.unusedVariables false

/-- What a Put function answers: a slice of its own that holds the bytes l. -/
def Made (w : World) (l : List UInt8) (e : Ending) (w' : World) : Prop :=
  ∃ g n c, e = .returned (.slice (some ⟨g, 0, none⟩) n c) ∧ Own w' w.heap.size g n c l ∧ Below w.heap.size w w'

theorem made_of {w w' : World} {l r : List UInt8} {g n c : Nat} (h : l = r) (ho : Own w' w.heap.size g n c r) (hb : Below w.heap.size w w') : Made w l (.returned (.slice (some ⟨g, 0, none⟩) n c)) w' := by
  subst h
  exact ⟨g, n, c, rfl, ho, hb⟩

/-- '^n'. -/
theorem inv_at (i : Int) (h0 : -9223372036854775808 ≤ i) (h1 : i ≤ 9223372036854775807) : bits .xor .i64 (if IntKind.i64.signed = true then -1 else 9223372036854775807) i = -i - 1 := by
  show IntKind.i64.wrap ((BitVec.ofInt 64 (-1) ^^^ BitVec.ofInt 64 i).toNat : Int) = _
  have e : BitVec.ofInt 64 (-1) = BitVec.allOnes 64 := by decide
  rw [e, BitVec.allOnes_xor, BitVec.toNat_not, BitVec.toNat_ofInt, IntKind.wrap_i64]
  omega

theorem or_128 : ∀ x : Fin 256, bits .or .u8 (x.val : Int) 128 = ((x.val % 128 + 128 : Nat) : Int) := by decide +kernel
theorem or_more (m : Nat) : bits .or .u8 ((m : Int) % 256) 128 = ((UInt8.ofNat (m % 128 + 128)).toNat : Int) := by
  have h := or_128 ⟨m % 256, Nat.mod_lt _ (by omega)⟩
  rw [byte_more]
  rw [show (m : Int) % 256 = ((m % 256 : Nat) : Int) by omega]
  refine h.trans ?_
  show ((m % 256 % 128 + 128 : Nat) : Int) = _
  omega

set_option maxRecDepth 20000 in
set_option maxHeartbeats 1000000 in
theorem putu_any (A : Option Addr) (n c : Nat) (l : List UInt8) (k : Nat) (w : World) (hr : Rd w w.heap.size A l) (hn : n = l.length) (hc : n ≤ c) (hnil : A = none → c = 0) (hk : k < 18446744073709551616) (hl : n ≤ 140737488351232) :
    Calls Try.prog 12 #[.slice A n c, .int .u64 k] w (Made w (l ++ put k)) := by
  have hten := put_ten hk
  subst hn
  go_enter Try.func12, Try.ntmps12
  go_wp2
  go_loopw [1, 5] (fun x v wr => ∃ (m : Nat) (ls : List UInt8), m < 18446744073709551616 ∧ x = .int .u64 m ∧ Full wr w.heap.size v ls ∧ Hid (ls ++ put m = l ++ put k) ∧ Below w.heap.size w wr) (fun x _ _ => (intOf x).toNat)
  case atStart => exact ⟨k, l, hk, rfl, .inl ⟨A, rfl, fun e => List.eq_nil_of_length_eq_zero (by have := hnil e; omega), hr⟩, rfl, Below.refl _ _⟩
  case round =>
    obtain ⟨m, ls, hm, rfl, hf, HE, hb⟩ := hrel
    have hle : ls.length + 1 ≤ 140737488355328 := by
      have := congrArg List.length HE.out
      have := put_pos m
      simp only [List.length_append] at *
      omega
    have HL := Lib.hid hle
    have HM := Lib.hid hm
    obtain ⟨A', c', rfl⟩ := hf.form
    have HF := Lib.hid hf
    clear hle hl hten hr hnil hc hk hf hm
    have hsz := hb.size
    by_cases hlt : m < 128
    · have HY := Lib.hid (show (m : Int) = ((UInt8.ofNat m).toNat : Int) by rw [byte_last hlt])
      go_wp2_with (at_builtin; go_must (refine wpList_append_new rfl (.tmp 22) (.tmp 25) rfl rfl rfl HF.out hsz (UInt8.ofNat m) HY.out HL.out ?_; intro g1 c1 w1 ho1 hb1))
      go_returns
      have hq : l ++ put k = ls ++ [UInt8.ofNat m] := by rw [← HE.out, put_lt hlt]
      exact made_of hq ho1 (hb.trans hb1)
    · go_wp2_with (at_builtin; go_must (refine wpList_append_new rfl (.tmp 14) (.tmp 18) rfl rfl rfl HF.out hsz (UInt8.ofNat (m % 128 + 128)) (or_more m) HL.out ?_; intro g1 c1 w1 ho1 hb1))
      go_roundw
      case rel => exact ⟨m / 128, ls ++ [UInt8.ofNat (m % 128 + 128)], by have := HM.out; omega, val_int (by omega), ho1.full, (show ls ++ [UInt8.ofNat (m % 128 + 128)] ++ put (m / 128) = l ++ put k by rw [← HE.out, put_ge hlt, List.append_assoc]; rfl), hb.trans hb1⟩
      case measure => simp [intOf]; omega
set_option maxRecDepth 20000 in
set_option maxHeartbeats 1000000 in
theorem rputu_any (A : Option Addr) (n c : Nat) (l : List UInt8) (k : Nat) (w : World) (hr : Rd w w.heap.size A l) (hn : n = l.length) (hc : n ≤ c) (hnil : A = none → c = 0) (hk : k < 18446744073709551616) (hl : n ≤ 140737488351232) :
    Calls Try.prog 16 #[.slice A n c, .int .u64 k] w (Made w (l ++ put k)) := by
  have hten := put_ten hk
  subst hn
  have HR := Lib.hid hr
  have HN := Lib.hid hnil
  have HL := Lib.hid hl
  have HK := Lib.hid hk
  have HT := Lib.hid hten
  have hlen : l.length ≤ 140737488351232 := hl
  clear hr hnil hk hl hten
  go_enter Try.func16, Try.ntmps16
  go_wp2_with (first
    | (at_builtin; go_must (refine wpList_append_rd rfl (.tmp 10) (.tmp 11) rfl rfl A l.length c l rfl ho0 (HR.out.below hb0 (Nat.le_refl _)) rfl HN.out hb0.size (by omega) ?_; intro g1 c1 w1 ho1 hb1))
    | (refine wpList_make_bytes rfl _ _ rfl _ _ _ (l.length + 10) rfl rfl (by omega) (by omega) ?_; intro w0 ho0 hb0))
  have hbw : Below w.heap.size w w1 := hb0.trans hb1
  have ho2 : Own w1 w.heap.size g1 l.length c1 l := by
    have := ho1
    rw [Nat.zero_add, List.nil_append] at this
    exact this
  clear ho1 hb1 hb0 ho0 hlen
  go_loopw [1, 5] (fun x v wr => ∃ (m : Nat) (ls : List UInt8), m < 18446744073709551616 ∧ x = .int .u64 m ∧ Full wr w.heap.size v ls ∧ Hid (ls ++ put m = l ++ put k) ∧ Below w.heap.size w wr) (fun x _ _ => (intOf x).toNat)
  case atStart => exact ⟨k, l, HK.out, rfl, ho2.full, rfl, hbw⟩
  case round =>
    clear ho2 hbw
    obtain ⟨m, ls, hm, rfl, hf, HE, hb⟩ := hrel
    have hle : ls.length + 1 ≤ 140737488355328 := by
      have := congrArg List.length HE.out
      have := put_pos m
      have := HT.out
      have := HL.out
      simp only [List.length_append] at *
      omega
    have HLE := Lib.hid hle
    have HM := Lib.hid hm
    obtain ⟨A', c', rfl⟩ := hf.form
    have HF := Lib.hid hf
    clear hle hf
    have hsz := hb.size
    by_cases hlt : m < 128
    · have HY := Lib.hid (show (m : Int) = ((UInt8.ofNat m).toNat : Int) by rw [byte_last hlt])
      go_wp2_with (at_builtin; go_must (refine wpList_append_new rfl (.tmp 24) (.tmp 27) rfl rfl rfl HF.out hsz (UInt8.ofNat m) HY.out HLE.out ?_; intro g1 c1 w1 ho1 hb1))
      go_returns
      have hq : l ++ put k = ls ++ [UInt8.ofNat m] := by rw [← HE.out, put_lt hlt]
      exact made_of hq ho1 (hb.trans hb1)
    · have hm0 : 0 ≤ (m : Int) % 128 := by omega
      have hm1 : (m : Int) % 128 < 128 := by omega
      go_wp2_with (at_builtin; go_must (refine wpList_append_new rfl (.tmp 15) (.tmp 20) rfl rfl rfl HF.out hsz (UInt8.ofNat (m % 128 + 128)) ?hy HLE.out ?_; (case hy => (rw [byte_more]; omega)); intro g1 c1 w1 ho1 hb1))
      go_roundw
      case rel => exact ⟨m / 128, ls ++ [UInt8.ofNat (m % 128 + 128)], by have := HM.out; omega, val_int (by omega), ho1.full, (show ls ++ [UInt8.ofNat (m % 128 + 128)] ++ put (m / 128) = l ++ put k by rw [← HE.out, put_ge hlt, List.append_assoc]; rfl), hb.trans hb1⟩
      case measure => simp [intOf]; omega

set_option maxRecDepth 20000 in
set_option maxHeartbeats 1000000 in
theorem puti_any (A : Option Addr) (n c : Nat) (l : List UInt8) (i : Int) (w : World) (hr : Rd w w.heap.size A l) (hn : n = l.length) (hc : n ≤ c) (hnil : A = none → c = 0) (h0 : -9223372036854775808 ≤ i) (h1 : i ≤ 9223372036854775807) (hl : n ≤ 140737488351232) :
    Calls Try.prog 11 #[.slice A n c, .int .i64 i] w (Made w (l ++ put (zg i))) := by
  have C : ∀ K : Int, K = (zg i : Nat) → Calls Try.prog 12 #[.slice A n c, .int .u64 K] w (Made w (l ++ put (zg i))) := fun K h => by
    subst h
    exact putu_any A n c l (zg i) w hr hn hc hnil (zg_lt h0 h1) hl
  by_cases hi : 0 ≤ i
  · have e : ((zg i : Nat) : Int) = 2 * i := by unfold zg; rw [if_pos hi]; omega
    have HC := Lib.hid C
    have HE := Lib.hid e
    clear C hr hn hc hnil hl e
    go_enter Try.func11, Try.ntmps11
    go_wp2_with (go_at_call 12; go_must (refine (HC.out _ (by have := HE.out; omega)).mono ?_; rintro e w1 ⟨g, n1, c1, rfl, ho, hb⟩))
    go_returns
    exact made_of rfl ho hb
  · have e : ((zg i : Nat) : Int) = 2 * (-i - 1) + 1 := by unfold zg; rw [if_neg hi]; omega
    have HC := Lib.hid C
    have HE := Lib.hid e
    clear C hr hn hc hnil hl e
    go_enter Try.func11, Try.ntmps11
    go_wp2_with (go_at_call 12; go_must (refine (HC.out _ (by have := HE.out; rw [inv_at i h0 h1]; simp only [IntKind.wrap_u64]; omega)).mono ?_; rintro e w1 ⟨g, n1, c1, rfl, ho, hb⟩))
    go_returns
    exact made_of rfl ho hb

set_option maxHeartbeats 1000000 in
theorem zig_any (i : Int) (w : World) (h0 : -9223372036854775808 ≤ i) (h1 : i ≤ 9223372036854775807) :
    Calls Try.prog 25 #[.int .i64 i] w fun e w' => e = .returned (.int .u64 (zg i : Nat)) ∧ w = w' := by
  by_cases hi : 0 ≤ i
  · have e : ((zg i : Nat) : Int) = 2 * i := by unfold zg; rw [if_pos hi]; omega
    have HE := Lib.hid e
    clear e
    go_enter Try.func25, Try.ntmps25
    go_wp2
    go_returns
    exact ⟨ret_int (by have := HE.out; omega), rfl⟩
  · have e : ((zg i : Nat) : Int) = 2 * (-i - 1) + 1 := by unfold zg; rw [if_neg hi]; omega
    have HE := Lib.hid e
    clear e
    go_enter Try.func25, Try.ntmps25
    go_wp2
    go_returns
    exact ⟨ret_int (by have := HE.out; omega), rfl⟩

set_option maxHeartbeats 1000000 in
theorem rputi_any (A : Option Addr) (n c : Nat) (l : List UInt8) (i : Int) (w : World) (hr : Rd w w.heap.size A l) (hn : n = l.length) (hc : n ≤ c) (hnil : A = none → c = 0) (h0 : -9223372036854775808 ≤ i) (h1 : i ≤ 9223372036854775807) (hl : n ≤ 140737488351232) :
    Calls Try.prog 17 #[.slice A n c, .int .i64 i] w (Made w (l ++ put (zg i))) := by
  have HC := Lib.hid (rputu_any A n c l (zg i) w hr hn hc hnil (zg_lt h0 h1) hl)
  clear hr hn hc hnil hl
  go_enter Try.func17, Try.ntmps17
  go_wp2_with (first
    | (go_at_call 25; go_must (refine (zig_any i _ h0 h1).mono ?_; rintro e w1 ⟨rfl, rfl⟩))
    | (go_at_call 16; go_must (refine HC.out.mono ?_; rintro e w1 ⟨g, n1, c1, rfl, ho, hb⟩)))
  go_returns
  exact made_of rfl ho hb

set_option maxHeartbeats 1000000 in
theorem putt_any (A : Option Addr) (n c : Nat) (l : List UInt8) (s : ByteArray) (w : World) (hr : Rd w w.heap.size A l) (hn : n = l.length) (hc : n ≤ c) (hnil : A = none → c = 0) (hs : n + s.size ≤ 140737488351232) :
    Calls Try.prog 10 #[.slice A n c, .string s] w (Made w (l ++ put s.size ++ s.data.toList)) := by
  have HC := Lib.hid (putu_any A n c l s.size w hr hn hc hnil (by omega) (by omega))
  have HT := Lib.hid (put_ten (n := s.size) (by omega))
  have HP := Lib.hid (put_pos s.size)
  have HL := Lib.hid (show l.length + s.size ≤ 140737488351232 by omega)
  have hs0 : (s.size : Int) ≤ 9223372036854775807 := by omega
  clear hr hn hc hnil hs
  go_enter Try.func10, Try.ntmps10
  go_wp2_with (first
    | (go_at_call 12; go_must (refine HC.out.mono ?_; rintro e w1 ⟨g, n1, c1, rfl, ho, hb⟩))
    | (at_builtin; go_must (refine wpList_append_text rfl (.tmp 9) (.tmp 10) rfl rfl s rfl ho hb.size (by have := HP.out; have := ho.len; simp only [List.length_append] at this; omega) (by have := HL.out; have := HT.out; have := ho.len; simp only [List.length_append] at this; omega) ?_; intro g2 c2 w2 ho2 hb2)))
  go_returns
  exact made_of rfl ho2 (hb.trans hb2)

set_option maxHeartbeats 1000000 in
theorem rputt_any (A : Option Addr) (n c : Nat) (l : List UInt8) (s : ByteArray) (w : World) (hr : Rd w w.heap.size A l) (hn : n = l.length) (hc : n ≤ c) (hnil : A = none → c = 0) (hs : n + s.size ≤ 140737488351232) :
    Calls Try.prog 18 #[.slice A n c, .string s] w (Made w (l ++ put s.size ++ s.data.toList)) := by
  have HC := Lib.hid (rputu_any A n c l s.size w hr hn hc hnil (by omega) (by omega))
  have HT := Lib.hid (put_ten (n := s.size) (by omega))
  have HP := Lib.hid (put_pos s.size)
  have HL := Lib.hid (show l.length + s.size ≤ 140737488351232 by omega)
  have hs0 : (s.size : Int) ≤ 9223372036854775807 := by omega
  clear hr hn hc hnil hs
  go_enter Try.func18, Try.ntmps18
  go_wp2_with (first
    | (go_at_call 16; go_must (refine HC.out.mono ?_; rintro e w1 ⟨g, n1, c1, rfl, ho, hb⟩))
    | (at_builtin; go_must (refine wpList_append_text rfl (.tmp 11) (.tmp 12) rfl rfl s rfl ho hb.size (by have := HP.out; have := ho.len; simp only [List.length_append] at this; omega) (by have := HL.out; have := HT.out; have := ho.len; simp only [List.length_append] at this; omega) ?_; intro g2 c2 w2 ho2 hb2)))
  go_returns
  exact made_of rfl ho2 (hb.trans hb2)

end Go.Proofs.Ytnbdbeiakmmkaaa
