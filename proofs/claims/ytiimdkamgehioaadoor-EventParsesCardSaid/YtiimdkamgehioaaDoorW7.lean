/-
  The walks of tokenLength and Unquote.
-/
import Derived.Test.YtiimdkamgehioaaDoorW6
import Derived.Test.YtiimdkamgehioaaDoorBD
namespace Go.Proofs.YtiimdkamgehioaaDoor
open Go.RowKit
set_option linter.unusedVariables false
set_option linter.unusedSimpArgs false

theorem ext_list (s : ByteArray) (a b : Nat) : (s.extract a b).data.toList = (s.data.toList.drop a).take (b - a) := Lib.extract_data s a b
theorem ext_end (s : ByteArray) (a : Nat) : (s.extract a s.size).data.toList = s.data.toList.drop a := by
  rw [ext_list, List.take_of_length_le (by simp)]
theorem ext_size (s : ByteArray) (a b : Nat) : (s.extract a b).size ≤ s.size := by
  rw [size_len, size_len, ext_list]; simp; omega
theorem tl_of {s : ByteArray} (h : 0 < s.size) : tl s.data.toList = if s[0].toNat = 34 then ql false (s.data.toList.drop 1) + 1 else if isLt s[0].toNat = true ∨ isDg s[0].toNat = true ∨ s[0].toNat = 45 then wl (s.data.toList.drop 1) + 1 else 1 := by
  conv => lhs; rw [cons_of h]
  rfl

/-! Unquote. -/
def unV (l : List UInt8) : Value := match unq l with | none => .tuple #[.string ⟨#[]⟩, .int .i64 4] | some o => .tuple #[.string ⟨o.toArray⟩, .int .i64 0]
theorem unV_none {l : List UInt8} (h : unq l = none) : unV l = .tuple #[.string ⟨#[]⟩, .int .i64 4] := by unfold unV; rw [h]
theorem unV_some {l o : List UInt8} (h : unq l = some o) : unV l = .tuple #[.string ⟨o.toArray⟩, .int .i64 0] := by unfold unV; rw [h]
theorem unq_short {s : ByteArray} (h : s.size < 2) : unq s.data.toList = none := by
  unfold unq; rw [if_neg]; rintro ⟨a, _⟩; rw [← size_len] at a; omega
theorem unq_first {s : ByteArray} (h : 0 < s.size) (h1 : s[0].toNat ≠ 34) : unq s.data.toList = none := by
  unfold unq; rw [if_neg]; rintro ⟨_, a, _⟩
  rw [cons_of h, List.head?_cons, Option.some.injEq] at a
  exact h1 (by rw [a]; rfl)
theorem last_of {s : ByteArray} (h : 0 < s.size) : s.data.toList.getLast? = some s[s.size - 1] := by
  rw [List.getLast?_eq_getElem?, ← size_len, List.getElem?_eq_getElem (by simp; omega)]; rfl
theorem unq_last {s : ByteArray} (h : 0 < s.size) (h1 : s[s.size - 1].toNat ≠ 34) : unq s.data.toList = none := by
  unfold unq; rw [if_neg]; rintro ⟨_, _, a⟩
  rw [last_of h, Option.some.injEq] at a
  exact h1 (by rw [a]; rfl)
theorem unq_in {s : ByteArray} (h : 2 ≤ s.size) (h1 : s[0].toNat = 34) (h2 : s[s.size - 1].toNat = 34) : unq s.data.toList = ub (s.extract 1 (s.size - 1)).data.toList := by
  have e1 : s[0] = 34 := UInt8.toNat_inj.1 h1
  have e2 : s[s.size - 1] = 34 := UInt8.toNat_inj.1 h2
  unfold unq
  rw [if_pos ⟨by rw [← size_len]; exact h, by rw [cons_of (by omega), e1]; rfl, by rw [last_of (by omega), e2]⟩, ext_list, ← size_len]
  congr 2
theorem ub_end {G : Option (List UInt8)} {y : ByteArray} {acc : List UInt8} (h : y.size = 0) (hw : G = (ub y.data.toList).map (acc ++ ·)) : G = some acc := by
  rw [empty_toList h, ub_nil] at hw
  simpa using hw
theorem ub_none {G : Option (List UInt8)} {y : ByteArray} {acc : List UInt8} (h : 0 < y.size) (h0 : (rp y.data.toList).2 = 0) (hw : G = (ub y.data.toList).map (acc ++ ·)) : G = none := by
  rw [ub_bad (by intro e; rw [← List.length_eq_zero_iff, ← size_len] at e; omega) h0] at hw
  exact hw
theorem ub_go {G : Option (List UInt8)} {y : ByteArray} {acc : List UInt8} {c : UInt8} {n : Nat} (h0 : rp y.data.toList = (c, n)) (hn : n ≠ 0) (hw : G = (ub y.data.toList).map (acc ++ ·)) : G = (ub (y.extract n y.size).data.toList).map ((acc ++ [c]) ++ ·) := by
  rw [ub_step (by rw [h0]; exact hn), h0] at hw
  rw [hw, ext_end]
  cases ub (y.data.toList.drop n) with
  | none => rfl
  | some o => simp
theorem ext_len (y : ByteArray) (n : Nat) : (y.extract n y.size).size = y.size - n := by rw [size_len, ext_end, List.length_drop, ← size_len]
def strSz : Value → Nat
  | .string x => x.size
  | _ => 0

set_option maxRecDepth 20000 in
set_option maxHeartbeats 1000000 in
theorem unquote_any (s : ByteArray) (w : World) (hs : s.size ≤ 140737488351232) :
    Calls Tryd.prog 61 #[.string s] w fun e w' => e = .returned (unV s.data.toList) ∧ Below w.heap.size w w' := by
  by_cases h2 : s.size < 2
  · rw [unV_none (unq_short h2)]
    have h2' : (s.size : Int) < 2 := by omega
    clear h2
    go_enter Tryd.func61, Tryd.ntmps61
    go_wp2
    go_returns
    exact ⟨rfl, Below.refl _ _⟩
  have l2 : (2 : Int) ≤ s.size := by omega
  have l0 : 0 < s.size := by omega
  have ll : s.size - 1 < s.size := by omega
  by_cases h3 : s[0].toNat = 34
  · have e3 : ((s[0].toNat : Int) != 34) = false := by rw [h3]; rfl
    by_cases h4 : s[s.size - 1].toNat = 34
    · have e4 : ((s[s.size - 1].toNat : Int) != 34) = false := by rw [h4]; rfl
      have hU := unq_in (by omega) h3 h4
      have hxs := ext_size s 1 (s.size - 1)
      generalize hX : s.extract 1 (s.size - 1) = X at *
      have HN := Lib.hid (@unV_none s.data.toList); have HS := Lib.hid (fun o => @unV_some s.data.toList o)
      generalize unV s.data.toList = V at *
      rw [hU] at HN HS
      clear hU h3 h4 h2
      have hX' : s.extract 1 ((s.size : Int) - 1).toNat = X := by rw [show ((s.size : Int) - 1).toNat = s.size - 1 by omega]; exact hX
      go_enter Tryd.func61, Tryd.ntmps61
      go_wp2
      go_loopw [5] (fun x wr => ∃ (y : ByteArray) (acc : List UInt8), x = .string y ∧ Bld wr w.heap.size w.heap.size acc ∧ Below w.heap.size w wr ∧ acc.length + y.size ≤ X.size ∧ Hid (ub X.data.toList = (ub y.data.toList).map (acc ++ ·))) (fun x _ => strSz x)
      case atStart => exact ⟨X, [], rfl, Bld.new w, (Below.refl _ w).alloc (Nat.le_refl _) _, by simp, Lib.hid (by cases ub X.data.toList <;> rfl)⟩
      case round =>
        obtain ⟨y, acc, rfl, hb, hw, hsz, HU⟩ := hrel
        by_cases hy : y.size = 0
        · have he := toList_empty hy
          have HV := Lib.hid (HS.out _ (ub_end hy HU.out))
          clear hy
          go_wp2_with (first
            | (go_at_call 56; go_must (refine (str_any _ hb hw.size).mono ?_; rintro e w1 ⟨rfl, b1⟩)))
          go_returns
          exact ⟨ret_of HV.out.symm, hw.trans b1⟩
        have hp : 0 < y.size := by omega
        have he := toList_some hp
        have C1 := fun w => represented_any y w (by omega) hp
        have hle := rp_le y.data.toList
        rw [← size_len] at hle
        have HA := Lib.hid (fun h0 => HN.out (ub_none hp h0 HU.out))
        have HB := Lib.hid (fun c n h0 hn => @ub_go _ _ _ c n h0 hn HU.out)
        rcases hrp : rp y.data.toList with ⟨c, n⟩
        rw [hrp] at C1 HA hle
        simp only [pair] at C1 HA hle
        have H1 := Lib.hid C1
        clear C1
        have hel := ext_len y n
        generalize hY : y.extract n y.size = Y at *
        by_cases hn : n = 0
        · have HV := Lib.hid (HA.out hn)
          subst hn
          clear hrp
          go_wp2_with (first
            | (go_at_call 75; go_must (refine (H1.out _).mono ?_; rintro e w1 ⟨rfl, b1⟩)))
          go_returns
          exact ⟨ret_of HV.out.symm, hw.trans (b1.mono hw.size)⟩
        · have HV := Lib.hid (HB.out c n hrp hn)
          have hn' : ((n : Int) == 0) = false := by rw [Bool.eq_false_iff]; simp; omega
          rw [hY] at HV
          have hn1 : 1 ≤ n := by omega
          clear hrp HA HB hn
          go_wp2_with (first
            | (go_at_call 75; go_must (refine (H1.out _).mono ?_; rintro e w1 ⟨rfl, b1⟩; have hb1 := hb.keep b1; have hw1 := hw.trans (b1.mono hw.size)))
            | (go_at_call 53; go_must (refine (wb_any c _ _ hb1 rfl (by omega) hw1.size).mono ?_; rintro e w2 ⟨rfl, hb2, b2, _⟩)))
          go_roundw
          case rel => exact ⟨Y, acc ++ [c], rfl, hb2, hw1.trans b2, by simp; omega, HV⟩
          case measure => simp only [strSz]; omega
    · rw [unV_none (unq_last l0 h4)]
      have e4 : ((s[s.size - 1].toNat : Int) != 34) = true := by rw [bne_iff_ne]; omega
      clear h4 h3
      go_enter Tryd.func61, Tryd.ntmps61
      go_wp2
      go_returns
      exact ⟨rfl, Below.refl _ _⟩
  · rw [unV_none (unq_first l0 h3)]
    have e3 : ((s[0].toNat : Int) != 34) = true := by rw [bne_iff_ne]; omega
    clear h3
    go_enter Tryd.func61, Tryd.ntmps61
    go_wp2
    go_returns
    exact ⟨rfl, Below.refl _ _⟩

end Go.Proofs.YtiimdkamgehioaaDoor
