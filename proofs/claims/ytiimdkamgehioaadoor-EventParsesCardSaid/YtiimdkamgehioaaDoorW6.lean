/-
  The walks of Name, mark, hexByte, represented, tokenLength.
-/
import Derived.Test.YtiimdkamgehioaaDoorW5
import Derived.BigQuiet
namespace Go.Proofs.YtiimdkamgehioaaDoor
open Go.RowKit
set_option linter.unusedVariables false
set_option linter.unusedSimpArgs false

/-! Name. -/
theorem nm_empty {s : ByteArray} (h : s.size = 0) : nm s.data.toList = false := by rw [empty_toList h]; rfl
theorem nm_long {s : ByteArray} (h : 16 < s.size) : nm s.data.toList = false := by
  have hl := size_len s
  rw [cons_of (by omega)]
  simp only [nm]
  rw [← cons_of (by omega), ← hl, decide_eq_false (by omega)]; rfl
theorem nm_head {s : ByteArray} (h : 0 < s.size) (h1 : isLt s[0].toNat = false) : nm s.data.toList = false := by
  rw [cons_of h]
  exact nm_letter _ _ h1
theorem nm_word {s : ByteArray} (h : 0 < s.size) (h2 : s.size ≤ 16) (h1 : isLt s[0].toNat = true) : nm s.data.toList = decide (wl s.data.toList = s.size) := by
  have hl := size_len s
  rw [cons_of h]
  simp only [nm]
  rw [← cons_of h, ← hl, decide_eq_true h2, h1]
  simp

/-! mark. -/
def ml : List UInt8 := [40, 41, 91, 93, 123, 125, 60, 62, 61, 44, 59, 58, 46, 47, 42, 43, 33, 38, 124]
theorem ib_contains (l : List UInt8) (c : UInt8) : decide (0 ≤ Lib.indexByte l c) = l.contains c := by
  induction l with
  | nil => rfl
  | cons b l ih =>
    have hg := Lib.indexByte_ge l c
    unfold Lib.indexByte
    rw [List.contains_cons, ← ih]
    by_cases hb : b = c
    · subst hb; simp
    · have h1 : (b == c) = false := by simpa using hb
      have h2 : (c == b) = false := by simpa using fun e => hb e.symm
      rw [h1, h2]
      simp only [Bool.false_eq_true, if_false, Bool.false_or]
      by_cases h3 : Lib.indexByte l c = -1
      · rw [h3]; decide
      · have h4 : (Lib.indexByte l c == -1) = false := by simpa using h3
        rw [h4]
        simp only [Bool.false_eq_true, if_false]
        congr 1
        apply propext
        constructor <;> intro h <;> omega
set_option maxRecDepth 20000 in
theorem mkC_tab : ∀ n : Fin 256, ml.contains (UInt8.ofNat n.val) = mkC n.val := by decide
theorem mkC_of (c : UInt8) : ml.contains c = mkC c.toNat := by
  have := mkC_tab ⟨c.toNat, c.toNat_lt⟩
  simpa using this
theorem mk_one (c : UInt8) : mk [c] = mkC c.toNat := rfl
theorem mk_not {s : ByteArray} (h : s.size ≠ 1) : mk s.data.toList = false := by
  have hl := size_len s
  match hh : s.data.toList with
  | [] => rfl
  | [c] => rw [hh] at hl; simp at hl; omega
  | _ :: _ :: _ => rfl
theorem one_of {s : ByteArray} (h : s.size = 1) : ∃ c, s = ⟨#[c]⟩ := by
  obtain ⟨⟨l⟩⟩ := s
  match l, h with
  | [c], _ => exact ⟨c, rfl⟩

/-! hexByte and represented. -/
def pair (p : UInt8 × Nat) : Value := .tuple #[.int .u8 (p.1.toNat : Int), .int .i64 (p.2 : Int)]
theorem pair_of {p : UInt8 × Nat} {x y : Int} (hx : x = (p.1.toNat : Int)) (hy : y = (p.2 : Int)) : Ending.returned (.tuple #[.int .u8 x, .int .i64 y]) = .returned (pair p) := by rw [hx, hy]; rfl
theorem hb_short {s : ByteArray} (h : s.size < 4) : hb s.data.toList = (0, 0) := by
  have hl := size_len s
  match hh : s.data.toList with
  | [] => rfl
  | [_] => rfl
  | [_, _] => rfl
  | [_, _, _] => rfl
  | _ :: _ :: _ :: _ :: _ => rw [hh] at hl; simp at hl; omega
theorem four_of {s : ByteArray} (h : 4 ≤ s.size) : s.data.toList = s[0] :: s[1] :: s[2] :: s[3] :: s.data.toList.drop 4 := by
  rw [cons_of (by omega)]
  rw [drop_at s 1 (by omega), drop_at s 2 (by omega), drop_at s 3 (by omega)]
  rfl
theorem hb_bad {s : ByteArray} (h : 4 ≤ s.size) (h1 : hx s[2].toNat < 0 ∨ hx s[3].toNat < 0) : hb s.data.toList = (0, 0) := by
  rw [four_of h]; simp only [hb]; rw [if_pos h1]
theorem hb_good {s : ByteArray} (h : 4 ≤ s.size) (h1 : ¬ (hx s[2].toNat < 0 ∨ hx s[3].toNat < 0)) : hb s.data.toList = (UInt8.ofNat (hx s[2].toNat * 16 + hx s[3].toNat : Int).toNat, 4) := by
  rw [four_of h]; simp only [hb]; rw [if_neg h1]; rfl

set_option maxRecDepth 20000 in
set_option maxHeartbeats 1000000 in
theorem hexByte_any (s : ByteArray) (w : World) (hs : s.size ≤ 140737488351232) :
    Calls Tryd.prog 99 #[.string s] w fun e w' => e = .returned (pair (hb s.data.toList)) ∧ Below w.heap.size w w' := by
  by_cases h4 : s.size < 4
  · rw [hb_short h4]
    have h4' : (s.size : Int) < 4 := by omega
    clear h4
    go_enter Tryd.func99, Tryd.ntmps99
    go_wp2
    go_returns
    exact ⟨rfl, Below.refl _ _⟩
  have h4' : (4 : Int) ≤ s.size := by omega
  have g2 : 2 < s.size := by omega
  have g3 : 3 < s.size := by omega
  have C1 := fun (w : World) (C : Int) (h : C = (s[2].toNat : Int)) => digitValue_any s[2].toNat C w h (by have := s[2].toNat_lt; omega)
  have C2 := fun (w : World) (C : Int) (h : C = (s[3].toNat : Int)) => digitValue_any s[3].toNat C w h (by have := s[3].toNat_lt; omega)
  have A1 := Lib.hid (hb_bad (s := s) (by omega)); have A2 := Lib.hid (hb_good (s := s) (by omega))
  obtain ⟨u1, u2⟩ := hx_lt s[2].toNat
  obtain ⟨v1, v2⟩ := hx_lt s[3].toNat
  have k2 : s[2].toNat < 256 := s[2].toNat_lt
  have k3 : s[3].toNat < 256 := s[3].toNat_lt
  generalize hx s[2].toNat = U at *
  generalize hx s[3].toNat = V at *
  generalize hb s.data.toList = P at *
  have i2 : (0 : Int) ≤ 2 ∧ (2 : Int) < s.size := by omega
  have i3 : (0 : Int) ≤ 3 ∧ (3 : Int) < s.size := by omega
  have j2 : (2 : Int) < s.size := by omega
  have j3 : (3 : Int) < s.size := by omega
  have H1 := Lib.hid C1; have H2 := Lib.hid C2
  clear C1 C2 h4
  by_cases hU : U < 0
  · have AA := Lib.hid (A1.out (Or.inl hU))
    clear A1 A2
    go_enter Tryd.func99, Tryd.ntmps99
    go_wp2
    go_quiet ((go_at_call 116; go_must (first | (with_reducible exact Calls.quiet_of_same ((H1.out _ _ rfl).mono fun _ _ h => ⟨h.1, h.2.symm⟩)) | (with_reducible exact Calls.quiet_of_same ((H2.out _ _ rfl).mono fun _ _ h => ⟨h.1, h.2.symm⟩)))))
    go_wp2
    go_returns
    exact ⟨ret_of (by rw [AA.out]; rfl), Go.below_drewN (Below.refl _ _) _⟩
  by_cases hV : V < 0
  · have AA := Lib.hid (A1.out (Or.inr hV))
    clear A1 A2
    go_enter Tryd.func99, Tryd.ntmps99
    go_wp2
    go_quiet ((go_at_call 116; go_must (first | (with_reducible exact Calls.quiet_of_same ((H1.out _ _ rfl).mono fun _ _ h => ⟨h.1, h.2.symm⟩)) | (with_reducible exact Calls.quiet_of_same ((H2.out _ _ rfl).mono fun _ _ h => ⟨h.1, h.2.symm⟩)))))
    go_wp2
    go_returns
    exact ⟨ret_of (by rw [AA.out]; rfl), Go.below_drewN (Below.refl _ _) _⟩
  · have AA := Lib.hid (A2.out (by omega))
    clear A1 A2
    have q1 : 0 ≤ U := by omega
    have q2 : 0 ≤ V := by omega
    go_enter Tryd.func99, Tryd.ntmps99
    go_wp2
    go_quiet ((go_at_call 116; go_must (first | (with_reducible exact Calls.quiet_of_same ((H1.out _ _ rfl).mono fun _ _ h => ⟨h.1, h.2.symm⟩)) | (with_reducible exact Calls.quiet_of_same ((H2.out _ _ rfl).mono fun _ _ h => ⟨h.1, h.2.symm⟩)))))
    go_wp2
    go_returns
    exact ⟨pair_of (by rw [AA.out]; simp only [UInt8.toNat_ofNat', Nat.reducePow]; first | omega | (simp [IntKind.wrap]; omega)) (by rw [AA.out]; rfl), Go.below_drewN (Below.refl _ _) _⟩

/-! represented. -/
theorem rp_one {s : ByteArray} (h : 0 < s.size) (h1 : s[0].toNat ≠ 92) : rp s.data.toList = if s[0].toNat = 34 ∨ isPr s[0].toNat = false then ((0, 0) : UInt8 × Nat) else (s[0], 1) := by
  rw [cons_of h]; simp only [rp]; rw [if_pos h1]
theorem rp_lone {s : ByteArray} (h : s.size = 1) (h1 : s[0].toNat = 92) : rp s.data.toList = (0, 0) := by
  have e : s.data.toList.drop 1 = [] := drop_end s 1 (by omega)
  rw [cons_of (by omega), e]; simp only [rp]; rw [if_neg (by omega)]
theorem rp_two {s : ByteArray} (h : 1 < s.size) (h1 : s[0].toNat = 92) : rp s.data.toList = if s[1].toNat = 34 ∨ s[1].toNat = 92 then ((s[1], 2) : UInt8 × Nat) else if s[1].toNat = 110 then (10, 2) else if s[1].toNat = 120 then hb s.data.toList else (0, 0) := by
  rw [cons_of (by omega), drop_at s 1 h]
  simp only [rp]; rw [if_neg (by omega)]

set_option maxRecDepth 20000 in
set_option maxHeartbeats 1000000 in
theorem represented_any (s : ByteArray) (w : World) (hs : s.size ≤ 140737488351232) (h0 : 0 < s.size) :
    Calls Tryd.prog 75 #[.string s] w fun e w' => e = .returned (pair (rp s.data.toList)) ∧ Below w.heap.size w w' := by
  have k0 : s[0].toNat < 256 := s[0].toNat_lt
  have l0 : (0 : Int) < s.size := by omega
  by_cases h1 : s[0].toNat = 92
  · have e1 : ((s[0].toNat : Int) == 92) = true := by rw [h1]; rfl
    have e1' : ((s[0].toNat : Int) != 92) = false := by rw [h1]; rfl
    by_cases h2 : s.size = 1
    · rw [rp_lone h2 h1]
      have e2 : ((s.size : Int) == 1) = true := by rw [h2]; rfl
      go_enter Tryd.func75, Tryd.ntmps75
      go_wp2
      go_returns
      exact ⟨rfl, Below.refl _ _⟩
    have e2 : ((s.size : Int) == 1) = false := by rw [Bool.eq_false_iff]; simp; omega
    have h3 : 1 < s.size := by omega
    have l1 : (1 : Int) < s.size := by omega
    have k1 : s[1].toNat < 256 := s[1].toNat_lt
    rw [rp_two h3 h1]
    clear h1 h2
    have C1 := fun w => hexByte_any s w hs
    generalize hb s.data.toList = P at *
    have H1 := Lib.hid C1
    clear C1
    by_cases a1 : s[1].toNat = 34
    · rw [if_pos (Or.inl a1)]
      have f1 : ((s[1].toNat : Int) == 34) = true := by rw [a1]; rfl
      clear a1
      go_enter Tryd.func75, Tryd.ntmps75
      go_wp2
      go_returns
      exact ⟨pair_of rfl rfl, Below.refl _ _⟩
    have f1 : ((s[1].toNat : Int) == 34) = false := by rw [Bool.eq_false_iff]; simp; omega
    by_cases a2 : s[1].toNat = 92
    · rw [if_pos (Or.inr a2)]
      have f2 : ((s[1].toNat : Int) == 92) = true := by rw [a2]; rfl
      clear a1 a2
      go_enter Tryd.func75, Tryd.ntmps75
      go_wp2
      go_returns
      exact ⟨pair_of rfl rfl, Below.refl _ _⟩
    have f2 : ((s[1].toNat : Int) == 92) = false := by rw [Bool.eq_false_iff]; simp; omega
    rw [if_neg (by omega)]
    by_cases a3 : s[1].toNat = 110
    · rw [if_pos a3]
      have f3 : ((s[1].toNat : Int) == 110) = true := by rw [a3]; rfl
      clear a1 a2 a3
      go_enter Tryd.func75, Tryd.ntmps75
      go_wp2
      go_returns
      exact ⟨pair_of rfl rfl, Below.refl _ _⟩
    have f3 : ((s[1].toNat : Int) == 110) = false := by rw [Bool.eq_false_iff]; simp; omega
    rw [if_neg a3]
    by_cases a4 : s[1].toNat = 120
    · rw [if_pos a4]
      have f4 : ((s[1].toNat : Int) == 120) = true := by rw [a4]; rfl
      clear a1 a2 a3 a4
      unfold pair at *
      go_enter Tryd.func75, Tryd.ntmps75
      go_wp2_with (first
        | (go_at_call 99; go_must (refine (H1.out _).mono ?_; rintro e w1 ⟨rfl, b1⟩)))
      go_returns
      exact ⟨rfl, b1⟩
    have f4 : ((s[1].toNat : Int) == 120) = false := by rw [Bool.eq_false_iff]; simp; omega
    rw [if_neg a4]
    clear a1 a2 a3 a4
    go_enter Tryd.func75, Tryd.ntmps75
    go_wp2
    go_returns
    exact ⟨rfl, Below.refl _ _⟩
  · have e1 : ((s[0].toNat : Int) == 92) = false := by rw [Bool.eq_false_iff]; simp; omega
    have e1' : ((s[0].toNat : Int) != 92) = true := by rw [bne_iff_ne]; omega
    rw [rp_one h0 h1]
    have C1 := fun (w : World) (C : Int) (h : C = (s[0].toNat : Int)) => printable_any s[0].toNat C w h
    by_cases a1 : s[0].toNat = 34
    · rw [if_pos (Or.inl a1)]
      have f1 : ((s[0].toNat : Int) == 34) = true := by rw [a1]; rfl
      clear a1 h1
      go_enter Tryd.func75, Tryd.ntmps75
      go_wp2
      go_returns
      exact ⟨rfl, Below.refl _ _⟩
    have f1 : ((s[0].toNat : Int) == 34) = false := by rw [Bool.eq_false_iff]; simp; omega
    rcases hP : isPr s[0].toNat with _ | _
    · rw [if_pos (Or.inr rfl)]
      rw [hP] at C1
      have H1 := Lib.hid C1
      clear C1 a1 h1 hP
      go_enter Tryd.func75, Tryd.ntmps75
      go_wp2_with (first
        | (go_at_call 55; go_must (refine (H1.out _ _ rfl).mono ?_; rintro e w1 ⟨rfl, rfl⟩)))
      go_returns
      exact ⟨rfl, Below.refl _ _⟩
    · rw [if_neg (by rintro (h | h); exact a1 h; cases h)]
      rw [hP] at C1
      have H1 := Lib.hid C1
      clear C1 a1 h1 hP
      go_enter Tryd.func75, Tryd.ntmps75
      go_wp2_with (first
        | (go_at_call 55; go_must (refine (H1.out _ _ rfl).mono ?_; rintro e w1 ⟨rfl, rfl⟩)))
      go_returns
      exact ⟨pair_of rfl rfl, Below.refl _ _⟩

end Go.Proofs.YtiimdkamgehioaaDoor
