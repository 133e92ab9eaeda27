/-
  The numbers of a line: as package lex reads them, and as the chapter says.
-/
import Derived.Test.YtiimdkamgehioaaDoorE2
import Derived.Test.YtiimdkamgehioaaDoorM1
namespace Go.Proofs.YtiimdkamgehioaaDoor
open Go
set_option linter.unusedVariables false
set_option linter.unusedSimpArgs false

theorem hx_i7 (c : UInt8) : (hx c.toNat < 0 ∨ 10 ≤ hx c.toNat) ↔ i7 c = false := by
  unfold hx i7
  rw [decide_eq_false_iff_not]
  by_cases h : 48 ≤ c.toNat ∧ c.toNat ≤ 57
  · rw [if_pos h]; omega
  · rw [if_neg h]
    by_cases h2 : 97 ≤ c.toNat ∧ c.toNat ≤ 102
    · rw [if_pos h2]; omega
    · rw [if_neg h2]; omega
theorem hx_val (c : UInt8) (h : i7 c = true) : hx c.toNat = ((c.toNat - 48 : Nat) : Int) := by
  unfold i7 at h
  have h := of_decide_eq_true h
  unfold hx
  rw [if_pos h]
  omega
theorem mgF_dec : ∀ (l : List UInt8) (n : Nat), mgF 10 l (n : Int) = if l.all i7 = true then some ((l.foldl (fun n c => min (10 * n + (c.toNat - 48)) 9007199254740993) n : Nat) : Int) else none
  | [], n => rfl
  | c :: r, n => by
    rw [mgF]
    cases h : i7 c with
    | false => rw [if_pos ((hx_i7 c).2 h)]; simp [h]
    | true =>
      have h2 : ¬ (hx c.toNat < 0 ∨ 10 ≤ hx c.toNat) := fun e => by rw [(hx_i7 c).1 e] at h; cases h
      rw [if_neg h2, hx_val c h]
      have e : min ((n : Int) * 10 + ((c.toNat - 48 : Nat) : Int)) 9007199254740993 = ((min (10 * n + (c.toNat - 48)) 9007199254740993 : Nat) : Int) := by omega
      rw [e, mgF_dec r]
      simp [h]
theorem mg_dec (l : List UInt8) : mg l 10 = if dc7 l = true then some (nv7 l : Int) else none := by
  cases l with
  | nil => rfl
  | cons c r =>
    have e48 : (c.toNat = 48) ↔ c = 48 := ⟨fun h => UInt8.toNat_inj.1 h, fun h => by rw [h]; rfl⟩
    rw [mg]
    by_cases h : 0 < r.length ∧ c.toNat = 48
    · rw [if_pos h, if_neg]
      unfold dc7
      have := e48.1 h.2
      subst this
      simp [h.1]
    · rw [if_neg h, show (0 : Int) = ((0 : Nat) : Int) from rfl, mgF_dec]
      have : dc7 (c :: r) = (c :: r).all i7 := by
        unfold dc7
        have : (decide (1 < (c :: r).length) && (c :: r).head? == some 48) = false := by
          rw [Bool.and_eq_false_iff]
          by_cases hr : 0 < r.length
          · right
            have hc : c ≠ 48 := fun e => h ⟨hr, e48.2 e⟩
            simp [hc]
          · left; exact decide_eq_false (by rw [List.length_cons]; omega)
        rw [this]; simp
      rw [this]
      rfl
theorem hasP1 (l : List UInt8) : Lib.hasPrefix l [45] = (l.head? == some 45) := by
  cases l with
  | nil => rfl
  | cons c r => by_cases h : c = 45
                · subst h; rfl
                · have h' : ¬ (45 : UInt8) = c := fun e => h e.symm
                  simp only [Lib.hasPrefix, List.isPrefixOf, List.head?_cons, Option.some_beq_some, Bool.and_true]; rw [beq_false_of_ne h', beq_false_of_ne h]
/-- A word's number, as the program has it: one that is too great is the greatest int. -/
def pn (l : List UInt8) : Option Int := if l.contains 120 = true then none else if numE l = 2 then some 9223372036854775807 else if numE l = 0 then some (numV l) else none

theorem neg_iff (l : List UInt8) : neg l = true ↔ l.head? = some 45 := by unfold neg; rw [hasP1]; simp
theorem body_eq (l : List UInt8) : body l = if l.head? = some 45 then l.drop 1 else l := by
  unfold body Lib.trimPrefix
  rw [hasP1]
  by_cases h : l.head? = some 45 <;> simp [h]
theorem no120 {l : List UInt8} (h : l.contains 120 = false) : hex l = false := by
  have hb : (body l).contains 120 = false := by
    rw [body_eq]
    split
    · cases l with
      | nil => rfl
      | cons c r => simp at h ⊢; exact h.2
    · exact h
  unfold hex
  generalize body l = m at hb
  match m, hb with
  | [], _ => rfl
  | [c], _ => simp [Lib.hasPrefix, List.isPrefixOf]
  | c :: d :: r, hb =>
    simp at hb
    have : ¬ d = 120 := fun e => hb.2.1 e.symm
    have h' : ¬ (120 : UInt8) = d := fun e => this e.symm
    simp [Lib.hasPrefix, List.isPrefixOf, h']
theorem n7_120 {l : List UInt8} (h : l.contains 120 = true) : n7 l = none := by
  have hd : ∀ m : List UInt8, m.contains 120 = true → dc7 m = false := fun m hm => by
    cases h2 : dc7 m with
    | false => rfl
    | true =>
      have := dc7_digs h2
      rw [List.all_eq_true] at this
      have h3 := this 120 (by simpa using hm)
      cases h3
  unfold n7
  by_cases h45 : l.head? = some 45
  · rw [if_pos h45]
    have : (l.drop 1).contains 120 = true := by
      cases l with
      | nil => cases h
      | cons c r =>
        simp only [List.head?_cons, Option.some.injEq] at h45
        subst h45
        simpa using h
    rw [hd _ this]; simp
  · rw [if_neg h45, hd _ h]; simp
theorem numO_eq {l : List UInt8} (h : l.contains 120 = false) : numO l = if dc7 (body l) = true then some (nv7 (body l) : Int) else none := by
  unfold numO
  have hh := no120 h
  have hd : digs l = body l := by unfold digs Lib.trimPrefix; unfold hex at hh; rw [hh]; rfl
  rw [hd, hh]
  exact mg_dec _
/-- The two readings. -/
theorem pn_n7 (l : List UInt8) : (pn l = none ∧ n7 l = none) ∨ ∃ v m, pn l = some v ∧ n7 l = some m ∧ (v = m ∧ -9007199254740992 ≤ m ∧ m ≤ 9007199254740992 ∨ v = 9223372036854775807 ∧ (m = 9007199254740993 ∨ m = -9007199254740993)) := by
  unfold pn
  by_cases h : l.contains 120 = true
  · rw [if_pos h]; exact .inl ⟨rfl, n7_120 h⟩
  · have h : l.contains 120 = false := by simpa using h
    rw [if_neg (by simp only [h]; exact Bool.false_ne_true)]
    have hO := numO_eq h
    unfold numE numV
    rw [hO]
    unfold n7
    have hb := body_eq l
    have hle := nv7_le (body l)
    cases hd : dc7 (body l) with
    | false =>
      left
      refine ⟨by simp, ?_⟩
      by_cases h45 : l.head? = some 45
      · rw [if_pos h45] at hb ⊢; rw [← hb, hd]; simp
      · rw [if_neg h45] at hb ⊢; rw [← hb, hd]; simp
    | true =>
      have hz := nv7_zero0 hd
      simp only [if_true]
      by_cases h45 : l.head? = some 45
      · rw [if_pos h45] at hb ⊢
        rw [← hb, hd]
        have hn : neg l = true := (neg_iff l).2 h45
        rw [hn]
        by_cases h0 : nv7 (body l) = 0
        · left
          have := hz.1 h0
          rw [this]
          exact ⟨by decide, by simp⟩
        · right
          have h48 : body l ≠ [48] := fun e => h0 (hz.2 e)
          have h0' : ¬ ((nv7 (body l) : Nat) : Int) = 0 := by omega
          by_cases hg : (9007199254740992 : Int) < nv7 (body l)
          · exact ⟨9223372036854775807, -(nv7 (body l) : Int), by simp [h0', hg, h0], by simp [h48], .inr ⟨rfl, by omega⟩⟩
          · exact ⟨-(nv7 (body l) : Int), -(nv7 (body l) : Int), by simp [h0', hg, h0], by simp [h48], .inl ⟨rfl, by omega, by omega⟩⟩
      · rw [if_neg h45] at hb ⊢
        rw [hb] at hd hle hz ⊢
        rw [hd]
        have hn : neg l = false := by cases hx : neg l with
          | false => rfl
          | true => exact absurd ((neg_iff l).1 hx) h45
        rw [hn]
        right
        by_cases hg : (9007199254740992 : Int) < nv7 l
        · exact ⟨9223372036854775807, (nv7 l : Int), by simp [hg], by simp, .inr ⟨rfl, by omega⟩⟩
        · exact ⟨(nv7 l : Int), (nv7 l : Int), by simp [hg], by simp, .inl ⟨rfl, by omega, by omega⟩⟩

end Go.Proofs.YtiimdkamgehioaaDoor
