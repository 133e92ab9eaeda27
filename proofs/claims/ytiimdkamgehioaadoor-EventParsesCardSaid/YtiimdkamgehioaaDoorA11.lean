/-
  A line's words: as strings.SplitN gives them, and what the chapter's reading is of them.
-/
import Derived.Test.YtiimdkamgehioaaDoorA10
import Derived.Test.YtiimdkamgehioaaDoorA7
import Derived.Lib.IndexBytes
namespace Go.Proofs.YtiimdkamgehioaaDoor
open Go Go.RowKit
set_option linter.unusedVariables false
set_option linter.unusedSimpArgs false

def spl : Nat → List UInt8 → List (List UInt8)
  | 0, l => [l]
  | k + 1, l => match wd l with | none => [l] | some p => p.1 :: spl k p.2
theorem wd_index (l : List UInt8) : (Lib.indexByte l 32 = -1 ∧ wd l = none) ∨ ∃ i : Nat, Lib.indexByte l 32 = i ∧ i < l.length ∧ wd l = some (l.take i, l.drop (i + 1)) := by
  induction l with
  | nil => exact .inl ⟨rfl, rfl⟩
  | cons b l ih =>
    rw [Lib.indexByte, wd]
    by_cases h : b = 32
    · subst h
      exact .inr ⟨0, by simp, by simp, by simp⟩
    · rw [if_neg h, beq_eq_false_iff_ne.2 h]
      rcases ih with ⟨h1, h2⟩ | ⟨i, h1, h2, h3⟩
      · left
        rw [h1, h2]
        exact ⟨rfl, rfl⟩
      · right
        refine ⟨i + 1, ?_, by rw [List.length_cons]; omega, by rw [h3]; rfl⟩
        rw [h1]
        have : ((i : Int) == -1) = false := beq_eq_false_iff_ne.2 (by omega)
        rw [this]
        simp
theorem splitB_spl : ∀ (k : Nat) (s : ByteArray), (Lib.splitB ⟨#[32]⟩ 0 k s).map (·.data.toList) = spl k s.data.toList
  | 0, s => rfl
  | k + 1, s => by
    have hi : Lib.indexB s ⟨#[32]⟩ = Lib.indexByte s.data.toList 32 := by
      unfold Lib.indexB
      exact Lib.index_one _ _
    rw [Lib.splitB, spl, hi]
    rcases wd_index s.data.toList with ⟨h1, h2⟩ | ⟨i, h1, h2, h3⟩
    · rw [h1, h2]; rfl
    · rw [h1, h3]
      have : ((i : Int) == -1) = false := beq_eq_false_iff_ne.2 (by omega)
      rw [this]
      simp only [Bool.false_eq_true, if_false, Int.toNat_natCast, Nat.add_zero, List.map_cons]
      rw [splitB_spl k]
      congr 1
      · rw [ByteArray.data_extract, Array.toList_extract]; simp [List.extract]
      · rw [show (⟨#[32]⟩ : ByteArray).size = 1 from rfl, Lib.extract_to_end]
theorem wd_len {l x y : List UInt8} (h : wd l = some (x, y)) : x.length + y.length + 1 = l.length := by rw [wd_back h]; simp; omega
theorem spl_sat : ∀ (k m : Nat) (l : List UInt8), l.length ≤ k → k ≤ m → spl k l = spl m l
  | 0, 0, l, _, _ => rfl
  | 0, m + 1, l, h, _ => by
    obtain rfl : l = [] := List.eq_nil_of_length_eq_zero (by omega)
    rfl
  | k + 1, 0, l, _, h => by omega
  | k + 1, m + 1, l, h1, h2 => by
    rw [spl, spl]
    cases hw : wd l with
    | none => rfl
    | some p =>
      have := wd_len (x := p.1) (y := p.2) hw
      simp only
      rw [spl_sat k m p.2 (by omega) (by omega)]
theorem spl_min (l : List UInt8) : spl (min 7 (l.length + 1) - 1) l = spl 6 l := by
  by_cases h : l.length + 1 ≤ 7
  · exact spl_sat _ _ _ (by omega) (by omega)
  · rw [show min 7 (l.length + 1) - 1 = 6 by omega]
theorem spl_mem : ∀ (k : Nat) (l x : List UInt8), x ∈ spl k l → x.length ≤ l.length
  | 0, l, x, h => by simp only [spl, List.mem_singleton] at h; rw [h]; exact Nat.le_refl _
  | k + 1, l, x, h => by
    rw [spl] at h
    cases hw : wd l with
    | none => rw [hw] at h; simp only [List.mem_singleton] at h; rw [h]; exact Nat.le_refl _
    | some p =>
      rw [hw] at h
      have := wd_len (x := p.1) (y := p.2) hw
      rcases List.mem_cons.1 h with h | h
      · rw [h]; omega
      · have := spl_mem k p.2 x h; omega
theorem spl_le : ∀ (k : Nat) (l : List UInt8), 1 ≤ (spl k l).length ∧ (spl k l).length ≤ k + 1
  | 0, l => by simp [spl]
  | k + 1, l => by
    rw [spl]
    cases hw : wd l with
    | none => simp
    | some p => have := spl_le k p.2; simp; omega
/-- The event of seven words, its bounds not asked. -/
def p7w (x0 x1 x2 x3 x4 x5 x6 : List UInt8) : Option Ev :=
  match kd x0 with
  | none => none
  | some k => match n7 x1 with
    | none => none
    | some f => match n7 x2 with
      | none => none
      | some t => match n7 x3 with
        | none => none
        | some v => match n7 x4 with
          | none => none
          | some a => match n7 x5 with
            | none => none
            | some u => match unq x6 with
              | none => none
              | some d => if qt d = x6 then some ⟨k, f, t, v, a, d, u⟩ else none
theorem spl_cons {k : Nat} {l x : List UInt8} {r : List (List UInt8)} (h : spl (k + 1) l = x :: r) (hr : r ≠ []) : ∃ y, wd l = some (x, y) ∧ spl k y = r := by
  rw [spl] at h
  cases hw : wd l with
  | none => rw [hw] at h; simp only [List.cons.injEq] at h; exact absurd h.2.symm hr
  | some p => rw [hw] at h; simp only [List.cons.injEq] at h; exact ⟨p.2, by rw [← h.1], h.2⟩
theorem wn_of {l x y : List UInt8} (h : wd l = some (x, y)) : wn l = (n7 x).map (·, y) := by
  unfold wn
  rw [h]
  simp only
  cases n7 x <;> rfl
theorem p7_words {l x0 x1 x2 x3 x4 x5 x6 : List UInt8} (h : spl 6 l = [x0, x1, x2, x3, x4, x5, x6]) : p7 l = p7w x0 x1 x2 x3 x4 x5 x6 := by
  obtain ⟨y0, h0, h⟩ := spl_cons h (by simp)
  obtain ⟨y1, h1, h⟩ := spl_cons h (by simp)
  obtain ⟨y2, h2, h⟩ := spl_cons h (by simp)
  obtain ⟨y3, h3, h⟩ := spl_cons h (by simp)
  obtain ⟨y4, h4, h⟩ := spl_cons h (by simp)
  obtain ⟨y5, h5, h⟩ := spl_cons h (by simp)
  simp only [spl, List.cons.injEq, and_true] at h
  subst h
  unfold p7 p7w
  rw [h0]
  simp only [wn_of h1]
  cases kd x0 with
  | none => rfl
  | some k =>
  cases n7 x1 with
  | none => rfl
  | some f =>
  simp only [Option.map_some, wn_of h2]
  cases n7 x2 with
  | none => rfl
  | some t =>
  simp only [Option.map_some, wn_of h3]
  cases n7 x3 with
  | none => rfl
  | some v =>
  simp only [Option.map_some, wn_of h4]
  cases n7 x4 with
  | none => rfl
  | some a =>
  simp only [Option.map_some, wn_of h5]
  cases n7 x5 with
  | none => rfl
  | some u => rfl
theorem p7_some_len {l : List UInt8} {e : Ev} (h : p7 l = some e) : (spl 6 l).length = 7 := by
  unfold p7 at h
  have key : ∀ {l y : List UInt8} {v : Int}, wn l = some (v, y) → ∃ x, wd l = some (x, y) := by
    intro l y v h
    unfold wn at h
    split at h
    · cases h
    · rename_i x y' hw
      split at h
      · cases h
      · simp only [Option.some.injEq, Prod.mk.injEq] at h; exact ⟨x, by rw [hw, h.2]⟩
  repeat' split at h
  all_goals first | (cases h; done) | skip
  rename_i x r0 h0 _ k hk _ f r1 h1 _ t r2 h2 _ v r3 h3 _ a r4 h4 _ u r5 h5 _ d hd hq
  obtain ⟨y1, h1⟩ := key h1
  obtain ⟨y2, h2⟩ := key h2
  obtain ⟨y3, h3⟩ := key h3
  obtain ⟨y4, h4⟩ := key h4
  obtain ⟨y5, h5⟩ := key h5
  simp only [spl, h0, h1, h2, h3, h4, h5]
  rfl
/-- The program's own reading of the words, and the chapter's. -/
def prV (l : List UInt8) : Value := match p7 l with | none => .tuple #[evV ⟨0, 0, 0, 0, 0, [], 0⟩, .int .i64 4] | some e => if vE e = true then .tuple #[evV e, .int .i64 0] else .tuple #[evV ⟨0, 0, 0, 0, 0, [], 0⟩, .int .i64 2]
/-- The program's event may differ from the chapter's only where both are not valid. -/
theorem two_events {k f' t' v' a' u' f t v a u : Int} {d : List UInt8} (hf : f = f' ∧ -9007199254740992 ≤ f' ∧ f' ≤ 9007199254740992 ∨ f = 9223372036854775807 ∧ (f' = 9007199254740993 ∨ f' = -9007199254740993)) (ht : t = t' ∧ -9007199254740992 ≤ t' ∧ t' ≤ 9007199254740992 ∨ t = 9223372036854775807 ∧ (t' = 9007199254740993 ∨ t' = -9007199254740993)) (hv : v = v' ∧ -9007199254740992 ≤ v' ∧ v' ≤ 9007199254740992 ∨ v = 9223372036854775807 ∧ (v' = 9007199254740993 ∨ v' = -9007199254740993)) (ha : a = a' ∧ -9007199254740992 ≤ a' ∧ a' ≤ 9007199254740992 ∨ a = 9223372036854775807 ∧ (a' = 9007199254740993 ∨ a' = -9007199254740993)) (hu : u = u' ∧ -9007199254740992 ≤ u' ∧ u' ≤ 9007199254740992 ∨ u = 9223372036854775807 ∧ (u' = 9007199254740993 ∨ u' = -9007199254740993)) :
    (vE ⟨k, f, t, v, a, d, u⟩ = false ∧ vE ⟨k, f', t', v', a', d, u'⟩ = false) ∨ (f = f' ∧ t = t' ∧ v = v' ∧ a = a' ∧ u = u') := by
  unfold vE
  rw [decide_eq_false_iff_not, decide_eq_false_iff_not]
  simp only
  omega

end Go.Proofs.YtiimdkamgehioaaDoor
