/-
  Layer 17: the round trip, plain: what the decoder makes of the parts that a sender sends.
-/
import Derived.Test.YtpooolijghbkbaaZ26
namespace Go.Proofs.Ytpooolijghbkbaa
open Go
open Sw (Rn lg gd nil_or_snoc pt pt_nil pt_snoc lg_append)
set_option linter.unusedVariables false

/-- A decoder's state at a tick. -/
structure CR where
  y : Int
  m : Int
  p : Int
  t : Int
  o : List Ev
/-- A part of the signal. -/
def fS (N D : Int) (c : CR) (r : Rn) : CR :=
  if r.2 ≤ 0 then c else if r.1 = c.p then ⟨c.y, c.m, c.p, c.t + r.2, c.o⟩ else ⟨(edG c.y N D c.y c.m c.t r.1).1, (edG c.y N D c.y c.m c.t r.1).2.1, r.1, c.t + r.2, c.o ++ (edG c.y N D c.y c.m c.t r.1).2.2⟩
theorem fS_zero (N D : Int) (c : CR) (v : Int) {t : Int} (h : t ≤ 0) : fS N D c (v, t) = c := by unfold fS; rw [if_pos h]
theorem fS_same (N D : Int) (c : CR) (v : Int) {t : Int} (h : 1 ≤ t) (hv : v = c.p) : fS N D c (v, t) = ⟨c.y, c.m, c.p, c.t + t, c.o⟩ := by unfold fS; rw [if_neg (by simp only; omega), if_pos hv]
theorem fS_turn (N D : Int) (c : CR) (v : Int) {t : Int} (h : 1 ≤ t) (hv : v ≠ c.p) : fS N D c (v, t) = ⟨(edG c.y N D c.y c.m c.t v).1, (edG c.y N D c.y c.m c.t v).2.1, v, c.t + t, c.o ++ (edG c.y N D c.y c.m c.t v).2.2⟩ := by unfold fS; rw [if_neg (by simp only; omega), if_neg hv]
theorem fS_p (N D : Int) (c : CR) (v : Int) {t : Int} (h : 1 ≤ t) : (fS N D c (v, t)).p = v := by
  by_cases hv : v = c.p
  · rw [fS_same N D c v h hv]; exact hv.symm
  · rw [fS_turn N D c v h hv]
theorem fS_two (N D : Int) (c : CR) (v : Int) {a b : Int} (ha : 1 ≤ a) (hb : 1 ≤ b) : fS N D (fS N D c (v, a)) (v, b) = fS N D c (v, a + b) := by
  rw [fS_same N D (fS N D c (v, a)) v hb (fS_p N D c v ha).symm]
  by_cases hv : v = c.p
  · rw [fS_same N D c v ha hv, fS_same N D c v (by omega) hv]; simp only [Int.add_assoc]
  · rw [fS_turn N D c v ha hv, fS_turn N D c v (by omega) hv]; simp only [Int.add_assoc]
theorem fS_pu (N D : Int) (c : CR) {R : List Rn} (hR : ∀ x ∈ R, 1 ≤ x.2) (v t : Int) : (pu R v t).foldl (fS N D) c = fS N D (R.foldl (fS N D) c) (v, t) := by
  unfold pu
  split
  · rename_i h; rw [fS_zero N D _ v h]
  · rename_i h
    rcases nil_or_snoc R with rfl | ⟨q, y, rfl⟩
    · rw [pt_nil]; rfl
    · rw [pt_snoc]
      have hy := hR y (by simp)
      by_cases hv : y.1 = v
      · rw [if_pos hv, List.foldl_append, List.foldl_append]
        simp only [List.foldl_cons, List.foldl_nil]
        rw [show y = (y.1, y.2) from rfl, hv]
        exact (fS_two N D _ v hy (by omega)).symm
      · rw [if_neg hv, List.foldl_append]; rfl
theorem pu_pos {R : List Rn} (hR : ∀ x ∈ R, 1 ≤ x.2) (v t : Int) : ∀ x ∈ pu R v t, 1 ≤ x.2 := by
  unfold pu
  split
  · exact hR
  · rcases nil_or_snoc R with rfl | ⟨q, y, rfl⟩
    · rw [pt_nil]; intro x hx; simp only [List.mem_singleton] at hx; subst hx; simp only; omega
    · rw [pt_snoc]
      have hy := hR y (by simp)
      split
      · intro x hx
        rcases List.mem_append.1 hx with hx | hx
        · exact hR x (by simp [hx])
        · simp only [List.mem_singleton] at hx; subst hx; simp only; omega
      · intro x hx
        rcases List.mem_append.1 hx with hx | hx
        · exact hR x hx
        · simp only [List.mem_singleton] at hx; subst hx; simp only; omega
theorem fS_puF (N D : Int) (c : CR) (P : List Rn) : ∀ R : List Rn, (∀ x ∈ R, 1 ≤ x.2) → (puF R P).foldl (fS N D) c = (R ++ P).foldl (fS N D) c := by
  induction P with
  | nil => intro R _; simp [puF]
  | cons r P ih =>
    intro R hR
    have e : puF R (r :: P) = puF (pu R r.1 r.2) P := rfl
    rw [e, ih _ (pu_pos hR r.1 r.2), List.foldl_append, fS_pu N D c hR, List.foldl_append]
    rfl

/-- Events of levels, folded. -/
theorem lv_fold (z : Bool) (N D : Int) (R : List Rn) : ∀ (b : Int) (s : MN) (c : CR), gd R → 0 ≤ b → b + lg R ≤ 1099511627776 → (s.e = b ∨ s.e = 0) → s.y = c.y → s.m = c.m → s.p = c.p → s.o = c.o → c.t = b →
    ((lvL b (if z = true then R else Sw.iv R)).foldl (mnS z N D) s).o = (R.foldl (fS N D) c).o := by
  induction R with
  | nil => intro b s c _ _ _ _ _ _ _ ho _; cases z <;> simpa [lvL, Sw.iv] using ho
  | cons r R ih =>
    intro b s c hg hb hl he hy hm hp ho ht
    rw [Sw.gd_cons] at hg
    obtain ⟨⟨h1, h2⟩, hg⟩ := hg
    have hn := Sw.gd_nonneg hg
    simp only [lg] at hl
    have key : ∀ v' : Int, (v' = 0 ∨ v' = 1) → sgI z v' = r.1 → ∀ Q, (lvL (b + r.2) Q).foldl (mnS z N D) (mnS z N D s ⟨1, b, b + r.2, v', 0, [], 0⟩) = (lvL (b + r.2) Q).foldl (mnS z N D) ⟨(fS N D c r).y, b + r.2, (fS N D c r).m, (fS N D c r).p, (fS N D c r).o⟩ := by
      intro v' hv' hs Q
      congr 1
      have hA : AcN s ⟨1, b, b + r.2, v', 0, [], 0⟩ := by
        refine ⟨⟨by dsimp only; omega, by dsimp only; omega, hb, by dsimp only; omega, by dsimp only; omega, by simp, by dsimp only; omega, by dsimp only; omega, by dsimp only; omega, by dsimp only; omega, by dsimp only; omega, by dsimp only; omega⟩, rfl, rfl, by dsimp only; omega, hv', ?_⟩
        rcases he with h | h
        · exact .inr h.symm
        · exact .inl h
      unfold mnS
      rw [if_pos hA]
      simp only [hs]
      unfold fS
      rw [if_neg (show ¬ r.2 ≤ 0 by omega), ← hp, ← hy, ← hm, ← ho, ht]
      by_cases hq : r.1 = s.p
      · simp only [if_pos hq]
      · simp only [if_neg hq]
    have ht' : (fS N D c r).t = b + r.2 := by
      unfold fS; rw [if_neg (show ¬ r.2 ≤ 0 by omega)]; split <;> simp only [ht]
    cases z with
    | true =>
      simp only [if_true, lvL, List.foldl_cons]
      rw [key r.1 h1 rfl R]
      have := ih (b + r.2) ⟨(fS N D c r).y, b + r.2, (fS N D c r).m, (fS N D c r).p, (fS N D c r).o⟩ (fS N D c r) hg (by omega) (by omega) (.inl rfl) rfl rfl rfl rfl ht'
      simpa using this
    | false =>
      have hiv : Sw.iv (r :: R) = (1 - r.1, r.2) :: Sw.iv R := rfl
      simp only [Bool.false_eq_true, if_false, hiv, lvL, List.foldl_cons]
      rw [key (1 - r.1) (by omega) (by show (if false = true then _ else 1 - (1 - r.1)) = r.1; simp; omega) (Sw.iv R)]
      have := ih (b + r.2) ⟨(fS N D c r).y, b + r.2, (fS N D c r).m, (fS N D c r).p, (fS N D c r).o⟩ (fS N D c r) hg (by omega) (by omega) (.inl rfl) rfl rfl rfl rfl ht'
      simpa using this
abbrev CR.zero : CR := ⟨0, 0, 0, 0, []⟩
/-- What is expected, out of the parts. -/
theorem me_fold {N D : Int} (z : Bool) {l : List It} (he : menE N D l = 0) : meL N D z l = ((epL N D l l.length).foldl (fS N D) CR.zero).o := by
  obtain ⟨hB, hk, hm, hf, hv, _⟩ := menR_ok z he
  obtain ⟨v1, v2, v3⟩ := (Sw.vl_iff _).1 hv
  unfold meL
  rw [if_pos he]
  unfold menR
  rw [if_pos he]
  unfold mnR
  rw [lv_fold z N D (efL N D l) 0 MN.zero CR.zero v2 (Int.le_refl _) (by omega) (.inl rfl) rfl rfl rfl rfl rfl]
  unfold efL
  rw [fS_puF N D CR.zero _ [] (fun x hx => by cases hx)]
  rfl

end Go.Proofs.Ytpooolijghbkbaa
