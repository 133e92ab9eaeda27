/-
  Plain facts for stage 1: ratios as Make writes them: lowest terms, equal values, exact arithmetic.
-/
import Derived.Test.YtlbepbddhnmmjaaDoorM1
namespace Go.Proofs.YtlbepbddhnmmjaaDoor

theorem mk_of {n d : Int} (h0 : d ≠ 0) : mkE n d = if 1073741824 < lowN n d ∨ 1073741824 < lowD n d then 3 else 0 := by rw [mkE, if_neg h0]
theorem low_scale (k n d : Int) (hk : 0 < k) : lowN (k * n) (k * d) = lowN n d ∧ lowD (k * n) (k * d) = lowD n d := by
  have hk' : 0 < k.natAbs := by omega
  unfold lowN lowD
  rw [Int.natAbs_mul, Int.natAbs_mul, Nat.gcd_mul_left, Nat.mul_div_mul_left _ _ hk', Nat.mul_div_mul_left _ _ hk']
  exact ⟨rfl, rfl⟩
theorem neg_scale (k n : Int) (hk : 0 < k) : decide (k * n < 0) = decide (n < 0) := by
  rw [decide_eq_decide]
  constructor
  · intro h
    by_cases h2 : n < 0
    · exact h2
    · have := Int.mul_nonneg (a := k) (b := n) (by omega) (by omega); omega
  · intro h; exact Int.mul_neg_of_pos_of_neg hk h
theorem mk_scale (k n d : Int) (hk : 0 < k) : mkE (k * n) (k * d) = mkE n d ∧ mkN (k * n) (k * d) = mkN n d ∧ mkD (k * n) (k * d) = mkD n d := by
  obtain ⟨h1, h2⟩ := low_scale k n d hk
  have e : mkE (k * n) (k * d) = mkE n d := by
    unfold mkE; rw [h1, h2]
    by_cases hd : d = 0
    · subst hd; rw [Int.mul_zero]
    · rw [if_neg hd, if_neg (fun e => by rcases Int.mul_eq_zero.1 e with e | e <;> omega)]
  refine ⟨e, ?_, ?_⟩
  · unfold mkN; rw [e, h1, neg_scale k n hk, neg_scale k d hk]
  · unfold mkD; rw [e, h2]
theorem mk_neg (n d : Int) (hd : d ≠ 0) : mkE (-n) (-d) = mkE n d ∧ mkN (-n) (-d) = mkN n d ∧ mkD (-n) (-d) = mkD n d := by
  have h1 : lowN (-n) (-d) = lowN n d := by unfold lowN; rw [Int.natAbs_neg, Int.natAbs_neg]
  have h2 : lowD (-n) (-d) = lowD n d := by unfold lowD; rw [Int.natAbs_neg, Int.natAbs_neg]
  have e : mkE (-n) (-d) = mkE n d := by rw [mk_of hd, mk_of (by omega), h1, h2]
  refine ⟨e, ?_, by unfold mkD; rw [e, h2]⟩
  unfold mkN; rw [e, h1]
  by_cases hz : n = 0
  · have hl : lowN n d = 0 := by unfold lowN; rw [hz]; simp
    rw [hl]; simp
  · have : (decide (-n < 0) = decide (-d < 0)) = (decide (n < 0) = decide (d < 0)) := by
      rw [decide_eq_decide, decide_eq_decide, eq_iff_iff]
      omega
    simp only [this]
theorem mk_cross_pos {n d n' d' : Int} (hd : 0 < d) (hd' : 0 < d') (h : n * d' = n' * d) : mkE n d = mkE n' d' ∧ mkN n d = mkN n' d' ∧ mkD n d = mkD n' d' := by
  obtain ⟨a1, a2, a3⟩ := mk_scale d' n d hd'
  obtain ⟨b1, b2, b3⟩ := mk_scale d n' d' hd
  have e1 : d' * n = d * n' := by rw [Int.mul_comm d' n, h, Int.mul_comm]
  have e2 : d' * d = d * d' := Int.mul_comm _ _
  rw [e1, e2] at a1 a2 a3
  exact ⟨a1.symm.trans b1, a2.symm.trans b2, a3.symm.trans b3⟩
/-- Ratios of one value are one ratio. -/
theorem mk_cross {n d n' d' : Int} (hd : d ≠ 0) (hd' : 0 < d') (h : n * d' = n' * d) : mkE n d = mkE n' d' ∧ mkN n d = mkN n' d' ∧ mkD n d = mkD n' d' := by
  by_cases hp : 0 < d
  · exact mk_cross_pos hp hd' h
  · obtain ⟨a1, a2, a3⟩ := mk_neg n d hd
    obtain ⟨b1, b2, b3⟩ := mk_cross_pos (n := -n) (d := -d) (n' := n') (d' := d') (by omega) hd' (by rw [Int.neg_mul, Int.mul_neg, h])
    exact ⟨a1.symm.trans b1, a2.symm.trans b2, a3.symm.trans b3⟩
/-- A valid ratio is in lowest terms already. -/
theorem mk_valid {n d : Int} (h : validB n d = true) : mkE n d = 0 ∧ mkN n d = n ∧ mkD n d = d := by
  obtain ⟨h1, h2, h3, h4⟩ := valid_bd h
  have hg := valid_gcd h
  have e1 : lowN n d = n.natAbs := by unfold lowN; rw [hg, Nat.div_one]
  have e2 : lowD n d = d.natAbs := by unfold lowD; rw [hg, Nat.div_one]
  have e : mkE n d = 0 := by rw [mk_of (by omega), e1, e2, if_neg (by omega)]
  refine ⟨e, ?_, ?_⟩
  · rw [mkN, if_pos e, e1]
    by_cases hn : n < 0
    · rw [if_neg (by simp; omega)]; omega
    · rw [if_pos (by simp; omega)]; omega
  · rw [mkD, if_pos e, e2]; omega
/-- What Make answers without an error is the value of its arguments. -/
theorem mk_value {n d : Int} (hd : d ≠ 0) (h : mkE n d = 0) : mkN n d * d = n * mkD n d ∧ validB (mkN n d) (mkD n d) = true := by
  have hgp : 0 < Nat.gcd n.natAbs d.natAbs := Nat.gcd_pos_of_pos_right _ (by omega)
  obtain ⟨p, hp⟩ := Nat.gcd_dvd_left n.natAbs d.natAbs
  obtain ⟨q, hq⟩ := Nat.gcd_dvd_right n.natAbs d.natAbs
  have hN : lowN n d = p := by unfold lowN; exact Nat.div_eq_of_eq_mul_right hgp hp
  have hD : lowD n d = q := by unfold lowD; exact Nat.div_eq_of_eq_mul_right hgp hq
  have hq0 : 0 < q := by
    rcases Nat.eq_zero_or_pos q with e | e
    · rw [e, Nat.mul_zero] at hq; omega
    · exact e
  have hs : ¬ (1073741824 < lowN n d ∨ 1073741824 < lowD n d) := by
    intro hc; rw [mk_of hd, if_pos hc] at h; cases h
  have hg1 : Nat.gcd p q = 1 := by
    have h1 := Nat.gcd_div (Nat.gcd_dvd_left n.natAbs d.natAbs) (Nat.gcd_dvd_right n.natAbs d.natAbs)
    rw [Nat.div_self hgp] at h1
    rw [← hN, ← hD]; exact h1
  generalize Nat.gcd n.natAbs d.natAbs = g at hp hq hgp
  have eD : mkD n d = (q : Int) := by rw [mkD, if_pos h, hD]
  have eN : mkN n d = (p : Int) ∧ n * d.natAbs = n.natAbs * d ∨ mkN n d = -(p : Int) ∧ n * d.natAbs = -(n.natAbs * d) := by
    by_cases hsg : decide (n < 0) = decide (d < 0)
    · left
      refine ⟨by rw [mkN, if_pos h, if_pos hsg, hN], ?_⟩
      rw [decide_eq_decide] at hsg
      by_cases hn : n < 0
      · have h2 := hsg.1 hn
        rw [show (n.natAbs : Int) = -n by omega, show (d.natAbs : Int) = -d by omega, Int.mul_neg, Int.neg_mul]
      · have h2 : ¬ d < 0 := fun h2 => hn (hsg.2 h2)
        rw [show (n.natAbs : Int) = n by omega, show (d.natAbs : Int) = d by omega]
    · right
      refine ⟨by rw [mkN, if_pos h, if_neg hsg, hN], ?_⟩
      rw [decide_eq_decide] at hsg
      by_cases hn : n < 0
      · have h2 : ¬ d < 0 := fun h2 => hsg ⟨fun _ => h2, fun _ => hn⟩
        rw [show (n.natAbs : Int) = -n by omega, show (d.natAbs : Int) = d by omega, Int.neg_mul, Int.neg_neg]
      · have h2 : d < 0 := by
          by_cases h2 : d < 0
          · exact h2
          · exact absurd ⟨fun x => absurd x hn, fun x => absurd x h2⟩ hsg
        rw [show (n.natAbs : Int) = n by omega, show (d.natAbs : Int) = -d by omega, Int.mul_neg]
  rw [hN, hD] at hs
  refine ⟨?_, ?_⟩
  · rw [eD]
    have hg0 : (g : Int) ≠ 0 := by omega
    apply Int.eq_of_mul_eq_mul_left hg0
    have hpI : (n.natAbs : Int) = (g : Int) * p := by rw [hp]; exact Int.natCast_mul _ _
    have hqI : (d.natAbs : Int) = (g : Int) * q := by rw [hq]; exact Int.natCast_mul _ _
    rw [hpI, hqI] at eN
    rcases eN with ⟨e, hx⟩ | ⟨e, hx⟩
    · rw [e, ← Int.mul_assoc, ← hx, ← Int.mul_assoc, ← Int.mul_assoc, Int.mul_comm (g : Int) n]
    · rw [e, Int.neg_mul, Int.mul_neg, ← Int.mul_assoc, ← hx, ← Int.mul_assoc, ← Int.mul_assoc, Int.mul_comm (g : Int) n]
  · refine decide_eq_true ?_
    have a1 : (mkN n d).natAbs = p := by rcases eN with ⟨e, _⟩ | ⟨e, _⟩ <;> rw [e] <;> omega
    have a2 : (mkD n d).natAbs = q := by rw [eD]; omega
    refine ⟨?_, ?_, ?_, ?_, by rw [a1, a2]; exact hg1⟩
    · omega
    · omega
    · rcases eN with ⟨e, _⟩ | ⟨e, _⟩ <;> omega
    · rcases eN with ⟨e, _⟩ | ⟨e, _⟩ <;> omega

end Go.Proofs.YtlbepbddhnmmjaaDoor
