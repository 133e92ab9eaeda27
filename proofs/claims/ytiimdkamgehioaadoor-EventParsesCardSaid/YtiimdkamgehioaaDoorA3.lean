/-
  The comparison of events: the program's compare, Less; the specification's Less.
-/
import Derived.Test.YtiimdkamgehioaaDoorA2
namespace Go.Proofs.YtiimdkamgehioaaDoor
open Go Go.RowKit Go.Joins Go.Sort
set_option linter.unusedVariables false
set_option linter.unusedSimpArgs false

def cpE (a b : Ev) : Int := if lE a b = true then -1 else if lE b a = true then 1 else 0
theorem cpE_range (a b : Ev) : -1 ≤ cpE a b ∧ cpE a b ≤ 1 := by unfold cpE; (repeat' split) <;> omega
theorem cpE_neg (a b : Ev) : decide (cpE a b < 0) = lE a b := by
  unfold cpE
  cases h1 : lE a b <;> cases h2 : lE b a <;> simp
theorem cOr_append (l m : List Int) : cOr (l ++ m) = if cOr l ≠ 0 then cOr l else cOr m := by
  induction l with
  | nil => simp [cOr]
  | cons x l ih =>
    rw [List.cons_append, cOr, cOr, ih]
    by_cases h : x = 0
    · simp [h]
    · simp [h]
theorem cOr_one (x : Int) : cOr [x] = x := by
  unfold cOr
  by_cases h : x = 0
  · simp [h, cOr]
  · simp [h]
theorem ite2 {p q P Q : Prop} {i1 : Decidable p} {i2 : Decidable q} {i3 : Decidable P} {i4 : Decidable Q} (hp : p ↔ P) (hq : q ↔ Q) : (if p then (-1 : Int) else if q then 1 else 0) = if P then (-1 : Int) else if Q then 1 else 0 := by
  by_cases hP : P
  · rw [if_pos (hp.2 hP), if_pos hP]
  · rw [if_neg (fun e => hP (hp.1 e)), if_neg hP]
    by_cases hQ : Q
    · rw [if_pos (hq.2 hQ), if_pos hQ]
    · rw [if_neg (fun e => hQ (hq.1 e)), if_neg hQ]
theorem stepI (x y : Int) {p q P Q : Prop} {i1 : Decidable p} {i2 : Decidable q} {i3 : Decidable P} {i4 : Decidable Q} {L : List Int} (hp : p ↔ x < y ∨ x = y ∧ P) (hq : q ↔ y < x ∨ y = x ∧ Q) (h : (if P then (-1 : Int) else if Q then 1 else 0) = cOr L) :
    (if p then (-1 : Int) else if q then 1 else 0) = cOr (cI x y :: L) := by
  rw [cOr]
  unfold cI
  by_cases h1 : x < y
  · rw [if_pos (hp.2 (.inl h1)), if_pos h1]; simp
  · by_cases h2 : y < x
    · rw [if_neg (fun e => by rcases hp.1 e with e | e <;> omega), if_pos (hq.2 (.inl h2)), if_neg h1, if_pos h2]; simp
    · have e : x = y := by omega
      subst e
      rw [if_neg h1, if_neg h2, if_neg (by simp : ¬ (0 : Int) ≠ 0), ← h]
      have hp' : p ↔ P := by rw [hp]; simp
      have hq' : q ↔ Q := by rw [hq]; simp
      exact ite2 hp' hq'
theorem stepB (x y : List UInt8) {p q P Q : Prop} {i1 : Decidable p} {i2 : Decidable q} {i3 : Decidable P} {i4 : Decidable Q} {L : List Int} (hp : p ↔ Op.bytesLess x y = true ∨ x = y ∧ P) (hq : q ↔ Op.bytesLess y x = true ∨ y = x ∧ Q) (h : (if P then (-1 : Int) else if Q then 1 else 0) = cOr L) :
    (if p then (-1 : Int) else if q then 1 else 0) = cOr (cB x y :: L) := by
  rw [cOr]
  unfold cB
  by_cases h1 : Op.bytesLess x y = true
  · rw [if_pos (hp.2 (.inl h1)), if_pos h1]; simp
  · by_cases h2 : Op.bytesLess y x = true
    · rw [if_neg (fun e => by rcases hp.1 e with e | e; exact h1 e; rw [e.1, bl_irrefl] at h2; cases h2), if_pos (hq.2 (.inl h2)), if_neg h1, if_pos h2]; simp
    · have e : x = y := Classical.byContradiction fun e => by rcases bl_total x y e with h | h <;> simp_all
      subst e
      rw [if_neg h1, if_neg h1, if_neg (by simp : ¬ (0 : Int) ≠ 0), ← h]
      have hp' : p ↔ P := by rw [hp]; simp [bl_irrefl]
      have hq' : q ↔ Q := by rw [hq]; simp [bl_irrefl]
      exact ite2 hp' hq'
theorem cp_all (a b : Ev) : cpE a b = cOr [cI a.f b.f, cI a.t b.t, cI a.k b.k, cI a.v b.v, cI a.a b.a, cB a.d b.d, cI a.u b.u] := by
  classical
  unfold cpE
  refine stepI (i3 := Classical.propDecidable _) (i4 := Classical.propDecidable _) _ _ (lE_iff a b) (lE_iff b a) ?_
  refine stepI (i3 := Classical.propDecidable _) (i4 := Classical.propDecidable _) _ _ Iff.rfl Iff.rfl ?_
  refine stepI (i3 := Classical.propDecidable _) (i4 := Classical.propDecidable _) _ _ Iff.rfl Iff.rfl ?_
  refine stepI (i3 := Classical.propDecidable _) (i4 := Classical.propDecidable _) _ _ Iff.rfl Iff.rfl ?_
  refine stepI (i3 := Classical.propDecidable _) (i4 := Classical.propDecidable _) _ _ Iff.rfl Iff.rfl ?_
  refine stepB (i3 := Classical.propDecidable _) (i4 := Classical.propDecidable _) _ _ Iff.rfl Iff.rfl ?_
  rw [cOr_one]
  unfold cI
  by_cases h1 : a.u < b.u
  · rw [if_pos h1, if_pos h1]
  · rw [if_neg h1, if_neg h1]
    by_cases h2 : b.u < a.u
    · rw [if_pos h2, if_pos h2]
    · rw [if_neg h2, if_neg h2]
theorem cp_split (a b : Ev) : cpE a b = if cOr [cI a.f b.f, cI a.t b.t] ≠ 0 then cOr [cI a.f b.f, cI a.t b.t] else cOr [cI a.k b.k, cI a.v b.v, cI a.a b.a, cB a.d b.d, cI a.u b.u] := by
  rw [cp_all, ← cOr_append]; rfl
theorem cp_times (a b : Ev) (h : cOr [cI a.f b.f, cI a.t b.t] ≠ 0) : cpE a b = cOr [cI a.f b.f, cI a.t b.t] := by rw [cp_split, if_pos h]
theorem cp_core (a b : Ev) (h : cOr [cI a.f b.f, cI a.t b.t] = 0) : cpE a b = cOr [cI a.k b.k, cI a.v b.v, cI a.a b.a, cB a.d b.d, cI a.u b.u] := by rw [cp_split, if_neg (by simpa using h)]
theorem cpE_refl (a : Ev) : cpE a a = 0 := by unfold cpE; rw [lE_irrefl]; rfl
theorem cI_refl (x : Int) : cI x x = 0 := by unfold cI; simp
theorem cB_refl (x : List UInt8) : cB x x = 0 := by unfold cB; rw [bl_irrefl]; rfl
theorem cp_same (a b : Ev) (h : cOr [cI a.f b.f, cI a.t b.t] = 0) (hk : a.k = b.k) (hv : a.v = b.v) (ha : a.a = b.a) (hd : a.d = b.d) (hu : a.u = b.u) : cpE a b = 0 := by
  rw [cp_core a b h, hk, hv, ha, hd, hu]
  simp [cI_refl, cB_refl, cOr]

set_option maxRecDepth 20000 in
set_option maxHeartbeats 2000000 in
theorem refLess_xy (k f t v a : Int) (s : ByteArray) (u : Int) (k' f' t' v' a' : Int) (s' : ByteArray) (u' : Int) (w : World) :
    Calls Tryd.prog 14 #[.agg (evA k f t v a s u), .agg (evA k' f' t' v' a' s' u')] w fun e w' => e = .returned (.bool (lE ⟨k, f, t, v, a, s.data.toList, u⟩ ⟨k', f', t', v', a', s'.data.toList, u'⟩)) ∧ Below w.heap.size w w' := by
  go_enter Tryd.func14, Tryd.ntmps14
  go_wp2
  all_goals
    go_returns
    refine ⟨ret_bool ?_, (by repeat' (first | with_reducible exact Below.refl _ _ | with_reducible exact Nat.le_refl _ | with_reducible assumption | with_reducible refine below_drewN ?_ _ | with_reducible refine Below.drew ?_ | with_reducible refine Below.trans ?_ (Below.mono (by assumption) ?_) | with_reducible refine Below.alloc ?_ ?_ _ | with_reducible refine Below.setCell ?_ ?_ _ | with_reducible refine le_setCell ?_ _ _ | with_reducible refine le_alloc ?_ _ | with_reducible refine le_drewN ?_ _ | with_reducible refine le_drew ?_ | with_reducible refine Nat.le_trans ?_ (Below.size (by assumption)) | (simp only [World.size_alloc, World.size_setCell]; omega)))⟩
    unfold lE
    simp only [ByteArray.toList_eq] at *
    simp only [bne_iff_ne, ne_eq, bne_eq_false_iff_eq, Bool.not_eq_true', beq_eq_false_iff_ne, Bool.not_eq_false', beq_iff_eq] at *
    first | (simp only [*, if_true, if_false, not_true_eq_false, not_false_eq_true]; done) | (simp [*]; done) | trace "LEFT"

end Go.Proofs.YtiimdkamgehioaaDoor
