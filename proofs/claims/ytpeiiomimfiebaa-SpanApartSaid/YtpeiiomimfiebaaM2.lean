/-
  The union as a function of the list, the gaps, and the specification's way to them, bound by bound (plain).
-/
import Derived.Test.YtpeiiomimfiebaaM1
namespace Go.Proofs.Ytpeiiomimfiebaa
set_option linter.unusedVariables false

/-- The valid spans in ascending order. -/
def srt (l : List Sp) : List Sp := (l.filter vl).mergeSort fun a b => decide (a.1 ≤ b.1)
theorem srt_mem (l : List Sp) (s : Sp) : s ∈ srt l ↔ s ∈ l ∧ vl s = true := by
  unfold srt; rw [List.mem_mergeSort, List.mem_filter]
theorem srt_sorted (l : List Sp) : (srt l).Pairwise fun a b => a.1 ≤ b.1 := by
  have := List.pairwise_mergeSort (le := fun a b : Sp => decide (a.1 ≤ b.1)) (fun a b c h1 h2 => by simp at *; omega) (fun a b => by simp; omega) (l.filter vl)
  exact this.imp fun h => by simpa using h
/-- The union. -/
def un (l : List Sp) : List Sp := jn (srt l)
theorem cov_iff (l : List Sp) (t : Int) : cov l t = true ↔ ∃ s ∈ l, vl s = true ∧ s.1 ≤ t ∧ t < s.2 := by
  unfold cov
  rw [List.any_eq_true]
  constructor
  · rintro ⟨s, h, e⟩; exact ⟨s, h, (hd_iff s t).1 e⟩
  · rintro ⟨s, h, e⟩; exact ⟨s, h, (hd_iff s t).2 e⟩
theorem cov_range {l : List Sp} {t : Int} (h : cov l t = true) : 0 ≤ t ∧ t < 1099511627776 := by
  obtain ⟨s, _, hv, h1, h2⟩ := (cov_iff l t).1 h
  have := (vl_iff s).1 hv
  omega
/-- Of a list that holds the valid spans of l in ascending order. -/
theorem jn_cov (l q : List Sp) (hq : ∀ s, s ∈ q ↔ s ∈ l ∧ vl s = true) (ho : q.Pairwise fun a b => a.1 ≤ b.1) : Can (jn q) ∧ (∀ s ∈ jn q, vl s = true) ∧ ∀ t, mem (jn q) t ↔ cov l t = true := by
  obtain ⟨h1, h2, h3⟩ := jn_all q (fun s hs => ((hq s).1 hs).2) ho
  refine ⟨h1, h2, fun t => ?_⟩
  rw [h3, cov_iff]
  constructor
  · rintro ⟨s, hs, e⟩; exact ⟨s, ((hq s).1 hs).1, ((hq s).1 hs).2, e⟩
  · rintro ⟨s, hs, hv, e⟩; exact ⟨s, (hq s).2 ⟨hs, hv⟩, e⟩
theorem un_all (l : List Sp) : Can (un l) ∧ (∀ s ∈ un l, vl s = true) ∧ ∀ t, mem (un l) t ↔ cov l t = true := jn_cov l (srt l) (srt_mem l) (srt_sorted l)
theorem jn_un (l q : List Sp) (hq : ∀ s, s ∈ q ↔ s ∈ l ∧ vl s = true) (ho : q.Pairwise fun a b => a.1 ≤ b.1) : jn q = un l := by
  obtain ⟨h1, _, h3⟩ := jn_cov l q hq ho
  obtain ⟨k1, _, k3⟩ := un_all l
  exact h1.uniq k1 fun t => (h3 t).trans (k3 t).symm
/-- A canonical list of the same ticks is the union. -/
theorem un_uniq (l j : List Sp) (hj : Can j) (hm : ∀ t, mem j t ↔ cov l t = true) : j = un l := by
  obtain ⟨k1, _, k3⟩ := un_all l
  exact hj.uniq k1 fun t => (hm t).trans (k3 t).symm
theorem un_length (l : List Sp) : (un l).length ≤ l.length := by
  have h1 := jn_length (srt l)
  have h2 : (srt l).length = (l.filter vl).length := by unfold srt; exact List.length_mergeSort _
  have h3 := List.length_filter_le vl l
  unfold un; omega
theorem vl_range {j : List Sp} (h : ∀ s ∈ j, vl s = true) : ∀ s ∈ j, 0 ≤ s.1 ∧ s.1 < s.2 ∧ s.2 ≤ 1099511627776 := fun s hs => (vl_iff s).1 (h s hs)
/-- The union of the same spans, in whatever order and however often. -/
theorem un_same (l m : List Sp) (h : ∀ s, s ∈ l ↔ s ∈ m) : un l = un m := by
  refine un_uniq m _ (un_all l).1 fun t => ((un_all l).2.2 t).trans ?_
  rw [cov_iff, cov_iff]
  constructor
  · rintro ⟨s, hs, e⟩; exact ⟨s, (h s).1 hs, e⟩
  · rintro ⟨s, hs, e⟩; exact ⟨s, (h s).2 hs, e⟩
theorem un_un (l : List Sp) : un (un l) = un l := by
  obtain ⟨h1, h2, h3⟩ := un_all l
  refine (un_uniq (un l) _ h1 fun t => ?_).symm
  rw [cov_iff]
  constructor
  · rintro ⟨s, hs, e⟩; exact ⟨s, hs, h2 s hs, e⟩
  · rintro ⟨s, hs, hv, e⟩; exact ⟨s, hs, e⟩
/-- The sum over a part of the union stays in the time's range. -/
theorem tot_part (j : List Sp) (hc : Can j) (hv : ∀ s ∈ j, vl s = true) (n : Nat) : 0 ≤ tot (j.take n) ∧ tot (j.take n) ≤ 1099511627776 := by
  have := tot_bounds (lo := 0) (hi := 1099511627776) (hc.take n) (fun s hs => by have := vl_range hv s (List.mem_of_mem_take hs); omega) (by omega)
  omega

/-- The gaps. -/
def ga (l : List Sp) (all : Sp) : List Sp := gp all 0 (un l ++ [(1099511627776, 0)])
theorem ga_all (l : List Sp) (all : Sp) : Can (ga l all) ∧ (∀ s ∈ ga l all, vl s = true ∧ all.1 ≤ s.1 ∧ s.2 ≤ all.2) ∧ ∀ t, mem (ga l all) t ↔ vl all = true ∧ (all.1 ≤ t ∧ t < all.2) ∧ cov l t = false := by
  obtain ⟨h1, h2, h3⟩ := un_all l
  obtain ⟨g1, g2, g3⟩ := gp_all all (un l) 0 h1 h2 (Int.le_refl _) (fun s hs => (vl_range h2 s hs).1)
  refine ⟨g1, fun s hs => ⟨(g2 s hs).1, (g2 s hs).2.1, (g2 s hs).2.2.1⟩, fun t => ?_⟩
  unfold ga
  rw [g3, h3]
  constructor
  · rintro ⟨a, b, _, d⟩; exact ⟨a, b, by simpa using d⟩
  · rintro ⟨a, b, c⟩
    have := (vl_iff all).1 a
    exact ⟨a, b, by omega, by simp [c]⟩
theorem ga_uniq (l j : List Sp) (all : Sp) (hj : Can j) (hm : ∀ t, mem j t ↔ vl all = true ∧ (all.1 ≤ t ∧ t < all.2) ∧ cov l t = false) : j = ga l all := by
  obtain ⟨k1, _, k3⟩ := ga_all l all
  exact hj.uniq k1 fun t => (hm t).trans (k3 t).symm
theorem ga_length (l : List Sp) (all : Sp) : (ga l all).length ≤ l.length + 1 := by
  have h1 := gp_length all (un l ++ [(1099511627776, 0)]) 0
  have h2 := un_length l
  rw [List.length_append] at h1
  unfold ga
  simp only [List.length_cons, List.length_nil] at h1
  omega

/-- The specification's next bound, span by span. -/
def nx1 (at' : Int) (b : Int) (s : Sp) : Int :=
  let b1 := if vl s && decide (at' < s.1) && (decide (b < 0) || decide (s.1 < b)) then s.1 else b
  if vl s && decide (at' < s.2) && (decide (b1 < 0) || decide (s.2 < b1)) then s.2 else b1
def nx (l : List Sp) (at' : Int) : Int := l.foldl (nx1 at') (-1)
theorem nx_snoc (l : List Sp) (s : Sp) (at' : Int) : nx (l ++ [s]) at' = nx1 at' (nx l at') s := by simp [nx]
/-- The least bound behind the tick, or none. -/
def NX (l : List Sp) (at' b : Int) : Prop := (b = -1 ∨ (at' < b ∧ b ≤ 1099511627776)) ∧ ∀ s ∈ l, vl s = true → (at' < s.1 → 0 ≤ b ∧ b ≤ s.1) ∧ (at' < s.2 → 0 ≤ b ∧ b ≤ s.2)
theorem NX.step {l : List Sp} {at' b : Int} (h0 : 0 ≤ at') (h : NX l at' b) (s : Sp) : NX (l ++ [s]) at' (nx1 at' b s) := by
  obtain ⟨h1, h2⟩ := h
  cases hv : vl s with
  | false =>
    have e : nx1 at' b s = b := by unfold nx1; rw [hv]; rfl
    rw [e]
    refine ⟨h1, fun x hx => ?_⟩
    rcases List.mem_append.1 hx with hx | hx
    · exact h2 x hx
    · rw [List.mem_singleton.1 hx, hv]; intro h; exact absurd h (by decide)
  | true =>
    have vs := (vl_iff s).1 hv
    obtain ⟨b1, hb1⟩ : ∃ b1, b1 = (if vl s && decide (at' < s.1) && (decide (b < 0) || decide (s.1 < b)) then s.1 else b) := ⟨_, rfl⟩
    obtain ⟨b2, hb2⟩ : ∃ b2, b2 = (if vl s && decide (at' < s.2) && (decide (b1 < 0) || decide (s.2 < b1)) then s.2 else b1) := ⟨_, rfl⟩
    have e : nx1 at' b s = b2 := by unfold nx1; rw [hb2, hb1]
    rw [e]
    rw [hv] at hb1 hb2
    simp only [Bool.true_and, Bool.and_eq_true, Bool.or_eq_true, decide_eq_true_eq] at hb1 hb2
    have f1 : (b1 = -1 ∨ (at' < b1 ∧ b1 ≤ 1099511627776)) ∧ (0 ≤ b → 0 ≤ b1 ∧ b1 ≤ b) ∧ (at' < s.1 → 0 ≤ b1 ∧ b1 ≤ s.1) := by
      split at hb1 <;> omega
    have f2 : (b2 = -1 ∨ (at' < b2 ∧ b2 ≤ 1099511627776)) ∧ (0 ≤ b1 → 0 ≤ b2 ∧ b2 ≤ b1) ∧ (at' < s.2 → 0 ≤ b2 ∧ b2 ≤ s.2) := by
      split at hb2 <;> omega
    refine ⟨f2.1, fun x hx hvx => ?_⟩
    rcases List.mem_append.1 hx with hx | hx
    · have := h2 x hx hvx; omega
    · rw [List.mem_singleton.1 hx]; omega
theorem nx_all (l : List Sp) (at' : Int) (h0 : 0 ≤ at') : NX l at' (nx l at') := by
  have key : ∀ (r l : List Sp) (b : Int), NX l at' b → NX (l ++ r) at' (r.foldl (nx1 at') b) := by
    intro r
    induction r with
    | nil => intro l b h; rw [List.append_nil]; exact h
    | cons s r ih => intro l b h; have := ih (l ++ [s]) _ (h.step h0 s); simpa using this
  have := key l [] (-1) ⟨.inl rfl, by simp⟩
  show NX l at' (l.foldl (nx1 at') (-1))
  simpa using this
theorem nx_bounds (l : List Sp) (at' : Int) (h0 : 0 ≤ at') : -1 ≤ nx l at' ∧ nx l at' ≤ 1099511627776 := by
  have := (nx_all l at' h0).1; omega
/-- The end of the part that begins at a tick. -/
def en (l : List Sp) (at' to' : Int) : Int := if nx l at' < 0 ∨ to' < nx l at' then to' else nx l at'
theorem en_bounds (l : List Sp) (at' to' : Int) (h0 : 0 ≤ at') (h : at' < to') : at' < en l at' to' ∧ en l at' to' ≤ to' := by
  have := (nx_all l at' h0).1
  unfold en
  split <;> omega
theorem en_cov (l : List Sp) (at' to' t : Int) (h0 : 0 ≤ at') (h : at' ≤ t) (ht : t < en l at' to') : cov l t = cov l at' := by
  have hn := (nx_all l at' h0).2
  have key : ∀ s ∈ l, hd s t = hd s at' := by
    intro s hs
    cases hv : vl s with
    | false => unfold hd; rw [hv]; rfl
    | true =>
      have := hn s hs hv
      unfold en at ht
      unfold hd
      rw [hv, Bool.true_and, Bool.true_and]
      have e1 : decide (s.1 ≤ t) = decide (s.1 ≤ at') := by rw [decide_eq_decide]; split at ht <;> omega
      have e2 : decide (t < s.2) = decide (at' < s.2) := by rw [decide_eq_decide]; split at ht <;> omega
      rw [e1, e2]
  unfold cov
  rw [Bool.eq_iff_iff, List.any_eq_true, List.any_eq_true]
  constructor
  · rintro ⟨s, hs, e⟩; exact ⟨s, hs, by rw [← key s hs]; exact e⟩
  · rintro ⟨s, hs, e⟩; exact ⟨s, hs, by rw [key s hs]; exact e⟩
/-- One more part. -/
def ad (out : List Sp) (at' e : Int) : List Sp :=
  match out.getLast? with
  | none => out ++ [(at', e)]
  | some a => if a.2 = at' then out.dropLast ++ [(a.1, e)] else out ++ [(at', e)]
theorem ad_nil (at' e : Int) : ad [] at' e = [(at', e)] := rfl
theorem ad_snoc (o : List Sp) (a : Sp) (at' e : Int) : ad (o ++ [a]) at' e = if a.2 = at' then o ++ [(a.1, e)] else o ++ [a] ++ [(at', e)] := by
  unfold ad; simp
/-- What holds of the parts up to a tick. -/
def CI (l : List Sp) (from' : Int) (c : Bool) (at' : Int) (out : List Sp) : Prop := Can out ∧ (∀ s ∈ out, from' ≤ s.1 ∧ s.2 ≤ at') ∧ (∀ t, mem out t ↔ from' ≤ t ∧ t < at' ∧ cov l t = c) ∧ (out.length : Int) ≤ at' - from'
theorem CI.start (l : List Sp) (from' : Int) (c : Bool) : CI l from' c from' [] :=
  ⟨Can.nil, by simp, fun t => ⟨fun h => absurd h (mem_nil t), fun h => by omega⟩, by simp⟩
theorem CI.step {l : List Sp} {from' : Int} {c : Bool} {at' : Int} {out : List Sp} (h : CI l from' c at' out) (to' : Int) (h0 : 0 ≤ from') (hf : from' ≤ at') (ht : at' < to') :
    CI l from' c (en l at' to') (if cov l at' = c then ad out at' (en l at' to') else out) := by
  obtain ⟨h1, h2, h3, h4⟩ := h
  have hb := en_bounds l at' to' (by omega) ht
  have hc := fun t => en_cov l at' to' t (by omega)
  generalize en l at' to' = e at hb hc ⊢
  by_cases hcv : cov l at' = c
  · rw [if_pos hcv]
    have hm : ∀ t, (mem out t ∨ (at' ≤ t ∧ t < e)) ↔ from' ≤ t ∧ t < e ∧ cov l t = c := by
      intro t
      rw [h3]
      constructor
      · rintro (⟨a, b, d⟩ | ⟨a, b⟩)
        · exact ⟨a, by omega, d⟩
        · exact ⟨by omega, b, by rw [hc t a b]; exact hcv⟩
      · rintro ⟨a, b, d⟩
        by_cases t < at'
        · exact .inl ⟨a, by assumption, d⟩
        · exact .inr ⟨by omega, b⟩
    rcases nil_or_snoc out with rfl | ⟨o, a, rfl⟩
    · rw [ad_nil]
      refine ⟨Can.nil.snoc (by simp only; omega) (by simp), fun s hs => ?_, fun t => ?_, by simp; omega⟩
      · rw [List.mem_singleton.1 hs]; simp only; omega
      · rw [← hm, mem_one]
        have := mem_nil t
        simp [this]
    · obtain ⟨c0, ca, cj⟩ := h1.of_snoc
      have la := h2 a (by simp)
      rw [ad_snoc]
      split
      · rename_i hae
        refine ⟨c0.snoc (by simp only; omega) cj, fun s hs => ?_, fun t => ?_, by simp at h4 ⊢; omega⟩
        · rcases List.mem_append.1 hs with hs | hs
          · have := h2 s (by simp [hs]); omega
          · rw [List.mem_singleton.1 hs]; simp only; omega
        · rw [← hm, mem_app, mem_app, mem_one, mem_one]
          simp only
          constructor
          · rintro (h | h)
            · exact .inl (.inl h)
            · by_cases t < at'
              · exact .inl (.inr ⟨h.1, by omega⟩)
              · exact .inr ⟨by omega, by omega⟩
          · rintro ((h | h) | h)
            · exact .inl h
            · exact .inr ⟨h.1, by omega⟩
            · exact .inr ⟨by omega, by omega⟩
      · rename_i hne
        refine ⟨h1.snoc (by simp only; omega) (fun s hs => ?_), fun s hs => ?_, fun t => ?_, by simp at h4 ⊢; omega⟩
        · rcases List.mem_append.1 hs with hs | hs
          · have := cj s hs; simp only; omega
          · rw [List.mem_singleton.1 hs]; simp only; omega
        · rcases List.mem_append.1 hs with hs | hs
          · have := h2 s hs; omega
          · rw [List.mem_singleton.1 hs]; simp only; omega
        · rw [← hm, mem_app, mem_one]
  · rw [if_neg hcv]
    refine ⟨h1, fun s hs => by have := h2 s hs; omega, fun t => ?_, by omega⟩
    rw [h3]
    constructor
    · rintro ⟨a, b, d⟩; exact ⟨a, by omega, d⟩
    · rintro ⟨a, b, d⟩
      refine ⟨a, ?_, d⟩
      by_cases t < at'
      · assumption
      · exfalso; exact hcv (by rw [← hc t (by omega) b]; exact d)
/-- The specification's union and gaps are ours. -/
theorem CI.union {l out : List Sp} (h : CI l 0 true 1099511627776 out) : out = un l := by
  obtain ⟨h1, _, h3, _⟩ := h
  refine un_uniq l out h1 fun t => ?_
  rw [h3]
  constructor
  · rintro ⟨_, _, h⟩; exact h
  · intro h; have := cov_range h; exact ⟨this.1, this.2, h⟩
theorem CI.gaps {l out : List Sp} {all : Sp} (ha : vl all = true) (h : CI l all.1 false all.2 out) : out = ga l all := by
  obtain ⟨h1, _, h3, _⟩ := h
  refine ga_uniq l out all h1 fun t => ?_
  rw [h3]
  constructor
  · rintro ⟨a, b, c⟩; exact ⟨ha, ⟨a, b⟩, c⟩
  · rintro ⟨_, ⟨a, b⟩, c⟩; exact ⟨a, b, c⟩
theorem ga_invalid {l : List Sp} {all : Sp} (ha : vl all = false) : ga l all = [] := by
  refine (ga_uniq l [] all Can.nil fun t => ⟨fun h => absurd h (mem_nil t), ?_⟩).symm
  rintro ⟨h, _⟩
  rw [ha] at h
  exact absurd h (by decide)

end Go.Proofs.Ytpeiiomimfiebaa
