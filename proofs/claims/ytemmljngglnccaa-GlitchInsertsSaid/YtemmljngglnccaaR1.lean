/-
  Short pulses: the mathematics of filtering, of counting and of clean lists.
-/
import Derived.Test.YtemmljngglnccaaM2
namespace Go.Proofs.Ytemmljngglnccaa
set_option linter.unusedVariables false
set_option linter.unusedSimpArgs false

/-- A clean list is made of its levels alone. -/
theorem al_unique {a b : List Rn} (ha : al a) (pa : gd a) (hb : al b) (pb : gd b) (h : ∀ k, 0 ≤ k → atv a k = atv b k) : a = b := by
  induction a generalizing b with
  | nil =>
    cases b with
    | nil => rfl
    | cons s b =>
      rw [gd_cons] at pb
      have := h 0 (by omega)
      rw [atv_cons, if_pos (by omega)] at this
      have := congrArg Prod.snd this
      exact absurd this (by simp [atv])
  | cons r a ih =>
    rw [gd_cons] at pa
    cases b with
    | nil =>
      have := h 0 (by omega)
      rw [atv_cons, if_pos (by omega)] at this
      have := congrArg Prod.snd this
      exact absurd this (by simp [atv])
    | cons s b =>
      rw [gd_cons] at pb
      have e0 := h 0 (by omega)
      rw [atv_cons, if_pos (by omega), atv_cons, if_pos (by omega)] at e0
      have e1 : r.1 = s.1 := (Prod.mk.inj e0).1
      have key : ∀ (x y : Rn) (u v : List Rn), al (x :: u) → gd u → x.1 = y.1 → 1 ≤ x.2 → x.2 < y.2 → (∀ k, 0 ≤ k → atv (x :: u) k = atv (y :: v) k) → False := by
        intro x y u v hu pu exy hx hlt hh
        have e2 := hh x.2 (by omega)
        rw [atv_cons, if_neg (by omega), atv_cons, if_pos hlt] at e2
        cases u with
        | nil => have := congrArg Prod.snd e2; exact absurd this (by simp [atv])
        | cons z u =>
          rw [gd_cons] at pu
          rw [atv_cons, if_pos (by omega)] at e2
          have e3 : z.1 = y.1 := (Prod.mk.inj e2).1
          exact (al_cons.1 hu).1 (by rw [exy, e3])
      have e2 : r.2 = s.2 := by
        rcases Int.lt_trichotomy r.2 s.2 with c | c | c
        · exact absurd (key r s a b ha pa.2 e1 pa.1.2 c h) id
        · exact c
        · exact absurd (key s r b a hb pb.2 e1.symm pb.1.2 c (fun k hk => (h k hk).symm)) id
      have e3 : r = s := Prod.ext e1 e2
      subst e3
      rw [ih (al_tail ha) pa.2 (al_tail hb) pb.2 fun k hk => ?_]
      have e4 := h (k + r.2) (by omega)
      rw [atv_cons, if_neg (by omega), atv_cons, if_neg (by omega)] at e4
      rw [show k + r.2 - r.2 = k by omega] at e4
      exact e4
theorem atv_end {l : List Rn} {k : Int} (hl : gd l) (hk : lg l ≤ k) : atv l k = (-1, false) := by
  induction l generalizing k with
  | nil => rfl
  | cons r l ih =>
    rw [gd_cons] at hl
    have e : lg (r :: l) = r.2 + lg l := rfl
    have := gd_nonneg hl.2
    rw [e] at hk
    rw [atv_cons, if_neg (by omega), ih hl.2 (by omega)]
/-- Clean lists of the same levels up to the same end. -/
theorem al_same {a b : List Rn} {n : Int} (ha : al a) (pa : gd a) (la : lg a = n) (hb : al b) (pb : gd b) (lb : lg b = n) (h : ∀ k, 0 ≤ k → k < n → atv a k = atv b k) : a = b :=
  al_unique ha pa hb pb fun k hk => by
    by_cases hn : k < n
    · exact h k hk hn
    · rw [atv_end pa (by omega), atv_end pb (by omega)]

/-! Filtered. -/
def flP (k : Int) : List Rn → List Rn
  | [] => []
  | [a] => [a]
  | [a, b] => [a, b]
  | a :: b :: c :: t => if b.2 < k then flP k ((a.1, a.2 + b.2 + c.2) :: t) else a :: flP k (b :: c :: t)
termination_by l => l.length
theorem flP_nil (k : Int) : flP k [] = [] := by unfold flP; rfl
theorem flP_one (k : Int) (a : Rn) : flP k [a] = [a] := by unfold flP; rfl
theorem flP_two (k : Int) (a b : Rn) : flP k [a, b] = [a, b] := by unfold flP; rfl
theorem flP_short {k : Int} {a b c : Rn} {t : List Rn} (h : b.2 < k) : flP k (a :: b :: c :: t) = flP k ((a.1, a.2 + b.2 + c.2) :: t) := by rw [flP, if_pos h]
theorem flP_long {k : Int} {a b c : Rn} {t : List Rn} (h : ¬ b.2 < k) : flP k (a :: b :: c :: t) = a :: flP k (b :: c :: t) := by rw [flP, if_neg h]
/-- How many runs that have one behind them are too short. -/
def cn (k : Int) : List Rn → Nat
  | [] => 0
  | [_] => 0
  | x :: y :: t => (if x.2 < k then 1 else 0) + cn k (y :: t)
theorem cn_nil (k : Int) : cn k [] = 0 := rfl
theorem cn_one (k : Int) (a : Rn) : cn k [a] = 0 := rfl
theorem cn_cons (k : Int) (x y : Rn) (t : List Rn) : cn k (x :: y :: t) = (if x.2 < k then 1 else 0) + cn k (y :: t) := rfl
theorem cn_drop (k : Int) (l : List Rn) (j : Nat) (h : j + 1 < l.length) : cn k (l.drop j) = (if l[j].2 < k then 1 else 0) + cn k (l.drop (j + 1)) := by
  rw [List.drop_eq_getElem_cons (show j < l.length by omega), List.drop_eq_getElem_cons h, cn_cons]
theorem cn_end (k : Int) (l : List Rn) (j : Nat) (h : l.length ≤ j + 1) : cn k (l.drop j) = 0 := by
  rcases Nat.lt_or_ge j l.length with h1 | h1
  · rw [List.drop_eq_getElem_cons h1, List.drop_of_length_le h]; rfl
  · rw [List.drop_of_length_le h1]; rfl
theorem cn_le (k : Int) (l : List Rn) : cn k l ≤ l.length := by
  induction l with
  | nil => exact Nat.le_refl _
  | cons x l ih =>
    cases l with
    | nil => exact Nat.zero_le _
    | cons y l => rw [cn_cons, List.length_cons]; split <;> omega
theorem cn_zero {k : Int} {l : List Rn} : cn k l = 0 ↔ ∀ (j : Nat) (h : j + 1 < l.length), ¬ l[j].2 < k := by
  induction l with
  | nil => exact ⟨fun _ j h => absurd h (by simp), fun _ => rfl⟩
  | cons x l ih =>
    cases l with
    | nil => exact ⟨fun _ j h => absurd h (by simp), fun _ => rfl⟩
    | cons y l =>
      rw [cn_cons]
      constructor
      · intro h j hj
        have h1 : ¬ x.2 < k := by intro e; rw [if_pos e] at h; omega
        rw [if_neg h1, Nat.zero_add] at h
        cases j with
        | zero => exact h1
        | succ j => exact ih.1 h j (by simpa using hj)
      · intro h
        have h0 : ¬ x.2 < k := h 0 (by simp)
        rw [if_neg h0, Nat.zero_add]
        exact ih.2 fun j hj => h (j + 1) (by simpa using hj)
theorem flP_all (k : Int) : ∀ (n : Nat) (a : Rn) (r : List Rn), r.length ≤ n → al (a :: r) → gd (a :: r) →
    ∃ h t, flP k (a :: r) = h :: t ∧ h.1 = a.1 ∧ a.2 ≤ h.2 ∧ al (h :: t) ∧ gd (h :: t) ∧ lg (h :: t) = lg (a :: r) ∧ t.length ≤ r.length ∧ cn k t = 0 := by
  intro n
  induction n with
  | zero =>
    intro a r hr ha hg
    have : r = [] := List.eq_nil_of_length_eq_zero (by omega)
    subst this
    exact ⟨a, [], flP_one k a, rfl, Int.le_refl _, ha, hg, rfl, Nat.le_refl _, rfl⟩
  | succ n ih =>
    intro a r hr ha hg
    match r, hr, ha, hg with
    | [], _, ha, hg => exact ⟨a, [], flP_one k a, rfl, Int.le_refl _, ha, hg, rfl, Nat.le_refl _, rfl⟩
    | [b], _, ha, hg => exact ⟨a, [b], flP_two k a b, rfl, Int.le_refl _, ha, hg, rfl, Nat.le_refl _, rfl⟩
    | b :: c :: t, hr, ha, hg =>
      simp only [List.length_cons] at hr
      have g1 := gd_cons.1 hg
      have g2 := gd_cons.1 g1.2
      have g3 := gd_cons.1 g2.2
      have a1 := al_cons.1 ha
      have a2 := al_cons.1 a1.2
      by_cases hb : b.2 < k
      · have eca : c.1 = a.1 := by have := g1.1.1; have := g2.1.1; have := g3.1.1; have := a1.1; have := a2.1; omega
        have al' : al ((a.1, a.2 + b.2 + c.2) :: t) := by
          cases t with
          | nil => exact al_one _
          | cons d t => exact al_cons.2 ⟨by show a.1 ≠ d.1; rw [← eca]; exact (al_cons.1 a2.2).1, (al_cons.1 a2.2).2⟩
        have gd' : gd ((a.1, a.2 + b.2 + c.2) :: t) := gd_cons.2 ⟨⟨g1.1.1, by show 1 ≤ a.2 + b.2 + c.2; omega⟩, g3.2⟩
        obtain ⟨h, t', e, e1, e2, e3, e4, e5, e6, e7⟩ := ih _ _ (by omega) al' gd'
        refine ⟨h, t', by rw [flP_short hb, e], e1, by have : a.2 + b.2 + c.2 ≤ h.2 := e2; omega, e3, e4, ?_, by simp only [List.length_cons]; omega, e7⟩
        rw [e5]
        show a.2 + b.2 + c.2 + lg t = a.2 + (b.2 + (c.2 + lg t))
        omega
      · obtain ⟨h, t', e, e1, e2, e3, e4, e5, e6, e7⟩ := ih b (c :: t) (by simp only [List.length_cons]; omega) a1.2 g1.2
        refine ⟨a, h :: t', by rw [flP_long hb, e], rfl, Int.le_refl _, al_cons.2 ⟨by rw [e1]; exact a1.1, e3⟩, gd_cons.2 ⟨g1.1, e4⟩, ?_, by simp only [List.length_cons] at e6 ⊢; omega, ?_⟩
        · show a.2 + lg (h :: t') = a.2 + lg (b :: c :: t)
          rw [e5]
        · cases t' with
          | nil => rfl
          | cons y t' => rw [cn_cons, if_neg (by omega), e7]
theorem flP_id (k : Int) : ∀ (l : List Rn), cn k (l.drop 1) = 0 → flP k l = l := by
  intro l
  induction l with
  | nil => intro _; exact flP_nil k
  | cons a l ih =>
    intro h
    match l, ih, h with
    | [], _, _ => exact flP_one k a
    | [b], _, _ => exact flP_two k a b
    | b :: c :: t, ih, h =>
      rw [List.drop_one, List.tail_cons, cn_cons] at h
      have hb : ¬ b.2 < k := by intro e; rw [if_pos e] at h; omega
      rw [flP_long hb, ih (by rw [List.drop_one, List.tail_cons]; omega)]
/-- What lies ahead of the first one that is too short is kept. -/
theorem flP_pre (k : Int) : ∀ (P : List Rn) (z : Rn) (t : List Rn), (∀ x ∈ P.drop 1, ¬ x.2 < k) → (P ≠ [] → ¬ z.2 < k) → flP k (P ++ z :: t) = P ++ flP k (z :: t) := by
  intro P
  induction P with
  | nil => intro z t _ _; rfl
  | cons a P ih =>
    intro z t hP hz
    have hz' := hz (by simp)
    rw [List.drop_one, List.tail_cons] at hP
    cases P with
    | nil =>
      cases t with
      | nil => show flP k [a, z] = [a] ++ flP k [z]; rw [flP_two, flP_one]; rfl
      | cons c t => show flP k (a :: z :: c :: t) = a :: flP k (z :: c :: t); rw [flP_long hz']
    | cons b P =>
      have hb := hP b (by simp)
      obtain ⟨c, t', e⟩ : ∃ c t', P ++ z :: t = c :: t' := by cases P <;> exact ⟨_, _, rfl⟩
      have i := ih z t (fun x hx => hP x (by rw [List.drop_one, List.tail_cons] at hx; exact List.mem_cons_of_mem _ hx)) (fun _ => hz')
      show flP k (a :: b :: (P ++ z :: t)) = a :: (b :: P ++ flP k (z :: t))
      rw [← i]
      show flP k (a :: b :: (P ++ z :: t)) = a :: flP k (b :: (P ++ z :: t))
      rw [e, flP_long hb]
theorem flP_len (k : Int) (l : List Rn) (ha : al l) (hg : gd l) : (flP k l).length ≤ l.length := by
  cases l with
  | nil => rw [flP_nil]; exact Nat.le_refl _
  | cons a r =>
    obtain ⟨h, t, e, _, _, _, _, _, e6, _⟩ := flP_all k _ a r (Nat.le_refl _) ha hg
    rw [e, List.length_cons, List.length_cons]; omega
/-- A filtered wave: clean, as long, without short pulses. -/
theorem flP_good (k : Int) {l : List Rn} (hv : vl l = true) : vl (flP k (cl l)) = true ∧ al (flP k (cl l)) ∧ lg (flP k (cl l)) = lg l ∧ cn k ((flP k (cl l)).drop 1) = 0 ∧ (flP k (cl l)).length ≤ l.length := by
  obtain ⟨v1, v2, v3⟩ := (vl_iff l).1 hv
  have e := cl_yes hv
  have ha : al (cl l) := cl_al l
  have hg : gd (cl l) := by rw [e]; exact jn_gd v2
  have hl : lg (cl l) = lg l := by rw [e]; exact jn_lg l
  have hn := cl_len l
  generalize cl l = c at *
  cases c with
  | nil => rw [flP_nil]; exact ⟨rfl, al_nil, hl, rfl, Nat.zero_le _⟩
  | cons a r =>
    obtain ⟨h, t, e, e1, e2, e3, e4, e5, e6, e7⟩ := flP_all k _ a r (Nat.le_refl _) ha hg
    rw [e]
    simp only [List.length_cons] at hn
    exact ⟨(vl_iff _).2 ⟨by simp only [List.length_cons]; omega, e4, by omega⟩, e3, by omega, e7, by simp only [List.length_cons]; omega⟩
/-- The levels of a list of runs, joined where three become one. -/
theorem jn_three {P t : List Rn} {z b d : Rn} (ha : al (P ++ z :: b :: d :: t)) (hg : gd (P ++ z :: b :: d :: t)) :
    jn (P ++ z :: (z.1, b.2) :: d :: t) = P ++ (z.1, z.2 + b.2 + d.2) :: t := by
  have g := (gd_append.1 hg).2
  have g1 := gd_cons.1 g
  have g2 := gd_cons.1 g1.2
  have g3 := gd_cons.1 g2.2
  have a0 : z.1 ≠ b.1 := al_mid (o := P) (l := d :: t) (by simpa using ha)
  have a1 : b.1 ≠ d.1 := al_mid (o := P ++ [z]) (l := t) (by simpa using ha)
  have e1 : z.1 = d.1 := by have := g1.1.1; have := g2.1.1; have := g3.1.1; omega
  have aP : ∀ q : List Rn, al (P ++ z :: q) → al (P ++ [z]) := by
    intro q h i hi
    have := h i (by simp only [List.length_append, List.length_cons, List.length_nil] at hi ⊢; omega)
    have e : P ++ z :: q = (P ++ [z]) ++ q := by simp
    simp only [e] at this
    rw [List.getElem_append_left (by omega), List.getElem_append_left hi] at this
    exact this
  have hP := aP _ ha
  have hT : al ((P ++ [z, b] ++ [d]) ++ t) := by simpa using ha
  have hD : al (P ++ [(z.1, z.2 + b.2 + d.2)] ++ t) := by
    cases t with
    | nil => rw [List.append_nil]; exact al_last hP rfl
    | cons x t =>
      have a2 : d.1 ≠ x.1 := al_mid (o := P ++ [z, b]) (l := t) (by simpa using ha)
      have h3 : al (P ++ [(z.1, z.2 + b.2 + d.2)] ++ [x]) := al_snoc (al_last hP rfl) (by show z.1 ≠ x.1; rw [e1]; exact a2)
      intro i hi
      have key : ∀ (o : List Rn) (u v : Rn) (t : List Rn), al (o ++ [v]) → u.1 = v.1 → al (u :: t) → al (o ++ v :: t) := by
        intro o
        induction o with
        | nil =>
          intro u v t _ e h
          cases t with
          | nil => exact al_one _
          | cons y t => exact al_cons.2 ⟨by rw [← e]; exact (al_cons.1 h).1, (al_cons.1 h).2⟩
        | cons y o ih =>
          intro u v t h e h2
          cases o with
          | nil =>
            simp only [List.cons_append, List.nil_append, al_cons] at h ⊢
            exact ⟨h.1, ih u v t (al_one _) e h2⟩
          | cons w o =>
            simp only [List.cons_append, al_cons] at h ⊢ ih
            exact ⟨h.1, ih u v t h.2 e h2⟩
      have hx : al (x :: t) := by
        intro j hj
        have := ha (P.length + 3 + j) (by simp only [List.length_append, List.length_cons] at hj ⊢; omega)
        have e : P ++ z :: b :: d :: x :: t = (P ++ [z, b, d]) ++ (x :: t) := by simp
        simp only [e] at this
        rw [List.getElem_append_right (by simp), List.getElem_append_right (by simp; omega)] at this
        simp only [List.length_append, List.length_cons, List.length_nil, show P.length + 3 + j + 1 - (P.length + (0 + 1 + 1 + 1)) = j + 1 by omega, show P.length + 3 + j - (P.length + (0 + 1 + 1 + 1)) = j by omega] at this
        exact this
      exact key (P ++ [(z.1, z.2 + b.2 + d.2)]) x x t h3 rfl hx i hi
  unfold jn
  rw [show P ++ z :: (z.1, b.2) :: d :: t = (P ++ [z]) ++ ((z.1, b.2) :: d :: t) by simp, List.foldl_append, fold_id (P ++ [z]) [] (by simpa using hP), List.nil_append, List.foldl_cons, List.foldl_cons, pt_snoc, if_pos rfl, pt_snoc, if_pos e1, fold_id _ _ hD]
  simp
/-- One step of the specification: the first short one of a clean wave is given its neighbors' level. -/
theorem step_flP {k : Int} {P t : List Rn} {z b d : Rn} (ha : al (P ++ z :: b :: d :: t)) (hg : gd (P ++ z :: b :: d :: t)) (hP : ∀ x ∈ P.drop 1, ¬ x.2 < k) (hz : P ≠ [] → ¬ z.2 < k) (hb : b.2 < k) :
    flP k (P ++ z :: b :: d :: t) = flP k (P ++ (z.1, z.2 + b.2 + d.2) :: t) ∧ al (P ++ (z.1, z.2 + b.2 + d.2) :: t) ∧ gd (P ++ (z.1, z.2 + b.2 + d.2) :: t) ∧ lg (P ++ (z.1, z.2 + b.2 + d.2) :: t) = lg (P ++ z :: b :: d :: t) := by
  have g0 := gd_append.1 hg
  have g1 := gd_cons.1 g0.2
  have g2 := gd_cons.1 g1.2
  have g3 := gd_cons.1 g2.2
  refine ⟨?_, ?_, gd_append.2 ⟨g0.1, gd_cons.2 ⟨⟨g1.1.1, by show 1 ≤ z.2 + b.2 + d.2; omega⟩, g3.2⟩⟩, ?_⟩
  · rw [flP_pre k P z _ hP hz, flP_short hb, flP_pre k P (z.1, z.2 + b.2 + d.2) t hP (fun h => by have := hz h; show ¬ z.2 + b.2 + d.2 < k; omega)]
  · rw [← jn_three ha hg]; exact jn_al _
  · rw [lg_append, lg_append]
    show _ + (z.2 + b.2 + d.2 + lg t) = _ + (z.2 + (b.2 + (d.2 + lg t)))
    omega
end Go.Proofs.Ytemmljngglnccaa
