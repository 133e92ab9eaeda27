/-
  Waves, plain: runs as pairs of a level and ticks; valid, joined, length, level at a tick, edges, parts, inverted, from edges.
-/
import Derived.Test.YtemmljngglnccaaG0
namespace Go.Proofs.Ytemmljngglnccaa
set_option linter.unusedVariables false

abbrev Rn := Int × Int
def okR (s : Int) (r : Rn) : Bool := decide (r.1 = 0 ∨ r.1 = 1) && decide (1 ≤ r.2) && decide (r.2 ≤ 1099511627776 - s)
def vr : Int → List Rn → Bool
  | _, [] => true
  | s, r :: l => okR s r && vr (s + r.2) l
def vl (l : List Rn) : Bool := decide (l.length ≤ 262144) && vr 0 l
def lg : List Rn → Int
  | [] => 0
  | r :: l => r.2 + lg l
/-- Each run is one: its level is 0 or 1, it has a tick. -/
def gd (l : List Rn) : Prop := ∀ r ∈ l, (r.1 = 0 ∨ r.1 = 1) ∧ 1 ≤ r.2

theorem lg_append (a b : List Rn) : lg (a ++ b) = lg a + lg b := by
  induction a with
  | nil => simp [lg]
  | cons r a ih => simp only [List.cons_append, lg, ih]; omega
theorem lg_one (r : Rn) : lg [r] = r.2 := by simp [lg]
theorem lg_take (l : List Rn) (j : Nat) (hj : j < l.length) : lg (l.take (j + 1)) = lg (l.take j) + l[j].2 := by
  rw [List.take_succ_eq_append_getElem hj, lg_append, lg_one]
theorem gd_nil : gd [] := by intro r h; cases h
theorem gd_cons {r : Rn} {l : List Rn} : gd (r :: l) ↔ ((r.1 = 0 ∨ r.1 = 1) ∧ 1 ≤ r.2) ∧ gd l := by
  unfold gd; simp
theorem gd_append {a b : List Rn} : gd (a ++ b) ↔ gd a ∧ gd b := by
  unfold gd
  constructor
  · exact fun h => ⟨fun r hr => h r (List.mem_append_left _ hr), fun r hr => h r (List.mem_append_right _ hr)⟩
  · rintro ⟨h1, h2⟩ r hr
    rcases List.mem_append.1 hr with h | h
    · exact h1 r h
    · exact h2 r h
theorem gd_take {l : List Rn} (h : gd l) (j : Nat) : gd (l.take j) := fun r hr => h r (List.mem_of_mem_take hr)
theorem gd_drop {l : List Rn} (h : gd l) (j : Nat) : gd (l.drop j) := fun r hr => h r (List.mem_of_mem_drop hr)
theorem gd_len {l : List Rn} (h : gd l) : (l.length : Int) ≤ lg l := by
  induction l with
  | nil => simp [lg]
  | cons r l ih =>
    rw [gd_cons] at h
    have := ih h.2
    simp only [List.length_cons, lg]
    omega
theorem gd_nonneg {l : List Rn} (h : gd l) : 0 ≤ lg l := by have := gd_len h; omega
theorem vr_iff (l : List Rn) (s : Int) (hs : s ≤ 1099511627776) : vr s l = true ↔ gd l ∧ s + lg l ≤ 1099511627776 := by
  induction l generalizing s with
  | nil => simp [vr, lg, gd_nil, hs]
  | cons r l ih =>
    simp only [vr, okR, Bool.and_eq_true, decide_eq_true_eq, gd_cons, lg]
    constructor
    · rintro ⟨⟨⟨h1, h2⟩, h3⟩, h4⟩
      have := (ih (s + r.2) (by omega)).1 h4
      exact ⟨⟨⟨h1, h2⟩, this.1⟩, by omega⟩
    · rintro ⟨⟨⟨h1, h2⟩, h3⟩, h4⟩
      have := gd_nonneg h3
      exact ⟨⟨⟨h1, h2⟩, by omega⟩, (ih (s + r.2) (by omega)).2 ⟨h3, by omega⟩⟩
theorem vl_iff (l : List Rn) : vl l = true ↔ l.length ≤ 262144 ∧ gd l ∧ lg l ≤ 1099511627776 := by
  unfold vl
  rw [Bool.and_eq_true, decide_eq_true_eq, vr_iff l 0 (by omega)]
  simp
theorem vl_nil : vl [] = true := rfl
theorem vr_append (a b : List Rn) (s : Int) : vr s (a ++ b) = (vr s a && vr (s + lg a) b) := by
  induction a generalizing s with
  | nil => simp [vr, lg]
  | cons r a ih => simp only [List.cons_append, vr, lg, ih, Bool.and_assoc, Int.add_assoc]
/-- What the loop of Valid knows: so far good, the sum, the rest. -/
theorem vr_step {l : List Rn} {j : Nat} (hj : j < l.length) (h : vr 0 (l.take j) = true) : vr 0 (l.take (j + 1)) = okR (lg (l.take j)) l[j] := by
  rw [List.take_succ_eq_append_getElem hj, vr_append, h]
  simp [vr]
theorem vr_bad {l : List Rn} {j : Nat} (hj : j < l.length) (h : okR (lg (l.take j)) l[j] = false) : vl l = false := by
  unfold vl
  rw [show l = l.take (j + 1) ++ l.drop (j + 1) from (List.take_append_drop _ _).symm, vr_append, List.take_succ_eq_append_getElem hj, vr_append]
  simp [vr, h]
theorem vr_all {l : List Rn} (hn : l.length ≤ 262144) (h : vr 0 l = true) : vl l = true := by
  unfold vl; rw [h, decide_eq_true hn]; rfl
theorem vr_range {l : List Rn} (h : vr 0 l = true) : 0 ≤ lg l ∧ lg l ≤ 1099511627776 := by
  have := (vr_iff l 0 (by omega)).1 h
  exact ⟨gd_nonneg this.1, by omega⟩
theorem lg_split (l : List Rn) (j : Nat) : lg l = lg (l.take j) + lg (l.drop j) := by
  rw [← lg_append, List.take_append_drop]
/-- Bounds of a prefix of a valid wave. -/
theorem lg_take_range {l : List Rn} (h : vl l = true) (j : Nat) : 0 ≤ lg (l.take j) ∧ lg (l.take j) ≤ 1099511627776 := by
  obtain ⟨_, h2, h3⟩ := (vl_iff l).1 h
  have := gd_nonneg (gd_take h2 j)
  have := gd_nonneg (gd_drop h2 j)
  have := lg_split l j
  omega
theorem el_range {l : List Rn} (h : vl l = true) (j : Nat) (hj : j < l.length) : (l[j].1 = 0 ∨ l[j].1 = 1) ∧ 1 ≤ l[j].2 ∧ l[j].2 ≤ 1099511627776 := by
  obtain ⟨_, h2, h3⟩ := (vl_iff l).1 h
  have h4 := h2 l[j] (List.getElem_mem hj)
  have h5 := (lg_take_range h (j + 1)).2
  have h6 := (lg_take_range h j).1
  rw [lg_take l j hj] at h5
  exact ⟨h4.1, h4.2, by omega⟩

/-! Joining. -/
def pt (o : List Rn) (r : Rn) : List Rn := match o.getLast? with
  | some x => if x.1 = r.1 then o.dropLast ++ [(x.1, x.2 + r.2)] else o ++ [r]
  | none => [r]
def jn (l : List Rn) : List Rn := l.foldl pt []
theorem pt_nil (r : Rn) : pt [] r = [r] := rfl
theorem pt_snoc (o : List Rn) (x r : Rn) : pt (o ++ [x]) r = if x.1 = r.1 then o ++ [(x.1, x.2 + r.2)] else o ++ [x] ++ [r] := by
  unfold pt
  simp
theorem nil_or_snoc (l : List Rn) : l = [] ∨ ∃ o x, l = o ++ [x] := by
  rcases List.eq_nil_or_concat l with h | ⟨o, x, h⟩
  · exact .inl h
  · exact .inr ⟨o, x, by simpa using h⟩
theorem jn_take (l : List Rn) (j : Nat) (hj : j < l.length) : jn (l.take (j + 1)) = pt (jn (l.take j)) l[j] := by
  unfold jn
  rw [List.take_succ_eq_append_getElem hj, List.foldl_append]
  rfl
theorem pt_lg (o : List Rn) (r : Rn) : lg (pt o r) = lg o + r.2 := by
  rcases nil_or_snoc o with rfl | ⟨o, x, rfl⟩
  · simp [pt_nil, lg]
  · rw [pt_snoc]
    split <;> simp [lg_append, lg] <;> omega
theorem pt_gd {o : List Rn} {r : Rn} (ho : gd o) (hr : gd [r]) : gd (pt o r) := by
  rcases nil_or_snoc o with rfl | ⟨o, x, rfl⟩
  · exact hr
  · rw [pt_snoc]
    rw [gd_append] at ho
    split
    · rw [gd_append]
      refine ⟨ho.1, ?_⟩
      have h1 := ho.2 x (by simp)
      have h2 := hr r (by simp)
      intro y hy
      rw [List.mem_singleton] at hy
      subst hy
      exact ⟨h1.1, by show 1 ≤ x.2 + r.2; omega⟩
    · rw [gd_append, gd_append]; exact ⟨ho, hr⟩
theorem pt_len (o : List Rn) (r : Rn) : (pt o r).length ≤ o.length + 1 ∧ o.length ≤ (pt o r).length ∧ 0 < (pt o r).length := by
  rcases nil_or_snoc o with rfl | ⟨o, x, rfl⟩
  · simp [pt_nil]
  · rw [pt_snoc]
    split <;> simp
theorem fold_lg (l o : List Rn) : lg (l.foldl pt o) = lg o + lg l := by
  induction l generalizing o with
  | nil => simp [lg]
  | cons r l ih => simp only [List.foldl_cons, ih, pt_lg, lg]; omega
theorem jn_lg (l : List Rn) : lg (jn l) = lg l := by unfold jn; rw [fold_lg]; simp [lg]
theorem fold_gd (l o : List Rn) (ho : gd o) (hl : gd l) : gd (l.foldl pt o) := by
  induction l generalizing o with
  | nil => exact ho
  | cons r l ih =>
    rw [gd_cons] at hl
    exact ih _ (pt_gd ho (by rw [gd_cons]; exact ⟨hl.1, gd_nil⟩)) hl.2
theorem jn_gd {l : List Rn} (h : gd l) : gd (jn l) := fold_gd l [] gd_nil h
theorem fold_len (l o : List Rn) : (l.foldl pt o).length ≤ o.length + l.length ∧ o.length ≤ (l.foldl pt o).length := by
  induction l generalizing o with
  | nil => simp
  | cons r l ih =>
    have h1 := ih (pt o r)
    have h2 := pt_len o r
    simp only [List.foldl_cons, List.length_cons]
    omega
theorem jn_len (l : List Rn) : (jn l).length ≤ l.length := by have := (fold_len l []).1; unfold jn; simpa using this
theorem jn_pos {l : List Rn} (h : l ≠ []) : 0 < (jn l).length := by
  cases l with
  | nil => exact absurd rfl h
  | cons r l =>
    have h1 := (fold_len l (pt [] r)).2
    have h2 := (pt_len [] r).2.2
    unfold jn
    rw [List.foldl_cons]
    omega
theorem jn_vl {l : List Rn} (h : vl l = true) : vl (jn l) = true := by
  obtain ⟨h1, h2, h3⟩ := (vl_iff l).1 h
  exact (vl_iff _).2 ⟨Nat.le_trans (jn_len l) h1, jn_gd h2, by rw [jn_lg]; exact h3⟩

/-! No two adjacent runs have one level. -/
def al (l : List Rn) : Prop := ∀ (i : Nat) (h : i + 1 < l.length), l[i].1 ≠ l[i + 1].1
theorem al_nil : al [] := fun i h => absurd h (by simp)
theorem al_cons {r s : Rn} {l : List Rn} : al (r :: s :: l) ↔ r.1 ≠ s.1 ∧ al (s :: l) := by
  constructor
  · intro h
    exact ⟨h 0 (by simp), fun i hi => h (i + 1) (by simpa using hi)⟩
  · rintro ⟨h1, h2⟩ i hi
    cases i with
    | zero => exact h1
    | succ i => exact h2 i (by simpa using hi)
theorem al_one (r : Rn) : al [r] := fun i h => absurd h (by simp)
theorem al_tail {r : Rn} {l : List Rn} (h : al (r :: l)) : al l := fun i hi => h (i + 1) (by simpa using hi)
theorem al_snoc {o : List Rn} {x r : Rn} (h : al (o ++ [x])) (hx : x.1 ≠ r.1) : al (o ++ [x] ++ [r]) := by
  induction o with
  | nil => simp only [List.nil_append, List.cons_append]; rw [al_cons]; exact ⟨hx, al_one r⟩
  | cons y o ih =>
    cases o with
    | nil =>
      simp only [List.cons_append, List.nil_append, al_cons] at h ⊢
      exact ⟨h.1, hx, al_one r⟩
    | cons z o =>
      simp only [List.cons_append, al_cons] at h ⊢ ih
      exact ⟨h.1, ih h.2⟩
theorem al_last {o : List Rn} {x y : Rn} (h : al (o ++ [x])) (hx : x.1 = y.1) : al (o ++ [y]) := by
  induction o with
  | nil => exact al_one y
  | cons z o ih =>
    cases o with
    | nil =>
      simp only [List.cons_append, List.nil_append, al_cons] at h ⊢
      exact ⟨by rw [← hx]; exact h.1, al_one y⟩
    | cons u o =>
      simp only [List.cons_append, al_cons] at h ⊢ ih
      exact ⟨h.1, ih h.2⟩
theorem pt_al {o : List Rn} {r : Rn} (h : al o) : al (pt o r) := by
  rcases nil_or_snoc o with rfl | ⟨o, x, rfl⟩
  · exact al_one r
  · rw [pt_snoc]
    split
    · exact al_last h rfl
    · rename_i hx; exact al_snoc h hx
theorem fold_al (l o : List Rn) (h : al o) : al (l.foldl pt o) := by
  induction l generalizing o with
  | nil => exact h
  | cons r l ih => exact ih _ (pt_al h)
theorem jn_al (l : List Rn) : al (jn l) := fold_al l [] al_nil
theorem al_mid {o l : List Rn} {x r : Rn} (h : al (o ++ [x] ++ r :: l)) : x.1 ≠ r.1 := by
  have h1 := h o.length (by simp)
  have e1 : (o ++ [x] ++ r :: l)[o.length]'(by simp) = x := by
    rw [List.getElem_append_left (by simp)]; simp
  have e2 : (o ++ [x] ++ r :: l)[o.length + 1]'(by simp) = r := by
    rw [List.getElem_append_right (by simp)]; simp
  rw [e1, e2] at h1
  exact h1
theorem fold_id (l o : List Rn) (h : al (o ++ l)) : l.foldl pt o = o ++ l := by
  induction l generalizing o with
  | nil => simp
  | cons r l ih =>
    have e : pt o r = o ++ [r] := by
      rcases nil_or_snoc o with rfl | ⟨o, x, rfl⟩
      · rfl
      · rw [pt_snoc, if_neg (al_mid h)]
    rw [List.foldl_cons, e, ih (o ++ [r]) (by simpa using h)]
    simp
theorem jn_id {l : List Rn} (h : al l) : jn l = l := by unfold jn; rw [fold_id l [] (by simpa using h)]; rfl
theorem jn_jn (l : List Rn) : jn (jn l) = jn l := jn_id (jn_al l)

/-! The level at a tick. -/
def atv : List Rn → Int → Int × Bool
  | [], _ => (-1, false)
  | r :: l, k => if k < r.2 then (r.1, true) else atv l (k - r.2)
theorem atv_cons (r : Rn) (l : List Rn) (k : Int) : atv (r :: l) k = if k < r.2 then (r.1, true) else atv l (k - r.2) := rfl
theorem atv_drop {l : List Rn} {j : Nat} (hj : j < l.length) (k : Int) : atv (l.drop j) k = if k < l[j].2 then (l[j].1, true) else atv (l.drop (j + 1)) (k - l[j].2) := by
  rw [List.drop_eq_getElem_cons hj]; rfl
theorem atv_append (a b : List Rn) (k : Int) (ha : gd a) (hk : 0 ≤ k) : atv (a ++ b) k = if k < lg a then atv a k else atv b (k - lg a) := by
  induction a generalizing k with
  | nil => simp only [List.nil_append, lg, Int.sub_zero]; rw [if_neg (by omega)]
  | cons r a ih =>
    rw [gd_cons] at ha
    have := gd_nonneg ha.2
    have e : lg (r :: a) = r.2 + lg a := rfl
    rw [List.cons_append, atv_cons, atv_cons, e]
    by_cases h : k < r.2
    · rw [if_pos h, if_pos h, if_pos (by omega)]
    · rw [if_neg h, if_neg h, ih (k - r.2) ha.2 (by omega)]
      by_cases h2 : k - r.2 < lg a
      · rw [if_pos h2, if_pos (by omega)]
      · rw [if_neg h2, if_neg (by omega)]
        congr 1
        omega
theorem atv_pt (o : List Rn) (r : Rn) (l : List Rn) (k : Int) (ho : gd o) (hr : gd [r]) (hk : 0 ≤ k) : atv (pt o r ++ l) k = atv (o ++ r :: l) k := by
  rcases nil_or_snoc o with rfl | ⟨o, x, rfl⟩
  · rfl
  · rw [pt_snoc]
    rw [gd_append] at ho
    have h1 := ho.2 x (by simp)
    have h2 := hr r (by simp)
    split
    · rename_i e
      rw [List.append_assoc, List.append_assoc, atv_append o _ k ho.1 hk, atv_append o _ k ho.1 hk]
      by_cases h : k < lg o
      · rw [if_pos h, if_pos h]
      · rw [if_neg h, if_neg h]
        generalize k - lg o = q
        simp only [List.cons_append, List.nil_append, atv]
        by_cases g1 : q < x.2
        · rw [if_pos (by omega), if_pos g1]
        · rw [if_neg g1]
          by_cases g2 : q - x.2 < r.2
          · rw [if_pos (by omega), if_pos g2, e]
          · rw [if_neg (by omega), if_neg g2]
            congr 1
            omega
    · rw [List.append_assoc]; rfl
theorem atv_fold (l o : List Rn) (k : Int) (ho : gd o) (hl : gd l) (hk : 0 ≤ k) : atv (l.foldl pt o) k = atv (o ++ l) k := by
  induction l generalizing o with
  | nil => simp
  | cons r l ih =>
    rw [gd_cons] at hl
    have hr : gd [r] := by rw [gd_cons]; exact ⟨hl.1, gd_nil⟩
    rw [List.foldl_cons, ih _ (pt_gd ho hr) hl.2, atv_pt o r l k ho hr hk]
theorem atv_jn {l : List Rn} (k : Int) (hl : gd l) (hk : 0 ≤ k) : atv (jn l) k = atv l k := by
  unfold jn; rw [atv_fold l [] k gd_nil hl hk]; rfl

/-! Inverted. -/
def iv (l : List Rn) : List Rn := l.map fun r => (1 - r.1, r.2)
theorem iv_iv (l : List Rn) : iv (iv l) = l := by
  unfold iv
  rw [List.map_map]
  conv => rhs; rw [← List.map_id l]
  apply List.map_congr_left
  intro r _
  show (1 - (1 - r.1), r.2) = r
  rw [show 1 - (1 - r.1) = r.1 by omega]
theorem iv_lg (l : List Rn) : lg (iv l) = lg l := by
  induction l with
  | nil => rfl
  | cons r l ih => unfold iv at ih ⊢; simp only [List.map_cons, lg, ih]
theorem iv_gd {l : List Rn} (h : gd l) : gd (iv l) := by
  intro y hy
  obtain ⟨r, hr, rfl⟩ := List.mem_map.1 hy
  have := h r hr
  exact ⟨by show 1 - r.1 = 0 ∨ 1 - r.1 = 1; omega, this.2⟩
theorem iv_len (l : List Rn) : (iv l).length = l.length := by simp [iv]
theorem iv_vl {l : List Rn} (h : vl l = true) : vl (iv l) = true := by
  obtain ⟨h1, h2, h3⟩ := (vl_iff l).1 h
  exact (vl_iff _).2 ⟨by rw [iv_len]; exact h1, iv_gd h2, by rw [iv_lg]; exact h3⟩
theorem iv_at (l : List Rn) (k : Int) : atv (iv l) k = if (atv l k).2 = true then (1 - (atv l k).1, true) else (-1, false) := by
  induction l generalizing k with
  | nil => rfl
  | cons r l ih =>
    have e : iv (r :: l) = (1 - r.1, r.2) :: iv l := rfl
    rw [e, atv_cons]
    have e2 := atv_cons r l k
    by_cases h : k < r.2
    · rw [if_pos h] at e2; rw [e2, if_pos h]; rfl
    · rw [if_neg h] at e2; rw [e2, if_neg h, ih]
theorem iv_take (l : List Rn) (j : Nat) (hj : j < l.length) : iv (l.take (j + 1)) = iv (l.take j) ++ [(1 - l[j].1, l[j].2)] := by
  unfold iv
  rw [List.take_succ_eq_append_getElem hj, List.map_append]; rfl
theorem atv_one (l : List Rn) (k : Int) (hl : gd l) : ((atv l k).2 = true ∧ ((atv l k).1 = 0 ∨ (atv l k).1 = 1)) ∨ atv l k = (-1, false) := by
  induction l generalizing k with
  | nil => exact .inr rfl
  | cons r l ih =>
    rw [gd_cons] at hl
    simp only [atv]
    by_cases h : k < r.2
    · rw [if_pos h]; exact .inl ⟨rfl, hl.1.1⟩
    · rw [if_neg h]; exact ih _ hl.2

/-! Of any list: of one that is not a wave, nothing. -/
def cl (l : List Rn) : List Rn := if vl l = true then jn l else []
def lgV (l : List Rn) : Int := if vl l = true then lg l else 0
def atV (l : List Rn) (k : Int) : Int × Bool := if vl l = true ∧ 0 ≤ k then atv l k else (-1, false)
def ivV (l : List Rn) : List Rn := if vl l = true then iv l else []
theorem cl_yes {l : List Rn} (h : vl l = true) : cl l = jn l := by unfold cl; rw [if_pos h]
theorem cl_no {l : List Rn} (h : ¬ vl l = true) : cl l = [] := by unfold cl; rw [if_neg h]
theorem lgV_yes {l : List Rn} (h : vl l = true) : lgV l = lg l := by unfold lgV; rw [if_pos h]
theorem lgV_no {l : List Rn} (h : ¬ vl l = true) : lgV l = 0 := by unfold lgV; rw [if_neg h]
theorem atV_yes {l : List Rn} {k : Int} (h : vl l = true) (hk : 0 ≤ k) : atV l k = atv l k := by unfold atV; rw [if_pos ⟨h, hk⟩]
theorem atV_no {l : List Rn} {k : Int} (h : ¬ (vl l = true ∧ 0 ≤ k)) : atV l k = (-1, false) := by unfold atV; rw [if_neg h]
theorem ivV_yes {l : List Rn} (h : vl l = true) : ivV l = iv l := by unfold ivV; rw [if_pos h]
theorem ivV_no {l : List Rn} (h : ¬ vl l = true) : ivV l = [] := by unfold ivV; rw [if_neg h]
theorem cl_vl (l : List Rn) : vl (cl l) = true := by
  by_cases h : vl l = true
  · rw [cl_yes h]; exact jn_vl h
  · rw [cl_no h]; rfl
theorem cl_len (l : List Rn) : (cl l).length ≤ l.length := by
  by_cases h : vl l = true
  · rw [cl_yes h]; exact jn_len l
  · rw [cl_no h]; simp
theorem cl_al (l : List Rn) : al (cl l) := by
  by_cases h : vl l = true
  · rw [cl_yes h]; exact jn_al l
  · rw [cl_no h]; exact al_nil
theorem cl_cl (l : List Rn) : cl (cl l) = cl l := by rw [cl_yes (cl_vl l), jn_id (cl_al l)]
theorem cl_lg (l : List Rn) : lgV (cl l) = lgV l := by
  rw [lgV_yes (cl_vl l)]
  by_cases h : vl l = true
  · rw [cl_yes h, lgV_yes h, jn_lg]
  · rw [cl_no h, lgV_no h]; rfl
theorem cl_at (l : List Rn) (k : Int) : atV (cl l) k = atV l k := by
  by_cases hk : 0 ≤ k
  · rw [atV_yes (cl_vl l) hk]
    by_cases h : vl l = true
    · rw [cl_yes h, atV_yes h hk, atv_jn k ((vl_iff l).1 h).2.1 hk]
    · rw [cl_no h, atV_no (fun x => h x.1)]; rfl
  · rw [atV_no (fun x => hk x.2), atV_no (fun x => hk x.2)]
theorem ivV_vl (l : List Rn) : vl (ivV l) = true := by
  by_cases h : vl l = true
  · rw [ivV_yes h]; exact iv_vl h
  · rw [ivV_no h]; rfl
theorem ivV_at (l : List Rn) (k : Int) : atV (ivV l) k = if (atV l k).2 = true then (1 - (atV l k).1, true) else (-1, false) := by
  by_cases hk : 0 ≤ k
  · rw [atV_yes (ivV_vl l) hk]
    by_cases h : vl l = true
    · rw [ivV_yes h, atV_yes h hk, iv_at]
    · rw [ivV_no h, atV_no (fun x => h x.1)]; rfl
  · rw [atV_no (fun x => hk x.2), atV_no (fun x => hk x.2)]; rfl
theorem ivV_twice {l : List Rn} (h : vl l = true) : ivV (ivV l) = l := by rw [ivV_yes (ivV_vl l), ivV_yes h, iv_iv]
theorem atV_one (l : List Rn) (k : Int) : ((atV l k).2 = true ∧ ((atV l k).1 = 0 ∨ (atV l k).1 = 1)) ∨ atV l k = (-1, false) := by
  unfold atV
  split
  · rename_i h; exact atv_one l k ((vl_iff l).1 h.1).2.1
  · exact .inr rfl

end Go.Proofs.Ytemmljngglnccaa
