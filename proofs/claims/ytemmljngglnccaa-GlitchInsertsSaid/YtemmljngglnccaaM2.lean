/-
  Waves, plain: parts, edges, from edges, two waves joined.
-/
import Derived.Test.YtemmljngglnccaaM1
namespace Go.Proofs.Ytemmljngglnccaa
set_option linter.unusedVariables false

/-! Parts. -/
def s1 (b : Int) (r : Rn) (f t : Int) : List Rn := if max b f < min (b + r.2) t then [(r.1, min (b + r.2) t - max b f)] else []
def sl : Int → List Rn → Int → Int → List Rn
  | _, [], _, _ => []
  | b, r :: l, f, t => s1 b r f t ++ sl (b + r.2) l f t
theorem sl_cons (b : Int) (r : Rn) (l : List Rn) (f t : Int) : sl b (r :: l) f t = s1 b r f t ++ sl (b + r.2) l f t := rfl
theorem sl_snoc (b : Int) (l : List Rn) (r : Rn) (f t : Int) : sl b (l ++ [r]) f t = sl b l f t ++ s1 (b + lg l) r f t := by
  induction l generalizing b with
  | nil => simp [sl, lg]
  | cons x l ih =>
    have e : lg (x :: l) = x.2 + lg l := rfl
    rw [List.cons_append, sl_cons, sl_cons, ih, e, List.append_assoc, Int.add_assoc]
theorem sl_take (l : List Rn) (j : Nat) (hj : j < l.length) (f t : Int) : sl 0 (l.take (j + 1)) f t = sl 0 (l.take j) f t ++ s1 (lg (l.take j)) l[j] f t := by
  rw [List.take_succ_eq_append_getElem hj, sl_snoc, Int.zero_add]
def slV (l : List Rn) (f t : Int) : List Rn := if vl l = true then sl 0 l f t else []
theorem slV_yes {l : List Rn} {f t : Int} (h : vl l = true) : slV l f t = sl 0 l f t := by unfold slV; rw [if_pos h]
theorem slV_no {l : List Rn} {f t : Int} (h : ¬ vl l = true) : slV l f t = [] := by unfold slV; rw [if_neg h]
theorem s1_len (b : Int) (r : Rn) (f t : Int) : (s1 b r f t).length ≤ 1 := by unfold s1; split <;> simp
theorem sl_len (l : List Rn) (b f t : Int) : (sl b l f t).length ≤ l.length := by
  induction l generalizing b with
  | nil => simp [sl]
  | cons r l ih =>
    rw [sl_cons, List.length_append, List.length_cons]
    have := ih (b + r.2)
    have := s1_len b r f t
    omega
theorem s1_gd {b : Int} {r : Rn} {f t : Int} (h : r.1 = 0 ∨ r.1 = 1) : gd (s1 b r f t) := by
  unfold s1; split
  · rename_i hlt; rw [gd_cons]; exact ⟨⟨h, by show 1 ≤ min (b + r.2) t - max b f; omega⟩, gd_nil⟩
  · exact gd_nil
theorem sl_gd {l : List Rn} {b f t : Int} (h : gd l) : gd (sl b l f t) := by
  induction l generalizing b with
  | nil => exact gd_nil
  | cons r l ih =>
    rw [gd_cons] at h
    rw [sl_cons, gd_append]
    exact ⟨s1_gd h.1.1, ih h.2⟩
theorem s1_lg {b : Int} {r : Rn} {f t : Int} (h : 1 ≤ r.2) : lg (s1 b r f t) ≤ r.2 := by
  unfold s1; split
  · rw [lg_one]; show min (b + r.2) t - max b f ≤ r.2; omega
  · simp only [lg]; omega
theorem sl_lg {l : List Rn} {b f t : Int} (h : gd l) : lg (sl b l f t) ≤ lg l := by
  induction l generalizing b with
  | nil => exact Int.le_refl _
  | cons r l ih =>
    rw [gd_cons] at h
    have := @s1_lg b r f t h.1.2
    have := @ih (b + r.2) h.2
    rw [sl_cons, lg_append]
    show _ ≤ r.2 + lg l
    omega
theorem slV_len (l : List Rn) (f t : Int) : (slV l f t).length ≤ l.length := by
  by_cases h : vl l = true
  · rw [slV_yes h]; exact sl_len l 0 f t
  · rw [slV_no h]; simp
theorem slV_vl (l : List Rn) (f t : Int) : vl (slV l f t) = true := by
  by_cases h : vl l = true
  · rw [slV_yes h]
    obtain ⟨h1, h2, h3⟩ := (vl_iff l).1 h
    exact (vl_iff _).2 ⟨Nat.le_trans (sl_len l 0 f t) h1, sl_gd h2, Int.le_trans (sl_lg h2) h3⟩
  · rw [slV_no h]; rfl
/-- The two parts, side by side. -/
theorem sl_late (l : List Rn) (b at' L : Int) (hl : gd l) (h : at' ≤ b) (hL : b + lg l ≤ L) : sl b l 0 at' = [] ∧ sl b l at' L = l := by
  induction l generalizing b with
  | nil => exact ⟨rfl, rfl⟩
  | cons r l ih =>
    rw [gd_cons] at hl
    have e : lg (r :: l) = r.2 + lg l := rfl
    rw [e] at hL
    have h0 := gd_nonneg hl.2
    obtain ⟨i1, i2⟩ := ih (b + r.2) hl.2 (by omega) (by omega)
    rw [sl_cons, sl_cons, i1, i2]
    unfold s1
    rw [if_neg (by omega), if_pos (by omega)]
    refine ⟨rfl, ?_⟩
    show (r.1, min (b + r.2) L - max b at') :: l = r :: l
    rw [show min (b + r.2) L - max b at' = r.2 by omega]
theorem sl_two (l : List Rn) (o : List Rn) (b at' L : Int) (hl : gd l) (hb : 0 ≤ b) (hL : b + lg l ≤ L) :
    (sl b l 0 at' ++ sl b l at' L).foldl pt o = l.foldl pt o ∧ (sl b l 0 at').length + (sl b l at' L).length ≤ l.length + 1 := by
  induction l generalizing b o with
  | nil => exact ⟨rfl, by simp [sl]⟩
  | cons r l ih =>
    by_cases c1 : at' ≤ b
    · obtain ⟨i1, i2⟩ := sl_late (r :: l) b at' L hl c1 hL
      rw [i1, i2]
      exact ⟨rfl, by simp⟩
    rw [gd_cons] at hl
    have e : lg (r :: l) = r.2 + lg l := rfl
    rw [e] at hL
    have h0 := gd_nonneg hl.2
    by_cases c2 : b + r.2 ≤ at'
    · obtain ⟨i1, i2⟩ := ih (pt o r) (b + r.2) hl.2 (by omega) (by omega)
      rw [sl_cons, sl_cons]
      have e1 : s1 b r 0 at' = [r] := by
        unfold s1; rw [if_pos (by omega), show min (b + r.2) at' - max b 0 = r.2 by omega]
      have e2 : s1 b r at' L = [] := by unfold s1; rw [if_neg (by omega)]
      rw [e1, e2]
      refine ⟨?_, by simp only [List.length_append, List.length_cons, List.length_nil]; omega⟩
      rw [List.nil_append, List.append_assoc, List.foldl_append]
      exact i1
    · obtain ⟨i1, i2⟩ := sl_late l (b + r.2) at' L hl.2 (by omega) (by omega)
      rw [sl_cons, sl_cons, i1, i2]
      have e1 : s1 b r 0 at' = [(r.1, at' - b)] := by
        unfold s1; rw [if_pos (by omega), show min (b + r.2) at' - max b 0 = at' - b by omega]
      have e2 : s1 b r at' L = [(r.1, b + r.2 - at')] := by
        unfold s1; rw [if_pos (by omega), show min (b + r.2) L - max b at' = b + r.2 - at' by omega]
      rw [e1, e2]
      refine ⟨?_, by simp only [List.length_append, List.length_cons, List.length_nil]; omega⟩
      show l.foldl pt (pt (pt o (r.1, at' - b)) (r.1, b + r.2 - at')) = l.foldl pt (pt o r)
      congr 1
      rcases nil_or_snoc o with rfl | ⟨o, x, rfl⟩
      · show pt ([] ++ [(r.1, at' - b)]) (r.1, b + r.2 - at') = _
        rw [pt_snoc, if_pos rfl]
        show [(r.1, at' - b + (b + r.2 - at'))] = [r]
        rw [show at' - b + (b + r.2 - at') = r.2 by omega]
      · rw [pt_snoc, pt_snoc]
        by_cases hx : x.1 = r.1
        · rw [if_pos hx, if_pos hx, pt_snoc, if_pos hx]
          show o ++ [(x.1, x.2 + (at' - b) + (b + r.2 - at'))] = _
          rw [show x.2 + (at' - b) + (b + r.2 - at') = x.2 + r.2 by omega]
        · rw [if_neg hx, if_neg hx, pt_snoc, if_pos rfl]
          show _ ++ [(r.1, at' - b + (b + r.2 - at'))] = _
          rw [show at' - b + (b + r.2 - at') = r.2 by omega]

/-! Two waves, one after the other. -/
def jnR (a b : List Rn) : List Rn × Int :=
  if ¬ (vl a = true ∧ vl b = true) then ([], 1)
  else if 262144 < a.length + b.length then ([], 6)
  else if 1099511627776 < lgV a + lgV b then ([], 2)
  else (jn (a ++ b), 0)
theorem jnR_1 {a b : List Rn} (h : ¬ (vl a = true ∧ vl b = true)) : jnR a b = ([], 1) := by unfold jnR; rw [if_pos h]
theorem jnR_6 {a b : List Rn} (h : vl a = true ∧ vl b = true) (h6 : 262144 < a.length + b.length) : jnR a b = ([], 6) := by unfold jnR; rw [if_neg (fun x => x h), if_pos h6]
theorem jnR_2 {a b : List Rn} (h : vl a = true ∧ vl b = true) (h6 : ¬ 262144 < a.length + b.length) (h2 : 1099511627776 < lgV a + lgV b) : jnR a b = ([], 2) := by unfold jnR; rw [if_neg (fun x => x h), if_neg h6, if_pos h2]
theorem jnR_0 {a b : List Rn} (h : vl a = true ∧ vl b = true) (h6 : ¬ 262144 < a.length + b.length) (h2 : ¬ 1099511627776 < lgV a + lgV b) : jnR a b = (jn (a ++ b), 0) := by unfold jnR; rw [if_neg (fun x => x h), if_neg h6, if_neg h2]
theorem jnR_len (a b : List Rn) : (jnR a b).1.length ≤ 262144 := by
  unfold jnR
  split
  · simp
  · split
    · simp
    · split
      · simp
      · rename_i h _
        have := jn_len (a ++ b)
        rw [List.length_append] at this
        show (jn (a ++ b)).length ≤ 262144
        omega
theorem lgV_range (l : List Rn) : 0 ≤ lgV l ∧ lgV l ≤ 1099511627776 := by
  by_cases h : vl l = true
  · rw [lgV_yes h]
    obtain ⟨_, h2, h3⟩ := (vl_iff l).1 h
    exact ⟨gd_nonneg h2, h3⟩
  · rw [lgV_no h]; omega
/-- P8.3 and P8.4: the two parts make the whole. -/
theorem parts {l : List Rn} (at' : Int) (h : vl l = true) (hn : l.length < 262144) : jnR (slV l 0 at') (slV l at' (lgV l)) = (cl l, 0) := by
  obtain ⟨h1, h2, h3⟩ := (vl_iff l).1 h
  have h0 := gd_nonneg h2
  obtain ⟨k1, k2⟩ := sl_two l [] 0 at' (lg l) h2 (Int.le_refl _) (by omega)
  have e1 : lg (sl 0 l 0 at') + lg (sl 0 l at' (lg l)) = lg l := by
    have e2 : jn (sl 0 l 0 at' ++ sl 0 l at' (lg l)) = jn l := k1
    have e3 := jn_lg (sl 0 l 0 at' ++ sl 0 l at' (lg l))
    rw [e2, jn_lg, lg_append] at e3
    exact e3.symm
  rw [lgV_yes h]
  have hv := And.intro (slV_vl l 0 at') (slV_vl l at' (lg l))
  have g1 : lgV (slV l 0 at') = lg (sl 0 l 0 at') := by rw [lgV_yes hv.1, slV_yes h]
  have g2 : lgV (slV l at' (lg l)) = lg (sl 0 l at' (lg l)) := by rw [lgV_yes hv.2, slV_yes h]
  rw [jnR_0 hv (by rw [slV_yes h, slV_yes h]; omega) (by rw [g1, g2]; omega), slV_yes h, slV_yes h, cl_yes h]
  unfold jn
  rw [k1]

/-! Edges. -/
def eg : Int → List Rn → List Int
  | _, [] => []
  | b, r :: l => b :: eg (b + r.2) l
theorem eg_cons (b : Int) (r : Rn) (l : List Rn) : eg b (r :: l) = b :: eg (b + r.2) l := rfl
theorem eg_snoc (b : Int) (l : List Rn) (r : Rn) : eg b (l ++ [r]) = eg b l ++ [b + lg l] := by
  induction l generalizing b with
  | nil => simp [eg, lg]
  | cons x l ih =>
    have e : lg (x :: l) = x.2 + lg l := rfl
    rw [List.cons_append, eg_cons, eg_cons, ih, e, List.cons_append, Int.add_assoc]
theorem eg_len (b : Int) (l : List Rn) : (eg b l).length = l.length := by
  induction l generalizing b with
  | nil => rfl
  | cons r l ih => rw [eg_cons, List.length_cons, List.length_cons, ih]
def es (c : List Rn) : List Int := (eg 0 c).drop 1
theorem es_zero (c : List Rn) (h : 0 < c.length) : es (c.take (0 + 1)) = es (c.take 0) := by
  cases c with
  | nil => simp at h
  | cons r c => rfl
theorem es_succ (c : List Rn) (j : Nat) (hj : j < c.length) (h0 : 0 < j) : es (c.take (j + 1)) = es (c.take j) ++ [lg (c.take j)] := by
  unfold es
  rw [List.take_succ_eq_append_getElem hj, eg_snoc, Int.zero_add, List.drop_append_of_le_length (by rw [eg_len, List.length_take]; omega)]
theorem es_len (c : List Rn) : (es c).length = c.length - 1 := by unfold es; rw [List.length_drop, eg_len]
theorem es_len_take (c : List Rn) (j : Nat) : (es (c.take j)).length ≤ c.length := by rw [es_len, List.length_take]; omega

/-! From edges. -/
def le' : Int → List Int → Int
  | b, [] => b
  | _, e :: q => le' e q
def lv : Int → List Int → Int
  | v, [] => v
  | v, _ :: q => lv (1 - v) q
def fp : Int → Int → List Int → List Rn
  | _, _, [] => []
  | v, b, e :: q => (v, e - b) :: fp (1 - v) e q
def oe : Int → List Int → Int → Bool
  | _, [], _ => true
  | b, e :: q, n => decide (b < e) && decide (e < n) && oe e q n
theorem le_snoc (q : List Int) (b e : Int) : le' b (q ++ [e]) = e := by
  induction q generalizing b with
  | nil => rfl
  | cons x q ih => exact ih x
theorem lv_snoc (q : List Int) (v e : Int) : lv v (q ++ [e]) = 1 - lv v q := by
  induction q generalizing v with
  | nil => rfl
  | cons x q ih => exact ih (1 - v)
theorem fp_snoc (q : List Int) (v b e : Int) : fp v b (q ++ [e]) = fp v b q ++ [(lv v q, e - le' b q)] := by
  induction q generalizing v b with
  | nil => rfl
  | cons x q ih => show _ :: fp (1 - v) x (q ++ [e]) = _; rw [ih]; rfl
theorem oe_snoc (q : List Int) (b e n : Int) : oe b (q ++ [e]) n = (oe b q n && (decide (le' b q < e) && decide (e < n))) := by
  induction q generalizing b with
  | nil => show (decide (b < e) && decide (e < n) && true) = (true && (decide (b < e) && decide (e < n))); rw [Bool.and_true, Bool.true_and]
  | cons x q ih => show (_ && oe x (q ++ [e]) n) = _; rw [ih, ← Bool.and_assoc]; rfl
theorem oe_append (q p : List Int) (b n : Int) (h : oe b (q ++ p) n = true) : oe b q n = true := by
  induction q generalizing b with
  | nil => rfl
  | cons x q ih =>
    have h' : (decide (b < x) && decide (x < n) && oe x (q ++ p) n) = true := h
    rw [Bool.and_eq_true] at h'
    show (decide (b < x) && decide (x < n) && oe x q n) = true
    rw [Bool.and_eq_true]
    exact ⟨h'.1, ih x h'.2⟩
theorem lv_one (q : List Int) (v : Int) (h : v = 0 ∨ v = 1) : lv v q = 0 ∨ lv v q = 1 := by
  induction q generalizing v with
  | nil => exact h
  | cons x q ih => exact ih (1 - v) (by omega)
theorem le_range (q : List Int) (b n : Int) (h : oe b q n = true) (hb : b ≤ n) : b ≤ le' b q ∧ le' b q ≤ n := by
  induction q generalizing b with
  | nil => exact ⟨Int.le_refl _, hb⟩
  | cons x q ih =>
    have h' : (decide (b < x) && decide (x < n) && oe x q n) = true := h
    rw [Bool.and_eq_true, Bool.and_eq_true, decide_eq_true_eq, decide_eq_true_eq] at h'
    have := ih x h'.2 (by omega)
    show b ≤ le' x q ∧ le' x q ≤ n
    omega
theorem fp_len (q : List Int) (v b : Int) : (fp v b q).length = q.length := by
  induction q generalizing v b with
  | nil => rfl
  | cons x q ih => show (fp (1 - v) x q).length + 1 = _; rw [ih]; rfl
/-- The whole wave. -/
def fe (v b : Int) (q : List Int) (n : Int) : List Rn := fp v b q ++ (if le' b q < n then [(lv v q, n - le' b q)] else [])
def feR (v : Int) (q : List Int) (n : Int) : List Rn × Int :=
  if ¬ (v = 0 ∨ v = 1) then ([], 1)
  else if n < 0 ∨ 1099511627776 < n then ([], 2)
  else if 262144 ≤ q.length then ([], 6)
  else if oe 0 q n = true then (fe v 0 q n, 0) else ([], 7)
theorem feR_1 {v n : Int} {q : List Int} (h : ¬ (v = 0 ∨ v = 1)) : feR v q n = ([], 1) := by unfold feR; rw [if_pos h]
theorem feR_2 {v n : Int} {q : List Int} (h : v = 0 ∨ v = 1) (h2 : n < 0 ∨ 1099511627776 < n) : feR v q n = ([], 2) := by unfold feR; rw [if_neg (fun x => x h), if_pos h2]
theorem feR_6 {v n : Int} {q : List Int} (h : v = 0 ∨ v = 1) (h2 : ¬ (n < 0 ∨ 1099511627776 < n)) (h6 : 262144 ≤ q.length) : feR v q n = ([], 6) := by unfold feR; rw [if_neg (fun x => x h), if_neg h2, if_pos h6]
theorem feR_7 {v n : Int} {q : List Int} (h : v = 0 ∨ v = 1) (h2 : ¬ (n < 0 ∨ 1099511627776 < n)) (h6 : ¬ 262144 ≤ q.length) (h7 : oe 0 q n = false) : feR v q n = ([], 7) := by unfold feR; rw [if_neg (fun x => x h), if_neg h2, if_neg h6, if_neg (by rw [h7]; exact Bool.false_ne_true)]
theorem feR_0 {v n : Int} {q : List Int} (h : v = 0 ∨ v = 1) (h2 : ¬ (n < 0 ∨ 1099511627776 < n)) (h6 : ¬ 262144 ≤ q.length) (h7 : oe 0 q n = true) : feR v q n = (fe v 0 q n, 0) := by unfold feR; rw [if_neg (fun x => x h), if_neg h2, if_neg h6, if_pos h7]
theorem fe_len (v b : Int) (q : List Int) (n : Int) : (fe v b q n).length ≤ q.length + 1 := by
  unfold fe
  rw [List.length_append, fp_len]
  split <;> simp
theorem feR_len (v : Int) (q : List Int) (n : Int) : (feR v q n).1.length ≤ 262144 := by
  unfold feR
  split
  · simp
  · split
    · simp
    · split
      · simp
      · rename_i h
        split
        · have := fe_len v 0 q n
          show (fe v 0 q n).length ≤ 262144
          omega
        · simp
theorem oe_take {q : List Int} {j : Nat} (hj : j < q.length) {n : Int} (h : oe 0 (q.take j) n = true) : oe 0 (q.take (j + 1)) n = (decide (le' 0 (q.take j) < q[j]) && decide (q[j] < n)) := by
  rw [List.take_succ_eq_append_getElem hj, oe_snoc, h, Bool.true_and]
theorem oe_bad {q : List Int} {j : Nat} {n : Int} (h : oe 0 (q.take j) n = false) : oe 0 q n = false := by
  cases hq : oe 0 q n with
  | false => rfl
  | true =>
    rw [show q = q.take j ++ q.drop j from (List.take_append_drop _ _).symm] at hq
    rw [oe_append _ _ _ _ hq] at h
    exact h
theorem le_take {q : List Int} {j : Nat} (hj : j < q.length) (b : Int) : le' b (q.take (j + 1)) = q[j] := by
  rw [List.take_succ_eq_append_getElem hj, le_snoc]
theorem lv_take {q : List Int} {j : Nat} (hj : j < q.length) (v : Int) : lv v (q.take (j + 1)) = 1 - lv v (q.take j) := by
  rw [List.take_succ_eq_append_getElem hj, lv_snoc]
theorem fp_take {q : List Int} {j : Nat} (hj : j < q.length) (v : Int) : fp v 0 (q.take (j + 1)) = fp v 0 (q.take j) ++ [(lv v (q.take j), q[j] - le' 0 (q.take j))] := by
  rw [List.take_succ_eq_append_getElem hj, fp_snoc]

/-- P8.7: a wave out of its first level, its edges, its length. -/
theorem fe_cons (v b e : Int) (q : List Int) (n : Int) : fe v b (e :: q) n = (v, e - b) :: fe (1 - v) e q n := rfl
theorem fe_eg (c : List Rn) (r : Rn) (b n : Int) (hg : gd (r :: c)) (ha : al (r :: c)) (hn : n = b + lg (r :: c)) :
    fe r.1 b (eg (b + r.2) c) n = r :: c ∧ oe b (eg (b + r.2) c) n = true := by
  induction c generalizing r b with
  | nil =>
    have h1 := (gd_cons.1 hg).1
    have e : lg [r] = r.2 := lg_one r
    rw [e] at hn
    refine ⟨?_, rfl⟩
    show fp r.1 b [] ++ (if le' b [] < n then [(lv r.1 [], n - le' b [])] else []) = [r]
    show [] ++ (if b < n then [(r.1, n - b)] else []) = [r]
    rw [if_pos (by omega), show n - b = r.2 by omega]
    rfl
  | cons s c ih =>
    have h1 := (gd_cons.1 hg)
    have h2 := gd_cons.1 h1.2
    have h3 := al_cons.1 ha
    have hn1 := gd_nonneg h2.2
    have e1 : lg (r :: s :: c) = r.2 + (s.2 + lg c) := rfl
    have e2 : lg (s :: c) = s.2 + lg c := rfl
    rw [e1] at hn
    obtain ⟨i1, i2⟩ := ih s (b + r.2) h1.2 h3.2 (by rw [e2]; omega)
    rw [eg_cons, fe_cons]
    have e3 : s.1 = 1 - r.1 := by
      have := h1.1.1; have := h2.1.1; have := h3.1
      omega
    rw [← e3, i1]
    refine ⟨by rw [show b + r.2 - b = r.2 by omega], ?_⟩
    show (decide (b < b + r.2) && decide (b + r.2 < n) && oe (b + r.2) (eg (b + r.2 + s.2) c) n) = true
    rw [i2, decide_eq_true (by omega), decide_eq_true (by omega)]; rfl
theorem atv_zero (r : Rn) (c : List Rn) (h : 1 ≤ r.2) : atv (r :: c) 0 = (r.1, true) := by rw [atv_cons, if_pos (by omega)]
theorem again {l : List Rn} (h : vl l = true) (h0 : l ≠ []) : (atV l 0).2 = true ∧ feR (atV l 0).1 (es (cl l)) (lgV l) = (cl l, 0) := by
  obtain ⟨h1, h2, h3⟩ := (vl_iff l).1 h
  have hp := jn_pos h0
  have hg := jn_gd h2
  have ha := jn_al l
  have hl := jn_lg l
  have hlen := jn_len l
  rw [← cl_at, cl_yes h, lgV_yes h, atV_yes (jn_vl h) (Int.le_refl _)]
  match jn l, hp, hg, ha, hl, hlen with
  | r :: c, _, hg, ha, hl, hlen =>
    have g1 := (gd_cons.1 hg).1
    rw [atv_zero r c g1.2]
    refine ⟨rfl, ?_⟩
    obtain ⟨i1, i2⟩ := fe_eg c r 0 (lg l) hg ha (by rw [hl]; omega)
    have e : es (r :: c) = eg (0 + r.2) c := rfl
    have hn0 := gd_nonneg hg
    rw [hl] at hn0
    rw [feR_0 g1.1 (by omega) (by rw [es_len, List.length_cons]; simp only [List.length_cons] at hlen; omega) (by rw [e]; exact i2), e]
    show (fe r.1 0 (eg (0 + r.2) c) (lg l), _) = _
    rw [i1]

end Go.Proofs.Ytemmljngglnccaa
