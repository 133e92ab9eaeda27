/-
  Short pulses: the mathematics of inserting.
-/
import Derived.Test.YtemmljngglnccaaR1
namespace Go.Proofs.Ytemmljngglnccaa
set_option linter.unusedVariables false
set_option linter.unusedSimpArgs false

/-! The level by edges. -/
def pf : Int → List Int → Int → Int
  | v, [], _ => v
  | v, e :: q, k => if e ≤ k then pf (1 - v) q k else v
theorem pf_cons (v e : Int) (q : List Int) (k : Int) : pf v (e :: q) k = if e ≤ k then pf (1 - v) q k else v := rfl
theorem pf_neg (q : List Int) (k : Int) : ∀ v : Int, pf (1 - v) q k = 1 - pf v q k := by
  induction q with
  | nil => intro v; rfl
  | cons e q ih =>
    intro v
    rw [pf_cons, pf_cons]
    split
    · exact ih (1 - v)
    · rfl
theorem oe_cons {b e n : Int} {q : List Int} : oe b (e :: q) n = true ↔ b < e ∧ e < n ∧ oe e q n = true := by
  show (decide (b < e) && decide (e < n) && oe e q n) = true ↔ _
  rw [Bool.and_eq_true, Bool.and_eq_true, decide_eq_true_eq, decide_eq_true_eq, and_assoc]
theorem oe_mono {b c n : Int} {q : List Int} (h : oe c q n = true) (hb : b ≤ c) : oe b q n = true := by
  cases q with
  | nil => rfl
  | cons e q => rw [oe_cons] at h ⊢; exact ⟨by omega, h.2⟩
theorem pf_before {b n k : Int} {q : List Int} (h : oe b q n = true) (hk : k ≤ b) (v : Int) : pf v q k = v := by
  cases q with
  | nil => rfl
  | cons e q => rw [oe_cons] at h; rw [pf_cons, if_neg (by omega)]
theorem fe_at {n k : Int} (q : List Int) : ∀ (v b : Int), oe b q n = true → b ≤ k → k < n → atv (fe v b q n) (k - b) = (pf v q k, true) := by
  induction q with
  | nil =>
    intro v b _ h0 h1
    show atv ([] ++ (if b < n then [(v, n - b)] else [])) (k - b) = (v, true)
    rw [if_pos (by omega), List.nil_append, atv_cons, if_pos (by show k - b < n - b; omega)]
  | cons e q ih =>
    intro v b h h0 h1
    rw [oe_cons] at h
    rw [fe_cons, atv_cons, pf_cons]
    by_cases hk : k < e
    · rw [if_pos (by show k - b < e - b; omega), if_neg (by omega)]
    · rw [if_neg (by show ¬ k - b < e - b; omega), if_pos (by omega), show k - b - (v, e - b).2 = k - e by show k - b - (e - b) = _; omega]
      exact ih _ _ h.2.2 (by omega) h1
theorem fe_good {n : Int} (q : List Int) : ∀ (v b : Int), (v = 0 ∨ v = 1) → oe b q n = true → b ≤ n → gd (fe v b q n) ∧ al (fe v b q n) ∧ lg (fe v b q n) = n - b ∧ ∀ x t, fe v b q n = x :: t → x.1 = v := by
  induction q with
  | nil =>
    intro v b hv _ hb
    have e : fe v b [] n = if b < n then [(v, n - b)] else [] := rfl
    rw [e]
    split
    · refine ⟨gd_cons.2 ⟨⟨hv, by show 1 ≤ n - b; omega⟩, gd_nil⟩, al_one _, lg_one _, fun x t h => ?_⟩
      rw [← (List.cons.inj h).1]
    · refine ⟨gd_nil, al_nil, by show (0 : Int) = _; omega, fun x t h => by cases h⟩
  | cons e q ih =>
    intro v b hv h hb
    rw [oe_cons] at h
    obtain ⟨i1, i2, i3, i4⟩ := ih (1 - v) e (by omega) h.2.2 (by omega)
    rw [fe_cons]
    refine ⟨gd_cons.2 ⟨⟨hv, by show 1 ≤ e - b; omega⟩, i1⟩, ?_, ?_, fun x t h => by rw [← (List.cons.inj h).1]⟩
    · generalize fe (1 - v) e q n = X at *
      cases X with
      | nil => exact al_one _
      | cons x t => exact al_cons.2 ⟨by rw [i4 x t rfl]; show v ≠ 1 - v; omega, i2⟩
    · show e - b + lg (fe (1 - v) e q n) = _
      rw [i3]; omega
theorem le_lt {n : Int} (q : List Int) : ∀ b : Int, oe b q n = true → b < n → le' b q < n := by
  induction q with
  | nil => intro b _ h; exact h
  | cons e q ih => intro b h hb; rw [oe_cons] at h; exact ih e h.2.2 h.2.1
theorem fe_length {v b n : Int} {q : List Int} (h : oe b q n = true) (hb : b < n) : (fe v b q n).length = q.length + 1 := by
  unfold fe
  rw [List.length_append, fp_len, if_pos (le_lt q b h hb)]; rfl
/-- A tick turned: left out, or put in. -/
def tn : List Int → Int → List Int
  | [], x => [x]
  | e :: q, x => if e < x then e :: tn q x else if e = x then q else x :: e :: q
theorem tn_nil (x : Int) : tn [] x = [x] := rfl
theorem tn_cons (e : Int) (q : List Int) (x : Int) : tn (e :: q) x = if e < x then e :: tn q x else if e = x then q else x :: e :: q := rfl
theorem tn_len (q : List Int) (x : Int) : (tn q x).length ≤ q.length + 1 := by
  induction q with
  | nil => exact Nat.le_refl _
  | cons e q ih =>
    rw [tn_cons]
    split
    · simp only [List.length_cons]; omega
    · split
      · simp only [List.length_cons]; omega
      · exact Nat.le_refl _
theorem oe_tn {n x : Int} (q : List Int) : ∀ b : Int, oe b q n = true → b < x → x < n → oe b (tn q x) n = true := by
  induction q with
  | nil => intro b _ h1 h2; rw [tn_nil, oe_cons]; exact ⟨h1, h2, rfl⟩
  | cons e q ih =>
    intro b h h1 h2
    have h' := oe_cons.1 h
    rw [tn_cons]
    split
    · rename_i c; exact oe_cons.2 ⟨h'.1, h'.2.1, ih e h'.2.2 c h2⟩
    · split
      · exact oe_mono h'.2.2 (by omega)
      · exact oe_cons.2 ⟨h1, h2, oe_cons.2 ⟨by omega, h'.2⟩⟩
theorem pf_tn {n x k : Int} (q : List Int) : ∀ (v b : Int), oe b q n = true → pf v (tn q x) k = if x ≤ k then 1 - pf v q k else pf v q k := by
  induction q with
  | nil =>
    intro v b _
    rw [tn_nil, pf_cons]; rfl
  | cons e q ih =>
    intro v b h
    have h' := oe_cons.1 h
    rw [tn_cons]
    by_cases c1 : e < x
    · rw [if_pos c1, pf_cons, pf_cons, ih (1 - v) e h'.2.2]
      by_cases c2 : e ≤ k
      · rw [if_pos c2, if_pos c2]
      · rw [if_neg c2, if_neg c2, if_neg (by omega)]
    · rw [if_neg c1]
      by_cases c2 : e = x
      · rw [if_pos c2, pf_cons]
        by_cases c3 : x ≤ k
        · rw [if_pos c3, if_pos (by omega), pf_neg]; omega
        · rw [if_neg c3, if_neg (by omega), pf_before h'.2.2 (by omega)]
      · rw [if_neg c2, pf_cons]
        by_cases c3 : x ≤ k
        · rw [if_pos c3, if_pos c3, pf_neg]
        · rw [if_neg c3, if_neg c3, pf_cons, if_neg (by omega)]
/-- The turned list by the place that a search finds. -/
theorem tn_at {x : Int} (q : List Int) : ∀ i : Nat, i ≤ q.length → (∀ j (h : j < q.length), j < i → q[j] < x) → (∀ h : i < q.length, x ≤ q[i]) →
    tn q x = if h : i < q.length then (if q[i] = x then q.take i ++ q.drop (i + 1) else q.take i ++ x :: q.drop i) else q ++ [x] := by
  induction q with
  | nil => intro i hi _ _; rw [dif_neg (by simp)]; rfl
  | cons e q ih =>
    intro i hi h1 h2
    cases i with
    | zero =>
      have := h2 (by simp)
      simp only [List.getElem_cons_zero] at this
      rw [dif_pos (by simp), tn_cons, if_neg (by omega)]
      simp only [List.getElem_cons_zero, List.take_zero, List.nil_append, List.drop_zero, Nat.zero_add, List.drop_one, List.tail_cons]
    | succ i =>
      have := h1 0 (by simp) (by omega)
      simp only [List.getElem_cons_zero] at this
      simp only [List.length_cons] at hi
      have := ih i (by omega) (fun j hj hji => by have := h1 (j + 1) (by simp only [List.length_cons]; omega) (by omega); simpa using this) (fun h => by have := h2 (by simp only [List.length_cons]; omega); simpa using this)
      rw [tn_cons, if_pos (by omega), this]
      by_cases hq : i < q.length
      · rw [dif_pos hq, dif_pos (by simp only [List.length_cons]; omega)]
        simp only [List.getElem_cons_succ, List.take_succ_cons, List.drop_succ_cons, List.cons_append]
        split <;> rfl
      · rw [dif_neg hq, dif_neg (by simp only [List.length_cons]; omega)]; rfl

/-! The specification's: three parts. -/
theorem sl_lg2 {l : List Rn} {b f t : Int} (h : gd l) : lg (sl b l f t) = max 0 (min (b + lg l) t - max b f) := by
  induction l generalizing b with
  | nil => simp only [sl, lg]; omega
  | cons r l ih =>
    rw [gd_cons] at h
    have h0 := gd_nonneg h.2
    have e : lg (r :: l) = r.2 + lg l := rfl
    rw [sl_cons, lg_append, ih h.2, e]
    unfold s1
    split
    · rw [lg_one]; simp only; omega
    · simp only [lg]; omega
theorem sl_at {l : List Rn} {b f t k : Int} (h : gd l) (hk : 0 ≤ k) (hkt : k < t - max b f) : atv (sl b l f t) k = atv l (max b f + k - b) := by
  induction l generalizing b k with
  | nil => rfl
  | cons r l ih =>
    rw [gd_cons] at h
    rw [sl_cons]
    by_cases c : max b f < b + r.2
    · unfold s1
      rw [if_pos (by omega), List.cons_append, List.nil_append, atv_cons, atv_cons]
      simp only
      by_cases c2 : k < min (b + r.2) t - max b f
      · rw [if_pos c2, if_pos (by omega)]
      · rw [if_neg c2, if_neg (by omega), ih h.2 (by omega) (by omega)]
        congr 1
        omega
    · unfold s1
      rw [if_neg (by omega), List.nil_append, atv_cons, if_neg (by omega), ih h.2 hk (by omega)]
      congr 1
      omega
theorem atv_in {l : List Rn} {k : Int} (hl : gd l) (h0 : 0 ≤ k) (hk : k < lg l) : (atv l k).2 = true ∧ ((atv l k).1 = 0 ∨ (atv l k).1 = 1) := by
  induction l generalizing k with
  | nil => simp only [lg] at hk; omega
  | cons r l ih =>
    rw [gd_cons] at hl
    have e : lg (r :: l) = r.2 + lg l := rfl
    rw [e] at hk
    rw [atv_cons]
    split
    · exact ⟨rfl, hl.1.1⟩
    · exact ih hl.2 (by omega) (by omega)
def outW (l : List Rn) (a t : Int) : List Rn := sl 0 l 0 a ++ iv (sl 0 l a (a + t)) ++ sl 0 l (a + t) (lg l)
theorem out_len (l : List Rn) (a t : Int) : (outW l a t).length ≤ 3 * l.length := by
  unfold outW
  rw [List.length_append, List.length_append, iv_len]
  have := sl_len l 0 0 a; have := sl_len l 0 a (a + t); have := sl_len l 0 (a + t) (lg l)
  omega
theorem out_good {l : List Rn} {a t : Int} (hg : gd l) (h0 : 0 ≤ a) (h1 : 1 ≤ t) (h2 : a + t ≤ lg l) : gd (outW l a t) ∧ lg (outW l a t) = lg l ∧
    ∀ k, 0 ≤ k → k < lg l → atv (outW l a t) k = (if a ≤ k ∧ k < a + t then 1 - (atv l k).1 else (atv l k).1, true) := by
  have g1 : gd (sl 0 l 0 a) := sl_gd hg
  have g2 : gd (iv (sl 0 l a (a + t))) := iv_gd (sl_gd hg)
  have g3 : gd (sl 0 l (a + t) (lg l)) := sl_gd hg
  have e1 : lg (sl 0 l 0 a) = a := by rw [sl_lg2 hg]; omega
  have e2 : lg (iv (sl 0 l a (a + t))) = t := by rw [iv_lg, sl_lg2 hg]; omega
  have e3 : lg (sl 0 l (a + t) (lg l)) = lg l - (a + t) := by rw [sl_lg2 hg]; omega
  unfold outW
  refine ⟨gd_append.2 ⟨gd_append.2 ⟨g1, g2⟩, g3⟩, by rw [lg_append, lg_append, e1, e2, e3]; omega, fun k k0 k1 => ?_⟩
  have hin := atv_in hg k0 k1
  have hp : atv l k = ((atv l k).1, true) := Prod.ext rfl hin.1
  rw [atv_append _ _ k (gd_append.2 ⟨g1, g2⟩) k0, atv_append _ _ k g1 k0, lg_append, e1, e2]
  by_cases c1 : k < a
  · rw [if_pos (by omega), if_pos c1, if_neg (by omega), sl_at hg k0 (by omega), show max 0 0 + k - 0 = k by omega]
    exact hp
  · by_cases c2 : k < a + t
    · rw [if_pos c2, if_neg c1, if_pos (by omega), iv_at, sl_at hg (by omega) (by omega), show max 0 a + (k - a) - 0 = k by omega, if_pos hin.1]
    · rw [if_neg c2, if_neg (by omega), sl_at hg (by omega) (by omega), show max 0 (a + t) + (k - (a + t)) - 0 = k by omega]
      exact hp
/-- Insert: the error or the runs. -/
def inR (l : List Rn) (a t : Int) : List Rn × Int :=
  if vl l = true then (if a < 0 ∨ t < 1 ∨ lg l - a < t then ([], 2) else if 262144 < (jn (outW l a t)).length then ([], 6) else (jn (outW l a t), 0)) else ([], 1)
theorem inR_1 {l : List Rn} {a t : Int} (h : ¬ vl l = true) : inR l a t = ([], 1) := by unfold inR; rw [if_neg h]
theorem inR_2 {l : List Rn} {a t : Int} (h : vl l = true) (h2 : a < 0 ∨ t < 1 ∨ lg l - a < t) : inR l a t = ([], 2) := by unfold inR; rw [if_pos h, if_pos h2]
theorem inR_6 {l : List Rn} {a t : Int} (h : vl l = true) (h2 : ¬ (a < 0 ∨ t < 1 ∨ lg l - a < t)) (h6 : 262144 < (jn (outW l a t)).length) : inR l a t = ([], 6) := by unfold inR; rw [if_pos h, if_neg h2, if_pos h6]
theorem inR_0 {l : List Rn} {a t : Int} (h : vl l = true) (h2 : ¬ (a < 0 ∨ t < 1 ∨ lg l - a < t)) (h6 : ¬ 262144 < (jn (outW l a t)).length) : inR l a t = (jn (outW l a t), 0) := by unfold inR; rw [if_pos h, if_neg h2, if_neg h6]
theorem inR_ok {l : List Rn} {a t : Int} (h : (inR l a t).2 = 0) : vl l = true ∧ 0 ≤ a ∧ 1 ≤ t ∧ a + t ≤ lg l ∧ (jn (outW l a t)).length ≤ 262144 ∧ inR l a t = (jn (outW l a t), 0) := by
  by_cases h1 : vl l = true
  · by_cases h2 : a < 0 ∨ t < 1 ∨ lg l - a < t
    · rw [inR_2 h1 h2] at h; cases h
    · by_cases h6 : 262144 < (jn (outW l a t)).length
      · rw [inR_6 h1 h2 h6] at h; cases h
      · exact ⟨h1, by omega, by omega, by omega, by omega, inR_0 h1 h2 h6⟩
  · rw [inR_1 h1] at h; cases h
theorem inR_no {l : List Rn} {a t : Int} (h : ¬ (inR l a t).2 = 0) : (inR l a t).1 = [] := by
  unfold inR at h ⊢
  split
  · split
    · rfl
    · split
      · rfl
      · rename_i a1 a2 a3; rw [if_pos a1, if_neg a2, if_neg a3] at h; exact absurd rfl h
  · rfl
theorem inR_len (l : List Rn) (a t : Int) : (inR l a t).1.length ≤ 262144 := by
  by_cases h : (inR l a t).2 = 0
  · obtain ⟨_, _, _, _, h5, h6⟩ := inR_ok h; rw [h6]; exact h5
  · rw [inR_no h]; simp
/-- The program's edges make the specification's runs. -/
theorem ins_edges {l : List Rn} {a t v : Int} {q q' : List Int} (h : vl l = true) (h0 : 0 ≤ a) (h1 : 1 ≤ t) (h2 : a + t ≤ lg l)
    (hv : v = if a = 0 then 1 - (atV l 0).1 else (atV l 0).1) (hq : q = if a = 0 then es (cl l) else tn (es (cl l)) a) (hq' : q' = if a + t < lg l then tn q (a + t) else q) :
    feR v q' (lg l) = inR l a t := by
  obtain ⟨v1, v2, v3⟩ := (vl_iff l).1 h
  have hne : l ≠ [] := by rintro rfl; simp only [lg] at h2; omega
  obtain ⟨w1, w2⟩ := again h hne
  rw [lgV_yes h] at w2
  have hv01 := atV_one l 0
  have hlv : (atV l 0).1 = 0 ∨ (atV l 0).1 = 1 := by
    rcases hv01 with h | h
    · exact h.2
    · rw [h] at w1; cases w1
  have hoe : oe 0 (es (cl l)) (lg l) = true ∧ fe (atV l 0).1 0 (es (cl l)) (lg l) = cl l := by
    cases hc : oe 0 (es (cl l)) (lg l) with
    | true =>
      refine ⟨rfl, ?_⟩
      have hn : ¬ 262144 ≤ (es (cl l)).length := by
        intro hh
        rw [feR_6 hlv (by omega) hh] at w2
        exact absurd (show (6 : Int) = 0 from congrArg Prod.snd w2) (by decide)
      rw [feR_0 hlv (by omega) hn hc] at w2
      exact congrArg Prod.fst w2
    | false =>
      by_cases hh : 262144 ≤ (es (cl l)).length
      · rw [feR_6 hlv (by omega) hh] at w2; exact absurd (show (6 : Int) = 0 from congrArg Prod.snd w2) (by decide)
      · rw [feR_7 hlv (by omega) hh hc] at w2; exact absurd (show (7 : Int) = 0 from congrArg Prod.snd w2) (by decide)
  obtain ⟨ho, hf⟩ := hoe
  have hlev : ∀ k, 0 ≤ k → k < lg l → (atv l k).1 = pf (atV l 0).1 (es (cl l)) k := by
    intro k k0 k1
    have e := fe_at (es (cl l)) (atV l 0).1 0 ho k0 k1
    rw [hf, cl_yes h, Int.sub_zero, atv_jn k v2 k0] at e
    rw [e, ← cl_yes h]
  generalize es (cl l) = s at *
  generalize (atV l 0).1 = v0 at *
  have hv' : v = 0 ∨ v = 1 := by rw [hv]; split <;> omega
  have hoq : oe 0 q (lg l) = true := by
    rw [hq]; split
    · exact ho
    · exact oe_tn s 0 ho (by omega) (by omega)
  have hoq' : oe 0 q' (lg l) = true := by
    rw [hq']; split
    · exact oe_tn q 0 hoq (by omega) (by omega)
    · exact hoq
  have hpq : ∀ k, 0 ≤ k → pf v q k = if a ≤ k then 1 - pf v0 s k else pf v0 s k := by
    intro k k0
    rw [hv, hq]
    by_cases ha : a = 0
    · rw [if_pos ha, if_pos ha, pf_neg, if_pos (by omega)]
    · rw [if_neg ha, if_neg ha, pf_tn s v0 0 ho]
  have hpq' : ∀ k, 0 ≤ k → k < lg l → pf v q' k = if a ≤ k ∧ k < a + t then 1 - pf v0 s k else pf v0 s k := by
    intro k k0 k1
    rw [hq']
    by_cases c : a + t < lg l
    · rw [if_pos c, pf_tn q v 0 hoq, hpq k k0]
      by_cases c1 : a ≤ k
      · by_cases c2 : a + t ≤ k
        · rw [if_pos c2, if_pos c1, if_neg (by omega)]; omega
        · rw [if_neg c2, if_pos c1, if_pos (by omega)]
      · rw [if_neg (by omega), if_neg c1, if_neg (by omega)]
    · rw [if_neg c, hpq k k0]
      by_cases c1 : a ≤ k
      · rw [if_pos c1, if_pos (by omega)]
      · rw [if_neg c1, if_neg (by omega)]
  obtain ⟨f1, f2, f3, _⟩ := fe_good q' v 0 hv' hoq' (by omega)
  obtain ⟨o1, o2, o3⟩ := out_good v2 h0 h1 h2
  have hsame : fe v 0 q' (lg l) = jn (outW l a t) := by
    refine al_same f2 f1 f3 (jn_al _) (jn_gd o1) (by rw [jn_lg, o2]; omega) fun k k0 k1 => ?_
    have e := fe_at q' v 0 hoq' k0 (by omega)
    rw [Int.sub_zero] at e k1
    rw [e, atv_jn k o1 k0, o3 k k0 k1, hpq' k k0 k1, hlev k k0 k1]
  have hlen : (jn (outW l a t)).length = q'.length + 1 := by rw [← hsame]; exact fe_length hoq' (by omega)
  by_cases h6 : 262144 ≤ q'.length
  · rw [feR_6 hv' (by omega) h6, inR_6 h (by omega) (by omega)]
  · rw [feR_0 hv' (by omega) h6 hoq', inR_0 h (by omega) (by omega), hsame]
/-- What has been inserted is a clean wave, as long as before. -/
theorem in_good {l : List Rn} {a t : Int} (h : (inR l a t).2 = 0) : vl (inR l a t).1 = true ∧ al (inR l a t).1 ∧ lg (inR l a t).1 = lg l := by
  obtain ⟨h1, h2, h3, h4, h5, h6⟩ := inR_ok h
  obtain ⟨v1, v2, v3⟩ := (vl_iff l).1 h1
  obtain ⟨o1, o2, o3⟩ := out_good v2 h2 h3 h4
  rw [h6]
  exact ⟨(vl_iff _).2 ⟨h5, jn_gd o1, by rw [jn_lg, o2]; exact v3⟩, jn_al _, by rw [jn_lg, o2]⟩
/-- Inserting twice restores the clean wave. -/
theorem in_twice {l : List Rn} {a t : Int} (h : (inR l a t).2 = 0) : inR (inR l a t).1 a t = (cl l, 0) := by
  obtain ⟨g1, g2, g3⟩ := in_good h
  obtain ⟨h1, h2, h3, h4, h5, h6⟩ := inR_ok h
  obtain ⟨v1, v2, v3⟩ := (vl_iff l).1 h1
  obtain ⟨o1, o2, o3⟩ := out_good v2 h2 h3 h4
  rw [h6] at g1 g2 g3 ⊢
  simp only at g1 g2 g3 ⊢
  generalize hm : jn (outW l a t) = m at *
  obtain ⟨m1, m2, m3⟩ := (vl_iff m).1 g1
  obtain ⟨p1, p2, p3⟩ := out_good m2 h2 h3 (by omega)
  have e : jn (outW m a t) = jn l := by
    refine al_same (jn_al _) (jn_gd p1) (jn_lg _) (jn_al _) (jn_gd v2) (by rw [jn_lg, p2, g3]) fun k k0 k1 => ?_
    rw [p2] at k1
    have hl := atv_in v2 k0 (by omega)
    rw [atv_jn k p1 k0, atv_jn k v2 k0, p3 k k0 k1, ← hm, atv_jn k o1 k0, o3 k k0 (by omega)]
    refine Prod.ext ?_ hl.1.symm
    show (if a ≤ k ∧ k < a + t then 1 - (if a ≤ k ∧ k < a + t then 1 - (atv l k).1 else (atv l k).1) else (if a ≤ k ∧ k < a + t then 1 - (atv l k).1 else (atv l k).1)) = (atv l k).1
    split <;> omega
  have hn := jn_len l
  rw [inR_0 g1 (by omega) (by rw [e]; omega), e, cl_yes h1]

/-! A short pulse, inserted far from all edges. -/
theorem cn_append (k : Int) : ∀ (A : List Rn) (z : Rn) (B : List Rn), cn k (A ++ z :: B) = (A.filter fun x => decide (x.2 < k)).length + cn k (z :: B) := by
  intro A
  induction A with
  | nil => intro z B; simp
  | cons a A ih =>
    intro z B
    obtain ⟨y, t, e⟩ : ∃ y t, A ++ z :: B = y :: t := by cases A <;> exact ⟨_, _, rfl⟩
    have i := ih z B
    rw [List.cons_append, List.filter_cons]
    rw [e] at i ⊢
    rw [cn_cons, i]
    by_cases h : a.2 < k
    · simp [h]; omega
    · simp [h]
theorem es_mem {c K : List Rn} {z : Rn} {t : List Rn} (e : c = K ++ z :: t) (hK : K ≠ []) : lg K ∈ es c := by
  have key : ∀ (K : List Rn) (b : Int) (z : Rn) (t : List Rn), b + lg K ∈ eg b (K ++ z :: t) := by
    intro K
    induction K with
    | nil => intro b z t; show b + 0 ∈ b :: _; rw [Int.add_zero]; exact List.mem_cons_self
    | cons y K ih =>
      intro b z t
      show b + (y.2 + lg K) ∈ b :: eg (b + y.2) (K ++ z :: t)
      rw [show b + (y.2 + lg K) = b + y.2 + lg K by omega]
      exact List.mem_cons_of_mem _ (ih _ z t)
  subst e
  cases K with
  | nil => exact absurd rfl hK
  | cons y K =>
    show y.2 + lg K ∈ (0 :: eg (0 + y.2) (K ++ z :: t)).drop 1
    rw [List.drop_one, List.tail_cons, Int.zero_add]
    exact key K y.2 z t
theorem run_of {k : Int} : ∀ (c : List Rn), gd c → 0 ≤ k → k < lg c → ∃ K z t, c = K ++ z :: t ∧ lg K ≤ k ∧ k < lg K + z.2 := by
  intro c
  induction c generalizing k with
  | nil => intro _ _ h; simp only [lg] at h; omega
  | cons r c ih =>
    intro hg h0 h1
    rw [gd_cons] at hg
    have e : lg (r :: c) = r.2 + lg c := rfl
    rw [e] at h1
    by_cases h : k < r.2
    · exact ⟨[], r, c, rfl, by simp only [lg]; omega, by simp only [lg]; omega⟩
    · obtain ⟨K, z, t, e1, e2, e3⟩ := ih (k := k - r.2) hg.2 (by omega) (by omega)
      exact ⟨r :: K, z, t, by rw [e1]; rfl, by show r.2 + lg K ≤ k; omega, by show k < r.2 + lg K + z.2; omega⟩
/-- Far from all edges. -/
def farP (l : List Rn) (a t k : Int) : Prop := 1 ≤ a ∧ 1 ≤ t ∧ a + t + 1 ≤ lg l ∧ ∀ e ∈ es (cl l), ¬ (e ≤ a ∧ a - e < k) ∧ ¬ (a < e ∧ e - a < t) ∧ ¬ (a < e ∧ e - a - t < k)
theorem in_far {l : List Rn} {a t k : Int} (h : vl l = true) (hn : l.length ≤ 200000) (hc : cn k ((cl l).drop 1) = 0) (htk : t < k) (hf : farP l a t k) :
    (inR l a t).2 = 0 ∧ cn k ((cl (inR l a t).1).drop 1) = 1 ∧ flP k (cl (inR l a t).1) = cl l := by
  obtain ⟨v1, v2, v3⟩ := (vl_iff l).1 h
  obtain ⟨f1, f2, f3, f4⟩ := hf
  have hlen := out_len l a t
  have hlj := jn_len (outW l a t)
  have hcl := cl_yes h
  have ca : al (cl l) := cl_al l
  have cg : gd (cl l) := by rw [hcl]; exact jn_gd v2
  have cL : lg (cl l) = lg l := by rw [hcl]; exact jn_lg l
  have hid := flP_id k _ hc
  have hcn := cl_len l
  obtain ⟨o1, o2, o3⟩ := out_good v2 (show 0 ≤ a by omega) f2 (by omega)
  have hat : ∀ q, 0 ≤ q → atv l q = atv (cl l) q := fun q hq => by rw [hcl, atv_jn q v2 hq]
  obtain ⟨K, z, T, e, e1, e2⟩ := run_of (k := a) (cl l) cg (by omega) (by omega)
  have gK := gd_append.1 (by rw [← e]; exact cg : gd (K ++ z :: T))
  have gz := gd_cons.1 gK.2
  have nT := gd_nonneg gz.2
  have nK := gd_nonneg gK.1
  have eL : lg K + (z.2 + lg T) = lg l := by rw [← cL, e, lg_append]; rfl
  have hK : K ≠ [] → k ≤ a - lg K := by
    intro hk
    have := (f4 _ (es_mem e hk)).1
    omega
  have hT : T ≠ [] → k ≤ lg K + z.2 - a - t ∧ t ≤ lg K + z.2 - a := by
    intro hk
    obtain ⟨y, T', rfl⟩ := List.exists_cons_of_ne_nil hk
    have hm : lg (K ++ [z]) ∈ es (cl l) := es_mem (K := K ++ [z]) (z := y) (t := T') (by rw [e]; simp) (by simp)
    rw [lg_append, lg_one] at hm
    have := f4 _ hm
    omega
  have hx : 1 ≤ a - lg K := by
    by_cases hk : K = []
    · subst hk; simp only [lg]; omega
    · have := hK hk; omega
  have hy : 1 ≤ lg K + z.2 - a - t := by
    by_cases hk : T = []
    · subst hk; simp only [lg] at eL; omega
    · have := (hT hk).1; omega
  -- the wave with the pulse
  obtain ⟨m, hm⟩ : ∃ m, m = K ++ (z.1, a - lg K) :: (1 - z.1, t) :: (z.1, lg K + z.2 - a - t) :: T := ⟨_, rfl⟩
  have mg : gd m := by
    rw [hm]
    exact gd_append.2 ⟨gK.1, gd_cons.2 ⟨⟨gz.1.1, hx⟩, gd_cons.2 ⟨⟨by show 1 - z.1 = 0 ∨ 1 - z.1 = 1; omega, f2⟩, gd_cons.2 ⟨⟨gz.1.1, hy⟩, gz.2⟩⟩⟩⟩
  have mL : lg m = lg l := by
    rw [hm, lg_append]
    show lg K + (a - lg K + (t + (lg K + z.2 - a - t + lg T))) = lg l
    omega
  have ma : al m := by
    rw [hm]
    have key : ∀ (o : List Rn) (u v : Rn) (p q : List Rn), al (o ++ u :: p) → u.1 = v.1 → al (v :: q) → al (o ++ v :: q) := by
      intro o
      induction o with
      | nil => intro u v p q _ _ h; exact h
      | cons y o ih =>
        intro u v p q h e h2
        cases o with
        | nil =>
          simp only [List.cons_append, List.nil_append, al_cons] at h ⊢
          exact ⟨by rw [← e]; exact h.1, h2⟩
        | cons w o =>
          simp only [List.cons_append, al_cons] at h ⊢ ih
          exact ⟨h.1, ih u v p q h.2 e h2⟩
    have tail : ∀ (o p : List Rn), al (o ++ p) → al p := by
      intro o
      induction o with
      | nil => intro p h; exact h
      | cons y o ih => intro p h; exact ih p (al_tail h)
    have hzT : al (z :: T) := tail K _ (by rw [← e]; exact ca)
    refine key K z _ T _ (by rw [← e]; exact ca) rfl (al_cons.2 ⟨by show z.1 ≠ 1 - z.1; omega, al_cons.2 ⟨by show 1 - z.1 ≠ z.1; omega, ?_⟩⟩)
    cases T with
    | nil => exact al_one _
    | cons y T => exact al_cons.2 ⟨(al_cons.1 hzT).1, (al_cons.1 hzT).2⟩
  have hjm : jn (outW l a t) = m := by
    refine al_same (jn_al _) (jn_gd o1) (by rw [jn_lg, o2]) ma mg mL fun q q0 q1 => ?_
    have hq : atv l q = atv (K ++ z :: T) q := by rw [hat q q0, e]
    rw [atv_jn q o1 q0, o3 q q0 q1, hm, hq, atv_append _ _ q gK.1 q0, atv_append _ _ q gK.1 q0]
    by_cases c1 : q < lg K
    · rw [if_pos c1, if_pos c1, if_neg (by omega)]
      have := atv_in gK.1 q0 c1
      exact Prod.ext rfl this.1.symm
    · rw [if_neg c1, if_neg c1]
      simp only [atv_cons]
      by_cases c2 : q < a
      · rw [if_neg (show ¬ (a ≤ q ∧ q < a + t) by omega), if_pos (show q - lg K < z.2 by omega), if_pos (show q - lg K < a - lg K by omega)]
      · by_cases c3 : q < a + t
        · rw [if_pos (show a ≤ q ∧ q < a + t by omega), if_pos (show q - lg K < z.2 by omega), if_neg (show ¬ q - lg K < a - lg K by omega), if_pos (show q - lg K - (a - lg K) < t by omega)]
        · by_cases c4 : q - lg K < z.2
          · rw [if_neg (show ¬ (a ≤ q ∧ q < a + t) by omega), if_pos c4, if_neg (show ¬ q - lg K < a - lg K by omega), if_neg (show ¬ q - lg K - (a - lg K) < t by omega), if_pos (show q - lg K - (a - lg K) - t < lg K + z.2 - a - t by omega)]
          · rw [if_neg (show ¬ (a ≤ q ∧ q < a + t) by omega), if_neg c4, if_neg (show ¬ q - lg K < a - lg K by omega), if_neg (show ¬ q - lg K - (a - lg K) < t by omega), if_neg (show ¬ q - lg K - (a - lg K) - t < lg K + z.2 - a - t by omega), show q - lg K - (a - lg K) - t - (lg K + z.2 - a - t) = q - lg K - z.2 by omega]
            have hin := atv_in gz.2 (k := q - lg K - z.2) (by omega) (by omega)
            exact Prod.ext rfl hin.1.symm
  have hml : m.length ≤ 200002 := by
    have e3 : (cl l).length = K.length + (T.length + 1) := by rw [e]; simp
    rw [hm]
    simp only [List.length_append, List.length_cons]
    omega
  have hin : inR l a t = (m, 0) := by rw [inR_0 h (by omega) (by rw [hjm]; omega), hjm]
  have hvm : vl m = true := (vl_iff m).2 ⟨by omega, mg, by rw [mL]; exact v3⟩
  have hcm : cl m = m := by rw [cl_yes hvm, jn_id ma]
  rw [hin]
  simp only
  rw [hcm]
  have hKs : ∀ x ∈ K.drop 1, ¬ x.2 < k := by
    intro x hx'
    cases K with
    | nil => cases hx'
    | cons y K =>
      rw [List.drop_one, List.tail_cons] at hx'
      rw [e, List.cons_append, List.drop_one, List.tail_cons, cn_append] at hc
      intro hlt
      have : 0 < (K.filter fun x => decide (x.2 < k)).length := List.length_pos_of_mem (List.mem_filter.2 ⟨hx', by simpa using hlt⟩)
      omega
  refine ⟨trivial, ?_, ?_⟩
  · have hend : cn k ((z.1, lg K + z.2 - a - t) :: T) = cn k T := by
      cases T with
      | nil => rfl
      | cons y T => rw [cn_cons, if_neg (by have := (hT (by simp)).1; show ¬ lg K + z.2 - a - t < k; omega)]; omega
    rw [hm]
    cases K with
    | nil =>
      rw [List.nil_append, List.drop_one, List.tail_cons, cn_cons, if_pos htk, hend]
      rw [e, List.nil_append, List.drop_one, List.tail_cons] at hc
      rw [hc]
    | cons y K =>
      rw [e, List.cons_append, List.drop_one, List.tail_cons, cn_append] at hc
      rw [List.cons_append, List.drop_one, List.tail_cons, cn_append, cn_cons, if_neg (by have := hK (by simp); show ¬ a - lg (y :: K) < k; omega), cn_cons, if_pos htk, hend]
      have : cn k T = 0 := by
        cases T with
        | nil => rfl
        | cons w T => rw [cn_cons] at hc; omega
      omega
  · rw [hm, flP_pre k K _ _ hKs (fun hk => by have := hK hk; show ¬ a - lg K < k; omega), flP_short htk]
    have ez : ((z.1, a - lg K).1, (z.1, a - lg K).2 + (1 - z.1, t).2 + (z.1, lg K + z.2 - a - t).2) = z := by
      refine Prod.ext rfl ?_
      show a - lg K + t + (lg K + z.2 - a - t) = z.2
      omega
    rw [ez, ← flP_pre k K z T hKs (fun hk => by have := hK hk; omega), ← e]
    exact hid
end Go.Proofs.Ytemmljngglnccaa
