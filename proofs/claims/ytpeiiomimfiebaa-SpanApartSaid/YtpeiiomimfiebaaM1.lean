/-
  Spans as pairs of numbers: canonical lists, their ticks, the union, the gaps, the sums (plain: nothing of the program).
-/
namespace Go.Proofs.Ytpeiiomimfiebaa
set_option linter.unusedVariables false

abbrev Sp := Int × Int
/-- The end of time. -/
abbrev MT : Int := 1099511627776
def vl (s : Sp) : Bool := decide (0 ≤ s.1) && decide (s.1 < s.2) && decide (s.2 ≤ 1099511627776)
theorem vl_iff (s : Sp) : vl s = true ↔ 0 ≤ s.1 ∧ s.1 < s.2 ∧ s.2 ≤ 1099511627776 := by
  unfold vl; simp only [Bool.and_eq_true, decide_eq_true_eq, and_assoc]
def cm (a b : Sp) : Sp × Bool := if vl a && vl b && vl (max a.1 b.1, min a.2 b.2) then ((max a.1 b.1, min a.2 b.2), true) else ((0, 0), false)
def hd (s : Sp) (t : Int) : Bool := vl s && decide (s.1 ≤ t) && decide (t < s.2)
theorem hd_iff (s : Sp) (t : Int) : hd s t = true ↔ vl s = true ∧ s.1 ≤ t ∧ t < s.2 := by
  unfold hd; simp only [Bool.and_eq_true, decide_eq_true_eq, and_assoc]

/-- The index of the first span that contains the tick. -/
def fnd : List Sp → Int → Int
  | [], _ => -1
  | s :: r, t => if hd s t then 0 else (if fnd r t = -1 then -1 else fnd r t + 1)
/-- The union contains the tick. -/
def cov (l : List Sp) (t : Int) : Bool := l.any fun s => hd s t
theorem fnd_nil (t : Int) : fnd [] t = -1 := rfl
theorem fnd_cons (s : Sp) (r : List Sp) (t : Int) : fnd (s :: r) t = if hd s t then 0 else (if fnd r t = -1 then -1 else fnd r t + 1) := rfl
theorem fnd_bounds (l : List Sp) (t : Int) : -1 ≤ fnd l t ∧ fnd l t < l.length := by
  induction l with
  | nil => rw [fnd_nil]; simp
  | cons s r ih =>
    obtain ⟨i1, i2⟩ := ih
    rw [fnd_cons, List.length_cons]
    by_cases h1 : hd s t = true
    · rw [if_pos h1]; exact ⟨by omega, by omega⟩
    · rw [if_neg h1]
      by_cases h2 : fnd r t = -1
      · rw [if_pos h2]; exact ⟨by omega, by omega⟩
      · rw [if_neg h2]; exact ⟨by omega, by omega⟩
theorem fnd_cov (l : List Sp) (t : Int) : decide (0 ≤ fnd l t) = cov l t := by
  induction l with
  | nil => rfl
  | cons s r ih =>
    have hb := fnd_bounds r t
    have e : cov (s :: r) t = (hd s t || cov r t) := rfl
    rw [e, ← ih, fnd_cons]
    by_cases h : hd s t = true
    · rw [if_pos h, h]; rfl
    · rw [if_neg h]
      simp only [Bool.not_eq_true] at h
      rw [h, Bool.false_or, decide_eq_decide]
      by_cases h2 : fnd r t = -1
      · rw [if_pos h2]; omega
      · rw [if_neg h2]; omega
/-- None before the place k contains the tick, and k does. -/
theorem fnd_at (l : List Sp) (t : Int) (k : Nat) (hk : k < l.length) (hb : ∀ j (hj : j < l.length), j < k → hd l[j] t = false) (h : hd l[k] t = true) : fnd l t = k := by
  induction l generalizing k with
  | nil => simp at hk
  | cons s r ih =>
    have e : fnd (s :: r) t = if hd s t then 0 else (if fnd r t = -1 then -1 else fnd r t + 1) := rfl
    rw [e]
    cases k with
    | zero => have h0 : hd s t = true := h; rw [if_pos h0]; rfl
    | succ k =>
      have h0 : hd s t = false := hb 0 (by simp) (by omega)
      rw [if_neg (by rw [h0]; decide)]
      have := ih k (by simpa using hk) (fun j hj hjk => hb (j + 1) (by simpa using hj) (by omega)) h
      rw [this, if_neg (by omega)]; omega
theorem fnd_none (l : List Sp) (t : Int) (hb : ∀ j (hj : j < l.length), hd l[j] t = false) : fnd l t = -1 := by
  induction l with
  | nil => rfl
  | cons s r ih =>
    have h0 : hd s t = false := hb 0 (by simp)
    have e : fnd (s :: r) t = if hd s t then 0 else (if fnd r t = -1 then -1 else fnd r t + 1) := rfl
    rw [e, if_neg (by rw [h0]; decide), ih (fun j hj => hb (j + 1) (by simpa using hj))]
    rfl

/-- Some span of the list contains the tick. -/
def mem (j : List Sp) (t : Int) : Prop := ∃ s ∈ j, s.1 ≤ t ∧ t < s.2
theorem mem_nil (t : Int) : ¬ mem [] t := by rintro ⟨s, h, _⟩; simp at h
theorem mem_cons (a : Sp) (j : List Sp) (t : Int) : mem (a :: j) t ↔ (a.1 ≤ t ∧ t < a.2) ∨ mem j t := by
  unfold mem; simp
theorem mem_app (j k : List Sp) (t : Int) : mem (j ++ k) t ↔ mem j t ∨ mem k t := by
  unfold mem
  constructor
  · rintro ⟨s, h, e⟩
    rcases List.mem_append.1 h with h | h
    · exact .inl ⟨s, h, e⟩
    · exact .inr ⟨s, h, e⟩
  · rintro (⟨s, h, e⟩ | ⟨s, h, e⟩)
    · exact ⟨s, List.mem_append.2 (.inl h), e⟩
    · exact ⟨s, List.mem_append.2 (.inr h), e⟩
theorem mem_one (a : Sp) (t : Int) : mem [a] t ↔ a.1 ≤ t ∧ t < a.2 := by unfold mem; simp

/-- Ascending, separate, not adjacent, not empty. -/
def Can (j : List Sp) : Prop := (∀ s ∈ j, s.1 < s.2) ∧ j.Pairwise fun a b => a.2 < b.1
theorem Can.nil : Can [] := ⟨by simp, List.Pairwise.nil⟩
theorem Can.tail {a : Sp} {j : List Sp} (h : Can (a :: j)) : Can j := ⟨fun s hs => h.1 s (List.mem_cons_of_mem _ hs), (List.pairwise_cons.1 h.2).2⟩
theorem Can.head {a : Sp} {j : List Sp} (h : Can (a :: j)) : a.1 < a.2 ∧ ∀ s ∈ j, a.2 < s.1 := ⟨h.1 a (List.mem_cons_self ..), (List.pairwise_cons.1 h.2).1⟩
theorem Can.cons {a : Sp} {j : List Sp} (h : Can j) (ha : a.1 < a.2) (hj : ∀ s ∈ j, a.2 < s.1) : Can (a :: j) :=
  ⟨fun s hs => by rcases List.mem_cons.1 hs with rfl | hs; exact ha; exact h.1 s hs, List.pairwise_cons.2 ⟨hj, h.2⟩⟩
theorem Can.snoc {a : Sp} {j : List Sp} (h : Can j) (ha : a.1 < a.2) (hj : ∀ s ∈ j, s.2 < a.1) : Can (j ++ [a]) :=
  ⟨fun s hs => by rcases List.mem_append.1 hs with hs | hs; exact h.1 s hs; rw [List.mem_singleton.1 hs]; exact ha,
   List.pairwise_append.2 ⟨h.2, List.pairwise_singleton _ _, fun x hx y hy => by rw [List.mem_singleton.1 hy]; exact hj x hx⟩⟩
theorem Can.of_snoc {a : Sp} {j : List Sp} (h : Can (j ++ [a])) : Can j ∧ a.1 < a.2 ∧ ∀ s ∈ j, s.2 < a.1 :=
  ⟨⟨fun s hs => h.1 s (List.mem_append.2 (.inl hs)), (List.pairwise_append.1 h.2).1⟩, h.1 a (by simp), fun s hs => (List.pairwise_append.1 h.2).2.2 s hs a (by simp)⟩
/-- Two canonical lists of the same ticks are one. -/
theorem Can.uniq : ∀ {j k : List Sp}, Can j → Can k → (∀ t, mem j t ↔ mem k t) → j = k
  | [], [], _, _, _ => rfl
  | [], b :: k, _, hk, h => absurd ((h b.1).2 ((mem_cons ..).2 (.inl ⟨Int.le_refl _, hk.head.1⟩))) (mem_nil _)
  | a :: j, [], hj, _, h => absurd ((h a.1).1 ((mem_cons ..).2 (.inl ⟨Int.le_refl _, hj.head.1⟩))) (mem_nil _)
  | a :: j, b :: k, hj, hk, h => by
    have lo : ∀ {a : Sp} {j : List Sp} {t : Int}, Can (a :: j) → mem (a :: j) t → a.1 ≤ t := by
      intro a j t hj hm
      rcases (mem_cons ..).1 hm with h1 | ⟨s, hs, h2⟩
      · exact h1.1
      · have := hj.head; have := hj.head.2 s hs; omega
    have h1 := lo hk ((h a.1).1 ((mem_cons ..).2 (.inl ⟨Int.le_refl _, hj.head.1⟩)))
    have h2 := lo hj ((h b.1).2 ((mem_cons ..).2 (.inl ⟨Int.le_refl _, hk.head.1⟩)))
    have up : ∀ {a b : Sp} {j k : List Sp}, Can (a :: j) → Can (b :: k) → (∀ t, mem (b :: k) t → mem (a :: j) t) → a.1 = b.1 → b.2 ≤ a.2 := by
      intro a b j k hj hk h e
      by_cases hlt : b.2 ≤ a.2
      · exact hlt
      · exfalso
        have := hj.head.1
        rcases (mem_cons ..).1 (h a.2 ((mem_cons ..).2 (.inl ⟨by omega, by omega⟩))) with h3 | ⟨s, hs, h4⟩
        · omega
        · have := hj.head.2 s hs; omega
    have e1 : a.1 = b.1 := by omega
    have h3 := up hj hk (fun t => (h t).2) e1
    have h4 := up hk hj (fun t => (h t).1) e1.symm
    have e2 : a.2 = b.2 := by omega
    obtain rfl : a = b := Prod.ext e1 e2
    rw [Can.uniq hj.tail hk.tail fun t => ?_]
    have g1 : ∀ {j : List Sp}, Can (a :: j) → mem j t → a.2 < t := by
      rintro j hj ⟨s, hs, h5⟩
      have := hj.head.2 s hs; omega
    constructor
    · intro hm
      have := g1 hj hm
      rcases (mem_cons ..).1 ((h t).1 ((mem_cons ..).2 (.inr hm))) with h5 | h5
      · omega
      · exact h5
    · intro hm
      have := g1 hk hm
      rcases (mem_cons ..).1 ((h t).2 ((mem_cons ..).2 (.inr hm))) with h5 | h5
      · omega
      · exact h5

theorem nil_or_snoc {α : Type} (l : List α) : l = [] ∨ ∃ j a, l = j ++ [a] := by
  rcases List.eq_nil_or_concat l with h | ⟨j, a, h⟩
  · exact .inl h
  · exact .inr ⟨j, a, by rw [h]; simp⟩

/-- The span from the less From to the greater To. -/
def bd (a b : Sp) : Sp := (min a.1 b.1, max a.2 b.2)
/-- The next span, in ascending order, joined. -/
def put (j : List Sp) (s : Sp) : List Sp :=
  match j.getLast? with
  | none => j ++ [s]
  | some a => if s.1 ≤ a.2 then j.dropLast ++ [bd a s] else j ++ [s]
theorem put_nil (s : Sp) : put [] s = [s] := rfl
theorem put_snoc (j : List Sp) (a s : Sp) : put (j ++ [a]) s = if s.1 ≤ a.2 then j ++ [bd a s] else j ++ [a] ++ [s] := by
  unfold put; simp
/-- What holds of the list joined so far, when the next spans begin at lo or later. -/
def JI (lo : Int) (j : List Sp) : Prop := Can j ∧ (∀ s ∈ j, s.1 ≤ lo) ∧ ∀ s ∈ j, vl s = true
theorem JI.put {j : List Sp} {s : Sp} (h : JI s.1 j) (hs : vl s = true) : JI s.1 (put j s) ∧ ∀ t, mem (put j s) t ↔ mem j t ∨ (s.1 ≤ t ∧ t < s.2) := by
  have hv := (vl_iff s).1 hs
  rcases nil_or_snoc j with rfl | ⟨j0, a, rfl⟩
  · rw [put_nil]
    refine ⟨⟨Can.nil.snoc hv.2.1 (by simp), by simp, by simp [hs]⟩, fun t => ?_⟩
    rw [mem_one]
    have := mem_nil t
    simp [this]
  · obtain ⟨hc, hl, hva⟩ := h
    obtain ⟨c0, ca, cj⟩ := hc.of_snoc
    have la := hl a (by simp)
    have va := (vl_iff a).1 (hva a (by simp))
    rw [put_snoc]
    split
    · rename_i hle
      have e1 : (bd a s).1 = a.1 := by simp only [bd]; omega
      have e2 : (bd a s).2 = max a.2 s.2 := rfl
      refine ⟨⟨c0.snoc (by omega) (fun x hx => by rw [e1]; exact cj x hx), fun x hx => ?_, fun x hx => ?_⟩, fun t => ?_⟩
      · rcases List.mem_append.1 hx with hx | hx
        · exact hl x (List.mem_append.2 (.inl hx))
        · rw [List.mem_singleton.1 hx, e1]; exact la
      · rcases List.mem_append.1 hx with hx | hx
        · exact hva x (List.mem_append.2 (.inl hx))
        · rw [List.mem_singleton.1 hx, vl_iff, e1, e2]; omega
      · rw [mem_app, mem_app, mem_one, mem_one, e1, e2]
        constructor
        · rintro (h | h)
          · exact .inl (.inl h)
          · by_cases t < a.2
            · exact .inl (.inr ⟨h.1, by assumption⟩)
            · exact .inr ⟨by omega, by omega⟩
        · rintro ((h | h) | h)
          · exact .inl h
          · exact .inr ⟨h.1, by omega⟩
          · exact .inr ⟨by omega, by omega⟩
    · rename_i hgt
      refine ⟨⟨hc.snoc hv.2.1 (fun x hx => ?_), fun x hx => ?_, fun x hx => ?_⟩, fun t => ?_⟩
      · rcases List.mem_append.1 hx with hx | hx
        · have := cj x hx; omega
        · rw [List.mem_singleton.1 hx]; omega
      · rcases List.mem_append.1 hx with hx | hx
        · exact hl x hx
        · rw [List.mem_singleton.1 hx]; exact Int.le_refl _
      · rcases List.mem_append.1 hx with hx | hx
        · exact hva x hx
        · rw [List.mem_singleton.1 hx]; exact hs
      · rw [mem_app, mem_one]
theorem JI.mono {lo hi : Int} {j : List Sp} (h : JI lo j) (hle : lo ≤ hi) : JI hi j := ⟨h.1, fun s hs => Int.le_trans (h.2.1 s hs) hle, h.2.2⟩
theorem put_length (j : List Sp) (s : Sp) : (put j s).length ≤ j.length + 1 := by
  rcases nil_or_snoc j with rfl | ⟨j0, a, rfl⟩
  · simp [put_nil]
  · rw [put_snoc]; split <;> simp <;> omega

/-- The spans joined in the order in which they stand. -/
def jn (l : List Sp) : List Sp := l.foldl put []
theorem jn_snoc (l : List Sp) (s : Sp) : jn (l ++ [s]) = put (jn l) s := by simp [jn]
theorem jn_length (l : List Sp) : (jn l).length ≤ l.length := by
  have key : ∀ (l j : List Sp), (l.foldl put j).length ≤ j.length + l.length := by
    intro l
    induction l with
    | nil => intro j; simp
    | cons s r ih => intro j; have := ih (put j s); have := put_length j s; simp only [List.foldl_cons, List.length_cons]; omega
  have := key l []
  show (l.foldl put []).length ≤ l.length
  simpa using this
/-- Of valid spans in ascending order. -/
theorem jn_all (l : List Sp) (hv : ∀ s ∈ l, vl s = true) (ha : l.Pairwise fun a b => a.1 ≤ b.1) : Can (jn l) ∧ (∀ s ∈ jn l, vl s = true) ∧ ∀ t, mem (jn l) t ↔ mem l t := by
  have key : ∀ (r l j : List Sp) (lo : Int), (∀ s ∈ r, vl s = true) → (r.Pairwise fun a b => a.1 ≤ b.1) → (∀ s ∈ r, lo ≤ s.1) → JI lo j → (∀ t, mem j t ↔ mem l t) →
      Can (r.foldl put j) ∧ (∀ s ∈ r.foldl put j, vl s = true) ∧ ∀ t, mem (r.foldl put j) t ↔ mem (l ++ r) t := by
    intro r
    induction r with
    | nil => intro l j lo _ _ _ hj hm; exact ⟨hj.1, hj.2.2, fun t => by rw [List.append_nil]; exact hm t⟩
    | cons s r ih =>
      intro l j lo hv ha hlo hj hm
      have hs := hv s (by simp)
      obtain ⟨h1, h2⟩ := (hj.mono (hlo s (by simp))).put hs
      obtain ⟨a1, a2⟩ := List.pairwise_cons.1 ha
      have := ih (l ++ [s]) (put j s) s.1 (fun x hx => hv x (by simp [hx])) a2 a1 h1 (fun t => by rw [h2, mem_app, mem_one, hm])
      simpa using this
  have := key l [] [] 0 hv ha (fun s hs => ((vl_iff s).1 (hv s hs)).1) ⟨Can.nil, by simp, by simp⟩ (fun t => Iff.rfl)
  simpa [jn] using this

/-- What the gaps before each of the spans are, from a tick on. -/
def gp (all : Sp) : Int → List Sp → List Sp
  | _, [] => []
  | f, s :: r => (if (cm (f, s.1) all).2 then [(cm (f, s.1) all).1] else []) ++ gp all s.2 r
theorem cm_true {a b : Sp} (h : (cm a b).2 = true) : (cm a b).1 = (max a.1 b.1, min a.2 b.2) ∧ vl a = true ∧ vl b = true ∧ vl (max a.1 b.1, min a.2 b.2) = true := by
  unfold cm at *
  split at h
  · rename_i hc
    rw [if_pos hc]
    simp only [Bool.and_eq_true] at hc
    exact ⟨rfl, hc.1.1, hc.1.2, hc.2⟩
  · simp at h
theorem cm_false {a b : Sp} (h : (cm a b).2 = false) : ¬ (vl a = true ∧ vl b = true ∧ vl (max a.1 b.1, min a.2 b.2) = true) := by
  unfold cm at h
  split at h
  · simp at h
  · rename_i hc
    rintro ⟨h1, h2, h3⟩
    exact hc (by simp [h1, h2, h3])
theorem gp_one (all : Sp) (f e : Int) : Can (if (cm (f, e) all).2 then [(cm (f, e) all).1] else []) ∧ (∀ s ∈ (if (cm (f, e) all).2 then [(cm (f, e) all).1] else []), vl s = true ∧ all.1 ≤ s.1 ∧ s.2 ≤ all.2 ∧ f ≤ s.1 ∧ s.2 ≤ e) ∧
    (0 ≤ f → e ≤ 1099511627776 → ∀ t, mem (if (cm (f, e) all).2 then [(cm (f, e) all).1] else []) t ↔ vl all = true ∧ (all.1 ≤ t ∧ t < all.2) ∧ f ≤ t ∧ t < e) := by
  cases hc : (cm (f, e) all).2 with
  | true =>
    obtain ⟨h1, h2, h3, h4⟩ := cm_true hc
    have v4 := (vl_iff _).1 h4
    simp only [if_true, h1]
    simp only at v4
    refine ⟨Can.nil.snoc v4.2.1 (by simp), fun s hs => ?_, fun h0 hM t => ?_⟩
    · rw [List.mem_singleton.1 hs]; exact ⟨h4, by simp only; omega, by simp only; omega, by simp only; omega, by simp only; omega⟩
    · rw [mem_one]
      simp only
      constructor
      · intro h; exact ⟨h3, by omega, by omega⟩
      · intro h; omega
  | false =>
    have h1 := cm_false hc
    simp only [Bool.false_eq_true, if_false]
    refine ⟨Can.nil, by simp, fun h0 hM t => ?_⟩
    constructor
    · intro h; exact absurd h (mem_nil t)
    · rintro ⟨h2, h3, h4⟩
      exfalso
      apply h1
      have v2 := (vl_iff _).1 h2
      exact ⟨(vl_iff _).2 ⟨by simp only; omega, by simp only; omega, by simp only; omega⟩, h2, (vl_iff _).2 ⟨by simp only; omega, by simp only; omega, by simp only; omega⟩⟩
/-- The gaps between the spans of a canonical list and the end of time. -/
theorem gp_all (all : Sp) : ∀ (js : List Sp) (f : Int), Can js → (∀ s ∈ js, vl s = true) → 0 ≤ f → (∀ s ∈ js, f ≤ s.1) →
    Can (gp all f (js ++ [(1099511627776, 0)])) ∧ (∀ s ∈ gp all f (js ++ [(1099511627776, 0)]), vl s = true ∧ all.1 ≤ s.1 ∧ s.2 ≤ all.2 ∧ f ≤ s.1) ∧
    ∀ t, mem (gp all f (js ++ [(1099511627776, 0)])) t ↔ vl all = true ∧ (all.1 ≤ t ∧ t < all.2) ∧ f ≤ t ∧ ¬ mem js t
  | [], f, _, _, hf, _ => by
    obtain ⟨h1, h2, h3⟩ := gp_one all f 1099511627776
    have e : gp all f ([] ++ [(1099511627776, 0)]) = (if (cm (f, 1099511627776) all).2 then [(cm (f, 1099511627776) all).1] else []) := by simp [gp]
    rw [e]
    refine ⟨h1, fun s hs => ⟨(h2 s hs).1, (h2 s hs).2.1, (h2 s hs).2.2.1, (h2 s hs).2.2.2.1⟩, fun t => ?_⟩
    rw [h3 hf (Int.le_refl _) t]
    have := mem_nil t
    constructor
    · rintro ⟨a, b, c⟩; exact ⟨a, b, c.1, this⟩
    · rintro ⟨a, b, c, _⟩
      have := (vl_iff _).1 a
      exact ⟨a, b, c, by omega⟩
  | s :: r, f, hc, hv, hf, hlo => by
    have vs := (vl_iff _).1 (hv s (by simp))
    obtain ⟨i1, i2, i3⟩ := gp_all all r s.2 hc.tail (fun x hx => hv x (by simp [hx])) (by omega) (fun x hx => Int.le_of_lt (hc.head.2 x hx))
    obtain ⟨h1, h2, h3⟩ := gp_one all f s.1
    have e : gp all f (s :: r ++ [(1099511627776, 0)]) = (if (cm (f, s.1) all).2 then [(cm (f, s.1) all).1] else []) ++ gp all s.2 (r ++ [(1099511627776, 0)]) := rfl
    rw [e]
    have hfs := hlo s (by simp)
    refine ⟨⟨fun x hx => ?_, List.pairwise_append.2 ⟨h1.2, i1.2, fun x hx y hy => ?_⟩⟩, fun x hx => ?_, fun t => ?_⟩
    · rcases List.mem_append.1 hx with hx | hx
      · exact h1.1 x hx
      · exact i1.1 x hx
    · have := h2 x hx; have := i2 y hy; omega
    · rcases List.mem_append.1 hx with hx | hx
      · exact ⟨(h2 x hx).1, (h2 x hx).2.1, (h2 x hx).2.2.1, (h2 x hx).2.2.2.1⟩
      · have := i2 x hx; exact ⟨this.1, this.2.1, this.2.2.1, by omega⟩
    · rw [mem_app, h3 hf (by omega) t, i3 t, mem_cons]
      have hb : mem r t → s.2 < t := by rintro ⟨x, hx, h5⟩; have := hc.head.2 x hx; omega
      constructor
      · rintro (⟨a, b, c⟩ | ⟨a, b, c, d⟩)
        · exact ⟨a, b, c.1, by rintro (h | h); omega; have := hb h; omega⟩
        · exact ⟨a, b, by omega, by rintro (h | h); omega; exact d h⟩
      · rintro ⟨a, b, c, d⟩
        by_cases ht : t < s.1
        · exact .inl ⟨a, b, c, ht⟩
        · refine .inr ⟨a, b, ?_, fun h => d (.inr h)⟩
          by_cases ht2 : t < s.2
          · exact absurd (.inl ⟨by omega, ht2⟩) d
          · omega
theorem gp_length (all : Sp) : ∀ (js : List Sp) (f : Int), (gp all f js).length ≤ js.length
  | [], _ => by simp [gp]
  | s :: r, f => by
    have := gp_length all r s.2
    unfold gp
    rw [List.length_append, List.length_cons]
    split <;> simp <;> omega
/-- The tick from which the next gap begins. -/
def lastTo (f : Int) (js : List Sp) : Int := match js.getLast? with | none => f | some a => a.2
theorem gp_snoc (all : Sp) (js : List Sp) (f : Int) (s : Sp) : gp all f (js ++ [s]) = gp all f js ++ (if (cm (lastTo f js, s.1) all).2 then [(cm (lastTo f js, s.1) all).1] else []) ∧ lastTo f (js ++ [s]) = s.2 := by
  refine ⟨?_, by simp [lastTo]⟩
  induction js generalizing f with
  | nil => simp only [gp, lastTo, List.nil_append, List.append_nil, List.getLast?_nil]; rfl
  | cons a r ih =>
    have : lastTo f (a :: r) = lastTo a.2 r := by
      unfold lastTo
      cases r with
      | nil => rfl
      | cons b q => rw [List.getLast?_cons_cons]; simp [List.getLast?_cons]
    rw [List.cons_append, gp, gp, ih, List.append_assoc, this]
/-- The sum of lengths. -/
def tot (l : List Sp) : Int := (l.map fun s => s.2 - s.1).sum
theorem tot_snoc (l : List Sp) (s : Sp) : tot (l ++ [s]) = tot l + (s.2 - s.1) := by simp [tot]
theorem tot_bounds : ∀ {j : List Sp} {lo hi : Int}, Can j → (∀ s ∈ j, lo ≤ s.1 ∧ s.2 ≤ hi) → lo ≤ hi → 0 ≤ tot j ∧ tot j ≤ hi - lo
  | [], lo, hi, _, _, h => by simp [tot]; omega
  | a :: r, lo, hi, hc, hb, h => by
    have h1 := hb a (by simp)
    have h2 := hc.head
    have := tot_bounds (lo := a.2) (hi := hi) hc.tail (fun s hs => ⟨Int.le_of_lt (h2.2 s hs), (hb s (by simp [hs])).2⟩) h1.2
    have e : tot (a :: r) = (a.2 - a.1) + tot r := by simp [tot]
    rw [e]; omega
theorem Can.take {j : List Sp} (h : Can j) (n : Nat) : Can (j.take n) := ⟨fun s hs => h.1 s (List.mem_of_mem_take hs), h.2.sublist (List.take_sublist ..)⟩
/-- How many spans of a list contain a tick. -/
def cnt (l : List Sp) (t : Int) : Nat := (l.filter fun s => decide (s.1 ≤ t) && decide (t < s.2)).length
theorem cnt_snoc (l : List Sp) (s : Sp) (t : Int) : cnt (l ++ [s]) t = cnt l t + (if decide (s.1 ≤ t) && decide (t < s.2) then 1 else 0) := by
  unfold cnt
  rw [List.filter_append, List.length_append]
  congr 1
  by_cases h : (decide (s.1 ≤ t) && decide (t < s.2)) = true
  · rw [if_pos h]; simp only [Bool.and_eq_true, decide_eq_true_eq] at h; simp [h]
  · rw [if_neg h]; simp only [Bool.and_eq_true, decide_eq_true_eq] at h; simp; intro h1; omega
theorem cnt_le (l : List Sp) (t : Int) : cnt l t ≤ l.length := List.length_filter_le ..
open Classical in
theorem Can.cnt_eq {j : List Sp} (h : Can j) (t : Int) : cnt j t = if mem j t then 1 else 0 := by
  induction j with
  | nil => rw [if_neg (mem_nil t)]; rfl
  | cons a r ih =>
    have hh := h.head
    have e : cnt (a :: r) t = (if decide (a.1 ≤ t) && decide (t < a.2) then 1 else 0) + cnt r t := by
      unfold cnt
      rw [List.filter_cons]
      split <;> simp <;> omega
    rw [e, ih h.tail]
    have hb : mem r t → a.2 < t := by rintro ⟨x, hx, h5⟩; have := hh.2 x hx; omega
    by_cases h1 : a.1 ≤ t ∧ t < a.2
    · rw [if_pos (by simp [h1]), if_neg (fun h => by have := hb h; omega), if_pos ((mem_cons ..).2 (.inl h1))]
    · rw [if_neg (by simp; omega)]
      by_cases h2 : mem r t
      · rw [if_pos h2, if_pos ((mem_cons ..).2 (.inr h2))]
      · rw [if_neg h2, if_neg (fun h => by rcases (mem_cons ..).1 h with h | h; exact h1 h; exact h2 h)]

end Go.Proofs.Ytpeiiomimfiebaa
