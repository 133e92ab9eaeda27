/-
  The plain mathematics of tokens: what stands behind a string, and lines ahead of it.
-/
import Derived.Test.YtnmmbpmgdicglaaM2
namespace Go.Proofs.Ytnmmbpmgdicglaa
set_option linter.unusedVariables false
set_option linter.unusedSimpArgs false

theorem gp_cmt (l : List UInt8) (h : ∀ x ∈ l, x.toNat ≠ 10) : gp true l = l.length := by
  induction l with
  | nil => rfl
  | cons c r ih =>
    have h1 := h c (by simp)
    have h2 := ih (fun x hx => h x (by simp [hx]))
    simp only [gp, List.length_cons]
    rw [if_neg h1, h2]; simp
/-- What ends with a line feed, a blank and a comment. -/
def tailOf (cm : List UInt8) : List UInt8 := 10 :: 32 :: 35 :: cm
theorem gp_tail (cm : List UInt8) (h : ∀ x ∈ cm, x.toNat ≠ 10) (b : Bool) : gp b (tailOf cm) = (tailOf cm).length := by
  have h1 := gp_cmt cm h
  unfold tailOf
  simp only [gp, List.length_cons]
  rw [if_pos (by decide), if_neg (by decide), if_neg (by decide), if_neg (by decide), if_neg (by decide), if_pos (by decide), h1]
theorem gp_app (t : List UInt8) (ht : ∀ b, gp b t = t.length) (s : List UInt8) : ∀ b, (gp b s = s.length → gp b (s ++ t) = s.length + t.length) ∧ (gp b s ≠ s.length → gp b (s ++ t) = gp b s) := by
  induction s with
  | nil => intro b; exact ⟨fun _ => by simp [ht], fun h => absurd rfl h⟩
  | cons c r ih =>
    intro b
    have step : ∀ (b' : Bool) (x y : Nat), gp b (c :: r) = gp b' r + 1 → gp b (c :: r ++ t) = gp b' (r ++ t) + 1 → (gp b (c :: r) = (c :: r).length → gp b (c :: r ++ t) = (c :: r).length + t.length) ∧ (gp b (c :: r) ≠ (c :: r).length → gp b (c :: r ++ t) = gp b (c :: r)) := by
      intro b' _ _ e1 e2
      obtain ⟨i1, i2⟩ := ih b'
      rw [e1, e2, List.length_cons]
      refine ⟨fun h => ?_, fun h => ?_⟩
      · rw [i1 (by omega)]; omega
      · rw [i2 (by omega)]
    by_cases h1 : c.toNat = 10
    · exact step false 0 0 (by simp only [gp]; rw [if_pos h1]) (by simp only [gp, List.cons_append]; rw [if_pos h1])
    · by_cases h2 : c.toNat = 35
      · exact step true 0 0 (by simp only [gp]; rw [if_neg h1, if_pos h2]) (by simp only [gp, List.cons_append]; rw [if_neg h1, if_pos h2])
      · by_cases h3 : b = false ∧ c.toNat ≠ 32 ∧ c.toNat ≠ 9
        · have e1 : gp b (c :: r) = 0 := by simp only [gp]; rw [if_neg h1, if_neg h2, if_pos h3]
          have e2 : gp b (c :: r ++ t) = 0 := by simp only [gp, List.cons_append]; rw [if_neg h1, if_neg h2, if_pos h3]
          rw [e1, e2, List.length_cons]
          exact ⟨fun h => by omega, fun _ => rfl⟩
        · exact step b 0 0 (by simp only [gp]; rw [if_neg h1, if_neg h2, if_neg h3]) (by simp only [gp, List.cons_append]; rw [if_neg h1, if_neg h2, if_neg h3])
theorem wl_app (s : List UInt8) (t : List UInt8) (c : UInt8) (hc : isIn c.toNat = false) : wl (s ++ c :: t) = wl s := by
  induction s with
  | nil => simp [wl, hc]
  | cons d r ih => simp only [wl, List.cons_append, ih]
theorem rp_app0 (l t : List UInt8) (hl : l ≠ []) (h : (rp l).2 = 0) : (rp (l ++ 10 :: t)).2 = 0 := by
  match l, hl with
  | c :: r, _ =>
    by_cases h1 : c.toNat ≠ 92
    · have e1 : rp (c :: r) = if c.toNat = 34 ∨ isPr c.toNat = false then (0, 0) else (c, 1) := by simp only [rp]; rw [if_pos h1]
      by_cases h2 : c.toNat = 34 ∨ isPr c.toNat = false
      · simp only [rp, List.cons_append]; rw [if_pos h1, if_pos h2]
      · rw [e1, if_neg h2] at h; simp at h
    · match r with
      | [] =>
        simp only [rp, List.cons_append, List.nil_append]; rw [if_neg h1]; rfl
      | e :: r2 =>
        have e1 : rp (c :: e :: r2) = if e.toNat = 34 ∨ e.toNat = 92 then (e, 2) else if e.toNat = 110 then (10, 2) else if e.toNat = 120 then hb (c :: e :: r2) else (0, 0) := by
          simp only [rp]; rw [if_neg h1]
        have e2 : rp (c :: e :: r2 ++ 10 :: t) = if e.toNat = 34 ∨ e.toNat = 92 then (e, 2) else if e.toNat = 110 then (10, 2) else if e.toNat = 120 then hb (c :: e :: r2 ++ 10 :: t) else (0, 0) := by
          simp only [rp, List.cons_append]; rw [if_neg h1]
        rw [e1] at h
        rw [e2]
        by_cases a1 : e.toNat = 34 ∨ e.toNat = 92
        · rw [if_pos a1] at h; simp at h
        · rw [if_neg a1] at h ⊢
          by_cases a2 : e.toNat = 110
          · rw [if_pos a2] at h; simp at h
          · rw [if_neg a2] at h ⊢
            by_cases a3 : e.toNat = 120
            · rw [if_pos a3] at h ⊢
              match r2, h with
              | [], _ =>
                cases t with
                | nil => rfl
                | cons x t => simp only [hb, List.cons_append, List.nil_append]; rw [if_pos (Or.inl (by decide))]
              | [p], _ => simp only [hb, List.cons_append, List.nil_append]; rw [if_pos (Or.inr (by decide))]
              | p :: q :: r3, h => exact h
            · rw [if_neg a3]
theorem qd_app (n : Nat) : ∀ (l t : List UInt8), l.length ≤ n → qd (l ++ 10 :: t) = qd l := by
  induction n with
  | zero =>
    intro l t hl
    obtain rfl : l = [] := List.eq_nil_of_length_eq_zero (by omega)
    rw [qd_nil]
    exact qd_bad 10 t (by decide) rfl
  | succ n ih =>
    intro l t hl
    cases l with
    | nil => rw [qd_nil]; exact qd_bad 10 t (by decide) rfl
    | cons c r =>
      by_cases h34 : c.toNat = 34
      · rw [List.cons_append, qd_close _ _ h34, qd_close _ _ h34]
      · by_cases h0 : (rp (c :: r)).2 = 0
        · have h1 := rp_app0 (c :: r) t (by simp) h0
          rw [qd_bad _ _ h34 h0]
          exact qd_bad _ _ h34 h1
        · have h1 := rp_app (c :: r) (10 :: t) h0
          have hle := rp_le (c :: r)
          rw [qd_step _ (by rw [h1]; exact h0), h1, List.drop_append_of_le_length hle, qd_step _ h0, ih _ t (by simp at hl hle ⊢; omega)]
/-- A token does not hang on what a line feed divides from it. -/
theorem tk_app (c : UInt8) (r t : List UInt8) : tkR (c :: r ++ 10 :: t) = tkR (c :: r) ∧ ((tkR (c :: r)).2 = 0 → tl (c :: r ++ 10 :: t) = tl (c :: r)) := by
  by_cases h34 : c.toNat = 34
  · have hq := qd_app _ r t (Nat.le_refl _)
    rw [List.cons_append, tkR_str _ _ h34, tkR_str _ _ h34, hq]
    refine ⟨rfl, fun h => ?_⟩
    rw [tl_str _ _ h34, tl_str _ _ h34]
    cases h2 : qd r with
    | none => rw [h2] at h; simp at h
    | some p =>
      obtain ⟨o, k⟩ := p
      have e1 := qd_ql h2
      rw [← hq] at h2
      have e2 := qd_ql h2
      omega
  · have htl : tl (c :: r ++ 10 :: t) = tl (c :: r) := by
      by_cases hw : isLt c.toNat = true ∨ isDg c.toNat = true ∨ c.toNat = 45
      · rw [List.cons_append, tl_word _ _ hw, tl_word _ _ hw, wl_app _ _ _ (by decide)]
      · rw [List.cons_append, tl_other _ _ h34 hw, tl_other _ _ h34 hw]
    refine ⟨?_, fun _ => htl⟩
    unfold tkR
    rw [htl, List.take_append_of_le_length (tl_le _)]

def bump (t : Tok) : Tok := ⟨t.k, t.t, t.v, t.n + 1⟩
def bumpA (a : List Tok × Option (Nat × Nat)) : List Tok × Option (Nat × Nat) := (a.1.map bump, a.2.map fun p => (p.1 + 1, p.2))
theorem lx_app (t : List UInt8) (h10 : t = 10 :: t.drop 1) (ht : ∀ b, gp b t = t.length) (f : Nat) : ∀ (s : List UInt8) (n : Nat), s.length ≤ f → lx false (s ++ t) (n + 1) = bumpA (lx false s n) := by
  induction f with
  | zero =>
    intro s n hs
    obtain rfl : s = [] := List.eq_nil_of_length_eq_zero (by omega)
    rw [lx_nil, List.nil_append, lx_eq, ht, List.drop_length]
    rfl
  | succ f ih =>
    intro s n hs
    have ha := gp_app t ht s false
    have hg := gp_le s false
    by_cases h : gp false s = s.length
    · have ha := ha.1 h
      rw [lx_eq, lx_eq false s, ha, h]
      rw [show s.length + t.length = (s ++ t).length by simp, List.drop_length, List.drop_length]
      rfl
    · have ha := ha.2 h
      rw [lx_eq, lx_eq false s, ha, List.drop_append_of_le_length hg, List.take_append_of_le_length hg]
      generalize hr : s.drop (gp false s) = r
      have hlen : r.length ≤ s.length := by rw [← hr]; simp
      generalize nl (s.take (gp false s)) = m
      cases r with
      | nil => exact absurd (by have := congrArg List.length hr; simp at this; omega) h
      | cons c r =>
        rw [h10]
        obtain ⟨k1, k2⟩ := tk_app c r (t.drop 1)
        by_cases h0 : (tkR (c :: r)).2 = 0
        · rw [lxS_ok (by simp) (by rw [k1]; exact h0), lxS_ok (by simp) h0, k1, k2 h0, List.drop_append_of_le_length (tl_le _), ← h10]
          have hp := tl_pos c r
          have hi := ih ((c :: r).drop (tl (c :: r))) (n + m) (by simp at hlen ⊢; omega)
          rw [show n + 1 + m = n + m + 1 by omega, hi]
          simp [bumpA, bump]
        · rw [lxS_err (by simp) (by rw [k1]; exact h0), lxS_err (by simp) h0, k1]
          simp [bumpA]; omega
theorem lx_cmt (l r : List UInt8) (n : Nat) (h : ∀ x ∈ l, x.toNat ≠ 10) : lx true (l ++ r) n = lx true r n := by
  induction l with
  | nil => rfl
  | cons c l ih =>
    rw [List.cons_append, lx_cm _ _ _ (h c (by simp)), ih (fun x hx => h x (by simp [hx]))]
theorem lx_n (f : Nat) : ∀ (cm : Bool) (l : List UInt8) (n : Nat), l.length ≤ f → (∀ t ∈ (lx cm l n).1, (n : Int) ≤ t.n ∧ t.n ≤ n + l.length) ∧ (∀ p, (lx cm l n).2 = some p → p.2 ≠ 0 ∧ p.2 ≤ 4 ∧ p.1 ≤ n + l.length) := by
  induction f with
  | zero =>
    intro cm l n hl
    obtain rfl : l = [] := List.eq_nil_of_length_eq_zero (by omega)
    rw [lx_nil]; simp
  | succ f ih =>
    intro cm l n hl
    rw [lx_eq]
    have hnl := nl_le (l.take (gp cm l))
    have hg := gp_le l cm
    rw [List.length_take] at hnl
    generalize hr : l.drop (gp cm l) = r
    have hlen : r.length = l.length - gp cm l := by rw [← hr]; simp
    generalize nl (l.take (gp cm l)) = m at *
    cases r with
    | nil => simp [lxS]
    | cons c r =>
      have hp := tl_pos c r
      have hle := tl_le (c :: r)
      by_cases h0 : (tkR (c :: r)).2 = 0
      · rw [lxS_ok (by simp) h0]
        obtain ⟨i1, i2⟩ := ih false ((c :: r).drop (tl (c :: r))) (n + m) (by simp at hlen hle ⊢; omega)
        have hd : ((c :: r).drop (tl (c :: r))).length + m ≤ l.length := by rw [List.length_drop]; omega
        constructor
        · intro t ht
          rcases List.mem_cons.1 ht with rfl | ht
          · constructor
            · show (n : Int) ≤ ((n + m : Nat) : Int); omega
            · show ((n + m : Nat) : Int) ≤ _; omega
          · have := i1 t ht; omega
        · intro p hpp
          have := i2 p hpp; omega
      · rw [lxS_err (by simp) h0]
        refine ⟨by simp, ?_⟩
        intro p hpp
        simp only [Option.some.injEq] at hpp
        subst hpp
        have h4 : (tkR (c :: r)).2 ≤ 4 := by
          unfold tkR tokO
          split
          · exact Nat.le_refl _
          · (repeat' split)
            all_goals first
              | exact Nat.le_refl _
              | exact Nat.zero_le _
              | (simp only [numE]; (repeat' split) <;> omega)
        exact ⟨h0, h4, by simp only; omega⟩

theorem lx_len (f : Nat) : ∀ (cm : Bool) (l : List UInt8) (n : Nat), l.length ≤ f → (lx cm l n).1.length ≤ l.length := by
  induction f with
  | zero =>
    intro cm l n hl
    obtain rfl : l = [] := List.eq_nil_of_length_eq_zero (by omega)
    rw [lx_nil]; simp
  | succ f ih =>
    intro cm l n hl
    rw [lx_eq]
    generalize hr : l.drop (gp cm l) = r
    have hlen : r.length ≤ l.length := by rw [← hr]; simp
    generalize n + nl (l.take (gp cm l)) = m
    cases r with
    | nil => simp [lxS]
    | cons c r =>
      have hp := tl_pos c r
      have hle := tl_le (c :: r)
      by_cases h0 : (tkR (c :: r)).2 = 0
      · rw [lxS_ok (by simp) h0]
        have i1 := ih false ((c :: r).drop (tl (c :: r))) m (by simp at hlen hle ⊢; omega)
        rw [List.length_drop] at i1
        simp only [List.length_cons] at i1 hle hlen ⊢
        omega
      · rw [lxS_err (by simp) h0]; simp
theorem ans_len (l : List UInt8) : (ans l).1.length ≤ 1048576 := by
  unfold ans
  split
  · simp
  · have := lx_len _ false l 1 (Nat.le_refl _)
    split
    · simp only; omega
    · simp

end Go.Proofs.Ytnmmbpmgdicglaa
