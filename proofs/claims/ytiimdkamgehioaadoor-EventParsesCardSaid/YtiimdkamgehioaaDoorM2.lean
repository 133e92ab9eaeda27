/-
  The plain mathematics of tokens: the token at a place, all tokens of a list, quoting.
-/
import Derived.Test.YtiimdkamgehioaaDoorM1
namespace Go.Proofs.YtiimdkamgehioaaDoor
set_option linter.unusedVariables false
set_option linter.unusedSimpArgs false

/-- A token: kind, text, value, line. -/
structure Tok where
  k : Int
  t : List UInt8
  v : Int
  n : Int

/-- The token that all of the list is (its line 0), and the error. -/
def tokO (l : List UInt8) : Tok × Nat :=
  match l with
  | [] => (⟨0, [], 0, 0⟩, 4)
  | c :: r =>
    if c.toNat = 34 then (match unq (c :: r) with | none => (⟨3, [], 0, 0⟩, 4) | some o => (⟨3, o, 0, 0⟩, 0))
    else if isDg c.toNat = true ∨ c.toNat = 45 then (⟨2, c :: r, numV (c :: r), 0⟩, numE (c :: r))
    else if nm (c :: r) = true then (⟨1, c :: r, 0, 0⟩, 0)
    else if mk (c :: r) = true then (⟨4, c :: r, 0, 0⟩, 0)
    else (⟨0, [], 0, 0⟩, 4)
/-- The token that the list begins with. -/
def tkR (l : List UInt8) : Tok × Nat := tokO (l.take (tl l))

def lxS (rec' : List UInt8 → Nat → List Tok × Option (Nat × Nat)) (r : List UInt8) (m : Nat) : List Tok × Option (Nat × Nat) :=
  if r.isEmpty = true then ([], none)
  else if (tkR r).2 = 0 then (⟨(tkR r).1.k, (tkR r).1.t, (tkR r).1.v, m⟩ :: (rec' (r.drop (tl r)) m).1, (rec' (r.drop (tl r)) m).2)
  else ([], some (m, (tkR r).2))
def lxF : Nat → Bool → List UInt8 → Nat → List Tok × Option (Nat × Nat)
  | 0, _, _, _ => ([], none)
  | f + 1, cm, l, n => lxS (lxF f false) (l.drop (gp cm l)) (n + nl (l.take (gp cm l)))
/-- All tokens of the list, from line n on ('cm': inside a comment), or the line and the error. -/
def lx (cm : Bool) (l : List UInt8) (n : Nat) : List Tok × Option (Nat × Nat) := lxF (l.length + 1) cm l n
theorem lxF_same : ∀ (f g : Nat) (cm : Bool) (l : List UInt8) (n : Nat), l.length < f → l.length < g → lxF f cm l n = lxF g cm l n := by
  intro f
  induction f with
  | zero => intro g cm l n h; omega
  | succ f ih =>
    intro g cm l n hf hg
    cases g with
    | zero => omega
    | succ g =>
      simp only [lxF]
      generalize hr : l.drop (gp cm l) = r
      have hl : r.length ≤ l.length := by rw [← hr]; simp
      cases r with
      | nil => rfl
      | cons c r =>
        have h1 := tl_pos c r
        have h2 := ih g false ((c :: r).drop (tl (c :: r))) (n + nl (l.take (gp cm l))) (by simp at hl ⊢; omega) (by simp at hl ⊢; omega)
        unfold lxS
        rw [h2]
theorem lx_eq (cm : Bool) (l : List UInt8) (n : Nat) : lx cm l n = lxS (lx false) (l.drop (gp cm l)) (n + nl (l.take (gp cm l))) := by
  have e : lx cm l n = lxS (lxF l.length false) (l.drop (gp cm l)) (n + nl (l.take (gp cm l))) := rfl
  rw [e]
  generalize hr : l.drop (gp cm l) = r
  have hl : r.length ≤ l.length := by rw [← hr]; simp
  cases r with
  | nil => rfl
  | cons c r =>
    have h1 := tl_pos c r
    have h2 : lxF l.length false ((c :: r).drop (tl (c :: r))) (n + nl (l.take (gp cm l))) = lx false ((c :: r).drop (tl (c :: r))) (n + nl (l.take (gp cm l))) := lxF_same l.length (((c :: r).drop (tl (c :: r))).length + 1) false ((c :: r).drop (tl (c :: r))) (n + nl (l.take (gp cm l))) (by simp at hl ⊢; omega) (by omega)
    simp only [lxS]
    rw [h2]
theorem lx_nil (cm : Bool) (n : Nat) : lx cm [] n = ([], none) := by rw [lx_eq]; rfl
theorem lx_of {cm cm' : Bool} {l l' : List UInt8} {n n' : Nat} (h1 : l.drop (gp cm l) = l'.drop (gp cm' l')) (h2 : n + nl (l.take (gp cm l)) = n' + nl (l'.take (gp cm' l'))) : lx cm l n = lx cm' l' n' := by
  rw [lx_eq, lx_eq cm', h1, h2]
theorem lx_nl (cm : Bool) (c : UInt8) (r : List UInt8) (n : Nat) (h : c.toNat = 10) : lx cm (c :: r) n = lx false r (n + 1) := by
  have e : gp cm (c :: r) = gp false r + 1 := by simp only [gp]; rw [if_pos h]
  refine lx_of (by rw [e, List.drop_succ_cons]) ?_
  rw [e, List.take_succ_cons]
  simp only [nl]; rw [if_pos h]; omega
theorem lx_sp (c : UInt8) (r : List UInt8) (n : Nat) (h : c.toNat = 32 ∨ c.toNat = 9) : lx false (c :: r) n = lx false r n := by
  have e : gp false (c :: r) = gp false r + 1 := by simp only [gp]; rw [if_neg (by omega), if_neg (by omega), if_neg (by intro a; omega)]
  refine lx_of (by rw [e, List.drop_succ_cons]) ?_
  rw [e, List.take_succ_cons]
  simp only [nl]; rw [if_neg (by omega)]
theorem lx_hash (cm : Bool) (c : UInt8) (r : List UInt8) (n : Nat) (h : c.toNat = 35) : lx cm (c :: r) n = lx true r n := by
  have e : gp cm (c :: r) = gp true r + 1 := by simp only [gp]; rw [if_neg (by omega), if_pos h]
  refine lx_of (by rw [e, List.drop_succ_cons]) ?_
  rw [e, List.take_succ_cons]
  simp only [nl]; rw [if_neg (by omega)]
theorem lx_cm (c : UInt8) (r : List UInt8) (n : Nat) (h : c.toNat ≠ 10) : lx true (c :: r) n = lx true r n := by
  by_cases h2 : c.toNat = 35
  · exact lx_hash true c r n h2
  · have e : gp true (c :: r) = gp true r + 1 := by simp only [gp]; rw [if_neg h, if_neg h2, if_neg (by simp)]
    refine lx_of (by rw [e, List.drop_succ_cons]) ?_
    rw [e, List.take_succ_cons]
    simp only [nl]; rw [if_neg h]
/-- No gap begins here. -/
def noGap (c : Nat) : Prop := c ≠ 10 ∧ c ≠ 35 ∧ c ≠ 32 ∧ c ≠ 9
theorem gp_no (c : UInt8) (r : List UInt8) (h : noGap c.toNat) : gp false (c :: r) = 0 := by
  obtain ⟨h1, h2, h3, h4⟩ := h
  simp only [gp]; rw [if_neg h1, if_neg h2]; simp [h3, h4]
theorem lx_tok (c : UInt8) (r : List UInt8) (n : Nat) (h : noGap c.toNat) : lx false (c :: r) n = lxS (lx false) (c :: r) n := by
  rw [lx_eq, gp_no c r h]; rfl
theorem lxS_ok {r : List UInt8} {m : Nat} {f : List UInt8 → Nat → List Tok × Option (Nat × Nat)} (h : r ≠ []) (h0 : (tkR r).2 = 0) : lxS f r m = (⟨(tkR r).1.k, (tkR r).1.t, (tkR r).1.v, m⟩ :: (f (r.drop (tl r)) m).1, (f (r.drop (tl r)) m).2) := by
  cases r with
  | nil => exact absurd rfl h
  | cons c r => unfold lxS; rw [if_neg (by simp), if_pos h0]
theorem lxS_err {r : List UInt8} {m : Nat} {f : List UInt8 → Nat → List Tok × Option (Nat × Nat)} (h : r ≠ []) (h0 : (tkR r).2 ≠ 0) : lxS f r m = ([], some (m, (tkR r).2)) := by
  cases r with
  | nil => exact absurd rfl h
  | cons c r => unfold lxS; rw [if_neg (by simp), if_neg h0]

/-- What Tokens answers. -/
def ans (l : List UInt8) : List Tok × Nat × Nat :=
  if 1048576 < l.length then ([], 0, 6)
  else match (lx false l 1).2 with
    | none => ((lx false l 1).1, 0, 0)
    | some p => ([], p.1, p.2)
theorem ans_limit {l : List UInt8} (h : 1048576 < l.length) : ans l = ([], 0, 6) := by unfold ans; rw [if_pos h]
theorem ans_ok {l : List UInt8} {ts : List Tok} (h : l.length ≤ 1048576) (h1 : lx false l 1 = (ts, none)) : ans l = (ts, 0, 0) := by
  unfold ans; rw [if_neg (by omega), h1]
theorem ans_err {l : List UInt8} {ts : List Tok} {m e : Nat} (h : l.length ≤ 1048576) (h1 : lx false l 1 = (ts, some (m, e))) : ans l = ([], m, e) := by
  unfold ans; rw [if_neg (by omega), h1]

/-! The extent of a quoted string, and its contents. -/
theorem unq_qd (c : UInt8) (r : List UInt8) (h : c.toNat = 34) : unq ((c :: r).take (ql false r + 1)) = (qd r).map (·.1) := by
  have hc : c = 34 := UInt8.toNat_inj.1 h
  subst hc
  have hl := ql_le r false
  rw [List.take_succ_cons]
  generalize hk : ql false r = k at *
  unfold qd unq
  rw [hk]
  have e1 : (34 :: r.take k).length = k + 1 := by simp; omega
  rw [e1, List.head?_cons, List.drop_succ_cons, List.drop_zero, show k + 1 - 2 = k - 1 by omega, List.take_take, show min (k - 1) k = k - 1 by omega]
  by_cases h0 : 0 < k
  · have e2 : (34 :: r.take k).getLast? = r[k - 1]? := by
      rw [List.getLast?_eq_getElem?, e1, show k + 1 - 1 = (k - 1) + 1 by omega, List.getElem?_cons_succ, List.getElem?_take, if_pos (by omega)]
    rw [e2]
    by_cases h2 : r[k - 1]? = some 34
    · rw [if_pos ⟨by omega, rfl, h2⟩, if_pos ⟨h0, h2⟩]
      cases ub (r.take (k - 1)) <;> rfl
    · rw [if_neg (fun a => h2 a.2.2), if_neg (fun a => h2 a.2)]; rfl
  · rw [if_neg (fun a => by omega), if_neg (fun a => h0 a.1)]; rfl
theorem rp_34 {c : UInt8} {r : List UInt8} (h : (rp (c :: r)).2 ≠ 0) : c.toNat ≠ 34 := by
  intro e
  have hc : c = 34 := UInt8.toNat_inj.1 e
  subst hc
  exact h rfl
theorem qd_of_ub (n : Nat) : ∀ (m t o : List UInt8), m.length ≤ n → ub m = some o → qd (m ++ 34 :: t) = some (o, m.length + 1) := by
  induction n with
  | zero =>
    intro m t o hm h
    obtain rfl : m = [] := List.eq_nil_of_length_eq_zero (by omega)
    rw [ub_nil] at h
    cases h
    exact qd_close 34 t rfl
  | succ n ih =>
    intro m t o hm h
    cases m with
    | nil =>
      rw [ub_nil] at h
      cases h
      exact qd_close 34 t rfl
    | cons c r =>
      by_cases h0 : (rp (c :: r)).2 = 0
      · rw [ub_bad (by simp) h0] at h; cases h
      · rw [ub_step h0] at h
        have hle := rp_le (c :: r)
        have ha := rp_app (c :: r) (34 :: t) h0
        cases hu : ub ((c :: r).drop (rp (c :: r)).2) with
        | none => rw [hu] at h; cases h
        | some o' =>
          rw [hu] at h
          simp only [Option.map_some, Option.some.injEq] at h
          have := ih _ t o' (by simp at hm hle ⊢; omega) hu
          rw [qd_step _ (by rw [ha]; exact h0), ha, List.drop_append_of_le_length hle, this]
          simp only [Option.map_some, Option.some.injEq, Prod.mk.injEq]
          exact ⟨h, by simp only [List.length_drop]; omega⟩
/-- A whole string is quoted if, and only if, what begins it is, to its end. -/
theorem unq_iff (c : UInt8) (r : List UInt8) (h : c.toNat = 34) : unq (c :: r) = match qd r with | none => none | some (o, k) => if k = r.length then some o else none := by
  have hc : c = 34 := UInt8.toNat_inj.1 h
  subst hc
  by_cases hk : ql false r = r.length
  · have e := unq_qd 34 r rfl
    rw [hk, List.take_of_length_le (by simp)] at e
    rw [e]
    cases hq : qd r with
    | none => rfl
    | some p =>
      obtain ⟨o, k⟩ := p
      have : k = r.length := by
        unfold qd at hq
        split at hq
        · cases hu : ub (r.take (ql false r - 1)) with
          | none => rw [hu] at hq; cases hq
          | some o' => rw [hu] at hq; simp at hq; omega
        · cases hq
      simp [this]
  · have h2 : unq (34 :: r) = none := by
      cases hu : unq (34 :: r) with
      | none => rfl
      | some o =>
        exfalso
        unfold unq at hu
        split at hu
        · rename_i hh
          obtain ⟨g1, _, g3⟩ := hh
          simp only [List.length_cons, List.drop_succ_cons, List.drop_zero] at g1 hu
          have hr : r = r.take (r.length + 1 - 2) ++ [34] := by
            have e1 : r[r.length - 1]? = some 34 := by
              rw [List.getLast?_eq_getElem?] at g3
              simp only [List.length_cons] at g3
              rw [show r.length + 1 - 1 = (r.length - 1) + 1 by omega, List.getElem?_cons_succ] at g3
              exact g3
            obtain ⟨hh1, hh2⟩ := List.getElem?_eq_some_iff.1 e1
            rw [← hh2]
            rw [show r.length + 1 - 2 = r.length - 1 by omega]
            rw [← List.take_succ_eq_append_getElem hh1]
            rw [List.take_of_length_le (by omega)]
          have := qd_of_ub _ _ [] o (Nat.le_refl _) hu
          rw [← hr] at this
          unfold qd at this
          split at this
          · cases hv : ub (r.take (ql false r - 1)) with
            | none => rw [hv] at this; cases this
            | some o' =>
              rw [hv] at this; simp at this
              obtain ⟨_, this⟩ := this
              omega
          · cases this
        · cases hu
    rw [h2]
    cases hq : qd r with
    | none => rfl
    | some p =>
      obtain ⟨o, k⟩ := p
      have : k = ql false r := by
        unfold qd at hq
        split at hq
        · cases hu : ub (r.take (ql false r - 1)) with
          | none => rw [hu] at hq; cases hq
          | some o' => rw [hu] at hq; simp at hq; omega
        · cases hq
      simp only
      rw [if_neg (by omega)]
theorem qd_ql {r o : List UInt8} {k : Nat} (h : qd r = some (o, k)) : k = ql false r := by
  unfold qd at h
  split at h
  · cases hu : ub (r.take (ql false r - 1)) with
    | none => rw [hu] at h; cases h
    | some o' => rw [hu] at h; simp at h; omega
  · cases h
/-- The token at a double quote. -/
theorem tkR_str (c : UInt8) (r : List UInt8) (h : c.toNat = 34) : tkR (c :: r) = match qd r with | none => (⟨3, [], 0, 0⟩, 4) | some p => (⟨3, p.1, 0, 0⟩, 0) := by
  unfold tkR
  have e : tl (c :: r) = ql false r + 1 := by simp only [tl]; rw [if_pos h]
  have hu := unq_qd c r h
  rw [e]
  rw [List.take_succ_cons] at hu ⊢
  unfold tokO
  simp only
  rw [if_pos h, hu]
  cases qd r <;> rfl
theorem tl_str (c : UInt8) (r : List UInt8) (h : c.toNat = 34) : tl (c :: r) = ql false r + 1 := by simp only [tl]; rw [if_pos h]
theorem tl_word (c : UInt8) (r : List UInt8) (h : isLt c.toNat = true ∨ isDg c.toNat = true ∨ c.toNat = 45) : tl (c :: r) = wl r + 1 := by
  have h0 : c.toNat ≠ 34 := by intro e; rw [e] at h; revert h; decide
  simp only [tl]; rw [if_neg h0, if_pos h]
theorem tl_other (c : UInt8) (r : List UInt8) (h0 : c.toNat ≠ 34) (h : ¬ (isLt c.toNat = true ∨ isDg c.toNat = true ∨ c.toNat = 45)) : tl (c :: r) = 1 := by
  simp only [tl]; rw [if_neg h0, if_neg h]
theorem tokO_num (c : UInt8) (r : List UInt8) (h0 : c.toNat ≠ 34) (h : isDg c.toNat = true ∨ c.toNat = 45) : tokO (c :: r) = (⟨2, c :: r, numV (c :: r), 0⟩, numE (c :: r)) := by
  simp only [tokO]; rw [if_neg h0, if_pos h]
theorem tokO_name (c : UInt8) (r : List UInt8) (h0 : c.toNat ≠ 34) (h : ¬ (isDg c.toNat = true ∨ c.toNat = 45)) (h2 : nm (c :: r) = true) : tokO (c :: r) = (⟨1, c :: r, 0, 0⟩, 0) := by
  simp only [tokO]; rw [if_neg h0, if_neg h, if_pos h2]
theorem tokO_mark (c : UInt8) (r : List UInt8) (h0 : c.toNat ≠ 34) (h : ¬ (isDg c.toNat = true ∨ c.toNat = 45)) (h2 : nm (c :: r) = false) (h3 : mk (c :: r) = true) : tokO (c :: r) = (⟨4, c :: r, 0, 0⟩, 0) := by
  simp only [tokO]; rw [if_neg h0, if_neg h, if_neg (by rw [h2]; decide), if_pos h3]
theorem tokO_none (c : UInt8) (r : List UInt8) (h0 : c.toNat ≠ 34) (h : ¬ (isDg c.toNat = true ∨ c.toNat = 45)) (h2 : nm (c :: r) = false) (h3 : mk (c :: r) = false) : tokO (c :: r) = (⟨0, [], 0, 0⟩, 4) := by
  simp only [tokO]; rw [if_neg h0, if_neg h, if_neg (by rw [h2]; decide), if_neg (by rw [h3]; decide)]
theorem mk_letter (c : UInt8) (r : List UInt8) (h : isLt c.toNat = true) : mk (c :: r) = false := by
  cases r with
  | nil =>
    unfold isLt at h
    rw [decide_eq_true_eq] at h
    simp only [mk, mkC, List.contains_eq_mem, List.mem_cons, List.not_mem_nil, or_false, decide_eq_false_iff_not]
    omega
  | cons _ _ => rfl
theorem nm_letter (c : UInt8) (r : List UInt8) (h : isLt c.toNat = false) : nm (c :: r) = false := by
  simp only [nm, h, Bool.and_false, Bool.false_and]

/-! Quoting. -/
def hexd (n : Nat) : UInt8 := [48, 49, 50, 51, 52, 53, 54, 55, 56, 57, 97, 98, 99, 100, 101, 102].getD n 0
def qt1 (c : UInt8) : List UInt8 :=
  if c.toNat = 34 ∨ c.toNat = 92 then [92, c] else if c.toNat = 10 then [92, 110] else if isPr c.toNat = true then [c] else [92, 120, hexd (c.toNat / 16), hexd (c.toNat % 16)]
def qtB (l : List UInt8) : List UInt8 := l.flatMap qt1
def qt (l : List UInt8) : List UInt8 := 34 :: (qtB l ++ [34])
theorem qt1_len (c : UInt8) : 1 ≤ (qt1 c).length ∧ (qt1 c).length ≤ 4 := by unfold qt1; (repeat' split) <;> simp
theorem qtB_snoc (l : List UInt8) (c : UInt8) : qtB (l ++ [c]) = qtB l ++ qt1 c := by simp [qtB]
theorem qtB_len (l : List UInt8) : l.length ≤ (qtB l).length ∧ (qtB l).length ≤ 4 * l.length := by
  induction l with
  | nil => simp [qtB]
  | cons c r ih =>
    have := qt1_len c
    simp only [qtB, List.flatMap_cons, List.length_append, List.length_cons] at ih ⊢
    omega
theorem qt_len (l : List UInt8) : (qt l).length = (qtB l).length + 2 := by simp [qt]
theorem hx_hexd : ∀ n, n < 16 → hx (hexd n).toNat = n := by decide
theorem rp_qt1 (c : UInt8) (t : List UInt8) : rp (qt1 c ++ t) = (c, (qt1 c).length) := by
  unfold qt1
  by_cases h1 : c.toNat = 34 ∨ c.toNat = 92
  · rw [if_pos h1]
    simp only [List.cons_append, List.nil_append, rp]
    rw [if_neg (by decide), if_pos h1]; rfl
  · rw [if_neg h1]
    by_cases h2 : c.toNat = 10
    · rw [if_pos h2]
      have hc : c = 10 := UInt8.toNat_inj.1 h2
      subst hc
      rfl
    · rw [if_neg h2]
      by_cases h3 : isPr c.toNat = true
      · rw [if_pos h3]
        simp only [List.cons_append, List.nil_append, rp]
        rw [if_pos (by omega), if_neg (by rw [h3]; simp; omega)]; rfl
      · rw [if_neg h3]
        have hlt : c.toNat < 256 := c.toNat_lt
        have e1 := hx_hexd (c.toNat / 16) (by omega)
        have e2 := hx_hexd (c.toNat % 16) (by omega)
        simp only [List.cons_append, List.nil_append, rp, hb, e1, e2]
        rw [if_neg (by decide), if_neg (by decide), if_neg (by decide), if_pos (by decide), if_neg (by omega)]
        congr 1
        rw [show (((c.toNat / 16 : Nat) : Int) * 16 + ((c.toNat % 16 : Nat) : Int)).toNat = c.toNat by omega]
        exact UInt8.ofNat_toNat
theorem ub_qtB (l : List UInt8) : ub (qtB l) = some l := by
  induction l with
  | nil => rfl
  | cons c r ih =>
    have h := rp_qt1 c (qtB r)
    have e : qtB (c :: r) = qt1 c ++ qtB r := by simp [qtB]
    have := qt1_len c
    rw [e, ub_step (by rw [h]; simp only; omega), h]
    simp only
    rw [List.drop_left, ih]
    rfl
theorem unq_qt (l : List UInt8) : unq (qt l) = some l := by
  have h := qd_of_ub _ (qtB l) [] l (Nat.le_refl _) (ub_qtB l)
  unfold qt
  rw [unq_iff 34 _ rfl, h]
  simp

end Go.Proofs.YtiimdkamgehioaaDoor
