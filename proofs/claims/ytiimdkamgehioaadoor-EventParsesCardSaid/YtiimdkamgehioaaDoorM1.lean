/-
  The plain mathematics of tokens: characters, words, numbers, gaps, the extent of a quoted string.
-/
import Derived.Test.YtiimdkamgehioaaDoorG0
import Derived.Lib.OthersKept
namespace Go.Proofs.YtiimdkamgehioaaDoor
set_option linter.unusedVariables false
set_option linter.unusedSimpArgs false

def isLt (c : Nat) : Bool := decide (97 ≤ c ∧ c ≤ 122)
def isDg (c : Nat) : Bool := decide (48 ≤ c ∧ c ≤ 57)
def isIn (c : Nat) : Bool := isLt c || isDg c || decide (c = 95)
def isPr (c : Nat) : Bool := decide (32 ≤ c ∧ c ≤ 126)
def hx (c : Nat) : Int := if 48 ≤ c ∧ c ≤ 57 then (c : Int) - 48 else if 97 ≤ c ∧ c ≤ 102 then (c : Int) - 87 else -1
theorem hx_lt (c : Nat) : -1 ≤ hx c ∧ hx c < 16 := by unfold hx; (repeat' split) <;> omega
theorem hx_big {c : Nat} (h : 128 ≤ c) : hx c = -1 := by unfold hx; rw [if_neg (by omega), if_neg (by omega)]
theorem isIn_big {c : Nat} (h : 128 ≤ c) : isIn c = false := by unfold isIn isLt isDg; simp; omega

/-- How many characters of a name or a number the list begins with. -/
def wl : List UInt8 → Nat
  | [] => 0
  | c :: r => if isIn c.toNat = true then wl r + 1 else 0
theorem wl_le (l : List UInt8) : wl l ≤ l.length := by
  induction l with
  | nil => exact Nat.le_refl _
  | cons c r ih => simp only [wl]; split <;> simp <;> omega
theorem wl_take (l : List UInt8) : ∀ j, wl l ≤ j → wl (l.take j) = wl l := by
  induction l with
  | nil => intro j _; simp
  | cons c r ih =>
    intro j hj
    by_cases h : isIn c.toNat = true
    · simp only [wl, h, if_true] at hj ⊢
      obtain ⟨j, rfl⟩ : ∃ k, j = k + 1 := ⟨j - 1, by omega⟩
      simp only [List.take_succ_cons, wl, h, if_true, ih j (by omega)]
    · cases j with
      | zero => simp [wl, h]
      | succ j => simp [wl, h]

/-- A name. -/
def nm (l : List UInt8) : Bool :=
  match l with
  | [] => false
  | c :: r => decide ((c :: r).length ≤ 16) && isLt c.toNat && decide (wl (c :: r) = (c :: r).length)

/-- The digits' value, of whatever base; all that is above 2^53 alike. -/
def mgF (b : Int) : List UInt8 → Int → Option Int
  | [], n => some n
  | c :: r, n => if hx c.toNat < 0 ∨ b ≤ hx c.toNat then none else mgF b r (min (n * b + hx c.toNat) 9007199254740993)
def mg (l : List UInt8) (b : Int) : Option Int :=
  match l with
  | [] => none
  | c :: r => if 0 < r.length ∧ c.toNat = 48 then none else mgF b (c :: r) 0
def neg (l : List UInt8) : Bool := Lib.hasPrefix l [45]
def body (l : List UInt8) : List UInt8 := Lib.trimPrefix l [45]
def hex (l : List UInt8) : Bool := Lib.hasPrefix (body l) [48, 120]
def digs (l : List UInt8) : List UInt8 := Lib.trimPrefix (body l) [48, 120]
def numO (l : List UInt8) : Option Int := mg (digs l) (if hex l = true then 16 else 10)
def numE (l : List UInt8) : Nat :=
  match numO l with
  | none => 4
  | some n => if neg l = true ∧ n = 0 then 4 else if 9007199254740992 < n then 2 else 0
def numV (l : List UInt8) : Int :=
  match numO l with
  | none => 0
  | some n => if neg l = true ∧ n = 0 then 0 else if 9007199254740992 < n then 0 else if neg l = true then -n else n

theorem mgF_range (b : Int) (hb : 0 ≤ b) : ∀ (l : List UInt8) (n m : Int), 0 ≤ n → n ≤ 9007199254740993 → mgF b l n = some m → 0 ≤ m ∧ m ≤ 9007199254740993 := by
  intro l
  induction l with
  | nil => intro n m h0 h1 h; simp only [mgF, Option.some.injEq] at h; omega
  | cons c r ih =>
    intro n m h0 h1 h
    simp only [mgF] at h
    split at h
    · cases h
    · rename_i hc
      refine ih _ _ ?_ (by omega) h
      have : 0 ≤ n * b := Int.mul_nonneg h0 hb
      omega
theorem mg_range {l : List UInt8} {b m : Int} (hb : 0 ≤ b) (h : mg l b = some m) : 0 ≤ m ∧ m ≤ 9007199254740993 := by
  unfold mg at h
  split at h
  · cases h
  · split at h
    · cases h
    · exact mgF_range b hb _ _ _ (by omega) (by omega) h
theorem numV_range (l : List UInt8) : -9007199254740992 ≤ numV l ∧ numV l ≤ 9007199254740992 := by
  unfold numV
  cases h : numO l with
  | none => simp
  | some n =>
    have := mg_range (by split <;> omega) h
    simp only
    (repeat' split) <;> omega

/-- A mark. -/
def mkC (c : Nat) : Bool := [40, 41, 91, 93, 123, 125, 60, 62, 61, 44, 59, 58, 46, 47, 42, 43, 33, 38, 124].contains c
def mk (l : List UInt8) : Bool :=
  match l with
  | [c] => mkC c.toNat
  | _ => false

/-- The gap (blanks, tabs, line feeds, comments) ahead of a token. -/
def gp : Bool → List UInt8 → Nat
  | _, [] => 0
  | cm, c :: r => if c.toNat = 10 then gp false r + 1 else if c.toNat = 35 then gp true r + 1 else if cm = false ∧ c.toNat ≠ 32 ∧ c.toNat ≠ 9 then 0 else gp cm r + 1
theorem gp_le (l : List UInt8) : ∀ cm, gp cm l ≤ l.length := by
  induction l with
  | nil => intro cm; simp [gp]
  | cons c r ih =>
    intro cm
    have h1 := ih false; have h2 := ih true; have h3 := ih cm
    simp only [gp, List.length_cons]
    (repeat' split) <;> omega
theorem gp_high (n : Nat) : ∀ (l : List UInt8), n ≤ l.length → (∀ x ∈ l.take n, 128 ≤ x.toNat) → gp true l = n + gp true (l.drop n) := by
  induction n with
  | zero => intro l _ _; simp
  | succ n ih =>
    intro l hl h
    match l, hl with
    | c :: r, hl =>
      have h1 : 128 ≤ c.toNat := h c (by simp)
      have h2 := ih r (by simpa using hl) (fun x hx => h x (by simp [hx]))
      simp only [gp, List.drop_succ_cons]
      rw [if_neg (by omega), if_neg (by omega), if_neg (by simp), h2]
      omega
/-- Behind the gap no gap begins. -/
theorem gp_done (l : List UInt8) : ∀ cm, gp false (l.drop (gp cm l)) = 0 := by
  induction l with
  | nil => intro cm; simp [gp]
  | cons c r ih =>
    intro cm
    by_cases h1 : c.toNat = 10
    · simp only [gp, h1, if_true, List.drop_succ_cons]; exact ih false
    · by_cases h2 : c.toNat = 35
      · simp only [gp, h1, if_false, h2, if_true, List.drop_succ_cons]; exact ih true
      · by_cases h3 : cm = false ∧ c.toNat ≠ 32 ∧ c.toNat ≠ 9
        · rw [show gp cm (c :: r) = 0 by simp only [gp]; rw [if_neg h1, if_neg h2, if_pos h3]]
          rw [List.drop_zero]
          obtain ⟨_, h4⟩ := h3
          simp only [gp]; rw [if_neg h1, if_neg h2]; simp [h4]
        · rw [show gp cm (c :: r) = gp cm r + 1 by simp only [gp]; rw [if_neg h1, if_neg h2, if_neg h3]]
          exact ih cm
/-- Line feeds. -/
def nl : List UInt8 → Nat
  | [] => 0
  | c :: r => if c.toNat = 10 then nl r + 1 else nl r
theorem nl_le (l : List UInt8) : nl l ≤ l.length := by
  induction l with
  | nil => exact Nat.le_refl _
  | cons c r ih => simp only [nl, List.length_cons]; split <;> omega

/-- The extent of a quoted string behind its first double quote: up to the double quote that ends it, else all. -/
def ql : Bool → List UInt8 → Nat
  | _, [] => 0
  | true, _ :: r => ql false r + 1
  | false, c :: r => if c.toNat = 92 then ql true r + 1 else if c.toNat = 34 then 1 else ql false r + 1
theorem ql_le (l : List UInt8) : ∀ e, ql e l ≤ l.length := by
  induction l with
  | nil => intro e; cases e <;> simp [ql]
  | cons c r ih =>
    intro e
    have h1 := ih false; have h2 := ih true
    cases e with
    | true => simp only [ql, List.length_cons]; omega
    | false => simp only [ql, List.length_cons]; (repeat' split) <;> omega
theorem ql_high (n : Nat) : ∀ (l : List UInt8), n ≤ l.length → (∀ x ∈ l.take n, 128 ≤ x.toNat) → ql false l = n + ql false (l.drop n) := by
  induction n with
  | zero => intro l _ _; simp
  | succ n ih =>
    intro l hl h
    match l, hl with
    | c :: r, hl =>
      have h1 : 128 ≤ c.toNat := h c (by simp)
      have h2 := ih r (by simpa using hl) (fun x hx => h x (by simp [hx]))
      simp only [ql, List.drop_succ_cons]
      rw [if_neg (by omega), if_neg (by omega), h2]
      omega
theorem ql_highE (e : Bool) (n : Nat) (l : List UInt8) (hn : 1 ≤ n) (hl : n ≤ l.length) (h : ∀ x ∈ l.take n, 128 ≤ x.toNat) : ql e l = n + ql false (l.drop n) := by
  cases e with
  | false => exact ql_high n l hl h
  | true =>
    obtain ⟨n, rfl⟩ : ∃ k, n = k + 1 := ⟨n - 1, by omega⟩
    match l, hl with
    | c :: r, hl =>
      simp only [ql, List.drop_succ_cons]
      rw [ql_high n r (by simpa using hl) (fun x hx => h x (by simp [hx]))]
      omega

/-- The length of the token, right or wrong, that the list begins with. -/
def tl (l : List UInt8) : Nat :=
  match l with
  | [] => 0
  | c :: r => if c.toNat = 34 then ql false r + 1 else if isLt c.toNat = true ∨ isDg c.toNat = true ∨ c.toNat = 45 then wl r + 1 else 1
theorem tl_le (l : List UInt8) : tl l ≤ l.length := by
  cases l with
  | nil => exact Nat.le_refl _
  | cons c r =>
    have := ql_le r false; have := wl_le r
    simp only [tl, List.length_cons]
    (repeat' split) <;> omega
theorem tl_pos (c : UInt8) (r : List UInt8) : 1 ≤ tl (c :: r) := by
  simp only [tl]; (repeat' split) <;> omega

/-! What a quoted string's contents represent. -/
def hb (l : List UInt8) : UInt8 × Nat :=
  match l with
  | _ :: _ :: h :: m :: _ => if hx h.toNat < 0 ∨ hx m.toNat < 0 then (0, 0) else (UInt8.ofNat (hx h.toNat * 16 + hx m.toNat).toNat, 4)
  | _ => (0, 0)
def rp (l : List UInt8) : UInt8 × Nat :=
  match l with
  | [] => (0, 0)
  | c :: r =>
    if c.toNat ≠ 92 then (if c.toNat = 34 ∨ isPr c.toNat = false then (0, 0) else (c, 1))
    else match r with
      | [] => (0, 0)
      | e :: r2 => if e.toNat = 34 ∨ e.toNat = 92 then (e, 2) else if e.toNat = 110 then (10, 2) else if e.toNat = 120 then hb (c :: e :: r2) else (0, 0)
theorem hb_len (l : List UInt8) : (hb l).2 = 0 ∨ (hb l).2 = 4 ∧ 4 ≤ l.length := by
  unfold hb
  split
  · split
    · exact Or.inl rfl
    · exact Or.inr ⟨rfl, by simp⟩
  · exact Or.inl rfl
theorem rp_le (l : List UInt8) : (rp l).2 ≤ l.length := by
  unfold rp
  split
  · simp
  · split
    · split <;> simp
    · split
      · simp
      · rename_i c r _ e r2
        have := hb_len (c :: e :: r2)
        (repeat' split) <;> simp at * <;> omega
theorem hb_app (l t : List UInt8) (h : (hb l).2 ≠ 0) : hb (l ++ t) = hb l := by
  match l, h with
  | [], h => exact absurd rfl h
  | [a], h => exact absurd rfl h
  | [a, b], h => exact absurd rfl h
  | [a, b, c], h => exact absurd rfl h
  | a :: b :: c :: d :: r, _ => rfl
theorem rp_app (l t : List UInt8) (h : (rp l).2 ≠ 0) : rp (l ++ t) = rp l := by
  match l, h with
  | [], h => exact absurd rfl h
  | [c], h =>
    by_cases h1 : c.toNat ≠ 92
    · simp only [rp, List.cons_append, List.nil_append]; rw [if_pos h1, if_pos h1]
    · exact absurd (by simp only [rp]; rw [if_neg h1]) h
  | c :: e :: r, h =>
    by_cases h1 : c.toNat ≠ 92
    · simp only [rp, List.cons_append]; rw [if_pos h1, if_pos h1]
    · have hh : rp (c :: e :: r ++ t) = if e.toNat = 34 ∨ e.toNat = 92 then (e, 2) else if e.toNat = 110 then (10, 2) else if e.toNat = 120 then hb (c :: e :: r ++ t) else (0, 0) := by
        simp only [rp, List.cons_append]; rw [if_neg h1]
      have hh2 : rp (c :: e :: r) = if e.toNat = 34 ∨ e.toNat = 92 then (e, 2) else if e.toNat = 110 then (10, 2) else if e.toNat = 120 then hb (c :: e :: r) else (0, 0) := by
        simp only [rp]; rw [if_neg h1]
      rw [hh2] at h
      rw [hh, hh2]
      by_cases a1 : e.toNat = 34 ∨ e.toNat = 92
      · rw [if_pos a1, if_pos a1]
      · rw [if_neg a1] at h ⊢
        rw [if_neg a1]
        by_cases a2 : e.toNat = 110
        · rw [if_pos a2, if_pos a2]
        · rw [if_neg a2] at h ⊢
          rw [if_neg a2]
          by_cases a3 : e.toNat = 120
          · rw [if_pos a3] at h ⊢
            rw [if_pos a3]
            exact hb_app _ _ h
          · rw [if_neg a3, if_neg a3]
theorem rp_take (l : List UInt8) (j : Nat) (h : (rp l).2 ≠ 0) (hj : (rp l).2 ≤ j) : rp (l.take j) = rp l := by
  by_cases h0 : (rp (l.take j)).2 = 0
  · exfalso
    -- the representation needs no more than its own bytes
    match l, h with
    | [], h => exact h rfl
    | c :: r, h =>
      by_cases h1 : c.toNat ≠ 92
      · have e1 : rp (c :: r) = if c.toNat = 34 ∨ isPr c.toNat = false then (0, 0) else (c, 1) := by simp only [rp]; rw [if_pos h1]
        by_cases h2 : c.toNat = 34 ∨ isPr c.toNat = false
        · rw [e1, if_pos h2] at h; exact h rfl
        · rw [e1, if_neg h2] at hj
          obtain ⟨j, rfl⟩ : ∃ k, j = k + 1 := ⟨j - 1, by simp only at hj; omega⟩
          rw [List.take_succ_cons] at h0
          simp only [rp] at h0; rw [if_pos h1, if_neg h2] at h0
          simp at h0
      · match r, h with
        | [], h => exact absurd (by simp only [rp]; rw [if_neg h1]) h
        | e :: r2, h =>
          have e1 : rp (c :: e :: r2) = if e.toNat = 34 ∨ e.toNat = 92 then (e, 2) else if e.toNat = 110 then (10, 2) else if e.toNat = 120 then hb (c :: e :: r2) else (0, 0) := by
            simp only [rp]; rw [if_neg h1]
          rw [e1] at h hj
          have hj2 : 2 ≤ j := by
            revert hj h
            have := hb_len (c :: e :: r2)
            (repeat' split) <;> intro a b <;> omega
          obtain ⟨j, rfl⟩ : ∃ k, j = k + 2 := ⟨j - 2, by omega⟩
          rw [List.take_succ_cons, List.take_succ_cons] at h0
          have e2 : rp (c :: e :: r2.take j) = if e.toNat = 34 ∨ e.toNat = 92 then (e, 2) else if e.toNat = 110 then (10, 2) else if e.toNat = 120 then hb (c :: e :: r2.take j) else (0, 0) := by
            simp only [rp]; rw [if_neg h1]
          rw [e2] at h0
          by_cases a1 : e.toNat = 34 ∨ e.toNat = 92
          · rw [if_pos a1] at h0; simp at h0
          · rw [if_neg a1] at h0 h hj
            by_cases a2 : e.toNat = 110
            · rw [if_pos a2] at h0; simp at h0
            · rw [if_neg a2] at h0 h hj
              by_cases a3 : e.toNat = 120
              · rw [if_pos a3] at h0 h hj
                match r2, h, hj with
                | [], h, _ => exact h rfl
                | [p], h, _ => exact h rfl
                | p :: q :: r3, h, hj =>
                  have hl : (hb (c :: e :: p :: q :: r3)).2 = 4 := by rcases hb_len (c :: e :: p :: q :: r3) with a | a; exact absurd a h; exact a.1
                  rw [hl] at hj
                  obtain ⟨j, rfl⟩ : ∃ k, j = k + 2 := ⟨j - 2, by omega⟩
                  rw [List.take_succ_cons, List.take_succ_cons] at h0
                  exact h h0
              · rw [if_neg a3] at h; exact h rfl
  · have := rp_app (l.take j) (l.drop j) h0
    rw [List.take_append_drop] at this
    exact this.symm
/-- A representation's bytes are passed by the extent. -/
theorem ql_step (l : List UInt8) (h : (rp l).2 ≠ 0) : ql false l = (rp l).2 + ql false (l.drop (rp l).2) := by
  match l, h with
  | [], h => exact absurd rfl h
  | c :: r, h =>
    by_cases h1 : c.toNat ≠ 92
    · have e1 : rp (c :: r) = if c.toNat = 34 ∨ isPr c.toNat = false then (0, 0) else (c, 1) := by simp only [rp]; rw [if_pos h1]
      by_cases h2 : c.toNat = 34 ∨ isPr c.toNat = false
      · rw [e1, if_pos h2] at h; exact absurd rfl h
      · rw [e1, if_neg h2]
        simp only [ql, List.drop_succ_cons, List.drop_zero]
        rw [if_neg h1, if_neg (fun e => h2 (Or.inl e))]
        omega
    · have h1' : c.toNat = 92 := by omega
      match r, h with
      | [], h => exact absurd (by simp only [rp]; rw [if_neg h1]) h
      | e :: r2, h =>
        have e1 : rp (c :: e :: r2) = if e.toNat = 34 ∨ e.toNat = 92 then (e, 2) else if e.toNat = 110 then (10, 2) else if e.toNat = 120 then hb (c :: e :: r2) else (0, 0) := by
          simp only [rp]; rw [if_neg h1]
        have e0 : ql false (c :: e :: r2) = ql false r2 + 1 + 1 := by simp only [ql]; rw [if_pos h1']
        rw [e0]
        rw [e1] at h ⊢
        by_cases a1 : e.toNat = 34 ∨ e.toNat = 92
        · rw [if_pos a1]; simp only [List.drop_succ_cons, List.drop_zero]; omega
        · rw [if_neg a1] at h ⊢
          by_cases a2 : e.toNat = 110
          · rw [if_pos a2]; simp only [List.drop_succ_cons, List.drop_zero]; omega
          · rw [if_neg a2] at h ⊢
            by_cases a3 : e.toNat = 120
            · rw [if_pos a3] at h ⊢
              match r2, h with
              | [], h => exact absurd rfl h
              | [p], h => exact absurd rfl h
              | p :: q :: r3, h =>
                have hl : (hb (c :: e :: p :: q :: r3)).2 = 4 := by rcases hb_len (c :: e :: p :: q :: r3) with a | a; exact absurd a h; exact a.1
                rw [hl]
                simp only [hb] at h
                have hh : ¬ (hx p.toNat < 0 ∨ hx q.toNat < 0) := fun a => h (by rw [if_pos a])
                have f1 : p.toNat ≠ 92 ∧ p.toNat ≠ 34 := by constructor <;> intro a <;> exact hh (Or.inl (by rw [a]; decide))
                have f2 : q.toNat ≠ 92 ∧ q.toNat ≠ 34 := by constructor <;> intro a <;> exact hh (Or.inr (by rw [a]; decide))
                simp only [ql, List.drop_succ_cons, List.drop_zero]
                rw [if_neg f1.1, if_neg f1.2, if_neg f2.1, if_neg f2.2]
                omega
            · rw [if_neg a3] at h; exact absurd rfl h

/-- The contents that a list represents. -/
def ubF : Nat → List UInt8 → Option (List UInt8)
  | 0, l => if l.isEmpty = true then some [] else none
  | f + 1, l => if l.isEmpty = true then some [] else if (rp l).2 = 0 then none else (ubF f (l.drop (rp l).2)).map ((rp l).1 :: ·)
def ub (l : List UInt8) : Option (List UInt8) := ubF l.length l
theorem ubF_same : ∀ (f g : Nat) (l : List UInt8), l.length ≤ f → l.length ≤ g → ubF f l = ubF g l := by
  intro f
  induction f with
  | zero =>
    intro g l hf _
    obtain rfl : l = [] := List.eq_nil_of_length_eq_zero (by omega)
    cases g <;> rfl
  | succ f ih =>
    intro g l hf hg
    cases g with
    | zero =>
      obtain rfl : l = [] := List.eq_nil_of_length_eq_zero (by omega)
      rfl
    | succ g =>
      by_cases h : (rp l).2 = 0
      · simp only [ubF, h, if_true]
      · simp only [ubF, h, if_false]
        have := rp_le l
        rw [ih g (l.drop (rp l).2) (by simp; omega) (by simp; omega)]
theorem ub_nil : ub [] = some [] := rfl
theorem ub_bad {l : List UInt8} (h : l ≠ []) (h0 : (rp l).2 = 0) : ub l = none := by
  cases l with
  | nil => exact absurd rfl h
  | cons c r => unfold ub; simp only [List.length_cons, ubF, h0]; rfl
theorem ub_step {l : List UInt8} (h0 : (rp l).2 ≠ 0) : ub l = (ub (l.drop (rp l).2)).map ((rp l).1 :: ·) := by
  cases l with
  | nil => exact absurd rfl h0
  | cons c r =>
    have h1 := rp_le (c :: r)
    unfold ub
    simp only [List.length_cons, ubF, h0, if_false]
    rw [ubF_same r.length _ (List.drop (rp (c :: r)).2 (c :: r)) (by simp at h1 ⊢; omega) (Nat.le_refl _)]
    rfl

/-- A quoted string's contents. -/
def unq (l : List UInt8) : Option (List UInt8) := if 2 ≤ l.length ∧ l.head? = some 34 ∧ l.getLast? = some 34 then ub ((l.drop 1).take (l.length - 2)) else none
/-- The quoted string that begins (behind its first double quote): its contents, and its extent. -/
def qd (l : List UInt8) : Option (List UInt8 × Nat) := if 0 < ql false l ∧ l[ql false l - 1]? = some 34 then (ub (l.take (ql false l - 1))).map (·, ql false l) else none
theorem qd_nil : qd [] = none := rfl
theorem qd_close (c : UInt8) (r : List UInt8) (h : c.toNat = 34) : qd (c :: r) = some ([], 1) := by
  have hc : c = 34 := UInt8.toNat_inj.1 h
  subst hc
  rfl
theorem rp_zero_take (l : List UInt8) (j : Nat) (h : (rp l).2 = 0) : (rp (l.take j)).2 = 0 := by
  by_cases h0 : (rp (l.take j)).2 = 0
  · exact h0
  · have := rp_app (l.take j) (l.drop j) h0
    rw [List.take_append_drop] at this
    rw [← this]; exact h
theorem qd_bad (c : UInt8) (r : List UInt8) (h : c.toNat ≠ 34) (h0 : (rp (c :: r)).2 = 0) : qd (c :: r) = none := by
  unfold qd
  split
  · rename_i hk
    obtain ⟨k1, k2⟩ := hk
    have hne : ql false (c :: r) - 1 ≠ 0 := by
      intro e
      rw [e] at k2
      simp only [List.getElem?_cons_zero, Option.some.injEq] at k2
      exact h (by rw [k2]; rfl)
    have h1 := rp_zero_take (c :: r) (ql false (c :: r) - 1) h0
    rw [ub_bad (by intro e; have := congrArg List.length e; simp at this; omega) h1]
    rfl
  · rfl
theorem qd_step (l : List UInt8) (h0 : (rp l).2 ≠ 0) : qd l = (qd (l.drop (rp l).2)).map (fun p => ((rp l).1 :: p.1, (rp l).2 + p.2)) := by
  have hs := ql_step l h0
  generalize hn : (rp l).2 = n at *
  have hle := rp_le l
  rw [hn] at hle
  unfold qd
  rw [hs]
  generalize hk : ql false (l.drop n) = k at *
  rcases Nat.eq_zero_or_pos k with hz | hz
  · subst hz
    have e0 : l ≠ [] := by intro e; subst e; simp at hle; omega
    -- nothing ends it
    rw [if_neg (show ¬ (0 < 0 ∧ _) by omega)]
    have hd : l.drop n = [] := by
      cases hd : l.drop n with
      | nil => rfl
      | cons c r =>
        exfalso
        rw [hd] at hk
        simp only [ql] at hk
        (repeat' split at hk) <;> omega
    have hlen : l.length = n := by have := congrArg List.length hd; simp at this; omega
    split
    · rename_i hh
      obtain ⟨_, hq⟩ := hh
      have hq' : l[n - 1]? = some 34 := by simpa using hq
      have hz : (rp (l.take (n - 1))).2 = 0 := by
        by_cases hz : (rp (l.take (n - 1))).2 = 0
        · exact hz
        · exfalso
          have e1 := rp_app (l.take (n - 1)) (l.drop (n - 1)) hz
          rw [List.take_append_drop] at e1
          have e2 := rp_le (l.take (n - 1))
          rw [← e1, hn] at e2
          simp at e2; omega
      rw [show n + 0 - 1 = n - 1 by omega, ub_bad ?_ hz]
      · rfl
      · intro e
        have hn1 : n = 1 := by have := congrArg List.length e; rw [List.length_take] at this; simp only [List.length_nil] at this; omega
        subst hn1
        match l, h0, hn, hq' with
        | c :: r, h0, hn, hq' =>
          simp only [Nat.sub_self, List.getElem?_cons_zero, Option.some.injEq] at hq'
          subst hq'
          rw [show (rp (34 :: r)).2 = 0 from rfl] at hn
          omega
    · rfl
  · have hk1 : l[n + k - 1]? = (l.drop n)[k - 1]? := by rw [List.getElem?_drop]; congr 1; omega
    rw [hk1]
    have ht : ub (l.take (n + k - 1)) = (ub ((l.drop n).take (k - 1))).map ((rp l).1 :: ·) := by
      have e1 : rp (l.take (n + k - 1)) = rp l := rp_take l _ (by omega) (by omega)
      rw [ub_step (by rw [e1]; omega), e1, hn]
      congr 2
      rw [List.drop_take]
      congr 1
      omega
    by_cases hq : (l.drop n)[k - 1]? = some 34
    · rw [if_pos ⟨by omega, hq⟩, if_pos ⟨hz, hq⟩, ht]
      cases ub ((l.drop n).take (k - 1)) <;> rfl
    · rw [if_neg (fun a => hq a.2), if_neg (fun a => hq a.2)]
      rfl

end Go.Proofs.YtiimdkamgehioaaDoor
