/-
  The plain mathematics of a token's text: decimal numbers, written tokens, the text of tokens and its tokens.
-/
import Derived.Test.YtpeiiomimfiebaaDoorM2
import Derived.Lib.ItoaNum
namespace Go.Proofs.YtpeiiomimfiebaaDoor
set_option linter.unusedVariables false
set_option linter.unusedSimpArgs false

/-! Decimal digits. -/
theorem digit_toNat (k : Nat) (h : k < 10) : (UInt8.ofNat (48 + k)).toNat = 48 + k := by
  rw [UInt8.toNat_ofNat']; omega
theorem dg_of {c : Nat} (h1 : 48 ≤ c) (h2 : c ≤ 57) : isDg c = true := decide_eq_true ⟨h1, h2⟩
theorem dg_to {c : Nat} (h : isDg c = true) : 48 ≤ c ∧ c ≤ 57 := of_decide_eq_true h
theorem hx_of_dg {c : Nat} (h : isDg c = true) : hx c = (c : Int) - 48 := by
  have := dg_to h
  unfold hx; rw [if_pos this]
theorem dd_dig (k : Nat) : ∀ c ∈ Lib.decDigits k, isDg c.toNat = true := by
  induction k using Nat.strongRecOn with
  | ind k ih =>
    rw [Lib.decDigits]
    by_cases h : k < 10
    · rw [dif_pos h]
      intro c hc
      rw [List.mem_singleton] at hc
      subst hc
      exact dg_of (by rw [digit_toNat k h]; omega) (by rw [digit_toNat k h]; omega)
    · rw [dif_neg h]
      intro c hc
      rcases List.mem_append.1 hc with hc | hc
      · exact ih (k / 10) (by omega) c hc
      · rw [List.mem_singleton] at hc
        subst hc
        exact dg_of (by rw [digit_toNat _ (by omega)]; omega) (by rw [digit_toNat _ (by omega)]; omega)
theorem dd_ne (k : Nat) : Lib.decDigits k ≠ [] := by
  rw [Lib.decDigits]; split <;> simp
theorem dd_head (k : Nat) (h : 0 < k) : (Lib.decDigits k).head? ≠ some 48 := by
  induction k using Nat.strongRecOn with
  | ind k ih =>
    rw [Lib.decDigits]
    by_cases hk : k < 10
    · rw [dif_pos hk]
      intro e
      simp only [List.head?_cons, Option.some.injEq] at e
      have := congrArg UInt8.toNat e
      rw [digit_toNat k hk] at this
      have h48 : (48 : UInt8).toNat = 48 := rfl
      omega
    · rw [dif_neg hk, List.head?_append]
      have h1 := ih (k / 10) (by omega) (by omega)
      cases hh : (Lib.decDigits (k / 10)).head? with
      | none => exact absurd (List.head?_eq_none_iff.1 hh) (dd_ne _)
      | some c => rw [hh] at h1; exact h1
theorem mgF_snoc (b : Int) (c : UInt8) : ∀ (l : List UInt8) (n : Int), mgF b (l ++ [c]) n = match mgF b l n with | none => none | some m => if hx c.toNat < 0 ∨ b ≤ hx c.toNat then none else some (min (m * b + hx c.toNat) 9007199254740993) := by
  intro l
  induction l with
  | nil => intro n; simp only [List.nil_append, mgF]
  | cons d r ih =>
    intro n
    simp only [List.cons_append, mgF]
    split
    · rfl
    · exact ih _
theorem dd_mgF (k : Nat) : mgF 10 (Lib.decDigits k) 0 = some (min (k : Int) 9007199254740993) := by
  induction k using Nat.strongRecOn with
  | ind k ih =>
    rw [Lib.decDigits]
    by_cases h : k < 10
    · rw [dif_pos h]
      have e : hx (UInt8.ofNat (48 + k)).toNat = (k : Int) := by
        rw [hx_of_dg (dg_of (by rw [digit_toNat k h]; omega) (by rw [digit_toNat k h]; omega)), digit_toNat k h]; omega
      simp only [mgF, e]
      rw [if_neg (by omega)]; congr 1; omega
    · rw [dif_neg h, mgF_snoc, ih (k / 10) (by omega)]
      have e : hx (UInt8.ofNat (48 + k % 10)).toNat = ((k % 10 : Nat) : Int) := by
        rw [hx_of_dg (dg_of (by rw [digit_toNat _ (by omega)]; omega) (by rw [digit_toNat _ (by omega)]; omega)), digit_toNat _ (by omega)]; omega
      simp only [e]
      rw [if_neg (by omega)]; congr 1; omega
theorem dd_mg (k : Nat) : mg (Lib.decDigits k) 10 = some (min (k : Int) 9007199254740993) := by
  have h := dd_mgF k
  cases hd : Lib.decDigits k with
  | nil => exact absurd hd (dd_ne k)
  | cons c r =>
    rw [hd] at h
    simp only [mg]
    rw [if_neg, h]
    rintro ⟨h1, h2⟩
    by_cases hk : k = 0
    · subst hk
      rw [Lib.decDigits, dif_pos (by omega)] at hd
      injection hd with _ hr
      rw [← hr] at h1; simp at h1
    · have := dd_head k (by omega)
      rw [hd, List.head?_cons] at this
      exact this (by rw [show c = 48 from UInt8.toNat_inj.1 h2])
theorem pre_not45 {c : UInt8} {r : List UInt8} (h : c.toNat ≠ 45) : Lib.hasPrefix (c :: r) [45] = false := by
  have : ((45 : UInt8) == c) = false := by rw [beq_eq_false_iff_ne]; intro e; exact h (by rw [← e]; rfl)
  unfold Lib.hasPrefix; simp only [List.isPrefixOf, this, Bool.false_and]
theorem pre_not0x {l : List UInt8} (h : ∀ c ∈ l, isDg c.toNat = true) : Lib.hasPrefix l [48, 120] = false := by
  unfold Lib.hasPrefix
  match l, h with
  | [], _ => rfl
  | [a], _ => simp [List.isPrefixOf]
  | a :: b :: r, h =>
    have hb := dg_to (h b (by simp))
    have : ((120 : UInt8) == b) = false := by rw [beq_eq_false_iff_ne]; intro e; rw [← e] at hb; revert hb; decide
    simp only [List.isPrefixOf, this, Bool.false_and, Bool.and_false]
theorem itoa_num (v : Int) (h1 : -9007199254740992 ≤ v) (h2 : v ≤ 9007199254740992) : numV (Lib.itoa v) = v ∧ numE (Lib.itoa v) = 0 := by
  have key : ∀ k : Nat, digs (Lib.decDigits k) = Lib.decDigits k ∧ body (Lib.decDigits k) = Lib.decDigits k ∧ neg (Lib.decDigits k) = false ∧ Lib.hasPrefix (Lib.decDigits k) [48, 120] = false := by
    intro k
    have hd := dd_dig k
    have hx0 := pre_not0x hd
    have hn : neg (Lib.decDigits k) = false := by
      unfold neg
      cases hh : Lib.decDigits k with
      | nil => exact absurd hh (dd_ne k)
      | cons c r =>
        have := dg_to (hd c (by rw [hh]; simp))
        exact pre_not45 (by omega)
    have hb : body (Lib.decDigits k) = Lib.decDigits k := by unfold body Lib.trimPrefix; unfold neg at hn; rw [hn]; rfl
    refine ⟨?_, hb, hn, hx0⟩
    unfold digs; rw [hb]; unfold Lib.trimPrefix; rw [hx0]; rfl
  unfold Lib.itoa
  by_cases hv : v < 0
  · rw [if_pos hv]
    obtain ⟨k1, k2, k3, k4⟩ := key v.natAbs
    have hn : neg (45 :: Lib.decDigits v.natAbs) = true := rfl
    have hb : body (45 :: Lib.decDigits v.natAbs) = Lib.decDigits v.natAbs := rfl
    have hO : numO (45 :: Lib.decDigits v.natAbs) = some (min (v.natAbs : Int) 9007199254740993) := by
      unfold numO digs hex; rw [hb, k4]; unfold Lib.trimPrefix; rw [k4]
      exact dd_mg v.natAbs
    unfold numV numE
    rw [hO]
    simp only [hn, true_and, if_true]
    rw [if_neg (by omega), if_neg (by omega), if_neg (by omega), if_neg (by omega)]
    exact ⟨by omega, rfl⟩
  · rw [if_neg hv]
    obtain ⟨k1, k2, k3, k4⟩ := key v.toNat
    have hO : numO (Lib.decDigits v.toNat) = some (min (v.toNat : Int) 9007199254740993) := by
      unfold numO; rw [k1]; unfold hex; rw [k2, k4]
      exact dd_mg v.toNat
    unfold numV numE
    rw [hO]
    simp only [k3, Bool.false_eq_true, false_and, if_false]
    rw [if_neg (by omega), if_neg (by omega)]
    exact ⟨by omega, rfl⟩

/-! A token as it is written. -/
def wr (t : Tok) : List UInt8 := if t.k = 2 then Lib.itoa t.v else if t.k = 3 then qt t.t else t.t
/-- A token is valid, apart from its line. -/
def vd (t : Tok) : Bool :=
  if t.k = 2 then decide (numE t.t = 0) && decide (numV t.t = t.v)
  else decide (t.v = 0) && (if t.k = 1 then nm t.t else if t.k = 3 then true else if t.k = 4 then mk t.t else false)
theorem wl_all (a r : List UInt8) (h : ∀ c ∈ a, isIn c.toNat = true) : wl (a ++ r) = a.length + wl r := by
  induction a with
  | nil => simp
  | cons c a ih =>
    simp only [List.cons_append, wl, List.length_cons]
    rw [if_pos (h c (by simp)), ih (fun x hx => h x (by simp [hx]))]; omega
theorem wl_full (l : List UInt8) (h : wl l = l.length) : ∀ c ∈ l, isIn c.toNat = true := by
  induction l with
  | nil => simp
  | cons c r ih =>
    simp only [wl] at h
    by_cases hc : isIn c.toNat = true
    · rw [if_pos hc, List.length_cons] at h
      intro x hx
      rcases List.mem_cons.1 hx with rfl | hx
      · exact hc
      · exact ih (by omega) x hx
    · rw [if_neg hc] at h; simp at h
/-- What may stand behind a written token. -/
def aft (r : List UInt8) : Prop := r = [] ∨ ∃ r', r = 32 :: r'
theorem wl_aft {r : List UInt8} (h : aft r) : wl r = 0 := by
  rcases h with rfl | ⟨r', rfl⟩
  · rfl
  · simp only [wl]; rw [if_neg (by decide)]
theorem isIn_dg {c : Nat} (h : isDg c = true) : isIn c = true := by unfold isIn; rw [h]; simp
theorem isIn_lt {c : Nat} (h : isLt c = true) : isIn c = true := by unfold isIn; rw [h]; simp
theorem itoa_form (v : Int) : ∃ c r, Lib.itoa v = c :: r ∧ (isDg c.toNat = true ∨ c.toNat = 45) ∧ ∀ x ∈ r, isIn x.toNat = true := by
  unfold Lib.itoa
  by_cases hv : v < 0
  · rw [if_pos hv]
    exact ⟨45, _, rfl, Or.inr rfl, fun x hx => isIn_dg (dd_dig _ x hx)⟩
  · rw [if_neg hv]
    cases hd : Lib.decDigits v.toNat with
    | nil => exact absurd hd (dd_ne _)
    | cons c r => exact ⟨c, r, rfl, Or.inl (dd_dig v.toNat c (by rw [hd]; simp)), fun x hx => isIn_dg (dd_dig v.toNat x (by rw [hd]; simp [hx]))⟩
/-- What Tokens makes of a written token. -/
def nrm (t : Tok) (n : Int) : Tok := ⟨t.k, if t.k = 2 then Lib.itoa t.v else t.t, t.v, n⟩
theorem wr_tok (t : Tok) (r : List UInt8) (hv : vd t = true) (hr : aft r) : ∃ c u, wr t = c :: u ∧ noGap c.toNat ∧ tl (wr t ++ r) = (wr t).length ∧ tkR (wr t ++ r) = (⟨t.k, (nrm t 0).t, t.v, 0⟩, 0) := by
  obtain ⟨k, x, v, n⟩ := t
  unfold vd at hv
  simp only at hv
  by_cases h2 : k = 2
  · subst h2
    rw [if_pos rfl, Bool.and_eq_true, decide_eq_true_eq, decide_eq_true_eq] at hv
    have hrange := numV_range x
    rw [hv.2] at hrange
    obtain ⟨i1, i2⟩ := itoa_num v hrange.1 hrange.2
    obtain ⟨c, u, e, hc, hu⟩ := itoa_form v
    have ew : wr ⟨2, x, v, n⟩ = c :: u := by unfold wr; rw [if_pos rfl]; exact e
    have et : (nrm ⟨2, x, v, n⟩ 0).t = c :: u := by unfold nrm; rw [if_pos rfl]; exact e
    rw [ew, et]
    have h34 : c.toNat ≠ 34 := by rcases hc with hc | hc; have := dg_to hc; omega; omega
    have htl : tl (c :: u ++ r) = (c :: u).length := by
      rw [List.cons_append, tl_word _ _ (Or.inr hc), wl_all u r hu, wl_aft hr]; simp
    refine ⟨c, u, rfl, ?_, htl, ?_⟩
    · unfold noGap; rcases hc with hc | hc
      · have := dg_to hc; omega
      · omega
    · unfold tkR
      rw [htl, List.take_left, tokO_num _ _ h34 hc, ← e, i1, i2]
  · rw [if_neg h2, Bool.and_eq_true, decide_eq_true_eq] at hv
    obtain ⟨rfl, hv⟩ := hv
    have et : (nrm ⟨k, x, 0, n⟩ 0).t = x := by unfold nrm; rw [if_neg h2]
    rw [et]
    by_cases h1 : k = 1
    · subst h1
      rw [if_pos rfl] at hv
      have ew : wr ⟨1, x, 0, n⟩ = x := by unfold wr; rw [if_neg (by simp), if_neg (by simp)]
      rw [ew]
      cases x with
      | nil => cases hv
      | cons c u =>
        have hv' := hv
        simp only [nm, Bool.and_eq_true, decide_eq_true_eq] at hv
        obtain ⟨⟨hl, hc⟩, hw⟩ := hv
        have hin := wl_full (c :: u) hw
        have hlt : 97 ≤ c.toNat ∧ c.toNat ≤ 122 := of_decide_eq_true hc
        have hnd : ¬ (isDg c.toNat = true ∨ c.toNat = 45) := by rintro (h | h); have := dg_to h; omega; omega
        have htl : tl (c :: u ++ r) = (c :: u).length := by
          rw [List.cons_append, tl_word _ _ (Or.inl hc), wl_all u r (fun x hx => hin x (by simp [hx])), wl_aft hr]; simp
        refine ⟨c, u, rfl, by unfold noGap; omega, htl, ?_⟩
        unfold tkR
        rw [htl, List.take_left, tokO_name _ _ (by omega) hnd hv']
    · rw [if_neg h1] at hv
      by_cases h3 : k = 3
      · subst h3
        have ew : wr ⟨3, x, 0, n⟩ = 34 :: (qtB x ++ [34]) := by unfold wr; rw [if_neg (by simp), if_pos rfl]; rfl
        rw [ew]
        have hq := qd_of_ub _ (qtB x) r x (Nat.le_refl _) (ub_qtB x)
        have e : 34 :: (qtB x ++ [34]) ++ r = 34 :: (qtB x ++ 34 :: r) := by simp
        refine ⟨34, _, rfl, by unfold noGap; decide, ?_, ?_⟩
        · rw [e, tl_str 34 _ rfl, ← qd_ql hq]; simp
        · rw [e, tkR_str 34 _ rfl, hq]
      · rw [if_neg h3] at hv
        by_cases h4 : k = 4
        · subst h4
          rw [if_pos rfl] at hv
          have ew : wr ⟨4, x, 0, n⟩ = x := by unfold wr; rw [if_neg (by simp), if_neg (by simp)]
          rw [ew]
          match x, hv with
          | [c], hv =>
            have hm : mkC c.toNat = true := hv
            have hall : ∀ m, mkC m = true → m ≠ 34 ∧ m ≠ 45 ∧ isLt m = false ∧ isDg m = false ∧ noGap m := by
              intro m hm
              unfold mkC at hm
              rw [List.contains_iff_mem] at hm
              simp only [List.mem_cons, List.not_mem_nil, or_false] at hm
              unfold isLt isDg noGap
              refine ⟨by omega, by omega, decide_eq_false (by omega), decide_eq_false (by omega), by omega⟩
            obtain ⟨m1, m2, m3, m4, m5⟩ := hall _ hm
            have hnw : ¬ (isLt c.toNat = true ∨ isDg c.toNat = true ∨ c.toNat = 45) := by rw [m3, m4]; simp; exact m2
            have hnd : ¬ (isDg c.toNat = true ∨ c.toNat = 45) := by rw [m4]; simp; exact m2
            have htl : tl ([c] ++ r) = 1 := by rw [List.cons_append]; exact tl_other _ _ m1 hnw
            refine ⟨c, [], rfl, m5, htl, ?_⟩
            unfold tkR
            rw [htl]
            show tokO [c] = _
            rw [tokO_mark c [] m1 hnd (nm_letter c [] m3) hv]
        · rw [if_neg h4] at hv; cases hv

/-- The written tokens, each behind a blank. -/
def jb (l : List Tok) : List UInt8 := l.flatMap fun t => 32 :: wr t
theorem jb_cons (t : Tok) (l : List Tok) : jb (t :: l) = 32 :: (wr t ++ jb l) := by simp [jb]
theorem jb_snoc (l : List Tok) (t : Tok) : jb (l ++ [t]) = jb l ++ 32 :: wr t := by simp [jb]
theorem jb_aft (l : List Tok) : aft (jb l) := by
  cases l with
  | nil => exact Or.inl rfl
  | cons t l => exact Or.inr ⟨_, jb_cons t l⟩
/-- The text of tokens: separated by single blanks. -/
def jn (l : List Tok) : List UInt8 := (jb l).drop 1
theorem jn_nil : jn [] = [] := rfl
theorem jn_cons (t : Tok) (l : List Tok) : jn (t :: l) = wr t ++ jb l := by unfold jn; rw [jb_cons]; rfl
theorem jn_snoc (l : List Tok) (t : Tok) (h : l ≠ []) : jn (l ++ [t]) = jn l ++ 32 :: wr t := by
  cases l with
  | nil => exact absurd rfl h
  | cons a l => rw [List.cons_append, jn_cons, jn_cons, jb_snoc, List.append_assoc]
theorem lx_jb (l : List Tok) (n : Nat) (h : ∀ t ∈ l, vd t = true) : lx false (jb l) n = (l.map fun t => nrm t n, none) := by
  induction l with
  | nil => exact lx_nil false n
  | cons t l ih =>
    have hi := ih (fun x hx => h x (by simp [hx]))
    obtain ⟨c, u, e, hg, htl, htk⟩ := wr_tok t (jb l) (h t (by simp)) (jb_aft l)
    rw [jb_cons, lx_sp 32 _ n (Or.inl (by decide))]
    have h0 : (tkR (wr t ++ jb l)).2 = 0 := by rw [htk]
    have hne : wr t ++ jb l ≠ [] := by rw [e]; simp
    have e2 : lx false (wr t ++ jb l) n = lxS (lx false) (wr t ++ jb l) n := by rw [e, List.cons_append]; exact lx_tok c _ n hg
    rw [e2, lxS_ok hne h0, htl, List.drop_left, hi, htk]
    rfl
theorem lx_jn (l : List Tok) (n : Nat) (h : ∀ t ∈ l, vd t = true) : lx false (jn l) n = (l.map fun t => nrm t n, none) := by
  cases l with
  | nil => exact lx_nil false n
  | cons t r =>
    have e : lx false (jb (t :: r)) n = lx false (jn (t :: r)) n := by rw [jb_cons, jn_cons]; exact lx_sp 32 _ n (Or.inl (by decide))
    rw [← e]; exact lx_jb _ n h

end Go.Proofs.YtpeiiomimfiebaaDoor
