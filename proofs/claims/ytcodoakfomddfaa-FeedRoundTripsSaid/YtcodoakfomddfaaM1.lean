/-
  Names and captures, plain: characters, names, runs of whatever levels; valid, joined, length, level at a tick, parts.
-/
import Derived.Test.YtcodoakfomddfaaG0
import Derived.Lib.OthersKept
namespace Go.Proofs.Ytcodoakfomddfaa
set_option linter.unusedVariables false
set_option linter.unusedSimpArgs false

def isLt (c : Nat) : Bool := decide (97 ≤ c ∧ c ≤ 122)
def isDg (c : Nat) : Bool := decide (48 ≤ c ∧ c ≤ 57)
def isIn (c : Nat) : Bool := isLt c || isDg c || decide (c = 95)
theorem isIn_big {c : Nat} (h : 128 ≤ c) : isIn c = false := by unfold isIn isLt isDg; simp; omega
/-- How many characters of a name or a number the list begins with. -/
def wl : List UInt8 → Nat
  | [] => 0
  | c :: r => if isIn c.toNat = true then wl r + 1 else 0
theorem wl_le (l : List UInt8) : wl l ≤ l.length := by
  induction l with
  | nil => exact Nat.le_refl _
  | cons c r ih => simp only [wl]; split <;> simp <;> omega
/-- A name. -/
def nm (l : List UInt8) : Bool :=
  match l with
  | [] => false
  | c :: r => decide ((c :: r).length ≤ 16) && isLt c.toNat && decide (wl (c :: r) = (c :: r).length)
theorem nm_letter (c : UInt8) (r : List UInt8) (h : isLt c.toNat = false) : nm (c :: r) = false := by simp [nm, h]
theorem nm_le {l : List UInt8} (h : nm l = true) : l.length ≤ 16 := by
  cases l with
  | nil => simp
  | cons c r => simp only [nm, Bool.and_eq_true, decide_eq_true_eq] at h; exact h.1.1
def nmB (s : ByteArray) : Bool := nm s.data.toList

/-! Lists of names. -/
def has (l : List ByteArray) (s : ByteArray) : Bool := l.any fun x => decide (x.data.toList = s.data.toList)
theorem eq_of_toList {a b : ByteArray} (h : a.data.toList = b.data.toList) : a = b := by
  have := congrArg List.toArray h
  cases a; cases b
  simpa using this
/-- Some name stands before the place n a second time. -/
def dpT (l : List ByteArray) (n : Nat) : Bool := (List.range n).any fun i => has (l.take i) (l.getD i ⟨#[]⟩)
def ckN (l : List ByteArray) : Int := if 16 < l.length then 6 else if l.length = 0 then 1 else if l.all nmB = false then 4 else if dpT l l.length = true then 9 else 0
theorem ckN_6 {l : List ByteArray} (h : 16 < l.length) : ckN l = 6 := by unfold ckN; rw [if_pos h]
theorem ckN_1 {l : List ByteArray} (h : l.length = 0) : ckN l = 1 := by unfold ckN; rw [if_neg (by omega), if_pos h]
theorem ckN_4 {l : List ByteArray} (h : ¬ 16 < l.length) (h0 : ¬ l.length = 0) (h4 : l.all nmB = false) : ckN l = 4 := by unfold ckN; rw [if_neg h, if_neg h0, if_pos h4]
theorem ckN_9 {l : List ByteArray} (h : ¬ 16 < l.length) (h0 : ¬ l.length = 0) (h4 : l.all nmB = true) (h9 : dpT l l.length = true) : ckN l = 9 := by unfold ckN; rw [if_neg h, if_neg h0, if_neg (by rw [h4]; decide), if_pos h9]
theorem ckN_0 {l : List ByteArray} (h : ¬ 16 < l.length) (h0 : ¬ l.length = 0) (h4 : l.all nmB = true) (h9 : dpT l l.length = false) : ckN l = 0 := by unfold ckN; rw [if_neg h, if_neg h0, if_neg (by rw [h4]; decide), if_neg (by rw [h9]; decide)]
theorem ckN_ok {l : List ByteArray} (h : ckN l = 0) : 0 < l.length ∧ l.length ≤ 16 ∧ l.all nmB = true := by
  unfold ckN at h
  split at h
  · omega
  · split at h
    · omega
    · split at h
      · omega
      · split at h
        · omega
        · rename_i a b c d
          exact ⟨by omega, by omega, by simpa using c⟩
theorem all_at {l : List ByteArray} (h : l.all nmB = true) (j : Nat) (hj : j < l.length) : nmB l[j] = true := List.all_eq_true.1 h _ (List.getElem_mem hj)
theorem all_no {l : List ByteArray} {j : Nat} (hj : j < l.length) (h : nmB l[j] = false) : l.all nmB = false := by
  rw [List.all_eq_false]
  exact ⟨l[j], List.getElem_mem hj, by rw [h]; decide⟩
theorem all_take {l : List ByteArray} {j : Nat} (hj : j < l.length) (h : (l.take j).all nmB = true) (h1 : nmB l[j] = true) : (l.take (j + 1)).all nmB = true := by
  rw [List.take_succ_eq_append_getElem hj, List.all_append, h]
  simp [h1]
theorem dpT_step {l : List ByteArray} {j : Nat} (hj : j < l.length) (h : dpT l j = false) : dpT l (j + 1) = has (l.take j) l[j] := by
  unfold dpT at *
  rw [List.range_succ, List.any_append, h]
  simp [hj]
theorem dpT_yes {l : List ByteArray} {j : Nat} (hj : j < l.length) (h : has (l.take j) l[j] = true) : dpT l l.length = true := by
  unfold dpT
  rw [List.any_eq_true]
  exact ⟨j, List.mem_range.2 hj, by simpa [hj] using h⟩
theorem has_step {l : List ByteArray} {k : Nat} (hk : k < l.length) {s : ByteArray} (h : has (l.take k) s = false) : has (l.take (k + 1)) s = decide (l[k].data.toList = s.data.toList) := by
  unfold has at *
  rw [List.take_succ_eq_append_getElem hk, List.any_append, h]
  simp
theorem has_yes {l : List ByteArray} {i k : Nat} (hk : k < l.length) (hi : k < i) {s : ByteArray} (h : l[k].data.toList = s.data.toList) : has (l.take i) s = true := by
  unfold has
  rw [List.any_eq_true]
  exact ⟨l[k], List.mem_take_iff_getElem.2 ⟨k, by omega, rfl⟩, decide_eq_true h⟩

/-! Runs. -/
abbrev Rn := Int × Int
def okR (m s : Int) (r : Rn) : Bool := decide (0 ≤ r.1 ∧ r.1 ≤ m) && decide (1 ≤ r.2) && decide (r.2 ≤ 1099511627776 - s)
def vr (m : Int) : Int → List Rn → Bool
  | _, [] => true
  | s, r :: l => okR m s r && vr m (s + r.2) l
def lg : List Rn → Int
  | [] => 0
  | r :: l => r.2 + lg l
/-- Each run has a tick. -/
def ps (l : List Rn) : Prop := ∀ r ∈ l, 1 ≤ r.2
/-- Each level is from 0 to m. -/
def lv (m : Int) (l : List Rn) : Prop := ∀ r ∈ l, 0 ≤ r.1 ∧ r.1 ≤ m

theorem lg_append (a b : List Rn) : lg (a ++ b) = lg a + lg b := by
  induction a with
  | nil => simp [lg]
  | cons r a ih => simp only [List.cons_append, lg, ih]; omega
theorem lg_one (r : Rn) : lg [r] = r.2 := by simp [lg]
theorem lg_take (l : List Rn) (j : Nat) (hj : j < l.length) : lg (l.take (j + 1)) = lg (l.take j) + l[j].2 := by
  rw [List.take_succ_eq_append_getElem hj, lg_append, lg_one]
theorem lg_split (l : List Rn) (j : Nat) : lg l = lg (l.take j) + lg (l.drop j) := by
  rw [← lg_append, List.take_append_drop]
theorem ps_nil : ps [] := by intro r h; cases h
theorem ps_cons {r : Rn} {l : List Rn} : ps (r :: l) ↔ 1 ≤ r.2 ∧ ps l := by unfold ps; simp
theorem ps_one {r : Rn} : ps [r] ↔ 1 ≤ r.2 := by unfold ps; simp
theorem ps_append {a b : List Rn} : ps (a ++ b) ↔ ps a ∧ ps b := by
  unfold ps
  constructor
  · exact fun h => ⟨fun r hr => h r (List.mem_append_left _ hr), fun r hr => h r (List.mem_append_right _ hr)⟩
  · rintro ⟨h1, h2⟩ r hr
    rcases List.mem_append.1 hr with h | h
    · exact h1 r h
    · exact h2 r h
theorem ps_take {l : List Rn} (h : ps l) (j : Nat) : ps (l.take j) := fun r hr => h r (List.mem_of_mem_take hr)
theorem ps_drop {l : List Rn} (h : ps l) (j : Nat) : ps (l.drop j) := fun r hr => h r (List.mem_of_mem_drop hr)
theorem ps_len {l : List Rn} (h : ps l) : (l.length : Int) ≤ lg l := by
  induction l with
  | nil => simp [lg]
  | cons r l ih =>
    rw [ps_cons] at h
    have := ih h.2
    simp only [List.length_cons, lg]
    omega
theorem ps_nonneg {l : List Rn} (h : ps l) : 0 ≤ lg l := by have := ps_len h; omega
theorem lv_nil (m : Int) : lv m [] := by intro r h; cases h
theorem lv_cons {m : Int} {r : Rn} {l : List Rn} : lv m (r :: l) ↔ (0 ≤ r.1 ∧ r.1 ≤ m) ∧ lv m l := by unfold lv; simp
theorem vr_iff (m : Int) (l : List Rn) (s : Int) (hs : s ≤ 1099511627776) : vr m s l = true ↔ lv m l ∧ ps l ∧ s + lg l ≤ 1099511627776 := by
  induction l generalizing s with
  | nil => simp [vr, lg, ps_nil, lv_nil, hs]
  | cons r l ih =>
    simp only [vr, okR, Bool.and_eq_true, decide_eq_true_eq, ps_cons, lv_cons, lg]
    constructor
    · rintro ⟨⟨⟨h1, h2⟩, h3⟩, h4⟩
      have := (ih (s + r.2) (by omega)).1 h4
      exact ⟨⟨h1, this.1⟩, ⟨h2, this.2.1⟩, by omega⟩
    · rintro ⟨⟨h1, h1'⟩, ⟨h2, h3⟩, h4⟩
      have := ps_nonneg h3
      exact ⟨⟨⟨h1, h2⟩, by omega⟩, (ih (s + r.2) (by omega)).2 ⟨h1', h3, by omega⟩⟩
theorem vr_append (m : Int) (a b : List Rn) (s : Int) : vr m s (a ++ b) = (vr m s a && vr m (s + lg a) b) := by
  induction a generalizing s with
  | nil => simp [vr, lg]
  | cons r a ih => simp only [List.cons_append, vr, lg, ih, Bool.and_assoc, Int.add_assoc]
theorem vr_step {m : Int} {l : List Rn} {j : Nat} (hj : j < l.length) (h : vr m 0 (l.take j) = true) : vr m 0 (l.take (j + 1)) = okR m (lg (l.take j)) l[j] := by
  rw [List.take_succ_eq_append_getElem hj, vr_append, h]
  simp [vr]
theorem vr_bad {m : Int} {l : List Rn} {j : Nat} (hj : j < l.length) (h : okR m (lg (l.take j)) l[j] = false) : vr m 0 l = false := by
  rw [show l = l.take (j + 1) ++ l.drop (j + 1) from (List.take_append_drop _ _).symm, vr_append, List.take_succ_eq_append_getElem hj, vr_append]
  simp [vr, h]
theorem vr_range {m : Int} {l : List Rn} (h : vr m 0 l = true) : 0 ≤ lg l ∧ lg l ≤ 1099511627776 := by
  have := (vr_iff m l 0 (by omega)).1 h
  exact ⟨ps_nonneg this.2.1, by omega⟩
theorem lg_take_range {m : Int} {l : List Rn} (h : vr m 0 l = true) (j : Nat) : 0 ≤ lg (l.take j) ∧ lg (l.take j) ≤ lg l ∧ lg l ≤ 1099511627776 := by
  obtain ⟨_, h2, h3⟩ := (vr_iff m l 0 (by omega)).1 h
  have := ps_nonneg (ps_take h2 j)
  have := ps_nonneg (ps_drop h2 j)
  have := lg_split l j
  omega
theorem el_range {m : Int} {l : List Rn} (h : vr m 0 l = true) (j : Nat) (hj : j < l.length) : (0 ≤ l[j].1 ∧ l[j].1 ≤ m) ∧ 1 ≤ l[j].2 ∧ l[j].2 ≤ 1099511627776 := by
  obtain ⟨h1, h2, h3⟩ := (vr_iff m l 0 (by omega)).1 h
  have h4 := h1 l[j] (List.getElem_mem hj)
  have h4' := h2 l[j] (List.getElem_mem hj)
  have h5 := (lg_take_range h (j + 1))
  have h6 := (lg_take_range h j).1
  rw [lg_take l j hj] at h5
  exact ⟨h4, h4', by omega⟩

/-! Waves. -/
def vl (l : List Rn) : Bool := decide (l.length ≤ 262144) && vr 1 0 l
theorem vl_big {l : List Rn} (h : 262144 < l.length) : vl l = false := by unfold vl; rw [decide_eq_false (by omega)]; rfl
theorem vl_of {l : List Rn} (h : l.length ≤ 262144) : vl l = vr 1 0 l := by unfold vl; rw [decide_eq_true h]; rfl

/-! Captures. -/
def mk (n : Nat) : Int := 2 ^ n - 1
def ckC (N : List ByteArray) (R : List Rn) : Int := if 262144 < R.length then 6 else if ckN N ≠ 0 then ckN N else if vr (mk N.length) 0 R = true then 0 else 2
theorem ckC_6 {N : List ByteArray} {R : List Rn} (h : 262144 < R.length) : ckC N R = 6 := by unfold ckC; rw [if_pos h]
theorem ckC_n {N : List ByteArray} {R : List Rn} (h : ¬ 262144 < R.length) (h1 : ckN N ≠ 0) : ckC N R = ckN N := by unfold ckC; rw [if_neg h, if_pos h1]
theorem ckC_0 {N : List ByteArray} {R : List Rn} (h : ¬ 262144 < R.length) (h1 : ckN N = 0) (h2 : vr (mk N.length) 0 R = true) : ckC N R = 0 := by unfold ckC; rw [if_neg h, if_neg (fun x => x h1), if_pos h2]
theorem ckC_2 {N : List ByteArray} {R : List Rn} (h : ¬ 262144 < R.length) (h1 : ckN N = 0) (h2 : vr (mk N.length) 0 R = false) : ckC N R = 2 := by unfold ckC; rw [if_neg h, if_neg (fun x => x h1), if_neg (by rw [h2]; decide)]
theorem ckC_ok {N : List ByteArray} {R : List Rn} (h : ckC N R = 0) : R.length ≤ 262144 ∧ ckN N = 0 ∧ 0 < N.length ∧ N.length ≤ 16 ∧ N.all nmB = true ∧ vr (mk N.length) 0 R = true := by
  unfold ckC at h
  split at h
  · omega
  · rename_i a
    split at h
    · rename_i b; exact absurd h b
    · rename_i b
      split at h
      · rename_i c
        have b' : ckN N = 0 := by simpa using b
        obtain ⟨d1, d2, d3⟩ := ckN_ok b'
        exact ⟨by omega, b', d1, d2, d3, c⟩
      · omega
theorem ckN_range (N : List ByteArray) : 0 ≤ ckN N ∧ ckN N ≤ 9 := by unfold ckN; (repeat' split) <;> omega
theorem ckC_range (N : List ByteArray) (R : List Rn) : 0 ≤ ckC N R ∧ ckC N R ≤ 9 := by
  have := ckN_range N
  unfold ckC; (repeat' split) <;> omega
theorem mk_range {n : Nat} (h : n ≤ 16) : 0 ≤ mk n ∧ mk n ≤ 65535 := by
  unfold mk
  have h1 : (2 : Int) ^ n = ((2 ^ n : Nat) : Int) := by push_cast; rfl
  have h2 : 2 ^ n ≤ 2 ^ 16 := Nat.pow_le_pow_right (by omega) h
  have h3 := Nat.two_pow_pos n
  omega
def lgC (N : List ByteArray) (R : List Rn) : Int := if ckC N R = 0 then lg R else 0
theorem lgC_yes {N : List ByteArray} {R : List Rn} (h : ckC N R = 0) : lgC N R = lg R := by unfold lgC; rw [if_pos h]
theorem lgC_no {N : List ByteArray} {R : List Rn} (h : ¬ ckC N R = 0) : lgC N R = 0 := by unfold lgC; rw [if_neg h]

/-! Joining. -/
def pt (o : List Rn) (r : Rn) : List Rn := match o.getLast? with
  | some x => if x.1 = r.1 then o.dropLast ++ [(x.1, x.2 + r.2)] else o ++ [r]
  | none => [r]
def jn (l : List Rn) : List Rn := l.foldl pt []
theorem pt_nil (r : Rn) : pt [] r = [r] := rfl
theorem pt_snoc (o : List Rn) (x r : Rn) : pt (o ++ [x]) r = if x.1 = r.1 then o ++ [(x.1, x.2 + r.2)] else o ++ [x] ++ [r] := by
  unfold pt
  simp
theorem nil_or_snoc (l : List Rn) : l = [] ∨ ∃ o x, l = o ++ [x] := by
  rcases List.eq_nil_or_concat l with h | ⟨o, x, h⟩
  · exact .inl h
  · exact .inr ⟨o, x, by simpa using h⟩
theorem jn_snoc (l : List Rn) (r : Rn) : jn (l ++ [r]) = pt (jn l) r := by unfold jn; rw [List.foldl_append]; rfl
theorem jn_take (l : List Rn) (j : Nat) (hj : j < l.length) : jn (l.take (j + 1)) = pt (jn (l.take j)) l[j] := by
  rw [List.take_succ_eq_append_getElem hj, jn_snoc]
theorem pt_lg (o : List Rn) (r : Rn) : lg (pt o r) = lg o + r.2 := by
  rcases nil_or_snoc o with rfl | ⟨o, x, rfl⟩
  · simp [pt_nil, lg]
  · rw [pt_snoc]
    split <;> simp [lg_append, lg] <;> omega
theorem pt_ps {o : List Rn} {r : Rn} (ho : ps o) (hr : 1 ≤ r.2) : ps (pt o r) := by
  rcases nil_or_snoc o with rfl | ⟨o, x, rfl⟩
  · rw [pt_nil, ps_one]; exact hr
  · rw [pt_snoc]
    rw [ps_append, ps_one] at ho
    split
    · rw [ps_append, ps_one]
      exact ⟨ho.1, by show 1 ≤ x.2 + r.2; omega⟩
    · rw [ps_append, ps_append, ps_one, ps_one]; exact ⟨ho, hr⟩
theorem pt_lv {m : Int} {o : List Rn} {r : Rn} (ho : lv m o) (hr : 0 ≤ r.1 ∧ r.1 ≤ m) : lv m (pt o r) := by
  rcases nil_or_snoc o with rfl | ⟨o, x, rfl⟩
  · intro y hy; rw [pt_nil, List.mem_singleton] at hy; subst hy; exact hr
  · rw [pt_snoc]
    split
    · intro y hy
      rcases List.mem_append.1 hy with h | h
      · exact ho y (List.mem_append_left _ h)
      · rw [List.mem_singleton] at h; subst h; exact ho x (by simp)
    · intro y hy
      rcases List.mem_append.1 hy with h | h
      · exact ho y h
      · rw [List.mem_singleton] at h; subst h; exact hr
theorem pt_len (o : List Rn) (r : Rn) : (pt o r).length ≤ o.length + 1 ∧ o.length ≤ (pt o r).length ∧ 0 < (pt o r).length := by
  rcases nil_or_snoc o with rfl | ⟨o, x, rfl⟩
  · simp [pt_nil]
  · rw [pt_snoc]
    split <;> simp
theorem fold_lg (l o : List Rn) : lg (l.foldl pt o) = lg o + lg l := by
  induction l generalizing o with
  | nil => simp [lg]
  | cons r l ih => simp only [List.foldl_cons, ih, pt_lg, lg]; omega
theorem jn_lg (l : List Rn) : lg (jn l) = lg l := by unfold jn; rw [fold_lg]; simp [lg]
theorem fold_ps (l o : List Rn) (ho : ps o) (hl : ps l) : ps (l.foldl pt o) := by
  induction l generalizing o with
  | nil => exact ho
  | cons r l ih =>
    rw [ps_cons] at hl
    exact ih _ (pt_ps ho hl.1) hl.2
theorem jn_ps {l : List Rn} (h : ps l) : ps (jn l) := fold_ps l [] ps_nil h
theorem fold_lv {m : Int} (l o : List Rn) (ho : lv m o) (hl : lv m l) : lv m (l.foldl pt o) := by
  induction l generalizing o with
  | nil => exact ho
  | cons r l ih =>
    rw [lv_cons] at hl
    exact ih _ (pt_lv ho hl.1) hl.2
theorem jn_lv {m : Int} {l : List Rn} (h : lv m l) : lv m (jn l) := fold_lv l [] (lv_nil m) h
theorem fold_len (l o : List Rn) : (l.foldl pt o).length ≤ o.length + l.length ∧ o.length ≤ (l.foldl pt o).length := by
  induction l generalizing o with
  | nil => simp
  | cons r l ih =>
    have h1 := ih (pt o r)
    have h2 := pt_len o r
    simp only [List.foldl_cons, List.length_cons]
    omega
theorem jn_len (l : List Rn) : (jn l).length ≤ l.length := by have := (fold_len l []).1; unfold jn; simpa using this
theorem jn_vr {m : Int} {l : List Rn} (h : vr m 0 l = true) : vr m 0 (jn l) = true := by
  obtain ⟨h1, h2, h3⟩ := (vr_iff m l 0 (by omega)).1 h
  exact (vr_iff m _ 0 (by omega)).2 ⟨jn_lv h1, jn_ps h2, by rw [jn_lg]; exact h3⟩

/-! No two adjacent runs have one level. -/
def al (l : List Rn) : Prop := ∀ (i : Nat) (h : i + 1 < l.length), l[i].1 ≠ l[i + 1].1
theorem al_nil : al [] := fun i h => absurd h (by simp)
theorem al_cons {r s : Rn} {l : List Rn} : al (r :: s :: l) ↔ r.1 ≠ s.1 ∧ al (s :: l) := by
  constructor
  · intro h
    exact ⟨h 0 (by simp), fun i hi => h (i + 1) (by simpa using hi)⟩
  · rintro ⟨h1, h2⟩ i hi
    cases i with
    | zero => exact h1
    | succ i => exact h2 i (by simpa using hi)
theorem al_one (r : Rn) : al [r] := fun i h => absurd h (by simp)
theorem al_tail {r : Rn} {l : List Rn} (h : al (r :: l)) : al l := fun i hi => h (i + 1) (by simpa using hi)
theorem al_snoc {o : List Rn} {x r : Rn} (h : al (o ++ [x])) (hx : x.1 ≠ r.1) : al (o ++ [x] ++ [r]) := by
  induction o with
  | nil => simp only [List.nil_append, List.cons_append]; rw [al_cons]; exact ⟨hx, al_one r⟩
  | cons y o ih =>
    cases o with
    | nil =>
      simp only [List.cons_append, List.nil_append, al_cons] at h ⊢
      exact ⟨h.1, hx, al_one r⟩
    | cons z o =>
      simp only [List.cons_append, al_cons] at h ⊢ ih
      exact ⟨h.1, ih h.2⟩
theorem al_last {o : List Rn} {x y : Rn} (h : al (o ++ [x])) (hx : x.1 = y.1) : al (o ++ [y]) := by
  induction o with
  | nil => exact al_one y
  | cons z o ih =>
    cases o with
    | nil =>
      simp only [List.cons_append, List.nil_append, al_cons] at h ⊢
      exact ⟨by rw [← hx]; exact h.1, al_one y⟩
    | cons u o =>
      simp only [List.cons_append, al_cons] at h ⊢ ih
      exact ⟨h.1, ih h.2⟩
theorem pt_al {o : List Rn} {r : Rn} (h : al o) : al (pt o r) := by
  rcases nil_or_snoc o with rfl | ⟨o, x, rfl⟩
  · exact al_one r
  · rw [pt_snoc]
    split
    · exact al_last h rfl
    · rename_i hx; exact al_snoc h hx
theorem fold_al (l o : List Rn) (h : al o) : al (l.foldl pt o) := by
  induction l generalizing o with
  | nil => exact h
  | cons r l ih => exact ih _ (pt_al h)
theorem jn_al (l : List Rn) : al (jn l) := fold_al l [] al_nil

/-! The level at a tick. -/
def atv : List Rn → Int → Int × Bool
  | [], _ => (-1, false)
  | r :: l, k => if k < r.2 then (r.1, true) else atv l (k - r.2)
theorem atv_cons (r : Rn) (l : List Rn) (k : Int) : atv (r :: l) k = if k < r.2 then (r.1, true) else atv l (k - r.2) := rfl
theorem atv_drop {l : List Rn} {j : Nat} (hj : j < l.length) (k : Int) : atv (l.drop j) k = if k < l[j].2 then (l[j].1, true) else atv (l.drop (j + 1)) (k - l[j].2) := by
  rw [List.drop_eq_getElem_cons hj]; rfl
theorem atv_append (a b : List Rn) (k : Int) (ha : ps a) (hk : 0 ≤ k) : atv (a ++ b) k = if k < lg a then atv a k else atv b (k - lg a) := by
  induction a generalizing k with
  | nil => simp only [List.nil_append, lg, Int.sub_zero]; rw [if_neg (by omega)]
  | cons r a ih =>
    rw [ps_cons] at ha
    have := ps_nonneg ha.2
    have e : lg (r :: a) = r.2 + lg a := rfl
    rw [List.cons_append, atv_cons, atv_cons, e]
    by_cases h : k < r.2
    · rw [if_pos h, if_pos h, if_pos (by omega)]
    · rw [if_neg h, if_neg h, ih (k - r.2) ha.2 (by omega)]
      by_cases h2 : k - r.2 < lg a
      · rw [if_pos h2, if_pos (by omega)]
      · rw [if_neg h2, if_neg (by omega)]
        congr 1
        omega
theorem atv_pt (o : List Rn) (r : Rn) (l : List Rn) (k : Int) (ho : ps o) (hr : 1 ≤ r.2) (hk : 0 ≤ k) : atv (pt o r ++ l) k = atv (o ++ r :: l) k := by
  rcases nil_or_snoc o with rfl | ⟨o, x, rfl⟩
  · rfl
  · rw [pt_snoc]
    rw [ps_append, ps_one] at ho
    have h1 := ho.2
    split
    · rename_i e
      rw [List.append_assoc, List.append_assoc, atv_append o _ k ho.1 hk, atv_append o _ k ho.1 hk]
      by_cases h : k < lg o
      · rw [if_pos h, if_pos h]
      · rw [if_neg h, if_neg h]
        generalize k - lg o = q
        simp only [List.cons_append, List.nil_append, atv]
        by_cases g1 : q < x.2
        · rw [if_pos (by omega), if_pos g1]
        · rw [if_neg g1]
          by_cases g2 : q - x.2 < r.2
          · rw [if_pos (by omega), if_pos g2, e]
          · rw [if_neg (by omega), if_neg g2]
            congr 1
            omega
    · rw [List.append_assoc]; rfl
theorem atv_fold (l o : List Rn) (k : Int) (ho : ps o) (hl : ps l) (hk : 0 ≤ k) : atv (l.foldl pt o) k = atv (o ++ l) k := by
  induction l generalizing o with
  | nil => simp
  | cons r l ih =>
    rw [ps_cons] at hl
    rw [List.foldl_cons, ih _ (pt_ps ho hl.1) hl.2, atv_pt o r l k ho hl.1 hk]
theorem atv_jn {l : List Rn} (k : Int) (hl : ps l) (hk : 0 ≤ k) : atv (jn l) k = atv l k := by
  unfold jn; rw [atv_fold l [] k ps_nil hl hk]; rfl
theorem atv_end {l : List Rn} {k : Int} (hl : ps l) (hk : lg l ≤ k) : atv l k = (-1, false) := by
  induction l generalizing k with
  | nil => rfl
  | cons r l ih =>
    rw [ps_cons] at hl
    have h0 := ps_nonneg hl.2
    have e : lg (r :: l) = r.2 + lg l := rfl
    rw [e] at hk
    rw [atv_cons, if_neg (by omega)]
    exact ih hl.2 (by omega)
theorem atv_in {l : List Rn} {k : Int} (h0 : 0 ≤ k) (hl : ps l) (hk : k < lg l) : (atv l k).2 = true ∧ ∃ r ∈ l, (atv l k).1 = r.1 := by
  induction l generalizing k with
  | nil => simp only [lg] at hk; omega
  | cons r l ih =>
    rw [ps_cons] at hl
    have e : lg (r :: l) = r.2 + lg l := rfl
    rw [e] at hk
    rw [atv_cons]
    by_cases h : k < r.2
    · rw [if_pos h]; exact ⟨rfl, r, by simp, rfl⟩
    · rw [if_neg h]
      obtain ⟨i1, x, i2, i3⟩ := ih (k := k - r.2) (by omega) hl.2 (by omega)
      exact ⟨i1, x, by simp [i2], i3⟩
/-- A run's ticks. -/
theorem atv_run {l : List Rn} {j : Nat} (hl : ps l) (hj : j < l.length) {k : Int} (h1 : lg (l.take j) ≤ k) (h2 : k < lg (l.take (j + 1))) : atv l k = (l[j].1, true) := by
  have h0 := ps_nonneg (ps_take hl j)
  rw [lg_take l j hj] at h2
  conv => lhs; rw [← List.take_append_drop j l]
  rw [atv_append _ _ k (ps_take hl j) (by omega), if_neg (by omega), atv_drop hj, if_pos (by omega)]
/-- A clean list is made of its levels alone. -/
theorem al_unique {a b : List Rn} (ha : al a) (pa : ps a) (hb : al b) (pb : ps b) (h : ∀ k, 0 ≤ k → atv a k = atv b k) : a = b := by
  induction a generalizing b with
  | nil =>
    cases b with
    | nil => rfl
    | cons s b =>
      rw [ps_cons] at pb
      have := h 0 (by omega)
      rw [atv_cons, if_pos (by omega)] at this
      have := congrArg Prod.snd this
      exact absurd this (by simp [atv])
  | cons r a ih =>
    rw [ps_cons] at pa
    cases b with
    | nil =>
      have := h 0 (by omega)
      rw [atv_cons, if_pos (by omega)] at this
      have := congrArg Prod.snd this
      exact absurd this (by simp [atv])
    | cons s b =>
      rw [ps_cons] at pb
      have e0 := h 0 (by omega)
      rw [atv_cons, if_pos (by omega), atv_cons, if_pos (by omega)] at e0
      have e1 : r.1 = s.1 := (Prod.mk.inj e0).1
      have key : ∀ (x y : Rn) (u v : List Rn), al (x :: u) → ps u → x.1 = y.1 → 1 ≤ x.2 → x.2 < y.2 → (∀ k, 0 ≤ k → atv (x :: u) k = atv (y :: v) k) → False := by
        intro x y u v hu pu exy hx hlt hh
        have e2 := hh x.2 (by omega)
        rw [atv_cons, if_neg (by omega), atv_cons, if_pos hlt] at e2
        cases u with
        | nil => have := congrArg Prod.snd e2; exact absurd this (by simp [atv])
        | cons z u =>
          rw [ps_cons] at pu
          rw [atv_cons, if_pos (by omega)] at e2
          have e3 : z.1 = y.1 := (Prod.mk.inj e2).1
          exact (al_cons.1 hu).1 (by rw [exy, e3])
      have e2 : r.2 = s.2 := by
        rcases Int.lt_trichotomy r.2 s.2 with c | c | c
        · exact absurd (key r s a b ha pa.2 e1 pa.1 c h) id
        · exact c
        · exact absurd (key s r b a hb pb.2 e1.symm pb.1 c (fun k hk => (h k hk).symm)) id
      have e3 : r = s := Prod.ext e1 e2
      subst e3
      rw [ih (al_tail ha) pa.2 (al_tail hb) pb.2 fun k hk => ?_]
      have e4 := h (k + r.2) (by omega)
      rw [atv_cons, if_neg (by omega), atv_cons, if_neg (by omega)] at e4
      rw [show k + r.2 - r.2 = k by omega] at e4
      exact e4
def atC (N : List ByteArray) (R : List Rn) (k : Int) : Int × Bool := if ckC N R = 0 ∧ 0 ≤ k then atv R k else (-1, false)
theorem atC_yes {N : List ByteArray} {R : List Rn} {k : Int} (h : ckC N R = 0) (hk : 0 ≤ k) : atC N R k = atv R k := by unfold atC; rw [if_pos ⟨h, hk⟩]
theorem atC_no {N : List ByteArray} {R : List Rn} {k : Int} (h : ¬ (ckC N R = 0 ∧ 0 ≤ k)) : atC N R k = (-1, false) := by unfold atC; rw [if_neg h]

/-! Parts. -/
def s1 (b : Int) (r : Rn) (f t : Int) : List Rn := if max b f < min (b + r.2) t then [(r.1, min (b + r.2) t - max b f)] else []
def sl : Int → List Rn → Int → Int → List Rn
  | _, [], _, _ => []
  | b, r :: l, f, t => s1 b r f t ++ sl (b + r.2) l f t
theorem sl_cons (b : Int) (r : Rn) (l : List Rn) (f t : Int) : sl b (r :: l) f t = s1 b r f t ++ sl (b + r.2) l f t := rfl
theorem sl_snoc (b : Int) (l : List Rn) (r : Rn) (f t : Int) : sl b (l ++ [r]) f t = sl b l f t ++ s1 (b + lg l) r f t := by
  induction l generalizing b with
  | nil => simp [sl, lg]
  | cons x l ih =>
    have e : lg (x :: l) = x.2 + lg l := rfl
    rw [List.cons_append, sl_cons, sl_cons, ih, e, List.append_assoc, Int.add_assoc]
theorem sl_take (l : List Rn) (j : Nat) (hj : j < l.length) (f t : Int) : sl 0 (l.take (j + 1)) f t = sl 0 (l.take j) f t ++ s1 (lg (l.take j)) l[j] f t := by
  rw [List.take_succ_eq_append_getElem hj, sl_snoc, Int.zero_add]
theorem s1_yes {b : Int} {r : Rn} {f t : Int} (h : max b f < min (b + r.2) t) : s1 b r f t = [(r.1, min (b + r.2) t - max b f)] := by unfold s1; rw [if_pos h]
theorem s1_no {b : Int} {r : Rn} {f t : Int} (h : ¬ max b f < min (b + r.2) t) : s1 b r f t = [] := by unfold s1; rw [if_neg h]
theorem s1_len (b : Int) (r : Rn) (f t : Int) : (s1 b r f t).length ≤ 1 := by unfold s1; split <;> simp
theorem sl_len (l : List Rn) (b f t : Int) : (sl b l f t).length ≤ l.length := by
  induction l generalizing b with
  | nil => simp [sl]
  | cons r l ih =>
    rw [sl_cons, List.length_append, List.length_cons]
    have := ih (b + r.2)
    have := s1_len b r f t
    omega
theorem sl_ps {l : List Rn} {b f t : Int} : ps (sl b l f t) := by
  induction l generalizing b with
  | nil => exact ps_nil
  | cons r l ih =>
    rw [sl_cons, ps_append]
    refine ⟨?_, ih⟩
    unfold s1; split
    · rename_i hlt; rw [ps_one]; show 1 ≤ min (b + r.2) t - max b f; omega
    · exact ps_nil
theorem sl_lv {m : Int} {l : List Rn} {b f t : Int} (h : lv m l) : lv m (sl b l f t) := by
  induction l generalizing b with
  | nil => exact lv_nil m
  | cons r l ih =>
    rw [lv_cons] at h
    rw [sl_cons]
    intro y hy
    rcases List.mem_append.1 hy with h1 | h1
    · unfold s1 at h1
      split at h1
      · rw [List.mem_singleton] at h1; subst h1; exact h.1
      · cases h1
    · exact ih h.2 y h1
theorem sl_lg {l : List Rn} {b f t : Int} (h : ps l) : lg (sl b l f t) = max 0 (min (b + lg l) t - max b f) := by
  induction l generalizing b with
  | nil => simp only [sl, lg]; omega
  | cons r l ih =>
    rw [ps_cons] at h
    have h0 := ps_nonneg h.2
    have e : lg (r :: l) = r.2 + lg l := rfl
    rw [sl_cons, lg_append, ih h.2, e]
    unfold s1
    split
    · rw [lg_one]; simp only; omega
    · simp only [lg]; omega
theorem sl_at {l : List Rn} {b f t k : Int} (h : ps l) (hk : 0 ≤ k) (hkt : k < t - max b f) : atv (sl b l f t) k = atv l (max b f + k - b) := by
  induction l generalizing b k with
  | nil => rfl
  | cons r l ih =>
    rw [ps_cons] at h
    rw [sl_cons]
    by_cases c : max b f < b + r.2
    · rw [s1_yes (by omega), List.cons_append, List.nil_append, atv_cons, atv_cons]
      simp only
      by_cases c2 : k < min (b + r.2) t - max b f
      · rw [if_pos c2, if_pos (by omega)]
      · rw [if_neg c2, if_neg (by omega), ih h.2 (by omega) (by omega)]
        congr 1
        omega
    · rw [s1_no (by omega), List.nil_append, atv_cons, if_neg (by omega), ih h.2 hk (by omega)]
      congr 1
      omega
def prt (R : List Rn) (f t : Int) : List Rn := jn (sl 0 R f t)
theorem prt_nil (f t : Int) : prt [] f t = [] := rfl
theorem prt_yes {R : List Rn} {j : Nat} (hj : j < R.length) {f t : Int} (h : max (lg (R.take j)) f < min (lg (R.take j) + R[j].2) t) : prt (R.take (j + 1)) f t = pt (prt (R.take j) f t) (R[j].1, min (lg (R.take j) + R[j].2) t - max (lg (R.take j)) f) := by
  unfold prt; rw [sl_take R j hj, s1_yes h, jn_snoc]
theorem prt_no {R : List Rn} {j : Nat} (hj : j < R.length) {f t : Int} (h : ¬ max (lg (R.take j)) f < min (lg (R.take j) + R[j].2) t) : prt (R.take (j + 1)) f t = prt (R.take j) f t := by
  unfold prt; rw [sl_take R j hj, s1_no h, List.append_nil]
theorem prt_len (R : List Rn) (f t : Int) : (prt R f t).length ≤ R.length := Nat.le_trans (jn_len _) (sl_len R 0 f t)
theorem prt_vr {m : Int} {R : List Rn} {f t : Int} (h : vr m 0 R = true) (hf : 0 ≤ f) : vr m 0 (prt R f t) = true := by
  obtain ⟨h1, h2, h3⟩ := (vr_iff m R 0 (by omega)).1 h
  refine jn_vr ((vr_iff m _ 0 (by omega)).2 ⟨sl_lv h1, sl_ps, ?_⟩)
  have := ps_nonneg h2
  rw [sl_lg h2]
  omega
theorem prt_lg {R : List Rn} {f t : Int} (h : ps R) (hf : 0 ≤ f) (ht : f < t) (hl : t ≤ lg R) : lg (prt R f t) = t - f := by
  unfold prt; rw [jn_lg, sl_lg h]; omega
theorem prt_at {R : List Rn} {f t k : Int} (h : ps R) (hf : 0 ≤ f) (hk : 0 ≤ k) (hkt : k < t - f) : atv (prt R f t) k = atv R (f + k) := by
  unfold prt
  rw [atv_jn k sl_ps hk, sl_at h hk (by omega)]
  congr 1
  omega
theorem sl_all {l : List Rn} {b t : Int} (h : ps l) (hb : 0 ≤ b) (ht : b + lg l ≤ t) : sl b l 0 t = l := by
  induction l generalizing b with
  | nil => rfl
  | cons r l ih =>
    rw [ps_cons] at h
    have h0 := ps_nonneg h.2
    have e : lg (r :: l) = r.2 + lg l := rfl
    rw [e] at ht
    rw [sl_cons, ih h.2 (by omega) (by omega), s1_yes (by omega)]
    show (r.1, min (b + r.2) t - max b 0) :: l = r :: l
    rw [show min (b + r.2) t - max b 0 = r.2 by omega]
theorem prt_all {m : Int} {R : List Rn} (h : vr m 0 R = true) : prt R 0 1099511627776 = jn R := by
  obtain ⟨h1, h2, h3⟩ := (vr_iff m R 0 (by omega)).1 h
  unfold prt; rw [sl_all h2 (by omega) h3]

end Go.Proofs.Ytcodoakfomddfaa
