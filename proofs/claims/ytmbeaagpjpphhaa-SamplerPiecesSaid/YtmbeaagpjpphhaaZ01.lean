/-
  Plain mathematics of sequences of bits: which they are, the bits of a number and of bytes, and that they undo one another.
-/
import Derived.Lib.Hide
import Derived.Laws.BitsAllLaws
namespace Go.Proofs.Ytmbeaagpjpphhaa
namespace Sb

/-- A character of a sequence of bits, and a sequence of bits. -/
def isBit (b : UInt8) : Bool := b == 48 || b == 49
def okB (l : List UInt8) : Bool := decide (l.length ≤ 65536) && l.all isBit

theorem isBit_iff (b : UInt8) : isBit b = true ↔ b.toNat = 48 ∨ b.toNat = 49 := by
  simp only [isBit, Bool.or_eq_true, beq_iff_eq]
  constructor
  · rintro (rfl | rfl)
    · exact .inl rfl
    · exact .inr rfl
  · rintro (h | h)
    · exact .inl (UInt8.toNat_inj.1 h)
    · exact .inr (UInt8.toNat_inj.1 h)
theorem okB_len {l : List UInt8} (h : okB l = true) : l.length ≤ 65536 := by
  simp only [okB, Bool.and_eq_true, decide_eq_true_eq] at h; exact h.1
theorem okB_mem {l : List UInt8} (h : okB l = true) {b : UInt8} (hb : b ∈ l) : b.toNat = 48 ∨ b.toNat = 49 := by
  simp only [okB, Bool.and_eq_true, List.all_eq_true] at h; exact (isBit_iff b).1 (h.2 b hb)
theorem okB_at {l : List UInt8} (h : okB l = true) (j : Nat) (hj : j < l.length) : l[j].toNat = 48 ∨ l[j].toNat = 49 := okB_mem h (List.getElem_mem hj)
theorem okB_of {l : List UInt8} (h : l.length ≤ 65536) (h' : ∀ b ∈ l, b.toNat = 48 ∨ b.toNat = 49) : okB l = true := by
  simp only [okB, Bool.and_eq_true, decide_eq_true_eq, List.all_eq_true]
  exact ⟨h, fun b hb => (isBit_iff b).2 (h' b hb)⟩
theorem okB_all {l : List UInt8} (h : l.length ≤ 65536) (h' : ∀ j (hj : j < l.length), l[j].toNat = 48 ∨ l[j].toNat = 49) : okB l = true :=
  okB_of h fun b hb => by obtain ⟨j, hj, rfl⟩ := List.getElem_of_mem hb; exact h' j hj
theorem okB_long {l : List UInt8} (h : 65536 < l.length) : okB l = false := by
  rcases hb : okB l with _ | _
  · rfl
  · have := okB_len hb; omega
theorem okB_bad {l : List UInt8} (j : Nat) (hj : j < l.length) (h : l[j].toNat ≠ 48) (h' : l[j].toNat ≠ 49) : okB l = false := by
  rcases hb : okB l with _ | _
  · rfl
  · have := okB_at hb j hj; omega

/-- The value of a sequence whose first bit is the least significant one. -/
def vl : List UInt8 → Nat
  | [] => 0
  | b :: r => (b.toNat - 48) + 2 * vl r
theorem vl_nil : vl [] = 0 := rfl
theorem vl_cons (b : UInt8) (r : List UInt8) : vl (b :: r) = (b.toNat - 48) + 2 * vl r := rfl
theorem vl_snoc (l : List UInt8) (b : UInt8) : vl (l ++ [b]) = vl l + 2 ^ l.length * (b.toNat - 48) := by
  induction l with
  | nil => simp [vl]
  | cons x r ih =>
    simp only [List.cons_append, vl_cons, ih, List.length_cons, Nat.pow_succ]
    rw [Nat.mul_add, Nat.mul_comm (2 ^ r.length) 2, Nat.mul_assoc]
    omega
theorem vl_lt : ∀ (l : List UInt8), (∀ b ∈ l, b.toNat = 48 ∨ b.toNat = 49) → vl l < 2 ^ l.length := by
  intro l
  induction l with
  | nil => intro _; simp [vl]
  | cons x r ih =>
    intro h
    have h1 := ih fun b hb => h b (List.mem_cons_of_mem _ hb)
    have h2 := h x List.mem_cons_self
    simp only [vl_cons, List.length_cons, Nat.pow_succ]
    omega

/-- The value of a sequence, in the order asked for. -/
def numV (l : List UInt8) (msb : Bool) : Nat := if msb then vl l.reverse else vl l
theorem numV_lt (l : List UInt8) (msb : Bool) (h : ∀ b ∈ l, b.toNat = 48 ∨ b.toNat = 49) : numV l msb < 2 ^ l.length := by
  unfold numV
  split
  · have := vl_lt l.reverse (fun b hb => h b (List.mem_reverse.1 hb))
    rwa [List.length_reverse] at this
  · exact vl_lt l h

/-- The character of bit i of n. -/
def bc (n : Int) (i : Nat) : UInt8 := if n / 2 ^ i % 2 = 1 then 49 else 48
theorem bc_bit (n : Int) (i : Nat) : (bc n i).toNat = 48 ∨ (bc n i).toNat = 49 := by
  unfold bc; split
  · exact .inr rfl
  · exact .inl rfl
theorem bc_val (n : Int) (i : Nat) : ((bc n i).toNat : Int) = 48 + n / 2 ^ i % 2 := by
  unfold bc; split
  · rename_i h; rw [h]; rfl
  · rename_i h
    have : n / 2 ^ i % 2 = 0 := by omega
    rw [this]; rfl
/-- The place of a character. -/
def pl (w : Nat) (msb : Bool) (i : Nat) : Nat := if msb then w - 1 - i else i
theorem pl_lt {w i : Nat} (msb : Bool) (h : i < w) : pl w msb i < w := by unfold pl; split <;> omega
/-- The first k characters of the w lowest bits of n. -/
def ab (n : Int) (w : Nat) (msb : Bool) (k : Nat) : List UInt8 := (List.range k).map fun i => bc n (pl w msb i)
/-- The w lowest bits of n. -/
def fi (n : Int) (w : Nat) (msb : Bool) : List UInt8 := ab n w msb w
theorem ab_zero (n : Int) (w : Nat) (msb : Bool) : ab n w msb 0 = [] := rfl
theorem ab_succ (n : Int) (w : Nat) (msb : Bool) (k : Nat) : ab n w msb (k + 1) = ab n w msb k ++ [bc n (pl w msb k)] := by
  simp only [ab, List.range_succ, List.map_append, List.map_cons, List.map_nil]
theorem ab_length (n : Int) (w : Nat) (msb : Bool) (k : Nat) : (ab n w msb k).length = k := by simp [ab]
theorem fi_length (n : Int) (w : Nat) (msb : Bool) : (fi n w msb).length = w := ab_length n w msb w
theorem fi_bits (n : Int) (w : Nat) (msb : Bool) : ∀ b ∈ fi n w msb, b.toNat = 48 ∨ b.toNat = 49 := by
  intro b hb
  simp only [fi, ab, List.mem_map] at hb
  obtain ⟨i, _, rfl⟩ := hb
  exact bc_bit _ _
theorem fi_ok (n : Int) (w : Nat) (msb : Bool) (h : w ≤ 65536) : okB (fi n w msb) = true := okB_of (by rw [fi_length]; exact h) (fi_bits n w msb)
theorem fi_turn (n : Int) (w : Nat) : (fi n w true).reverse = fi n w false := by
  apply List.ext_getElem
  · simp [fi_length]
  · intro i h1 h2
    rw [List.getElem_reverse]
    simp only [fi, ab, List.getElem_map, List.getElem_range, List.length_map, List.length_range, pl, if_true, Bool.false_eq_true, if_false]
    simp only [List.length_reverse, fi_length] at h1
    congr 1
    omega
theorem fi_turn' (n : Int) (w : Nat) : (fi n w false).reverse = fi n w true := by rw [← fi_turn, List.reverse_reverse]
/-- The value of the bits of a number. -/
theorem vl_ab (n : Nat) (w : Nat) : ∀ k, vl (ab n w false k) = n % 2 ^ k := by
  intro k
  induction k with
  | zero => simp [ab_zero, vl, Nat.mod_one]
  | succ k ih =>
    rw [ab_succ, vl_snoc, ih, ab_length, Nat.pow_succ, Nat.mod_mul]
    have h1 := bc_val n k
    have e : (n : Int) / 2 ^ k % 2 = ((n / 2 ^ k % 2 : Nat) : Int) := by simp
    rw [e] at h1
    have : (bc n (pl w false k)).toNat - 48 = n / 2 ^ k % 2 := by
      show (bc n k).toNat - 48 = _
      omega
    rw [this]
theorem numV_fi (n : Nat) (w : Nat) (msb : Bool) (h : n < 2 ^ w) : numV (fi n w msb) msb = n := by
  have e : vl (fi n w false) = n := by
    unfold fi
    rw [vl_ab n w w, Nat.mod_eq_of_lt h]
  cases msb
  · exact e
  · show vl (fi n w true).reverse = n
    rw [fi_turn, e]

/-- The bits of bytes. -/
def fb (b : List UInt8) (msb : Bool) : List UInt8 := b.flatMap fun x => fi x.toNat 8 msb
theorem fb_nil (msb : Bool) : fb [] msb = [] := rfl
theorem fb_cons (x : UInt8) (r : List UInt8) (msb : Bool) : fb (x :: r) msb = fi x.toNat 8 msb ++ fb r msb := rfl
theorem fb_snoc (l : List UInt8) (x : UInt8) (msb : Bool) : fb (l ++ [x]) msb = fb l msb ++ fi x.toNat 8 msb := by
  simp [fb, List.flatMap_append]
theorem fb_length (l : List UInt8) (msb : Bool) : (fb l msb).length = 8 * l.length := by
  induction l with
  | nil => rfl
  | cons x r ih => rw [fb_cons, List.length_append, fi_length, ih, List.length_cons]; omega
theorem fb_ok (l : List UInt8) (msb : Bool) (h : l.length ≤ 8192) : okB (fb l msb) = true := by
  refine okB_of (by rw [fb_length]; omega) fun b hb => ?_
  simp only [fb, List.mem_flatMap] at hb
  obtain ⟨x, _, hx⟩ := hb
  exact fi_bits _ _ _ b hx

/-- The first k bytes whose bits are l. -/
def byk (l : List UInt8) (msb : Bool) (k : Nat) : List UInt8 := (List.range k).map fun i => UInt8.ofNat (numV ((l.drop (8 * i)).take 8) msb)
theorem byk_zero (l : List UInt8) (msb : Bool) : byk l msb 0 = [] := rfl
theorem byk_succ (l : List UInt8) (msb : Bool) (k : Nat) : byk l msb (k + 1) = byk l msb k ++ [UInt8.ofNat (numV ((l.drop (8 * k)).take 8) msb)] := by
  simp only [byk, List.range_succ, List.map_append, List.map_cons, List.map_nil]
theorem byk_length (l : List UInt8) (msb : Bool) (k : Nat) : (byk l msb k).length = k := by simp [byk]
/-- The bytes whose bits are l. -/
def by8 (l : List UInt8) (msb : Bool) : List UInt8 := byk l msb (l.length / 8)
theorem fb_drop : ∀ (l : List UInt8) (msb : Bool) (k : Nat) (h : k < l.length), ((fb l msb).drop (8 * k)).take 8 = fi l[k].toNat 8 msb := by
  intro l msb
  induction l with
  | nil => intro k h; simp at h
  | cons x r ih =>
    intro k h
    cases k with
    | zero =>
      rw [fb_cons, Nat.mul_zero, List.drop_zero, List.take_left' (fi_length _ _ _)]
      rfl
    | succ k =>
      have h' : k < r.length := by simpa using h
      rw [fb_cons, show 8 * (k + 1) = (fi x.toNat 8 msb).length + 8 * k by rw [fi_length]; omega, ← List.drop_drop, List.drop_left, ih k h']
      rfl
theorem by8_fb (l : List UInt8) (msb : Bool) : by8 (fb l msb) msb = l := by
  unfold by8
  rw [fb_length, Nat.mul_div_cancel_left _ (by omega)]
  apply List.ext_getElem
  · rw [byk_length]
  · intro i h1 h2
    simp only [byk, List.getElem_map, List.getElem_range]
    have h3 : i < l.length := by simpa [byk_length] using h1
    rw [fb_drop l msb i h3, numV_fi _ _ _ (UInt8.toNat_lt _)]
    simp

/-- Inverted bits. -/
def iv (l : List UInt8) : List UInt8 := l.map fun b => 97 - b
theorem iv_one {b : UInt8} (h : b.toNat = 48 ∨ b.toNat = 49) : (97 - b).toNat = 97 - b.toNat ∧ ((97 - b).toNat = 48 ∨ (97 - b).toNat = 49) ∧ 97 - (97 - b) = b := by
  rcases h with h | h
  · obtain rfl : b = 48 := UInt8.toNat_inj.1 h
    exact ⟨rfl, .inr rfl, rfl⟩
  · obtain rfl : b = 49 := UInt8.toNat_inj.1 h
    exact ⟨rfl, .inl rfl, rfl⟩
theorem iv_length (l : List UInt8) : (iv l).length = l.length := by simp [iv]
theorem iv_ok {l : List UInt8} (h : okB l = true) : okB (iv l) = true := by
  refine okB_of (by rw [iv_length]; exact okB_len h) fun b hb => ?_
  simp only [iv, List.mem_map] at hb
  obtain ⟨x, hx, rfl⟩ := hb
  exact (iv_one (okB_mem h hx)).2.1
theorem iv_iv {l : List UInt8} (h : okB l = true) : iv (iv l) = l := by
  unfold iv
  rw [List.map_map]
  conv => rhs; rw [← List.map_id l]
  exact List.map_congr_left fun b hb => (iv_one (okB_mem h hb)).2.2
theorem rev_ok {l : List UInt8} (h : okB l = true) : okB l.reverse = true :=
  okB_of (by rw [List.length_reverse]; exact okB_len h) fun b hb => okB_mem h (List.mem_reverse.1 hb)

/-- How many ones. -/
def on1 : List UInt8 → Nat
  | [] => 0
  | b :: r => (b.toNat - 48) + on1 r
theorem on1_snoc (l : List UInt8) (b : UInt8) : on1 (l ++ [b]) = on1 l + (b.toNat - 48) := by
  induction l with
  | nil => simp [on1]
  | cons x r ih => simp only [List.cons_append, on1, ih]; omega
theorem on1_le : ∀ (l : List UInt8), (∀ b ∈ l, b.toNat = 48 ∨ b.toNat = 49) → on1 l ≤ l.length := by
  intro l
  induction l with
  | nil => intro _; simp [on1]
  | cons x r ih =>
    intro h
    have h1 := ih fun b hb => h b (List.mem_cons_of_mem _ hb)
    have h2 := h x List.mem_cons_self
    simp only [on1, List.length_cons]; omega
theorem on1_iv : ∀ (l : List UInt8), (∀ b ∈ l, b.toNat = 48 ∨ b.toNat = 49) → on1 l + on1 (iv l) = l.length := by
  intro l
  induction l with
  | nil => intro _; rfl
  | cons x r ih =>
    intro h
    have h1 := ih fun b hb => h b (List.mem_cons_of_mem _ hb)
    have h2 := h x List.mem_cons_self
    have h3 := (iv_one h2).1
    have e : iv (x :: r) = (97 - x) :: iv r := rfl
    rw [e]
    simp only [on1, List.length_cons, h3]; omega

/-- How many characters c stand first. -/
def rl (c : UInt8) : List UInt8 → Nat
  | [] => 0
  | b :: r => if b = c then rl c r + 1 else 0
theorem rl_le (c : UInt8) (l : List UInt8) : rl c l ≤ l.length := by
  induction l with
  | nil => simp [rl]
  | cons x r ih => simp only [rl, List.length_cons]; split <;> omega
theorem rl_eq {c : UInt8} {b : UInt8} (r : List UInt8) (h : b = c) : rl c (b :: r) = rl c r + 1 := by rw [rl, if_pos h]
theorem rl_ne {c : UInt8} {b : UInt8} (r : List UInt8) (h : b ≠ c) : rl c (b :: r) = 0 := by rw [rl, if_neg h]
theorem rl_same : ∀ (c : UInt8) (l : List UInt8) (j : Nat) (_ : j < rl c l) (hj : j < l.length), l[j] = c := by
  intro c l
  induction l with
  | nil => intro j _ hj; simp at hj
  | cons x r ih =>
    intro j h hj
    by_cases hx : x = c
    · cases j with
      | zero => exact hx
      | succ j => exact ih j (by rw [rl_eq r hx] at h; omega) (by simpa using hj)
    · rw [rl_ne r hx] at h; omega
theorem rl_next : ∀ (c : UInt8) (l : List UInt8) (hj : rl c l < l.length), l[rl c l] ≠ c := by
  intro c l
  induction l with
  | nil => intro hj; simp [rl] at hj
  | cons x r ih =>
    intro hj
    by_cases hx : x = c
    · have e := rl_eq r hx
      have hj' : rl c r < r.length := by rw [e] at hj; simpa using hj
      have := ih hj'
      simp only [e, List.getElem_cons_succ]
      exact this
    · have e := rl_ne r hx
      simp only [e, List.getElem_cons_zero]
      exact hx

/-- The run at an index (inside the list). -/
def rn (l : List UInt8) (a : Nat) : Nat := match l.drop a with
  | [] => 0
  | c :: r => rl c (c :: r)
theorem rn_at {l : List UInt8} {a : Nat} (h : a < l.length) : rn l a = rl l[a] (l.drop a) := by
  unfold rn
  rw [List.drop_eq_getElem_cons h]
theorem rn_facts {l : List UInt8} {a : Nat} (h : a < l.length) : 1 ≤ rn l a ∧ a + rn l a ≤ l.length ∧ (∀ j (_ : j < rn l a) (hj : a + j < l.length), l[a + j] = l[a]) ∧ ∀ (hj : a + rn l a < l.length), l[a + rn l a] ≠ l[a] := by
  have h1 := rl_le l[a] (l.drop a)
  have h2 := rl_same l[a] (l.drop a)
  have h3 := rl_next l[a] (l.drop a)
  rw [← rn_at h] at h1 h2 h3
  rw [List.length_drop] at h1
  refine ⟨?_, by omega, fun j hj hj' => ?_, fun hj => ?_⟩
  · rw [rn_at h, List.drop_eq_getElem_cons h, rl_eq _ rfl]; omega
  · have := h2 j hj (by rw [List.length_drop]; omega)
    rwa [List.getElem_drop] at this
  · have := h3 (by rw [List.length_drop]; omega)
    rwa [List.getElem_drop] at this

end Sb
end Go.Proofs.Ytmbeaagpjpphhaa
