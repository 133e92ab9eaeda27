/-
  Plain mathematics of sequences of bits: which they are, the bits of a number and of bytes, and that they undo one another.
  Plain mathematics: the value of a sequence of bits, character by character, in both orders.
  Plain mathematics of the CRC: the register, its linearity, that a short burst changes it; bits in reverse order.
  Plain mathematics of the sums: modulo 256, exclusive or, with carry.
-/
import Derived.Lib.Hide
import Derived.Laws.BitsAllLaws
namespace Go.Proofs.YtillcmddbjhepaaGreatDoor
namespace Sd

/-- A character of a sequence of bits, and a sequence of bits. -/
def isBit (b : UInt8) : Bool := b == 48 || b == 49
def okB (l : List UInt8) : Bool := decide (l.length ≤ 65536) && l.all isBit

theorem isBit_iff (b : UInt8) : isBit b = true ↔ b.toNat = 48 ∨ b.toNat = 49 := by
  simp only [isBit, Bool.or_eq_true, beq_iff_eq]
  constructor
  · rintro (rfl | rfl)
    · exact .inl rfl
    · exact .inr rfl
  · rintro (h | h)
    · exact .inl (UInt8.toNat_inj.1 h)
    · exact .inr (UInt8.toNat_inj.1 h)
theorem okB_len {l : List UInt8} (h : okB l = true) : l.length ≤ 65536 := by
  simp only [okB, Bool.and_eq_true, decide_eq_true_eq] at h; exact h.1
theorem okB_mem {l : List UInt8} (h : okB l = true) {b : UInt8} (hb : b ∈ l) : b.toNat = 48 ∨ b.toNat = 49 := by
  simp only [okB, Bool.and_eq_true, List.all_eq_true] at h; exact (isBit_iff b).1 (h.2 b hb)
theorem okB_at {l : List UInt8} (h : okB l = true) (j : Nat) (hj : j < l.length) : l[j].toNat = 48 ∨ l[j].toNat = 49 := okB_mem h (List.getElem_mem hj)
theorem okB_of {l : List UInt8} (h : l.length ≤ 65536) (h' : ∀ b ∈ l, b.toNat = 48 ∨ b.toNat = 49) : okB l = true := by
  simp only [okB, Bool.and_eq_true, decide_eq_true_eq, List.all_eq_true]
  exact ⟨h, fun b hb => (isBit_iff b).2 (h' b hb)⟩
theorem okB_all {l : List UInt8} (h : l.length ≤ 65536) (h' : ∀ j (hj : j < l.length), l[j].toNat = 48 ∨ l[j].toNat = 49) : okB l = true :=
  okB_of h fun b hb => by obtain ⟨j, hj, rfl⟩ := List.getElem_of_mem hb; exact h' j hj
theorem okB_long {l : List UInt8} (h : 65536 < l.length) : okB l = false := by
  rcases hb : okB l with _ | _
  · rfl
  · have := okB_len hb; omega
theorem okB_bad {l : List UInt8} (j : Nat) (hj : j < l.length) (h : l[j].toNat ≠ 48) (h' : l[j].toNat ≠ 49) : okB l = false := by
  rcases hb : okB l with _ | _
  · rfl
  · have := okB_at hb j hj; omega

/-- The value of a sequence whose first bit is the least significant one. -/
def vl : List UInt8 → Nat
  | [] => 0
  | b :: r => (b.toNat - 48) + 2 * vl r
theorem vl_nil : vl [] = 0 := rfl
theorem vl_cons (b : UInt8) (r : List UInt8) : vl (b :: r) = (b.toNat - 48) + 2 * vl r := rfl
theorem vl_snoc (l : List UInt8) (b : UInt8) : vl (l ++ [b]) = vl l + 2 ^ l.length * (b.toNat - 48) := by
  induction l with
  | nil => simp [vl]
  | cons x r ih =>
    simp only [List.cons_append, vl_cons, ih, List.length_cons, Nat.pow_succ]
    rw [Nat.mul_add, Nat.mul_comm (2 ^ r.length) 2, Nat.mul_assoc]
    omega
theorem vl_lt : ∀ (l : List UInt8), (∀ b ∈ l, b.toNat = 48 ∨ b.toNat = 49) → vl l < 2 ^ l.length := by
  intro l
  induction l with
  | nil => intro _; simp [vl]
  | cons x r ih =>
    intro h
    have h1 := ih fun b hb => h b (List.mem_cons_of_mem _ hb)
    have h2 := h x List.mem_cons_self
    simp only [vl_cons, List.length_cons, Nat.pow_succ]
    omega

/-- The value of a sequence, in the order asked for. -/
def numV (l : List UInt8) (msb : Bool) : Nat := if msb then vl l.reverse else vl l
theorem numV_lt (l : List UInt8) (msb : Bool) (h : ∀ b ∈ l, b.toNat = 48 ∨ b.toNat = 49) : numV l msb < 2 ^ l.length := by
  unfold numV
  split
  · have := vl_lt l.reverse (fun b hb => h b (List.mem_reverse.1 hb))
    rwa [List.length_reverse] at this
  · exact vl_lt l h

/-- The character of bit i of n. -/
def bc (n : Int) (i : Nat) : UInt8 := if n / 2 ^ i % 2 = 1 then 49 else 48
theorem bc_bit (n : Int) (i : Nat) : (bc n i).toNat = 48 ∨ (bc n i).toNat = 49 := by
  unfold bc; split
  · exact .inr rfl
  · exact .inl rfl
theorem bc_val (n : Int) (i : Nat) : ((bc n i).toNat : Int) = 48 + n / 2 ^ i % 2 := by
  unfold bc; split
  · rename_i h; rw [h]; rfl
  · rename_i h
    have : n / 2 ^ i % 2 = 0 := by omega
    rw [this]; rfl
/-- The place of a character. -/
def pl (w : Nat) (msb : Bool) (i : Nat) : Nat := if msb then w - 1 - i else i
theorem pl_lt {w i : Nat} (msb : Bool) (h : i < w) : pl w msb i < w := by unfold pl; split <;> omega
/-- The first k characters of the w lowest bits of n. -/
def ab (n : Int) (w : Nat) (msb : Bool) (k : Nat) : List UInt8 := (List.range k).map fun i => bc n (pl w msb i)
/-- The w lowest bits of n. -/
def fi (n : Int) (w : Nat) (msb : Bool) : List UInt8 := ab n w msb w
theorem ab_zero (n : Int) (w : Nat) (msb : Bool) : ab n w msb 0 = [] := rfl
theorem ab_succ (n : Int) (w : Nat) (msb : Bool) (k : Nat) : ab n w msb (k + 1) = ab n w msb k ++ [bc n (pl w msb k)] := by
  simp only [ab, List.range_succ, List.map_append, List.map_cons, List.map_nil]
theorem ab_length (n : Int) (w : Nat) (msb : Bool) (k : Nat) : (ab n w msb k).length = k := by simp [ab]
theorem fi_length (n : Int) (w : Nat) (msb : Bool) : (fi n w msb).length = w := ab_length n w msb w
theorem fi_bits (n : Int) (w : Nat) (msb : Bool) : ∀ b ∈ fi n w msb, b.toNat = 48 ∨ b.toNat = 49 := by
  intro b hb
  simp only [fi, ab, List.mem_map] at hb
  obtain ⟨i, _, rfl⟩ := hb
  exact bc_bit _ _
theorem fi_ok (n : Int) (w : Nat) (msb : Bool) (h : w ≤ 65536) : okB (fi n w msb) = true := okB_of (by rw [fi_length]; exact h) (fi_bits n w msb)
theorem fi_turn (n : Int) (w : Nat) : (fi n w true).reverse = fi n w false := by
  apply List.ext_getElem
  · simp [fi_length]
  · intro i h1 h2
    rw [List.getElem_reverse]
    simp only [fi, ab, List.getElem_map, List.getElem_range, List.length_map, List.length_range, pl, if_true, Bool.false_eq_true, if_false]
    simp only [List.length_reverse, fi_length] at h1
    congr 1
    omega
theorem fi_turn' (n : Int) (w : Nat) : (fi n w false).reverse = fi n w true := by rw [← fi_turn, List.reverse_reverse]
/-- The value of the bits of a number. -/
theorem vl_ab (n : Nat) (w : Nat) : ∀ k, vl (ab n w false k) = n % 2 ^ k := by
  intro k
  induction k with
  | zero => simp [ab_zero, vl, Nat.mod_one]
  | succ k ih =>
    rw [ab_succ, vl_snoc, ih, ab_length, Nat.pow_succ, Nat.mod_mul]
    have h1 := bc_val n k
    have e : (n : Int) / 2 ^ k % 2 = ((n / 2 ^ k % 2 : Nat) : Int) := by simp
    rw [e] at h1
    have : (bc n (pl w false k)).toNat - 48 = n / 2 ^ k % 2 := by
      show (bc n k).toNat - 48 = _
      omega
    rw [this]
theorem numV_fi (n : Nat) (w : Nat) (msb : Bool) (h : n < 2 ^ w) : numV (fi n w msb) msb = n := by
  have e : vl (fi n w false) = n := by
    unfold fi
    rw [vl_ab n w w, Nat.mod_eq_of_lt h]
  cases msb
  · exact e
  · show vl (fi n w true).reverse = n
    rw [fi_turn, e]

/-- The bits of bytes. -/
def fb (b : List UInt8) (msb : Bool) : List UInt8 := b.flatMap fun x => fi x.toNat 8 msb
theorem fb_nil (msb : Bool) : fb [] msb = [] := rfl
theorem fb_cons (x : UInt8) (r : List UInt8) (msb : Bool) : fb (x :: r) msb = fi x.toNat 8 msb ++ fb r msb := rfl
theorem fb_snoc (l : List UInt8) (x : UInt8) (msb : Bool) : fb (l ++ [x]) msb = fb l msb ++ fi x.toNat 8 msb := by
  simp [fb, List.flatMap_append]
theorem fb_length (l : List UInt8) (msb : Bool) : (fb l msb).length = 8 * l.length := by
  induction l with
  | nil => rfl
  | cons x r ih => rw [fb_cons, List.length_append, fi_length, ih, List.length_cons]; omega
theorem fb_ok (l : List UInt8) (msb : Bool) (h : l.length ≤ 8192) : okB (fb l msb) = true := by
  refine okB_of (by rw [fb_length]; omega) fun b hb => ?_
  simp only [fb, List.mem_flatMap] at hb
  obtain ⟨x, _, hx⟩ := hb
  exact fi_bits _ _ _ b hx

/-- The first k bytes whose bits are l. -/
def byk (l : List UInt8) (msb : Bool) (k : Nat) : List UInt8 := (List.range k).map fun i => UInt8.ofNat (numV ((l.drop (8 * i)).take 8) msb)
theorem byk_zero (l : List UInt8) (msb : Bool) : byk l msb 0 = [] := rfl
theorem byk_succ (l : List UInt8) (msb : Bool) (k : Nat) : byk l msb (k + 1) = byk l msb k ++ [UInt8.ofNat (numV ((l.drop (8 * k)).take 8) msb)] := by
  simp only [byk, List.range_succ, List.map_append, List.map_cons, List.map_nil]
theorem byk_length (l : List UInt8) (msb : Bool) (k : Nat) : (byk l msb k).length = k := by simp [byk]
/-- The bytes whose bits are l. -/
def by8 (l : List UInt8) (msb : Bool) : List UInt8 := byk l msb (l.length / 8)
theorem fb_drop : ∀ (l : List UInt8) (msb : Bool) (k : Nat) (h : k < l.length), ((fb l msb).drop (8 * k)).take 8 = fi l[k].toNat 8 msb := by
  intro l msb
  induction l with
  | nil => intro k h; simp at h
  | cons x r ih =>
    intro k h
    cases k with
    | zero =>
      rw [fb_cons, Nat.mul_zero, List.drop_zero, List.take_left' (fi_length _ _ _)]
      rfl
    | succ k =>
      have h' : k < r.length := by simpa using h
      rw [fb_cons, show 8 * (k + 1) = (fi x.toNat 8 msb).length + 8 * k by rw [fi_length]; omega, ← List.drop_drop, List.drop_left, ih k h']
      rfl
theorem by8_fb (l : List UInt8) (msb : Bool) : by8 (fb l msb) msb = l := by
  unfold by8
  rw [fb_length, Nat.mul_div_cancel_left _ (by omega)]
  apply List.ext_getElem
  · rw [byk_length]
  · intro i h1 h2
    simp only [byk, List.getElem_map, List.getElem_range]
    have h3 : i < l.length := by simpa [byk_length] using h1
    rw [fb_drop l msb i h3, numV_fi _ _ _ (UInt8.toNat_lt _)]
    simp

/-- Inverted bits. -/
def iv (l : List UInt8) : List UInt8 := l.map fun b => 97 - b
theorem iv_one {b : UInt8} (h : b.toNat = 48 ∨ b.toNat = 49) : (97 - b).toNat = 97 - b.toNat ∧ ((97 - b).toNat = 48 ∨ (97 - b).toNat = 49) ∧ 97 - (97 - b) = b := by
  rcases h with h | h
  · obtain rfl : b = 48 := UInt8.toNat_inj.1 h
    exact ⟨rfl, .inr rfl, rfl⟩
  · obtain rfl : b = 49 := UInt8.toNat_inj.1 h
    exact ⟨rfl, .inl rfl, rfl⟩
theorem iv_length (l : List UInt8) : (iv l).length = l.length := by simp [iv]
theorem iv_ok {l : List UInt8} (h : okB l = true) : okB (iv l) = true := by
  refine okB_of (by rw [iv_length]; exact okB_len h) fun b hb => ?_
  simp only [iv, List.mem_map] at hb
  obtain ⟨x, hx, rfl⟩ := hb
  exact (iv_one (okB_mem h hx)).2.1
theorem iv_iv {l : List UInt8} (h : okB l = true) : iv (iv l) = l := by
  unfold iv
  rw [List.map_map]
  conv => rhs; rw [← List.map_id l]
  exact List.map_congr_left fun b hb => (iv_one (okB_mem h hb)).2.2
theorem rev_ok {l : List UInt8} (h : okB l = true) : okB l.reverse = true :=
  okB_of (by rw [List.length_reverse]; exact okB_len h) fun b hb => okB_mem h (List.mem_reverse.1 hb)

/-- How many ones. -/
def on1 : List UInt8 → Nat
  | [] => 0
  | b :: r => (b.toNat - 48) + on1 r
theorem on1_snoc (l : List UInt8) (b : UInt8) : on1 (l ++ [b]) = on1 l + (b.toNat - 48) := by
  induction l with
  | nil => simp [on1]
  | cons x r ih => simp only [List.cons_append, on1, ih]; omega
theorem on1_le : ∀ (l : List UInt8), (∀ b ∈ l, b.toNat = 48 ∨ b.toNat = 49) → on1 l ≤ l.length := by
  intro l
  induction l with
  | nil => intro _; simp [on1]
  | cons x r ih =>
    intro h
    have h1 := ih fun b hb => h b (List.mem_cons_of_mem _ hb)
    have h2 := h x List.mem_cons_self
    simp only [on1, List.length_cons]; omega
theorem on1_iv : ∀ (l : List UInt8), (∀ b ∈ l, b.toNat = 48 ∨ b.toNat = 49) → on1 l + on1 (iv l) = l.length := by
  intro l
  induction l with
  | nil => intro _; rfl
  | cons x r ih =>
    intro h
    have h1 := ih fun b hb => h b (List.mem_cons_of_mem _ hb)
    have h2 := h x List.mem_cons_self
    have h3 := (iv_one h2).1
    have e : iv (x :: r) = (97 - x) :: iv r := rfl
    rw [e]
    simp only [on1, List.length_cons, h3]; omega

/-- How many characters c stand first. -/
def rl (c : UInt8) : List UInt8 → Nat
  | [] => 0
  | b :: r => if b = c then rl c r + 1 else 0
theorem rl_le (c : UInt8) (l : List UInt8) : rl c l ≤ l.length := by
  induction l with
  | nil => simp [rl]
  | cons x r ih => simp only [rl, List.length_cons]; split <;> omega
theorem rl_eq {c : UInt8} {b : UInt8} (r : List UInt8) (h : b = c) : rl c (b :: r) = rl c r + 1 := by rw [rl, if_pos h]
theorem rl_ne {c : UInt8} {b : UInt8} (r : List UInt8) (h : b ≠ c) : rl c (b :: r) = 0 := by rw [rl, if_neg h]
theorem rl_same : ∀ (c : UInt8) (l : List UInt8) (j : Nat) (_ : j < rl c l) (hj : j < l.length), l[j] = c := by
  intro c l
  induction l with
  | nil => intro j _ hj; simp at hj
  | cons x r ih =>
    intro j h hj
    by_cases hx : x = c
    · cases j with
      | zero => exact hx
      | succ j => exact ih j (by rw [rl_eq r hx] at h; omega) (by simpa using hj)
    · rw [rl_ne r hx] at h; omega
theorem rl_next : ∀ (c : UInt8) (l : List UInt8) (hj : rl c l < l.length), l[rl c l] ≠ c := by
  intro c l
  induction l with
  | nil => intro hj; simp [rl] at hj
  | cons x r ih =>
    intro hj
    by_cases hx : x = c
    · have e := rl_eq r hx
      have hj' : rl c r < r.length := by rw [e] at hj; simpa using hj
      have := ih hj'
      simp only [e, List.getElem_cons_succ]
      exact this
    · have e := rl_ne r hx
      simp only [e, List.getElem_cons_zero]
      exact hx

/-- The run at an index (inside the list). -/
def rn (l : List UInt8) (a : Nat) : Nat := match l.drop a with
  | [] => 0
  | c :: r => rl c (c :: r)
theorem rn_at {l : List UInt8} {a : Nat} (h : a < l.length) : rn l a = rl l[a] (l.drop a) := by
  unfold rn
  rw [List.drop_eq_getElem_cons h]
theorem rn_facts {l : List UInt8} {a : Nat} (h : a < l.length) : 1 ≤ rn l a ∧ a + rn l a ≤ l.length ∧ (∀ j (_ : j < rn l a) (hj : a + j < l.length), l[a + j] = l[a]) ∧ ∀ (hj : a + rn l a < l.length), l[a + rn l a] ≠ l[a] := by
  have h1 := rl_le l[a] (l.drop a)
  have h2 := rl_same l[a] (l.drop a)
  have h3 := rl_next l[a] (l.drop a)
  rw [← rn_at h] at h1 h2 h3
  rw [List.length_drop] at h1
  refine ⟨?_, by omega, fun j hj hj' => ?_, fun hj => ?_⟩
  · rw [rn_at h, List.drop_eq_getElem_cons h, rl_eq _ rfl]; omega
  · have := h2 j hj (by rw [List.length_drop]; omega)
    rwa [List.getElem_drop] at this
  · have := h3 (by rw [List.length_drop]; omega)
    rwa [List.getElem_drop] at this

end Sd
end Go.Proofs.YtillcmddbjhepaaGreatDoor

namespace Go.Proofs.YtillcmddbjhepaaGreatDoor
namespace Sd

/-- What has been read of l behind k characters. -/
def numK (l : List UInt8) (msb : Bool) (k : Nat) : Nat := if msb then 2 ^ (l.length - k) * vl (l.take k).reverse else vl (l.take k)
theorem numK_zero (l : List UInt8) (msb : Bool) : numK l msb 0 = 0 := by
  unfold numK; split <;> simp [vl]
theorem numK_all (l : List UInt8) (msb : Bool) : numK l msb l.length = numV l msb := by
  unfold numK numV; split <;> simp
theorem take_next (l : List UInt8) (k : Nat) (h : k < l.length) : l.take (k + 1) = l.take k ++ [l[k]] := List.take_succ_eq_append_getElem h
theorem numK_step (l : List UInt8) (msb : Bool) (k : Nat) (h : k < l.length) : numK l msb (k + 1) = numK l msb k + (l[k].toNat - 48) * 2 ^ pl l.length msb k := by
  cases msb
  · show vl (l.take (k + 1)) = vl (l.take k) + (l[k].toNat - 48) * 2 ^ k
    rw [take_next l k h, vl_snoc, List.length_take_of_le (by omega), Nat.mul_comm]
  · show 2 ^ (l.length - (k + 1)) * vl (l.take (k + 1)).reverse = 2 ^ (l.length - k) * vl (l.take k).reverse + (l[k].toNat - 48) * 2 ^ (l.length - 1 - k)
    rw [take_next l k h, List.reverse_append, List.reverse_singleton, List.singleton_append, vl_cons]
    have e1 : l.length - k = (l.length - (k + 1)) + 1 := by omega
    have e2 : l.length - 1 - k = l.length - (k + 1) := by omega
    rw [e1, e2, Nat.pow_succ, Nat.mul_add, Nat.mul_comm (l[k].toNat - 48), Nat.mul_assoc]
    omega
theorem numK_lt (l : List UInt8) (msb : Bool) (k : Nat) (h : k ≤ l.length) (hb : ∀ b ∈ l, b.toNat = 48 ∨ b.toNat = 49) : numK l msb k < 2 ^ l.length := by
  cases msb
  · show vl (l.take k) < _
    have := vl_lt (l.take k) fun b hb' => hb b (List.mem_of_mem_take hb')
    rw [List.length_take_of_le h] at this
    exact Nat.lt_of_lt_of_le this (Nat.pow_le_pow_right (by omega) h)
  · show 2 ^ (l.length - k) * vl (l.take k).reverse < _
    have := vl_lt (l.take k).reverse fun b hb' => hb b (List.mem_of_mem_take (List.mem_reverse.1 hb'))
    rw [List.length_reverse, List.length_take_of_le h] at this
    have e : 2 ^ l.length = 2 ^ (l.length - k) * 2 ^ k := by rw [← Nat.pow_add]; congr 1; omega
    rw [e]
    exact Nat.mul_lt_mul_of_pos_left this (Nat.two_pow_pos _)
/-- The bits do not meet. -/
theorem numK_or (l : List UInt8) (msb : Bool) (k : Nat) (h : k < l.length) (hb : ∀ b ∈ l, b.toNat = 48 ∨ b.toNat = 49) : numK l msb k ||| (l[k].toNat - 48) * 2 ^ pl l.length msb k = numK l msb (k + 1) := by
  rw [numK_step l msb k h]
  have hd : l[k].toNat - 48 < 2 := by have := hb l[k] (List.getElem_mem h); omega
  cases msb
  · show vl (l.take k) ||| (l[k].toNat - 48) * 2 ^ k = vl (l.take k) + (l[k].toNat - 48) * 2 ^ k
    have := vl_lt (l.take k) fun b hb' => hb b (List.mem_of_mem_take hb')
    rw [List.length_take_of_le (by omega)] at this
    rw [Nat.or_comm, Nat.add_comm]
    exact nat_join k _ _ (Nat.mul_mod_left _ _) this
  · show 2 ^ (l.length - k) * vl (l.take k).reverse ||| (l[k].toNat - 48) * 2 ^ (l.length - 1 - k) = 2 ^ (l.length - k) * vl (l.take k).reverse + (l[k].toNat - 48) * 2 ^ (l.length - 1 - k)
    refine nat_join (l.length - k) _ _ (Nat.mul_mod_right _ _) ?_
    have e1 : l.length - k = (l.length - 1 - k) + 1 := by omega
    rw [e1, Nat.pow_succ, Nat.mul_comm]
    exact Nat.mul_lt_mul_of_pos_left hd (Nat.two_pow_pos _)

/-- '|' of numbers that are not negative. -/
theorem or_i64 (a b : Nat) (ha : a < 9223372036854775808) (hb : b < 9223372036854775808) : bits .or .i64 (a : Int) (b : Int) = ((a ||| b : Nat) : Int) := by
  show IntKind.i64.wrap ((BitVec.ofInt 64 a ||| BitVec.ofInt 64 b).toNat : Int) = _
  have e1 : (BitVec.ofInt 64 (a : Int)).toNat = a := by rw [BitVec.toNat_ofInt]; omega
  have e2 : (BitVec.ofInt 64 (b : Int)).toNat = b := by rw [BitVec.toNat_ofInt]; omega
  have h3 : a ||| b < 2 ^ 63 := Nat.or_lt_two_pow (by omega) (by omega)
  rw [BitVec.toNat_or, e1, e2, IntKind.wrap_i64]
  omega

/-- The number, most significant bit first, of the first k characters. -/
theorem horner (l : List UInt8) (k : Nat) (h : k < l.length) : vl (l.take (k + 1)).reverse = 2 * vl (l.take k).reverse + (l[k].toNat - 48) := by
  rw [take_next l k h, List.reverse_append, List.reverse_singleton, List.singleton_append, vl_cons]
  omega

end Sd
end Go.Proofs.YtillcmddbjhepaaGreatDoor

namespace Go.Proofs.YtillcmddbjhepaaGreatDoor
namespace Sd

/-- One bit into the register. -/
def stp (W P r b : Nat) : Nat := if r / 2 ^ (W - 1) = b then 2 * r % 2 ^ W else (2 * r % 2 ^ W) ^^^ P
/-- Bits into the register. -/
def rgn (W P : Nat) : Nat → List Nat → Nat
  | r, [] => r
  | r, b :: l => rgn W P (stp W P r b) l
def bs (l : List UInt8) : List Nat := l.map fun b => b.toNat - 48
/-- The lowest k bits of n in reverse order. -/
def rv (n : Nat) : Nat → Nat
  | 0 => 0
  | k + 1 => 2 * rv n k + n / 2 ^ k % 2
def rvI (n W : Nat) (R : Bool) : Nat := if R then rv n W else n
/-- The CRC. -/
def cr (W P I X : Nat) (R : Bool) (l : List UInt8) : Nat := rvI (rgn W P I (bs l)) W R ^^^ X

theorem rgn_nil (W P r : Nat) : rgn W P r [] = r := rfl
theorem rgn_cons (W P r b : Nat) (l : List Nat) : rgn W P r (b :: l) = rgn W P (stp W P r b) l := rfl
theorem rgn_append (W P : Nat) : ∀ (l m : List Nat) (r : Nat), rgn W P r (l ++ m) = rgn W P (rgn W P r l) m
  | [], _, _ => rfl
  | b :: l, m, r => by rw [List.cons_append, rgn_cons, rgn_cons, rgn_append W P l m]
theorem bs_append (l m : List UInt8) : bs (l ++ m) = bs l ++ bs m := by simp [bs]
theorem bs_length (l : List UInt8) : (bs l).length = l.length := by simp [bs]
theorem bs_bits {l : List UInt8} (h : ∀ b ∈ l, b.toNat = 48 ∨ b.toNat = 49) : ∀ b ∈ bs l, b < 2 := by
  intro b hb
  simp only [bs, List.mem_map] at hb
  obtain ⟨x, hx, rfl⟩ := hb
  have := h x hx; omega

theorem stp_lt {W P r b : Nat} (hP : P < 2 ^ W) : stp W P r b < 2 ^ W := by
  have h := Nat.mod_lt (2 * r) (Nat.two_pow_pos W)
  unfold stp; split
  · exact h
  · exact Nat.xor_lt_two_pow h hP
theorem rgn_lt {W P : Nat} (hP : P < 2 ^ W) : ∀ (l : List Nat) (r : Nat), r < 2 ^ W → rgn W P r l < 2 ^ W
  | [], _, h => h
  | _ :: l, _, _ => rgn_lt hP l _ (stp_lt hP)
theorem rv_lt (n : Nat) : ∀ k, rv n k < 2 ^ k
  | 0 => by simp [rv]
  | k + 1 => by have := rv_lt n k; rw [Nat.pow_succ]; simp only [rv]; omega
theorem rvI_lt {n W : Nat} (R : Bool) (h : n < 2 ^ W) : rvI n W R < 2 ^ W := by
  unfold rvI; split
  · exact rv_lt n W
  · exact h
theorem cr_lt {W P I X : Nat} {R : Bool} (l : List UInt8) (hP : P < 2 ^ W) (hI : I < 2 ^ W) (hX : X < 2 ^ W) : cr W P I X R l < 2 ^ W :=
  Nat.xor_lt_two_pow (rvI_lt R (rgn_lt hP _ _ hI)) hX

/-- The value of the bits of a number, turned. -/
theorem vl_rv (n : Nat) : ∀ k, vl (ab n k false k).reverse = rv n k := by
  have h : ∀ w k, vl (ab n w false k).reverse = rv n k := by
    intro w k
    induction k with
    | zero => rfl
    | succ k ih =>
      rw [ab_succ, List.reverse_append, List.reverse_singleton, List.singleton_append, vl_cons, ih]
      have h1 := bc_val n k
      have e : (n : Int) / 2 ^ k % 2 = ((n / 2 ^ k % 2 : Nat) : Int) := by simp
      rw [e] at h1
      have : (bc n (pl w false k)).toNat - 48 = n / 2 ^ k % 2 := by
        show (bc n k).toNat - 48 = _
        omega
      rw [this, rv]; omega
  exact fun k => h k k
theorem numV_rv (n W : Nat) : numV (fi n W true) false = rv n W := by
  show vl (fi n W true) = _
  rw [← fi_turn']
  exact vl_rv n W

/-! Exclusive or. -/
theorem two_xor (a b : Nat) : 2 * (a ^^^ b) = (2 * a) ^^^ (2 * b) := by
  have h := Nat.shiftLeft_xor_distrib (a := a) (b := b) (i := 1)
  simp only [Nat.shiftLeft_eq, Nat.pow_one] at h
  rw [Nat.mul_comm 2, Nat.mul_comm 2, Nat.mul_comm 2]; exact h
theorem xor_odd {x p : Nat} (hx : x % 2 = 0) (hp : p % 2 = 1) : (x ^^^ p) % 2 = 1 := by
  have h := Nat.xor_mod_two_pow (a := x) (b := p) (n := 1)
  rw [Nat.pow_one, hx, hp] at h; exact h
theorem step_xor {W P r r' b b' : Nat} (hW : 1 ≤ W) (hr : r < 2 ^ W) (hr' : r' < 2 ^ W) (hb : b < 2) (hb' : b' < 2) :
    stp W P r b ^^^ stp W P r' b' = stp W P (r ^^^ r') (b ^^^ b') := by
  have e : 2 ^ W = 2 ^ (W - 1) * 2 := by rw [← Nat.pow_succ]; congr 1; omega
  have ht : r / 2 ^ (W - 1) < 2 := Nat.div_lt_of_lt_mul (by rw [← e]; exact hr)
  have ht' : r' / 2 ^ (W - 1) < 2 := Nat.div_lt_of_lt_mul (by rw [← e]; exact hr')
  have e1 : 2 * (r ^^^ r') % 2 ^ W = (2 * r % 2 ^ W) ^^^ (2 * r' % 2 ^ W) := by rw [two_xor, Nat.xor_mod_two_pow]
  have e2 : (r ^^^ r') / 2 ^ (W - 1) = r / 2 ^ (W - 1) ^^^ r' / 2 ^ (W - 1) := Nat.xor_div_two_pow
  unfold stp
  rw [e1, e2]
  generalize 2 * r % 2 ^ W = x
  generalize 2 * r' % 2 ^ W = y
  generalize r / 2 ^ (W - 1) = t at *
  generalize r' / 2 ^ (W - 1) = t' at *
  have c : (x ^^^ P) ^^^ (y ^^^ P) = x ^^^ y := by
    rw [Nat.xor_comm y P, Nat.xor_assoc, ← Nat.xor_assoc P P y, Nat.xor_self, Nat.zero_xor]
  have c1 : (x ^^^ P) ^^^ y = (x ^^^ y) ^^^ P := by rw [Nat.xor_assoc, Nat.xor_comm P y, ← Nat.xor_assoc]
  have c2 : x ^^^ (y ^^^ P) = (x ^^^ y) ^^^ P := by rw [Nat.xor_assoc]
  have k0 : ∀ {z : Nat}, z < 2 → z = 0 ∨ z = 1 := by omega
  rcases k0 hb with rfl | rfl <;> rcases k0 hb' with rfl | rfl <;> rcases k0 ht with rfl | rfl <;> rcases k0 ht' with rfl | rfl <;> simp [c, c1, c2]
def zx (l m : List Nat) : List Nat := List.zipWith (fun a b => a ^^^ b) l m
theorem zx_bits {l m : List Nat} (hl : ∀ b ∈ l, b < 2) (hm : ∀ b ∈ m, b < 2) : ∀ b ∈ zx l m, b < 2 := by
  intro b hb
  obtain ⟨i, hi, rfl⟩ := List.getElem_of_mem hb
  simp only [zx, List.getElem_zipWith]
  have h1 := hl _ (List.getElem_mem (by simp [zx] at hi; omega) : l[i]'(by simp [zx] at hi; omega) ∈ l)
  have h2 := hm _ (List.getElem_mem (by simp [zx] at hi; omega) : m[i]'(by simp [zx] at hi; omega) ∈ m)
  exact Nat.xor_lt_two_pow (n := 1) h1 h2
theorem rgn_xor {W P : Nat} (hW : 1 ≤ W) (hP : P < 2 ^ W) : ∀ (l m : List Nat) (r s : Nat), l.length = m.length → (∀ b ∈ l, b < 2) → (∀ b ∈ m, b < 2) → r < 2 ^ W → s < 2 ^ W →
    rgn W P r l ^^^ rgn W P s m = rgn W P (r ^^^ s) (zx l m)
  | [], [], _, _, _, _, _, _, _ => rfl
  | a :: l, b :: m, r, s, he, hl, hm, hr, hs => by
    have ih := rgn_xor hW hP l m (stp W P r a) (stp W P s b) (by simpa using he) (fun x hx => hl x (List.mem_cons_of_mem _ hx)) (fun x hx => hm x (List.mem_cons_of_mem _ hx)) (stp_lt hP) (stp_lt hP)
    rw [step_xor hW hr hs (hl a List.mem_cons_self) (hm b List.mem_cons_self)] at ih
    exact ih
  | [], _ :: _, _, _, he, _, _, _, _ => by simp at he
  | _ :: _, [], _, _, he, _, _, _, _ => by simp at he

/-! Detection. -/
theorem even_step {W P r b : Nat} (hW : 1 ≤ W) (hP : P % 2 = 1) (h : stp W P r b % 2 = 0) : r / 2 ^ (W - 1) = b ∧ stp W P r b = 2 * r % 2 ^ W := by
  have e : 2 ^ W = 2 * 2 ^ (W - 1) := by rw [Nat.mul_comm, ← Nat.pow_succ]; congr 1; omega
  have h2 : 2 * r % 2 ^ W % 2 = 0 := by rw [e, Nat.mul_mod_mul_left]; omega
  unfold stp at h ⊢
  split
  · rename_i hb; exact ⟨hb, rfl⟩
  · rename_i hb
    rw [if_neg hb, xor_odd h2 hP] at h
    omega
theorem low {W P : Nat} (hW : 1 ≤ W) (hP : P % 2 = 1) : ∀ (d : List Nat) (r k : Nat), d.length ≤ k → k ≤ W → rgn W P r d % 2 ^ k = 0 → r % 2 ^ (k - d.length) = 0
  | [], r, k, _, _, h => by simpa [rgn] using h
  | b :: d, r, k, hd, hk, h => by
    simp only [List.length_cons] at hd ⊢
    have ih := low hW hP d (stp W P r b) k (by omega) hk h
    obtain ⟨j, hj⟩ : ∃ j, k - d.length = j + 1 := ⟨k - d.length - 1, by omega⟩
    rw [hj] at ih
    have h2 : stp W P r b % 2 = 0 := by
      have : 2 ∣ stp W P r b := Nat.dvd_trans ⟨2 ^ j, by rw [Nat.pow_succ]; omega⟩ (Nat.dvd_of_mod_eq_zero ih)
      omega
    obtain ⟨_, hs⟩ := even_step hW hP h2
    rw [hs] at ih
    have e : k - (d.length + 1) = j := by omega
    rw [e]
    have hd1 : 2 ^ (j + 1) ∣ 2 ^ W := Nat.pow_dvd_pow 2 (by omega)
    have : 2 ^ (j + 1) ∣ 2 * r := (Nat.dvd_mod_iff hd1).1 (Nat.dvd_of_mod_eq_zero ih)
    rw [Nat.pow_succ, Nat.mul_comm] at this
    exact Nat.mod_eq_zero_of_dvd (Nat.dvd_of_mul_dvd_mul_left (by omega) this)
theorem stp_zero {W P b : Nat} (h : b = 0) : stp W P 0 b = 0 := by
  subst h; simp [stp]
theorem rgn_zeros {W P : Nat} : ∀ (l : List Nat), (∀ b ∈ l, b = 0) → rgn W P 0 l = 0
  | [], _ => rfl
  | b :: l, h => by rw [rgn_cons, stp_zero (h b List.mem_cons_self)]; exact rgn_zeros l fun x hx => h x (List.mem_cons_of_mem _ hx)
theorem back_zeros {W P : Nat} (hW : 1 ≤ W) (hP : P % 2 = 1) (hPl : P < 2 ^ W) : ∀ (l : List Nat) (r : Nat), r < 2 ^ W → (∀ b ∈ l, b = 0) → rgn W P r l = 0 → r = 0
  | [], _, _, _, h => h
  | b :: l, r, hr, hl, h => by
    have hs := back_zeros hW hP hPl l (stp W P r b) (stp_lt hPl) (fun x hx => hl x (List.mem_cons_of_mem _ hx)) h
    obtain ⟨ht, he⟩ := even_step hW hP (by rw [hs])
    rw [hl b List.mem_cons_self] at ht
    have e : 2 ^ W = 2 * 2 ^ (W - 1) := by rw [Nat.mul_comm, ← Nat.pow_succ]; congr 1; omega
    have h1 : r < 2 ^ (W - 1) := by
      rcases Nat.lt_or_ge r (2 ^ (W - 1)) with h | h
      · exact h
      · have := Nat.div_pos h (Nat.two_pow_pos _); omega
    rw [hs, Nat.mod_eq_of_lt (by omega)] at he
    omega
theorem burst {W P : Nat} (hW : 1 ≤ W) (hP : P % 2 = 1) : ∀ (d : List Nat), d.length ≤ W → rgn W P 0 d = 0 → ∀ b ∈ d, b = 0
  | [], _, _ => by simp
  | b :: d, hd, h => by
    simp only [List.length_cons] at hd
    have h1 := low hW hP d (stp W P 0 b) W (by omega) (Nat.le_refl _) (by rw [rgn_cons] at h; rw [h]; simp)
    obtain ⟨j, hj⟩ : ∃ j, W - d.length = j + 1 := ⟨W - d.length - 1, by omega⟩
    rw [hj] at h1
    have h2 : stp W P 0 b % 2 = 0 := by
      have : 2 ∣ stp W P 0 b := Nat.dvd_trans ⟨2 ^ j, by rw [Nat.pow_succ]; omega⟩ (Nat.dvd_of_mod_eq_zero h1)
      omega
    obtain ⟨ht, hs⟩ := even_step hW hP h2
    have hb : b = 0 := by rw [← ht]; simp
    rw [rgn_cons, stp_zero hb] at h
    intro x hx
    rcases List.mem_cons.1 hx with rfl | hx
    · exact hb
    · exact burst hW hP d (by omega) h x hx
theorem detect {W P : Nat} (hW : 1 ≤ W) (hP : P % 2 = 1) (hPl : P < 2 ^ W) (a d e : List Nat) (ha : ∀ b ∈ a, b = 0) (he : ∀ b ∈ e, b = 0) (hd : d.length ≤ W) (h : rgn W P 0 (a ++ d ++ e) = 0) : ∀ b ∈ d, b = 0 := by
  rw [rgn_append, rgn_append, rgn_zeros a ha] at h
  exact burst hW hP d hd (back_zeros hW hP hPl e _ (rgn_lt hPl d 0 (Nat.two_pow_pos W)) he h)

/-! Bits in reverse order are linear, and tell the number. -/
theorem rv_xor (a b : Nat) : ∀ k, rv (a ^^^ b) k = rv a k ^^^ rv b k
  | 0 => (Nat.xor_self 0).symm
  | k + 1 => by
    have ih := rv_xor a b k
    simp only [rv, ih]
    have e : (a ^^^ b) / 2 ^ k % 2 = (a / 2 ^ k % 2) ^^^ (b / 2 ^ k % 2) := by
      rw [Nat.xor_div_two_pow]
      exact Nat.xor_mod_two_pow (n := 1)
    rw [e]
    have hu : a / 2 ^ k % 2 < 2 := Nat.mod_lt _ (by omega)
    have hv : b / 2 ^ k % 2 < 2 := Nat.mod_lt _ (by omega)
    generalize a / 2 ^ k % 2 = u at *
    generalize b / 2 ^ k % 2 = v at *
    generalize rv a k = x
    generalize rv b k = y
    have hw : u ^^^ v < 2 := Nat.xor_lt_two_pow (n := 1) hu hv
    have d := Nat.xor_div_two_pow (a := 2 * x + u) (b := 2 * y + v) (n := 1)
    have m := Nat.xor_mod_two_pow (a := 2 * x + u) (b := 2 * y + v) (n := 1)
    rw [Nat.pow_one] at d m
    rw [show (2 * x + u) / 2 = x by omega, show (2 * y + v) / 2 = y by omega] at d
    rw [show (2 * x + u) % 2 = u by omega, show (2 * y + v) % 2 = v by omega] at m
    omega
theorem rvI_xor (a b W : Nat) (R : Bool) : rvI (a ^^^ b) W R = rvI a W R ^^^ rvI b W R := by
  unfold rvI; split
  · exact rv_xor a b W
  · rfl
theorem rv_inj (a b : Nat) : ∀ k, rv a k = rv b k → a % 2 ^ k = b % 2 ^ k
  | 0, _ => by simp [Nat.mod_one]
  | k + 1, h => by
    simp only [rv] at h
    have h1 : rv a k = rv b k := by omega
    have h2 : a / 2 ^ k % 2 = b / 2 ^ k % 2 := by omega
    rw [Nat.pow_succ, Nat.mod_mul, Nat.mod_mul, rv_inj a b k h1, h2]
theorem rvI_inj {a b W : Nat} (R : Bool) (ha : a < 2 ^ W) (hb : b < 2 ^ W) (h : rvI a W R = rvI b W R) : a = b := by
  cases R
  · exact h
  · have := rv_inj a b W h
    rwa [Nat.mod_eq_of_lt ha, Nat.mod_eq_of_lt hb] at this
theorem xor_right_inj {a b c : Nat} (h : a ^^^ c = b ^^^ c) : a = b := by
  have := congrArg (· ^^^ c) h
  simpa [Nat.xor_assoc] using this
theorem xor_zero_eq {a b : Nat} (h : a ^^^ b = 0) : a = b := by
  have : a ^^^ b = b ^^^ b := by rw [h, Nat.xor_self]
  exact xor_right_inj this

/-- P4.6: three sequences. -/
theorem cr_three {W P I X : Nat} {R : Bool} (hW : 1 ≤ W) (hP : P < 2 ^ W) (hI : I < 2 ^ W) {a b c : List UInt8} (hab : a.length = b.length) (hac : a.length = c.length) (ha : ∀ x ∈ a, x.toNat = 48 ∨ x.toNat = 49) (hb : ∀ x ∈ b, x.toNat = 48 ∨ x.toNat = 49) (hc : ∀ x ∈ c, x.toNat = 48 ∨ x.toNat = 49)
    {m : List UInt8} (hm : bs m = zx (zx (bs a) (bs b)) (bs c)) : cr W P I X R m = cr W P I X R a ^^^ cr W P I X R b ^^^ cr W P I X R c := by
  unfold cr
  rw [hm]
  have h1 := rgn_xor hW hP (bs a) (bs b) I I (by simp [bs_length, hab]) (bs_bits ha) (bs_bits hb) hI hI
  have h2 := rgn_xor hW hP (zx (bs a) (bs b)) (bs c) (I ^^^ I) I (by simp [zx, bs_length, ← hab, hac]) (zx_bits (bs_bits ha) (bs_bits hb)) (bs_bits hc) (by rw [Nat.xor_self]; exact Nat.two_pow_pos W) hI
  rw [← h1, Nat.xor_self, Nat.zero_xor] at h2
  rw [← h2, rvI_xor, rvI_xor]
  generalize rvI (rgn W P I (bs a)) W R = x
  generalize rvI (rgn W P I (bs b)) W R = y
  generalize rvI (rgn W P I (bs c)) W R = z
  rw [Nat.xor_comm y X, ← Nat.xor_assoc (x ^^^ X) X y, Nat.xor_assoc x X X, Nat.xor_self, Nat.xor_zero, Nat.xor_assoc (x ^^^ y) z X]

/-- P4.5: a difference within W bits. -/
theorem cr_burst {W P I X : Nat} {R : Bool} (hW : 1 ≤ W) (hP : P < 2 ^ W) (hPo : P % 2 = 1) (hI : I < 2 ^ W) {s t : List UInt8} (hl : s.length = t.length) (hs : ∀ x ∈ s, x.toNat = 48 ∨ x.toNat = 49) (ht : ∀ x ∈ t, x.toNat = 48 ∨ x.toNat = 49)
    (p : Nat) (hsame : ∀ j (h1 : j < s.length) (h2 : j < t.length), j < p ∨ p + W ≤ j → s[j] = t[j]) (h : cr W P I X R s = cr W P I X R t) : s = t := by
  have h0 : rgn W P I (bs s) = rgn W P I (bs t) := rvI_inj R (rgn_lt hP _ _ hI) (rgn_lt hP _ _ hI) (xor_right_inj h)
  have h1 := rgn_xor hW hP (bs s) (bs t) I I (by simp [bs_length, hl]) (bs_bits hs) (bs_bits ht) hI hI
  rw [h0, Nat.xor_self, Nat.xor_self] at h1
  have hzl : (zx (bs s) (bs t)).length = s.length := by simp [zx, bs_length, hl]
  have hz : ∀ j (hj : j < (zx (bs s) (bs t)).length) (g1 : j < s.length) (g2 : j < t.length), s[j] = t[j] → (zx (bs s) (bs t))[j] = 0 := by
    intro j hj g1 g2 e
    simp [zx, bs, e]
  have hz2 : ∀ j (hj : j < (zx (bs s) (bs t)).length) (g1 : j < s.length) (g2 : j < t.length), (zx (bs s) (bs t))[j] = 0 → s[j] = t[j] := by
    intro j hj g1 g2 e
    simp only [zx, bs, List.getElem_zipWith, List.getElem_map] at e
    have := xor_zero_eq e
    have a1 := hs _ (List.getElem_mem g1)
    have a2 := ht _ (List.getElem_mem g2)
    exact UInt8.toNat_inj.1 (by omega)
  generalize hZ : zx (bs s) (bs t) = Z at *
  have hsplit : Z = Z.take p ++ (Z.drop p).take W ++ (Z.drop p).drop W := by
    rw [List.append_assoc, List.take_append_drop, List.take_append_drop]
  rw [hsplit] at h1
  have hd := detect hW hPo hP (Z.take p) ((Z.drop p).take W) ((Z.drop p).drop W)
    (fun b hb => by
      obtain ⟨i, hi, rfl⟩ := List.getElem_of_mem hb
      rw [List.length_take] at hi
      rw [List.getElem_take]
      exact hz i (by omega) (by omega) (by omega) (hsame i (by omega) (by omega) (.inl (by omega))))
    (fun b hb => by
      obtain ⟨i, hi, rfl⟩ := List.getElem_of_mem hb
      simp only [List.length_drop] at hi
      simp only [List.getElem_drop]
      exact hz _ (by omega) (by omega) (by omega) (hsame _ (by omega) (by omega) (.inr (by omega))))
    (by rw [List.length_take]; omega) h1.symm
  apply List.ext_getElem hl
  intro j g1 g2
  rcases Nat.lt_or_ge j p with hp | hp
  · exact hsame j g1 g2 (.inl hp)
  · rcases Nat.lt_or_ge j (p + W) with hq | hq
    · refine hz2 j (by omega) g1 g2 (hd _ ?_)
      have e : Z[j]'(by omega) = ((Z.drop p).take W)[j - p]'(by rw [List.length_take, List.length_drop]; omega) := by
        simp only [List.getElem_take, List.getElem_drop]
        congr 1; omega
      rw [e]
      exact List.getElem_mem _
    · exact hsame j g1 g2 (.inr hq)

end Sd
end Go.Proofs.YtillcmddbjhepaaGreatDoor

namespace Go.Proofs.YtillcmddbjhepaaGreatDoor
namespace Sd

def sN : List UInt8 → Nat
  | [] => 0
  | b :: l => b.toNat + sN l
theorem sN_append (l m : List UInt8) : sN (l ++ m) = sN l + sN m := by
  induction l with
  | nil => simp [sN]
  | cons b l ih => simp only [List.cons_append, sN, ih]; omega
def xN : List UInt8 → Nat
  | [] => 0
  | b :: l => b.toNat ^^^ xN l
theorem xN_append (l m : List UInt8) : xN (l ++ m) = xN l ^^^ xN m := by
  induction l with
  | nil => simp [xN]
  | cons b l ih => simp only [List.cons_append, xN, ih, Nat.xor_assoc]
theorem xN_lt (l : List UInt8) : xN l < 256 := by
  induction l with
  | nil => simp [xN]
  | cons b l ih => exact Nat.xor_lt_two_pow (n := 8) (UInt8.toNat_lt b) ih
/-- The sum with carry. -/
def cN (n : Nat) : Nat := if n = 0 then 0 else (n - 1) % 255 + 1
theorem cN_le (n : Nat) : cN n ≤ 255 := by unfold cN; split <;> omega
theorem cN_add (n b : Nat) (hb : b ≤ 255) : cN (n + b) = if 255 < cN n + b then cN n + b - 255 else cN n + b := by
  unfold cN; split <;> split <;> split <;> omega
theorem cN_two (n m : Nat) : cN (n + m) = if 255 < cN n + cN m then cN n + cN m - 255 else cN n + cN m := by
  unfold cN; split <;> split <;> split <;> split <;> omega
/-- One byte more. -/
theorem sN_take (s : ByteArray) (k : Nat) (h : k < s.size) : sN (s.data.toList.take (k + 1)) = sN (s.data.toList.take k) + s[k].toNat := by
  rw [take_next _ k (by simpa using h), sN_append]
  show _ + (s[k].toNat + 0) = _
  omega
theorem xN_take (s : ByteArray) (k : Nat) (h : k < s.size) : xN (s.data.toList.take (k + 1)) = xN (s.data.toList.take k) ^^^ s[k].toNat := by
  rw [take_next _ k (by simpa using h), xN_append]
  show _ ^^^ (s[k].toNat ^^^ 0) = _
  rw [Nat.xor_zero]
theorem all_take (s : ByteArray) : s.data.toList.take s.size = s.data.toList := List.take_of_length_le (by simp)

/-- '^' of numbers that are not negative. -/
theorem xor_i64 (a b : Nat) (ha : a < 9223372036854775808) (hb : b < 9223372036854775808) : bits .xor .i64 (a : Int) (b : Int) = ((a ^^^ b : Nat) : Int) := by
  show IntKind.i64.wrap ((BitVec.ofInt 64 a ^^^ BitVec.ofInt 64 b).toNat : Int) = _
  have e1 : (BitVec.ofInt 64 (a : Int)).toNat = a := by rw [BitVec.toNat_ofInt]; omega
  have e2 : (BitVec.ofInt 64 (b : Int)).toNat = b := by rw [BitVec.toNat_ofInt]; omega
  have h3 : a ^^^ b < 2 ^ 63 := Nat.xor_lt_two_pow (by omega) (by omega)
  rw [BitVec.toNat_xor, e1, e2, IntKind.wrap_i64]
  omega
theorem xor_u8 (a b : Nat) (ha : a < 256) (hb : b < 256) : bits .xor .u8 (a : Int) (b : Int) = ((a ^^^ b : Nat) : Int) := by
  show IntKind.u8.wrap ((BitVec.ofInt 8 a ^^^ BitVec.ofInt 8 b).toNat : Int) = _
  have e1 : (BitVec.ofInt 8 (a : Int)).toNat = a := by rw [BitVec.toNat_ofInt]; omega
  have e2 : (BitVec.ofInt 8 (b : Int)).toNat = b := by rw [BitVec.toNat_ofInt]; omega
  have h3 : a ^^^ b < 2 ^ 8 := Nat.xor_lt_two_pow (by omega) (by omega)
  rw [BitVec.toNat_xor, e1, e2]
  have : ∀ x : Nat, x < 256 → IntKind.u8.wrap (x : Int) = x := by intro x hx; simp only [IntKind.wrap, IntKind.bits, IntKind.signed]; simp; omega
  exact this _ h3
/-- 'x & (2^W - 1)'. -/
theorem and_mask (x W : Nat) (hx : x < 9223372036854775808) (hW : W ≤ 62) : bits .and .i64 (x : Int) ((2 ^ W : Nat) - 1 : Int) = ((x % 2 ^ W : Nat) : Int) := by
  have h0 := Nat.two_pow_pos W
  have h2 : 2 ^ W ≤ 2 ^ 62 := Nat.pow_le_pow_right (by omega) hW
  have e0 : ((2 ^ W : Nat) - 1 : Int) = ((2 ^ W - 1 : Nat) : Int) := by omega
  rw [e0]
  show IntKind.i64.wrap ((BitVec.ofInt 64 x &&& BitVec.ofInt 64 ((2 ^ W - 1 : Nat) : Int)).toNat : Int) = _
  have e1 : (BitVec.ofInt 64 (x : Int)).toNat = x := by rw [BitVec.toNat_ofInt]; omega
  have e2 : (BitVec.ofInt 64 ((2 ^ W - 1 : Nat) : Int)).toNat = 2 ^ W - 1 := by rw [BitVec.toNat_ofInt]; omega
  have h3 : x % 2 ^ W ≤ x := Nat.mod_le _ _
  rw [BitVec.toNat_and, e1, e2, Nat.and_two_pow_sub_one_eq_mod, IntKind.wrap_i64]
  omega

end Sd
end Go.Proofs.YtillcmddbjhepaaGreatDoor
