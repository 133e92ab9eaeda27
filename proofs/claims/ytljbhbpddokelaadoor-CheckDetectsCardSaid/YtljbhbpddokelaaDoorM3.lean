/-
  Plain mathematics of the CRC: the register, its linearity, that a short burst changes it; bits in reverse order.
-/
import Derived.Test.YtljbhbpddokelaaDoorM1
namespace Go.Proofs.YtljbhbpddokelaaDoor

/-- One bit into the register. -/
def stp (W P r b : Nat) : Nat := if r / 2 ^ (W - 1) = b then 2 * r % 2 ^ W else (2 * r % 2 ^ W) ^^^ P
/-- Bits into the register. -/
def rgn (W P : Nat) : Nat → List Nat → Nat
  | r, [] => r
  | r, b :: l => rgn W P (stp W P r b) l
def bs (l : List UInt8) : List Nat := l.map fun b => b.toNat - 48
/-- The lowest k bits of n in reverse order. -/
def rv (n : Nat) : Nat → Nat
  | 0 => 0
  | k + 1 => 2 * rv n k + n / 2 ^ k % 2
def rvI (n W : Nat) (R : Bool) : Nat := if R then rv n W else n
/-- The CRC. -/
def cr (W P I X : Nat) (R : Bool) (l : List UInt8) : Nat := rvI (rgn W P I (bs l)) W R ^^^ X

theorem rgn_nil (W P r : Nat) : rgn W P r [] = r := rfl
theorem rgn_cons (W P r b : Nat) (l : List Nat) : rgn W P r (b :: l) = rgn W P (stp W P r b) l := rfl
theorem rgn_append (W P : Nat) : ∀ (l m : List Nat) (r : Nat), rgn W P r (l ++ m) = rgn W P (rgn W P r l) m
  | [], _, _ => rfl
  | b :: l, m, r => by rw [List.cons_append, rgn_cons, rgn_cons, rgn_append W P l m]
theorem bs_append (l m : List UInt8) : bs (l ++ m) = bs l ++ bs m := by simp [bs]
theorem bs_length (l : List UInt8) : (bs l).length = l.length := by simp [bs]
theorem bs_bits {l : List UInt8} (h : ∀ b ∈ l, b.toNat = 48 ∨ b.toNat = 49) : ∀ b ∈ bs l, b < 2 := by
  intro b hb
  simp only [bs, List.mem_map] at hb
  obtain ⟨x, hx, rfl⟩ := hb
  have := h x hx; omega

theorem stp_lt {W P r b : Nat} (hP : P < 2 ^ W) : stp W P r b < 2 ^ W := by
  have h := Nat.mod_lt (2 * r) (Nat.two_pow_pos W)
  unfold stp; split
  · exact h
  · exact Nat.xor_lt_two_pow h hP
theorem rgn_lt {W P : Nat} (hP : P < 2 ^ W) : ∀ (l : List Nat) (r : Nat), r < 2 ^ W → rgn W P r l < 2 ^ W
  | [], _, h => h
  | _ :: l, _, _ => rgn_lt hP l _ (stp_lt hP)
theorem rv_lt (n : Nat) : ∀ k, rv n k < 2 ^ k
  | 0 => by simp [rv]
  | k + 1 => by have := rv_lt n k; rw [Nat.pow_succ]; simp only [rv]; omega
theorem rvI_lt {n W : Nat} (R : Bool) (h : n < 2 ^ W) : rvI n W R < 2 ^ W := by
  unfold rvI; split
  · exact rv_lt n W
  · exact h
theorem cr_lt {W P I X : Nat} {R : Bool} (l : List UInt8) (hP : P < 2 ^ W) (hI : I < 2 ^ W) (hX : X < 2 ^ W) : cr W P I X R l < 2 ^ W :=
  Nat.xor_lt_two_pow (rvI_lt R (rgn_lt hP _ _ hI)) hX

/-- The value of the bits of a number, turned. -/
theorem vl_rv (n : Nat) : ∀ k, vl (ab n k false k).reverse = rv n k := by
  have h : ∀ w k, vl (ab n w false k).reverse = rv n k := by
    intro w k
    induction k with
    | zero => rfl
    | succ k ih =>
      rw [ab_succ, List.reverse_append, List.reverse_singleton, List.singleton_append, vl_cons, ih]
      have h1 := bc_val n k
      have e : (n : Int) / 2 ^ k % 2 = ((n / 2 ^ k % 2 : Nat) : Int) := by simp
      rw [e] at h1
      have : (bc n (pl w false k)).toNat - 48 = n / 2 ^ k % 2 := by
        show (bc n k).toNat - 48 = _
        omega
      rw [this, rv]; omega
  exact fun k => h k k
theorem numV_rv (n W : Nat) : numV (fi n W true) false = rv n W := by
  show vl (fi n W true) = _
  rw [← fi_turn']
  exact vl_rv n W

/-! Exclusive or. -/
theorem two_xor (a b : Nat) : 2 * (a ^^^ b) = (2 * a) ^^^ (2 * b) := by
  have h := Nat.shiftLeft_xor_distrib (a := a) (b := b) (i := 1)
  simp only [Nat.shiftLeft_eq, Nat.pow_one] at h
  rw [Nat.mul_comm 2, Nat.mul_comm 2, Nat.mul_comm 2]; exact h
theorem xor_odd {x p : Nat} (hx : x % 2 = 0) (hp : p % 2 = 1) : (x ^^^ p) % 2 = 1 := by
  have h := Nat.xor_mod_two_pow (a := x) (b := p) (n := 1)
  rw [Nat.pow_one, hx, hp] at h; exact h
theorem step_xor {W P r r' b b' : Nat} (hW : 1 ≤ W) (hr : r < 2 ^ W) (hr' : r' < 2 ^ W) (hb : b < 2) (hb' : b' < 2) :
    stp W P r b ^^^ stp W P r' b' = stp W P (r ^^^ r') (b ^^^ b') := by
  have e : 2 ^ W = 2 ^ (W - 1) * 2 := by rw [← Nat.pow_succ]; congr 1; omega
  have ht : r / 2 ^ (W - 1) < 2 := Nat.div_lt_of_lt_mul (by rw [← e]; exact hr)
  have ht' : r' / 2 ^ (W - 1) < 2 := Nat.div_lt_of_lt_mul (by rw [← e]; exact hr')
  have e1 : 2 * (r ^^^ r') % 2 ^ W = (2 * r % 2 ^ W) ^^^ (2 * r' % 2 ^ W) := by rw [two_xor, Nat.xor_mod_two_pow]
  have e2 : (r ^^^ r') / 2 ^ (W - 1) = r / 2 ^ (W - 1) ^^^ r' / 2 ^ (W - 1) := Nat.xor_div_two_pow
  unfold stp
  rw [e1, e2]
  generalize 2 * r % 2 ^ W = x
  generalize 2 * r' % 2 ^ W = y
  generalize r / 2 ^ (W - 1) = t at *
  generalize r' / 2 ^ (W - 1) = t' at *
  have c : (x ^^^ P) ^^^ (y ^^^ P) = x ^^^ y := by
    rw [Nat.xor_comm y P, Nat.xor_assoc, ← Nat.xor_assoc P P y, Nat.xor_self, Nat.zero_xor]
  have c1 : (x ^^^ P) ^^^ y = (x ^^^ y) ^^^ P := by rw [Nat.xor_assoc, Nat.xor_comm P y, ← Nat.xor_assoc]
  have c2 : x ^^^ (y ^^^ P) = (x ^^^ y) ^^^ P := by rw [Nat.xor_assoc]
  have k0 : ∀ {z : Nat}, z < 2 → z = 0 ∨ z = 1 := by omega
  rcases k0 hb with rfl | rfl <;> rcases k0 hb' with rfl | rfl <;> rcases k0 ht with rfl | rfl <;> rcases k0 ht' with rfl | rfl <;> simp [c, c1, c2]
def zx (l m : List Nat) : List Nat := List.zipWith (fun a b => a ^^^ b) l m
theorem zx_bits {l m : List Nat} (hl : ∀ b ∈ l, b < 2) (hm : ∀ b ∈ m, b < 2) : ∀ b ∈ zx l m, b < 2 := by
  intro b hb
  obtain ⟨i, hi, rfl⟩ := List.getElem_of_mem hb
  simp only [zx, List.getElem_zipWith]
  have h1 := hl _ (List.getElem_mem (by simp [zx] at hi; omega) : l[i]'(by simp [zx] at hi; omega) ∈ l)
  have h2 := hm _ (List.getElem_mem (by simp [zx] at hi; omega) : m[i]'(by simp [zx] at hi; omega) ∈ m)
  exact Nat.xor_lt_two_pow (n := 1) h1 h2
theorem rgn_xor {W P : Nat} (hW : 1 ≤ W) (hP : P < 2 ^ W) : ∀ (l m : List Nat) (r s : Nat), l.length = m.length → (∀ b ∈ l, b < 2) → (∀ b ∈ m, b < 2) → r < 2 ^ W → s < 2 ^ W →
    rgn W P r l ^^^ rgn W P s m = rgn W P (r ^^^ s) (zx l m)
  | [], [], _, _, _, _, _, _, _ => rfl
  | a :: l, b :: m, r, s, he, hl, hm, hr, hs => by
    have ih := rgn_xor hW hP l m (stp W P r a) (stp W P s b) (by simpa using he) (fun x hx => hl x (List.mem_cons_of_mem _ hx)) (fun x hx => hm x (List.mem_cons_of_mem _ hx)) (stp_lt hP) (stp_lt hP)
    rw [step_xor hW hr hs (hl a List.mem_cons_self) (hm b List.mem_cons_self)] at ih
    exact ih
  | [], _ :: _, _, _, he, _, _, _, _ => by simp at he
  | _ :: _, [], _, _, he, _, _, _, _ => by simp at he

/-! Detection. -/
theorem even_step {W P r b : Nat} (hW : 1 ≤ W) (hP : P % 2 = 1) (h : stp W P r b % 2 = 0) : r / 2 ^ (W - 1) = b ∧ stp W P r b = 2 * r % 2 ^ W := by
  have e : 2 ^ W = 2 * 2 ^ (W - 1) := by rw [Nat.mul_comm, ← Nat.pow_succ]; congr 1; omega
  have h2 : 2 * r % 2 ^ W % 2 = 0 := by rw [e, Nat.mul_mod_mul_left]; omega
  unfold stp at h ⊢
  split
  · rename_i hb; exact ⟨hb, rfl⟩
  · rename_i hb
    rw [if_neg hb, xor_odd h2 hP] at h
    omega
theorem low {W P : Nat} (hW : 1 ≤ W) (hP : P % 2 = 1) : ∀ (d : List Nat) (r k : Nat), d.length ≤ k → k ≤ W → rgn W P r d % 2 ^ k = 0 → r % 2 ^ (k - d.length) = 0
  | [], r, k, _, _, h => by simpa [rgn] using h
  | b :: d, r, k, hd, hk, h => by
    simp only [List.length_cons] at hd ⊢
    have ih := low hW hP d (stp W P r b) k (by omega) hk h
    obtain ⟨j, hj⟩ : ∃ j, k - d.length = j + 1 := ⟨k - d.length - 1, by omega⟩
    rw [hj] at ih
    have h2 : stp W P r b % 2 = 0 := by
      have : 2 ∣ stp W P r b := Nat.dvd_trans ⟨2 ^ j, by rw [Nat.pow_succ]; omega⟩ (Nat.dvd_of_mod_eq_zero ih)
      omega
    obtain ⟨_, hs⟩ := even_step hW hP h2
    rw [hs] at ih
    have e : k - (d.length + 1) = j := by omega
    rw [e]
    have hd1 : 2 ^ (j + 1) ∣ 2 ^ W := Nat.pow_dvd_pow 2 (by omega)
    have : 2 ^ (j + 1) ∣ 2 * r := (Nat.dvd_mod_iff hd1).1 (Nat.dvd_of_mod_eq_zero ih)
    rw [Nat.pow_succ, Nat.mul_comm] at this
    exact Nat.mod_eq_zero_of_dvd (Nat.dvd_of_mul_dvd_mul_left (by omega) this)
theorem stp_zero {W P b : Nat} (h : b = 0) : stp W P 0 b = 0 := by
  subst h; simp [stp]
theorem rgn_zeros {W P : Nat} : ∀ (l : List Nat), (∀ b ∈ l, b = 0) → rgn W P 0 l = 0
  | [], _ => rfl
  | b :: l, h => by rw [rgn_cons, stp_zero (h b List.mem_cons_self)]; exact rgn_zeros l fun x hx => h x (List.mem_cons_of_mem _ hx)
theorem back_zeros {W P : Nat} (hW : 1 ≤ W) (hP : P % 2 = 1) (hPl : P < 2 ^ W) : ∀ (l : List Nat) (r : Nat), r < 2 ^ W → (∀ b ∈ l, b = 0) → rgn W P r l = 0 → r = 0
  | [], _, _, _, h => h
  | b :: l, r, hr, hl, h => by
    have hs := back_zeros hW hP hPl l (stp W P r b) (stp_lt hPl) (fun x hx => hl x (List.mem_cons_of_mem _ hx)) h
    obtain ⟨ht, he⟩ := even_step hW hP (by rw [hs])
    rw [hl b List.mem_cons_self] at ht
    have e : 2 ^ W = 2 * 2 ^ (W - 1) := by rw [Nat.mul_comm, ← Nat.pow_succ]; congr 1; omega
    have h1 : r < 2 ^ (W - 1) := by
      rcases Nat.lt_or_ge r (2 ^ (W - 1)) with h | h
      · exact h
      · have := Nat.div_pos h (Nat.two_pow_pos _); omega
    rw [hs, Nat.mod_eq_of_lt (by omega)] at he
    omega
theorem burst {W P : Nat} (hW : 1 ≤ W) (hP : P % 2 = 1) : ∀ (d : List Nat), d.length ≤ W → rgn W P 0 d = 0 → ∀ b ∈ d, b = 0
  | [], _, _ => by simp
  | b :: d, hd, h => by
    simp only [List.length_cons] at hd
    have h1 := low hW hP d (stp W P 0 b) W (by omega) (Nat.le_refl _) (by rw [rgn_cons] at h; rw [h]; simp)
    obtain ⟨j, hj⟩ : ∃ j, W - d.length = j + 1 := ⟨W - d.length - 1, by omega⟩
    rw [hj] at h1
    have h2 : stp W P 0 b % 2 = 0 := by
      have : 2 ∣ stp W P 0 b := Nat.dvd_trans ⟨2 ^ j, by rw [Nat.pow_succ]; omega⟩ (Nat.dvd_of_mod_eq_zero h1)
      omega
    obtain ⟨ht, hs⟩ := even_step hW hP h2
    have hb : b = 0 := by rw [← ht]; simp
    rw [rgn_cons, stp_zero hb] at h
    intro x hx
    rcases List.mem_cons.1 hx with rfl | hx
    · exact hb
    · exact burst hW hP d (by omega) h x hx
theorem detect {W P : Nat} (hW : 1 ≤ W) (hP : P % 2 = 1) (hPl : P < 2 ^ W) (a d e : List Nat) (ha : ∀ b ∈ a, b = 0) (he : ∀ b ∈ e, b = 0) (hd : d.length ≤ W) (h : rgn W P 0 (a ++ d ++ e) = 0) : ∀ b ∈ d, b = 0 := by
  rw [rgn_append, rgn_append, rgn_zeros a ha] at h
  exact burst hW hP d hd (back_zeros hW hP hPl e _ (rgn_lt hPl d 0 (Nat.two_pow_pos W)) he h)

/-! Bits in reverse order are linear, and tell the number. -/
theorem rv_xor (a b : Nat) : ∀ k, rv (a ^^^ b) k = rv a k ^^^ rv b k
  | 0 => (Nat.xor_self 0).symm
  | k + 1 => by
    have ih := rv_xor a b k
    simp only [rv, ih]
    have e : (a ^^^ b) / 2 ^ k % 2 = (a / 2 ^ k % 2) ^^^ (b / 2 ^ k % 2) := by
      rw [Nat.xor_div_two_pow]
      exact Nat.xor_mod_two_pow (n := 1)
    rw [e]
    have hu : a / 2 ^ k % 2 < 2 := Nat.mod_lt _ (by omega)
    have hv : b / 2 ^ k % 2 < 2 := Nat.mod_lt _ (by omega)
    generalize a / 2 ^ k % 2 = u at *
    generalize b / 2 ^ k % 2 = v at *
    generalize rv a k = x
    generalize rv b k = y
    have hw : u ^^^ v < 2 := Nat.xor_lt_two_pow (n := 1) hu hv
    have d := Nat.xor_div_two_pow (a := 2 * x + u) (b := 2 * y + v) (n := 1)
    have m := Nat.xor_mod_two_pow (a := 2 * x + u) (b := 2 * y + v) (n := 1)
    rw [Nat.pow_one] at d m
    rw [show (2 * x + u) / 2 = x by omega, show (2 * y + v) / 2 = y by omega] at d
    rw [show (2 * x + u) % 2 = u by omega, show (2 * y + v) % 2 = v by omega] at m
    omega
theorem rvI_xor (a b W : Nat) (R : Bool) : rvI (a ^^^ b) W R = rvI a W R ^^^ rvI b W R := by
  unfold rvI; split
  · exact rv_xor a b W
  · rfl
theorem rv_inj (a b : Nat) : ∀ k, rv a k = rv b k → a % 2 ^ k = b % 2 ^ k
  | 0, _ => by simp [Nat.mod_one]
  | k + 1, h => by
    simp only [rv] at h
    have h1 : rv a k = rv b k := by omega
    have h2 : a / 2 ^ k % 2 = b / 2 ^ k % 2 := by omega
    rw [Nat.pow_succ, Nat.mod_mul, Nat.mod_mul, rv_inj a b k h1, h2]
theorem rvI_inj {a b W : Nat} (R : Bool) (ha : a < 2 ^ W) (hb : b < 2 ^ W) (h : rvI a W R = rvI b W R) : a = b := by
  cases R
  · exact h
  · have := rv_inj a b W h
    rwa [Nat.mod_eq_of_lt ha, Nat.mod_eq_of_lt hb] at this
theorem xor_right_inj {a b c : Nat} (h : a ^^^ c = b ^^^ c) : a = b := by
  have := congrArg (· ^^^ c) h
  simpa [Nat.xor_assoc] using this
theorem xor_zero_eq {a b : Nat} (h : a ^^^ b = 0) : a = b := by
  have : a ^^^ b = b ^^^ b := by rw [h, Nat.xor_self]
  exact xor_right_inj this

/-- P4.6: three sequences. -/
theorem cr_three {W P I X : Nat} {R : Bool} (hW : 1 ≤ W) (hP : P < 2 ^ W) (hI : I < 2 ^ W) {a b c : List UInt8} (hab : a.length = b.length) (hac : a.length = c.length) (ha : ∀ x ∈ a, x.toNat = 48 ∨ x.toNat = 49) (hb : ∀ x ∈ b, x.toNat = 48 ∨ x.toNat = 49) (hc : ∀ x ∈ c, x.toNat = 48 ∨ x.toNat = 49)
    {m : List UInt8} (hm : bs m = zx (zx (bs a) (bs b)) (bs c)) : cr W P I X R m = cr W P I X R a ^^^ cr W P I X R b ^^^ cr W P I X R c := by
  unfold cr
  rw [hm]
  have h1 := rgn_xor hW hP (bs a) (bs b) I I (by simp [bs_length, hab]) (bs_bits ha) (bs_bits hb) hI hI
  have h2 := rgn_xor hW hP (zx (bs a) (bs b)) (bs c) (I ^^^ I) I (by simp [zx, bs_length, ← hab, hac]) (zx_bits (bs_bits ha) (bs_bits hb)) (bs_bits hc) (by rw [Nat.xor_self]; exact Nat.two_pow_pos W) hI
  rw [← h1, Nat.xor_self, Nat.zero_xor] at h2
  rw [← h2, rvI_xor, rvI_xor]
  generalize rvI (rgn W P I (bs a)) W R = x
  generalize rvI (rgn W P I (bs b)) W R = y
  generalize rvI (rgn W P I (bs c)) W R = z
  rw [Nat.xor_comm y X, ← Nat.xor_assoc (x ^^^ X) X y, Nat.xor_assoc x X X, Nat.xor_self, Nat.xor_zero, Nat.xor_assoc (x ^^^ y) z X]

/-- P4.5: a difference within W bits. -/
theorem cr_burst {W P I X : Nat} {R : Bool} (hW : 1 ≤ W) (hP : P < 2 ^ W) (hPo : P % 2 = 1) (hI : I < 2 ^ W) {s t : List UInt8} (hl : s.length = t.length) (hs : ∀ x ∈ s, x.toNat = 48 ∨ x.toNat = 49) (ht : ∀ x ∈ t, x.toNat = 48 ∨ x.toNat = 49)
    (p : Nat) (hsame : ∀ j (h1 : j < s.length) (h2 : j < t.length), j < p ∨ p + W ≤ j → s[j] = t[j]) (h : cr W P I X R s = cr W P I X R t) : s = t := by
  have h0 : rgn W P I (bs s) = rgn W P I (bs t) := rvI_inj R (rgn_lt hP _ _ hI) (rgn_lt hP _ _ hI) (xor_right_inj h)
  have h1 := rgn_xor hW hP (bs s) (bs t) I I (by simp [bs_length, hl]) (bs_bits hs) (bs_bits ht) hI hI
  rw [h0, Nat.xor_self, Nat.xor_self] at h1
  have hzl : (zx (bs s) (bs t)).length = s.length := by simp [zx, bs_length, hl]
  have hz : ∀ j (hj : j < (zx (bs s) (bs t)).length) (g1 : j < s.length) (g2 : j < t.length), s[j] = t[j] → (zx (bs s) (bs t))[j] = 0 := by
    intro j hj g1 g2 e
    simp [zx, bs, e]
  have hz2 : ∀ j (hj : j < (zx (bs s) (bs t)).length) (g1 : j < s.length) (g2 : j < t.length), (zx (bs s) (bs t))[j] = 0 → s[j] = t[j] := by
    intro j hj g1 g2 e
    simp only [zx, bs, List.getElem_zipWith, List.getElem_map] at e
    have := xor_zero_eq e
    have a1 := hs _ (List.getElem_mem g1)
    have a2 := ht _ (List.getElem_mem g2)
    exact UInt8.toNat_inj.1 (by omega)
  generalize hZ : zx (bs s) (bs t) = Z at *
  have hsplit : Z = Z.take p ++ (Z.drop p).take W ++ (Z.drop p).drop W := by
    rw [List.append_assoc, List.take_append_drop, List.take_append_drop]
  rw [hsplit] at h1
  have hd := detect hW hPo hP (Z.take p) ((Z.drop p).take W) ((Z.drop p).drop W)
    (fun b hb => by
      obtain ⟨i, hi, rfl⟩ := List.getElem_of_mem hb
      rw [List.length_take] at hi
      rw [List.getElem_take]
      exact hz i (by omega) (by omega) (by omega) (hsame i (by omega) (by omega) (.inl (by omega))))
    (fun b hb => by
      obtain ⟨i, hi, rfl⟩ := List.getElem_of_mem hb
      simp only [List.length_drop] at hi
      simp only [List.getElem_drop]
      exact hz _ (by omega) (by omega) (by omega) (hsame _ (by omega) (by omega) (.inr (by omega))))
    (by rw [List.length_take]; omega) h1.symm
  apply List.ext_getElem hl
  intro j g1 g2
  rcases Nat.lt_or_ge j p with hp | hp
  · exact hsame j g1 g2 (.inl hp)
  · rcases Nat.lt_or_ge j (p + W) with hq | hq
    · refine hz2 j (by omega) g1 g2 (hd _ ?_)
      have e : Z[j]'(by omega) = ((Z.drop p).take W)[j - p]'(by rw [List.length_take, List.length_drop]; omega) := by
        simp only [List.getElem_take, List.getElem_drop]
        congr 1; omega
      rw [e]
      exact List.getElem_mem _
    · exact hsame j g1 g2 (.inr hq)

end Go.Proofs.YtljbhbpddokelaaDoor
