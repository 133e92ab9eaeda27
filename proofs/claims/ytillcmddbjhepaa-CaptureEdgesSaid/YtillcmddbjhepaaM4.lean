/-
  Several waves together, plain.
-/
import Derived.Test.YtillcmddbjhepaaM3
namespace Go.Proofs.Ytillcmddbjhepaa
open Go
set_option linter.unusedVariables false
set_option linter.unusedSimpArgs false

/-- The levels of all at a tick. -/
def lvl : List (List Rn) → Int → Int
  | [], _ => 0
  | w :: ws, k => (atv w k).1 + 2 * lvl ws k
theorem lvl_append (a b : List (List Rn)) (k : Int) : lvl (a ++ b) k = lvl a k + 2 ^ a.length * lvl b k := by
  induction a with
  | nil => simp [lvl]
  | cons w a ih =>
    have e : (2 : Int) ^ (a.length + 1) = 2 * 2 ^ a.length := by rw [Int.pow_succ]; omega
    simp only [List.cons_append, lvl, ih, List.length_cons, e, Int.mul_add, Int.mul_assoc, Int.add_assoc]
theorem lvl_take (ws : List (List Rn)) (i : Nat) (hi : i < ws.length) (k : Int) : lvl (ws.take (i + 1)) k = lvl (ws.take i) k + (atv ws[i] k).1 * 2 ^ i := by
  rw [List.take_succ_eq_append_getElem hi, lvl_append, List.length_take, Nat.min_eq_left (by omega)]
  simp only [lvl, Int.mul_zero, Int.add_zero]
  rw [Int.mul_comm (2 ^ i)]
def w01 (ws : List (List Rn)) (k : Int) : Prop := ∀ w ∈ ws, (atv w k).1 = 0 ∨ (atv w k).1 = 1
theorem lvl_range {ws : List (List Rn)} {k : Int} (h : w01 ws k) : 0 ≤ lvl ws k ∧ lvl ws k < 2 ^ ws.length := by
  induction ws with
  | nil => simp [lvl]
  | cons w ws ih =>
    have h1 := ih (fun x hx => h x (by simp [hx]))
    have h2 := h w (by simp)
    have e : (2 : Int) ^ (ws.length + 1) = 2 * 2 ^ ws.length := by rw [Int.pow_succ]; omega
    simp only [lvl, List.length_cons, e]
    omega
theorem w01_take {ws : List (List Rn)} {k : Int} (h : w01 ws k) (i : Nat) : w01 (ws.take i) k := fun w hw => h w (List.mem_of_mem_take hw)
/-- 'acc | (b << i)'. -/
theorem or_i64 (a b i : Nat) (ha : a < 2 ^ i) (hb : b ≤ 1) (hi : i ≤ 15) : bits .or .i64 (a : Int) ((b * 2 ^ i : Nat) : Int) = ((a + b * 2 ^ i : Nat) : Int) := by
  have hp : 2 ^ i ≤ 2 ^ 15 := Nat.pow_le_pow_right (by omega) hi
  have hx : b * 2 ^ i ≤ 1 * 2 ^ i := Nat.mul_le_mul_right _ hb
  have ho : a ||| b * 2 ^ i = a + b * 2 ^ i := by
    rw [Nat.mul_comm, Nat.or_comm, ← Nat.two_pow_add_eq_or_of_lt ha, Nat.add_comm]
  show IntKind.i64.wrap ((BitVec.ofInt 64 a ||| BitVec.ofInt 64 ((b * 2 ^ i : Nat) : Int)).toNat : Int) = _
  have e1 : (BitVec.ofInt 64 (a : Int)).toNat = a := by rw [BitVec.toNat_ofInt]; omega
  have e2 : (BitVec.ofInt 64 ((b * 2 ^ i : Nat) : Int)).toNat = b * 2 ^ i := by rw [BitVec.toNat_ofInt]; omega
  rw [BitVec.toNat_or, e1, e2, ho, IntKind.wrap_i64]
  omega
/-- The same, of numbers. -/
theorem or_step {acc b : Int} {i : Nat} (h0 : 0 ≤ acc) (h1 : acc < 2 ^ i) (hb : b = 0 ∨ b = 1) (hi : i ≤ 15) : bits .or .i64 acc (b * 2 ^ i) = acc + b * 2 ^ i := by
  obtain ⟨a, rfl⟩ : ∃ a : Nat, acc = a := ⟨acc.toNat, by omega⟩
  obtain ⟨c, rfl⟩ : ∃ c : Nat, b = c := ⟨b.toNat, by omega⟩
  have e : (2 : Int) ^ i = ((2 ^ i : Nat) : Int) := by simp
  rw [e] at h1 ⊢
  have := or_i64 a c i (by omega) (by omega) hi
  rw [Int.natCast_mul] at this
  rw [this, Int.natCast_add, Int.natCast_mul]

/-! The position of a tick in a wave. -/
def Pz (W : List Rn) (t : Int) (p : Int × Int) : Prop := ∃ j : Nat, p.1 = j ∧ j ≤ W.length ∧ lg (W.take j) + p.2 = t ∧ 0 ≤ p.2 ∧ (∀ h : j < W.length, p.2 < W[j].2) ∧ (j = W.length → p.2 = 0)
theorem Pz_start {W : List Rn} (h : ps W) : Pz W 0 (0, 0) := by
  refine ⟨0, rfl, Nat.zero_le _, rfl, Int.le_refl _, fun hl => ?_, fun _ => rfl⟩
  have := h W[0] (List.getElem_mem hl)
  show (0 : Int) < _
  omega
theorem Pz_in {W : List Rn} {t : Int} {p : Int × Int} (h : Pz W t p) (ht : t < lg W) : ∃ (j : Nat) (hj : j < W.length), p.1 = j ∧ lg (W.take j) + p.2 = t ∧ 0 ≤ p.2 ∧ p.2 < W[j].2 := by
  obtain ⟨j, h1, h2, h3, h4, h5, h6⟩ := h
  have hj : j < W.length := by
    rcases Nat.lt_or_ge j W.length with c | c
    · exact c
    · have e : j = W.length := by omega
      have := h6 e
      rw [e, List.take_length] at h3
      omega
  exact ⟨j, hj, h1, h3, h4, h5 hj⟩
theorem Pz_out {W : List Rn} {t : Int} {p : Int × Int} (hp : ps W) (h : Pz W t p) (ht : p.1 = W.length) : t = lg W := by
  obtain ⟨j, h1, h2, h3, h4, h5, h6⟩ := h
  have e : j = W.length := by omega
  have := h6 e
  rw [e, List.take_length] at h3
  omega
/-- d ticks on, with no end of a run in between. -/
def av (W : List Rn) (d : Int) (p : Int × Int) : Int × Int := if p.2 + d = (W.getD p.1.toNat (0, 0)).2 then (p.1 + 1, 0) else (p.1, p.2 + d)
theorem Pz_step {W : List Rn} {t d : Int} {p : Int × Int} (hp : ps W) (h : Pz W t p) (ht : t < lg W) (hd : 0 ≤ d) (hr : d ≤ (W.getD p.1.toNat (0, 0)).2 - p.2) : Pz W (t + d) (av W d p) := by
  obtain ⟨j, hj, h1, h3, h4, h5⟩ := Pz_in h ht
  have e : W.getD p.1.toNat (0, 0) = W[j] := by rw [h1]; simp [hj]
  unfold av
  rw [e] at hr ⊢
  by_cases c : p.2 + d = W[j].2
  · rw [if_pos c]
    have hl := lg_take W j hj
    refine ⟨j + 1, by show p.1 + 1 = _; omega, by omega, by show lg (W.take (j + 1)) + 0 = _; omega, Int.le_refl _, fun hl => ?_, fun _ => rfl⟩
    have := hp W[j + 1] (List.getElem_mem hl)
    show (0 : Int) < _
    omega
  · rw [if_neg c]
    exact ⟨j, h1, by omega, by show lg (W.take j) + (p.2 + d) = _; omega, by show 0 ≤ p.2 + d; omega, fun hl => by show p.2 + d < _; omega, fun e => by omega⟩
theorem Pz_level {W : List Rn} {t d : Int} {p : Int × Int} (hp : ps W) (h : Pz W t p) (ht : t < lg W) (hr : d ≤ (W.getD p.1.toNat (0, 0)).2 - p.2) {k : Int} (h0 : t ≤ k) (h1 : k < t + d) : atv W k = ((W.getD p.1.toNat (0, 0)).1, true) := by
  obtain ⟨j, hj, e1, h3, h4, h5⟩ := Pz_in h ht
  have e : W.getD p.1.toNat (0, 0) = W[j] := by rw [e1]; simp [hj]
  rw [e] at hr ⊢
  exact atv_run hp hj (by omega) (by rw [lg_take W j hj]; omega)

/-! What is put together up to a tick. -/
def Cb (ws : List (List Rn)) (t : Int) (out : List Rn) : Prop := al out ∧ ps out ∧ lg out = t ∧ ∀ k, 0 ≤ k → k < t → atv out k = (lvl ws k, true)
theorem Cb_start (ws : List (List Rn)) : Cb ws 0 [] := ⟨al_nil, ps_nil, rfl, fun k h0 h1 => by omega⟩
theorem Cb_step {ws : List (List Rn)} {t d L : Int} {out : List Rn} (h : Cb ws t out) (hd : 1 ≤ d) (hL : ∀ k, t ≤ k → k < t + d → lvl ws k = L) : Cb ws (t + d) (pt out (L, d)) := by
  obtain ⟨h1, h2, h3, h4⟩ := h
  refine ⟨pt_al h1, pt_ps h2 hd, by rw [pt_lg, h3], fun k k0 k1 => ?_⟩
  have := atv_pt out (L, d) [] k h2 hd k0
  rw [List.append_nil] at this
  rw [this, atv_append _ _ k h2 k0, h3]
  by_cases c : k < t
  · rw [if_pos c]; exact h4 k k0 c
  · rw [if_neg c, atv_cons, if_pos (by show k - t < d; omega), hL k (by omega) k1]
theorem Cb_unique {ws : List (List Rn)} {t : Int} {a b : List Rn} (ha : Cb ws t a) (hb : Cb ws t b) : a = b := by
  obtain ⟨a1, a2, a3, a4⟩ := ha
  obtain ⟨b1, b2, b3, b4⟩ := hb
  refine al_unique a1 a2 b1 b2 fun k k0 => ?_
  by_cases c : k < t
  · rw [a4 k k0 c, b4 k k0 c]
  · rw [atv_end a2 (by omega), atv_end b2 (by omega)]
/-- The channels of a capture make it. -/
theorem lvl_bits (R : List Rn) (n : Nat) (L t : Int) (h0 : 0 ≤ L) (hL : L < 2 ^ n) (f : Nat → List Rn) (i : Nat) (hf : ∀ k, k < n → atv (f (i + k)) t = (bt (L * 2 ^ i) (i + k), true)) : lvl ((List.range' i n).map f) t = L := by
  induction n generalizing i L with
  | zero => simp [lvl] at hL ⊢; omega
  | succ n ih =>
    have e2 : (2 : Int) ^ (n + 1) = 2 * 2 ^ n := by rw [Int.pow_succ]; omega
    have hb : bt (L * 2 ^ i) (i + 0) = L % 2 := by
      unfold bt
      rw [Nat.add_zero, Int.mul_ediv_cancel _ (by have : (0 : Int) < 2 ^ i := Int.pow_pos (by omega); omega)]
    have := hf 0 (by omega)
    rw [hb] at this
    rw [List.range'_succ, List.map_cons]
    simp only [lvl]
    rw [Nat.add_zero] at this
    rw [this, ih (L / 2) (by omega) (by omega) (i + 1) fun k hk => ?_]
    · simp only; omega
    · have h2 := hf (k + 1) (by omega)
      rw [show i + 1 + k = i + (k + 1) by omega, h2]
      congr 1
      unfold bt
      rw [Int.pow_succ 2 i]
      have e3 : (2 : Int) ^ (i + (k + 1)) = 2 ^ i * (2 * 2 ^ k) := by rw [Int.pow_add, Int.pow_succ]; congr 1; omega
      have e4 : L * 2 ^ i / (2 ^ i * (2 * 2 ^ k)) = L / (2 * 2 ^ k) := by
        rw [Int.mul_comm L]
        exact Int.mul_ediv_mul_of_pos _ _ (Int.pow_pos (by omega))
      have e5 : L / 2 * (2 ^ i * 2) / (2 ^ i * (2 * 2 ^ k)) = L / 2 / 2 ^ k := by
        rw [Int.mul_comm (L / 2), ← Int.mul_assoc (2 ^ i) 2 (2 ^ k)]
        exact Int.mul_ediv_mul_of_pos _ _ (by have : (0 : Int) < 2 ^ i := Int.pow_pos (by omega); omega)
      rw [e3, e4, e5, Int.ediv_ediv_of_nonneg (by omega)]
theorem Cb_chn {m : Int} {R : List Rn} {n : Nat} (hv : vr (mk n) 0 R = true) : Cb ((List.range n).map (chn R)) (lg R) (jn R) := by
  obtain ⟨h1, h2, h3⟩ := (vr_iff _ R 0 (by omega)).1 hv
  refine ⟨jn_al R, jn_ps h2, jn_lg R, fun k k0 k1 => ?_⟩
  rw [atv_jn k h2 k0]
  obtain ⟨a1, r, a2, a3⟩ := atv_in k0 h2 k1
  have hr := h1 r a2
  have e : lvl ((List.range n).map (chn R)) k = (atv R k).1 := by
    rw [List.range_eq_range']
    refine lvl_bits R n _ k (by omega) (by have : mk n = 2 ^ n - 1 := rfl; omega) (chn R) 0 fun i hi => ?_
    rw [chn_at h2 _ k0 k1]
    simp
  rw [e]
  exact Prod.ext rfl a1

/-! Sums of positions. -/
def sj : List (Int × Int) → Int
  | [] => 0
  | p :: l => p.1 + sj l
def sl2 : List (List Rn) → Int
  | [] => 0
  | w :: ws => (w.length : Int) + sl2 ws
theorem sl2_nonneg (ws : List (List Rn)) : 0 ≤ sl2 ws := by
  induction ws with
  | nil => exact Int.le_refl _
  | cons w ws ih => simp only [sl2]; omega

end Go.Proofs.Ytillcmddbjhepaa
