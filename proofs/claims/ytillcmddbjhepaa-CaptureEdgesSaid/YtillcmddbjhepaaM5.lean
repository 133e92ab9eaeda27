/-
  Steps of all waves, plain; positions as the model holds them.
-/
import Derived.Test.YtillcmddbjhepaaM4
import Derived.Test.YtillcmddbjhepaaK2
namespace Go.Proofs.Ytillcmddbjhepaa
open Go Go.RowKit Go.Joins
set_option linter.unusedVariables false
set_option linter.unusedSimpArgs false

abbrev Ps := Int × Int
/-- The ticks left of the run that a position is in. -/
def rm (W : List Rn) (p : Ps) : Int := (W.getD p.1.toNat (0, 0)).2 - p.2
def mnF : Int → List (List Rn) → List Ps → Int
  | a, W :: ws, p :: G => mnF (min a (rm W p)) ws G
  | a, _, _ => a
theorem mnF_cons (a : Int) (W : List Rn) (ws : List (List Rn)) (p : Ps) (G : List Ps) : mnF a (W :: ws) (p :: G) = mnF (min a (rm W p)) ws G := rfl
theorem mnF_drop (a : Int) (ws : List (List Rn)) (G : List Ps) (i : Nat) (hi : i < ws.length) (hG : i < G.length) : mnF a (ws.drop i) (G.drop i) = mnF (min a (rm ws[i] G[i])) (ws.drop (i + 1)) (G.drop (i + 1)) := by
  rw [List.drop_eq_getElem_cons hi, List.drop_eq_getElem_cons hG, mnF_cons]
theorem mnF_le (a : Int) (ws : List (List Rn)) (G : List Ps) : mnF a ws G ≤ a := by
  induction ws generalizing a G with
  | nil => simp [mnF]
  | cons W ws ih =>
    cases G with
    | nil => simp [mnF]
    | cons p G => have := ih (min a (rm W p)) G; rw [mnF_cons]; omega
theorem mnF_each (a : Int) (ws : List (List Rn)) (G : List Ps) (i : Nat) (hi : i < ws.length) (hG : i < G.length) : mnF a ws G ≤ rm ws[i] G[i] := by
  induction ws generalizing a G i with
  | nil => simp at hi
  | cons W ws ih =>
    cases G with
    | nil => simp at hG
    | cons p G =>
      rw [mnF_cons]
      cases i with
      | zero => have := mnF_le (min a (rm W p)) ws G; simp only [List.getElem_cons_zero]; omega
      | succ i => simpa using ih (min a (rm W p)) G i (by simpa using hi) (by simpa using hG)
theorem mnF_some (a : Int) (ws : List (List Rn)) (G : List Ps) : mnF a ws G = a ∨ ∃ (i : Nat) (hi : i < ws.length) (hG : i < G.length), mnF a ws G = rm ws[i] G[i] := by
  induction ws generalizing a G with
  | nil => exact .inl (by simp [mnF])
  | cons W ws ih =>
    cases G with
    | nil => exact .inl (by simp [mnF])
    | cons p G =>
      rw [mnF_cons]
      rcases ih (min a (rm W p)) G with h | ⟨i, hi, hG, h⟩
      · rw [h]
        by_cases c : a ≤ rm W p
        · exact .inl (by omega)
        · exact .inr ⟨0, by simp, by simp, by simp only [List.getElem_cons_zero]; omega⟩
      · exact .inr ⟨i + 1, by simpa using hi, by simpa using hG, by simpa using h⟩
theorem mnF_pos {a : Int} {ws : List (List Rn)} {G : List Ps} (ha : 1 ≤ a) (h : ∀ i (hi : i < ws.length) (hG : i < G.length), 1 ≤ rm ws[i] G[i]) : 1 ≤ mnF a ws G := by
  rcases mnF_some a ws G with e | ⟨i, hi, hG, e⟩
  · omega
  · have := h i hi hG; omega

/-- All positions d ticks on. -/
def zw (d : Int) : List (List Rn) → List Ps → List Ps
  | W :: ws, p :: G => av W d p :: zw d ws G
  | _, _ => []
theorem zw_len (d : Int) (ws : List (List Rn)) (G : List Ps) (h : ws.length = G.length) : (zw d ws G).length = G.length := by
  induction ws generalizing G with
  | nil => cases G with
    | nil => rfl
    | cons p G => simp at h
  | cons W ws ih =>
    cases G with
    | nil => simp at h
    | cons p G => simp only [zw, List.length_cons]; rw [ih G (by simpa using h)]
theorem zw_at (d : Int) (ws : List (List Rn)) (G : List Ps) (h : ws.length = G.length) (i : Nat) (hi : i < ws.length) (hz : i < (zw d ws G).length) : (zw d ws G)[i] = av ws[i] d (G[i]'(by omega)) := by
  induction ws generalizing G i with
  | nil => simp at hi
  | cons W ws ih =>
    cases G with
    | nil => simp at h
    | cons p G =>
      cases i with
      | zero => rfl
      | succ i => simpa [zw] using ih G (by simpa using h) i (by simpa using hi) (by simpa [zw] using hz)
/-- The first i of them. -/
def mx (d : Int) (ws : List (List Rn)) (G : List Ps) (i : Nat) : List Ps := (zw d ws G).take i ++ G.drop i
theorem mx_zero (d : Int) (ws : List (List Rn)) (G : List Ps) : mx d ws G 0 = G := by simp [mx]
theorem mx_len (d : Int) (ws : List (List Rn)) (G : List Ps) (h : ws.length = G.length) (i : Nat) (hi : i ≤ ws.length) : (mx d ws G i).length = G.length := by
  unfold mx; rw [List.length_append, List.length_take, List.length_drop, zw_len d ws G h]; omega
theorem mx_all (d : Int) (ws : List (List Rn)) (G : List Ps) (h : ws.length = G.length) : mx d ws G ws.length = zw d ws G := by
  unfold mx
  rw [List.take_of_length_le (by rw [zw_len d ws G h]; omega), List.drop_eq_nil_of_le (by omega), List.append_nil]
theorem mx_at (d : Int) (ws : List (List Rn)) (G : List Ps) (h : ws.length = G.length) (i : Nat) (hi : i < ws.length) (hm : i < (mx d ws G i).length) : (mx d ws G i)[i] = G[i]'(by omega) := by
  have hl : ((zw d ws G).take i).length = i := by rw [List.length_take, zw_len d ws G h]; omega
  have h2 : (mx d ws G i)[i]? = some (G[i]'(by omega)) := by
    unfold mx
    rw [List.getElem?_append_right (by omega), hl, Nat.sub_self, List.getElem?_drop, Nat.add_zero, List.getElem?_eq_getElem (by omega)]
  exact (List.getElem?_eq_some_iff.1 h2).2
theorem mx_set (d : Int) (ws : List (List Rn)) (G : List Ps) (h : ws.length = G.length) (i : Nat) (hi : i < ws.length) : (mx d ws G i).set i (av ws[i] d (G[i]'(by omega))) = mx d ws G (i + 1) := by
  have hz := zw_len d ws G h
  have hl : ((zw d ws G).take i).length = i := by rw [List.length_take, hz]; omega
  unfold mx
  rw [List.set_append_right _ _ (by omega), hl, Nat.sub_self, List.drop_eq_getElem_cons (show i < G.length by omega), List.set_cons_zero, List.take_succ_eq_append_getElem (by omega), List.append_assoc, zw_at d ws G h i hi (by omega)]
  rfl
theorem zw_sum (d : Int) (ws : List (List Rn)) (G : List Ps) (h : ws.length = G.length) : sj G ≤ sj (zw d ws G) ∧ ((∃ (i : Nat) (hi : i < ws.length) (hG : i < G.length), G[i].2 + d = (ws[i].getD G[i].1.toNat (0, 0)).2) → sj G + 1 ≤ sj (zw d ws G)) := by
  induction ws generalizing G with
  | nil =>
    cases G with
    | nil => exact ⟨Int.le_refl _, fun ⟨i, hi, _⟩ => by simp at hi⟩
    | cons p G => simp at h
  | cons W ws ih =>
    cases G with
    | nil => simp at h
    | cons p G =>
      obtain ⟨i1, i2⟩ := ih G (by simpa using h)
      have ha : p.1 ≤ (av W d p).1 := by unfold av; split <;> simp <;> omega
      simp only [zw, sj]
      refine ⟨by omega, fun ⟨i, hi, hG, he⟩ => ?_⟩
      cases i with
      | zero =>
        have he' : p.2 + d = (W.getD p.1.toNat (0, 0)).2 := he
        have : (av W d p).1 = p.1 + 1 := by unfold av; rw [if_pos he']
        omega
      | succ i =>
        have := i2 ⟨i, by simpa using hi, by simpa using hG, by simpa using he⟩
        omega
/-- All waves stand at the tick t. -/
def Pa (ws : List (List Rn)) (t : Int) (G : List Ps) : Prop := G.length = ws.length ∧ ∀ i (h : i < ws.length) (h' : i < G.length), Pz ws[i] t G[i]
/-- The waves: each valid, all T long. -/
def Wv (ws : List (List Rn)) (T : Int) : Prop := ∀ i (h : i < ws.length), ws[i].length ≤ 262144 ∧ vr 1 0 ws[i] = true ∧ lg ws[i] = T
theorem Wv.ps {ws : List (List Rn)} {T : Int} (h : Wv ws T) (i : Nat) (hi : i < ws.length) : ps ws[i] := ((vr_iff 1 _ 0 (by omega)).1 (h i hi).2.1).2.1
theorem Pa_start {ws : List (List Rn)} {T : Int} (h : Wv ws T) : Pa ws 0 (List.replicate ws.length (0, 0)) := by
  refine ⟨by simp, fun i hi h' => ?_⟩
  rw [List.getElem_replicate]
  exact Pz_start (h.ps i hi)
theorem Pa_rm {ws : List (List Rn)} {T t : Int} {G : List Ps} (hw : Wv ws T) (h : Pa ws t G) (ht : t < T) (i : Nat) (hi : i < ws.length) (hG : i < G.length) : 1 ≤ rm ws[i] G[i] ∧ rm ws[i] G[i] ≤ 1099511627776 ∧ t + rm ws[i] G[i] ≤ T := by
  obtain ⟨j, hj, h1, h3, h4, h5⟩ := Pz_in (h.2 i hi hG) (by rw [(hw i hi).2.2]; exact ht)
  have e : ws[i].getD G[i].1.toNat (0, 0) = ws[i][j] := by rw [h1]; simp [hj]
  have hl := lg_take ws[i] j hj
  have hr := lg_take_range (hw i hi).2.1 (j + 1)
  have hx := el_range (hw i hi).2.1 j hj
  have hT := (hw i hi).2.2
  unfold rm
  rw [e]
  omega
theorem Pa_step {ws : List (List Rn)} {T t d : Int} {G : List Ps} (hw : Wv ws T) (h : Pa ws t G) (ht : t < T) (hd : 0 ≤ d) (hr : ∀ i (hi : i < ws.length) (hG : i < G.length), d ≤ rm ws[i] G[i]) : Pa ws (t + d) (zw d ws G) := by
  refine ⟨by rw [zw_len d ws G h.1.symm]; exact h.1, fun i hi h' => ?_⟩
  rw [zw_at d ws G h.1.symm i hi h']
  exact Pz_step (hw.ps i hi) (h.2 i hi (by have := h.1; omega)) (by rw [(hw i hi).2.2]; exact ht) hd (hr i hi (by have := h.1; omega))
theorem Pa_01 {ws : List (List Rn)} {T : Int} (hw : Wv ws T) {k : Int} (h0 : 0 ≤ k) (h1 : k < T) : w01 ws k := by
  intro w hwm
  obtain ⟨i, hi, rfl⟩ := List.mem_iff_getElem.1 hwm
  obtain ⟨l1, l2, l3⟩ := (vr_iff 1 ws[i] 0 (by omega)).1 (hw i hi).2.1
  obtain ⟨_, r, hr, e⟩ := atv_in h0 l2 (by rw [(hw i hi).2.2]; exact h1)
  have := l1 r hr
  rw [e]; omega
theorem Pa_lvl {ws : List (List Rn)} {T t d : Int} {G : List Ps} (hw : Wv ws T) (h : Pa ws t G) (ht : t < T) (hd : 1 ≤ d) (hr : ∀ i (hi : i < ws.length) (hG : i < G.length), d ≤ rm ws[i] G[i]) {k : Int} (h0 : t ≤ k) (h1 : k < t + d) : lvl ws k = lvl ws t := by
  have key : ∀ n, n ≤ ws.length → lvl (ws.take n) k = lvl (ws.take n) t := by
    intro n
    induction n with
    | zero => intro _; rfl
    | succ n ih =>
      intro hn
      have hG : n < G.length := by have := h.1; omega
      have hz := h.2 n (by omega) hG
      have hT : t < lg ws[n] := by rw [(hw n (by omega)).2.2]; exact ht
      rw [lvl_take _ _ (by omega), lvl_take _ _ (by omega), ih (by omega), Pz_level (hw.ps n (by omega)) hz hT (hr n (by omega) hG) h0 h1, Pz_level (hw.ps n (by omega)) hz hT (hr n (by omega) hG) (Int.le_refl _) (by omega)]
  have := key ws.length (Nat.le_refl _)
  rwa [List.take_length] at this
theorem Pa_sum {ws : List (List Rn)} {t : Int} {G : List Ps} (h : Pa ws t G) : sj G ≤ sl2 ws := by
  obtain ⟨h1, h2⟩ := h
  induction ws generalizing G with
  | nil =>
    cases G with
    | nil => exact Int.le_refl _
    | cons p G => simp at h1
  | cons W ws ih =>
    cases G with
    | nil => simp at h1
    | cons p G =>
      have := ih (G := G) (by simpa using h1) (fun i hi h' => by have := h2 (i + 1) (by simpa using hi) (by simpa using h'); simpa using this)
      obtain ⟨j, e1, e2, _⟩ := h2 0 (by simp) (by simp)
      simp only [List.getElem_cons_zero] at e1 e2
      simp only [sj, sl2]
      omega

/-! Cells of rows. -/
section
variable {α : Type} {enc : α → Array Value} {k : Nat}
theorem kCs_cellSet (hk : ∀ x, (enc x).size = k) (X : List α) (j i : Nat) (hj : j < X.length) (hi : i < k) (u : Value) (y : α) (hy : enc y = (enc X[j]).setIfInBounds i u) : (kCs enc X).set (j * k + i) u = kCs enc (X.set j y) := by
  rw [kCs_set1 hk X j hj y, hy]
  apply List.ext_getElem?
  intro q
  have hc : j * k + k ≤ X.length * k := by have := Nat.mul_le_mul_right k (show j + 1 ≤ X.length from hj); rw [Nat.add_mul, Nat.one_mul] at this; exact this
  have hL := kCs_len hk X
  have hA : ((kCs enc X).take (j * k)).length = j * k := by rw [List.length_take]; omega
  have hE : ((enc X[j]).setIfInBounds i u).toList.length = k := by simp [hk]
  rw [List.getElem?_set]
  by_cases c1 : q < j * k
  · rw [if_neg (by omega), List.append_assoc, List.getElem?_append_left (by omega), List.getElem?_take, if_pos c1]
  · by_cases c2 : q < j * k + k
    · rw [List.getElem?_append_left (by rw [List.length_append]; omega), List.getElem?_append_right (by omega), hA]
      have hq : q = j * k + (q - j * k) := by omega
      have hat := kCs_at hk X j hj (q - j * k) (by omega)
      rw [← hq] at hat
      rw [hat, Array.getElem?_toList, Array.getElem?_setIfInBounds]
      by_cases c3 : j * k + i = q
      · rw [if_pos c3, if_pos (by rw [hL]; omega), if_pos (by omega), if_pos (by rw [hk]; omega)]
      · rw [if_neg c3, if_neg (by omega)]
    · rw [if_neg (by omega), List.getElem?_append_right (by rw [List.length_append]; omega), List.length_append, hA, hE, List.getElem?_drop]
      congr 1
      omega
/-- A block of elements of the call's own. -/
def kArr (enc : α → Array Value) (L : List α) : Array Value := (kCs enc L).toArray
theorem kArr_size (hk : ∀ x, (enc x).size = k) (L : List α) : (kArr enc L).size = L.length * k := by unfold kArr; rw [List.size_toArray, kCs_len hk]
theorem kArr_one (h1 : ∀ x, (enc x).toList.all (·.oneCell') = true) (L : List α) : (kArr enc L).toList.all (·.oneCell') = true := by
  rw [List.all_eq_true]
  intro u hu
  unfold kArr at hu
  exact kCs_one h1 L u (by simpa using hu)
theorem kArr_cell (hk : ∀ x, (enc x).size = k) {w : World} {b : Nat} {T : TypeId} {L : List α} (h : RowAt w b T (kArr enc L)) (j : Nat) (hj : j < L.length) (i : Nat) (hi : i < k) : w.cell? ⟨b, j * k + i, none⟩ = (enc L[j])[i]? := by
  rw [h.cell (j * k + i)]
  unfold kArr
  rw [List.getElem?_toArray]
  exact kCs_at hk L j hj i hi
theorem kArr_set (hk : ∀ x, (enc x).size = k) {w : World} {b : Nat} {T : TypeId} {L : List α} (h : RowAt w b T (kArr enc L)) (j i : Nat) (hj : j < L.length) (hi : i < k) (u : Value) (y : α) (hy : enc y = (enc L[j]).setIfInBounds i u) : RowAt (w.setCell ⟨b, j * k + i, none⟩ u) b T (kArr enc (L.set j y)) := by
  have := h.set (j * k + i) u
  have e : (kArr enc L).setIfInBounds (j * k + i) u = kArr enc (L.set j y) := by
    unfold kArr
    rw [List.setIfInBounds_toArray, kCs_cellSet hk L j i hj hi u y hy]
  rwa [e] at this
end

end Go.Proofs.Ytillcmddbjhepaa
