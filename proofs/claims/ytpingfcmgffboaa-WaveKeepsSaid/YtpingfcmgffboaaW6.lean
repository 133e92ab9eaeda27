/-
  The walks of FromEdges and Join (the program's).
-/
import Derived.Test.YtpingfcmgffboaaW5
import Derived.Test.YtpingfcmgffboaaW3
namespace Go.Proofs.Ytpingfcmgffboaa
open Go Go.RowKit Go.Joins
set_option linter.unusedVariables false
set_option linter.unusedSimpArgs false

/-- Runs and an error. -/
def prE (v : Value) (e : Int) : Value := .tuple #[v, .int .i64 e]
/-- What Join and FromEdges end in. -/
def RnRes (p : List Rn × Int) (w : World) (e : Ending) (w' : World) : Prop := ∃ v : Value, e = .returned (prE v p.2) ∧ RnRow w' w.heap.size v p.1 ∧ Below w.heap.size w w'
theorem RnRes.no {p : List Rn × Int} {c : Int} {w w' : World} (h : p = ([], c)) (hb : Below w.heap.size w w') : RnRes p w (.returned (.tuple #[.slice none 0 0, .int .i64 c])) w' := by
  subst h; exact ⟨_, rfl, KRow.nil _ _, hb⟩
theorem RnRes.yes {p : List Rn × Int} {l : List Rn} {v : Value} {w w' : World} (h : p = (l, 0)) (hr : RnRow w' w.heap.size v l) (hb : Below w.heap.size w w') : RnRes p w (.returned (.tuple #[v, .int .i64 0])) w' := by
  subst h; exact ⟨_, rfl, hr, hb⟩

set_option maxRecDepth 100000 in
set_option maxHeartbeats 8000000 in
theorem from_any (v : Int) (q : List Int) (V : Value) (n : Int) (w : World) (hT : InArg w V q) : Calls Try.prog 14 #[.int .i64 v, V, .int .i64 n] w (RnRes (feR v q n) w) := by
  obtain ⟨A, c, rfl, hA⟩ := hT
  have HA := Lib.hid hA
  clear hA
  by_cases hv : ¬ (v = 0 ∨ v = 1)
  · have HL := Lib.hid (feR_1 (n := n) (q := q) hv)
    have CL := Lib.hid (fun w => by have := isLevel_any v w; rw [decide_eq_false hv] at this; exact this)
    clear hv HA
    go_enter Try.func14, Try.ntmps14
    go_wp2_with (first
      | (go_at_call 32; go_must (refine (CL.out _).mono ?_; rintro e1 w1 ⟨rfl, rfl⟩)))
    go_returns
    exact RnRes.no HL.out (Below.refl _ _)
  replace hv := Decidable.not_not.1 hv
  have CL := Lib.hid (fun w => by have := isLevel_any v w; rw [decide_eq_true hv] at this; exact this)
  have HVV := Lib.hid hv
  have hv0 : 0 ≤ v := by omega
  have hv1 : v ≤ 1 := by omega
  by_cases hn : n < 0
  · have HL := Lib.hid (feR_2 (q := q) hv (.inl hn))
    clear hv HA
    go_enter Try.func14, Try.ntmps14
    go_wp2_with (first
      | (go_at_call 32; go_must (refine (CL.out _).mono ?_; rintro e1 w1 ⟨rfl, rfl⟩)))
    go_returns
    exact RnRes.no HL.out (Below.refl _ _)
  by_cases hn2 : 1099511627776 < n
  · have HL := Lib.hid (feR_2 (q := q) hv (.inr hn2))
    clear hv HA
    go_enter Try.func14, Try.ntmps14
    go_wp2_with (first
      | (go_at_call 32; go_must (refine (CL.out _).mono ?_; rintro e1 w1 ⟨rfl, rfl⟩)))
    go_returns
    exact RnRes.no HL.out (Below.refl _ _)
  have hrg : ¬ (n < 0 ∨ 1099511627776 < n) := by omega
  by_cases hq : 262144 ≤ q.length
  · have HL := Lib.hid (feR_6 hv hrg hq)
    have hq' : (262144 : Int) ≤ q.length := by omega
    clear hv HA hrg
    go_enter Try.func14, Try.ntmps14
    go_wp2_with (first
      | (go_at_call 32; go_must (refine (CL.out _).mono ?_; rintro e1 w1 ⟨rfl, rfl⟩)))
    go_returns
    exact RnRes.no HL.out (Below.refl _ _)
  have hq' : ¬ (262144 : Int) ≤ q.length := by omega
  have H7 := Lib.hid (fun h => feR_7 hv hrg hq h)
  have H0 := Lib.hid (fun h => feR_0 hv hrg hq h)
  have CO := Lib.hid other_any
  have d1 : decide (n < 0) = false := decide_eq_false hn
  have d2 : decide (1099511627776 < n) = false := decide_eq_false hn2
  have d3 : decide ((262144 : Int) ≤ q.length) = false := decide_eq_false hq'
  clear hv hrg
  go_enter Try.func14, Try.ntmps14
  go_wp2_with (first
    | (go_at_call 32; go_must (refine (CL.out _).mono ?_; rintro e1 w1 ⟨rfl, rfl⟩)))
  go_loopw [28, 8, 9, 10] (fun i r x s wr => ∃ j : Nat, j ≤ q.length ∧ i = .int .i64 j ∧ x = .int .i64 (lv v (q.take j)) ∧ s = .int .i64 (le' 0 (q.take j)) ∧ Hid (RnRow wr w.heap.size r (fp v 0 (q.take j))) ∧ Hid (oe 0 (q.take j) n = true) ∧ Hid (Below w.heap.size w wr)) (fun i _ _ _ _ => q.length - (intOf i).toNat)
  case atStart => exact ⟨0, Nat.zero_le _, rfl, rfl, rfl, Lib.hid (KRow.nil _ _), Lib.hid rfl, Lib.hid (Below.refl _ _)⟩
  case round =>
    obtain ⟨j, hj, rfl, rfl, rfl, HR, HO, HB⟩ := hrel
    have hb := HB.out
    have hlr := le_range (q.take j) 0 n HO.out (by omega)
    have hlv := lv_one (q.take j) v HVV.out
    have hfl := fp_len (q.take j) v 0
    have hfl2 : (fp v 0 (q.take j)).length ≤ 262144 := by rw [hfl, List.length_take]; omega
    clear hfl
    by_cases hjl : j < q.length
    · obtain ⟨g, o, rfl, hg, hc⟩ := HA.out (by omega)
      have a0 := arg_int hc j hjl
      have f0 := (hb.cell (p := ⟨g, o + j, none⟩) hg).trans a0
      have hot := oe_take hjl HO.out
      have hbd := Lib.hid (fun h => H7.out (oe_bad (q := q) (j := j + 1) h))
      have hlt1 := Lib.hid (le_take (q := q) hjl 0)
      have hlt2 := Lib.hid (lv_take (q := q) hjl v)
      have hlt3 := Lib.hid (fp_take (q := q) hjl v)
      clear a0 hc
      obtain ⟨x0, hx0⟩ : ∃ x, q[j] = x := ⟨_, rfl⟩
      rw [hx0] at f0 hot hlt1 hlt3
      clear hx0
      generalize le' 0 (q.take j) = S at *
      generalize lv v (q.take j) = L at *
      generalize fp v 0 (q.take j) = E at *
      have HLV := Lib.hid hlv
      have hL0 : 0 ≤ L := by omega
      have hL1 : L ≤ 1 := by omega
      clear hlv
      by_cases c1 : x0 ≤ S
      · have d4 : decide (x0 ≤ S) = true := decide_eq_true c1
        have HL := Lib.hid (hbd.out (by rw [hot, decide_eq_false (by omega)]; rfl))
        clear hot
        go_wp2
        go_returns
        exact RnRes.no HL.out hb
      have d4 : decide (x0 ≤ S) = false := decide_eq_false c1
      by_cases c2 : n ≤ x0
      · have d5 : decide (n ≤ x0) = true := decide_eq_true c2
        have HL := Lib.hid (hbd.out (by rw [hot, decide_eq_false (show ¬ x0 < n by omega), Bool.and_false]))
        clear hot
        go_wp2
        go_returns
        exact RnRes.no HL.out hb
      have d5 : decide (n ≤ x0) = false := decide_eq_false c2
      have HO2 := Lib.hid (show oe 0 (q.take (j + 1)) n = true by rw [hot, decide_eq_true (by omega), decide_eq_true (by omega)]; rfl)
      clear hot
      obtain ⟨UA, UN, UC, rfl, hUN⟩ := HR.out.form
      clear hUN
      go_wp2_with (first
        | (at_builtin; go_must (refine wpList_append_rn rfl _ _ rfl rfl rfl rfl rfl HR.out hb.size (by omega) ?_; intro v5 w5 R5 b5))
        | (go_at_call 34; go_must (refine (CO.out _ _ HLV.out).mono ?_; rintro e6 w6 ⟨rfl, rfl⟩)))
      go_roundw
      case rel => exact ⟨j + 1, by omega, val_int (by omega), val_int hlt2.out.symm, val_int hlt1.out.symm, Lib.hid (by rw [hlt3.out]; exact R5), HO2, Lib.hid (hb.trans b5)⟩
      case measure => simp [intOf]; omega
    · have he : q.take j = q := List.take_of_length_le (by omega)
      have HL := Lib.hid (H0.out (by rw [← he]; exact HO.out))
      have HF := Lib.hid (show fe v 0 q n = fp v 0 (q.take j) ++ (if le' 0 (q.take j) < n then [(lv v (q.take j), n - le' 0 (q.take j))] else []) by rw [he]; rfl)
      clear he
      generalize le' 0 (q.take j) = S at *
      generalize lv v (q.take j) = L at *
      generalize fp v 0 (q.take j) = E at *
      by_cases c1 : S < n
      · have HG := Lib.hid (show fe v 0 q n = E ++ [(L, n - S)] by rw [HF.out, if_pos c1])
        obtain ⟨UA, UN, UC, rfl, hUN⟩ := HR.out.form
        clear hUN hlv HF
        go_wp2_with (first
          | (at_builtin; go_must (refine wpList_append_rn rfl _ _ rfl rfl rfl rfl rfl HR.out hb.size (by omega) ?_; intro v5 w5 R5 b5)))
        go_returns
        exact RnRes.yes HL.out (by rw [HG.out]; exact R5) (hb.trans b5)
      · have HG := Lib.hid (show fe v 0 q n = E by rw [HF.out, if_neg c1, List.append_nil])
        clear hlv HF
        go_wp2
        go_returns
        exact RnRes.yes HL.out (by rw [HG.out]; exact HR.out) hb

set_option maxRecDepth 100000 in
set_option maxHeartbeats 8000000 in
theorem join_any (a b : List Rn) (V U : Value) (w : World) (hT : RnArg w V a) (hU : RnArg w U b) : Calls Try.prog 29 #[V, U] w (RnRes (jnR a b) w) := by
  have CA := Lib.hid (fun w' h => valid_any a V w' h)
  have CB := Lib.hid (fun w' h => valid_any b U w' h)
  have LA := Lib.hid (fun w' h => long_any a V w' h)
  have LB := Lib.hid (fun w' h => long_any b U w' h)
  have HT := Lib.hid (fun w' (hb : Below w.heap.size w w') => hT.keep hb)
  have HU := Lib.hid (fun w' (hb : Below w.heap.size w w') => hU.keep hb)
  obtain ⟨A, c, rfl, hA⟩ := hT
  obtain ⟨D, d, rfl, hD⟩ := hU
  clear hA hD
  cases hva : vl a with
  | false =>
    have HL := Lib.hid (jnR_1 (a := a) (b := b) (by rw [hva]; exact fun h => Bool.false_ne_true h.1))
    rw [hva] at CA
    clear hva
    go_enter Try.func29, Try.ntmps29
    go_wp2_with (first
      | (go_at_call 11; go_must (refine (CA.out _ (HT.out _ (Below.refl _ _))).mono ?_; rintro e1 w1 ⟨rfl, b1⟩)))
    go_returns
    exact RnRes.no HL.out b1
  | true =>
  cases hvb : vl b with
  | false =>
    have HL := Lib.hid (jnR_1 (a := a) (b := b) (by rw [hvb]; exact fun h => Bool.false_ne_true h.2))
    rw [hva] at CA
    rw [hvb] at CB
    clear hva hvb
    go_enter Try.func29, Try.ntmps29
    go_wp2_with (first
      | (go_at_call_of 11 (Value.slice A a.length c); go_must (refine (CA.out _ (HT.out _ (Below.refl _ _))).mono ?_; rintro e1 w1 ⟨rfl, b1⟩))
      | (go_at_call 11; go_must (refine (CB.out _ (HU.out _ b1)).mono ?_; rintro e2 w2 ⟨rfl, b2⟩)))
    go_returns
    exact RnRes.no HL.out (b1.trans (b2.mono b1.size))
  | true =>
  have hv := And.intro hva hvb
  have H6 := Lib.hid (fun h => jnR_6 hv h)
  have H2 := Lib.hid (fun h6 h => jnR_2 hv h6 h)
  have H0 := Lib.hid (fun h6 h => jnR_0 hv h6 h)
  have VA := Lib.hid ((vl_iff a).1 hva)
  have VB := Lib.hid ((vl_iff b).1 hvb)
  have hna := VA.out.1
  have hnb := VB.out.1
  have hla := lgV_range a
  have hlb := lgV_range b
  have hlga := Lib.hid (lgV_yes hva)
  have hlgb := Lib.hid (lgV_yes hvb)
  rw [hva] at CA
  rw [hvb] at CB
  clear hva hvb hv
  by_cases h6 : 262144 < a.length + b.length
  · have HL := Lib.hid (H6.out h6)
    have h6' : (262144 : Int) < a.length + b.length := by omega
    clear h6
    go_enter Try.func29, Try.ntmps29
    go_wp2_with (first
      | (go_at_call_of 11 (Value.slice A a.length c); go_must (refine (CA.out _ (HT.out _ (Below.refl _ _))).mono ?_; rintro e1 w1 ⟨rfl, b1⟩))
      | (go_at_call 11; go_must (refine (CB.out _ (HU.out _ b1)).mono ?_; rintro e2 w2 ⟨rfl, b2⟩)))
    go_returns
    exact RnRes.no HL.out (b1.trans (b2.mono b1.size))
  have h6' : ¬ (262144 : Int) < a.length + b.length := by omega
  have HZ := Lib.hid (show 1099511627776 < lgV a + lgV b → jnR a b = ([], 2) from fun h => H2.out h6 h)
  have HJ := Lib.hid (show ¬ 1099511627776 < lgV a + lgV b → jnR a b = (jn (a ++ b), 0) from fun h => H0.out h6 h)
  have HVJ : Hid (lgV a + lgV b ≤ 1099511627776 → vl (a ++ b) = true) := Lib.hid fun h => (vl_iff _).2 ⟨by rw [List.length_append]; omega, by rw [gd_append]; exact ⟨VA.out.2.1, VB.out.2.1⟩, by rw [lg_append, ← hlga.out, ← hlgb.out]; exact h⟩
  clear H2 H0
  generalize lgV a = GA at *
  generalize lgV b = GB at *
  by_cases h2 : 1099511627776 < GA + GB
  · have HL := Lib.hid (HZ.out h2)
    go_enter Try.func29, Try.ntmps29
    go_wp2_with (first
      | (go_at_call_of 11 (Value.slice A a.length c); go_must (refine (CA.out _ (HT.out _ (Below.refl _ _))).mono ?_; rintro e1 w1 ⟨rfl, b1⟩))
      | (go_at_call 11; go_must (refine (CB.out _ (HU.out _ b1)).mono ?_; rintro e2 w2 ⟨rfl, b2⟩; have B2 := Lib.hid (b1.trans (b2.mono b1.size)); clear b2))
      | (go_at_call_of 16 (Value.slice A a.length c); go_must (refine (LA.out _ (HT.out _ B2.out)).mono ?_; rintro e3 w3 ⟨rfl, b3⟩; have B3 := Lib.hid (B2.out.trans (b3.mono B2.out.size)); clear b3))
      | (go_at_call 16; go_must (refine (LB.out _ (HU.out _ B3.out)).mono ?_; rintro e4 w4 ⟨rfl, b4⟩; have B4 := Lib.hid (B3.out.trans (b4.mono B3.out.size)); clear b4)))
    go_returns
    exact RnRes.no HL.out B4.out
  have HL := Lib.hid (HJ.out h2)
  have HVV := Lib.hid (HVJ.out (by omega))
  have C3 := Lib.hid (fun g c B w' h1 h2 => joined_any (a ++ b) g (a.length + b.length) c B w' h1 HVV.out h2)
  have hX1 := Lib.hid (show (List.replicate (a.length + b.length) ((0, 0) : Rn)).take 0 ++ a ++ (List.replicate (a.length + b.length) ((0, 0) : Rn)).drop (0 + a.length) = a ++ List.replicate b.length (0, 0) by simp)
  have hX2 := Lib.hid (show (a ++ List.replicate b.length ((0, 0) : Rn)).take a.length ++ b ++ (a ++ List.replicate b.length ((0, 0) : Rn)).drop (a.length + b.length) = a ++ b by simp [List.drop_append])
  have hL1 := Lib.hid (show 0 + a.length ≤ (List.replicate (a.length + b.length) ((0, 0) : Rn)).length by simp)
  have hL2 := Lib.hid (show a.length + b.length ≤ (a ++ List.replicate b.length ((0, 0) : Rn)).length by simp)
  clear h6 HZ HJ HVJ
  rcases Nat.eq_zero_or_pos b.length with hb0 | hb0
  · have hbn : b = [] := List.eq_nil_of_length_eq_zero hb0
    subst hbn
    clear hb0
    simp only [List.length_nil, Nat.add_zero] at *
    have hrun := fun (g : Nat) (w : World) => run_copy_no (P := Try.prog) (ty := 3) w Try.underlying22 run_size (some ⟨g, 0, none⟩) D 0 0 0 d rfl
    have hX3 : Hid (a ++ List.replicate 0 ((0, 0) : Rn) = a ++ []) := Lib.hid rfl
    go_enter Try.func29, Try.ntmps29
    go_wp2_with (first
      | (go_at_call_of 11 (Value.slice A a.length c); go_must (refine (CA.out _ (HT.out _ (Below.refl _ _))).mono ?_; rintro e1 w1 ⟨rfl, b1⟩))
      | (go_at_call 11; go_must (refine (CB.out _ (HU.out _ b1)).mono ?_; rintro e2 w2 ⟨rfl, b2⟩; have B2 := Lib.hid (b1.trans (b2.mono b1.size)); clear b2))
      | (go_at_call_of 16 (Value.slice A a.length c); go_must (refine (LA.out _ (HT.out _ B2.out)).mono ?_; rintro e3 w3 ⟨rfl, b3⟩; have B3 := Lib.hid (B2.out.trans (b3.mono B2.out.size)); clear b3))
      | (go_at_call 16; go_must (refine (LB.out _ (HU.out _ B3.out)).mono ?_; rintro e4 w4 ⟨rfl, b4⟩; have B4 := Lib.hid (B3.out.trans (b4.mono B3.out.size)); clear b4))
      | (at_make; go_must (refine wpList_make_k (n := a.length) (enc := rnC) Try.underlying22 run_info ((0, 0) : Rn) rfl rfl rfl _ _ rfl rfl rfl (by simp) (by simp) (by omega) (by omega) (Nat.le_refl _) ?_; intro w5 R5 b5; have B5 := Lib.hid (B4.out.trans (b5.mono B4.out.size)); clear b5))
      | (refine wpList_copy_k (o := ⟨some 35, _, _, _, _, _⟩) Try.underlying22 run_size (by omega) rnC_size rnC_one rfl _ _ rfl rfl rfl R5 (HT.out _ B5.out) (Nat.le_refl _) hL1.out (fun _ => rfl) ?_; intro w6 R6 b6; rw [hX1.out] at R6; have B6 := Lib.hid (B5.out.trans (b6.mono B4.out.size)); clear b6 R5)
      | (go_at_call 35; go_must (refine (C3.out _ _ _ _ (by rw [← hX3.out]; exact R6) (Nat.le_of_lt (Nat.lt_of_le_of_lt R6.len.2.2.1 R6.len.2.2.2))).mono ?_; rintro e8 w8 ⟨v8, rfl, r8, b8⟩)))
    go_returns
    exact RnRes.yes HL.out (r8.mono B4.out.size) (B6.out.trans (b8.mono B4.out.size))
  · have hbne : ¬ b = [] := by rintro rfl; simp at hb0
    go_enter Try.func29, Try.ntmps29
    go_wp2_with (first
      | (go_at_call_of 11 (Value.slice A a.length c); go_must (refine (CA.out _ (HT.out _ (Below.refl _ _))).mono ?_; rintro e1 w1 ⟨rfl, b1⟩))
      | (go_at_call 11; go_must (refine (CB.out _ (HU.out _ b1)).mono ?_; rintro e2 w2 ⟨rfl, b2⟩; have B2 := Lib.hid (b1.trans (b2.mono b1.size)); clear b2))
      | (go_at_call_of 16 (Value.slice A a.length c); go_must (refine (LA.out _ (HT.out _ B2.out)).mono ?_; rintro e3 w3 ⟨rfl, b3⟩; have B3 := Lib.hid (B2.out.trans (b3.mono B2.out.size)); clear b3))
      | (go_at_call 16; go_must (refine (LB.out _ (HU.out _ B3.out)).mono ?_; rintro e4 w4 ⟨rfl, b4⟩; have B4 := Lib.hid (B3.out.trans (b4.mono B3.out.size)); clear b4))
      | (at_make; go_must (refine wpList_make_k (n := a.length + b.length) (enc := rnC) Try.underlying22 run_info ((0, 0) : Rn) rfl rfl rfl _ _ rfl rfl rfl (by simp) (by simp) (by omega) (by omega) (Nat.le_refl _) ?_; intro w5 R5 b5; have B5 := Lib.hid (B4.out.trans (b5.mono B4.out.size)); clear b5))
      | (refine wpList_copy_k (o := ⟨some 35, _, _, _, _, _⟩) Try.underlying22 run_size (by omega) rnC_size rnC_one rfl _ _ rfl rfl rfl R5 (HT.out _ B5.out) (Nat.le_add_right _ _) hL1.out (fun _ => rfl) ?_; intro w6 R6 b6; rw [hX1.out] at R6; have B6 := Lib.hid (B5.out.trans (b6.mono B4.out.size)); clear b6 R5)
      | (refine wpList_copy_k (o := ⟨some 41, _, _, _, _, _⟩) (off := a.length) Try.underlying22 run_size (by omega) rnC_size rnC_one rfl (.tmp 39) (.tmp 40) rfl rfl rfl R6 (HU.out _ B6.out) (Nat.le_refl _) hL2.out (fun _ => rfl) ?_; intro w7 R7 b7; rw [hX2.out] at R7; have B7 := Lib.hid (B6.out.trans (b7.mono B4.out.size)); clear b7 R6)
      | (go_at_call 35; go_must (refine (C3.out _ _ _ _ R7 (Nat.le_of_lt (Nat.lt_of_le_of_lt R7.len.2.2.1 R7.len.2.2.2))).mono ?_; rintro e8 w8 ⟨v8, rfl, r8, b8⟩)))
    go_returns
    exact RnRes.yes HL.out (r8.mono B4.out.size) (B7.out.trans (b8.mono B4.out.size))

end Go.Proofs.Ytpingfcmgffboaa
