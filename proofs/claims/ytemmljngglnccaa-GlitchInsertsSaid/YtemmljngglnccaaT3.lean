/-
  Insert.
-/
import Derived.Test.YtemmljngglnccaaT2
import Derived.Test.YtemmljngglnccaaW3
import Derived.Test.YtemmljngglnccaaW5
namespace Go.Proofs.Ytemmljngglnccaa
open Go Go.RowKit Go.Joins
set_option linter.unusedVariables false
set_option linter.unusedSimpArgs false

theorem es_good {l : List Rn} (h : vl l = true) (h0 : 1 ≤ lg l) : oe 0 (es (cl l)) (lg l) = true ∧ ((atV l 0).1 = 0 ∨ (atV l 0).1 = 1) ∧ (es (cl l)).length ≤ 262144 := by
  obtain ⟨v1, v2, v3⟩ := (vl_iff l).1 h
  have hne : l ≠ [] := by rintro rfl; simp only [lg] at h0; omega
  obtain ⟨w1, w2⟩ := again h hne
  rw [lgV_yes h] at w2
  have hlv : (atV l 0).1 = 0 ∨ (atV l 0).1 = 1 := by
    rcases atV_one l 0 with h | h
    · exact h.2
    · rw [h] at w1; cases w1
  have hl := es_len (cl l)
  have hc := cl_len l
  refine ⟨?_, hlv, by omega⟩
  cases hc : oe 0 (es (cl l)) (lg l) with
  | true => rfl
  | false =>
    by_cases hh : 262144 ≤ (es (cl l)).length
    · rw [feR_6 hlv (by omega) hh] at w2; exact absurd (show (6 : Int) = 0 from congrArg Prod.snd w2) (by decide)
    · rw [feR_7 hlv (by omega) hh hc] at w2; exact absurd (show (7 : Int) = 0 from congrArg Prod.snd w2) (by decide)

set_option maxRecDepth 100000 in
set_option maxHeartbeats 8000000 in
theorem insertG_any (l : List Rn) (a t : Int) (V : Value) (w : World) (hT : RnArg w V l) (ha1 : a ≤ 9223372036854775807) (ht1 : t ≤ 9223372036854775807) :
    Calls Try.prog 20 #[V, .int .i64 a, .int .i64 t] w (RnRes (inR l a t) w) := by
  have HV := Lib.hid (fun w' (hb : Below w.heap.size w w') => valid_any l V w' (hT.keep hb))
  cases hv : vl l with
  | false =>
    have HR := Lib.hid (inR_1 (l := l) (a := a) (t := t) (by rw [hv]; decide))
    rw [hv] at HV
    obtain ⟨A, c, rfl⟩ := hT.form
    clear hv hT
    go_enter Try.func20, Try.ntmps20
    go_wp2_with (first
      | (go_at_call 23; go_must (refine (HV.out _ (Below.refl _ _)).mono ?_; rintro e1 w1 ⟨rfl, b1⟩; have B1 := Lib.hid b1; clear b1)))
    go_returns
    exact RnRes.no HR.out B1.out
  | true =>
    have HL := fun w' (hb : Below w.heap.size w w') => long_any l V w' (hT.keep hb)
    rw [hv] at HV
    rw [lgV_yes hv] at HL
    have HL := Lib.hid HL
    obtain ⟨v1, v2, v3⟩ := (vl_iff l).1 hv
    have hg0 := gd_nonneg v2
    by_cases hbad : a < 0 ∨ t < 1 ∨ lg l - a < t
    · have HR := Lib.hid (inR_2 hv hbad)
      obtain ⟨A, c, rfl⟩ := hT.form
      clear hv hT v1 v2
      generalize lg l = G at *
      by_cases d1 : a < 0
      · have d1' : decide (a < 0) = true := decide_eq_true d1
        clear hbad
        go_enter Try.func20, Try.ntmps20
        go_wp2_with (first
          | (go_at_call 23; go_must (refine (HV.out _ (Below.refl _ _)).mono ?_; rintro e1 w1 ⟨rfl, b1⟩; have B1 := Lib.hid b1; clear b1))
          | (go_at_call 25; go_must (refine (HL.out _ B1.out).mono ?_; rintro e2 w2 ⟨rfl, b2⟩; have B2 := Lib.hid (B1.out.trans (b2.mono B1.out.size)); clear b2)))
        go_returns
        exact RnRes.no HR.out B2.out
      have d1' : decide (a < 0) = false := decide_eq_false d1
      by_cases d2 : t < 1
      · have d2' : decide (t < 1) = true := decide_eq_true d2
        clear hbad
        go_enter Try.func20, Try.ntmps20
        go_wp2_with (first
          | (go_at_call 23; go_must (refine (HV.out _ (Below.refl _ _)).mono ?_; rintro e1 w1 ⟨rfl, b1⟩; have B1 := Lib.hid b1; clear b1))
          | (go_at_call 25; go_must (refine (HL.out _ B1.out).mono ?_; rintro e2 w2 ⟨rfl, b2⟩; have B2 := Lib.hid (B1.out.trans (b2.mono B1.out.size)); clear b2)))
        go_returns
        exact RnRes.no HR.out B2.out
      have d2' : decide (t < 1) = false := decide_eq_false d2
      have d3 : G - a < t := by omega
      have d3' : decide (G - a < t) = true := decide_eq_true d3
      have hw := IntWalk.i64_in (G - a) (by omega)
      clear hbad
      go_enter Try.func20, Try.ntmps20
      go_wp2_with (first
        | (go_at_call 23; go_must (refine (HV.out _ (Below.refl _ _)).mono ?_; rintro e1 w1 ⟨rfl, b1⟩; have B1 := Lib.hid b1; clear b1))
        | (go_at_call 25; go_must (refine (HL.out _ B1.out).mono ?_; rintro e2 w2 ⟨rfl, b2⟩; have B2 := Lib.hid (B1.out.trans (b2.mono B1.out.size)); clear b2)))
      go_returns
      exact RnRes.no HR.out B2.out
    · have d1 : ¬ a < 0 := by omega
      have d2 : ¬ t < 1 := by omega
      have d3 : ¬ lg l - a < t := by omega
      have d1' : decide (a < 0) = false := decide_eq_false d1
      have d2' : decide (t < 1) = false := decide_eq_false d2
      have d3' : decide (lg l - a < t) = false := decide_eq_false d3
      have hw := IntWalk.i64_in (lg l - a) (by omega)
      have hw2 := IntWalk.i64_in (a + t) (by omega)
      obtain ⟨g1, g2, g3⟩ := es_good hv (by omega)
      obtain ⟨p1, _⟩ := oe_pair _ 0 g1
      have HA := fun w' (hb : Below w.heap.size w w') => at_any l V 0 w' (hT.keep hb) (by omega)
      have HE := Lib.hid (fun w' (hb : Below w.heap.size w w') => edges_any l V w' (hT.keep hb))
      have hins := fun v q q' h1 h2 h3 => ins_edges (l := l) (a := a) (t := t) (v := v) (q := q) (q' := q') hv (by omega) (by omega) (by omega) h1 h2 h3
      obtain ⟨A, c, rfl⟩ := hT.form
      obtain ⟨L0, O0⟩ : ∃ x : Int × Bool, x = atV l 0 := ⟨_, rfl⟩
      obtain ⟨f, o⟩ := L0
      rw [← O0] at HA hins g2
      simp only at g2 hins
      have HA := Lib.hid (show ∀ w', Below w.heap.size w w' → Calls Try.prog 35 #[.slice A l.length c, .int .i64 0] w' fun e w'' => e = .returned (.tuple #[.int .i64 f, .bool o]) ∧ Below w'.heap.size w' w'' from HA)
      clear O0 hT
      have hw3 := IntWalk.i64_in (1 - f) (by omega)
      by_cases hz : a = 0
      · have hz' : (a == 0) = true := by rw [beq_iff_eq]; exact hz
        by_cases hs : a + t < lg l
        · have hs' : decide (a + t < lg l) = true := decide_eq_true hs
          have hI := hins _ _ _ (if_pos hz).symm (if_pos hz).symm (if_pos hs).symm
          have HT2 := Lib.hid (fun V' w' (h1 : InRow w' w.heap.size V' (es (cl l))) (hb : w.heap.size ≤ w'.heap.size) => turned_any (es (cl l)) w.heap.size V' (a + t) w' h1 hb p1 (by omega))
          have HF0 := (fun V' w' (h1 : InArg w' V' (tn (es (cl l)) (a + t))) => hI ▸ from_any (1 - f) (tn (es (cl l)) (a + t)) V' (lg l) w' h1)
          clear hins hI g1 p1 hv v1 v2 hz
          generalize inR l a t = P at *
          obtain ⟨PR, PE⟩ := P
          generalize tn (es (cl l)) (a + t) = q2 at *
          generalize es (cl l) = q at *
          generalize lg l = G at *
          have HF := Lib.hid (show ∀ V' w', InArg w' V' q2 → Calls Try.prog 38 #[.int .i64 (1 - f), V', .int .i64 G] w' fun e w'' => ∃ v : Value, e = .returned (.tuple #[v, .int .i64 PE]) ∧ RnRow w'' w'.heap.size v PR ∧ Below w'.heap.size w' w'' from HF0)
          clear HF0
          go_enter Try.func20, Try.ntmps20
          go_wp2_with (first
            | (go_at_call 23; go_must (refine (HV.out _ (Below.refl _ _)).mono ?_; rintro e1 w1 ⟨rfl, b1⟩; have B1 := Lib.hid b1; clear b1))
            | (go_at_call 25; go_must (refine (HL.out _ B1.out).mono ?_; rintro e2 w2 ⟨rfl, b2⟩; have B2 := Lib.hid (B1.out.trans (b2.mono B1.out.size)); clear b2))
            | (go_at_call 35; go_must (refine (HA.out _ B2.out).mono ?_; rintro e3 w3 ⟨rfl, b3⟩; have B3 := Lib.hid (B2.out.trans (b3.mono B2.out.size)); clear b3))
            | (go_at_call 36; go_must (refine (HE.out _ B3.out).mono ?_; rintro e4 w4 ⟨v4, rfl, r4, b4⟩; obtain ⟨EA, EN, EC, rfl, rfl⟩ := KRow.form r4; have B4 := Lib.hid (B3.out.trans (b4.mono B3.out.size)); have R4 := Lib.hid (KRow.mono r4 B3.out.size); clear r4 b4))
            | (go_at_call 37; go_must (have tok := R4.out; refine (HT2.out _ _ R4.out B4.out.size).mono ?_; rintro e6 w6 ⟨v6, rfl, r6, b6⟩; obtain ⟨GA, GN, GC, rfl, rfl⟩ := KRow.form r6; have B6 := Lib.hid (B4.out.trans b6); have R6 := Lib.hid r6; clear r6 b6))
            | (go_at_call 38; go_must (refine (HF.out _ _ (KRow.arg inC_size R6.out)).mono ?_; rintro e7 w7 ⟨v7, rfl, r7, b7⟩; obtain ⟨HA', HN, HC, rfl, hHN⟩ := KRow.form r7; clear hHN; have B7 := Lib.hid (B6.out.trans (b7.mono B6.out.size)); have R7 := Lib.hid (KRow.mono r7 B6.out.size); clear r7 b7)))
          go_returns
          exact ⟨_, rfl, R7.out, B7.out⟩
        · have hs' : decide (a + t < lg l) = false := decide_eq_false hs
          have hI := hins _ _ _ (if_pos hz).symm (if_pos hz).symm (if_neg hs).symm
          have HF0 := (fun V' w' (h1 : InArg w' V' (es (cl l))) => hI ▸ from_any (1 - f) (es (cl l)) V' (lg l) w' h1)
          clear hins hI g1 p1 hv v1 v2 hz
          generalize inR l a t = P at *
          obtain ⟨PR, PE⟩ := P
          generalize es (cl l) = q at *
          generalize lg l = G at *
          have HF := Lib.hid (show ∀ V' w', InArg w' V' q → Calls Try.prog 38 #[.int .i64 (1 - f), V', .int .i64 G] w' fun e w'' => ∃ v : Value, e = .returned (.tuple #[v, .int .i64 PE]) ∧ RnRow w'' w'.heap.size v PR ∧ Below w'.heap.size w' w'' from HF0)
          clear HF0
          go_enter Try.func20, Try.ntmps20
          go_wp2_with (first
            | (go_at_call 23; go_must (refine (HV.out _ (Below.refl _ _)).mono ?_; rintro e1 w1 ⟨rfl, b1⟩; have B1 := Lib.hid b1; clear b1))
            | (go_at_call 25; go_must (refine (HL.out _ B1.out).mono ?_; rintro e2 w2 ⟨rfl, b2⟩; have B2 := Lib.hid (B1.out.trans (b2.mono B1.out.size)); clear b2))
            | (go_at_call 35; go_must (refine (HA.out _ B2.out).mono ?_; rintro e3 w3 ⟨rfl, b3⟩; have B3 := Lib.hid (B2.out.trans (b3.mono B2.out.size)); clear b3))
            | (go_at_call 36; go_must (refine (HE.out _ B3.out).mono ?_; rintro e4 w4 ⟨v4, rfl, r4, b4⟩; obtain ⟨EA, EN, EC, rfl, rfl⟩ := KRow.form r4; have B4 := Lib.hid (B3.out.trans (b4.mono B3.out.size)); have R4 := Lib.hid (KRow.mono r4 B3.out.size); clear r4 b4))
            | (go_at_call 38; go_must (refine (HF.out _ _ (KRow.arg inC_size R4.out)).mono ?_; rintro e7 w7 ⟨v7, rfl, r7, b7⟩; obtain ⟨HA', HN, HC, rfl, hHN⟩ := KRow.form r7; clear hHN; have B7 := Lib.hid (B4.out.trans (b7.mono B4.out.size)); have R7 := Lib.hid (KRow.mono r7 B4.out.size); clear r7 b7)))
          go_returns
          exact ⟨_, rfl, R7.out, B7.out⟩
      · have hz' : (a == 0) = false := by rw [beq_eq_false_iff_ne]; exact hz
        have HT1 := Lib.hid (fun V' w' (h1 : InRow w' w.heap.size V' (es (cl l))) (hb : w.heap.size ≤ w'.heap.size) => turned_any (es (cl l)) w.heap.size V' a w' h1 hb p1 (by omega))
        obtain ⟨p2, _⟩ := oe_pair _ 0 (oe_tn (es (cl l)) 0 g1 (show 0 < a by omega) (show a < lg l by omega))
        have hl2 := tn_len (es (cl l)) a
        by_cases hs : a + t < lg l
        · have hs' : decide (a + t < lg l) = true := decide_eq_true hs
          have hI := hins _ _ _ (if_neg hz).symm (if_neg hz).symm (if_pos hs).symm
          have HT2 := Lib.hid (fun V' w' (h1 : InRow w' w.heap.size V' (tn (es (cl l)) a)) (hb : w.heap.size ≤ w'.heap.size) => turned_any (tn (es (cl l)) a) w.heap.size V' (a + t) w' h1 hb p2 (by omega))
          have HF0 := (fun V' w' (h1 : InArg w' V' (tn (tn (es (cl l)) a) (a + t))) => hI ▸ from_any f (tn (tn (es (cl l)) a) (a + t)) V' (lg l) w' h1)
          clear hins hI g1 p1 p2 hl2 hv v1 v2 hz
          generalize inR l a t = P at *
          obtain ⟨PR, PE⟩ := P
          generalize tn (tn (es (cl l)) a) (a + t) = q2 at *
          generalize tn (es (cl l)) a = q1 at *
          generalize es (cl l) = q at *
          generalize lg l = G at *
          have HF := Lib.hid (show ∀ V' w', InArg w' V' q2 → Calls Try.prog 38 #[.int .i64 f, V', .int .i64 G] w' fun e w'' => ∃ v : Value, e = .returned (.tuple #[v, .int .i64 PE]) ∧ RnRow w'' w'.heap.size v PR ∧ Below w'.heap.size w' w'' from HF0)
          clear HF0
          go_enter Try.func20, Try.ntmps20
          go_wp2_with (first
            | (go_at_call 23; go_must (refine (HV.out _ (Below.refl _ _)).mono ?_; rintro e1 w1 ⟨rfl, b1⟩; have B1 := Lib.hid b1; clear b1))
            | (go_at_call 25; go_must (refine (HL.out _ B1.out).mono ?_; rintro e2 w2 ⟨rfl, b2⟩; have B2 := Lib.hid (B1.out.trans (b2.mono B1.out.size)); clear b2))
            | (go_at_call 35; go_must (refine (HA.out _ B2.out).mono ?_; rintro e3 w3 ⟨rfl, b3⟩; have B3 := Lib.hid (B2.out.trans (b3.mono B2.out.size)); clear b3))
            | (go_at_call 36; go_must (refine (HE.out _ B3.out).mono ?_; rintro e4 w4 ⟨v4, rfl, r4, b4⟩; obtain ⟨EA, EN, EC, rfl, rfl⟩ := KRow.form r4; have B4 := Lib.hid (B3.out.trans (b4.mono B3.out.size)); have R4 := Lib.hid (KRow.mono r4 B3.out.size); clear r4 b4))
            | (go_at_call 37; go_must (first | (have tok := R5.out; refine (HT2.out _ _ R5.out B5.out.size).mono ?_; rintro e6 w6 ⟨v6, rfl, r6, b6⟩; obtain ⟨GA, GN, GC, rfl, rfl⟩ := KRow.form r6; have B6 := Lib.hid (B5.out.trans b6); have R6 := Lib.hid r6; clear r6 b6) | (have tok := R4.out; refine (HT1.out _ _ R4.out B4.out.size).mono ?_; rintro e5 w5 ⟨v5, rfl, r5, b5⟩; obtain ⟨FA, FN', FC, rfl, rfl⟩ := KRow.form r5; have B5 := Lib.hid (B4.out.trans b5); have R5 := Lib.hid r5; clear r5 b5)))
            | (go_at_call 38; go_must (refine (HF.out _ _ (KRow.arg inC_size R6.out)).mono ?_; rintro e7 w7 ⟨v7, rfl, r7, b7⟩; obtain ⟨HA', HN, HC, rfl, hHN⟩ := KRow.form r7; clear hHN; have B7 := Lib.hid (B6.out.trans (b7.mono B6.out.size)); have R7 := Lib.hid (KRow.mono r7 B6.out.size); clear r7 b7)))
          go_returns
          exact ⟨_, rfl, R7.out, B7.out⟩
        · have hs' : decide (a + t < lg l) = false := decide_eq_false hs
          have hI := hins _ _ _ (if_neg hz).symm (if_neg hz).symm (if_neg hs).symm
          have HF0 := (fun V' w' (h1 : InArg w' V' (tn (es (cl l)) a)) => hI ▸ from_any f (tn (es (cl l)) a) V' (lg l) w' h1)
          clear hins hI g1 p1 p2 hl2 hv v1 v2 hz
          generalize inR l a t = P at *
          obtain ⟨PR, PE⟩ := P
          generalize tn (es (cl l)) a = q1 at *
          generalize es (cl l) = q at *
          generalize lg l = G at *
          have HF := Lib.hid (show ∀ V' w', InArg w' V' q1 → Calls Try.prog 38 #[.int .i64 f, V', .int .i64 G] w' fun e w'' => ∃ v : Value, e = .returned (.tuple #[v, .int .i64 PE]) ∧ RnRow w'' w'.heap.size v PR ∧ Below w'.heap.size w' w'' from HF0)
          clear HF0
          go_enter Try.func20, Try.ntmps20
          go_wp2_with (first
            | (go_at_call 23; go_must (refine (HV.out _ (Below.refl _ _)).mono ?_; rintro e1 w1 ⟨rfl, b1⟩; have B1 := Lib.hid b1; clear b1))
            | (go_at_call 25; go_must (refine (HL.out _ B1.out).mono ?_; rintro e2 w2 ⟨rfl, b2⟩; have B2 := Lib.hid (B1.out.trans (b2.mono B1.out.size)); clear b2))
            | (go_at_call 35; go_must (refine (HA.out _ B2.out).mono ?_; rintro e3 w3 ⟨rfl, b3⟩; have B3 := Lib.hid (B2.out.trans (b3.mono B2.out.size)); clear b3))
            | (go_at_call 36; go_must (refine (HE.out _ B3.out).mono ?_; rintro e4 w4 ⟨v4, rfl, r4, b4⟩; obtain ⟨EA, EN, EC, rfl, rfl⟩ := KRow.form r4; have B4 := Lib.hid (B3.out.trans (b4.mono B3.out.size)); have R4 := Lib.hid (KRow.mono r4 B3.out.size); clear r4 b4))
            | (go_at_call 37; go_must (have tok := R4.out; refine (HT1.out _ _ R4.out B4.out.size).mono ?_; rintro e5 w5 ⟨v5, rfl, r5, b5⟩; obtain ⟨FA, FN', FC, rfl, rfl⟩ := KRow.form r5; have B5 := Lib.hid (B4.out.trans b5); have R5 := Lib.hid r5; clear r5 b5))
            | (go_at_call 38; go_must (refine (HF.out _ _ (KRow.arg inC_size R5.out)).mono ?_; rintro e7 w7 ⟨v7, rfl, r7, b7⟩; obtain ⟨HA', HN, HC, rfl, hHN⟩ := KRow.form r7; clear hHN; have B7 := Lib.hid (B5.out.trans (b7.mono B5.out.size)); have R7 := Lib.hid (KRow.mono r7 B5.out.size); clear r7 b7)))
          go_returns
          exact ⟨_, rfl, R7.out, B7.out⟩
end Go.Proofs.Ytemmljngglnccaa
