/-
  far.
-/
import Derived.Test.YtemmljngglnccaaT6
import Derived.Test.YtemmljngglnccaaW5
namespace Go.Proofs.Ytemmljngglnccaa
open Go Go.RowKit Go.Joins
set_option linter.unusedVariables false
set_option linter.unusedSimpArgs false

def okE (a t k e : Int) : Prop := ¬ (e ≤ a ∧ a - e < k) ∧ ¬ (a < e ∧ e - a < t) ∧ ¬ (a < e ∧ e - a - t < k)
set_option maxRecDepth 100000 in
set_option maxHeartbeats 8000000 in
theorem far_any (l : List Rn) (a t k : Int) (b : Bool) (V : Value) (w : World) (hT : RnArg w V l) (hv : vl l = true) (hb : b = true ↔ farP l a t k) (hk : k ≤ 1099511627776) :
    Calls Try.prog 26 #[V, .int .i64 a, .int .i64 t, .int .i64 k] w fun e w' => e = .returned (.bool b) ∧ Below w.heap.size w w' := by
  have HL := Lib.hid (long_any l V w hT)
  rw [lgV_yes hv] at HL
  have hG := (vl_iff _).1 hv
  have hG0 := gd_nonneg hG.2.1
  have hG1 := hG.2.2
  have HB := Lib.hid (show b = true ↔ (1 ≤ a ∧ 1 ≤ t ∧ a + t + 1 ≤ lg l ∧ ∀ e ∈ es (cl l), okE a t k e) from hb)
  have HED := Lib.hid (fun w' (h : Below w.heap.size w w') => edges_any l V w' (hT.keep h))
  have hQ : ∀ e ∈ es (cl l), -1099511627776 ≤ e ∧ e ≤ 1099511627776 := by
    intro e he
    have h1 : 1 ≤ lg l := by
      rcases Int.lt_or_le (lg l) 1 with h | h
      · have hz : l = [] := by
          cases l with
          | nil => rfl
          | cons r l =>
            have g := gd_cons.1 hG.2.1
            have n := gd_nonneg g.2
            have : lg (r :: l) = r.2 + lg l := rfl
            have := g.1.2
            omega
        subst hz
        have : cl ([] : List Rn) = [] := by rw [cl_yes hv]; rfl
        rw [this] at he
        cases he
      · exact h
    have g := es_good hv h1
    have p := (oe_pair _ _ g.1).2 e he
    have q : ∀ (q : List Int) (b n : Int), oe b q n = true → ∀ e ∈ q, e < n := by
      intro q
      induction q with
      | nil => intro b n _ e he; cases he
      | cons x q ih =>
        intro b n h e he
        obtain ⟨h1, h2, h3⟩ := oe_cons.1 h
        rcases List.mem_cons.1 he with rfl | he
        · exact h2
        · exact ih x n h3 e he
    have := q _ _ _ g.1 e he
    omega
  have hql : (es (cl l)).length ≤ 262144 := by
    have := es_len (cl l); have := ((vl_iff _).1 (cl_vl l)).1; omega
  obtain ⟨A, c, rfl⟩ := hT.form
  clear hT hv hG hb
  generalize lg l = G at *
  have FB : ¬ (1 ≤ a ∧ 1 ≤ t ∧ a + t + 1 ≤ G) → b = false := by
    intro hn
    cases b with
    | false => rfl
    | true => have := HB.out.1 rfl; exact absurd ⟨this.1, this.2.1, this.2.2.1⟩ hn
  have HFB := Lib.hid FB
  clear FB
  by_cases h1 : a < 1
  · obtain rfl := HFB.out (by omega)
    clear HED hQ hql HFB HB
    go_enter Try.func26, Try.ntmps26
    go_wp2_with (first
      | (go_at_call 25; go_must (refine HL.out.mono ?_; rintro e1 w1 ⟨rfl, b1⟩; have B1 := Lib.hid b1; clear b1)))
    go_returns
    exact ⟨rfl, B1.out⟩
  by_cases h2 : t < 1
  · obtain rfl := HFB.out (by omega)
    clear HED hQ hql HFB HB
    go_enter Try.func26, Try.ntmps26
    go_wp2_with (first
      | (go_at_call 25; go_must (refine HL.out.mono ?_; rintro e1 w1 ⟨rfl, b1⟩; have B1 := Lib.hid b1; clear b1)))
    go_returns
    exact ⟨rfl, B1.out⟩
  by_cases h3 : G < t
  · obtain rfl := HFB.out (by omega)
    clear HED hQ hql HFB HB
    go_enter Try.func26, Try.ntmps26
    go_wp2_with (first
      | (go_at_call 25; go_must (refine HL.out.mono ?_; rintro e1 w1 ⟨rfl, b1⟩; have B1 := Lib.hid b1; clear b1)))
    go_returns
    exact ⟨rfl, B1.out⟩
  have w1' := IntWalk.i64_in (G - t) (by omega)
  have w2' := IntWalk.i64_in (G - t - 1) (by omega)
  by_cases h4 : G - t - 1 < a
  · obtain rfl := HFB.out (by omega)
    clear HED hQ hql HFB HB
    go_enter Try.func26, Try.ntmps26
    go_wp2_with (first
      | (go_at_call 25; go_must (refine HL.out.mono ?_; rintro e1 w1 ⟨rfl, b1⟩; have B1 := Lib.hid b1; clear b1)))
    go_returns
    exact ⟨rfl, B1.out⟩
  clear HFB
  have HR := Lib.hid (show 1 ≤ a ∧ 1 ≤ t ∧ a + t + 1 ≤ G ∧ G ≤ 1099511627776 ∧ k ≤ 1099511627776 by omega)
  have HQ := Lib.hid hQ
  clear hQ hG0 hG1 hk
  generalize es (cl l) = q at *
  go_enter Try.func26, Try.ntmps26
  go_wp2_with (first
    | (go_at_call 25; go_must (refine HL.out.mono ?_; rintro e1 w1 ⟨rfl, b1⟩; have B1 := Lib.hid b1; clear b1))
    | (go_at_call 36; go_must (refine (HED.out _ B1.out).mono ?_; rintro e2 w2 ⟨v2, rfl, r2, b2⟩; obtain ⟨UA, UN, UC, rfl, rfl⟩ := KRow.form r2; have R2 := Lib.hid r2; have B2 := Lib.hid (B1.out.trans (b2.mono B1.out.size)); clear r2 b2)))
  clear HL HED B1
  have hql' : (q.length : Int) ≤ 262144 := by omega
  go_loop [11] (fun i => ∃ (j : Nat), j ≤ q.length ∧ i = .int .i64 j ∧ Hid (∀ p (hp : p < q.length), p < j → okE a t k q[p])) (fun i => q.length + 1 - (intOf i).toNat)
  case atStart => exact ⟨0, by omega, rfl, Lib.hid (fun p hp h => absurd h (by omega))⟩
  case round =>
    obtain ⟨j, hjl, rfl, HM⟩ := hrel
    by_cases hj : j < q.length
    · obtain ⟨g, o, he⟩ := KRow.full R2.out (by omega)
      obtain ⟨rfl, _, rfl⟩ := Value.slice.inj he
      have f0 := R2.out.cell inC_size j hj 0 (by omega)
      rw [Nat.mul_one, Nat.add_zero] at f0
      have f1 : w2.cell? ⟨g, j, none⟩ = some (.int .i64 q[j]) := f0
      clear he f0
      have hq := HQ.out q[j] (List.getElem_mem hj)
      have hr := HR.out
      have d0 : (j : Int) < (q.length : Int) := by omega
      have HJ := Lib.hid hj
      have HW := Lib.hid (show ¬ okE a t k q[j] → b = false by
        intro hn
        cases b with
        | false => rfl
        | true => exact absurd ((HB.out.1 rfl).2.2.2 q[j] (List.getElem_mem hj)) hn)
      have HN := Lib.hid (show okE a t k q[j] → ∀ p (hp : p < q.length), p < j + 1 → okE a t k q[p] by
        intro hn p hp h
        by_cases e : p = j
        · subst e; exact hn
        · exact HM.out p hp (by omega))
      clear HM
      generalize q[j] = e at *
      clear HQ
      have u1 := IntWalk.i64_in (a - e) (by omega)
      have u2 := IntWalk.i64_in (e - a) (by omega)
      have u3 := IntWalk.i64_in (e - a - t) (by omega)
      by_cases c1 : e ≤ a
      · have c1' : decide (e ≤ a) = true := decide_eq_true c1
        have c2 : ¬ a < e := by omega
        have c2' : decide (a < e) = false := decide_eq_false c2
        by_cases c3 : a - e < k
        · have c3' : decide (a - e < k) = true := decide_eq_true c3
          obtain rfl := HW.out (fun h => h.1 ⟨c1, c3⟩)
          clear HW HN HR hr
          go_wp2
          go_returns
          exact ⟨rfl, B2.out⟩
        · have c3' : decide (a - e < k) = false := decide_eq_false c3
          have HO := Lib.hid (HN.out ⟨fun h => c3 h.2, fun h => c2 h.1, fun h => c2 h.1⟩)
          clear HW HN HR hr
          go_wp2
          go_round
          case rel => exact ⟨j + 1, HJ.out, by go_num, HO⟩
          case measure => simp [intOf]; omega
      · have c1' : decide (e ≤ a) = false := decide_eq_false c1
        have c2 : a < e := by omega
        have c2' : decide (a < e) = true := decide_eq_true c2
        by_cases c3 : e - a < t
        · have c3' : decide (e - a < t) = true := decide_eq_true c3
          obtain rfl := HW.out (fun h => h.2.1 ⟨c2, c3⟩)
          clear HW HN HR hr
          go_wp2
          go_returns
          exact ⟨rfl, B2.out⟩
        · have c3' : decide (e - a < t) = false := decide_eq_false c3
          by_cases c4 : e - a - t < k
          · have c4' : decide (e - a - t < k) = true := decide_eq_true c4
            obtain rfl := HW.out (fun h => h.2.2 ⟨c2, c4⟩)
            clear HW HN HR hr
            go_wp2
            go_returns
            exact ⟨rfl, B2.out⟩
          · have c4' : decide (e - a - t < k) = false := decide_eq_false c4
            have HO := Lib.hid (HN.out ⟨fun h => c1 h.1, fun h => c3 h.2, fun h => c4 h.2⟩)
            clear HW HN HR hr
            go_wp2
            go_round
            case rel => exact ⟨j + 1, HJ.out, by go_num, HO⟩
            case measure => simp [intOf]; omega
    · obtain rfl : b = true := by
        refine HB.out.2 ⟨HR.out.1, HR.out.2.1, HR.out.2.2.1, fun e he => ?_⟩
        obtain ⟨p, hp, rfl⟩ := List.mem_iff_getElem.1 he
        exact HM.out p hp (by omega)
      have d0 : ¬ (j : Int) < (q.length : Int) := by omega
      go_wp2
      go_returns
      exact ⟨rfl, B2.out⟩
end Go.Proofs.Ytemmljngglnccaa
