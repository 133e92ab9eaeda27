/-
  The walk of the statement FeedSplits.
-/
import Derived.Test.YtcodoakfomddfaaT24
import Derived.Test.YtcodoakfomddfaaT22
namespace Go.Proofs.Ytcodoakfomddfaa
open Go Go.RowKit Go.Joins
set_option linter.unusedVariables false
set_option linter.unusedSimpArgs false

theorem spl_len (zs : List Int) (es : List Ev) : (spl zs es).length ≤ es.length * (zs.length + 1) := by
  induction es with
  | nil => simp [spl]
  | cons e es ih =>
    have h1 := spE_len zs e
    have h2 : spl zs (e :: es) = spE zs e ++ spl zs es := rfl
    rw [h2, List.length_append, List.length_cons, Nat.add_mul]
    omega
set_option maxRecDepth 100000 in
set_option maxHeartbeats 8000000 in
theorem law_splits (l : List Ev) (zs : List Int) (V A : Value) (w : World) (hT : EvArg w V l) (hA : TkArg w A zs) : Calls Try.prog 5 #[V, A] w fun e w' => e = .returned (.bool true) ∧ Below w.heap.size w w' := by
  by_cases h1 : l.length ≤ 200
  · by_cases h2 : zs.length ≤ 200
    · have hb : l.length * (zs.length + 1) ≤ 200 * 201 := Nat.mul_le_mul h1 (by omega)
      have KC := Lib.hid (split_any l zs V A w hT hA (by omega) (by omega))
      have KD := Lib.hid (fun w' (hb' : Below w.heap.size w w') => refSplit_any l zs V A w' (hT.keep hb') (hA.keep hb') (by omega) (by omega))
      have hm : (spl zs l).length ≤ 2199023255550 := by have := spl_len zs l; omega
      have HS := Lib.hid (fun V V' W h1 h2 => same_any (spl zs l) V V' W h1 h2 hm)
      clear hm hb
      obtain ⟨A1, c1, rfl⟩ := hT.form
      obtain ⟨A2, c2, rfl⟩ := hA.form
      clear hT hA
      generalize spl zs l = M at *
      have d1 : decide ((200 : Int) < (l.length : Int)) = false := decide_eq_false (by omega)
      have d2 : decide ((200 : Int) < (zs.length : Int)) = false := decide_eq_false (by omega)
      clear h1 h2
      go_enter Try.func5, Try.ntmps5
      go_wp2_with (first
        | (go_at_call 15; go_must (refine KC.out.mono ?_; rintro e1 w1 ⟨v1, rfl, r1, b1⟩; obtain ⟨UA, UN, UC, rfl, hUN⟩ := KRow.form r1; clear hUN; have R0 := Lib.hid (r1.arg evC_size); have B1 := Lib.hid b1; clear r1 b1))
        | (go_at_call 16; go_must (refine (KD.out _ B1.out).mono ?_; rintro e2 w2 ⟨v2, rfl, r2, b2⟩; obtain ⟨VA, VN, VC, rfl, hVN⟩ := KRow.form r2; clear hVN; have R1 := Lib.hid (R0.out.keep b2); have R2 := Lib.hid (r2.arg evC_size); have B2 := Lib.hid (B1.out.trans (b2.mono B1.out.size)); clear r2 b2))
        | (go_at_call 11; go_must (refine (HS.out _ _ _ R1.out R2.out).mono ?_; rintro e3 w3 ⟨rfl, b3⟩; have B3 := Lib.hid (B2.out.trans (b3.mono B2.out.size)); clear b3))
        | (go_at_call 12; go_must (refine (awake_any _).mono ?_; rintro ez wz ⟨rfl, bz⟩; have BZ := Lib.hid (B3.out.trans (bz.mono B3.out.size)); clear bz)))
      go_returns
      exact ⟨rfl, BZ.out⟩
    · obtain ⟨A1, c1, rfl⟩ := hT.form
      obtain ⟨A2, c2, rfl⟩ := hA.form
      clear hT hA
      have d1 : decide ((200 : Int) < (l.length : Int)) = false := decide_eq_false (by omega)
      have d2 : decide ((200 : Int) < (zs.length : Int)) = true := decide_eq_true (by omega)
      clear h1 h2
      go_enter Try.func5, Try.ntmps5
      go_wp2_with (first
        | (go_at_call 12; go_must (refine (awake_any _).mono ?_; rintro ez wz ⟨rfl, bz⟩; have BZ := Lib.hid bz; clear bz)))
      go_returns
      exact ⟨rfl, BZ.out⟩
  · obtain ⟨A1, c1, rfl⟩ := hT.form
    obtain ⟨A2, c2, rfl⟩ := hA.form
    clear hT hA
    have d1 : decide ((200 : Int) < (l.length : Int)) = true := decide_eq_true (by omega)
    clear h1
    go_enter Try.func5, Try.ntmps5
    go_wp2_with (first
      | (go_at_call 12; go_must (refine (awake_any _).mono ?_; rintro ez wz ⟨rfl, bz⟩; have BZ := Lib.hid bz; clear bz)))
    go_returns
    exact ⟨rfl, BZ.out⟩
end Go.Proofs.Ytcodoakfomddfaa
