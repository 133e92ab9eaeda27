/-
  The walk of the statement CaptureChecks.
-/
import Derived.Test.YtmfceiioigmnlaaW23
import Derived.Test.YtmfceiioigmnlaaW10
import Derived.Deep.RegionHeld3
namespace Go.Proofs.Ytmfceiioigmnlaa
open Go Go.RowKit Go.Joins
set_option linter.unusedVariables false
set_option linter.unusedSimpArgs false

theorem fewB_len {N : List ByteArray} {R : List Rn} (h : fewB N R = true) : N.length ≤ 100 ∧ R.length ≤ 2000 := by
  unfold fewB at h; simpa using h

set_option maxRecDepth 100000 in
set_option maxHeartbeats 8000000 in
theorem law_checks (N : List ByteArray) (R : List Rn) (vN vR : Value) (k : Int) (w : World) (hN : NmArg w vN N) (hs : szs N) (hR : RnArg w vR R) (hk : k ≤ 9223372036854775807) :
    Calls Try.prog 3 #[.agg #[vN, vR], .int .i64 k] w fun e w' => e = .returned (.bool true) ∧ Below w.heap.size w w' := by
  have HL := Lib.hid lives_any
  have HF := Lib.hid (fun w' (hb : Below w.heap.size w w') => few_any N R vN vR w' (hN.keep hb) (hR.keep hb))
  cases hf : fewB N R with
  | false =>
    rw [hf] at HF
    obtain ⟨A1, c1, rfl, q1⟩ := hN.form
    obtain ⟨A2, c2, rfl, q2⟩ := hR
    have B0 := Lib.hid (ba w (.cells #[.slice A1 N.length c1, .slice A2 R.length c2] 25))
    have P0 := Lib.hid (RowAt.new w 25 #[.slice A1 N.length c1, .slice A2 R.length c2])
    clear hf hN q1 q2 hs
    generalize N.length = n at *
    generalize R.length = r at *
    go_enter Try.func3, Try.ntmps3
    go_wp2_with (first
      | (go_at_call 10; go_must (refine (HL.out _).mono ?_; rintro e1 w1 ⟨rfl, b1⟩; have B1 := Lib.hid (B0.out.trans (b1.mono B0.out.size)); have P1 := P0.out.keep b1; have g0 := P1.cell 0; have g1 := P1.cell 1; clear P1 b1))
      | (go_at_call 11; go_must (refine (HF.out _ B1.out).mono ?_; rintro e2 w2 ⟨rfl, b2⟩; have B2 := Lib.hid (B1.out.trans (b2.mono B1.out.size)); clear b2)))
    go_returns
    exact ⟨rfl, B2.out⟩
  | true =>
  rw [hf] at HF
  obtain ⟨hn1, hn2⟩ := fewB_len hf
  have CA := fun w' (hb : Below w.heap.size w w') => at_any N R vN vR k w' (hN.keep hb) hs (hR.keep hb) (by omega) hk
  have CB := fun w' (hb : Below w.heap.size w w') => rat_any N R vN vR k w' (hN.keep hb) hs (hR.keep hb) (by omega) hk
  have CC := Lib.hid (fun w' (hb : Below w.heap.size w w') => check_any N R vN vR w' (hN.keep hb) hs (hR.keep hb) (by omega))
  have CD := Lib.hid (fun w' (hb : Below w.heap.size w w') => rcheck_any N R vN vR w' (hN.keep hb) hs (hR.keep hb) (by omega))
  have CG := Lib.hid (fun w' (hb : Below w.heap.size w w') => longC_any N R vN vR w' (hN.keep hb) hs (hR.keep hb) (by omega))
  have CH := Lib.hid (fun w' (hb : Below w.heap.size w w') => rlongC_any N R vN vR w' (hN.keep hb) hs (hR.keep hb) (by omega))
  generalize atC N R k = p at *
  obtain ⟨a, b⟩ := p
  have KA := Lib.hid (show ∀ w' (hb : Below w.heap.size w w'), Calls Try.prog 12 #[.agg #[vN, vR], .int .i64 k] w' fun e w'' => e = .returned (.tuple #[.int .i64 a, .bool b]) ∧ Below w'.heap.size w' w'' from CA)
  have KB := Lib.hid (show ∀ w' (hb : Below w.heap.size w w'), Calls Try.prog 13 #[.agg #[vN, vR], .int .i64 k] w' fun e w'' => e = .returned (.tuple #[.int .i64 a, .bool b]) ∧ Below w'.heap.size w' w'' from CB)
  obtain ⟨A1, c1, rfl, q1⟩ := hN.form
  obtain ⟨A2, c2, rfl, q2⟩ := hR
  have B0 := Lib.hid (ba w (.cells #[.slice A1 N.length c1, .slice A2 R.length c2] 25))
  have P0 := Lib.hid (RowAt.new w 25 #[.slice A1 N.length c1, .slice A2 R.length c2])
  clear hf hN q1 q2 hs CA CB hn1 hn2
  generalize ckC N R = c at *
  generalize lgC N R = l at *
  generalize N.length = n at *
  generalize R.length = r at *
  have qc : (c == c) = true := by simp
  have qa : (a == a) = true := by simp
  have qb : (b == b) = true := by simp
  have ql : (l == l) = true := by simp
  go_enter Try.func3, Try.ntmps3
  go_wp2_with (first
    | (go_at_call 10; go_must (refine (HL.out _).mono ?_; rintro e1 w1 ⟨rfl, b1⟩; have B1 := Lib.hid (B0.out.trans (b1.mono B0.out.size)); have P1 := Lib.hid (P0.out.keep b1); have g0 := P1.out.cell 0; have g1 := P1.out.cell 1; clear b1))
    | (go_at_call 11; go_must (refine (HF.out _ B1.out).mono ?_; rintro e2 w2 ⟨rfl, b2⟩; have B2 := Lib.hid (B1.out.trans (b2.mono B1.out.size)); have P2 := Lib.hid (P1.out.keep b2); have g0 := P2.out.cell 0; have g1 := P2.out.cell 1; clear b2))
    | (go_at_call 12; go_must (refine (KA.out _ B2.out).mono ?_; rintro e3 w3 ⟨rfl, b3⟩; have B3 := Lib.hid (B2.out.trans (b3.mono B2.out.size)); have P3 := Lib.hid (P2.out.keep b3); have g0 := P3.out.cell 0; have g1 := P3.out.cell 1; clear b3))
    | (go_at_call 13; go_must (refine (KB.out _ B3.out).mono ?_; rintro e4 w4 ⟨rfl, b4⟩; have B4 := Lib.hid (B3.out.trans (b4.mono B3.out.size)); have P4 := Lib.hid (P3.out.keep b4); have g0 := P4.out.cell 0; have g1 := P4.out.cell 1; clear b4))
    | fail)
  have S0 : (w4.drew).cell? ⟨w.heap.size, 0, none⟩ = some (.slice A1 n c1) ∧ (w4.drew).cell? ⟨w.heap.size, 1, none⟩ = some (.slice A2 r c2) ∧ Below w.heap.size w (w4.drew) ∧ w.heap.size < (w4.drew).heap.size := ⟨g0, g1, B4.out.drew, World.block_lt_of_cell? w4 _ g0⟩
  go_region_held3 (fun w' => w'.cell? ⟨w.heap.size, 0, none⟩ = some (.slice A1 n c1) ∧ w'.cell? ⟨w.heap.size, 1, none⟩ = some (.slice A2 r c2) ∧ Below w.heap.size w w' ∧ w.heap.size < w'.heap.size) (first | assumption | go_keep)
    (first
      | (go_at_call 14; refine (CC.out _ (And.left (And.right (And.right (by assumption))))).mono ?_; rintro e5 w5 ⟨rfl, b5⟩; have h5 := held2 (by assumption) b5)
      | (go_at_call 15; refine (CD.out _ (And.left (And.right (And.right (by assumption))))).mono ?_; rintro e6 w6 ⟨rfl, b6⟩; have h6 := held2 (by assumption) b6)
      | (go_at_call 16; refine (CG.out _ (And.left (And.right (And.right (by assumption))))).mono ?_; rintro e7 w7 ⟨rfl, b7⟩; have h7 := held2 (by assumption) b7)
      | (go_at_call 17; refine (CH.out _ (And.left (And.right (And.right (by assumption))))).mono ?_; rintro e8 w8 ⟨rfl, b8⟩; have h8 := held2 (by assumption) b8)
      | fail)
  have BZ := Lib.hid h8.2.2.1
  go_wp2
  go_returns
  exact ⟨rfl, BZ.out⟩

end Go.Proofs.Ytmfceiioigmnlaa
