/-
  The walk of the statement RemapSelects.
-/
import Derived.Test.YteccafndplaklaaZ14
import Derived.Test.YteccafndplaklaaZ16
namespace Go.Proofs.Yteccafndplaklaa
open Go Go.RowKit Go.Joins
set_option linter.unusedVariables false
set_option linter.unusedSimpArgs false

set_option maxRecDepth 100000 in
set_option maxHeartbeats 16000000 in
theorem law_selects (N : List ByteArray) (R : List Rn) (M : List ByteArray) (vN vR vM : Value) (w : World) (hN : NmArg w vN N) (hs : szs N) (hR : RnArg w vR R) (hM : NmArg w vM M) (hsM : szs M) :
    Calls Try.prog 3 #[.agg #[vN, vR], vM] w fun e w' => e = .returned (.bool true) ∧ Below w.heap.size w w' := by
  have HF := Lib.hid (fun w' (hb : Below w.heap.size w w') => few_any N R vN vR w' (hN.keep hb) (hR.keep hb))
  have H1' := fun (h1 : R.length ≤ 16000) (h2 : N.length ≤ 4096) (h3 : M.length ≤ 4096) w' (hb : Below w.heap.size w w') => select_any N R M vN vR vM w' (hN.keep hb) hs (hR.keep hb) h1 (hM.keep hb) hsM h3 h2
  have H2' := fun (h1 : R.length ≤ 16000) (h2 : N.length ≤ 4096) (h3 : M.length ≤ 4096) w' (hb : Below w.heap.size w w') => rselect_any N R M vN vR vM w' (hN.keep hb) hs (hR.keep hb) h1 (hM.keep hb) hsM h3 h2
  obtain ⟨A3, c3, rfl, _⟩ := hM.form
  obtain ⟨A1, c1, rfl, _⟩ := hN.form
  obtain ⟨A2, c2, rfl⟩ := hR.form
  have B0 := Lib.hid (ba w (.cells #[.slice A1 N.length c1, .slice A2 R.length c2] 25))
  have P0 := Lib.hid (RowAt.new w 25 #[.slice A1 N.length c1, .slice A2 R.length c2])
  have Pc0 := P0.out.cell 0
  have Pc1 := P0.out.cell 1
  clear hN hR hM
  cases hf : fewB N R with
  | false =>
    rw [hf] at HF
    clear H1' H2' hf
    go_enter Try.func3, Try.ntmps3
    go_wp2_with (first
      | (go_at_call 10; go_must (refine (lives_any _).mono ?_; rintro e1 w1 ⟨rfl, b1⟩; have B1 := Lib.hid (B0.out.trans (b1.mono B0.out.size)); (try clear Pc0 Pc1); have P1 := Lib.hid (P0.out.keep b1); have Pc0 := P1.out.cell 0; have Pc1 := P1.out.cell 1;  clear b1))
      | (go_at_call 11; go_must (refine (HF.out _ B1.out).mono ?_; rintro e2 w2 ⟨rfl, b2⟩; have B2 := Lib.hid (B1.out.trans (b2.mono B1.out.size)); (try clear Pc0 Pc1); have P2 := Lib.hid (P1.out.keep b2); have Pc0 := P2.out.cell 0; have Pc1 := P2.out.cell 1;  clear b2)))
    go_returns
    exact ⟨rfl, B2.out⟩
  | true =>
    rw [hf] at HF
    obtain ⟨f1, f2⟩ := fewB_t hf
    by_cases hm : 60 < M.length
    · have d1 : decide ((60 : Int) < (M.length : Int)) = true := decide_eq_true (by omega)
      have d2 : (60 : Int) < (M.length : Int) := by omega
      clear H1' H2' hf f1 f2 hm
      go_enter Try.func3, Try.ntmps3
      go_wp2_with (first
        | (go_at_call 10; go_must (refine (lives_any _).mono ?_; rintro e1 w1 ⟨rfl, b1⟩; have B1 := Lib.hid (B0.out.trans (b1.mono B0.out.size)); (try clear Pc0 Pc1); have P1 := Lib.hid (P0.out.keep b1); have Pc0 := P1.out.cell 0; have Pc1 := P1.out.cell 1;  clear b1))
        | (go_at_call 11; go_must (refine (HF.out _ B1.out).mono ?_; rintro e2 w2 ⟨rfl, b2⟩; have B2 := Lib.hid (B1.out.trans (b2.mono B1.out.size)); (try clear Pc0 Pc1); have P2 := Lib.hid (P1.out.keep b2); have Pc0 := P2.out.cell 0; have Pc1 := P2.out.cell 1;  clear b2)))
      go_returns
      exact ⟨rfl, B2.out⟩
    · have d1 : decide ((60 : Int) < (M.length : Int)) = false := decide_eq_false (by omega)
      have d2 : ¬ (60 : Int) < (M.length : Int) := by omega
      have H1 := Lib.hid (H1' (by omega) (by omega) (by omega))
      have H2 := Lib.hid (H2' (by omega) (by omega) (by omega))
      have l1 : (seR N R M).length ≤ R.length := by
        unfold seR
        split
        · exact Nat.le_trans (jn_len _) (by simp [sel])
        · simp
      have l2 : (seN N R M).length ≤ M.length := by
        unfold seN
        split <;> simp
      have E1 := Lib.hid (fun v1 v2 u1 u2 w' h1 h2 k1 k2 => equal12_any (seN N R M) (seR N R M) v1 v2 u1 u2 w' h1 h2 k1 k2 (by omega) (by omega))
      clear H1' H2' hf f1 f2 l1 l2 hm
      generalize seR N R M = R1 at *
      generalize seN N R M = N1 at *
      generalize seE N R M = F1 at *
      go_enter Try.func3, Try.ntmps3
      go_wp2_with (first
        | (go_at_call 10; go_must (refine (lives_any _).mono ?_; rintro e1 w1 ⟨rfl, b1⟩; have B1 := Lib.hid (B0.out.trans (b1.mono B0.out.size)); (try clear Pc0 Pc1); have P1 := Lib.hid (P0.out.keep b1); have Pc0 := P1.out.cell 0; have Pc1 := P1.out.cell 1;  clear b1))
        | (go_at_call 11; go_must (refine (HF.out _ B1.out).mono ?_; rintro e2 w2 ⟨rfl, b2⟩; have B2 := Lib.hid (B1.out.trans (b2.mono B1.out.size)); (try clear Pc0 Pc1); have P2 := Lib.hid (P1.out.keep b2); have Pc0 := P2.out.cell 0; have Pc1 := P2.out.cell 1;  clear b2))
        | (go_at_call 12; go_must (refine (H1.out _ B2.out).mono ?_; rintro e3 w3 ⟨v1, v2, rfl, n3, r3, b3⟩; obtain ⟨UA3, UC3, rfl, _⟩ := n3.form; obtain ⟨VA3, VC3, rfl⟩ := r3.form; have BX3 := Lib.hid (B2.out.trans (b3.mono B2.out.size)); have B3 := Lib.hid (BX3.out.alloc BX3.out.size (.cells #[.slice UA3 N1.length UC3, .slice VA3 R1.length VC3] 25)); (try clear Pc0 Pc1); have P3 := Lib.hid ((P2.out.keep b3).alloc (.cells #[.slice UA3 N1.length UC3, .slice VA3 R1.length VC3] 25)); have X3 := Lib.hid (RowAt.new w3 25 #[.slice UA3 N1.length UC3, .slice VA3 R1.length VC3]); have Xn_3 := Lib.hid (n3.keep (ba w3 (.cells #[.slice UA3 N1.length UC3, .slice VA3 R1.length VC3] 25))); have Xr_3 := Lib.hid (r3.keep (ba w3 (.cells #[.slice UA3 N1.length UC3, .slice VA3 R1.length VC3] 25))); have Pc0 := P3.out.cell 0; have Pc1 := P3.out.cell 1; have Xc0 := X3.out.cell 0; have Xc1 := X3.out.cell 1; clear n3 r3 b3))
        | (go_at_call 13; go_must (refine (H2.out _ B3.out).mono ?_; rintro e4 w4 ⟨v1, v2, rfl, n4, r4, b4⟩; obtain ⟨UA4, UC4, rfl, _⟩ := n4.form; obtain ⟨VA4, VC4, rfl⟩ := r4.form; have BX4 := Lib.hid (B3.out.trans (b4.mono B3.out.size)); have B4 := Lib.hid (BX4.out.alloc BX4.out.size (.cells #[.slice UA4 N1.length UC4, .slice VA4 R1.length VC4] 25)); (try clear Pc0 Pc1 Xc0 Xc1); have P4 := Lib.hid ((P3.out.keep b4).alloc (.cells #[.slice UA4 N1.length UC4, .slice VA4 R1.length VC4] 25)); have X4 := Lib.hid ((X3.out.keep b4).alloc (.cells #[.slice UA4 N1.length UC4, .slice VA4 R1.length VC4] 25)); have Xn_4 := Lib.hid ((Xn_3.out.keep b4).keep (ba w4 (.cells #[.slice UA4 N1.length UC4, .slice VA4 R1.length VC4] 25))); have Xr_4 := Lib.hid ((Xr_3.out.keep b4).keep (ba w4 (.cells #[.slice UA4 N1.length UC4, .slice VA4 R1.length VC4] 25))); have Y4 := Lib.hid (RowAt.new w4 25 #[.slice UA4 N1.length UC4, .slice VA4 R1.length VC4]); have Yn_4 := Lib.hid (n4.keep (ba w4 (.cells #[.slice UA4 N1.length UC4, .slice VA4 R1.length VC4] 25))); have Yr_4 := Lib.hid (r4.keep (ba w4 (.cells #[.slice UA4 N1.length UC4, .slice VA4 R1.length VC4] 25))); have Pc0 := P4.out.cell 0; have Pc1 := P4.out.cell 1; have Xc0 := X4.out.cell 0; have Xc1 := X4.out.cell 1; have Yc0 := Y4.out.cell 0; have Yc1 := Y4.out.cell 1; clear n4 r4 b4))
        | (go_at_call 14; go_must (refine (E1.out _ _ _ _ _ Xn_4.out Xr_4.out Yn_4.out Yr_4.out).mono ?_; rintro e5 w5 ⟨rfl, b5⟩; have B5 := Lib.hid (B4.out.trans (b5.mono B4.out.size)); (try clear Pc0 Pc1 Xc0 Xc1 Yc0 Yc1); have P5 := Lib.hid (P4.out.keep b5); have X5 := Lib.hid (X4.out.keep b5); have Y5 := Lib.hid (Y4.out.keep b5); have Xn_5 := Lib.hid (Xn_4.out.keep b5); have Xr_5 := Lib.hid (Xr_4.out.keep b5); have Yn_5 := Lib.hid (Yn_4.out.keep b5); have Yr_5 := Lib.hid (Yr_4.out.keep b5); have Pc0 := P5.out.cell 0; have Pc1 := P5.out.cell 1; have Xc0 := X5.out.cell 0; have Xc1 := X5.out.cell 1; have Yc0 := Y5.out.cell 0; have Yc1 := Y5.out.cell 1;  clear b5)))
      go_returns
      exact ⟨rfl, B5.out⟩
end Go.Proofs.Yteccafndplaklaa
