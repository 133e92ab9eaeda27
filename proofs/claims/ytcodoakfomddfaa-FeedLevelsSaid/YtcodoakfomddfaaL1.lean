/-
  The walk of the statement FeedLevels.
-/
import Derived.Test.YtcodoakfomddfaaT24
import Derived.Test.YtcodoakfomddfaaT12
namespace Go.Proofs.Ytcodoakfomddfaa
open Go Go.RowKit Go.Joins
set_option linter.unusedVariables false
set_option linter.unusedSimpArgs false

set_option maxRecDepth 100000 in
set_option maxHeartbeats 8000000 in
theorem law_levels (N : List ByteArray) (R : List Rn) (names : List ByteArray) (vN vR vM : Value) (w : World) (hN : NmArg w vN N) (hs : szs N) (hR : RnArg w vR R) (hM : NmArg w vM names) (hn : R.length ≤ 8796093022208) (hm : names.length ≤ 8796093022208) :
    Calls Try.prog 3 #[.agg #[vN, vR], vM] w fun e w' => e = .returned (.bool true) ∧ Below w.heap.size w w' := by
  have KC := Lib.hid (fun w' (hb : Below w.heap.size w w') => levels_any N R names vN vR vM w' (hN.keep hb) hs (hR.keep hb) (hM.keep hb) hn hm)
  have KD := Lib.hid (fun w' (hb : Below w.heap.size w w') => refLevels_any N R names vN vR vM w' (hN.keep hb) hs (hR.keep hb) (hM.keep hb) hn hm)
  have hl : (leL N R names).length ≤ 2199023255550 := by
    unfold leL
    split
    · rename_i h; rw [leN_len]; have := (ckC_ok h.1).1; omega
    · simp
  have HS := Lib.hid (fun V V' W h1 h2 => same_any (leL N R names) V V' W h1 h2 hl)
  clear hl hn hm
  obtain ⟨A1, c1, rfl, _⟩ := hN.form
  obtain ⟨A2, c2, rfl⟩ := KArg.form hR
  obtain ⟨A3, c3, rfl, _⟩ := hM.form
  have B0 := Lib.hid (ba w (.cells #[.slice A1 N.length c1, .slice A2 R.length c2] 25))
  have P0 := Lib.hid (RowAt.new w 25 #[.slice A1 N.length c1, .slice A2 R.length c2])
  have g0 := P0.out.cell 0
  have g1 := P0.out.cell 1
  clear hN hR hM
  generalize leL N R names = M at *
  generalize leE N R names = E at *
  have hee : (E == E) = true := by simp
  go_enter Try.func3, Try.ntmps3
  go_wp2_with (first
    | (go_at_call 9; go_must (refine (KC.out _ B0.out).mono ?_; rintro e1 w1 ⟨v1, rfl, r1, b1⟩; obtain ⟨UA, UN, UC, rfl, hUN⟩ := KRow.form r1; clear hUN; have R0 := Lib.hid (r1.arg evC_size); have P1 := Lib.hid (P0.out.keep b1); clear g0 g1; have g0 := P1.out.cell 0; have g1 := P1.out.cell 1; have B1 := Lib.hid (B0.out.trans (b1.mono B0.out.size)); clear r1 b1))
    | (go_at_call 10; go_must (refine (KD.out _ B1.out).mono ?_; rintro e2 w2 ⟨v2, rfl, r2, b2⟩; obtain ⟨VA, VN, VC, rfl, hVN⟩ := KRow.form r2; clear hVN; have R1 := Lib.hid (R0.out.keep b2); have R2 := Lib.hid (r2.arg evC_size); have B2 := Lib.hid (B1.out.trans (b2.mono B1.out.size)); clear r2 b2))
    | (go_at_call 11; go_must (refine (HS.out _ _ _ R1.out R2.out).mono ?_; rintro e3 w3 ⟨rfl, b3⟩; have B3 := Lib.hid (B2.out.trans (b3.mono B2.out.size)); clear b3))
    | (go_at_call 12; go_must (refine (awake_any _).mono ?_; rintro ez wz ⟨rfl, bz⟩; have BZ := Lib.hid (B3.out.trans (bz.mono B3.out.size)); clear bz)))
  go_returns
  exact ⟨rfl, BZ.out⟩
end Go.Proofs.Ytcodoakfomddfaa
