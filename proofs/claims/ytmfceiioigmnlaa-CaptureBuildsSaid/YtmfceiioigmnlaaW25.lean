/-
  The law's equal.
-/
import Derived.Test.YtmfceiioigmnlaaW24
namespace Go.Proofs.Ytmfceiioigmnlaa
open Go Go.RowKit Go.Joins
set_option linter.unusedVariables false
set_option linter.unusedSimpArgs false

set_option maxRecDepth 20000 in
set_option maxHeartbeats 4000000 in
theorem equal_any (N : List ByteArray) (R : List Rn) (v1 v2 u1 u2 : Value) (w : World) (h1 : NmArg w v1 N) (h2 : RnArg w v2 R) (k1 : NmArg w u1 N) (k2 : RnArg w u2 R) (hl1 : N.length ≤ 1099511627776) (hl2 : R.length ≤ 1099511627776) :
    Calls Try.prog 23 #[.agg #[v1, v2], .agg #[u1, u2]] w fun e w' => e = .returned (.bool true) ∧ Below w.heap.size w w' := by
  have HS := Lib.hid (fun w' (hb : Below w.heap.size w w') => sameRuns_any R v2 u2 w' (h2.keep hb) (k2.keep hb) hl2)
  have HN1 := Lib.hid (fun w' (hb : Below w.heap.size w w') => h1.keep hb)
  have HN2 := Lib.hid (fun w' (hb : Below w.heap.size w w') => k1.keep hb)
  obtain ⟨A1, c1, rfl, _, q1⟩ := h1.form
  obtain ⟨A2, c2, rfl, q2⟩ := h2
  obtain ⟨A3, c3, rfl, _, q3⟩ := k1.form
  obtain ⟨A4, c4, rfl, q4⟩ := k2
  have H1 := Lib.hid q1; have H2 := Lib.hid q3
  have BA := Lib.hid (ba w (.cells #[.slice A1 N.length c1, .slice A2 R.length c2] 25))
  have PA := Lib.hid (RowAt.new w 25 #[.slice A1 N.length c1, .slice A2 R.length c2])
  have BB := Lib.hid (ba (w.alloc (.cells #[.slice A1 N.length c1, .slice A2 R.length c2] 25)) (.cells #[.slice A3 N.length c3, .slice A4 R.length c4] 25))
  have PB := Lib.hid (RowAt.new (w.alloc (.cells #[.slice A1 N.length c1, .slice A2 R.length c2] 25)) 25 #[.slice A3 N.length c3, .slice A4 R.length c4])
  rw [World.size_alloc] at PB
  have PA2 := Lib.hid (PA.out.keep BB.out)
  have B2 := Lib.hid (BA.out.trans (BB.out.mono BA.out.size))
  clear h1 k1 q1 q2 q3 q4
  have hn : (N.length : Int) ≤ 1099511627776 := by omega
  go_enter Try.func23, Try.ntmps23
  go_wp2_with (first
    | (go_at_call 22; go_must (refine (HS.out _ B2.out).mono ?_; rintro e3 w3 ⟨rfl, b3⟩; have B3 := Lib.hid (B2.out.trans (b3.mono B2.out.size)); have PA3 := Lib.hid (PA2.out.keep b3); have PB3 := Lib.hid (PB.out.keep b3); have g0 := PA3.out.cell 0; have g1 := PA3.out.cell 1; have g2 := PB3.out.cell 0; have g3 := PB3.out.cell 1; clear b3)))
  go_loopw [5] (fun x wr => ∃ (k m : Nat), k ≤ N.length ∧ x = .int .i64 k ∧ wr = w3.drewN m) (fun x _ => N.length - (intOf x).toNat)
  case atStart => exact ⟨0, 0, by omega, rfl, rfl⟩
  case round =>
    obtain ⟨k, m, hk, rfl, rfl⟩ := hrel
    by_cases hlt : k < N.length
    · obtain ⟨gA, o1, rfl, hg1, hc1⟩ := H1.out (by omega)
      obtain ⟨gB, o2, rfl, hg2, hc2⟩ := H2.out (by omega)
      have a0 := (B3.out.cell (p := ⟨gA, o1 + k, none⟩) hg1).trans (hc1 k hlt)
      have b0 := (B3.out.cell (p := ⟨gB, o2 + k, none⟩) hg2).trans (hc2 k hlt)
      clear hc1 hc2
      generalize N[k] = x0 at *
      have q1 : (x0.toList == x0.toList) = true := (str_eq rfl).1
      go_wp2
      go_quiet (fail)
      go_wp2
      go_roundw
      case rel => exact ⟨k + 1, m + nq, by omega, by go_num, rfl⟩
      case measure => simp [intOf]; omega
    · go_wp2
      go_returns
      exact ⟨rfl, Go.below_drewN B3.out _⟩

end Go.Proofs.Ytmfceiioigmnlaa
