/-
  same; awake.
-/
import Derived.Test.YtemmljngglnccaaT5
namespace Go.Proofs.Ytemmljngglnccaa
open Go Go.RowKit Go.Joins
set_option linter.unusedVariables false
set_option linter.unusedSimpArgs false

set_option maxRecDepth 20000 in
set_option maxHeartbeats 2000000 in
theorem same_any (l : List Rn) (V V' : Value) (w : World) (h1 : RnArg w V l) (h2 : RnArg w V' l) (hl : l.length ≤ 1099511627776) :
    Calls Try.prog 14 #[V, V'] w fun e w' => e = .returned (.bool true) ∧ Below w.heap.size w w' := by
  obtain ⟨A1, c1, rfl, h1⟩ := h1
  obtain ⟨A2, c2, rfl, h2⟩ := h2
  have H1 := Lib.hid h1; have H2 := Lib.hid h2
  have hl' : (l.length : Int) ≤ 1099511627776 := by omega
  clear h1 h2
  go_enter Try.func14, Try.ntmps14
  go_wp2
  go_loopw [5] (fun x wr => ∃ (k m : Nat), k ≤ l.length ∧ x = .int .i64 k ∧ wr = w.drewN m) (fun x _ => l.length - (intOf x).toNat)
  case atStart => exact ⟨0, 0, by omega, rfl, rfl⟩
  case round =>
    obtain ⟨k, m, hk, rfl, rfl⟩ := hrel
    by_cases hlt : k < l.length
    · obtain ⟨g1, o1, rfl, hg1, hc1⟩ := H1.out (by omega)
      obtain ⟨g2, o2, rfl, hg2, hc2⟩ := H2.out (by omega)
      obtain ⟨a0, a1⟩ := arg_two hc1 k hlt
      obtain ⟨b0, b1⟩ := arg_two hc2 k hlt
      clear hc1 hc2
      generalize l[k].1 = x0 at *
      generalize l[k].2 = x1 at *
      go_wp2
      go_quiet (fail)
      go_wp2
      go_roundw
      case rel => exact ⟨k + 1, m + nq, by omega, by go_num, rfl⟩
      case measure => simp [intOf]; omega
    · go_wp2
      go_returns
      exact ⟨rfl, Go.below_drewN (Below.refl _ _) _⟩

def exL : List Rn := [(0, 5), (1, 2), (0, 3), (1, 1), (0, 4)]
def exM : List Rn := [(0, 15)]
def exI : List Rn := [(0, 5), (1, 2), (0, 8)]
theorem ex_cl : cl exL = exL := by decide +kernel
theorem ex_fl : flP 3 (cl exL) = exM := by
  rw [ex_cl]
  show flP 3 [((0 : Int), (5 : Int)), (1, 2), (0, 3), (1, 1), (0, 4)] = [(0, 15)]
  rw [flP_short (by decide), flP_short (by decide), flP_one]
  decide
theorem ex_cn : cn 3 ((cl exL).drop 1) = 2 := by rw [ex_cl]; decide
theorem ex_in1 : inR exM 5 2 = (exI, 0) := by decide +kernel
theorem ex_in2 : inR exM 14 2 = ([], 2) := by decide +kernel

set_option maxRecDepth 100000 in
set_option maxHeartbeats 8000000 in
theorem awake_any (w : World) : Calls Try.prog 11 #[] w fun e w' => e = .returned (.bool true) ∧ Below w.heap.size w w' := by
  have HF := Lib.hid (fun V W (h : RnArg W V exL) => by have := filterG_any exL 3 V W h; rw [ex_fl] at this; exact this)
  have HN := Lib.hid (fun V W (h : RnArg W V exL) => show Calls Try.prog 12 #[V, .int .i64 3] W fun e w' => e = .returned (.int .i64 2) ∧ Below W.heap.size W w' by have := countG_any exL 3 V W h; rw [ex_cn] at this; exact this)
  have HI := Lib.hid (fun V W (h : RnArg W V exM) => show Calls Try.prog 20 #[V, .int .i64 5, .int .i64 2] W fun e w' => ∃ v : Value, e = .returned (.tuple #[v, .int .i64 0]) ∧ RnRow w' W.heap.size v exI ∧ Below W.heap.size W w' by have := insertG_any exM 5 2 V W h (by decide) (by decide); rw [ex_in1] at this; exact this)
  have HJ := Lib.hid (fun V W (h : RnArg W V exM) => show Calls Try.prog 20 #[V, .int .i64 14, .int .i64 2] W fun e w' => ∃ v : Value, e = .returned (.tuple #[v, .int .i64 2]) ∧ RnRow w' W.heap.size v [] ∧ Below W.heap.size W w' by have := insertG_any exM 14 2 V W h (by decide) (by decide); rw [ex_in2] at this; exact this)
  have HL := Lib.hid (KRow.arg rnC_size (KRow.lit (T := 48) rnC_size w w.heap.size (Nat.le_refl _) exL #[.int .i64 0, .int .i64 5, .int .i64 1, .int .i64 2, .int .i64 0, .int .i64 3, .int .i64 1, .int .i64 1, .int .i64 0, .int .i64 4] rfl 5 rfl (by decide)))
  go_enter Try.func11, Try.ntmps11
  go_wp2_with (first
    | (go_at_call 15; go_must (refine (HF.out _ _ HL.out).mono ?_; rintro e1 w1 ⟨v1, rfl, r1, b1⟩; obtain ⟨UA, UC, rfl⟩ := KRow.full r1 (by decide); rw [show exM.length = 1 from rfl] at r1 ⊢; have R1 := Lib.hid r1; have L1 := Lib.hid (HL.out.keep b1); have B1 := Lib.hid ((ba w _).trans (b1.mono (ba w _).size)); clear r1 b1))
    | (go_at_call 20; go_must (first
        | ((with_reducible refine (HI.out _ _ (KRow.arg rnC_size R1.out)).mono ?_); rintro e2 w2 ⟨v2, rfl, r2, b2⟩; obtain ⟨XA, XC, rfl⟩ := KRow.full r2 (by decide); rw [show exI.length = 3 from rfl] at r2 ⊢; have R2 := Lib.hid r2; have M2 := Lib.hid (R1.out.keep b2); have L2 := Lib.hid (L1.out.keep b2); have B2 := Lib.hid (B1.out.trans (b2.mono B1.out.size)); clear r2 b2)
        | ((with_reducible refine (HJ.out _ _ (KRow.arg rnC_size M2.out)).mono ?_); rintro e3 w3 ⟨v3, rfl, r3, b3⟩; obtain ⟨YA, YN, YC, rfl, hYN⟩ := KRow.form r3; clear hYN; have R3 := Lib.hid (R2.out.keep b3); have M3 := Lib.hid (M2.out.keep b3); have L3 := Lib.hid (L2.out.keep b3); have B3 := Lib.hid (B2.out.trans (b3.mono B2.out.size)); clear r3 b3)))
    | (go_at_call 12; go_must (refine (HN.out _ _ L3.out).mono ?_; rintro e4 w4 ⟨rfl, b4⟩; have m0 := (M3.out.keep b4).cell rnC_size 0 (by decide) 0 (by omega); have m1 := (M3.out.keep b4).cell rnC_size 0 (by decide) 1 (by omega); have x2 := (R3.out.keep b4).cell rnC_size 1 (by decide) 0 (by omega); have x3 := (R3.out.keep b4).cell rnC_size 1 (by decide) 1 (by omega); have x4 := (R3.out.keep b4).cell rnC_size 2 (by decide) 0 (by omega); have x5 := (R3.out.keep b4).cell rnC_size 2 (by decide) 1 (by omega); simp [exM, exI, rnC] at m0 m1 x2 x3 x4 x5; have B4 := Lib.hid (B3.out.trans (b4.mono B3.out.size)); clear b4)))
  go_returns
  exact ⟨rfl, B4.out⟩
end Go.Proofs.Ytemmljngglnccaa
