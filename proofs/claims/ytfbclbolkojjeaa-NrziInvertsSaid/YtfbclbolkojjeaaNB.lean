/-
  Layer 16: the chapter's examples (awake).
-/
import Derived.Test.YtfbclbolkojjeaaNA
import Derived.Test.YtfbclbolkojjeaaN4
namespace Go.Proofs.Ytfbclbolkojjeaa
open Go Go.RowKit Go.Joins
set_option linter.unusedVariables false
set_option linter.unusedSimpArgs false

def exE : List Ev := [⟨2, 0, 1, 1, 0, [], 0⟩, ⟨2, 1, 2, 0, 0, [], 0⟩, ⟨2, 2, 3, 0, 0, [], 0⟩]
def exO : List Ev := [⟨2, 0, 1, 0, 0, [], 0⟩, ⟨2, 1, 2, 1, 0, [], 0⟩, ⟨2, 2, 3, 0, 0, [], 0⟩]
theorem exE_out : (nzR false exE).o = exO := by decide +kernel
def exI : List It := [⟨0, 0, 0, ⟨#[49, 48, 49]⟩, 0⟩]
theorem exI_err : clE 1048576 exI = 0 := by decide +kernel
theorem exI_one : enL false exI = [⟨0, 0, 0, ⟨#[48, 48, 49]⟩, 0⟩] := by unfold enL; rw [exI_err]; rfl
theorem exI_two : enL true exI = [⟨0, 0, 0, ⟨#[49, 48, 48]⟩, 0⟩] := by unfold enL; rw [exI_err]; rfl
theorem ev_row3 {w : World} {B g n c : Nat} (h : EvRow w B (.slice (some ⟨g, 0, none⟩) n c) exO) : w.cell? ⟨g, 3, none⟩ = some (.int .i64 0) ∧ w.cell? ⟨g, 7, none⟩ = some (.int .i64 2) ∧ w.cell? ⟨g, 8, none⟩ = some (.int .i64 1) ∧ w.cell? ⟨g, 9, none⟩ = some (.int .i64 2) ∧ w.cell? ⟨g, 10, none⟩ = some (.int .i64 1) ∧ w.cell? ⟨g, 11, none⟩ = some (.int .i64 0) ∧ w.cell? ⟨g, 12, none⟩ = some (.string ⟨#[]⟩) ∧ w.cell? ⟨g, 13, none⟩ = some (.int .i64 0) ∧ w.cell? ⟨g, 17, none⟩ = some (.int .i64 0) :=
  ⟨KRow.cell evC_size h 0 (by decide) 3 (by decide), KRow.cell evC_size h 1 (by decide) 0 (by decide), KRow.cell evC_size h 1 (by decide) 1 (by decide), KRow.cell evC_size h 1 (by decide) 2 (by decide), KRow.cell evC_size h 1 (by decide) 3 (by decide), KRow.cell evC_size h 1 (by decide) 4 (by decide), KRow.cell evC_size h 1 (by decide) 5 (by decide), KRow.cell evC_size h 1 (by decide) 6 (by decide), KRow.cell evC_size h 2 (by decide) 3 (by decide)⟩
theorem it_row1 {w : World} {B g n c : Nat} {d : ByteArray} (h : ItRow w B (.slice (some ⟨g, 0, none⟩) n c) [⟨0, 0, 0, d, 0⟩]) : w.cell? ⟨g, 3, none⟩ = some (.string d) := KRow.cell itC_size h 0 (by simp) 3 (by decide)

set_option maxRecDepth 20000 in
set_option maxHeartbeats 8000000 in
theorem awake_any (w : World) : Calls Try.prog 33 #[] w fun e w' => e = .returned (.bool true) ∧ Below w.heap.size w w' := by
  have CD := Lib.hid (fun W V h => decode_any false exE V W h (by decide) (by decide))
  have CE := Lib.hid (fun z W V h => encode_any z exI V W h (by decide) (by decide))
  rw [exE_out] at CD
  rw [exI_err] at CE
  have L0 := Lib.hid (fun W => (KRow.lit (T := 44) evC_size W W.heap.size (Nat.le_refl _) exE #[.int .i64 2, .int .i64 0, .int .i64 1, .int .i64 1, .int .i64 0, .string ⟨#[]⟩, .int .i64 0, .int .i64 2, .int .i64 1, .int .i64 2, .int .i64 0, .int .i64 0, .string ⟨#[]⟩, .int .i64 0, .int .i64 2, .int .i64 2, .int .i64 3, .int .i64 0, .int .i64 0, .string ⟨#[]⟩, .int .i64 0] rfl 3 rfl (by decide)).arg evC_size)
  have L1 := Lib.hid (fun W => (KRow.lit (T := 32) itC_size W W.heap.size (Nat.le_refl _) exI #[.int .i64 0, .int .i64 0, .int .i64 0, .string ⟨#[49, 48, 49]⟩, .int .i64 0] rfl 1 rfl (by decide)).arg itC_size)
  have Q2 := fun W => eql_ev 2 1 2 1 0 ⟨#[]⟩ 0 2 1 2 1 0 ⟨#[]⟩ 0 W
  rw [show eqF 2 1 2 1 0 ⟨#[]⟩ 0 2 1 2 1 0 ⟨#[]⟩ 0 = true by decide +kernel] at Q2
  go_enter Try.func33, Try.ntmps33
  go_wp2_with (first
    | (go_at_call 41; go_must (refine (CD.out _ _ (L0.out w)).mono ?_; rintro e1 w1 ⟨v1, rfl, r1, b1⟩; obtain ⟨g1, c1, rfl⟩ := r1.full (by decide); have M1 := Lib.hid r1; have B1 := Lib.hid ((ba w _).trans (b1.mono (by rw [World.size_alloc]; omega))); clear r1 b1))
    | (go_at_call_of 44 (Value.agg #[Value.bool false]); go_must (refine (CE.out _ _ _ (L1.out w1)).mono ?_; rintro e2 w2 ⟨v2, rfl, r2, b2⟩; rw [exI_one] at r2; obtain ⟨g2, c2, rfl⟩ := r2.full (by decide); have k2 := Lib.hid ((ba w1 _).trans (b2.mono (by rw [World.size_alloc]; omega))); have M2 := Lib.hid r2; have M1' := Lib.hid (M1.out.keep k2.out); have B2 := Lib.hid (B1.out.trans (k2.out.mono B1.out.size)); clear r2 b2))
    | (go_at_call 44; go_must (refine (CE.out _ _ _ (L1.out w2)).mono ?_; rintro e3 w3 ⟨v3, rfl, r3, b3⟩; rw [exI_two] at r3; obtain ⟨g3, c3, rfl⟩ := r3.full (by decide); have k3 := Lib.hid ((ba w2 _).trans (b3.mono (by rw [World.size_alloc]; omega))); obtain ⟨m0, m1, m2, m3, m4, m5, m6, m7, m8⟩ := ev_row3 (M1'.out.keep k3.out); have i2 := it_row1 (M2.out.keep k3.out); have i3 := it_row1 r3; have B3 := Lib.hid (B2.out.trans (k3.out.mono B2.out.size)); clear r3 b3)))
  go_returns
  exact ⟨rfl, B3.out⟩

end Go.Proofs.Ytfbclbolkojjeaa
