/-
  The chapter's examples: level, Example; the specification's Same of runs.
-/
import Derived.Test.YtcodoakfomddfaaT22
import Derived.Test.YtcodoakfomddfaaT12
import Derived.Test.YtcodoakfomddfaaT2
import Derived.Test.YtcodoakfomddfaaA6
namespace Go.Proofs.Ytcodoakfomddfaa
open Go Go.RowKit Go.Joins
set_option linter.unusedVariables false
set_option linter.unusedSimpArgs false

set_option maxHeartbeats 2000000 in
theorem level_any (f t v : Int) (w : World) : Calls Try.prog 30 #[.int .i64 f, .int .i64 t, .int .i64 v] w fun e w' => e = .returned (.agg #[.int .i64 1, .int .i64 f, .int .i64 t, .int .i64 v, .int .i64 0, .string ⟨#[]⟩, .int .i64 0]) ∧ Below w.heap.size w w' := by
  have bb := Lib.hid (ba w (.cells #[.int .i64 1, .int .i64 f, .int .i64 t, .int .i64 v, .int .i64 0, .string ⟨#[]⟩, .int .i64 0] 48))
  go_enter Try.func30, Try.ntmps30
  go_wp2
  go_returns
  exact ⟨rfl, bb.out⟩

def xN : List ByteArray := [⟨#[97]⟩, ⟨#[98]⟩]
def xM : List ByteArray := [⟨#[98]⟩, ⟨#[97]⟩]
def xR : List Rn := [(1, 3), (2, 4)]
set_option maxHeartbeats 2000000 in
theorem example_any (w : World) : Calls Try.prog 29 #[] w fun e w' => ∃ vN vR : Value, e = .returned (.agg #[vN, vR]) ∧ NmArg w' vN xN ∧ RnArg w' vR xR ∧ Below w.heap.size w w' := by
  go_enter Try.func29, Try.ntmps29
  go_wp2
  go_returns
  have rN := KRow.lit (T := 9) nmC_size (w.alloc (.cells #[.slice (some ⟨w.heap.size + 1, 0, none⟩) 2 2, .slice (some ⟨w.heap.size + 1 + 1, 0, none⟩) 2 2] 25)) w.heap.size (ba w _).size xN #[.string ⟨#[97]⟩, .string ⟨#[98]⟩] rfl 2 rfl (by decide)
  have rR := KRow.lit (T := 46) rnC_size ((w.alloc (.cells #[.slice (some ⟨w.heap.size + 1, 0, none⟩) 2 2, .slice (some ⟨w.heap.size + 1 + 1, 0, none⟩) 2 2] 25)).alloc (.cells #[.string ⟨#[97]⟩, .string ⟨#[98]⟩] 9)) w.heap.size (by simp only [World.size_alloc]; omega) xR #[.int .i64 1, .int .i64 3, .int .i64 2, .int .i64 4] rfl 2 rfl (by decide)
  rw [World.size_alloc] at rN
  rw [World.size_alloc, World.size_alloc] at rR
  have bb := ((ba w (.cells #[.slice (some ⟨w.heap.size + 1, 0, none⟩) 2 2, .slice (some ⟨w.heap.size + 1 + 1, 0, none⟩) 2 2] 25)).alloc (ba w _).size (.cells #[.string ⟨#[97]⟩, .string ⟨#[98]⟩] 9))
  exact ⟨_, _, rfl, ⟨(rN.alloc _).arg nmC_size, rN.cap⟩, rR.arg rnC_size, bb.alloc bb.size _⟩

set_option maxRecDepth 20000 in
set_option maxHeartbeats 2000000 in
theorem sameRn_any (l : List Rn) (V V' : Value) (w : World) (h1 : RnArg w V l) (h2 : RnArg w V' l) (hl : l.length ≤ 1099511627776) :
    Calls Try.prog 19 #[V, V'] w fun e w' => e = .returned (.bool true) ∧ Below w.heap.size w w' := by
  obtain ⟨A1, c1, rfl, h1⟩ := h1
  obtain ⟨A2, c2, rfl, h2⟩ := h2
  have H1 := Lib.hid h1; have H2 := Lib.hid h2
  have hl' : (l.length : Int) ≤ 1099511627776 := by omega
  clear h1 h2
  go_enter Try.func19, Try.ntmps19
  go_wp2
  go_loopw [5] (fun x wr => ∃ (k m : Nat), k ≤ l.length ∧ x = .int .i64 k ∧ wr = w.drewN m) (fun x _ => l.length - (intOf x).toNat)
  case atStart => exact ⟨0, 0, by omega, rfl, rfl⟩
  case round =>
    obtain ⟨k, m, hk, rfl, rfl⟩ := hrel
    by_cases hlt : k < l.length
    · obtain ⟨g1, o1, rfl, hg1, hc1⟩ := H1.out (by omega)
      obtain ⟨g2, o2, rfl, hg2, hc2⟩ := H2.out (by omega)
      obtain ⟨a0, a1⟩ := arg_two hc1 k hlt
      obtain ⟨b0, b1⟩ := arg_two hc2 k hlt
      clear hc1 hc2
      generalize l[k].1 = x0 at *
      generalize l[k].2 = x1 at *
      go_wp2
      go_quiet (fail)
      go_wp2
      go_roundw
      case rel => exact ⟨k + 1, m + nq, by omega, by go_num, rfl⟩
      case measure => simp [intOf]; omega
    · go_wp2
      go_returns
      exact ⟨rfl, Go.below_drewN (Below.refl _ _) _⟩

/-! The examples' answers. -/
def one7 : List Ev := [⟨1, 0, 7, 1, 0, [], 0⟩]
def two7 : List Ev := [⟨1, 0, 5, 1, 0, [], 0⟩, ⟨1, 5, 7, 1, 0, [], 0⟩]
def lev7 : List Ev := [⟨1, 0, 3, 2, 0, [], 0⟩, ⟨1, 3, 7, 1, 0, [], 0⟩]
def bad7 : List Ev := [⟨1, 1, 7, 1, 0, [], 0⟩]
theorem ex_leE : leE xN xR xM = 0 := by decide +kernel
theorem ex_leL : leL xN xR xM = lev7 := by decide +kernel
theorem ex_runs : ruE bad7 = 1 := by decide +kernel
theorem ex_merge : mg two7 = one7 := by decide +kernel
theorem ex_nx0 : nx [9, 5, 5, 0, 7] 0 7 = 5 := by decide
theorem ex_nx5 : nx [9, 5, 5, 0, 7] 5 7 = 7 := by decide
theorem ex_split : spl [9, 5, 5, 0, 7] one7 = two7 := by
  have h0 : nx [9, 5, 5, 0, 7] 0 7 < 7 := by rw [ex_nx0]; decide
  have h5 : ¬ nx [9, 5, 5, 0, 7] 5 7 < 7 := by rw [ex_nx5]; decide
  have hp : pc [9, 5, 5, 0, 7] 0 7 = [(0, 5), (5, 7)] := by rw [pc_yes h0, ex_nx0, pc_no h5]
  show (spE [9, 5, 5, 0, 7] ⟨1, 0, 7, 1, 0, [], 0⟩) ++ [] = two7
  rw [List.append_nil]
  unfold spE
  rw [if_pos (by decide +kernel)]
  show (pc [9, 5, 5, 0, 7] 0 7).map _ = _
  rw [hp]
  rfl

end Go.Proofs.Ytcodoakfomddfaa
