/-
  The walk of same over equal lists.
-/
import Derived.Test.YtpeiiomimfiebaaDoorTR
import Derived.Deep.QuietTactic
import Derived.BigQuiet
namespace Go.Proofs.YtpeiiomimfiebaaDoor
open Go.RowKit
set_option linter.unusedVariables false
set_option linter.unusedSimpArgs false

theorem TRow.four {w : World} {B g n c : Nat} {l : List Tok} (h : TRow w B (.slice (some ⟨g, 0, none⟩) n c) l) (j : Nat) (hj : j < l.length) :
    w.cell? ⟨g, j * 4, none⟩ = some (.int .i64 l[j].k) ∧ w.cell? ⟨g, j * 4 + 1, none⟩ = some (.string ⟨l[j].t.toArray⟩) ∧ w.cell? ⟨g, j * 4 + 2, none⟩ = some (.int .i64 l[j].v) ∧ w.cell? ⟨g, j * 4 + 3, none⟩ = some (.int .i64 l[j].n) := by
  have c0 := h.cell j hj 0 (by decide)
  have c1 := h.cell j hj 1 (by decide)
  have c2 := h.cell j hj 2 (by decide)
  have c3 := h.cell j hj 3 (by decide)
  rw [Nat.mul_comm 4 j] at c0 c1 c2 c3
  exact ⟨c0, c1, c2, c3⟩

set_option maxRecDepth 20000 in
set_option maxHeartbeats 2000000 in
theorem same_any (l : List Tok) (V V' : Value) (B B' : Nat) (w : World) (h1 : TRow w B V l) (h2 : TRow w B' V' l) (hl : l.length ≤ 1099511627776) :
    Calls Tryd.prog 17 #[V, V'] w fun e w' => e = .returned (.bool true) ∧ Below w.heap.size w w' := by
  rcases Nat.eq_zero_or_pos l.length with h0 | h0
  · obtain ⟨A1, N1, c1, rfl, e1⟩ := h1.form
    obtain ⟨A2, N2, c2, rfl, e2⟩ := h2.form
    obtain rfl : N1 = 0 := by omega
    obtain rfl : N2 = 0 := by omega
    clear h1 h2 e1 e2
    go_enter Tryd.func17, Tryd.ntmps17
    go_wp2
    go_loopw [5] (fun x wr => x = .int .i64 0 ∧ wr = w) (fun _ _ => 0)
    case atStart => exact ⟨rfl, rfl⟩
    case round =>
      obtain ⟨rfl, rfl⟩ := hrel
      go_wp2
      go_returns
      exact ⟨rfl, Below.refl _ _⟩
  · obtain ⟨g1, c1, rfl⟩ := h1.full h0
    obtain ⟨g2, c2, rfl⟩ := h2.full h0
    have hl' : (l.length : Int) ≤ 1099511627776 := by omega
    have F1 := Lib.hid (fun j hj => h1.four j hj); have F2 := Lib.hid (fun j hj => h2.four j hj)
    clear h1 h2 h0
    go_enter Tryd.func17, Tryd.ntmps17
    go_wp2
    go_loopw [5] (fun x wr => ∃ (k m : Nat), k ≤ l.length ∧ x = .int .i64 k ∧ wr = w.drewN m) (fun x _ => l.length - (intOf x).toNat)
    case atStart => exact ⟨0, 0, by omega, rfl, rfl⟩
    case round =>
      obtain ⟨k, m, hk, rfl, rfl⟩ := hrel
      by_cases hlt : k < l.length
      · obtain ⟨a0, a1, a2, a3⟩ := F1.out k hlt
        obtain ⟨b0, b1, b2, b3⟩ := F2.out k hlt
        generalize l[k].k = x0 at *
        generalize l[k].t.toArray = x1 at *
        generalize l[k].v = x2 at *
        generalize l[k].n = x3 at *
        go_wp2
        go_quiet (fail)
        go_wp2
        go_roundw
        case rel => exact ⟨k + 1, m + nq, by omega, by go_num, rfl⟩
        case measure => simp [intOf]; omega
      · go_wp2
        go_returns
        exact ⟨rfl, Go.below_drewN (Below.refl _ _) _⟩

end Go.Proofs.YtpeiiomimfiebaaDoor
