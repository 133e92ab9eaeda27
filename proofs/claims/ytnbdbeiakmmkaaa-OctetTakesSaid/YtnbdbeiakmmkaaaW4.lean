/-
  The walk of the chapter's examples ('awake').
-/
import Derived.Test.YtnbdbeiakmmkaaaW3
import Derived.Lib.SlBytesConst
namespace Go.Proofs.Ytnbdbeiakmmkaaa
open Go.RowKit
set_option linter.unusedVariables false

theorem put_300 : put 300 = [172, 2] := by rw [put_ge (by omega), put_lt (by omega)]; rfl
theorem put_one : put 1 = [1] := by rw [put_lt (by omega)]; rfl
theorem put_two : put 2 = [2] := by rw [put_lt (by omega)]; rfl

/-- What a Put function answers, and its string. -/
theorem Made.conv {w w' : World} {l : List UInt8} {e : Ending} (h : Made w l e w') : ∃ g n c, e = .returned (.slice (some ⟨g, 0, none⟩) n c) ∧ (convert 22 9 (.slice (some ⟨g, 0, none⟩) n c)).run Try.prog w' = .ok (.string ⟨l.toArray⟩) w' ∧ Below w.heap.size w w' := by
  obtain ⟨g, n, c, rfl, ho, hb⟩ := h
  exact ⟨g, n, c, rfl, conv_rd ho.rd n c ho.len.symm w' (fun _ _ => rfl), hb⟩

theorem ex_put (w : World) : Calls Try.prog 12 #[.slice (some ⟨w.heap.size, 0, none⟩) 1 1, .int .u64 300] (w.alloc (.cells #[.int .u8 97] 5 (1, 2))) (Made (w.alloc (.cells #[.int .u8 97] 5 (1, 2))) [97, 172, 2]) := by
  have h := putu_any (some ⟨w.heap.size, 0, none⟩) 1 1 [97] 300 (w.alloc (.cells #[.int .u8 97] 5 (1, 2))) (fun _ => ⟨w.heap.size, 0, rfl, by rw [World.size_alloc]; omega, fun j hj => by
    obtain rfl : j = 0 := by simpa using hj
    rw [World.cell?_alloc_mark]; rfl⟩) rfl (by omega) (fun h => by cases h) (by omega) (by omega)
  rw [put_300] at h
  exact h
theorem ex_puti (w : World) : Calls Try.prog 11 #[.slice none 0 0, .int .i64 (-1)] w (Made w [1]) := by
  have h := puti_any none 0 0 [] (-1) w (Rd.nil _ _ _) rfl (by omega) (fun _ => rfl) (by omega) (by omega) (by omega)
  rw [show zg (-1) = 1 by decide, put_one] at h
  exact h
theorem ex_putt (w : World) : Calls Try.prog 10 #[.slice none 0 0, .string ⟨#[97, 98]⟩] w (Made w [2, 97, 98]) := by
  have h := putt_any none 0 0 [] ⟨#[97, 98]⟩ w (Rd.nil _ _ _) rfl (by omega) (fun _ => rfl) (by decide)
  rw [show (⟨#[97, 98]⟩ : ByteArray).size = 2 by decide, put_two] at h
  exact h
theorem ex_take (w : World) : Calls Try.prog 13 #[.string ⟨#[172, 2]⟩, .int .i64 0] w fun e w' => e = .returned (.tuple #[.int .u64 300, .int .i64 2, .int .i64 0]) ∧ w = w' := by
  have h := taku_any ⟨#[172, 2]⟩ 0 w (by decide)
  rw [show tuVal (⟨#[172, 2]⟩ : ByteArray).data.toList 0 = .tuple #[.int .u64 300, .int .i64 2, .int .i64 0] from rfl] at h
  exact h
theorem ex_bad (w : World) : Calls Try.prog 13 #[.string ⟨#[128, 0]⟩, .int .i64 0] w fun e w' => e = .returned (.tuple #[.int .u64 0, .int .i64 0, .int .i64 4]) ∧ w = w' := by
  have h := taku_any ⟨#[128, 0]⟩ 0 w (by decide)
  rw [show tuVal (⟨#[128, 0]⟩ : ByteArray).data.toList 0 = .tuple #[.int .u64 0, .int .i64 0, .int .i64 4] from rfl] at h
  exact h

set_option maxRecDepth 20000 in
set_option maxHeartbeats 1000000 in
theorem awake_any (w : World) : Calls Try.prog 9 #[] w fun e w' => e = .returned (.bool true) ∧ Below w.heap.size w w' := by
  have kc := fun (w : World) (C : Array Value) (n c : Nat) => Lib.run_convert_bytes_const (P := Try.prog) w 22 5 C n c Try.underlying22 Try.underlying5
  go_enter Try.func9, Try.ntmps9
  go_wp2_with (first
    | (go_at_call_of 13 (Value.string ⟨#[172, 2]⟩); go_must (refine (ex_take _).mono ?_; rintro e w1 ⟨rfl, rfl⟩))
    | (go_at_call_of 13 (Value.string ⟨#[128, 0]⟩); go_must (refine (ex_bad _).mono ?_; rintro e w1 ⟨rfl, rfl⟩))
    | (go_at_call 12; go_must (refine (ex_put _).mono ?_; intro e w1 h1; obtain ⟨g1, n1, c1, rfl, k1, b1⟩ := h1.conv; clear h1))
    | (go_at_call 11; go_must (refine (ex_puti _).mono ?_; intro e w2 h2; obtain ⟨g2, n2, c2, rfl, k2, b2⟩ := h2.conv; clear h2))
    | (go_at_call 10; go_must (refine (ex_putt _).mono ?_; intro e w3 h3; obtain ⟨g3, n3, c3, rfl, k3, b3⟩ := h3.conv; clear h3)))
  go_returns
  exact ⟨rfl, by (repeat' (first | with_reducible exact Below.refl _ _ | with_reducible exact Nat.le_refl _ | with_reducible assumption | with_reducible refine below_drewN ?_ _ | with_reducible refine Below.drew ?_ | with_reducible refine Below.trans ?_ (Below.mono (by assumption) ?_) | with_reducible refine Below.alloc ?_ ?_ _ | with_reducible refine le_alloc ?_ _ | with_reducible refine le_drewN ?_ _ | with_reducible refine le_drew ?_ | with_reducible refine Nat.le_trans ?_ (Below.size (by assumption))))⟩

end Go.Proofs.Ytnbdbeiakmmkaaa
