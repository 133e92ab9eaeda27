/-
  The walks of the specification's Named, and of Names, the program's and the specification's.
-/
import Derived.Test.YtljbhbpddokelaaDoorW11
import Derived.Test.YtljbhbpddokelaaDoorB2
namespace Go.Proofs.YtljbhbpddokelaaDoor
open Go.RowKit
set_option linter.unusedVariables false
set_option linter.unusedSimpArgs false

set_option maxRecDepth 100000 in
set_option maxHeartbeats 2000000 in
theorem rnamed_any (s : ByteArray) (w : World) :
    Calls Tryd.prog 12 #[.string s] w fun e w' => e = .returned (nameV s.toList) ∧ Below w.heap.size w w' := by
  by_cases h0 : s.toList = nm0
  · have HV := Lib.hid (nameV_0 h0)
    have he0 : (s.toList == [99, 97, 110, 49, 53]) = true := by rw [h0]; rfl
    clear h0
    go_enter Tryd.func12, Tryd.ntmps12
    go_wp2
    refine bodyPost_ret (v := .tuple #[.agg #[.int .i64 15, .int .i64 17817, .int .i64 0, .int .i64 0, .bool false], .bool true]) (by simp [results, Tryd.results12, go_sem]) rfl ⟨by rw [HV.out]; rfl, ba w _⟩
  by_cases h1 : s.toList = nm1
  · have HV := Lib.hid (nameV_1 h1)
    have he0 : (s.toList == [99, 97, 110, 49, 53]) = false := by rw [beq_eq_false_iff_ne]; exact h0
    have he1 : (s.toList == [99, 114, 99, 49, 54, 109, 111, 100, 98, 117, 115]) = true := by rw [h1]; rfl
    clear h0 h1
    go_enter Tryd.func12, Tryd.ntmps12
    go_wp2
    refine bodyPost_ret (v := .tuple #[.agg #[.int .i64 16, .int .i64 32773, .int .i64 65535, .int .i64 0, .bool true], .bool true]) (by simp [results, Tryd.results12, go_sem]) rfl ⟨by rw [HV.out]; rfl, ba w _⟩
  by_cases h2 : s.toList = nm2
  · have HV := Lib.hid (nameV_2 h2)
    have he0 : (s.toList == [99, 97, 110, 49, 53]) = false := by rw [beq_eq_false_iff_ne]; exact h0
    have he1 : (s.toList == [99, 114, 99, 49, 54, 109, 111, 100, 98, 117, 115]) = false := by rw [beq_eq_false_iff_ne]; exact h1
    have he2 : (s.toList == [99, 114, 99, 51, 50]) = true := by rw [h2]; rfl
    clear h0 h1 h2
    go_enter Tryd.func12, Tryd.ntmps12
    go_wp2
    refine bodyPost_ret (v := .tuple #[.agg #[.int .i64 32, .int .i64 79764919, .int .i64 4294967295, .int .i64 4294967295, .bool true], .bool true]) (by simp [results, Tryd.results12, go_sem]) rfl ⟨by rw [HV.out]; rfl, ba w _⟩
  by_cases h3 : s.toList = nm3
  · have HV := Lib.hid (nameV_3 h3)
    have he0 : (s.toList == [99, 97, 110, 49, 53]) = false := by rw [beq_eq_false_iff_ne]; exact h0
    have he1 : (s.toList == [99, 114, 99, 49, 54, 109, 111, 100, 98, 117, 115]) = false := by rw [beq_eq_false_iff_ne]; exact h1
    have he2 : (s.toList == [99, 114, 99, 51, 50]) = false := by rw [beq_eq_false_iff_ne]; exact h2
    have he3 : (s.toList == [99, 114, 99, 53, 117, 115, 98]) = true := by rw [h3]; rfl
    clear h0 h1 h2 h3
    go_enter Tryd.func12, Tryd.ntmps12
    go_wp2
    refine bodyPost_ret (v := .tuple #[.agg #[.int .i64 5, .int .i64 5, .int .i64 31, .int .i64 31, .bool true], .bool true]) (by simp [results, Tryd.results12, go_sem]) rfl ⟨by rw [HV.out]; rfl, ba w _⟩
  by_cases h4 : s.toList = nm4
  · have HV := Lib.hid (nameV_4 h4)
    have he0 : (s.toList == [99, 97, 110, 49, 53]) = false := by rw [beq_eq_false_iff_ne]; exact h0
    have he1 : (s.toList == [99, 114, 99, 49, 54, 109, 111, 100, 98, 117, 115]) = false := by rw [beq_eq_false_iff_ne]; exact h1
    have he2 : (s.toList == [99, 114, 99, 51, 50]) = false := by rw [beq_eq_false_iff_ne]; exact h2
    have he3 : (s.toList == [99, 114, 99, 53, 117, 115, 98]) = false := by rw [beq_eq_false_iff_ne]; exact h3
    have he4 : (s.toList == [99, 114, 99, 56]) = true := by rw [h4]; rfl
    clear h0 h1 h2 h3 h4
    go_enter Tryd.func12, Tryd.ntmps12
    go_wp2
    refine bodyPost_ret (v := .tuple #[.agg #[.int .i64 8, .int .i64 7, .int .i64 0, .int .i64 0, .bool false], .bool true]) (by simp [results, Tryd.results12, go_sem]) rfl ⟨by rw [HV.out]; rfl, ba w _⟩
  have HV := Lib.hid (nameV_no h0 h1 h2 h3 h4)
  have he0 : (s.toList == [99, 97, 110, 49, 53]) = false := by rw [beq_eq_false_iff_ne]; exact h0
  have he1 : (s.toList == [99, 114, 99, 49, 54, 109, 111, 100, 98, 117, 115]) = false := by rw [beq_eq_false_iff_ne]; exact h1
  have he2 : (s.toList == [99, 114, 99, 51, 50]) = false := by rw [beq_eq_false_iff_ne]; exact h2
  have he3 : (s.toList == [99, 114, 99, 53, 117, 115, 98]) = false := by rw [beq_eq_false_iff_ne]; exact h3
  have he4 : (s.toList == [99, 114, 99, 56]) = false := by rw [beq_eq_false_iff_ne]; exact h4
  clear h0 h1 h2 h3 h4
  go_enter Tryd.func12, Tryd.ntmps12
  go_wp2
  refine bodyPost_ret (v := .tuple #[.agg #[.int .i64 0, .int .i64 0, .int .i64 0, .int .i64 0, .bool false], .bool false]) (by simp [results, Tryd.results12, go_sem]) rfl ⟨by rw [HV.out]; rfl, ba w _⟩

/-- The names. -/
def nms : List ByteArray := [⟨#[99, 97, 110, 49, 53]⟩, ⟨#[99, 114, 99, 49, 54, 109, 111, 100, 98, 117, 115]⟩, ⟨#[99, 114, 99, 51, 50]⟩, ⟨#[99, 114, 99, 53, 117, 115, 98]⟩, ⟨#[99, 114, 99, 56]⟩]

set_option maxRecDepth 100000 in
set_option maxHeartbeats 2000000 in
theorem names_any (w : World) (hE : Env w) :
    Calls Tryd.prog 13 #[] w fun e w' => ∃ v, e = .returned v ∧ SRow w' w.heap.size v nms ∧ Below w.heap.size w w' := by
  have hE' := Lib.hid hE.1
  clear hE
  go_enter Tryd.func13, Tryd.ntmps13
  go_wp2_with (refine wpList_table 48 Tryd.underlying48 rfl (by kernel_rfl) gNamed tabA rfl rfl rfl hE'.out ?_)
  clear hE'
  go_loopw [5, 1] (fun x v wr => ∃ k : Nat, k ≤ 5 ∧ x = .int .i64 k ∧ Hid (SRow wr w.heap.size v (nms.take k)) ∧ Below w.heap.size w wr) (fun x _ _ => 5 - (intOf x).toNat)
  case atStart => exact ⟨0, by omega, rfl, SRow.nil _ _, Below.refl _ _⟩
  case round =>
    obtain ⟨k, hk, rfl, HR, hb⟩ := hrel
    have hsz := hb.size
    obtain ⟨A', N', c', rfl, -⟩ := HR.out.form
    have hk6 : k = 0 ∨ k = 1 ∨ k = 2 ∨ k = 3 ∨ k = 4 ∨ k = 5 := by omega
    rcases hk6 with rfl | rfl | rfl | rfl | rfl | rfl
    · have i := idx0
      go_wp2_with (at_builtin; go_must (refine wpList_append_string rfl (.tmp 8) (.tmp 11) rfl ⟨#[99, 97, 110, 49, 53]⟩ rfl rfl (by rw [World.size_alloc]) (HR.out.alloc _) (le_alloc hsz _) (by decide) ?_; intro v1 w1 ho1 hb1))
      go_roundw
      case rel => exact ⟨1, by omega, rfl, ho1, (hb.alloc hsz _).trans hb1⟩
      case measure => simp [intOf]
    · have i := idx1
      go_wp2_with (at_builtin; go_must (refine wpList_append_string rfl (.tmp 8) (.tmp 11) rfl ⟨#[99, 114, 99, 49, 54, 109, 111, 100, 98, 117, 115]⟩ rfl rfl (by rw [World.size_alloc]) (HR.out.alloc _) (le_alloc hsz _) (by decide) ?_; intro v1 w1 ho1 hb1))
      go_roundw
      case rel => exact ⟨2, by omega, rfl, ho1, (hb.alloc hsz _).trans hb1⟩
      case measure => simp [intOf]
    · have i := idx2
      go_wp2_with (at_builtin; go_must (refine wpList_append_string rfl (.tmp 8) (.tmp 11) rfl ⟨#[99, 114, 99, 51, 50]⟩ rfl rfl (by rw [World.size_alloc]) (HR.out.alloc _) (le_alloc hsz _) (by decide) ?_; intro v1 w1 ho1 hb1))
      go_roundw
      case rel => exact ⟨3, by omega, rfl, ho1, (hb.alloc hsz _).trans hb1⟩
      case measure => simp [intOf]
    · have i := idx3
      go_wp2_with (at_builtin; go_must (refine wpList_append_string rfl (.tmp 8) (.tmp 11) rfl ⟨#[99, 114, 99, 53, 117, 115, 98]⟩ rfl rfl (by rw [World.size_alloc]) (HR.out.alloc _) (le_alloc hsz _) (by decide) ?_; intro v1 w1 ho1 hb1))
      go_roundw
      case rel => exact ⟨4, by omega, rfl, ho1, (hb.alloc hsz _).trans hb1⟩
      case measure => simp [intOf]
    · have i := idx4
      go_wp2_with (at_builtin; go_must (refine wpList_append_string rfl (.tmp 8) (.tmp 11) rfl ⟨#[99, 114, 99, 56]⟩ rfl rfl (by rw [World.size_alloc]) (HR.out.alloc _) (le_alloc hsz _) (by decide) ?_; intro v1 w1 ho1 hb1))
      go_roundw
      case rel => exact ⟨5, by omega, rfl, ho1, (hb.alloc hsz _).trans hb1⟩
      case measure => simp [intOf]
    · go_wp2
      go_returns
      exact ⟨_, rfl, HR.out, hb⟩

set_option maxRecDepth 100000 in
theorem rnames_any (w : World) :
    Calls Tryd.prog 14 #[] w fun e w' => ∃ v, e = .returned v ∧ SRow w' w.heap.size v nms ∧ Below w.heap.size w w' := by
  go_enter Tryd.func14, Tryd.ntmps14
  go_wp2
  go_returns
  exact ⟨_, rfl, SRow.lit w w.heap.size (Nat.le_refl _) nms (by decide) 5 rfl, ba w _⟩

end Go.Proofs.YtljbhbpddokelaaDoor
