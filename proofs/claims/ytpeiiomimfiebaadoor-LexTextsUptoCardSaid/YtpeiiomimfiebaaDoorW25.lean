/-
  The walks of the specification's Right and written.
-/
import Derived.Test.YtpeiiomimfiebaaDoorW24
import Derived.Test.YtpeiiomimfiebaaDoorW13
import Derived.Test.YtpeiiomimfiebaaDoorW14
import Derived.Test.YtpeiiomimfiebaaDoorW15
namespace Go.Proofs.YtpeiiomimfiebaaDoor
open Go Go.RowKit
set_option linter.unusedVariables false
set_option linter.unusedSimpArgs false

set_option maxRecDepth 20000 in
set_option maxHeartbeats 2000000 in
theorem rright_any (t : Tok) (w : World) (ht : t.t.length ≤ 140737488351232) :
    Calls Tryd.prog 23 #[tkV t] w fun e w' => e = .returned (.bool (vd t)) ∧ Below w.heap.size w w' := by
  obtain ⟨k, x, v, n⟩ := t
  simp only at ht
  unfold tkV tkC
  simp only
  have hX : (⟨x.toArray⟩ : ByteArray).size ≤ 140737488351232 := by rw [size_mk]; exact ht
  have C1 : ∀ w, Calls Tryd.prog 40 #[.string ⟨x.toArray⟩] w fun e w' => e = .returned (nuV (⟨x.toArray⟩ : ByteArray).data.toList) ∧ Below w.heap.size w w' := fun w => (rnumber_any ⟨x.toArray⟩ w hX).mono fun _ _ h => ⟨h.1, by rw [h.2]; exact Below.refl _ _⟩
  have C2 : ∀ w, Calls Tryd.prog 41 #[.string ⟨x.toArray⟩] w fun e w' => e = .returned (.bool (nm (⟨x.toArray⟩ : ByteArray).data.toList)) ∧ Below w.heap.size w w' := fun w => (rname_any ⟨x.toArray⟩ w hX).mono fun _ _ h => ⟨h.1, by rw [h.2]; exact Below.refl _ _⟩
  unfold nuV at C1
  rw [toList_mk] at C1 C2
  have R0 := RowAt.new w 30 #[.int .i64 k, .string ⟨x.toArray⟩, .int .i64 v, .int .i64 n]
  have B0 := ba w (.cells #[.int .i64 k, .string ⟨x.toArray⟩, .int .i64 v, .int .i64 n] 30)
  have c0 := R0.cell 0; have c1 := R0.cell 1; have c2 := R0.cell 2
  simp only [List.getElem?_toArray, List.getElem?_cons_zero, List.getElem?_cons_succ] at c0 c1 c2
  unfold vd
  simp only
  by_cases h2 : k = 2
  · subst h2
    rw [if_pos rfl]
    generalize numE x = e at *
    generalize numV x = u at *
    have H1 := Lib.hid C1
    clear C1 C2
    by_cases he : e = 0
    · subst he
      by_cases hv : u = v
      · subst hv
        go_enter Tryd.func23, Tryd.ntmps23
        go_wp2_with (first
          | (go_at_call 40; go_must (refine (H1.out _).mono ?_; rintro e1 w1 ⟨rfl, b1⟩; have R1 := R0.keep b1; have B1 := B0.trans (b1.mono B0.size); have d2 := R1.cell 2; simp at d2)))
        go_returns
        exact ⟨ret_bool (by simp), B1⟩
      · have hvn : (u == v) = false := by rw [beq_eq_false_iff_ne]; exact hv
        go_enter Tryd.func23, Tryd.ntmps23
        go_wp2_with (first
          | (go_at_call 40; go_must (refine (H1.out _).mono ?_; rintro e1 w1 ⟨rfl, b1⟩; have R1 := R0.keep b1; have B1 := B0.trans (b1.mono B0.size); have d2 := R1.cell 2; simp at d2)))
        go_returns
        exact ⟨ret_bool (by simp [hv]), B1⟩
    · have hen : ((e : Int) == 0) = false := by rw [beq_eq_false_iff_ne]; omega
      go_enter Tryd.func23, Tryd.ntmps23
      go_wp2_with (first
        | (go_at_call 40; go_must (refine (H1.out _).mono ?_; rintro e1 w1 ⟨rfl, b1⟩; have R1 := R0.keep b1; have B1 := B0.trans (b1.mono B0.size))))
      go_returns
      exact ⟨ret_bool (by simp [he]), B1⟩
  rw [if_neg h2]
  have h2n : (k == 2) = false := by rw [beq_eq_false_iff_ne]; exact h2
  by_cases hv : v = 0
  · subst hv
    by_cases h1 : k = 1
    · subst h1
      generalize nm x = b at *
      have H2 := Lib.hid C2
      clear C1 C2 h2
      go_enter Tryd.func23, Tryd.ntmps23
      go_wp2_with (first
        | (go_at_call 41; go_must (refine (H2.out _).mono ?_; rintro e1 w1 ⟨rfl, b1⟩; have B1 := B0.trans (b1.mono B0.size))))
      go_returns
      exact ⟨ret_bool (by simp), B1⟩
    have h1n : (k == 1) = false := by rw [beq_eq_false_iff_ne]; exact h1
    rw [if_neg h1]
    by_cases h3 : k = 3
    · subst h3
      clear C1 C2 h2 h1
      go_enter Tryd.func23, Tryd.ntmps23
      go_wp2
      go_returns
      exact ⟨ret_bool (by simp), B0⟩
    have h3n : (k == 3) = false := by rw [beq_eq_false_iff_ne]; exact h3
    rw [if_neg h3]
    by_cases h4 : k = 4
    · subst h4
      clear C1 C2 h2 h1 h3
      by_cases hl : x.length = 1
      · obtain ⟨c, rfl⟩ : ∃ c, x = [c] := by
          match x, hl with
          | [c], _ => exact ⟨c, rfl⟩
        have C3 := fun w => rmark_any c.toNat (c.toNat : Int) w rfl
        rw [show mk [c] = mkC c.toNat from rfl]
        generalize mkC c.toNat = b at *
        have H3 := Lib.hid C3
        clear C3 hl
        go_enter Tryd.func23, Tryd.ntmps23
        go_wp2_with (first
          | (go_at_call 42; go_must (refine (H3.out _).mono ?_; rintro e1 w1 ⟨rfl, rfl⟩)))
        go_returns
        exact ⟨ret_bool (by simp), B0⟩
      · have hmk : mk x = false := by
          match x, hl with
          | [], _ => rfl
          | [c], h => exact absurd rfl h
          | c :: d :: r, _ => rfl
        rw [hmk]
        have hl2 : ((x.length : Int) == 1) = false := by rw [beq_eq_false_iff_ne]; omega
        have hl3 : (((⟨x.toArray⟩ : ByteArray).size : Int) == 1) = false := by rw [size_mk]; exact hl2
        go_enter Tryd.func23, Tryd.ntmps23
        go_wp2
        go_returns
        exact ⟨ret_bool (by simp), B0⟩
    have h4n : (k == 4) = false := by rw [beq_eq_false_iff_ne]; exact h4
    rw [if_neg h4]
    clear C1 C2
    go_enter Tryd.func23, Tryd.ntmps23
    go_wp2
    go_returns
    exact ⟨ret_bool (by simp), B0⟩
  · have hvn : (v == 0) = false := by rw [beq_eq_false_iff_ne]; exact hv
    have hvn2 : (v != 0) = true := by rw [bne_iff_ne]; exact hv
    rw [decide_eq_false hv, Bool.false_and]
    clear C1 C2
    go_enter Tryd.func23, Tryd.ntmps23
    go_wp2
    go_returns
    exact ⟨rfl, B0⟩

set_option maxRecDepth 20000 in
set_option maxHeartbeats 2000000 in
theorem rwritten_any (t : Tok) (w : World) (ht : t.t.length ≤ 1048576) (h0 : -9223372036854775808 ≤ t.v) (h1 : t.v ≤ 9223372036854775807) :
    Calls Tryd.prog 24 #[tkV t] w fun e w' => e = .returned (.string ⟨(wr t).toArray⟩) ∧ Below w.heap.size w w' := by
  obtain ⟨k, x, v, n⟩ := t
  simp only at ht h0 h1
  unfold tkV tkC wr
  simp only
  have C1 := fun w => decimal_any v w h0 h1
  have C2 := fun w => rquote_any ⟨x.toArray⟩ w (by rw [size_mk]; omega)
  rw [toList_mk] at C2
  have R0 := RowAt.new w 30 #[.int .i64 k, .string ⟨x.toArray⟩, .int .i64 v, .int .i64 n]
  have B0 := ba w (.cells #[.int .i64 k, .string ⟨x.toArray⟩, .int .i64 v, .int .i64 n] 30)
  have c0 := R0.cell 0; have c1 := R0.cell 1; have c2 := R0.cell 2
  simp only [List.getElem?_toArray, List.getElem?_cons_zero, List.getElem?_cons_succ] at c0 c1 c2
  have H1 := Lib.hid C1; have H2 := Lib.hid C2
  clear C1 C2
  by_cases h2 : k = 2
  · subst h2
    rw [if_pos rfl]
    go_enter Tryd.func24, Tryd.ntmps24
    go_wp2_with (first
      | (go_at_call 43; go_must (refine (H1.out _).mono ?_; rintro e1 w1 ⟨rfl, rfl⟩)))
    go_returns
    exact ⟨rfl, B0⟩
  rw [if_neg h2]
  have h2n : (k == 2) = false := by rw [beq_eq_false_iff_ne]; exact h2
  by_cases h3 : k = 3
  · subst h3
    rw [if_pos rfl]
    go_enter Tryd.func24, Tryd.ntmps24
    go_wp2_with (first
      | (go_at_call 44; go_must (refine (H2.out _).mono ?_; rintro e1 w1 ⟨rfl, b1⟩; have B1 := B0.trans (b1.mono B0.size))))
    go_returns
    exact ⟨rfl, B1⟩
  rw [if_neg h3]
  have h3n : (k == 3) = false := by rw [beq_eq_false_iff_ne]; exact h3
  go_enter Tryd.func24, Tryd.ntmps24
  go_wp2
  go_returns
  exact ⟨rfl, B0⟩

end Go.Proofs.YtpeiiomimfiebaaDoor
