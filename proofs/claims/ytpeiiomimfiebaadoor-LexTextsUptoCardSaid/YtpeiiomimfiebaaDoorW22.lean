/-
  The walks of the program's valid and written; what they need of the world: the library's table of the powers of ten.
-/
import Derived.Test.YtpeiiomimfiebaaDoorW8
import Derived.Test.YtpeiiomimfiebaaDoorTR
import Derived.Test.YtpeiiomimfiebaaDoorM5
import Derived.Test.YtpeiiomimfiebaaDoorShelf
import Derived.Lib.LaidTab
namespace Go.Proofs.YtpeiiomimfiebaaDoor
open Go.RowKit Go.Sort
set_option linter.unusedVariables false
set_option linter.unusedSimpArgs false

/-- The library's table of the powers of ten, as its text lays it. -/
def Pow (w : World) : Prop := Lib.TabIs Tryd.prog w "internal/strconv.uint64pow10" .u64 Lib.pow10Tab
theorem gPow : Tryd.prog.globalNamed "internal/strconv.uint64pow10" = some 1 := by kernel_rfl
/-- The world holds the table. -/
def Env (w : World) : Prop := Pow w ∧ 1 < w.heap.size
theorem Env.below {w w' : World} (h : Env w) (hb : Below w.heap.size w w') : Env w' := ⟨var?_below hb gPow h.2 h.1, Nat.lt_of_lt_of_le h.2 hb.size⟩
theorem below_grow (w : World) (k : Nat) (os : Array Obj) : Below w.heap.size w (grow (w.drewN k) os) :=
  ⟨rfl, rfl, rfl, by simp [grow], fun i hi => by simp [grow]; rw [Array.getElem?_append_left hi]⟩
theorem itoa_any (n : Int) (w : World) (h0 : -9223372036854775808 ≤ n) (h1 : n ≤ 9223372036854775807) (hE : Env w) :
    Calls Tryd.prog 27 #[.int .i64 n] w fun e w' => e = .returned (.string ⟨(Lib.itoa n).toArray⟩) ∧ Below w.heap.size w w' :=
  (Tryd.strconv_Itoa n h0 h1 w hE.1).mono fun e w' ⟨he, k, os, hw⟩ => ⟨he, by rw [hw]; exact below_grow w k os⟩

theorem four_new (w : World) (a b c d : Value) : (w.alloc (.cells #[a, b, c, d] 30)).cell? ⟨w.heap.size, 0, none⟩ = some a ∧ (w.alloc (.cells #[a, b, c, d] 30)).cell? ⟨w.heap.size, 1, none⟩ = some b ∧ (w.alloc (.cells #[a, b, c, d] 30)).cell? ⟨w.heap.size, 2, none⟩ = some c ∧ (w.alloc (.cells #[a, b, c, d] 30)).cell? ⟨w.heap.size, 3, none⟩ = some d := by
  have h := RowAt.new w 30 #[a, b, c, d]
  exact ⟨h.cell 0, h.cell 1, h.cell 2, h.cell 3⟩

set_option maxRecDepth 20000 in
set_option maxHeartbeats 2000000 in
theorem valid_any (t : Tok) (w : World) (ht : t.t.length ≤ 140737488351232) :
    Calls Tryd.prog 9 #[tkV t] w fun e w' => e = .returned (.bool (vd t)) ∧ Below w.heap.size w w' := by
  obtain ⟨k, x, v, n⟩ := t
  simp only at ht
  unfold tkV tkC
  simp only
  have hX : (⟨x.toArray⟩ : ByteArray).size ≤ 140737488351232 := by rw [size_mk]; exact ht
  have C1 := fun w => number_any ⟨x.toArray⟩ w hX
  have C2 := fun w => name_any ⟨x.toArray⟩ w hX
  have C3 := fun w => mark_any ⟨x.toArray⟩ w hX
  unfold nuV at C1
  rw [toList_mk] at C1 C2 C3
  have R0 := RowAt.new w 30 #[.int .i64 k, .string ⟨x.toArray⟩, .int .i64 v, .int .i64 n]
  have B0 := ba w (.cells #[.int .i64 k, .string ⟨x.toArray⟩, .int .i64 v, .int .i64 n] 30)
  have c0 := R0.cell 0; have c1 := R0.cell 1; have c2 := R0.cell 2
  simp only [List.getElem?_toArray, List.getElem?_cons_zero, List.getElem?_cons_succ] at c0 c1 c2
  unfold vd
  simp only
  by_cases h2 : k = 2
  · subst h2
    rw [if_pos rfl]
    generalize numE x = e at *
    generalize numV x = u at *
    have H1 := Lib.hid C1
    clear C1 C2 C3
    by_cases he : e = 0
    · subst he
      by_cases hv : u = v
      · subst hv
        go_enter Tryd.func9, Tryd.ntmps9
        go_wp2_with (first
          | (go_at_call 15; go_must (refine (H1.out _).mono ?_; rintro e1 w1 ⟨rfl, b1⟩; have R1 := R0.keep b1; have B1 := B0.trans (b1.mono B0.size); have d2 := R1.cell 2; simp at d2)))
        go_returns
        exact ⟨ret_bool (by simp), B1⟩
      · have hvn : (u == v) = false := by rw [beq_eq_false_iff_ne]; exact hv
        go_enter Tryd.func9, Tryd.ntmps9
        go_wp2_with (first
          | (go_at_call 15; go_must (refine (H1.out _).mono ?_; rintro e1 w1 ⟨rfl, b1⟩; have R1 := R0.keep b1; have B1 := B0.trans (b1.mono B0.size); have d2 := R1.cell 2; simp at d2)))
        go_returns
        exact ⟨ret_bool (by simp [hv]), B1⟩
    · have hen : ((e : Int) == 0) = false := by rw [beq_eq_false_iff_ne]; omega
      go_enter Tryd.func9, Tryd.ntmps9
      go_wp2_with (first
        | (go_at_call 15; go_must (refine (H1.out _).mono ?_; rintro e1 w1 ⟨rfl, b1⟩; have R1 := R0.keep b1; have B1 := B0.trans (b1.mono B0.size))))
      go_returns
      exact ⟨ret_bool (by simp [he]), B1⟩
  rw [if_neg h2]
  have h2n : (k == 2) = false := by rw [beq_eq_false_iff_ne]; exact h2
  by_cases hv : v = 0
  · subst hv
    by_cases h1 : k = 1
    · subst h1
      generalize nm x = b at *
      have H2 := Lib.hid C2
      clear C1 C2 C3 h2
      go_enter Tryd.func9, Tryd.ntmps9
      go_wp2_with (first
        | (go_at_call 18; go_must (refine (H2.out _).mono ?_; rintro e1 w1 ⟨rfl, b1⟩; have B1 := B0.trans (b1.mono B0.size))))
      go_returns
      exact ⟨ret_bool (by simp), B1⟩
    have h1n : (k == 1) = false := by rw [beq_eq_false_iff_ne]; exact h1
    rw [if_neg h1]
    by_cases h3 : k = 3
    · subst h3
      clear C1 C2 C3 h2 h1
      go_enter Tryd.func9, Tryd.ntmps9
      go_wp2
      go_returns
      exact ⟨ret_bool (by simp), B0⟩
    have h3n : (k == 3) = false := by rw [beq_eq_false_iff_ne]; exact h3
    rw [if_neg h3]
    by_cases h4 : k = 4
    · subst h4
      generalize mk x = b at *
      have H3 := Lib.hid C3
      clear C1 C2 C3 h2 h1 h3
      go_enter Tryd.func9, Tryd.ntmps9
      go_wp2_with (first
        | (go_at_call 25; go_must (refine (H3.out _).mono ?_; rintro e1 w1 ⟨rfl, rfl⟩)))
      go_returns
      exact ⟨ret_bool (by simp), B0⟩
    have h4n : (k == 4) = false := by rw [beq_eq_false_iff_ne]; exact h4
    rw [if_neg h4]
    clear C1 C2 C3
    go_enter Tryd.func9, Tryd.ntmps9
    go_wp2
    go_returns
    exact ⟨ret_bool (by simp), B0⟩
  · have hvn : (v == 0) = false := by rw [beq_eq_false_iff_ne]; exact hv
    have hvn2 : (v != 0) = true := by rw [bne_iff_ne]; exact hv
    rw [decide_eq_false hv, Bool.false_and]
    clear C1 C2 C3
    go_enter Tryd.func9, Tryd.ntmps9
    go_wp2
    go_returns
    exact ⟨rfl, B0⟩

set_option maxRecDepth 20000 in
set_option maxHeartbeats 2000000 in
theorem written_any (t : Tok) (w : World) (ht : t.t.length ≤ 1048576) (h0 : -9223372036854775808 ≤ t.v) (h1 : t.v ≤ 9223372036854775807) (hE : Env w) :
    Calls Tryd.prog 12 #[tkV t] w fun e w' => e = .returned (.string ⟨(wr t).toArray⟩) ∧ Below w.heap.size w w' := by
  obtain ⟨k, x, v, n⟩ := t
  simp only at ht h0 h1
  unfold tkV tkC wr
  simp only
  have hE' := Lib.hid (hE.below (ba w (.cells #[.int .i64 k, .string ⟨x.toArray⟩, .int .i64 v, .int .i64 n] 30)))
  have C1 := fun w (hE : Env w) => itoa_any v w h0 h1 hE
  have C2 := fun w => quote_any ⟨x.toArray⟩ w (by rw [size_mk]; omega)
  rw [toList_mk] at C2
  have R0 := RowAt.new w 30 #[.int .i64 k, .string ⟨x.toArray⟩, .int .i64 v, .int .i64 n]
  have B0 := ba w (.cells #[.int .i64 k, .string ⟨x.toArray⟩, .int .i64 v, .int .i64 n] 30)
  have c0 := R0.cell 0; have c1 := R0.cell 1; have c2 := R0.cell 2
  simp only [List.getElem?_toArray, List.getElem?_cons_zero, List.getElem?_cons_succ] at c0 c1 c2
  clear hE
  have H1 := Lib.hid C1; have H2 := Lib.hid C2
  clear C1 C2
  by_cases h2 : k = 2
  · subst h2
    rw [if_pos rfl]
    go_enter Tryd.func12, Tryd.ntmps12
    go_wp2_with (first
      | (go_at_call 27; go_must (refine (H1.out _ hE'.out).mono ?_; rintro e1 w1 ⟨rfl, b1⟩; have B1 := B0.trans (b1.mono B0.size))))
    go_returns
    exact ⟨rfl, B1⟩
  rw [if_neg h2]
  have h2n : (k == 2) = false := by rw [beq_eq_false_iff_ne]; exact h2
  by_cases h3 : k = 3
  · subst h3
    rw [if_pos rfl]
    go_enter Tryd.func12, Tryd.ntmps12
    go_wp2_with (first
      | (go_at_call 28; go_must (refine (H2.out _).mono ?_; rintro e1 w1 ⟨rfl, b1⟩; have B1 := B0.trans (b1.mono B0.size))))
    go_returns
    exact ⟨rfl, B1⟩
  rw [if_neg h3]
  have h3n : (k == 3) = false := by rw [beq_eq_false_iff_ne]; exact h3
  go_enter Tryd.func12, Tryd.ntmps12
  go_wp2
  go_returns
  exact ⟨rfl, B0⟩

end Go.Proofs.YtpeiiomimfiebaaDoor
