/-
  The specification's Line: its region that draws its order is taken by hand, with another condition on the memory behind the call of names.
-/
import Derived.Test.YtddphdohjceonaaDoorA18
namespace Go.Proofs.YtddphdohjceonaaDoor
open Go Go.RowKit Go.Joins
set_option linter.unusedVariables false
set_option linter.unusedSimpArgs false

section
variable {P : Program} {ops : Array Oper} {Q : Exit → Act → World → Prop} {md : Region.Mode} {S S' : World → Prop}
theorem wpAnyH_imp (hi : ∀ w, S' w → S w) : ∀ (fuel : Nat) (listed : Array Bool) (a : Act) (w : World), wpAnyH P md ops Q S' fuel listed a w → wpAnyH P md ops Q S fuel listed a w
  | 0, _, _, _, h => h
  | fuel + 1, _, _, _, h => ⟨h.1, fun i hr => wpOp_mono (fun a' w' h' => ⟨hi _ h'.1, wpAnyH_imp hi fuel _ a' w' h'.2⟩) (h.2 i hr)⟩
end
theorem held_ln2 {w W W' : World} {B n : Nat} {f t v a : Int} {s nb : ByteArray} {u : Int} (h : W.cell? ⟨w.heap.size, 0, none⟩ = some (.int .i64 ((n : Int) + 1)) ∧ W.cell? ⟨w.heap.size, 1, none⟩ = some (.int .i64 f) ∧ W.cell? ⟨w.heap.size, 2, none⟩ = some (.int .i64 t) ∧ W.cell? ⟨w.heap.size, 3, none⟩ = some (.int .i64 v) ∧ W.cell? ⟨w.heap.size, 4, none⟩ = some (.int .i64 a) ∧ W.cell? ⟨w.heap.size, 5, none⟩ = some (.string s) ∧ W.cell? ⟨w.heap.size, 6, none⟩ = some (.int .i64 u) ∧ W.cell? ⟨B, n, none⟩ = some (.string nb) ∧ Below w.heap.size w W ∧ w.heap.size < W.heap.size ∧ B < W.heap.size) (hb : Below W.heap.size W W') : W'.cell? ⟨w.heap.size, 0, none⟩ = some (.int .i64 ((n : Int) + 1)) ∧ W'.cell? ⟨w.heap.size, 1, none⟩ = some (.int .i64 f) ∧ W'.cell? ⟨w.heap.size, 2, none⟩ = some (.int .i64 t) ∧ W'.cell? ⟨w.heap.size, 3, none⟩ = some (.int .i64 v) ∧ W'.cell? ⟨w.heap.size, 4, none⟩ = some (.int .i64 a) ∧ W'.cell? ⟨w.heap.size, 5, none⟩ = some (.string s) ∧ W'.cell? ⟨w.heap.size, 6, none⟩ = some (.int .i64 u) ∧ W'.cell? ⟨B, n, none⟩ = some (.string nb) ∧ Below w.heap.size w W' ∧ w.heap.size < W'.heap.size ∧ B < W'.heap.size := by
  obtain ⟨a0, a1, a2, a3, a4, a5, a6, an, hB, l1, l2⟩ := h
  have hs := hb.size
  exact ⟨(hb.cell l1).trans a0, (hb.cell l1).trans a1, (hb.cell l1).trans a2, (hb.cell l1).trans a3, (hb.cell l1).trans a4, (hb.cell l1).trans a5, (hb.cell l1).trans a6, (hb.cell l2).trans an, hB.trans (hb.mono hB.size), by omega, by omega⟩

set_option maxRecDepth 20000 in
set_option maxHeartbeats 8000000 in
theorem refLine_xy (k f t v a : Int) (s : ByteArray) (u : Int) (w : World) (hs : s.size ≤ 140737488351232) :
    Calls Tryd.prog 24 #[.agg (evA k f t v a s u)] w fun e w' => e = .returned (lnV ⟨k, f, t, v, a, s.data.toList, u⟩) ∧ Below w.heap.size w w' := by
  have C1 := fun W => refValid_xy k f t v a s u W hs
  rw [vE_VeP] at C1
  cases hv : vE ⟨k, f, t, v, a, s.data.toList, u⟩ with
  | false =>
    have HV : Hid (lnV ⟨k, f, t, v, a, s.data.toList, u⟩ = .tuple #[.string ⟨#[]⟩, .int .i64 1]) := Lib.hid (by unfold lnV; rw [hv]; rfl)
    rw [hv] at C1
    have H1 := Lib.hid C1
    clear C1 hv
    go_enter Tryd.func24, Tryd.ntmps24
    go_wp2_with (go_at_call 12; go_must (refine (H1.out _).mono ?_; rintro e1 w1 ⟨rfl, rfl⟩))
    go_returns
    exact ⟨HV.out.symm ▸ rfl, (by repeat' (first | with_reducible exact Below.refl _ _ | with_reducible exact Nat.le_refl _ | with_reducible assumption | with_reducible refine below_drewN ?_ _ | with_reducible refine Below.drew ?_ | with_reducible refine Below.trans ?_ (Below.mono (by assumption) ?_) | with_reducible refine Below.alloc ?_ ?_ _ | with_reducible refine Below.setCell ?_ ?_ _ | with_reducible refine le_setCell ?_ _ _ | with_reducible refine le_alloc ?_ _ | with_reducible refine le_drewN ?_ _ | with_reducible refine le_drew ?_ | with_reducible refine Nat.le_trans ?_ (Below.size (by assumption)) | (simp only [World.size_alloc, World.size_setCell]; omega)))⟩
  | true =>
    have hb := of_decide_eq_true hv
    simp only at hb
    have HLB := Lib.hid (line_bytes ⟨k, f, t, v, a, s.data.toList, u⟩)
    simp only at HLB
    have HV : Hid (lnV ⟨k, f, t, v, a, s.data.toList, u⟩ = .tuple #[.string ⟨(ln7 ⟨k, f, t, v, a, s.data.toList, u⟩).toArray⟩, .int .i64 0]) := Lib.hid (by unfold lnV; rw [hv]; rfl)
    rw [hv] at C1
    have H1 := Lib.hid C1
    obtain ⟨n, rfl⟩ : ∃ n : Nat, k = (n : Int) + 1 := ⟨(k - 1).toNat, by omega⟩
    have hn8 : n < 8 := by omega
    have hn8' : (n : Int) < 8 := by omega
    have hn0 : (0 : Int) ≤ n := by omega
    have NA := fun W => (names_any W).mono fun e w' (h : _ ∧ _) => (⟨h.1, by rw [h.2]; exact names_at W n hn8, by rw [h.2]; exact ba _ _, by rw [h.2, World.size_alloc]; omega⟩ : e = .returned (.slice (some ⟨W.heap.size, 0, none⟩) 8 8) ∧ w'.cell? ⟨W.heap.size, n, none⟩ = some (.string ⟨(nm7 ((n : Int) + 1)).toArray⟩) ∧ Below W.heap.size W w' ∧ W.heap.size < w'.heap.size)
    have HN := Lib.hid NA
    have hw0 : IntKind.i64.wrap (n : Int) = n := IntWalk.i64_in _ (by omega)
    clear NA
    have D1 := Lib.hid (fun W => decimal_any f W (by omega) (by omega))
    have D2 := Lib.hid (fun W => decimal_any t W (by omega) (by omega))
    have D3 := Lib.hid (fun W => decimal_any v W (by omega) (by omega))
    have D4 := Lib.hid (fun W => decimal_any a W (by omega) (by omega))
    have D5 := Lib.hid (fun W => decimal_any u W (by omega) (by omega))
    have hq : s.data.toList.length ≤ 4096 := by omega
    have zq : (⟨(qt s.data.toList).toArray⟩ : ByteArray).size ≤ 20000 := by rw [size_mk]; have := (qtB_len s.data.toList).2; have := qt_len s.data.toList; omega
    rw [← size_len] at hq
    have HQ := Lib.hid (fun W => rquote_any s W (by omega))
    have zn : (⟨(nm7 ((n : Int) + 1)).toArray⟩ : ByteArray).size ≤ 7 := by rw [size_mk]; unfold nm7; (repeat' split) <;> simp
    have z1 : (⟨(Lib.itoa f).toArray⟩ : ByteArray).size ≤ 21 := by rw [size_mk]; exact itoa_len f (by omega) (by omega)
    have z2 : (⟨(Lib.itoa t).toArray⟩ : ByteArray).size ≤ 21 := by rw [size_mk]; exact itoa_len t (by omega) (by omega)
    have z3 : (⟨(Lib.itoa v).toArray⟩ : ByteArray).size ≤ 21 := by rw [size_mk]; exact itoa_len v (by omega) (by omega)
    have z4 : (⟨(Lib.itoa a).toArray⟩ : ByteArray).size ≤ 21 := by rw [size_mk]; exact itoa_len a (by omega) (by omega)
    have z5 : (⟨(Lib.itoa u).toArray⟩ : ByteArray).size ≤ 21 := by rw [size_mk]; exact itoa_len u (by omega) (by omega)
    have hsv := Lib.hid (seven_new w ((n : Int) + 1) f t v a s u 23)
    clear hb hv C1 hq
    generalize (⟨(nm7 ((n : Int) + 1)).toArray⟩ : ByteArray) = nb at *
    generalize (⟨(qt s.data.toList).toArray⟩ : ByteArray) = qb at *
    generalize (⟨(Lib.itoa f).toArray⟩ : ByteArray) = t1 at *
    generalize (⟨(Lib.itoa t).toArray⟩ : ByteArray) = t2 at *
    generalize (⟨(Lib.itoa v).toArray⟩ : ByteArray) = t3 at *
    generalize (⟨(Lib.itoa a).toArray⟩ : ByteArray) = t4 at *
    generalize (⟨(Lib.itoa u).toArray⟩ : ByteArray) = t5 at *
    go_enter Tryd.func24, Tryd.ntmps24
    go_wp2_with (go_at_call 12; go_must (refine (H1.out _).mono ?_; rintro e1 w1 ⟨rfl, rfl⟩))
    obtain ⟨W, eW, hS0⟩ : ∃ W, W = (w.alloc (.cells (evA ((n : Int) + 1) f t v a s u) 23)).alloc (.cells (evA ((n : Int) + 1) f t v a s u) 23) ∧ W.cell? ⟨w.heap.size, 0, none⟩ = some (.int .i64 ((n : Int) + 1)) ∧ W.cell? ⟨w.heap.size, 1, none⟩ = some (.int .i64 f) ∧ W.cell? ⟨w.heap.size, 2, none⟩ = some (.int .i64 t) ∧ W.cell? ⟨w.heap.size, 3, none⟩ = some (.int .i64 v) ∧ W.cell? ⟨w.heap.size, 4, none⟩ = some (.int .i64 a) ∧ W.cell? ⟨w.heap.size, 5, none⟩ = some (.string s) ∧ W.cell? ⟨w.heap.size, 6, none⟩ = some (.int .i64 u) ∧ Below w.heap.size w W ∧ w.heap.size < W.heap.size := by
      refine ⟨_, rfl, ?_⟩
      have hb2 := ba (w.alloc (.cells (evA ((n : Int) + 1) f t v a s u) 23)) (.cells (evA ((n : Int) + 1) f t v a s u) 23)
      have l1 : w.heap.size < (w.alloc (.cells (evA ((n : Int) + 1) f t v a s u) 23)).heap.size := by rw [World.size_alloc]; omega
      obtain ⟨a0, a1, a2, a3, a4, a5, a6⟩ := hsv.out
      exact ⟨(hb2.cell l1).trans a0, (hb2.cell l1).trans a1, (hb2.cell l1).trans a2, (hb2.cell l1).trans a3, (hb2.cell l1).trans a4, (hb2.cell l1).trans a5, (hb2.cell l1).trans a6, ((Below.refl _ w).alloc (Nat.le_refl _) _).alloc (by rw [World.size_alloc]; omega) _, by rw [World.size_alloc, World.size_alloc]; omega⟩
    rw [← eW]
    clear eW H1 hsv
    have HS := Lib.hid hS0
    clear hS0
    have q0 : ¬ 9223372036854775807 < nb.size + 1 := by omega
    have q1 : ¬ 9223372036854775807 < nb.size + 1 + t1.size := by omega
    have q2 : ¬ 9223372036854775807 < nb.size + 1 + t1.size + 1 := by omega
    have q3 : ¬ 9223372036854775807 < nb.size + 1 + t1.size + 1 + t2.size := by omega
    have q4 : ¬ 9223372036854775807 < nb.size + 1 + t1.size + 1 + t2.size + 1 := by omega
    have q5 : ¬ 9223372036854775807 < nb.size + 1 + t1.size + 1 + t2.size + 1 + t3.size := by omega
    have q6 : ¬ 9223372036854775807 < nb.size + 1 + t1.size + 1 + t2.size + 1 + t3.size + 1 := by omega
    have q7 : ¬ 9223372036854775807 < nb.size + 1 + t1.size + 1 + t2.size + 1 + t3.size + 1 + t4.size := by omega
    have q8 : ¬ 9223372036854775807 < nb.size + 1 + t1.size + 1 + t2.size + 1 + t3.size + 1 + t4.size + 1 := by omega
    have q9 : ¬ 9223372036854775807 < nb.size + 1 + t1.size + 1 + t2.size + 1 + t3.size + 1 + t4.size + 1 + t5.size := by omega
    have q10 : ¬ 9223372036854775807 < nb.size + 1 + t1.size + 1 + t2.size + 1 + t3.size + 1 + t4.size + 1 + t5.size + 1 := by omega
    have q11 : ¬ 9223372036854775807 < nb.size + 1 + t1.size + 1 + t2.size + 1 + t3.size + 1 + t4.size + 1 + t5.size + 1 + qb.size := by omega
    refine wp_region_held_drew (S := fun w' => w'.cell? ⟨w.heap.size, 0, none⟩ = some (.int .i64 ((n : Int) + 1)) ∧ w'.cell? ⟨w.heap.size, 1, none⟩ = some (.int .i64 f) ∧ w'.cell? ⟨w.heap.size, 2, none⟩ = some (.int .i64 t) ∧ w'.cell? ⟨w.heap.size, 3, none⟩ = some (.int .i64 v) ∧ w'.cell? ⟨w.heap.size, 4, none⟩ = some (.int .i64 a) ∧ w'.cell? ⟨w.heap.size, 5, none⟩ = some (.string s) ∧ w'.cell? ⟨w.heap.size, 6, none⟩ = some (.int .i64 u) ∧ Below w.heap.size w w' ∧ w.heap.size < w'.heap.size) (by kernel_rfl) ?_ (fun hH => ?_)
    · exact held_ln HS.out (Below.refl _ _).drew
    refine wpAnyH_take (i := 1) (oi := { dst := some 9, op := Go.Op.fieldAddr 23 (Go.Operand.tmp 1) 0, type := 0, pos := "ref.go:166", after := #[], guard := none }) (v := ?_) rfl ?_ ?_ ?_ ?_ (Or.inl ⟨?_, ?_⟩) hH ?_
    rotate_left
    · kernel_rfl
    · kernel_rfl
    · kernel_rfl
    · exact fun _ _ _ h => h
    · kernel_rfl
    · intro wS hSw
      try dsimp only at hSw
      go_simp
      try with_reducible rfl
    try simp only [Act.put, List.setIfInBounds_toArray, List.set_cons_zero, List.set_cons_succ]
    refine wpAnyH_take (i := 2) (oi := { dst := some 10, op := Go.Op.load 3 (Go.Operand.tmp 9), type := 3, pos := "ref.go:166", after := #[{ on := 1, ground := Go.Ground.data }], guard := none }) (v := ?_) rfl ?_ ?_ ?_ ?_ (Or.inl ⟨?_, ?_⟩) hH ?_
    rotate_left
    · kernel_rfl
    · kernel_rfl
    · kernel_rfl
    · exact fun _ _ _ h => h
    · kernel_rfl
    · intro wS hSw
      try dsimp only at hSw
      go_simp
      try with_reducible rfl
    try simp only [Act.put, List.setIfInBounds_toArray, List.set_cons_zero, List.set_cons_succ]
    refine wpAnyH_take (i := 3) (oi := { dst := some 11, op := Go.Op.binOp Go.BinOp.sub 3 (Go.Operand.tmp 10) (Go.Operand.const (Go.Value.int Go.IntKind.i64 1)) 3, type := 3, pos := "ref.go:166", after := #[{ on := 2, ground := Go.Ground.data }], guard := none }) (v := ?_) rfl ?_ ?_ ?_ ?_ (Or.inl ⟨?_, ?_⟩) hH ?_
    rotate_left
    · kernel_rfl
    · kernel_rfl
    · kernel_rfl
    · exact fun _ _ _ h => h
    · kernel_rfl
    · intro wS hSw
      try dsimp only at hSw
      go_simp
      try with_reducible rfl
    try simp only [Act.put, List.setIfInBounds_toArray, List.set_cons_zero, List.set_cons_succ]
    refine wpAnyH_take (i := 7) (oi := { dst := some 15, op := Go.Op.fieldAddr 23 (Go.Operand.tmp 1) 1, type := 0, pos := "ref.go:166", after := #[], guard := none }) (v := ?_) rfl ?_ ?_ ?_ ?_ (Or.inl ⟨?_, ?_⟩) hH ?_
    rotate_left
    · kernel_rfl
    · kernel_rfl
    · kernel_rfl
    · exact fun _ _ _ h => h
    · kernel_rfl
    · intro wS hSw
      try dsimp only at hSw
      go_simp
      try with_reducible rfl
    try simp only [Act.put, List.setIfInBounds_toArray, List.set_cons_zero, List.set_cons_succ]
    refine wpAnyH_take (i := 8) (oi := { dst := some 16, op := Go.Op.load 3 (Go.Operand.tmp 15), type := 3, pos := "ref.go:166", after := #[{ on := 7, ground := Go.Ground.data }], guard := none }) (v := ?_) rfl ?_ ?_ ?_ ?_ (Or.inl ⟨?_, ?_⟩) hH ?_
    rotate_left
    · kernel_rfl
    · kernel_rfl
    · kernel_rfl
    · exact fun _ _ _ h => h
    · kernel_rfl
    · intro wS hSw
      try dsimp only at hSw
      go_simp
      try with_reducible rfl
    try simp only [Act.put, List.setIfInBounds_toArray, List.set_cons_zero, List.set_cons_succ]
    refine wpAnyH_take (i := 12) (oi := { dst := some 20, op := Go.Op.fieldAddr 23 (Go.Operand.tmp 1) 2, type := 0, pos := "ref.go:166", after := #[], guard := none }) (v := ?_) rfl ?_ ?_ ?_ ?_ (Or.inl ⟨?_, ?_⟩) hH ?_
    rotate_left
    · kernel_rfl
    · kernel_rfl
    · kernel_rfl
    · exact fun _ _ _ h => h
    · kernel_rfl
    · intro wS hSw
      try dsimp only at hSw
      go_simp
      try with_reducible rfl
    try simp only [Act.put, List.setIfInBounds_toArray, List.set_cons_zero, List.set_cons_succ]
    refine wpAnyH_take (i := 13) (oi := { dst := some 21, op := Go.Op.load 3 (Go.Operand.tmp 20), type := 3, pos := "ref.go:166", after := #[{ on := 12, ground := Go.Ground.data }], guard := none }) (v := ?_) rfl ?_ ?_ ?_ ?_ (Or.inl ⟨?_, ?_⟩) hH ?_
    rotate_left
    · kernel_rfl
    · kernel_rfl
    · kernel_rfl
    · exact fun _ _ _ h => h
    · kernel_rfl
    · intro wS hSw
      try dsimp only at hSw
      go_simp
      try with_reducible rfl
    try simp only [Act.put, List.setIfInBounds_toArray, List.set_cons_zero, List.set_cons_succ]
    refine wpAnyH_take (i := 17) (oi := { dst := some 25, op := Go.Op.fieldAddr 23 (Go.Operand.tmp 1) 3, type := 0, pos := "ref.go:166", after := #[], guard := none }) (v := ?_) rfl ?_ ?_ ?_ ?_ (Or.inl ⟨?_, ?_⟩) hH ?_
    rotate_left
    · kernel_rfl
    · kernel_rfl
    · kernel_rfl
    · exact fun _ _ _ h => h
    · kernel_rfl
    · intro wS hSw
      try dsimp only at hSw
      go_simp
      try with_reducible rfl
    try simp only [Act.put, List.setIfInBounds_toArray, List.set_cons_zero, List.set_cons_succ]
    refine wpAnyH_take (i := 18) (oi := { dst := some 26, op := Go.Op.load 3 (Go.Operand.tmp 25), type := 3, pos := "ref.go:166", after := #[{ on := 17, ground := Go.Ground.data }], guard := none }) (v := ?_) rfl ?_ ?_ ?_ ?_ (Or.inl ⟨?_, ?_⟩) hH ?_
    rotate_left
    · kernel_rfl
    · kernel_rfl
    · kernel_rfl
    · exact fun _ _ _ h => h
    · kernel_rfl
    · intro wS hSw
      try dsimp only at hSw
      go_simp
      try with_reducible rfl
    try simp only [Act.put, List.setIfInBounds_toArray, List.set_cons_zero, List.set_cons_succ]
    refine wpAnyH_take (i := 22) (oi := { dst := some 30, op := Go.Op.fieldAddr 23 (Go.Operand.tmp 1) 4, type := 0, pos := "ref.go:166", after := #[], guard := none }) (v := ?_) rfl ?_ ?_ ?_ ?_ (Or.inl ⟨?_, ?_⟩) hH ?_
    rotate_left
    · kernel_rfl
    · kernel_rfl
    · kernel_rfl
    · exact fun _ _ _ h => h
    · kernel_rfl
    · intro wS hSw
      try dsimp only at hSw
      go_simp
      try with_reducible rfl
    try simp only [Act.put, List.setIfInBounds_toArray, List.set_cons_zero, List.set_cons_succ]
    refine wpAnyH_take (i := 23) (oi := { dst := some 31, op := Go.Op.load 3 (Go.Operand.tmp 30), type := 3, pos := "ref.go:166", after := #[{ on := 22, ground := Go.Ground.data }], guard := none }) (v := ?_) rfl ?_ ?_ ?_ ?_ (Or.inl ⟨?_, ?_⟩) hH ?_
    rotate_left
    · kernel_rfl
    · kernel_rfl
    · kernel_rfl
    · exact fun _ _ _ h => h
    · kernel_rfl
    · intro wS hSw
      try dsimp only at hSw
      go_simp
      try with_reducible rfl
    try simp only [Act.put, List.setIfInBounds_toArray, List.set_cons_zero, List.set_cons_succ]
    refine wpAnyH_take (i := 27) (oi := { dst := some 35, op := Go.Op.fieldAddr 23 (Go.Operand.tmp 1) 6, type := 0, pos := "ref.go:166", after := #[], guard := none }) (v := ?_) rfl ?_ ?_ ?_ ?_ (Or.inl ⟨?_, ?_⟩) hH ?_
    rotate_left
    · kernel_rfl
    · kernel_rfl
    · kernel_rfl
    · exact fun _ _ _ h => h
    · kernel_rfl
    · intro wS hSw
      try dsimp only at hSw
      go_simp
      try with_reducible rfl
    try simp only [Act.put, List.setIfInBounds_toArray, List.set_cons_zero, List.set_cons_succ]
    refine wpAnyH_take (i := 28) (oi := { dst := some 36, op := Go.Op.load 3 (Go.Operand.tmp 35), type := 3, pos := "ref.go:166", after := #[{ on := 27, ground := Go.Ground.data }], guard := none }) (v := ?_) rfl ?_ ?_ ?_ ?_ (Or.inl ⟨?_, ?_⟩) hH ?_
    rotate_left
    · kernel_rfl
    · kernel_rfl
    · kernel_rfl
    · exact fun _ _ _ h => h
    · kernel_rfl
    · intro wS hSw
      try dsimp only at hSw
      go_simp
      try with_reducible rfl
    try simp only [Act.put, List.setIfInBounds_toArray, List.set_cons_zero, List.set_cons_succ]
    refine wpAnyH_ready (rs := [0]) (by kernel_rfl) (by simp) ?_
    refine AllReadyH.cons rfl (fun K hK => ?_) AllReadyH.nil
    go_simp
    refine (HN.out _).mono ?_
    rintro e6 w6 ⟨rfl, n6, b6, l6⟩
    try go_wp2_with fail
    have hA := Lib.hid (held_ln (held_ln HS.out (Below.refl _ _).drew) b6)
    refine hK.out _ _ ?_ (fun hH1 => ?_)
    · exact hA.out
    clear hK K hH b6
    try simp only [Act.put, List.setIfInBounds_toArray, List.set_cons_zero, List.set_cons_succ]
    have n7 : w6.cell? ⟨W.heap.size, n, none⟩ = some (.string nb) := n6
    have l7 : W.heap.size < w6.heap.size := l6
    clear n6 l6
    generalize W.heap.size = B at n7 l7 ⊢
    have h20 : w6.cell? ⟨w.heap.size, 0, none⟩ = some (.int .i64 ((n : Int) + 1)) ∧ w6.cell? ⟨w.heap.size, 1, none⟩ = some (.int .i64 f) ∧ w6.cell? ⟨w.heap.size, 2, none⟩ = some (.int .i64 t) ∧ w6.cell? ⟨w.heap.size, 3, none⟩ = some (.int .i64 v) ∧ w6.cell? ⟨w.heap.size, 4, none⟩ = some (.int .i64 a) ∧ w6.cell? ⟨w.heap.size, 5, none⟩ = some (.string s) ∧ w6.cell? ⟨w.heap.size, 6, none⟩ = some (.int .i64 u) ∧ w6.cell? ⟨B, n, none⟩ = some (.string nb) ∧ Below w.heap.size w w6 ∧ w.heap.size < w6.heap.size ∧ B < w6.heap.size := ⟨hH1.1, hH1.2.1, hH1.2.2.1, hH1.2.2.2.1, hH1.2.2.2.2.1, hH1.2.2.2.2.2.1, hH1.2.2.2.2.2.2.1, n7, hH1.2.2.2.2.2.2.2.1, hH1.2.2.2.2.2.2.2.2, l7⟩
    have HC0 := Lib.hid h20
    clear hH1 hA n7 l7
    refine wpAnyH_imp (S' := fun w' => w'.cell? ⟨w.heap.size, 0, none⟩ = some (.int .i64 ((n : Int) + 1)) ∧ w'.cell? ⟨w.heap.size, 1, none⟩ = some (.int .i64 f) ∧ w'.cell? ⟨w.heap.size, 2, none⟩ = some (.int .i64 t) ∧ w'.cell? ⟨w.heap.size, 3, none⟩ = some (.int .i64 v) ∧ w'.cell? ⟨w.heap.size, 4, none⟩ = some (.int .i64 a) ∧ w'.cell? ⟨w.heap.size, 5, none⟩ = some (.string s) ∧ w'.cell? ⟨w.heap.size, 6, none⟩ = some (.int .i64 u) ∧ w'.cell? ⟨B, n, none⟩ = some (.string nb) ∧ Below w.heap.size w w' ∧ w.heap.size < w'.heap.size ∧ B < w'.heap.size) (fun w' h => ⟨h.1, h.2.1, h.2.2.1, h.2.2.2.1, h.2.2.2.2.1, h.2.2.2.2.2.1, h.2.2.2.2.2.2.1, h.2.2.2.2.2.2.2.2.1, h.2.2.2.2.2.2.2.2.2.1⟩) _ _ _ _ ?_
    refine wpAnyH_take (i := 4) (oi := { dst := some 12, op := Go.Op.indexAddr 50 (Go.Operand.tmp 8) (Go.Operand.tmp 11), type := 0, pos := "ref.go:166", after := #[{ on := 0, ground := Go.Ground.data }, { on := 3, ground := Go.Ground.data }], guard := none }) (v := ?_) rfl ?_ ?_ ?_ ?_ (Or.inl ⟨?_, ?_⟩) h20 ?_
    rotate_left
    · kernel_rfl
    · kernel_rfl
    · kernel_rfl
    · exact fun _ _ _ h => h
    · kernel_rfl
    · intro wS hSw
      try dsimp only at hSw
      go_simp
      try with_reducible rfl
    try simp only [Act.put, List.setIfInBounds_toArray, List.set_cons_zero, List.set_cons_succ]
    refine wpAnyH_take (i := 5) (oi := { dst := some 13, op := Go.Op.load 9 (Go.Operand.tmp 12), type := 9, pos := "ref.go:166", after := #[{ on := 4, ground := Go.Ground.data }], guard := none }) (v := ?_) rfl ?_ ?_ ?_ ?_ (Or.inl ⟨?_, ?_⟩) h20 ?_
    rotate_left
    · kernel_rfl
    · kernel_rfl
    · kernel_rfl
    · exact fun _ _ _ h => h
    · kernel_rfl
    · intro wS hSw
      try dsimp only at hSw
      go_simp
      try with_reducible rfl
    try simp only [Act.put, List.setIfInBounds_toArray, List.set_cons_zero, List.set_cons_succ]
    refine wpAnyH_take (i := 6) (oi := { dst := some 14, op := Go.Op.binOp Go.BinOp.add 9 (Go.Operand.tmp 13) (Go.Operand.const (Go.Value.string { data := #[32] })) 9, type := 9, pos := "ref.go:166", after := #[{ on := 5, ground := Go.Ground.data }], guard := none }) (v := ?_) rfl ?_ ?_ ?_ ?_ (Or.inl ⟨?_, ?_⟩) h20 ?_
    rotate_left
    · kernel_rfl
    · kernel_rfl
    · kernel_rfl
    · exact fun _ _ _ h => h
    · kernel_rfl
    · intro wS hSw
      try dsimp only at hSw
      go_simp
      try with_reducible rfl
    try simp only [Act.put, List.setIfInBounds_toArray, List.set_cons_zero, List.set_cons_succ]
    refine wpAnyH_ready (rs := [9]) (by kernel_rfl) (by simp) ?_
    refine AllReadyH.cons rfl (fun K hK => ?_) AllReadyH.nil
    go_simp
    refine (D1.out _).mono ?_
    rintro ec1 wc1 ⟨rfl, bc1⟩
    try go_wp2_with fail
    refine hK.out _ _ ?_ (fun hG1 => ?_)
    · exact held_ln2 HC0.out bc1
    have HC1 := Lib.hid (held_ln2 HC0.out bc1)
    clear hK K h20 bc1
    try simp only [Act.put, List.setIfInBounds_toArray, List.set_cons_zero, List.set_cons_succ]
    refine wpAnyH_take (i := 10) (oi := { dst := some 18, op := Go.Op.binOp Go.BinOp.add 9 (Go.Operand.tmp 14) (Go.Operand.tmp 17) 9, type := 9, pos := "ref.go:166", after := #[{ on := 6, ground := Go.Ground.data }, { on := 9, ground := Go.Ground.data }], guard := none }) (v := ?_) rfl ?_ ?_ ?_ ?_ (Or.inl ⟨?_, ?_⟩) hG1 ?_
    rotate_left
    · kernel_rfl
    · kernel_rfl
    · kernel_rfl
    · exact fun _ _ _ h => h
    · kernel_rfl
    · intro wS hSw
      try dsimp only at hSw
      go_simp
      try with_reducible rfl
    try simp only [Act.put, List.setIfInBounds_toArray, List.set_cons_zero, List.set_cons_succ]
    refine wpAnyH_take (i := 11) (oi := { dst := some 19, op := Go.Op.binOp Go.BinOp.add 9 (Go.Operand.tmp 18) (Go.Operand.const (Go.Value.string { data := #[32] })) 9, type := 9, pos := "ref.go:166", after := #[{ on := 10, ground := Go.Ground.data }], guard := none }) (v := ?_) rfl ?_ ?_ ?_ ?_ (Or.inl ⟨?_, ?_⟩) hG1 ?_
    rotate_left
    · kernel_rfl
    · kernel_rfl
    · kernel_rfl
    · exact fun _ _ _ h => h
    · kernel_rfl
    · intro wS hSw
      try dsimp only at hSw
      go_simp
      try with_reducible rfl
    try simp only [Act.put, List.setIfInBounds_toArray, List.set_cons_zero, List.set_cons_succ]
    refine wpAnyH_ready (rs := [14]) (by kernel_rfl) (by simp) ?_
    refine AllReadyH.cons rfl (fun K hK => ?_) AllReadyH.nil
    go_simp
    refine (D2.out _).mono ?_
    rintro ec2 wc2 ⟨rfl, bc2⟩
    try go_wp2_with fail
    refine hK.out _ _ ?_ (fun hG2 => ?_)
    · exact held_ln2 HC1.out bc2
    have HC2 := Lib.hid (held_ln2 HC1.out bc2)
    clear hK K hG1 bc2
    try simp only [Act.put, List.setIfInBounds_toArray, List.set_cons_zero, List.set_cons_succ]
    refine wpAnyH_take (i := 15) (oi := { dst := some 23, op := Go.Op.binOp Go.BinOp.add 9 (Go.Operand.tmp 19) (Go.Operand.tmp 22) 9, type := 9, pos := "ref.go:166", after := #[{ on := 11, ground := Go.Ground.data }, { on := 14, ground := Go.Ground.data }], guard := none }) (v := ?_) rfl ?_ ?_ ?_ ?_ (Or.inl ⟨?_, ?_⟩) hG2 ?_
    rotate_left
    · kernel_rfl
    · kernel_rfl
    · kernel_rfl
    · exact fun _ _ _ h => h
    · kernel_rfl
    · intro wS hSw
      try dsimp only at hSw
      go_simp
      try with_reducible rfl
    try simp only [Act.put, List.setIfInBounds_toArray, List.set_cons_zero, List.set_cons_succ]
    refine wpAnyH_take (i := 16) (oi := { dst := some 24, op := Go.Op.binOp Go.BinOp.add 9 (Go.Operand.tmp 23) (Go.Operand.const (Go.Value.string { data := #[32] })) 9, type := 9, pos := "ref.go:166", after := #[{ on := 15, ground := Go.Ground.data }], guard := none }) (v := ?_) rfl ?_ ?_ ?_ ?_ (Or.inl ⟨?_, ?_⟩) hG2 ?_
    rotate_left
    · kernel_rfl
    · kernel_rfl
    · kernel_rfl
    · exact fun _ _ _ h => h
    · kernel_rfl
    · intro wS hSw
      try dsimp only at hSw
      go_simp
      try with_reducible rfl
    try simp only [Act.put, List.setIfInBounds_toArray, List.set_cons_zero, List.set_cons_succ]
    refine wpAnyH_ready (rs := [19]) (by kernel_rfl) (by simp) ?_
    refine AllReadyH.cons rfl (fun K hK => ?_) AllReadyH.nil
    go_simp
    refine (D3.out _).mono ?_
    rintro ec3 wc3 ⟨rfl, bc3⟩
    try go_wp2_with fail
    refine hK.out _ _ ?_ (fun hG3 => ?_)
    · exact held_ln2 HC2.out bc3
    have HC3 := Lib.hid (held_ln2 HC2.out bc3)
    clear hK K hG2 bc3
    try simp only [Act.put, List.setIfInBounds_toArray, List.set_cons_zero, List.set_cons_succ]
    refine wpAnyH_take (i := 20) (oi := { dst := some 28, op := Go.Op.binOp Go.BinOp.add 9 (Go.Operand.tmp 24) (Go.Operand.tmp 27) 9, type := 9, pos := "ref.go:166", after := #[{ on := 16, ground := Go.Ground.data }, { on := 19, ground := Go.Ground.data }], guard := none }) (v := ?_) rfl ?_ ?_ ?_ ?_ (Or.inl ⟨?_, ?_⟩) hG3 ?_
    rotate_left
    · kernel_rfl
    · kernel_rfl
    · kernel_rfl
    · exact fun _ _ _ h => h
    · kernel_rfl
    · intro wS hSw
      try dsimp only at hSw
      go_simp
      try with_reducible rfl
    try simp only [Act.put, List.setIfInBounds_toArray, List.set_cons_zero, List.set_cons_succ]
    refine wpAnyH_take (i := 21) (oi := { dst := some 29, op := Go.Op.binOp Go.BinOp.add 9 (Go.Operand.tmp 28) (Go.Operand.const (Go.Value.string { data := #[32] })) 9, type := 9, pos := "ref.go:166", after := #[{ on := 20, ground := Go.Ground.data }], guard := none }) (v := ?_) rfl ?_ ?_ ?_ ?_ (Or.inl ⟨?_, ?_⟩) hG3 ?_
    rotate_left
    · kernel_rfl
    · kernel_rfl
    · kernel_rfl
    · exact fun _ _ _ h => h
    · kernel_rfl
    · intro wS hSw
      try dsimp only at hSw
      go_simp
      try with_reducible rfl
    try simp only [Act.put, List.setIfInBounds_toArray, List.set_cons_zero, List.set_cons_succ]
    refine wpAnyH_ready (rs := [24]) (by kernel_rfl) (by simp) ?_
    refine AllReadyH.cons rfl (fun K hK => ?_) AllReadyH.nil
    go_simp
    refine (D4.out _).mono ?_
    rintro ec4 wc4 ⟨rfl, bc4⟩
    try go_wp2_with fail
    refine hK.out _ _ ?_ (fun hG4 => ?_)
    · exact held_ln2 HC3.out bc4
    have HC4 := Lib.hid (held_ln2 HC3.out bc4)
    clear hK K hG3 bc4
    try simp only [Act.put, List.setIfInBounds_toArray, List.set_cons_zero, List.set_cons_succ]
    refine wpAnyH_take (i := 25) (oi := { dst := some 33, op := Go.Op.binOp Go.BinOp.add 9 (Go.Operand.tmp 29) (Go.Operand.tmp 32) 9, type := 9, pos := "ref.go:166", after := #[{ on := 21, ground := Go.Ground.data }, { on := 24, ground := Go.Ground.data }], guard := none }) (v := ?_) rfl ?_ ?_ ?_ ?_ (Or.inl ⟨?_, ?_⟩) hG4 ?_
    rotate_left
    · kernel_rfl
    · kernel_rfl
    · kernel_rfl
    · exact fun _ _ _ h => h
    · kernel_rfl
    · intro wS hSw
      try dsimp only at hSw
      go_simp
      try with_reducible rfl
    try simp only [Act.put, List.setIfInBounds_toArray, List.set_cons_zero, List.set_cons_succ]
    refine wpAnyH_take (i := 26) (oi := { dst := some 34, op := Go.Op.binOp Go.BinOp.add 9 (Go.Operand.tmp 33) (Go.Operand.const (Go.Value.string { data := #[32] })) 9, type := 9, pos := "ref.go:166", after := #[{ on := 25, ground := Go.Ground.data }], guard := none }) (v := ?_) rfl ?_ ?_ ?_ ?_ (Or.inl ⟨?_, ?_⟩) hG4 ?_
    rotate_left
    · kernel_rfl
    · kernel_rfl
    · kernel_rfl
    · exact fun _ _ _ h => h
    · kernel_rfl
    · intro wS hSw
      try dsimp only at hSw
      go_simp
      try with_reducible rfl
    try simp only [Act.put, List.setIfInBounds_toArray, List.set_cons_zero, List.set_cons_succ]
    refine wpAnyH_ready (rs := [29]) (by kernel_rfl) (by simp) ?_
    refine AllReadyH.cons rfl (fun K hK => ?_) AllReadyH.nil
    go_simp
    refine (D5.out _).mono ?_
    rintro ec5 wc5 ⟨rfl, bc5⟩
    try go_wp2_with fail
    refine hK.out _ _ ?_ (fun hG5 => ?_)
    · exact held_ln2 HC4.out bc5
    have HC5 := Lib.hid (held_ln2 HC4.out bc5)
    clear hK K hG4 bc5
    try simp only [Act.put, List.setIfInBounds_toArray, List.set_cons_zero, List.set_cons_succ]
    refine wpAnyH_take (i := 30) (oi := { dst := some 38, op := Go.Op.binOp Go.BinOp.add 9 (Go.Operand.tmp 34) (Go.Operand.tmp 37) 9, type := 9, pos := "ref.go:166", after := #[{ on := 26, ground := Go.Ground.data }, { on := 29, ground := Go.Ground.data }], guard := none }) (v := ?_) rfl ?_ ?_ ?_ ?_ (Or.inl ⟨?_, ?_⟩) hG5 ?_
    rotate_left
    · kernel_rfl
    · kernel_rfl
    · kernel_rfl
    · exact fun _ _ _ h => h
    · kernel_rfl
    · intro wS hSw
      try dsimp only at hSw
      go_simp
      try with_reducible rfl
    try simp only [Act.put, List.setIfInBounds_toArray, List.set_cons_zero, List.set_cons_succ]
    refine wpAnyH_take (i := 31) (oi := { dst := some 4, op := Go.Op.assign (Go.Operand.tmp 38), type := 9, pos := "ref.go:166", after := #[{ on := 30, ground := Go.Ground.data }, { on := 29, ground := Go.Ground.chain }, { on := 0, ground := Go.Ground.phase }, { on := 1, ground := Go.Ground.phase }, { on := 2, ground := Go.Ground.phase }, { on := 3, ground := Go.Ground.phase }, { on := 4, ground := Go.Ground.phase }, { on := 5, ground := Go.Ground.phase }, { on := 6, ground := Go.Ground.phase }, { on := 7, ground := Go.Ground.phase }, { on := 8, ground := Go.Ground.phase }, { on := 9, ground := Go.Ground.phase }, { on := 10, ground := Go.Ground.phase }, { on := 11, ground := Go.Ground.phase }, { on := 12, ground := Go.Ground.phase }, { on := 13, ground := Go.Ground.phase }, { on := 14, ground := Go.Ground.phase }, { on := 15, ground := Go.Ground.phase }, { on := 16, ground := Go.Ground.phase }, { on := 17, ground := Go.Ground.phase }, { on := 18, ground := Go.Ground.phase }, { on := 19, ground := Go.Ground.phase }, { on := 20, ground := Go.Ground.phase }, { on := 21, ground := Go.Ground.phase }, { on := 22, ground := Go.Ground.phase }, { on := 23, ground := Go.Ground.phase }, { on := 24, ground := Go.Ground.phase }, { on := 25, ground := Go.Ground.phase }, { on := 26, ground := Go.Ground.phase }, { on := 27, ground := Go.Ground.phase }, { on := 28, ground := Go.Ground.phase }, { on := 29, ground := Go.Ground.phase }, { on := 30, ground := Go.Ground.phase }], guard := none }) (v := ?_) rfl ?_ ?_ ?_ ?_ (Or.inl ⟨?_, ?_⟩) hG5 ?_
    rotate_left
    · kernel_rfl
    · kernel_rfl
    · kernel_rfl
    · exact fun _ _ _ h => h
    · kernel_rfl
    · intro wS hSw
      try dsimp only at hSw
      go_simp
      try with_reducible rfl
    try simp only [Act.put, List.setIfInBounds_toArray, List.set_cons_zero, List.set_cons_succ]
    refine wpAnyH_done (by kernel_rfl) ?_ _
    have hB9 := Lib.hid HC5.out.2.2.2.2.2.2.2.2.1
    have c5 := HC5.out.2.2.2.2.2.1
    clear HC0 HC1 HC2 HC3 HC4 HC5 hG5
    go_wp2_with (go_at_call 37; go_must (refine (HQ.out _).mono ?_; rintro e9 w9 ⟨rfl, b9⟩))
    go_returns
    exact ⟨by rw [HV.out, HLB.out]; rfl, hB9.out.trans (b9.mono hB9.out.size)⟩

end Go.Proofs.YtddphdohjceonaaDoor
