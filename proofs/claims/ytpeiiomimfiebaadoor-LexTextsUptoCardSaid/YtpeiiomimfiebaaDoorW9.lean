/-
  The walks of strings.Clone and of the program's token.
-/
import Derived.Test.YtpeiiomimfiebaaDoorW7
import Derived.Test.YtpeiiomimfiebaaDoorTR
namespace Go.Proofs.YtpeiiomimfiebaaDoor
open Go.RowKit
set_option linter.unusedVariables false
set_option linter.unusedSimpArgs false

theorem clone_any (s : ByteArray) (w : World) (hs : s.size ≤ 140737488351232) :
    Calls Tryd.prog 39 #[.string s] w fun e w' => e = .returned (.string s) ∧ Below w.heap.size w w' := by
  have H1 := Lib.hid (fun w => Tryd.stringslite_Clone s w (by omega))
  go_enter Tryd.func39, Tryd.ntmps39
  go_wp2_with (first
    | (go_at_call 53; go_must (refine (H1.out _).mono ?_; rintro e w1 ⟨rfl, b1⟩)))
  go_returns
  exact ⟨rfl, b1⟩

/-- What token answers. -/
def toV (l : List UInt8) : Value := .tuple #[tkV (tokO l).1, .int .i64 ((tokO l).2 : Nat)]
theorem toV_of {l : List UInt8} {t : Tok} {e : Nat} (h : tokO l = (t, e)) : toV l = .tuple #[tkV t, .int .i64 (e : Nat)] := by unfold toV; rw [h]
theorem tokO_of {s : ByteArray} (h : 0 < s.size) : tokO s.data.toList = if s[0].toNat = 34 then (match unq s.data.toList with | none => (⟨3, [], 0, 0⟩, 4) | some o => (⟨3, o, 0, 0⟩, 0))
    else if isDg s[0].toNat = true ∨ s[0].toNat = 45 then (⟨2, s.data.toList, numV s.data.toList, 0⟩, numE s.data.toList)
    else if nm s.data.toList = true then (⟨1, s.data.toList, 0, 0⟩, 0)
    else if mk s.data.toList = true then (⟨4, s.data.toList, 0, 0⟩, 0)
    else (⟨0, [], 0, 0⟩, 4) := by
  have e := cons_of h
  generalize s[0] = c at *
  generalize s.data.toList.drop 1 = r at *
  rw [e]
  rfl
theorem toV_str {s : ByteArray} (h : 0 < s.size) (h1 : s[0].toNat = 34) {o : List UInt8} (hu : unq s.data.toList = some o) : toV s.data.toList = .tuple #[.agg #[.int .i64 3, .string ⟨o.toArray⟩, .int .i64 0, .int .i64 0], .int .i64 0] :=
  toV_of (t := ⟨3, o, 0, 0⟩) (e := 0) (by rw [tokO_of h, if_pos h1, hu])
theorem toV_bad {s : ByteArray} (h : 0 < s.size) (h1 : s[0].toNat = 34) (hu : unq s.data.toList = none) : toV s.data.toList = .tuple #[.agg #[.int .i64 3, .string ⟨#[]⟩, .int .i64 0, .int .i64 0], .int .i64 4] :=
  toV_of (t := ⟨3, [], 0, 0⟩) (e := 4) (by rw [tokO_of h, if_pos h1, hu])
theorem toV_num {s : ByteArray} (h : 0 < s.size) (h1 : s[0].toNat ≠ 34) (h2 : isDg s[0].toNat = true ∨ s[0].toNat = 45) : toV s.data.toList = .tuple #[.agg #[.int .i64 2, .string s, .int .i64 (numV s.data.toList), .int .i64 0], .int .i64 (numE s.data.toList : Nat)] := by
  rw [toV_of (by rw [tokO_of h, if_neg h1, if_pos h2])]
  unfold tkV tkC; simp only [bytes_of]
theorem toV_name {s : ByteArray} (h : 0 < s.size) (h1 : s[0].toNat ≠ 34) (h2 : ¬ (isDg s[0].toNat = true ∨ s[0].toNat = 45)) (h3 : nm s.data.toList = true) : toV s.data.toList = .tuple #[.agg #[.int .i64 1, .string s, .int .i64 0, .int .i64 0], .int .i64 0] := by
  rw [toV_of (by rw [tokO_of h, if_neg h1, if_neg h2, if_pos h3])]
  unfold tkV tkC; simp only [bytes_of]; rfl
theorem toV_mark {s : ByteArray} (h : 0 < s.size) (h1 : s[0].toNat ≠ 34) (h2 : ¬ (isDg s[0].toNat = true ∨ s[0].toNat = 45)) (h3 : nm s.data.toList = false) (h4 : mk s.data.toList = true) : toV s.data.toList = .tuple #[.agg #[.int .i64 4, .string s, .int .i64 0, .int .i64 0], .int .i64 0] := by
  rw [toV_of (by rw [tokO_of h, if_neg h1, if_neg h2, if_neg (by rw [h3]; decide), if_pos h4])]
  unfold tkV tkC; simp only [bytes_of]; rfl
theorem toV_none {s : ByteArray} (h : 0 < s.size) (h1 : s[0].toNat ≠ 34) (h2 : ¬ (isDg s[0].toNat = true ∨ s[0].toNat = 45)) (h3 : nm s.data.toList = false) (h4 : mk s.data.toList = false) : toV s.data.toList = .tuple #[.agg #[.int .i64 0, .string ⟨#[]⟩, .int .i64 0, .int .i64 0], .int .i64 4] := by
  rw [toV_of (t := ⟨0, [], 0, 0⟩) (e := 4) (by rw [tokO_of h, if_neg h1, if_neg h2, if_neg (by rw [h3]; decide), if_neg (by rw [h4]; decide)])]
  rfl

set_option maxRecDepth 20000 in
set_option maxHeartbeats 2000000 in
theorem token_any (s : ByteArray) (w : World) (hs : s.size ≤ 140737488351232) (h0 : 0 < s.size) :
    Calls Tryd.prog 22 #[.string s] w fun e w' => e = .returned (toV s.data.toList) ∧ Below w.heap.size w w' := by
  have k0 : s[0].toNat < 256 := s[0].toNat_lt
  have l0 : (0 : Int) < s.size := by omega
  have R0 := RowAt.new w 30 #[.int .i64 0, .string ⟨#[]⟩, .int .i64 0, .int .i64 0]
  have B0 := ba w (.cells #[.int .i64 0, .string ⟨#[]⟩, .int .i64 0, .int .i64 0] 30)
  by_cases h1 : s[0].toNat = 34
  · have e1 : ((s[0].toNat : Int) == 34) = true := by rw [h1]; rfl
    have C1 := fun w => unquote_any s w hs
    unfold unV at C1
    cases hu : unq s.data.toList with
    | none =>
      have HV := Lib.hid (toV_bad h0 h1 hu)
      rw [hu] at C1
      have H1 := Lib.hid C1
      clear C1 h1 hu
      go_enter Tryd.func22, Tryd.ntmps22
      go_wp2_with (first
        | (go_at_call 16; go_must (refine (H1.out _).mono ?_; rintro e w1 ⟨rfl, b1⟩; have R1 := R0.keep b1; have B1 := B0.trans (b1.mono B0.size)))
        | (refine wpList_store_at R1 (Nat.le_refl _) #[.int .i64 3, .string ⟨#[]⟩, .int .i64 0, .int .i64 0] (.tmp 2) (.tmp 21) 30 rfl rfl rfl rfl (by kernel_rfl) rfl rfl ?_; intro w9 r9 b9))
      have e0' : w9.cell? ⟨w.heap.size, 0, none⟩ = some (.int .i64 3) := r9.cell 0
      have e1' : w9.cell? ⟨w.heap.size, 1, none⟩ = some (.string ⟨#[]⟩) := r9.cell 1
      have e2' : w9.cell? ⟨w.heap.size, 2, none⟩ = some (.int .i64 0) := r9.cell 2
      have e3' : w9.cell? ⟨w.heap.size, 3, none⟩ = some (.int .i64 0) := r9.cell 3
      refine bodyPost_ret (v := .tuple #[.agg #[.int .i64 3, .string ⟨#[]⟩, .int .i64 0, .int .i64 0], .int .i64 4]) (by simp [results, Tryd.results22, go_sem, e0', e1', e2', e3']) rfl ⟨ret_of HV.out.symm, B1.trans b9⟩
    | some o =>
      have HV := Lib.hid (toV_str h0 h1 hu)
      rw [hu] at C1
      have H1 := Lib.hid C1
      clear C1 h1 hu
      go_enter Tryd.func22, Tryd.ntmps22
      go_wp2_with (first
        | (go_at_call 16; go_must (refine (H1.out _).mono ?_; rintro e w1 ⟨rfl, b1⟩; have R1 := R0.keep b1; have B1 := B0.trans (b1.mono B0.size)))
        | (refine wpList_store_at R1 (Nat.le_refl _) #[.int .i64 3, .string ⟨o.toArray⟩, .int .i64 0, .int .i64 0] (.tmp 2) (.tmp 21) 30 rfl rfl rfl rfl (by kernel_rfl) rfl rfl ?_; intro w9 r9 b9))
      have e0' : w9.cell? ⟨w.heap.size, 0, none⟩ = some (.int .i64 3) := r9.cell 0
      have e1' : w9.cell? ⟨w.heap.size, 1, none⟩ = some (.string ⟨o.toArray⟩) := r9.cell 1
      have e2' : w9.cell? ⟨w.heap.size, 2, none⟩ = some (.int .i64 0) := r9.cell 2
      have e3' : w9.cell? ⟨w.heap.size, 3, none⟩ = some (.int .i64 0) := r9.cell 3
      refine bodyPost_ret (v := .tuple #[.agg #[.int .i64 3, .string ⟨o.toArray⟩, .int .i64 0, .int .i64 0], .int .i64 0]) (by simp [results, Tryd.results22, go_sem, e0', e1', e2', e3']) rfl ⟨ret_of HV.out.symm, B1.trans b9⟩
  have e1 : ((s[0].toNat : Int) == 34) = false := by rw [Bool.eq_false_iff]; simp; omega
  have C1 := fun (w : World) (C : Int) (h : C = (s[0].toNat : Int)) => digit_any s[0].toNat C w h
  have C2 := fun w => number_any s w hs
  unfold nuV at C2
  have C3 := fun w => clone_any s w hs
  have C4 := fun w => name_any s w hs
  have C5 := fun w => mark_any s w hs
  have H3 := Lib.hid C3
  clear C3
  by_cases h2 : isDg s[0].toNat = true ∨ s[0].toNat = 45
  · have HV := Lib.hid (toV_num h0 h1 h2)
    generalize numV s.data.toList = Vn at *
    generalize numE s.data.toList = Ve at *
    have H2 := Lib.hid C2
    rcases hd : isDg s[0].toNat with _ | _
    · have e2 : ((s[0].toNat : Int) == 45) = true := by rw [hd] at h2; simp at h2; simp; omega
      rw [hd] at C1
      have H1 := Lib.hid C1
      clear C1 C2 C4 C5 h1 h2 hd
      go_enter Tryd.func22, Tryd.ntmps22
      go_wp2_with (first
        | (go_at_call 38; go_must (refine (H1.out _ _ rfl).mono ?_; rintro e w1 ⟨rfl, rfl⟩))
        | (go_at_call 15; go_must (refine (H2.out _).mono ?_; rintro e w1 ⟨rfl, b1⟩; have R1 := R0.keep b1; have B1 := B0.trans (b1.mono B0.size)))
        | (go_at_call 39; go_must (refine (H3.out _).mono ?_; rintro e w2 ⟨rfl, b2⟩; have R2 := R1.keep b2; have B2 := B1.trans (b2.mono B1.size)))
        | (refine wpList_store_at R2 (Nat.le_refl _) #[.int .i64 2, .string s, .int .i64 Vn, .int .i64 0] (.tmp 2) (.tmp 38) 30 rfl rfl rfl rfl (by kernel_rfl) rfl rfl ?_; intro w9 r9 b9))
      have e0' : w9.cell? ⟨w.heap.size, 0, none⟩ = some (.int .i64 2) := r9.cell 0
      have e1' : w9.cell? ⟨w.heap.size, 1, none⟩ = some (.string s) := r9.cell 1
      have e2' : w9.cell? ⟨w.heap.size, 2, none⟩ = some (.int .i64 Vn) := r9.cell 2
      have e3' : w9.cell? ⟨w.heap.size, 3, none⟩ = some (.int .i64 0) := r9.cell 3
      refine bodyPost_ret (v := .tuple #[.agg #[.int .i64 2, .string s, .int .i64 Vn, .int .i64 0], .int .i64 (Ve : Nat)]) (by simp [results, Tryd.results22, go_sem, e0', e1', e2', e3']) rfl ⟨ret_of HV.out.symm, B2.trans b9⟩
    · rw [hd] at C1
      have H1 := Lib.hid C1
      clear C1 C2 C4 C5 h1 h2 hd
      go_enter Tryd.func22, Tryd.ntmps22
      go_wp2_with (first
        | (go_at_call 38; go_must (refine (H1.out _ _ rfl).mono ?_; rintro e w1 ⟨rfl, rfl⟩))
        | (go_at_call 15; go_must (refine (H2.out _).mono ?_; rintro e w1 ⟨rfl, b1⟩; have R1 := R0.keep b1; have B1 := B0.trans (b1.mono B0.size)))
        | (go_at_call 39; go_must (refine (H3.out _).mono ?_; rintro e w2 ⟨rfl, b2⟩; have R2 := R1.keep b2; have B2 := B1.trans (b2.mono B1.size)))
        | (refine wpList_store_at R2 (Nat.le_refl _) #[.int .i64 2, .string s, .int .i64 Vn, .int .i64 0] (.tmp 2) (.tmp 38) 30 rfl rfl rfl rfl (by kernel_rfl) rfl rfl ?_; intro w9 r9 b9))
      have e0' : w9.cell? ⟨w.heap.size, 0, none⟩ = some (.int .i64 2) := r9.cell 0
      have e1' : w9.cell? ⟨w.heap.size, 1, none⟩ = some (.string s) := r9.cell 1
      have e2' : w9.cell? ⟨w.heap.size, 2, none⟩ = some (.int .i64 Vn) := r9.cell 2
      have e3' : w9.cell? ⟨w.heap.size, 3, none⟩ = some (.int .i64 0) := r9.cell 3
      refine bodyPost_ret (v := .tuple #[.agg #[.int .i64 2, .string s, .int .i64 Vn, .int .i64 0], .int .i64 (Ve : Nat)]) (by simp [results, Tryd.results22, go_sem, e0', e1', e2', e3']) rfl ⟨ret_of HV.out.symm, B2.trans b9⟩
  have e2 : ((s[0].toNat : Int) == 45) = false := by rw [Bool.eq_false_iff]; simp; omega
  have hd : isDg s[0].toNat = false := by cases hh : isDg s[0].toNat; rfl; exact absurd (Or.inl hh) h2
  rw [hd] at C1
  have H1 := Lib.hid C1
  clear C1 C2 hd
  rcases h3 : nm s.data.toList with _ | _
  · rw [h3] at C4
    have H4 := Lib.hid C4
    rcases h4 : mk s.data.toList with _ | _
    · have HV := Lib.hid (toV_none h0 h1 h2 h3 h4)
      rw [h4] at C5
      have H5 := Lib.hid C5
      clear C4 C5 h1 h2 h3 h4
      go_enter Tryd.func22, Tryd.ntmps22
      go_wp2_with (first
        | (go_at_call 38; go_must (refine (H1.out _ _ rfl).mono ?_; rintro e w1 ⟨rfl, rfl⟩))
        | (go_at_call 18; go_must (refine (H4.out _).mono ?_; rintro e w1 ⟨rfl, b1⟩; have R1 := R0.keep b1; have B1 := B0.trans (b1.mono B0.size)))
        | (go_at_call 25; go_must (refine (H5.out _).mono ?_; rintro e w2 ⟨rfl, rfl⟩))
        | (refine wpList_store_at R1 (Nat.le_refl _) #[.int .i64 0, .string ⟨#[]⟩, .int .i64 0, .int .i64 0] (.tmp 2) (.tmp 52) 30 rfl rfl rfl rfl (by kernel_rfl) rfl rfl ?_; intro w9 r9 b9))
      have e0' : w9.cell? ⟨w.heap.size, 0, none⟩ = some (.int .i64 0) := r9.cell 0
      have e1' : w9.cell? ⟨w.heap.size, 1, none⟩ = some (.string ⟨#[]⟩) := r9.cell 1
      have e2' : w9.cell? ⟨w.heap.size, 2, none⟩ = some (.int .i64 0) := r9.cell 2
      have e3' : w9.cell? ⟨w.heap.size, 3, none⟩ = some (.int .i64 0) := r9.cell 3
      refine bodyPost_ret (v := .tuple #[.agg #[.int .i64 0, .string ⟨#[]⟩, .int .i64 0, .int .i64 0], .int .i64 4]) (by simp [results, Tryd.results22, go_sem, e0', e1', e2', e3']) rfl ⟨ret_of HV.out.symm, B1.trans b9⟩
    · have HV := Lib.hid (toV_mark h0 h1 h2 h3 h4)
      rw [h4] at C5
      have H5 := Lib.hid C5
      clear C4 C5 h1 h2 h3 h4
      go_enter Tryd.func22, Tryd.ntmps22
      go_wp2_with (first
        | (go_at_call 38; go_must (refine (H1.out _ _ rfl).mono ?_; rintro e w1 ⟨rfl, rfl⟩))
        | (go_at_call 18; go_must (refine (H4.out _).mono ?_; rintro e w1 ⟨rfl, b1⟩; have R1 := R0.keep b1; have B1 := B0.trans (b1.mono B0.size)))
        | (go_at_call 25; go_must (refine (H5.out _).mono ?_; rintro e w2 ⟨rfl, rfl⟩))
        | (go_at_call 39; go_must (refine (H3.out _).mono ?_; rintro e w3 ⟨rfl, b3⟩; have R2 := R1.keep b3; have B2 := B1.trans (b3.mono B1.size)))
        | (refine wpList_store_at R2 (Nat.le_refl _) #[.int .i64 4, .string s, .int .i64 0, .int .i64 0] (.tmp 2) (.tmp 51) 30 rfl rfl rfl rfl (by kernel_rfl) rfl rfl ?_; intro w9 r9 b9))
      have e0' : w9.cell? ⟨w.heap.size, 0, none⟩ = some (.int .i64 4) := r9.cell 0
      have e1' : w9.cell? ⟨w.heap.size, 1, none⟩ = some (.string s) := r9.cell 1
      have e2' : w9.cell? ⟨w.heap.size, 2, none⟩ = some (.int .i64 0) := r9.cell 2
      have e3' : w9.cell? ⟨w.heap.size, 3, none⟩ = some (.int .i64 0) := r9.cell 3
      refine bodyPost_ret (v := .tuple #[.agg #[.int .i64 4, .string s, .int .i64 0, .int .i64 0], .int .i64 0]) (by simp [results, Tryd.results22, go_sem, e0', e1', e2', e3']) rfl ⟨ret_of HV.out.symm, B2.trans b9⟩
  · have HV := Lib.hid (toV_name h0 h1 h2 h3)
    rw [h3] at C4
    have H4 := Lib.hid C4
    clear C4 C5 h1 h2 h3
    go_enter Tryd.func22, Tryd.ntmps22
    go_wp2_with (first
      | (go_at_call 38; go_must (refine (H1.out _ _ rfl).mono ?_; rintro e w1 ⟨rfl, rfl⟩))
      | (go_at_call 18; go_must (refine (H4.out _).mono ?_; rintro e w1 ⟨rfl, b1⟩; have R1 := R0.keep b1; have B1 := B0.trans (b1.mono B0.size)))
      | (go_at_call 39; go_must (refine (H3.out _).mono ?_; rintro e w2 ⟨rfl, b2⟩; have R2 := R1.keep b2; have B2 := B1.trans (b2.mono B1.size)))
      | (refine wpList_store_at R2 (Nat.le_refl _) #[.int .i64 1, .string s, .int .i64 0, .int .i64 0] (.tmp 2) (.tmp 45) 30 rfl rfl rfl rfl (by kernel_rfl) rfl rfl ?_; intro w9 r9 b9))
    have e0' : w9.cell? ⟨w.heap.size, 0, none⟩ = some (.int .i64 1) := r9.cell 0
    have e1' : w9.cell? ⟨w.heap.size, 1, none⟩ = some (.string s) := r9.cell 1
    have e2' : w9.cell? ⟨w.heap.size, 2, none⟩ = some (.int .i64 0) := r9.cell 2
    have e3' : w9.cell? ⟨w.heap.size, 3, none⟩ = some (.int .i64 0) := r9.cell 3
    refine bodyPost_ret (v := .tuple #[.agg #[.int .i64 1, .string s, .int .i64 0, .int .i64 0], .int .i64 0]) (by simp [results, Tryd.results22, go_sem, e0', e1', e2', e3']) rfl ⟨ret_of HV.out.symm, B2.trans b9⟩

end Go.Proofs.YtpeiiomimfiebaaDoor
