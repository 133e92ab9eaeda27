/-
  The walk of the specification's Text.
-/
import Derived.Test.YtpeiiomimfiebaaDoorW23
import Derived.Test.YtpeiiomimfiebaaDoorW25
namespace Go.Proofs.YtpeiiomimfiebaaDoor
open Go Go.RowKit Go.Joins Go.Sort
set_option linter.unusedVariables false
set_option linter.unusedSimpArgs false

set_option maxRecDepth 20000 in
set_option maxHeartbeats 4000000 in
theorem rtext_bad (ts : List Tok) (V : Value) (w : World) (hT : TArg w V ts) (hs : ∀ t ∈ ts, t.t.length ≤ 140737488351232) (hn : ts.length ≤ 140737488351232) (hb : ts.all vd = false) :
    Calls Tryd.prog 8 #[V] w fun e w' => e = .returned (.tuple #[.string ⟨#[]⟩, .int .i64 1]) ∧ Below w.heap.size w w' := by
  obtain ⟨A, c, rfl, hA⟩ := hT
  have HB := Lib.hid (show ¬ ∀ k (hk : k < ts.length), vd ts[k] = true from fun h => by
    rw [List.all_eq_true.2 (fun t ht => by obtain ⟨k, hk, rfl⟩ := List.mem_iff_getElem.1 ht; exact h k hk)] at hb
    exact absurd hb (by decide))
  have HA := Lib.hid hA
  have HS := Lib.hid hs
  clear hA hs hb
  go_enter Tryd.func8, Tryd.ntmps8
  go_wp2
  go_loopw [4] (fun x wr => ∃ j : Nat, j ≤ ts.length ∧ x = .int .i64 j ∧ Below w.heap.size w wr ∧ Hid (∀ k (hk : k < ts.length), k < j → vd ts[k] = true)) (fun x _ => ts.length - (intOf x).toNat)
  case atStart => exact ⟨0, Nat.zero_le _, rfl, Below.refl _ _, Lib.hid (fun k hk h => absurd h (by omega))⟩
  case round =>
    obtain ⟨j, hj, rfl, hw, HR⟩ := hrel
    by_cases hjn : j = ts.length
    · exfalso
      exact HB.out (fun k hk => HR.out k hk (by omega))
    have hj2 : j < ts.length := by omega
    have hj3 : (j : Int) < ts.length := by omega
    obtain ⟨g, o, rfl, hg, hc⟩ := HA.out (by omega)
    have f := fun i hi => (hc j hj2 i hi)
    have f0 := (hw.cell (p := ⟨g, o + j * 4 + 0, none⟩) hg).trans (f 0 (by omega))
    have f1 := (hw.cell (p := ⟨g, o + j * 4 + 1, none⟩) hg).trans (f 1 (by omega))
    have f2 := (hw.cell (p := ⟨g, o + j * 4 + 2, none⟩) hg).trans (f 2 (by omega))
    have f3 := (hw.cell (p := ⟨g, o + j * 4 + 3, none⟩) hg).trans (f 3 (by omega))
    have hl := HS.out _ (List.getElem_mem hj2)
    have C1 := fun w => rright_any ts[j] w hl
    have HV := Lib.hid (show vd ts[j] = true → ∀ k (hk : k < ts.length), k < j + 1 → vd ts[k] = true from fun h k hk hkj => by
      by_cases e : k = j
      · subst e; exact h
      · exact HR.out k hk (by omega))
    generalize vd ts[j] = b at *
    clear hc f hl
    generalize ts[j] = t at *
    obtain ⟨tk, tt, tv, tn⟩ := t
    unfold tkV at C1
    simp only [tkC, List.getElem?_toArray, List.getElem?_cons_zero, List.getElem?_cons_succ, Nat.add_zero] at f0 f1 f2 f3 C1
    have H1 := Lib.hid C1
    clear C1
    cases b with
    | false =>
      go_wp2_with (first
        | (go_at_call 23; go_must (refine (H1.out _).mono ?_; rintro e w5 ⟨rfl, b5⟩; have hw5 := hw.trans (b5.mono hw.size))))
      go_returns
      exact ⟨rfl, hw5⟩
    | true =>
      have HV' := Lib.hid (HV.out rfl)
      go_wp2_with (first
        | (go_at_call 23; go_must (refine (H1.out _).mono ?_; rintro e w5 ⟨rfl, b5⟩; have hw5 := hw.trans (b5.mono hw.size))))
      go_roundw
      case rel => exact ⟨j + 1, by omega, val_int (by omega), hw5, HV'⟩
      case measure => simp only [intOf]; omega

set_option maxRecDepth 20000 in
set_option maxHeartbeats 8000000 in
theorem rtext_good (ts : List Tok) (V : Value) (w : World) (hT : TArg w V ts) (hs : ∀ t ∈ ts, t.t.length ≤ 1048576 ∧ -9223372036854775808 ≤ t.v ∧ t.v ≤ 9223372036854775807) (hn : ts.length ≤ 140737488351232) (hb : ts.all vd = true) :
    Calls Tryd.prog 8 #[V] w fun e w' => e = .returned (.tuple #[.string ⟨(if 1048576 < (jn ts).length then [] else jn ts).toArray⟩, .int .i64 ((if 1048576 < (jn ts).length then 6 else 0 : Nat) : Int)]) ∧ Below w.heap.size w w' := by
  obtain ⟨A, c, rfl, hA⟩ := hT
  have HB := Lib.hid (show ∀ k (hk : k < ts.length), vd ts[k] = true from fun k hk => List.all_eq_true.1 hb _ (List.getElem_mem hk))
  have HA := Lib.hid hA
  have HS := Lib.hid hs
  have HO := Lib.hid (show (jn ts).length ≤ 1048576 → (if 1048576 < (jn ts).length then [] else jn ts) = jn ts ∧ (if 1048576 < (jn ts).length then 6 else 0 : Nat) = 0 from fun h => by rw [if_neg (by omega), if_neg (by omega)]; exact ⟨rfl, rfl⟩)
  have HF := Lib.hid (show 1048576 < (jn ts).length → (if 1048576 < (jn ts).length then [] else jn ts) = [] ∧ (if 1048576 < (jn ts).length then 6 else 0 : Nat) = 6 from fun h => by rw [if_pos h, if_pos h]; exact ⟨rfl, rfl⟩)
  generalize (if 1048576 < (jn ts).length then [] else jn ts) = X at *
  generalize (if 1048576 < (jn ts).length then 6 else 0 : Nat) = Y at *
  clear hA hs hb
  go_enter Tryd.func8, Tryd.ntmps8
  go_wp2
  go_loopw [4] (fun x wr => ∃ j : Nat, j ≤ ts.length ∧ x = .int .i64 j ∧ Below w.heap.size w wr) (fun x _ => ts.length - (intOf x).toNat)
  case atStart => exact ⟨0, Nat.zero_le _, rfl, Below.refl _ _⟩
  case round =>
    obtain ⟨j, hj, rfl, hw⟩ := hrel
    by_cases hjn : j = ts.length
    · subst hjn
      have hw1 := Lib.hid (hw.trans ((ba wr (.cells #[] 5)).mono hw.size))
      have R0 := Lib.hid (Row.empty wr w.heap.size hw.size)
      go_wp2
      go_loopw [6, 5] (fun x v wr2 => ∃ i : Nat, i ≤ ts.length ∧ x = .int .i64 i ∧ Hid (Row wr2 w.heap.size v (jn (ts.take i))) ∧ Hid (Below w.heap.size w wr2) ∧ Hid ((jn (ts.take i)).length ≤ 1048576)) (fun x _ _ => ts.length - (intOf x).toNat)
      case atStart => exact ⟨0, Nat.zero_le _, rfl, Lib.hid R0.out, hw1, Lib.hid (by simp [jn, jb])⟩
      case round =>
        rename World => wr2
        obtain ⟨i, hi, rfl, HR, HW2, HLn⟩ := hrel
        obtain ⟨A', N', c', rfl, -⟩ := HR.out.form
        have hsz := HW2.out.size
        by_cases hin : i = ts.length
        · subst hin
          have kc := HR.out.conv
          rw [List.take_length] at kc HLn
          have he := Lib.hid (HO.out HLn.out)
          clear HO HF
          go_wp2
          go_returns
          exact ⟨by rw [he.out.1, he.out.2]; rfl, HW2.out⟩
        have hi2 : i < ts.length := by omega
        have hi3 : (i : Int) < ts.length := by omega
        obtain ⟨g, o, rfl, hg, hc⟩ := HA.out (by omega)
        have f := fun k hk => (hc i hi2 k hk)
        have f0 := (HW2.out.cell (p := ⟨g, o + i * 4 + 0, none⟩) hg).trans (f 0 (by omega))
        have f1 := (HW2.out.cell (p := ⟨g, o + i * 4 + 1, none⟩) hg).trans (f 1 (by omega))
        have f2 := (HW2.out.cell (p := ⟨g, o + i * 4 + 2, none⟩) hg).trans (f 2 (by omega))
        have f3 := (HW2.out.cell (p := ⟨g, o + i * 4 + 3, none⟩) hg).trans (f 3 (by omega))
        have hlen := HS.out _ (List.getElem_mem hi2)
        have hv := HB.out i hi2
        have C1 := fun w => rwritten_any ts[i] w hlen.1 hlen.2.1 hlen.2.2
        have HJ := Lib.hid (jn_take ts i hi2)
        have HL := Lib.hid (jn_le ts (i + 1))
        have HWL := Lib.hid ((wr_both ts[i] hv).2 hlen.1)
        clear hc f hlen hv
        generalize ts[i] = t at *
        obtain ⟨tk, tt, tv, tn⟩ := t
        unfold tkV at C1
        simp only [tkC, List.getElem?_toArray, List.getElem?_cons_zero, List.getElem?_cons_succ, Nat.add_zero] at f0 f1 f2 f3 C1
        generalize Go.Proofs.YtpeiiomimfiebaaDoor.wr ⟨tk, tt, tv, tn⟩ = W at *
        have H1 := Lib.hid C1
        clear C1
        have HWs := Lib.hid (size_mk W)
        by_cases hi0 : i = 0
        · subst hi0
          simp only [Nat.zero_mul, Nat.add_zero] at f0 f1 f2 f3
          rw [show ((0 : Nat) : Int) = 0 from rfl] at *
          have HJ1 := Lib.hid (show jn (ts.take (0 + 1)) = jn (ts.take 0) ++ W by rw [HJ.out]; simp)
          clear HJ
          by_cases hlim : 1048576 < (jn (ts.take (0 + 1))).length
          · have HJL := Lib.hid hlim
            have he := Lib.hid (HF.out (Nat.lt_of_lt_of_le hlim HL.out))
            clear HO HF hlim
            go_wp2_with (first
              | (go_at_call 24; go_must (refine (H1.out _).mono ?_; rintro e w6 ⟨rfl, b6⟩))
              | (at_builtin; go_must (refine wpList_append_text rfl (.tmp 31) (.tmp 36) rfl rfl ⟨W.toArray⟩ rfl (HR.out.keep b6) (Nat.le_trans hsz b6.size) (by have := HLn.out; have := HWL.out; have := HWs.out; omega) ?_; intro v2 w2 ho2 hb2; have ho3 : Row w2 w.heap.size v2 (jn (ts.take (0 + 1))) := (by rw [HJ1.out]; exact ho2); obtain ⟨A2, N2, c2, rfl, hN2⟩ := ho3.form; have hN3 : (1048576 : Int) < (N2 : Int) := (by have := HJL.out; omega); clear hN2; have HW6 := Lib.hid (((HW2.out.trans (b6.mono hsz))).trans hb2))))
            go_returns
            exact ⟨by rw [he.out.1, he.out.2]; rfl, HW6.out⟩
          · have HJL := Lib.hid (show (jn (ts.take (0 + 1))).length ≤ 1048576 by omega)
            clear HO HF hlim
            go_wp2_with (first
              | (go_at_call 24; go_must (refine (H1.out _).mono ?_; rintro e w6 ⟨rfl, b6⟩))
              | (at_builtin; go_must (refine wpList_append_text rfl (.tmp 31) (.tmp 36) rfl rfl ⟨W.toArray⟩ rfl (HR.out.keep b6) (Nat.le_trans hsz b6.size) (by have := HLn.out; have := HWL.out; have := HWs.out; omega) ?_; intro v2 w2 ho2 hb2; have ho3 : Row w2 w.heap.size v2 (jn (ts.take (0 + 1))) := (by rw [HJ1.out]; exact ho2); obtain ⟨A2, N2, c2, rfl, hN2⟩ := ho3.form; have hN3 : (N2 : Int) ≤ 1048576 := (by have := HJL.out; omega); clear hN2; have HW6 := Lib.hid (((HW2.out.trans (b6.mono hsz))).trans hb2))))
            go_roundw
            case rel => exact ⟨0 + 1, by omega, val_int (by omega), Lib.hid ho3, HW6, HJL⟩
            case measure => simp only [intOf]; omega
        have hi0' : 0 < i := by omega
        have hi1 : (0 : Int) < i := by omega
        have HJ1 := Lib.hid (show jn (ts.take (i + 1)) = jn (ts.take i) ++ [32] ++ W by rw [HJ.out, if_pos hi0', List.append_assoc])
        clear HJ
        by_cases hlim : 1048576 < (jn (ts.take (i + 1))).length
        · have HJL := Lib.hid hlim
          have he := Lib.hid (HF.out (Nat.lt_of_lt_of_le hlim HL.out))
          clear HO HF hlim
          go_wp2_with (first
            | (go_at_call 24; go_must (refine (H1.out _).mono ?_; rintro e w6 ⟨rfl, b6⟩))
            | (at_builtin; go_must (first | (refine wpList_append_text rfl (.tmp 31) (.tmp 36) rfl rfl ⟨W.toArray⟩ rfl (HO1.out.keep b6) (Nat.le_trans s1 b6.size) (by have := HLn.out; have := HWL.out; have := HWs.out; simp only [List.length_append, List.length_cons, List.length_nil]; omega) ?_; intro v2 w2 ho2 hb2; have ho3 : Row w2 w.heap.size v2 (jn (ts.take (i + 1))) := (by rw [HJ1.out]; exact ho2); obtain ⟨A2, N2, c2, rfl, hN2⟩ := ho3.form; have hN3 : (1048576 : Int) < (N2 : Int) := (by have := HJL.out; omega); clear hN2; have HW6 := Lib.hid (((HW1.out.trans (b6.mono s1))).trans hb2)) | (refine wpList_append_new rfl (.tmp 28) (.tmp 29) rfl rfl rfl HR.out hsz 32 rfl (by have := HLn.out; omega) ?_; intro v1 w1 ho1 hb1; obtain ⟨A1, N1, c1, rfl, -⟩ := ho1.form; have HO1 := Lib.hid ho1; have HW1 := Lib.hid (HW2.out.trans hb1); have s1 := HW1.out.size; have e0 := (hb1.cell (p := ⟨g, o + i * 4, none⟩) hg).trans f0; have e1 := (hb1.cell (p := ⟨g, o + i * 4 + 1, none⟩) hg).trans f1; have e2 := (hb1.cell (p := ⟨g, o + i * 4 + 2, none⟩) hg).trans f2; have e3 := (hb1.cell (p := ⟨g, o + i * 4 + 3, none⟩) hg).trans f3; clear ho1))))
          go_returns
          exact ⟨by rw [he.out.1, he.out.2]; rfl, HW6.out⟩
        · have HJL := Lib.hid (show (jn (ts.take (i + 1))).length ≤ 1048576 by omega)
          clear HO HF hlim
          go_wp2_with (first
            | (go_at_call 24; go_must (refine (H1.out _).mono ?_; rintro e w6 ⟨rfl, b6⟩))
            | (at_builtin; go_must (first | (refine wpList_append_text rfl (.tmp 31) (.tmp 36) rfl rfl ⟨W.toArray⟩ rfl (HO1.out.keep b6) (Nat.le_trans s1 b6.size) (by have := HLn.out; have := HWL.out; have := HWs.out; simp only [List.length_append, List.length_cons, List.length_nil]; omega) ?_; intro v2 w2 ho2 hb2; have ho3 : Row w2 w.heap.size v2 (jn (ts.take (i + 1))) := (by rw [HJ1.out]; exact ho2); obtain ⟨A2, N2, c2, rfl, hN2⟩ := ho3.form; have hN3 : (N2 : Int) ≤ 1048576 := (by have := HJL.out; omega); clear hN2; have HW6 := Lib.hid (((HW1.out.trans (b6.mono s1))).trans hb2)) | (refine wpList_append_new rfl (.tmp 28) (.tmp 29) rfl rfl rfl HR.out hsz 32 rfl (by have := HLn.out; omega) ?_; intro v1 w1 ho1 hb1; obtain ⟨A1, N1, c1, rfl, -⟩ := ho1.form; have HO1 := Lib.hid ho1; have HW1 := Lib.hid (HW2.out.trans hb1); have s1 := HW1.out.size; have e0 := (hb1.cell (p := ⟨g, o + i * 4, none⟩) hg).trans f0; have e1 := (hb1.cell (p := ⟨g, o + i * 4 + 1, none⟩) hg).trans f1; have e2 := (hb1.cell (p := ⟨g, o + i * 4 + 2, none⟩) hg).trans f2; have e3 := (hb1.cell (p := ⟨g, o + i * 4 + 3, none⟩) hg).trans f3; clear ho1))))
          go_roundw
          case rel => exact ⟨i + 1, by omega, val_int (by omega), Lib.hid ho3, HW6, HJL⟩
          case measure => simp only [intOf]; omega
    have hj2 : j < ts.length := by omega
    have hj3 : (j : Int) < ts.length := by omega
    obtain ⟨g, o, rfl, hg, hc⟩ := HA.out (by omega)
    have f := fun i hi => (hc j hj2 i hi)
    have f0 := (hw.cell (p := ⟨g, o + j * 4 + 0, none⟩) hg).trans (f 0 (by omega))
    have f1 := (hw.cell (p := ⟨g, o + j * 4 + 1, none⟩) hg).trans (f 1 (by omega))
    have f2 := (hw.cell (p := ⟨g, o + j * 4 + 2, none⟩) hg).trans (f 2 (by omega))
    have f3 := (hw.cell (p := ⟨g, o + j * 4 + 3, none⟩) hg).trans (f 3 (by omega))
    have hl := (HS.out _ (List.getElem_mem hj2)).1
    have C1 := fun w => rright_any ts[j] w (by omega)
    rw [HB.out j hj2] at C1
    clear hc f hl HO HF
    generalize ts[j] = t at *
    obtain ⟨tk, tt, tv, tn⟩ := t
    unfold tkV at C1
    simp only [tkC, List.getElem?_toArray, List.getElem?_cons_zero, List.getElem?_cons_succ, Nat.add_zero] at f0 f1 f2 f3 C1
    have H1 := Lib.hid C1
    clear C1
    go_wp2_with (first
      | (go_at_call 23; go_must (refine (H1.out _).mono ?_; rintro e w5 ⟨rfl, b5⟩; have hw5 := hw.trans (b5.mono hw.size))))
    go_roundw
    case rel => exact ⟨j + 1, by omega, val_int (by omega), hw5⟩
    case measure => simp only [intOf]; omega

theorem rtext_any (ts : List Tok) (V : Value) (w : World) (hT : TArg w V ts) (hs : ∀ t ∈ ts, t.t.length ≤ 1048576 ∧ -9223372036854775808 ≤ t.v ∧ t.v ≤ 9223372036854775807) (hn : ts.length ≤ 140737488351232) :
    Calls Tryd.prog 8 #[V] w fun e w' => e = .returned (.tuple #[.string ⟨(tx ts).1.toArray⟩, .int .i64 ((tx ts).2 : Int)]) ∧ Below w.heap.size w w' := by
  unfold tx
  cases hb : ts.all vd with
  | true =>
    rw [if_pos rfl]
    refine (rtext_good ts V w hT hs hn hb).mono fun e w' h => ⟨?_, h.2⟩
    rw [h.1]
    by_cases h1 : 1048576 < (jn ts).length
    · simp only [if_pos h1]
    · simp only [if_neg h1]
  | false =>
    rw [if_neg (by decide)]
    exact rtext_bad ts V w hT (fun t ht => Nat.le_trans (hs t ht).1 (by decide)) hn hb

end Go.Proofs.YtpeiiomimfiebaaDoor
