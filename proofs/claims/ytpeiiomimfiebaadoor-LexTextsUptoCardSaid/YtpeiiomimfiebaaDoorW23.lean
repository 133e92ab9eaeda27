/-
  The walk of the program's Text.
-/
import Derived.Test.YtpeiiomimfiebaaDoorW22
import Derived.Test.YtpeiiomimfiebaaDoorM6
namespace Go.Proofs.YtpeiiomimfiebaaDoor
open Go Go.RowKit Go.Joins Go.Sort
set_option linter.unusedVariables false
set_option linter.unusedSimpArgs false

/-- The value is a slice of these tokens. -/
def TArg (w : World) (V : Value) (ts : List Tok) : Prop := ∃ A c, V = .slice A ts.length c ∧
  (0 < ts.length → ∃ g o, A = some ⟨g, o, none⟩ ∧ g < w.heap.size ∧ ∀ j (hj : j < ts.length) i, i < 4 → w.cell? ⟨g, o + j * 4 + i, none⟩ = (tkC ts[j])[i]?)
theorem TRow.arg {w : World} {B : Nat} {V : Value} {ts : List Tok} (h : TRow w B V ts) : TArg w V ts := by
  by_cases h0 : 0 < ts.length
  · obtain ⟨g, c, rfl⟩ := h.full h0
    refine ⟨_, c, rfl, fun _ => ⟨g, 0, rfl, (h.lt g rfl).2, fun j hj i hi => ?_⟩⟩
    rw [show 0 + j * 4 + i = 4 * j + i by omega]
    exact h.cell j hj i hi
  · obtain ⟨A, N, c, rfl, rfl⟩ := h.form
    exact ⟨A, c, rfl, fun h => absurd h h0⟩
/-- What Text answers. -/
def tx (l : List Tok) : List UInt8 × Nat := if l.all vd then (if 1048576 < (jn l).length then ([], 6) else (jn l, 0)) else ([], 1)

set_option maxRecDepth 20000 in
set_option maxHeartbeats 4000000 in
theorem text_bad (ts : List Tok) (V : Value) (w : World) (hT : TArg w V ts) (hs : ∀ t ∈ ts, t.t.length ≤ 140737488351232) (hn : ts.length ≤ 140737488351232) (hb : ts.all vd = false) :
    Calls Tryd.prog 5 #[V] w fun e w' => e = .returned (.tuple #[.string ⟨#[]⟩, .int .i64 1]) ∧ Below w.heap.size w w' := by
  obtain ⟨A, c, rfl, hA⟩ := hT
  have HB := Lib.hid (show ¬ ∀ k (hk : k < ts.length), vd ts[k] = true from fun h => by
    rw [List.all_eq_true.2 (fun t ht => by obtain ⟨k, hk, rfl⟩ := List.mem_iff_getElem.1 ht; exact h k hk)] at hb
    exact absurd hb (by decide))
  have HA := Lib.hid hA
  have HS := Lib.hid hs
  clear hA hs hb
  go_enter Tryd.func5, Tryd.ntmps5
  go_wp2
  go_loopw [11] (fun x wr => ∃ j : Nat, j ≤ ts.length ∧ x = .int .i64 j ∧ Below w.heap.size w wr ∧ Hid (∀ k (hk : k < ts.length), k < j → vd ts[k] = true)) (fun x _ => ts.length - (intOf x).toNat)
  case atStart => exact ⟨0, Nat.zero_le _, rfl, Below.refl _ _, Lib.hid (fun k hk h => absurd h (by omega))⟩
  case round =>
    obtain ⟨j, hj, rfl, hw, HR⟩ := hrel
    by_cases hjn : j = ts.length
    · exfalso
      exact HB.out (fun k hk => HR.out k hk (by omega))
    have hj2 : j < ts.length := by omega
    have hj3 : (j : Int) < ts.length := by omega
    obtain ⟨g, o, rfl, hg, hc⟩ := HA.out (by omega)
    have f := fun i hi => (hc j hj2 i hi)
    have f0 := (hw.cell (p := ⟨g, o + j * 4 + 0, none⟩) hg).trans (f 0 (by omega))
    have f1 := (hw.cell (p := ⟨g, o + j * 4 + 1, none⟩) hg).trans (f 1 (by omega))
    have f2 := (hw.cell (p := ⟨g, o + j * 4 + 2, none⟩) hg).trans (f 2 (by omega))
    have f3 := (hw.cell (p := ⟨g, o + j * 4 + 3, none⟩) hg).trans (f 3 (by omega))
    have hl := HS.out _ (List.getElem_mem hj2)
    have C1 := fun w => valid_any ts[j] w hl
    have HV := Lib.hid (show vd ts[j] = true → ∀ k (hk : k < ts.length), k < j + 1 → vd ts[k] = true from fun h k hk hkj => by
      by_cases e : k = j
      · subst e; exact h
      · exact HR.out k hk (by omega))
    generalize vd ts[j] = b at *
    clear hc f hl
    generalize ts[j] = t at *
    obtain ⟨tk, tt, tv, tn⟩ := t
    unfold tkV at C1
    simp only [tkC, List.getElem?_toArray, List.getElem?_cons_zero, List.getElem?_cons_succ, Nat.add_zero] at f0 f1 f2 f3 C1
    have H1 := Lib.hid C1
    clear C1
    cases b with
    | false =>
      go_wp2_with (first
        | (refine wpList_store_at (RowAt.new wr 30 #[.int .i64 0, .string ⟨#[]⟩, .int .i64 0, .int .i64 0]) (Nat.le_refl _) #[.int .i64 tk, .string ⟨tt.toArray⟩, .int .i64 tv, .int .i64 tn] (.tmp 5) (.tmp 14) 30 rfl rfl rfl rfl (by kernel_rfl) rfl rfl ?_; intro w4 R4 b4; have hw4 := hw.trans ((((ba wr _).trans b4)).mono hw.size); have g0 := R4.cell 0; have g1 := R4.cell 1; have g2 := R4.cell 2; have g3 := R4.cell 3; simp at g0 g1 g2 g3)
        | (go_at_call 9; go_must (refine (H1.out _).mono ?_; rintro e w5 ⟨rfl, b5⟩; have hw5 := hw4.trans (b5.mono hw4.size))))
      go_returns
      exact ⟨rfl, hw5⟩
    | true =>
      have HV' := Lib.hid (HV.out rfl)
      go_wp2_with (first
        | (refine wpList_store_at (RowAt.new wr 30 #[.int .i64 0, .string ⟨#[]⟩, .int .i64 0, .int .i64 0]) (Nat.le_refl _) #[.int .i64 tk, .string ⟨tt.toArray⟩, .int .i64 tv, .int .i64 tn] (.tmp 5) (.tmp 14) 30 rfl rfl rfl rfl (by kernel_rfl) rfl rfl ?_; intro w4 R4 b4; have hw4 := hw.trans ((((ba wr _).trans b4)).mono hw.size); have g0 := R4.cell 0; have g1 := R4.cell 1; have g2 := R4.cell 2; have g3 := R4.cell 3; simp at g0 g1 g2 g3)
        | (go_at_call 9; go_must (refine (H1.out _).mono ?_; rintro e w5 ⟨rfl, b5⟩; have hw5 := hw4.trans (b5.mono hw4.size))))
      go_roundw
      case rel => exact ⟨j + 1, by omega, val_int (by omega), hw5, HV'⟩
      case measure => simp only [intOf]; omega

set_option maxRecDepth 20000 in
set_option maxHeartbeats 8000000 in
theorem text_good (ts : List Tok) (V : Value) (w : World) (hT : TArg w V ts) (hs : ∀ t ∈ ts, t.t.length ≤ 140737488351232 ∧ -9223372036854775808 ≤ t.v ∧ t.v ≤ 9223372036854775807) (hn : ts.length ≤ 140737488351232) (hE : Env w) (hb : ts.all vd = true) :
    Calls Tryd.prog 5 #[V] w fun e w' => e = .returned (.tuple #[.string ⟨(if 1048576 < (jn ts).length then [] else jn ts).toArray⟩, .int .i64 ((if 1048576 < (jn ts).length then 6 else 0 : Nat) : Int)]) ∧ Below w.heap.size w w' := by
  obtain ⟨A, c, rfl, hA⟩ := hT
  have HB := Lib.hid (show ∀ k (hk : k < ts.length), vd ts[k] = true from fun k hk => List.all_eq_true.1 hb _ (List.getElem_mem hk))
  have HA := Lib.hid hA
  have HS := Lib.hid hs
  have HE := Lib.hid hE
  have HO := Lib.hid (show (jn ts).length ≤ 1048576 → (if 1048576 < (jn ts).length then [] else jn ts) = jn ts ∧ (if 1048576 < (jn ts).length then 6 else 0 : Nat) = 0 from fun h => by rw [if_neg (by omega), if_neg (by omega)]; exact ⟨rfl, rfl⟩)
  have HF := Lib.hid (show 1048576 < (jn ts).length → (if 1048576 < (jn ts).length then [] else jn ts) = [] ∧ (if 1048576 < (jn ts).length then 6 else 0 : Nat) = 6 from fun h => by rw [if_pos h, if_pos h]; exact ⟨rfl, rfl⟩)
  generalize (if 1048576 < (jn ts).length then [] else jn ts) = X at *
  generalize (if 1048576 < (jn ts).length then 6 else 0 : Nat) = Y at *
  clear hA hs hb hE
  go_enter Tryd.func5, Tryd.ntmps5
  go_wp2
  go_loopw [11] (fun x wr => ∃ j : Nat, j ≤ ts.length ∧ x = .int .i64 j ∧ Below w.heap.size w wr) (fun x _ => ts.length - (intOf x).toNat)
  case atStart => exact ⟨0, Nat.zero_le _, rfl, Below.refl _ _⟩
  case round =>
    obtain ⟨j, hj, rfl, hw⟩ := hrel
    by_cases hjn : j = ts.length
    · subst hjn
      go_wp2
      have hw1 := hw.trans ((ba wr (.cells #[.pointer none, .slice none 0 0] 36)).mono hw.size)
      have hwr := hw.size
      go_loopw [21] (fun x wr2 => ∃ i : Nat, i ≤ ts.length ∧ x = .int .i64 i ∧ Bld wr2 wr.heap.size wr.heap.size (jn (ts.take i)) ∧ Below w.heap.size w wr2 ∧ (jn (ts.take i)).length ≤ 1048576) (fun x _ => ts.length - (intOf x).toNat)
      case atStart => exact ⟨0, Nat.zero_le _, rfl, Bld.new wr, hw1, by simp [jn, jb]⟩
      case round =>
        rename World => wr2
        obtain ⟨i, hi, rfl, hB, hw2, hl⟩ := hrel
        have hb2 := hB.lt
        by_cases hin : i = ts.length
        · subst hin
          rw [List.take_length] at hB hl
          have C1 := fun w (h : Bld w wr.heap.size wr.heap.size (jn ts)) hw => str_any w h hw
          have he := Lib.hid (HO.out hl)
          clear HO HF
          generalize jn ts = J at *
          have H1 := Lib.hid C1
          clear C1
          go_wp2_with (first
            | (go_at_call 14; go_must (refine (H1.out _ hB (by omega)).mono ?_; rintro e w5 ⟨rfl, b5⟩; have hw5 := hw2.trans (b5.mono hwr))))
          go_returns
          exact ⟨by rw [he.out.1, he.out.2]; rfl, hw5⟩
        have hi2 : i < ts.length := by omega
        have hi3 : (i : Int) < ts.length := by omega
        obtain ⟨g, o, rfl, hg, hc⟩ := HA.out (by omega)
        have f := fun k hk => (hc i hi2 k hk)
        have f0 := (hw2.cell (p := ⟨g, o + i * 4 + 0, none⟩) hg).trans (f 0 (by omega))
        have f1 := (hw2.cell (p := ⟨g, o + i * 4 + 1, none⟩) hg).trans (f 1 (by omega))
        have f2 := (hw2.cell (p := ⟨g, o + i * 4 + 2, none⟩) hg).trans (f 2 (by omega))
        have f3 := (hw2.cell (p := ⟨g, o + i * 4 + 3, none⟩) hg).trans (f 3 (by omega))
        have hlen := HS.out _ (List.getElem_mem hi2)
        have hv := HB.out i hi2
        have C1 := fun w (h : (ts[i]'hi2).t.length ≤ 1048576) hE => written_any (ts[i]'hi2) w h hlen.2.1 hlen.2.2 hE
        have HJ := Lib.hid (jn_take ts i hi2)
        have HL := Lib.hid (jn_le ts (i + 1))
        have HW := Lib.hid (wr_both ts[i] hv)
        have hlen1 := hlen.1
        clear hc f hlen hv
        generalize ts[i] = t at *
        obtain ⟨tk, tt, tv, tn⟩ := t
        unfold tkV at C1
        simp only [tkC, List.getElem?_toArray, List.getElem?_cons_zero, List.getElem?_cons_succ, Nat.add_zero] at f0 f1 f2 f3 C1 hlen1 HW
        generalize Go.Proofs.YtpeiiomimfiebaaDoor.wr ⟨tk, tt, tv, tn⟩ = W at *
        have hsz : (⟨tt.toArray⟩ : ByteArray).size = tt.length := size_mk _
        by_cases hbig : 1048576 < tt.length
        · have hwb := HW.out.1 hbig
          have hfail : 1048576 < (jn ts).length := by
            have h1 := HL.out; rw [HJ.out] at h1; simp only [List.length_append] at h1; omega
          have he := Lib.hid (HF.out hfail)
          clear HO HF
          generalize hT : (⟨tt.toArray⟩ : ByteArray) = T at *
          have hbig' : (1048576 : Int) < T.size := by omega
          have hbig2 : (T.size : Int) ≤ 140737488351232 := by omega
          by_cases hi0 : i = 0
          · subst hi0
            simp only [Nat.zero_mul, Nat.add_zero] at f0 f1 f2 f3
            go_wp2_with (first
              | (refine wpList_store_at (RowAt.new wr2 30 #[.int .i64 0, .string ⟨#[]⟩, .int .i64 0, .int .i64 0]) (Nat.le_refl _) #[.int .i64 tk, .string T, .int .i64 tv, .int .i64 tn] (.tmp 8) (.tmp 25) 30 rfl rfl rfl rfl (by kernel_rfl) rfl rfl ?_; intro w4 R4 b4; have b24 := (ba wr2 _).trans b4; have hw4 := hw2.trans (b24.mono hw2.size); have hB4 := hB.keep b24; have l4 : wr.heap.size ≤ w4.heap.size := Nat.le_trans (Nat.le_of_lt hb2) b24.size; have g0 := R4.cell 0; have g1 := R4.cell 1; have g2 := R4.cell 2; have g3 := R4.cell 3; simp at g0 g1 g2 g3))
            go_returns
            exact ⟨by rw [he.out.1, he.out.2]; rfl, hw4⟩
          · have hi0' : 0 < i := by omega
            have hi1 : (0 : Int) < i := by omega
            generalize jn (ts.take i) = J at *
            have HWB := Lib.hid (fun w (h : Bld w wr.heap.size wr.heap.size J) hw => wb_any 32 32 w h (by decide) (by omega) hw)
            go_wp2_with (first
              | (refine wpList_store_at (RowAt.new wr2 30 #[.int .i64 0, .string ⟨#[]⟩, .int .i64 0, .int .i64 0]) (Nat.le_refl _) #[.int .i64 tk, .string T, .int .i64 tv, .int .i64 tn] (.tmp 8) (.tmp 25) 30 rfl rfl rfl rfl (by kernel_rfl) rfl rfl ?_; intro w4 R4 b4; have b24 := (ba wr2 _).trans b4; have hw4 := hw2.trans (b24.mono hw2.size); have hB4 := hB.keep b24; have l4 : wr.heap.size ≤ w4.heap.size := Nat.le_trans (Nat.le_of_lt hb2) b24.size)
              | (go_at_call 10; go_must (refine (HWB.out _ hB4 l4).mono ?_; rintro e w5 ⟨rfl, hB5, b5, o5⟩; have R5 : RowAt w5 wr2.heap.size 30 _ := kept_cell o5 R4 (by omega) (by decide); have hw5 := hw4.trans (b5.mono hwr); have l5 : wr.heap.size ≤ w5.heap.size := Nat.le_trans l4 b5.size; have g0 := R5.cell 0; have g1 := R5.cell 1; have g2 := R5.cell 2; have g3 := R5.cell 3; simp at g0 g1 g2 g3)))
            go_returns
            exact ⟨by rw [he.out.1, he.out.2]; rfl, hw5⟩
        have hsm : tt.length ≤ 1048576 := by omega
        have hW := HW.out.2 hsm
        have HJ' := HJ.out
        have H1 := Lib.hid (fun w => C1 w hsm)
        clear C1 HJ
        generalize hT : (⟨tt.toArray⟩ : ByteArray) = T at *
        have hbig' : (T.size : Int) ≤ 1048576 := by omega
        have hWs : (⟨W.toArray⟩ : ByteArray).size = W.length := size_mk _
        have hWl : (⟨W.toArray⟩ : ByteArray).data.toList = W := rfl
        by_cases hi0 : i = 0
        · subst hi0
          simp only [Nat.zero_mul, Nat.add_zero] at f0 f1 f2 f3
          have hJ1 : jn (ts.take (0 + 1)) = jn (ts.take 0) ++ W := by rw [HJ']; simp
          have HWS := Lib.hid (fun w (h : Bld w wr.heap.size wr.heap.size (jn (ts.take 0))) hw => ws_any ⟨W.toArray⟩ w h (by omega) hw)
          rw [hWl, ← hJ1] at HWS
          have HL' := HL.out
          clear HJ' hJ1
          by_cases hlim : 1048576 < (jn (ts.take (0 + 1))).length
          · have he := Lib.hid (HF.out (by omega))
            have hlim' : (1048576 : Int) < (jn (ts.take (0 + 1))).length := by omega
            clear HO HF
            generalize jn (ts.take (0 + 1)) = J1 at *
            generalize jn (ts.take 0) = J at *
            go_wp2_with (first
              | (refine wpList_store_at (RowAt.new wr2 30 #[.int .i64 0, .string ⟨#[]⟩, .int .i64 0, .int .i64 0]) (Nat.le_refl _) #[.int .i64 tk, .string T, .int .i64 tv, .int .i64 tn] (.tmp 8) (.tmp 25) 30 rfl rfl rfl rfl (by kernel_rfl) rfl rfl ?_; intro w4 R4 b4; have b24 := (ba wr2 _).trans b4; have hw4 := hw2.trans (b24.mono hw2.size); have hB4 := hB.keep b24; have l4 : wr.heap.size ≤ w4.heap.size := Nat.le_trans (Nat.le_of_lt hb2) b24.size; have g0 := R4.cell 0; have g1 := R4.cell 1; have g2 := R4.cell 2; have g3 := R4.cell 3; simp at g0 g1 g2 g3)
              | (go_at_call 12; go_must (refine (H1.out _ (HE.out.below hw4)).mono ?_; rintro e w6 ⟨rfl, b6⟩; have hw6 := hw4.trans (b6.mono hw4.size); have hB6 := hB4.keep b6; have l6 : wr.heap.size ≤ w6.heap.size := Nat.le_trans l4 b6.size))
              | (go_at_call 11; go_must (refine (HWS.out _ hB6 l6).mono ?_; rintro e w7 ⟨rfl, hB7, b7, o7⟩; have hw7 := hw6.trans (b7.mono hwr)))
              | (go_at_call 13; go_must (refine (Tryd.Builder_Len_f _ _ _ _ hB7).mono ?_; rintro e w8 ⟨rfl, rfl⟩; rw [Lib.byteCells_length])))
            go_returns
            exact ⟨by rw [he.out.1, he.out.2]; rfl, hw7⟩
          · have hlim' : ((jn (ts.take (0 + 1))).length : Int) ≤ 1048576 := by omega
            have hlim2 : (jn (ts.take (0 + 1))).length ≤ 1048576 := by omega
            generalize hJ1 : jn (ts.take (0 + 1)) = J1 at *
            generalize jn (ts.take 0) = J at *
            go_wp2_with (first
              | (refine wpList_store_at (RowAt.new wr2 30 #[.int .i64 0, .string ⟨#[]⟩, .int .i64 0, .int .i64 0]) (Nat.le_refl _) #[.int .i64 tk, .string T, .int .i64 tv, .int .i64 tn] (.tmp 8) (.tmp 25) 30 rfl rfl rfl rfl (by kernel_rfl) rfl rfl ?_; intro w4 R4 b4; have b24 := (ba wr2 _).trans b4; have hw4 := hw2.trans (b24.mono hw2.size); have hB4 := hB.keep b24; have l4 : wr.heap.size ≤ w4.heap.size := Nat.le_trans (Nat.le_of_lt hb2) b24.size; have g0 := R4.cell 0; have g1 := R4.cell 1; have g2 := R4.cell 2; have g3 := R4.cell 3; simp at g0 g1 g2 g3)
              | (go_at_call 12; go_must (refine (H1.out _ (HE.out.below hw4)).mono ?_; rintro e w6 ⟨rfl, b6⟩; have hw6 := hw4.trans (b6.mono hw4.size); have hB6 := hB4.keep b6; have l6 : wr.heap.size ≤ w6.heap.size := Nat.le_trans l4 b6.size))
              | (go_at_call 11; go_must (refine (HWS.out _ hB6 l6).mono ?_; rintro e w7 ⟨rfl, hB7, b7, o7⟩; have hw7 := hw6.trans (b7.mono hwr)))
              | (go_at_call 13; go_must (refine (Tryd.Builder_Len_f _ _ _ _ hB7).mono ?_; rintro e w8 ⟨rfl, rfl⟩; rw [Lib.byteCells_length])))
            go_roundw
            case rel => exact ⟨0 + 1, by omega, val_int (by omega), by rw [hJ1]; exact hB7, hw7, by rw [hJ1]; exact hlim2⟩
            case measure => simp only [intOf]; omega
        have hi0' : 0 < i := by omega
        have hi1 : (0 : Int) < i := by omega
        have hJ1 : jn (ts.take (i + 1)) = jn (ts.take i) ++ [32] ++ W := by rw [HJ', if_pos hi0', List.append_assoc]
        have HWB := Lib.hid (fun w (h : Bld w wr.heap.size wr.heap.size (jn (ts.take i))) hw => wb_any 32 32 w h (by decide) (by omega) hw)
        have HWS := Lib.hid (fun w (h : Bld w wr.heap.size wr.heap.size (jn (ts.take i) ++ [32])) hw => ws_any ⟨W.toArray⟩ w h (by simp only [List.length_append, List.length_cons, List.length_nil]; omega) hw)
        rw [hWl, ← hJ1] at HWS
        have HL' := HL.out
        clear HJ' hJ1
        by_cases hlim : 1048576 < (jn (ts.take (i + 1))).length
        · have he := Lib.hid (HF.out (by omega))
          have hlim' : (1048576 : Int) < (jn (ts.take (i + 1))).length := by omega
          clear HO HF
          generalize jn (ts.take (i + 1)) = J1 at *
          generalize jn (ts.take i) = J at *
          go_wp2_with (first
            | (refine wpList_store_at (RowAt.new wr2 30 #[.int .i64 0, .string ⟨#[]⟩, .int .i64 0, .int .i64 0]) (Nat.le_refl _) #[.int .i64 tk, .string T, .int .i64 tv, .int .i64 tn] (.tmp 8) (.tmp 25) 30 rfl rfl rfl rfl (by kernel_rfl) rfl rfl ?_; intro w4 R4 b4; have b24 := (ba wr2 _).trans b4; have hw4 := hw2.trans (b24.mono hw2.size); have hB4 := hB.keep b24; have l4 : wr.heap.size ≤ w4.heap.size := Nat.le_trans (Nat.le_of_lt hb2) b24.size)
            | (go_at_call 10; go_must (refine (HWB.out _ hB4 l4).mono ?_; rintro e w5 ⟨rfl, hB5, b5, o5⟩; have R5 : RowAt w5 wr2.heap.size 30 _ := kept_cell o5 R4 (by omega) (by decide); have hw5 := hw4.trans (b5.mono hwr); have l5 : wr.heap.size ≤ w5.heap.size := Nat.le_trans l4 b5.size; have g0 := R5.cell 0; have g1 := R5.cell 1; have g2 := R5.cell 2; have g3 := R5.cell 3; simp at g0 g1 g2 g3))
            | (go_at_call 12; go_must (refine (H1.out _ (HE.out.below hw5)).mono ?_; rintro e w6 ⟨rfl, b6⟩; have hw6 := hw5.trans (b6.mono hw5.size); have hB6 := hB5.keep b6; have l6 : wr.heap.size ≤ w6.heap.size := Nat.le_trans l5 b6.size))
            | (go_at_call 11; go_must (refine (HWS.out _ hB6 l6).mono ?_; rintro e w7 ⟨rfl, hB7, b7, o7⟩; have hw7 := hw6.trans (b7.mono hwr)))
            | (go_at_call 13; go_must (refine (Tryd.Builder_Len_f _ _ _ _ hB7).mono ?_; rintro e w8 ⟨rfl, rfl⟩; rw [Lib.byteCells_length])))
          go_returns
          exact ⟨by rw [he.out.1, he.out.2]; rfl, hw7⟩
        have hlim' : ((jn (ts.take (i + 1))).length : Int) ≤ 1048576 := by omega
        have hlim2 : (jn (ts.take (i + 1))).length ≤ 1048576 := by omega
        generalize hJ1 : jn (ts.take (i + 1)) = J1 at *
        generalize jn (ts.take i) = J at *
        go_wp2_with (first
          | (refine wpList_store_at (RowAt.new wr2 30 #[.int .i64 0, .string ⟨#[]⟩, .int .i64 0, .int .i64 0]) (Nat.le_refl _) #[.int .i64 tk, .string T, .int .i64 tv, .int .i64 tn] (.tmp 8) (.tmp 25) 30 rfl rfl rfl rfl (by kernel_rfl) rfl rfl ?_; intro w4 R4 b4; have b24 := (ba wr2 _).trans b4; have hw4 := hw2.trans (b24.mono hw2.size); have hB4 := hB.keep b24; have l4 : wr.heap.size ≤ w4.heap.size := Nat.le_trans (Nat.le_of_lt hb2) b24.size)
          | (go_at_call 10; go_must (refine (HWB.out _ hB4 l4).mono ?_; rintro e w5 ⟨rfl, hB5, b5, o5⟩; have R5 : RowAt w5 wr2.heap.size 30 _ := kept_cell o5 R4 (by omega) (by decide); have hw5 := hw4.trans (b5.mono hwr); have l5 : wr.heap.size ≤ w5.heap.size := Nat.le_trans l4 b5.size; have g0 := R5.cell 0; have g1 := R5.cell 1; have g2 := R5.cell 2; have g3 := R5.cell 3; simp at g0 g1 g2 g3))
          | (go_at_call 12; go_must (refine (H1.out _ (HE.out.below hw5)).mono ?_; rintro e w6 ⟨rfl, b6⟩; have hw6 := hw5.trans (b6.mono hw5.size); have hB6 := hB5.keep b6; have l6 : wr.heap.size ≤ w6.heap.size := Nat.le_trans l5 b6.size))
          | (go_at_call 11; go_must (refine (HWS.out _ hB6 l6).mono ?_; rintro e w7 ⟨rfl, hB7, b7, o7⟩; have hw7 := hw6.trans (b7.mono hwr)))
          | (go_at_call 13; go_must (refine (Tryd.Builder_Len_f _ _ _ _ hB7).mono ?_; rintro e w8 ⟨rfl, rfl⟩; rw [Lib.byteCells_length])))
        go_roundw
        case rel => exact ⟨i + 1, by omega, val_int (by omega), by rw [hJ1]; exact hB7, hw7, by rw [hJ1]; exact hlim2⟩
        case measure => simp only [intOf]; omega
    have hj2 : j < ts.length := by omega
    have hj3 : (j : Int) < ts.length := by omega
    obtain ⟨g, o, rfl, hg, hc⟩ := HA.out (by omega)
    have f := fun i hi => (hc j hj2 i hi)
    have f0 := (hw.cell (p := ⟨g, o + j * 4 + 0, none⟩) hg).trans (f 0 (by omega))
    have f1 := (hw.cell (p := ⟨g, o + j * 4 + 1, none⟩) hg).trans (f 1 (by omega))
    have f2 := (hw.cell (p := ⟨g, o + j * 4 + 2, none⟩) hg).trans (f 2 (by omega))
    have f3 := (hw.cell (p := ⟨g, o + j * 4 + 3, none⟩) hg).trans (f 3 (by omega))
    have hl := (HS.out _ (List.getElem_mem hj2)).1
    have C1 := fun w => valid_any ts[j] w hl
    rw [HB.out j hj2] at C1
    clear hc f hl
    generalize ts[j] = t at *
    obtain ⟨tk, tt, tv, tn⟩ := t
    unfold tkV at C1
    simp only [tkC, List.getElem?_toArray, List.getElem?_cons_zero, List.getElem?_cons_succ, Nat.add_zero] at f0 f1 f2 f3 C1
    have H1 := Lib.hid C1
    clear C1
    go_wp2_with (first
      | (refine wpList_store_at (RowAt.new wr 30 #[.int .i64 0, .string ⟨#[]⟩, .int .i64 0, .int .i64 0]) (Nat.le_refl _) #[.int .i64 tk, .string ⟨tt.toArray⟩, .int .i64 tv, .int .i64 tn] (.tmp 5) (.tmp 14) 30 rfl rfl rfl rfl (by kernel_rfl) rfl rfl ?_; intro w4 R4 b4; have hw4 := hw.trans ((((ba wr _).trans b4)).mono hw.size); have g0 := R4.cell 0; have g1 := R4.cell 1; have g2 := R4.cell 2; have g3 := R4.cell 3; simp at g0 g1 g2 g3)
      | (go_at_call 9; go_must (refine (H1.out _).mono ?_; rintro e w5 ⟨rfl, b5⟩; have hw5 := hw4.trans (b5.mono hw4.size))))
    go_roundw
    case rel => exact ⟨j + 1, by omega, val_int (by omega), hw5⟩
    case measure => simp only [intOf]; omega

theorem text_any (ts : List Tok) (V : Value) (w : World) (hT : TArg w V ts) (hs : ∀ t ∈ ts, t.t.length ≤ 140737488351232 ∧ -9223372036854775808 ≤ t.v ∧ t.v ≤ 9223372036854775807) (hn : ts.length ≤ 140737488351232) (hE : Env w) :
    Calls Tryd.prog 5 #[V] w fun e w' => e = .returned (.tuple #[.string ⟨(tx ts).1.toArray⟩, .int .i64 ((tx ts).2 : Nat)]) ∧ Below w.heap.size w w' := by
  unfold tx
  by_cases hb : ts.all vd = true
  · rw [if_pos hb]
    have := text_good ts V w hT hs hn hE hb
    by_cases h : 1048576 < (jn ts).length
    · rw [if_pos h] at this ⊢; rw [if_pos h] at this; exact this
    · rw [if_neg h] at this ⊢; rw [if_neg h] at this; exact this
  · rw [if_neg hb]
    exact text_bad ts V w hT (fun t ht => (hs t ht).1) hn (by simpa using hb)

end Go.Proofs.YtpeiiomimfiebaaDoor
