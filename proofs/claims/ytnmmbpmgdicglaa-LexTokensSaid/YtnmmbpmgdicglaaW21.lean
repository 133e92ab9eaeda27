/-
  The walk of the specification's Tokens.
-/
import Derived.Test.YtnmmbpmgdicglaaW20
import Derived.Test.YtnmmbpmgdicglaaW10
namespace Go.Proofs.Ytnmmbpmgdicglaa
open Go.RowKit
set_option linter.unusedVariables false
set_option linter.unusedSimpArgs false

def restC (A : List Tok × Option (Nat × Nat)) (ts : List Tok) (l : List UInt8) (n : Nat) : Prop := A = (ts ++ (lx true l n).1, (lx true l n).2)
theorem rest_nl {A : List Tok × Option (Nat × Nat)} {ts : List Tok} {s : ByteArray} {k n : Nat} (h : k < s.size) (hc : s[k].toNat = 10) (hr : rest A ts (s.data.toList.drop k) n) : rest A ts (s.data.toList.drop (k + 1)) (n + 1) := by
  unfold rest at *; rw [drop_at s k h, lx_nl false _ _ _ hc] at hr; exact hr
theorem rest_sp {A : List Tok × Option (Nat × Nat)} {ts : List Tok} {s : ByteArray} {k n : Nat} (h : k < s.size) (hc : s[k].toNat = 32 ∨ s[k].toNat = 9) (hr : rest A ts (s.data.toList.drop k) n) : rest A ts (s.data.toList.drop (k + 1)) n := by
  unfold rest at *; rw [drop_at s k h, lx_sp _ _ _ hc] at hr; exact hr
theorem rest_hash {A : List Tok × Option (Nat × Nat)} {ts : List Tok} {s : ByteArray} {k n : Nat} (h : k < s.size) (hc : s[k].toNat = 35) (hr : rest A ts (s.data.toList.drop k) n) : restC A ts (s.data.toList.drop k) n := by
  unfold rest at hr; unfold restC; rw [drop_at s k h, lx_hash false _ _ _ hc] at hr; rw [drop_at s k h, lx_hash true _ _ _ hc]; exact hr
theorem restC_on {A : List Tok × Option (Nat × Nat)} {ts : List Tok} {s : ByteArray} {k n : Nat} (h : k < s.size) (hc : s[k].toNat ≠ 10) (hr : restC A ts (s.data.toList.drop k) n) : restC A ts (s.data.toList.drop (k + 1)) n := by
  unfold restC at *; rw [drop_at s k h, lx_cm _ _ _ hc] at hr; exact hr
theorem restC_nl {A : List Tok × Option (Nat × Nat)} {ts : List Tok} {s : ByteArray} {k n : Nat} (h : k < s.size) (hc : s[k].toNat = 10) (hr : restC A ts (s.data.toList.drop k) n) : rest A ts (s.data.toList.drop k) n := by
  unfold restC at hr; unfold rest; rw [drop_at s k h, lx_nl true _ _ _ hc] at hr; rw [drop_at s k h, lx_nl false _ _ _ hc]; exact hr
theorem restC_end {A : List Tok × Option (Nat × Nat)} {ts : List Tok} {s : ByteArray} {k n : Nat} (h : ¬ k < s.size) (hr : restC A ts (s.data.toList.drop k) n) : rest A ts (s.data.toList.drop k) n := by
  unfold restC at hr; unfold rest; rw [drop_end s k h, lx_nil] at hr ⊢; exact hr
theorem rest_end {A : List Tok × Option (Nat × Nat)} {ts : List Tok} {s : ByteArray} {k n : Nat} (h : ¬ k < s.size) (hr : rest A ts (s.data.toList.drop k) n) : A = (ts, none) := by
  unfold rest at hr; rw [drop_end s k h, lx_nil] at hr; simpa using hr
theorem rest_tok {A : List Tok × Option (Nat × Nat)} {ts : List Tok} {s : ByteArray} {k n : Nat} (h : k < s.size) (hc : noGap s[k].toNat) (hr : rest A ts (s.data.toList.drop k) n) : rest2 A ts (s.data.toList.drop k) n := by
  unfold rest at hr; unfold rest2; rw [drop_at s k h] at hr ⊢; rw [lx_tok _ _ _ hc] at hr; exact hr

set_option maxRecDepth 20000 in
set_option maxHeartbeats 8000000 in
theorem rtokens_any (s : ByteArray) (w : World) (hs : s.size ≤ 140737488351232) :
    Calls Try.prog 9 #[.string s] w fun e w' => ∃ V, e = .returned (anV V (ans s.data.toList)) ∧ TRow w' w.heap.size V (ans s.data.toList).1 ∧ Below w.heap.size w w' := by
  have hs' : (s.size : Int) ≤ 140737488351232 := by omega
  by_cases hbig : 1048576 < s.size
  · rw [ans_limit (by rw [← size_len]; exact hbig)]
    have hbig' : (1048576 : Int) < s.size := by omega
    clear hbig
    go_enter Try.func9, Try.ntmps9
    go_wp2
    go_returns
    exact ⟨_, rfl, TRow.nil _ _, Below.refl _ _⟩
  have hL : s.data.toList.length ≤ 1048576 := by rw [← size_len]; omega
  have hb' : (s.size : Int) ≤ 1048576 := by omega
  have hb2 : s.size ≤ 1048576 := by omega
  have HOK := Lib.hid (fun ts h => @ans_ok s.data.toList ts hL h); have HER := Lib.hid (fun ts m e h => @ans_err s.data.toList ts m e hL h)
  generalize ans s.data.toList = R at *
  generalize hA : lx false s.data.toList 1 = A at *
  have HS := Lib.hid (show rest A [] (s.data.toList.drop 0) 1 from by unfold rest; rw [List.drop_zero, hA]; rfl)
  clear hA hbig hL
  go_enter Try.func9, Try.ntmps9
  go_wp2
  go_loopw [5, 6, 7] (fun v n x wr => ∃ (k : Nat) (ts : List Tok) (V : Value) (m : Nat), k ≤ s.size ∧ v = V ∧ n = .int .i64 m ∧ x = .int .i64 k ∧ TRow wr w.heap.size V ts ∧ Below w.heap.size w wr ∧ m ≤ k + 1 ∧ ts.length ≤ k ∧ Hid (rest A ts (s.data.toList.drop k) m)) (fun _ _ x _ => s.size - (intOf x).toNat)
  case atStart => exact ⟨0, [], _, 1, by omega, rfl, rfl, rfl, TRow.empty w _ (Nat.le_refl _), ba w _, by omega, by simp, HS⟩
  case round =>
    clear HS
    obtain ⟨k, ts, V, m, hk, rfl, rfl, rfl, hr, hw, hm, ht, HR⟩ := hrel
    obtain ⟨VA, VN, VC, rfl, hVN⟩ := hr.form
    subst hVN
    by_cases hlt : k < s.size
    · have k0 : s[k].toNat < 256 := s[k].toNat_lt
      by_cases c10 : s[k].toNat = 10
      · have f1 : ((s[k].toNat : Int) == 10) = true := by rw [c10]; rfl
        have HX := Lib.hid (rest_nl hlt c10 HR.out)
        clear c10
        go_wp2
        go_roundw
        case rel => exact ⟨k + 1, ts, _, m + 1, by omega, rfl, by go_num, by go_num, hr, hw, by omega, by omega, HX⟩
        case measure => simp [intOf]; omega
      have f1 : ((s[k].toNat : Int) == 10) = false := by rw [beq_eq_false_iff_ne]; omega
      by_cases c32 : s[k].toNat = 32
      · have f2 : ((s[k].toNat : Int) == 32) = true := by rw [c32]; rfl
        have HX := Lib.hid (rest_sp hlt (Or.inl c32) HR.out)
        clear c32 c10
        go_wp2
        go_roundw
        case rel => exact ⟨k + 1, ts, _, m, by omega, rfl, rfl, by go_num, hr, hw, by omega, by omega, HX⟩
        case measure => simp [intOf]; omega
      have f2 : ((s[k].toNat : Int) == 32) = false := by rw [beq_eq_false_iff_ne]; omega
      by_cases c9 : s[k].toNat = 9
      · have f3 : ((s[k].toNat : Int) == 9) = true := by rw [c9]; rfl
        have HX := Lib.hid (rest_sp hlt (Or.inr c9) HR.out)
        clear c32 c10 c9
        go_wp2
        go_roundw
        case rel => exact ⟨k + 1, ts, _, m, by omega, rfl, rfl, by go_num, hr, hw, by omega, by omega, HX⟩
        case measure => simp [intOf]; omega
      have f3 : ((s[k].toNat : Int) == 9) = false := by rw [beq_eq_false_iff_ne]; omega
      by_cases c35 : s[k].toNat = 35
      · have f4 : ((s[k].toNat : Int) == 35) = true := by rw [c35]; rfl
        have HX := Lib.hid (rest_hash hlt c35 HR.out)
        have HN1 := Lib.hid (show k < s.size → s[k].toNat ≠ 10 from fun _ => c10)
        clear c32 c10 c9 c35 HR
        go_wp2
        go_loopw [7] (fun x wr2 => ∃ j : Nat, k ≤ j ∧ j ≤ s.size ∧ x = .int .i64 j ∧ wr2 = wr ∧ Hid (restC A ts (s.data.toList.drop j) m) ∧ Hid (j = k → (hj : j < s.size) → s[j].toNat ≠ 10)) (fun x _ => s.size - (intOf x).toNat)
        case atStart => exact ⟨k, by omega, by omega, rfl, (by first | rfl | trivial), HX, Lib.hid (fun _ h => HN1.out h)⟩
        case round =>
          clear HX
          obtain ⟨j, hj1, hj2, rfl, rfl, HC, HJ⟩ := hrel
          by_cases hjl : j < s.size
          · by_cases d10 : s[j].toNat = 10
            · have g1 : ((s[j].toNat : Int) != 10) = false := by rw [d10]; rfl
              have HX := Lib.hid (restC_nl hjl d10 HC.out)
              have hjk : k < j := by
                rcases Nat.lt_or_ge k j with h | h
                · exact h
                · exact absurd d10 (HJ.out (by omega) hjl)
              clear d10
              go_wp2
              go_roundw
              case rel => exact ⟨j, ts, _, m, by omega, rfl, rfl, rfl, hr, hw, by omega, by omega, HX⟩
              case measure => simp [intOf]; omega
            · have g1 : ((s[j].toNat : Int) != 10) = true := by rw [bne_iff_ne]; omega
              have HX := Lib.hid (restC_on hjl d10 HC.out)
              clear d10
              go_wp2
              go_roundw
              case rel => exact ⟨j + 1, by omega, by omega, by go_num, (by first | rfl | trivial), HX, Lib.hid (fun h _ => by omega)⟩
              case measure => simp [intOf]; omega
          · have HX := Lib.hid (restC_end hjl HC.out)
            have hje : j = s.size := by omega
            have hjk : k < j := by omega
            go_wp2
            go_roundw
            case rel => exact ⟨j, ts, _, m, by omega, rfl, rfl, rfl, hr, hw, by omega, by omega, HX⟩
            case measure => simp [intOf]; omega
      have f4 : ((s[k].toNat : Int) == 35) = false := by rw [beq_eq_false_iff_ne]; omega
      have HT := Lib.hid (rest_tok hlt ⟨c10, c35, c32, c9⟩ HR.out)
      have hne : s.data.toList.drop k ≠ [] := by rw [drop_at s k hlt]; simp
      have HGE := Lib.hid (fun h => rest2_err HT.out hne h)
      have HGO := Lib.hid (fun h => rest2_ok HT.out hne h)
      have C1 := fun w => rtoken_any s k m w hs hlt
      have hj1 : 1 ≤ tl (s.data.toList.drop k) := by rw [drop_at s k hlt]; exact tl_pos _ _
      have hj2 := tl_le (s.data.toList.drop k)
      rw [List.length_drop, ← size_len] at hj2
      unfold rtV at C1
      rw [List.drop_drop] at HGO
      rcases hto : tkR (s.data.toList.drop k) with ⟨⟨tk, tt, tv, tn⟩, te⟩
      rw [hto] at C1 HGE HGO
      simp only at C1 HGE HGO
      generalize tl (s.data.toList.drop k) = J at *
      by_cases hte : te = 0
      · have HX := Lib.hid (HGO.out hte)
        rw [if_pos hte] at C1
        have H1 := Lib.hid C1
        have hkJ : ((k + J : Nat) : Int) = (k : Int) + J := by omega
        clear hto hte HGE HGO HT hne C1 HR c10 c32 c9 c35
        go_wp2_with (first
          | (go_at_call 24; go_must (refine (H1.out _).mono ?_; rintro e w1 ⟨rfl, b1⟩; have r1 := hr.keep b1; have hw1 := hw.trans (b1.mono hw.size)))
          | (refine wpList_store_at (RowAt.new w1 35 #[.int .i64 0, .string ⟨#[]⟩, .int .i64 0, .int .i64 0]) (Nat.le_refl _) #[.int .i64 tk, .string ⟨tt.toArray⟩, .int .i64 tv, .int .i64 m] (.tmp 9) (.tmp 56) 35 rfl rfl rfl rfl (by kernel_rfl) rfl rfl ?_; intro w2 R2 b2; have g0 : w2.cell? ⟨w1.heap.size, 0, none⟩ = some (.int .i64 tk) := R2.cell 0; have g1 : w2.cell? ⟨w1.heap.size, 1, none⟩ = some (.string ⟨tt.toArray⟩) := R2.cell 1; have g2 : w2.cell? ⟨w1.heap.size, 2, none⟩ = some (.int .i64 tv) := R2.cell 2; have g3 : w2.cell? ⟨w1.heap.size, 3, none⟩ = some (.int .i64 m) := R2.cell 3; have b12 := (ba w1 (.cells #[.int .i64 0, .string ⟨#[]⟩, .int .i64 0, .int .i64 0] 35)).trans b2; have r2 := r1.keep b12; have hw2 := hw1.trans (b12.mono hw1.size))
          | (refine wpList_append_tok rfl _ _ rfl ⟨tk, tt, tv, (m : Int)⟩ rfl rfl rfl rfl r2 hw2.size (by omega) ?_; intro V3 w3 r3 b3; have hw3 := hw2.trans b3))
        go_roundw
        case rel => exact ⟨k + J, ts ++ [⟨tk, tt, tv, (m : Int)⟩], V3, m, by omega, rfl, rfl, val_int (by omega), r3, hw3, by omega, by simp only [List.length_append, List.length_cons, List.length_nil]; omega, HX⟩
        case measure => simp [intOf]; omega
      · have HF := Lib.hid (HER.out _ _ _ (HGE.out hte))
        rw [if_neg hte] at C1
        have H1 := Lib.hid C1
        have hte' : ((te : Int) != 0) = true := by rw [bne_iff_ne]; omega
        clear hto hte HGE HGO HT hne C1 HR c10 c32 c9 c35
        go_wp2_with (first
          | (go_at_call 24; go_must (refine (H1.out _).mono ?_; rintro e w1 ⟨rfl, b1⟩; have r1 := hr.keep b1; have hw1 := hw.trans (b1.mono hw.size)))
          | (refine wpList_store_at (RowAt.new w1 35 #[.int .i64 0, .string ⟨#[]⟩, .int .i64 0, .int .i64 0]) (Nat.le_refl _) #[.int .i64 0, .string ⟨#[]⟩, .int .i64 0, .int .i64 0] (.tmp 9) (.tmp 56) 35 rfl rfl rfl rfl (by kernel_rfl) rfl rfl ?_; intro w2 R2 b2; have b12 := (ba w1 (.cells #[.int .i64 0, .string ⟨#[]⟩, .int .i64 0, .int .i64 0] 35)).trans b2; have hw2 := hw1.trans (b12.mono hw1.size)))
        go_returns
        exact ⟨_, by rw [HF.out]; rfl, by rw [HF.out]; exact TRow.nil _ _, hw2⟩
    · have HF := Lib.hid (HOK.out _ (rest_end hlt HR.out))
      go_wp2
      go_returns
      exact ⟨_, by rw [HF.out]; rfl, by rw [HF.out]; exact hr, hw⟩

end Go.Proofs.Ytnmmbpmgdicglaa
