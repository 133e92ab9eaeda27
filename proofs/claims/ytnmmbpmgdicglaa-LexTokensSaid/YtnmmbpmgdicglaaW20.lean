/-
  The walk of the specification's token.
-/
import Derived.Test.YtnmmbpmgdicglaaW19
import Derived.Test.YtnmmbpmgdicglaaW13
import Derived.Test.YtnmmbpmgdicglaaTR
namespace Go.Proofs.Ytnmmbpmgdicglaa
open Go.RowKit
set_option linter.unusedVariables false
set_option linter.unusedSimpArgs false

/-- What the specification's token answers. -/
def rtV (o : Tok × Nat) (j a : Nat) (n : Int) : Value := if o.2 = 0 then .tuple #[.agg #[.int .i64 o.1.k, .string ⟨o.1.t.toArray⟩, .int .i64 o.1.v, .int .i64 n], .int .i64 ((a + j : Nat) : Int), .int .i64 0] else .tuple #[.agg #[.int .i64 0, .string ⟨#[]⟩, .int .i64 0, .int .i64 0], .int .i64 0, .int .i64 (o.2 : Nat)]
theorem rtV_ok {o : Tok × Nat} {j a : Nat} {n : Int} (h : o.2 = 0) : rtV o j a n = .tuple #[.agg #[.int .i64 o.1.k, .string ⟨o.1.t.toArray⟩, .int .i64 o.1.v, .int .i64 n], .int .i64 ((a + j : Nat) : Int), .int .i64 0] := by unfold rtV; rw [if_pos h]
theorem rtV_bad {o : Tok × Nat} {j a : Nat} {n : Int} (h : o.2 ≠ 0) : rtV o j a n = .tuple #[.agg #[.int .i64 0, .string ⟨#[]⟩, .int .i64 0, .int .i64 0], .int .i64 0, .int .i64 (o.2 : Nat)] := by unfold rtV; rw [if_neg h]
theorem ext_tok (s : ByteArray) (a e : Nat) (h : a ≤ e) (he : e ≤ s.size) : (s.extract a e).data.toList = (s.data.toList.drop a).take (e - a) ∧ (s.extract a e).size = e - a := by
  have e1 := ext_list s a e
  refine ⟨e1, ?_⟩
  rw [size_len, e1, List.length_take, List.length_drop, ← size_len]; omega
theorem lt_not {c : Nat} (h : isLt c = true) : c ≠ 34 ∧ isDg c = false ∧ c ≠ 45 := by
  unfold isLt at h; unfold isDg
  rw [decide_eq_true_eq] at h
  exact ⟨by omega, decide_eq_false (by omega), by omega⟩
theorem dg_not {c : Nat} (h : isDg c = true ∨ c = 45) : c ≠ 34 := by
  unfold isDg at h; rw [decide_eq_true_eq] at h; omega

set_option maxRecDepth 20000 in
set_option maxHeartbeats 4000000 in
theorem rtoken_any (s : ByteArray) (a : Nat) (n : Int) (w : World) (hs : s.size ≤ 140737488351232) (ha : a < s.size) :
    Calls Try.prog 24 #[.string s, .int .i64 a, .int .i64 n] w fun e w' => e = .returned (rtV (tkR (s.data.toList.drop a)) (tl (s.data.toList.drop a)) a n) ∧ Below w.heap.size w w' := by
  have hs' : (s.size : Int) ≤ 140737488351232 := by omega
  have ha' : (a : Int) < s.size := by omega
  have k0 : s[a].toNat < 256 := s[a].toNat_lt
  have R0 := RowAt.new w 35 #[.int .i64 0, .string ⟨#[]⟩, .int .i64 0, .int .i64 0]
  have B0 := ba w (.cells #[.int .i64 0, .string ⟨#[]⟩, .int .i64 0, .int .i64 0] 35)
  have hcons := drop_at s a ha
  have CL := fun (w : World) (C : Int) (h : C = (s[a].toNat : Int)) => rletter_any s[a].toNat C w h
  have CD := fun (w : World) (C : Int) (h : C = (s[a].toNat : Int)) => rdigit_any s[a].toNat C w h
  have CM := fun (w : World) (C : Int) (h : C = (s[a].toNat : Int)) => rmark_any s[a].toNat C w h
  have CW := fun w => rword_any s a w hs ha
  have hwl := wl_le (s.data.toList.drop (a + 1))
  rw [List.length_drop, ← size_len] at hwl
  by_cases hword : isLt s[a].toNat = true ∨ isDg s[a].toNat = true ∨ s[a].toNat = 45
  · have hj : tl (s.data.toList.drop a) = wl (s.data.toList.drop (a + 1)) + 1 := by rw [hcons]; exact tl_word _ _ hword
    obtain ⟨t1, t2⟩ := ext_tok s a (a + 1 + wl (s.data.toList.drop (a + 1))) (by omega) (by omega)
    rw [show a + 1 + wl (s.data.toList.drop (a + 1)) - a = wl (s.data.toList.drop (a + 1)) + 1 by omega, ← hj] at t1
    have hk : tkR (s.data.toList.drop a) = tokO (s.extract a (a + 1 + wl (s.data.toList.drop (a + 1)))).data.toList := by unfold tkR; rw [t1]
    have hT0 : (s.extract a (a + 1 + wl (s.data.toList.drop (a + 1)))).data.toList = s[a] :: (s.data.toList.drop (a + 1)).take (wl (s.data.toList.drop (a + 1))) := by rw [t1, hj, hcons]; rfl
    have hjj : ((a + tl (s.data.toList.drop a) : Nat) : Int) = ((a + 1 + wl (s.data.toList.drop (a + 1)) : Nat) : Int) := by rw [hj]; omega
    rw [hk]
    clear hk t1 hj hcons
    have hE : a + 1 + wl (s.data.toList.drop (a + 1)) ≤ s.size := by omega
    have hE' : a ≤ a + 1 + wl (s.data.toList.drop (a + 1)) := by omega
    have hTs : (s.extract a (a + 1 + wl (s.data.toList.drop (a + 1)))).size ≤ 140737488351232 := by omega
    generalize tl (s.data.toList.drop a) = J at *
    generalize a + 1 + wl (s.data.toList.drop (a + 1)) = E at *
    have hE2 : (E : Int) ≤ s.size := by omega
    have hE3 : (a : Int) ≤ E := by omega
    generalize (s.data.toList.drop (a + 1)).take (wl (s.data.toList.drop (a + 1))) = rr at *
    generalize h35 : s.extract a E = T at *
    have CN := fun w => rname_any T w hTs
    have CU := fun w => rnumber_any T w hTs
    have HW := Lib.hid CW
    have bT := bytes_of T
    rcases hl : isLt s[a].toNat with _ | _
    · have hd : isDg s[a].toNat = true ∨ s[a].toNat = 45 := by rw [hl] at hword; simpa using hword
      have hto : tokO T.data.toList = (⟨2, T.data.toList, numV T.data.toList, 0⟩, numE T.data.toList) := by rw [hT0]; exact tokO_num _ _ (dg_not hd) hd
      have HO := Lib.hid (fun h => @rtV_ok (tokO T.data.toList) J a n h); have HB := Lib.hid (fun h => @rtV_bad (tokO T.data.toList) J a n h)
      generalize rtV (tokO T.data.toList) J a n = Z at *
      rw [hto, hjj] at HO
      rw [hto] at HB
      simp only [bT] at HO HB
      unfold nuV at CU
      clear hto hT0
      generalize numV T.data.toList = Vn at *
      generalize numE T.data.toList = Ve at *
      rw [hl] at CL
      have HL := Lib.hid CL; have HU := Lib.hid CU
      have e45 : isDg s[a].toNat = true ∨ isDg s[a].toNat = false ∧ ((s[a].toNat : Int) == 45) = true := by
        rcases hd with h | h
        · exact Or.inl h
        · by_cases h2 : isDg s[a].toNat = true
          · exact Or.inl h2
          · exact Or.inr ⟨by simpa using h2, by rw [h]; rfl⟩
      clear CL CM CN CU CW hd hl hword
      by_cases hz : Ve = 0
      · have HV := Lib.hid (HO.out hz)
        clear HO HB
        subst hz
        rcases e45 with e45 | ⟨e45, e46⟩
        all_goals
          rw [e45] at CD
          have HD := Lib.hid CD
          clear CD e45
          go_enter Try.func24, Try.ntmps24
          go_wp2_with (first
            | (go_at_call 30; go_must (refine (HL.out _ _ rfl).mono ?_; rintro e w1 ⟨rfl, rfl⟩))
            | (go_at_call 46; go_must (refine (HD.out _ _ rfl).mono ?_; rintro e w1 ⟨rfl, rfl⟩))
            | (go_at_call 45; go_must (refine (HW.out _).mono ?_; rintro e w1 ⟨rfl, rfl⟩))
            | (go_at_call 13; go_must (refine (HU.out _).mono ?_; rintro e w1 ⟨rfl, rfl⟩))
            | (refine wpList_store_at R0 (Nat.le_refl _) #[.int .i64 2, .string T, .int .i64 Vn, .int .i64 n] (.tmp 6) (.tmp 66) 35 rfl rfl rfl rfl (by kernel_rfl) rfl rfl ?_; intro w9 r9 b9))
          have e0' : w9.cell? ⟨w.heap.size, 0, none⟩ = some (.int .i64 2) := r9.cell 0
          have e1' : w9.cell? ⟨w.heap.size, 1, none⟩ = some (.string T) := r9.cell 1
          have e2' : w9.cell? ⟨w.heap.size, 2, none⟩ = some (.int .i64 Vn) := r9.cell 2
          have e3' : w9.cell? ⟨w.heap.size, 3, none⟩ = some (.int .i64 n) := r9.cell 3
          refine bodyPost_ret (v := .tuple #[.agg #[.int .i64 2, .string T, .int .i64 Vn, .int .i64 n], .int .i64 (E : Nat), .int .i64 0]) (by simp [results, Try.results24, go_sem, e0', e1', e2', e3']) rfl ⟨ret_of HV.out.symm, B0.trans b9⟩
      · have HV := Lib.hid (HB.out hz)
        have hz1 : ((Ve : Int) != 0) = true := by rw [bne_iff_ne]; omega
        clear HO HB hz
        rcases e45 with e45 | ⟨e45, e46⟩
        all_goals
          rw [e45] at CD
          have HD := Lib.hid CD
          clear CD e45
          go_enter Try.func24, Try.ntmps24
          go_wp2_with (first
            | (go_at_call 30; go_must (refine (HL.out _ _ rfl).mono ?_; rintro e w1 ⟨rfl, rfl⟩))
            | (go_at_call 46; go_must (refine (HD.out _ _ rfl).mono ?_; rintro e w1 ⟨rfl, rfl⟩))
            | (go_at_call 45; go_must (refine (HW.out _).mono ?_; rintro e w1 ⟨rfl, rfl⟩))
            | (go_at_call 13; go_must (refine (HU.out _).mono ?_; rintro e w1 ⟨rfl, rfl⟩))
            | (refine wpList_store_at R0 (Nat.le_refl _) #[.int .i64 0, .string ⟨#[]⟩, .int .i64 0, .int .i64 0] (.tmp 6) (.tmp 58) 35 rfl rfl rfl rfl (by kernel_rfl) rfl rfl ?_; intro w9 r9 b9))
          have e0' : w9.cell? ⟨w.heap.size, 0, none⟩ = some (.int .i64 0) := r9.cell 0
          have e1' : w9.cell? ⟨w.heap.size, 1, none⟩ = some (.string ⟨#[]⟩) := r9.cell 1
          have e2' : w9.cell? ⟨w.heap.size, 2, none⟩ = some (.int .i64 0) := r9.cell 2
          have e3' : w9.cell? ⟨w.heap.size, 3, none⟩ = some (.int .i64 0) := r9.cell 3
          refine bodyPost_ret (v := .tuple #[.agg #[.int .i64 0, .string ⟨#[]⟩, .int .i64 0, .int .i64 0], .int .i64 0, .int .i64 (Ve : Nat)]) (by simp [results, Try.results24, go_sem, e0', e1', e2', e3']) rfl ⟨ret_of HV.out.symm, B0.trans b9⟩
    · obtain ⟨n1, n2, n3⟩ := lt_not hl
      rw [hl] at CL
      have HL := Lib.hid CL
      rcases hn : nm T.data.toList with _ | _
      · have hto : tokO T.data.toList = (⟨0, [], 0, 0⟩, 4) := by
          rw [hT0] at hn ⊢
          exact tokO_none _ _ n1 (by rw [n2]; simp; exact n3) hn (mk_letter _ _ hl)
        have HV := Lib.hid (show rtV (tokO T.data.toList) J a n = .tuple #[.agg #[.int .i64 0, .string ⟨#[]⟩, .int .i64 0, .int .i64 0], .int .i64 0, .int .i64 4] from by rw [hto]; rfl)
        generalize rtV (tokO T.data.toList) J a n = Z at *
        rw [hn] at CN
        have HN := Lib.hid CN
        clear CL CD CM CN CU CW hto hT0 hn hl hword n1 n2 n3
        go_enter Try.func24, Try.ntmps24
        go_wp2_with (first
          | (go_at_call 30; go_must (refine (HL.out _ _ rfl).mono ?_; rintro e w1 ⟨rfl, rfl⟩))
          | (go_at_call 45; go_must (refine (HW.out _).mono ?_; rintro e w1 ⟨rfl, rfl⟩))
          | (go_at_call 15; go_must (refine (HN.out _).mono ?_; rintro e w1 ⟨rfl, rfl⟩))
          | (refine wpList_store_at R0 (Nat.le_refl _) #[.int .i64 0, .string ⟨#[]⟩, .int .i64 0, .int .i64 0] (.tmp 6) (.tmp 31) 35 rfl rfl rfl rfl (by kernel_rfl) rfl rfl ?_; intro w9 r9 b9))
        have e0' : w9.cell? ⟨w.heap.size, 0, none⟩ = some (.int .i64 0) := r9.cell 0
        have e1' : w9.cell? ⟨w.heap.size, 1, none⟩ = some (.string ⟨#[]⟩) := r9.cell 1
        have e2' : w9.cell? ⟨w.heap.size, 2, none⟩ = some (.int .i64 0) := r9.cell 2
        have e3' : w9.cell? ⟨w.heap.size, 3, none⟩ = some (.int .i64 0) := r9.cell 3
        refine bodyPost_ret (v := .tuple #[.agg #[.int .i64 0, .string ⟨#[]⟩, .int .i64 0, .int .i64 0], .int .i64 0, .int .i64 4]) (by simp [results, Try.results24, go_sem, e0', e1', e2', e3']) rfl ⟨ret_of HV.out.symm, B0.trans b9⟩
      · have hto : tokO T.data.toList = (⟨1, T.data.toList, 0, 0⟩, 0) := by
          rw [hT0] at hn ⊢
          exact tokO_name _ _ n1 (by rw [n2]; simp; exact n3) hn
        have HV := Lib.hid (show rtV (tokO T.data.toList) J a n = .tuple #[.agg #[.int .i64 1, .string T, .int .i64 0, .int .i64 n], .int .i64 (E : Nat), .int .i64 0] from (rtV_ok (o := tokO T.data.toList) (j := J) (a := a) (n := n) (by rw [hto])).trans (by rw [hto, hjj] <;> simp only [bT]))
        generalize rtV (tokO T.data.toList) J a n = Z at *
        rw [hn] at CN
        have HN := Lib.hid CN
        clear CL CD CM CN CU CW hto hT0 hn hl hword n1 n2 n3
        go_enter Try.func24, Try.ntmps24
        go_wp2_with (first
          | (go_at_call 30; go_must (refine (HL.out _ _ rfl).mono ?_; rintro e w1 ⟨rfl, rfl⟩))
          | (go_at_call 45; go_must (refine (HW.out _).mono ?_; rintro e w1 ⟨rfl, rfl⟩))
          | (go_at_call 15; go_must (refine (HN.out _).mono ?_; rintro e w1 ⟨rfl, rfl⟩))
          | (refine wpList_store_at R0 (Nat.le_refl _) #[.int .i64 1, .string T, .int .i64 0, .int .i64 n] (.tmp 6) (.tmp 37) 35 rfl rfl rfl rfl (by kernel_rfl) rfl rfl ?_; intro w9 r9 b9))
        have e0' : w9.cell? ⟨w.heap.size, 0, none⟩ = some (.int .i64 1) := r9.cell 0
        have e1' : w9.cell? ⟨w.heap.size, 1, none⟩ = some (.string T) := r9.cell 1
        have e2' : w9.cell? ⟨w.heap.size, 2, none⟩ = some (.int .i64 0) := r9.cell 2
        have e3' : w9.cell? ⟨w.heap.size, 3, none⟩ = some (.int .i64 n) := r9.cell 3
        refine bodyPost_ret (v := .tuple #[.agg #[.int .i64 1, .string T, .int .i64 0, .int .i64 n], .int .i64 (E : Nat), .int .i64 0]) (by simp [results, Try.results24, go_sem, e0', e1', e2', e3']) rfl ⟨ret_of HV.out.symm, B0.trans b9⟩
  · have n1 : isLt s[a].toNat = false := by cases h : isLt s[a].toNat; rfl; exact absurd (Or.inl h) hword
    have n2 : isDg s[a].toNat = false := by cases h : isDg s[a].toNat; rfl; exact absurd (Or.inr (Or.inl h)) hword
    have n3 : s[a].toNat ≠ 45 := fun h => hword (Or.inr (Or.inr h))
    have e45 : ((s[a].toNat : Int) == 45) = false := by rw [beq_eq_false_iff_ne]; omega
    rw [n1] at CL
    rw [n2] at CD
    have HL := Lib.hid CL; have HD := Lib.hid CD
    by_cases h34 : s[a].toNat = 34
    · have e34 : ((s[a].toNat : Int) == 34) = true := by rw [h34]; rfl
      have CQ := fun w => rquoted_any s a w hs ha h34
      have hk := tkR_str s[a] (s.data.toList.drop (a + 1)) h34
      have hj := tl_str s[a] (s.data.toList.drop (a + 1)) h34
      rw [← hcons] at hk hj
      rw [hk, hj]
      cases hq : qd (s.data.toList.drop (a + 1)) with
      | none =>
        rw [hq] at CQ
        simp only [quV] at CQ
        have HV := Lib.hid (show rtV ((⟨3, [], 0, 0⟩ : Tok), 4) (ql false (s.data.toList.drop (a + 1)) + 1) a n = .tuple #[.agg #[.int .i64 0, .string ⟨#[]⟩, .int .i64 0, .int .i64 0], .int .i64 0, .int .i64 4] from rfl)
        simp only
        generalize rtV ((⟨3, [], 0, 0⟩ : Tok), 4) (ql false (s.data.toList.drop (a + 1)) + 1) a n = Z at *
        have HQ := Lib.hid CQ
        clear CL CD CM CW CQ hk hj hq hcons n1 n2 n3 h34 hword hwl
        go_enter Try.func24, Try.ntmps24
        go_wp2_with (first
          | (go_at_call 30; go_must (refine (HL.out _ _ rfl).mono ?_; rintro e w1 ⟨rfl, rfl⟩))
          | (go_at_call 46; go_must (refine (HD.out _ _ rfl).mono ?_; rintro e w1 ⟨rfl, rfl⟩))
          | (go_at_call 37; go_must (refine (HQ.out _).mono ?_; rintro e w1 ⟨rfl, b1⟩; have R1 := R0.keep b1; have B1 := B0.trans (b1.mono B0.size)))
          | (refine wpList_store_at R1 (Nat.le_refl _) #[.int .i64 0, .string ⟨#[]⟩, .int .i64 0, .int .i64 0] (.tmp 6) (.tmp 79) 35 rfl rfl rfl rfl (by kernel_rfl) rfl rfl ?_; intro w9 r9 b9))
        have e0' : w9.cell? ⟨w.heap.size, 0, none⟩ = some (.int .i64 0) := r9.cell 0
        have e1' : w9.cell? ⟨w.heap.size, 1, none⟩ = some (.string ⟨#[]⟩) := r9.cell 1
        have e2' : w9.cell? ⟨w.heap.size, 2, none⟩ = some (.int .i64 0) := r9.cell 2
        have e3' : w9.cell? ⟨w.heap.size, 3, none⟩ = some (.int .i64 0) := r9.cell 3
        refine bodyPost_ret (v := .tuple #[.agg #[.int .i64 0, .string ⟨#[]⟩, .int .i64 0, .int .i64 0], .int .i64 0, .int .i64 4]) (by simp [results, Try.results24, go_sem, e0', e1', e2', e3']) rfl ⟨ret_of HV.out.symm, B1.trans b9⟩
      | some p =>
        obtain ⟨o, k⟩ := p
        have hkk := qd_ql hq
        rw [hq] at CQ
        simp only [quV] at CQ
        rw [← hkk]
        have HV := Lib.hid (show rtV ((⟨3, o, 0, 0⟩ : Tok), 0) (k + 1) a n = .tuple #[.agg #[.int .i64 3, .string ⟨o.toArray⟩, .int .i64 0, .int .i64 n], .int .i64 ((a + 1 + k : Nat) : Int), .int .i64 0] from by rw [rtV_ok rfl]; simp only [show a + (k + 1) = a + 1 + k from by omega])
        simp only
        generalize rtV ((⟨3, o, 0, 0⟩ : Tok), 0) (k + 1) a n = Z at *
        generalize o.toArray = O at *
        generalize ((a + 1 + k : Nat) : Int) = X at *
        have HQ := Lib.hid CQ
        clear CL CD CM CW CQ hk hj hq hcons n1 n2 n3 h34 hword hwl hkk
        go_enter Try.func24, Try.ntmps24
        go_wp2_with (first
          | (go_at_call 30; go_must (refine (HL.out _ _ rfl).mono ?_; rintro e w1 ⟨rfl, rfl⟩))
          | (go_at_call 46; go_must (refine (HD.out _ _ rfl).mono ?_; rintro e w1 ⟨rfl, rfl⟩))
          | (go_at_call 37; go_must (refine (HQ.out _).mono ?_; rintro e w1 ⟨rfl, b1⟩; have R1 := R0.keep b1; have B1 := B0.trans (b1.mono B0.size)))
          | (refine wpList_store_at R1 (Nat.le_refl _) #[.int .i64 3, .string ⟨O⟩, .int .i64 0, .int .i64 n] (.tmp 6) (.tmp 82) 35 rfl rfl rfl rfl (by kernel_rfl) rfl rfl ?_; intro w9 r9 b9))
        have e0' : w9.cell? ⟨w.heap.size, 0, none⟩ = some (.int .i64 3) := r9.cell 0
        have e1' : w9.cell? ⟨w.heap.size, 1, none⟩ = some (.string ⟨O⟩) := r9.cell 1
        have e2' : w9.cell? ⟨w.heap.size, 2, none⟩ = some (.int .i64 0) := r9.cell 2
        have e3' : w9.cell? ⟨w.heap.size, 3, none⟩ = some (.int .i64 n) := r9.cell 3
        refine bodyPost_ret (v := .tuple #[.agg #[.int .i64 3, .string ⟨O⟩, .int .i64 0, .int .i64 n], .int .i64 X, .int .i64 0]) (by simp [results, Try.results24, go_sem, e0', e1', e2', e3']) rfl ⟨ret_of HV.out.symm, B1.trans b9⟩
    · have e34 : ((s[a].toNat : Int) == 34) = false := by rw [beq_eq_false_iff_ne]; omega
      have hj : tl (s.data.toList.drop a) = 1 := by rw [hcons]; exact tl_other _ _ h34 hword
      obtain ⟨t1, t2⟩ := ext_tok s a (a + 1) (by omega) (by omega)
      rw [show a + 1 - a = 1 by omega] at t1
      have hT0 : (s.extract a (a + 1)).data.toList = [s[a]] := by rw [t1, hcons]; rfl
      have hk : tkR (s.data.toList.drop a) = tokO [s[a]] := by unfold tkR; rw [hj, ← t1, hT0]
      rw [hk, hj]
      have hd : ¬ (isDg s[a].toNat = true ∨ s[a].toNat = 45) := by rw [n2]; simp; exact n3
      have hnm := nm_letter s[a] [] n1
      have a1 : a + 1 ≤ s.size := by omega
      have a2 : (a : Int) + 1 ≤ s.size := by omega
      rcases hm : mkC s[a].toNat with _ | _
      · rw [tokO_none s[a] [] h34 hd hnm hm]
        have HV := Lib.hid (show rtV ((⟨0, [], 0, 0⟩ : Tok), 4) 1 a n = .tuple #[.agg #[.int .i64 0, .string ⟨#[]⟩, .int .i64 0, .int .i64 0], .int .i64 0, .int .i64 4] from rfl)
        generalize rtV ((⟨0, [], 0, 0⟩ : Tok), 4) 1 a n = Z at *
        rw [hm] at CM
        have HM := Lib.hid CM
        clear CL CD CM CW hk hj hcons n1 n2 n3 h34 hword hwl t1 t2 hT0 hd hnm hm
        go_enter Try.func24, Try.ntmps24
        go_wp2_with (first
          | (go_at_call 30; go_must (refine (HL.out _ _ rfl).mono ?_; rintro e w1 ⟨rfl, rfl⟩))
          | (go_at_call 46; go_must (refine (HD.out _ _ rfl).mono ?_; rintro e w1 ⟨rfl, rfl⟩))
          | (go_at_call 47; go_must (refine (HM.out _ _ rfl).mono ?_; rintro e w1 ⟨rfl, rfl⟩))
          | (refine wpList_store_at R0 (Nat.le_refl _) #[.int .i64 0, .string ⟨#[]⟩, .int .i64 0, .int .i64 0] (.tmp 6) (.tmp 95) 35 rfl rfl rfl rfl (by kernel_rfl) rfl rfl ?_; intro w9 r9 b9))
        have e0' : w9.cell? ⟨w.heap.size, 0, none⟩ = some (.int .i64 0) := r9.cell 0
        have e1' : w9.cell? ⟨w.heap.size, 1, none⟩ = some (.string ⟨#[]⟩) := r9.cell 1
        have e2' : w9.cell? ⟨w.heap.size, 2, none⟩ = some (.int .i64 0) := r9.cell 2
        have e3' : w9.cell? ⟨w.heap.size, 3, none⟩ = some (.int .i64 0) := r9.cell 3
        refine bodyPost_ret (v := .tuple #[.agg #[.int .i64 0, .string ⟨#[]⟩, .int .i64 0, .int .i64 0], .int .i64 0, .int .i64 4]) (by simp [results, Try.results24, go_sem, e0', e1', e2', e3']) rfl ⟨ret_of HV.out.symm, B0.trans b9⟩
      · rw [tokO_mark s[a] [] h34 hd hnm hm]
        generalize h35 : s.extract a (a + 1) = T at *
        have bT := bytes_of T
        have HV := Lib.hid (show rtV ((⟨4, [s[a]], 0, 0⟩ : Tok), 0) 1 a n = .tuple #[.agg #[.int .i64 4, .string T, .int .i64 0, .int .i64 n], .int .i64 ((a : Int) + 1), .int .i64 0] from by rw [rtV_ok rfl, ← hT0]; simp only [bT]; rfl)
        generalize rtV ((⟨4, [s[a]], 0, 0⟩ : Tok), 0) 1 a n = Z at *
        rw [hm] at CM
        have HM := Lib.hid CM
        clear CL CD CM CW hk hj hcons n1 n2 n3 h34 hword hwl t1 t2 hT0 hd hnm hm bT
        go_enter Try.func24, Try.ntmps24
        go_wp2_with (first
          | (go_at_call 30; go_must (refine (HL.out _ _ rfl).mono ?_; rintro e w1 ⟨rfl, rfl⟩))
          | (go_at_call 46; go_must (refine (HD.out _ _ rfl).mono ?_; rintro e w1 ⟨rfl, rfl⟩))
          | (go_at_call 47; go_must (refine (HM.out _ _ rfl).mono ?_; rintro e w1 ⟨rfl, rfl⟩))
          | (refine wpList_store_at R0 (Nat.le_refl _) #[.int .i64 4, .string T, .int .i64 0, .int .i64 n] (.tmp 6) (.tmp 92) 35 rfl rfl rfl rfl (by kernel_rfl) rfl rfl ?_; intro w9 r9 b9))
        have e0' : w9.cell? ⟨w.heap.size, 0, none⟩ = some (.int .i64 4) := r9.cell 0
        have e1' : w9.cell? ⟨w.heap.size, 1, none⟩ = some (.string T) := r9.cell 1
        have e2' : w9.cell? ⟨w.heap.size, 2, none⟩ = some (.int .i64 0) := r9.cell 2
        have e3' : w9.cell? ⟨w.heap.size, 3, none⟩ = some (.int .i64 n) := r9.cell 3
        refine bodyPost_ret (v := .tuple #[.agg #[.int .i64 4, .string T, .int .i64 0, .int .i64 n], .int .i64 ((a : Int) + 1), .int .i64 0]) (by simp [results, Try.results24, go_sem, e0', e1', e2', e3']) rfl ⟨ret_of HV.out.symm, B0.trans b9⟩

end Go.Proofs.Ytnmmbpmgdicglaa
