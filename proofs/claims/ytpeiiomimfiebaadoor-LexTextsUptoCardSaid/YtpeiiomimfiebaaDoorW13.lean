/-
  The walk of the specification's Number.
-/
import Derived.Test.YtpeiiomimfiebaaDoorW12
import Derived.Test.YtpeiiomimfiebaaDoorW7
namespace Go.Proofs.YtpeiiomimfiebaaDoor
open Go.RowKit
set_option linter.unusedVariables false
set_option linter.unusedSimpArgs false

theorem pre2 (l : List UInt8) : Lib.hasPrefix l [48, 120] = (l.take 2 == [48, 120]) := by
  unfold Lib.hasPrefix
  match l with
  | [] => rfl
  | [a] => show (48 == a && false) = ([a] == [48, 120]); rw [Bool.and_false]; symm; rw [beq_eq_false_iff_ne]; simp
  | a :: b :: r =>
    show (48 == a && (120 == b && true)) = ([a, b] == [48, 120])
    rw [Bool.eq_iff_iff]
    constructor
    · intro h
      simp only [Bool.and_eq_true, beq_iff_eq] at h
      obtain ⟨rfl, rfl, _⟩ := h
      rfl
    · intro h
      rw [beq_iff_eq] at h
      injection h with h1 h2
      injection h2 with h2 _
      subst h1 h2
      rfl
theorem num_ways {s X : ByteArray} (hb : body s.data.toList = X.data.toList) :
    (X.size ≤ 2 ∧ numO s.data.toList = mg X.data.toList 10) ∨ (2 < X.size ∧ ((X.extract 0 2).toList == [48, 120]) = false ∧ numO s.data.toList = mg X.data.toList 10) ∨ (2 < X.size ∧ ((X.extract 0 2).toList == [48, 120]) = true ∧ numO s.data.toList = mg (X.data.toList.drop 2) 16) := by
  have hp : hex s.data.toList = ((X.extract 0 2).toList == [48, 120]) := by
    unfold hex; rw [hb, pre2, ByteArray.toList_eq, ext_list]; rfl
  have hO : numO s.data.toList = mg (Lib.trimPrefix X.data.toList [48, 120]) (if hex s.data.toList = true then 16 else 10) := by unfold numO digs; rw [hb]
  have hx : hex s.data.toList = Lib.hasPrefix X.data.toList [48, 120] := by unfold hex; rw [hb]
  cases hh : hex s.data.toList with
  | false =>
    have e : numO s.data.toList = mg X.data.toList 10 := by
      rw [hO, hh]; unfold Lib.trimPrefix; rw [← hx, hh]; rfl
    by_cases h2 : X.size ≤ 2
    · exact Or.inl ⟨h2, e⟩
    · exact Or.inr (Or.inl ⟨by omega, by rw [← hp, hh], e⟩)
  | true =>
    have e : numO s.data.toList = mg (X.data.toList.drop 2) 16 := by
      rw [hO, hh]; unfold Lib.trimPrefix; rw [← hx, hh]; rfl
    by_cases h2 : X.size ≤ 2
    · refine Or.inl ⟨h2, ?_⟩
      have h3 : X.data.toList = [48, 120] := by
        rw [hp, beq_iff_eq, ByteArray.toList_eq, ext_list, List.drop_zero, List.take_of_length_le (by rw [← size_len]; omega)] at hh
        exact hh
      rw [e, h3]; rfl
    · exact Or.inr (Or.inr ⟨by omega, by rw [← hp, hh], e⟩)

set_option maxHeartbeats 2000000 in
theorem rnumber_pos0 (s : ByteArray) (w : World) (hs : s.size ≤ 140737488351232) (hg : (s.size : Int) ≤ 0) (hbd : body s.data.toList = s.data.toList) (hng : neg s.data.toList = false) :
    Calls Tryd.prog 40 #[.string s] w fun e w' => e = .returned (nuV s.data.toList) ∧ w = w' := by
  have hs' : (s.size : Int) ≤ 140737488351232 := by omega
  have A1 := Lib.hid (@num_none s.data.toList); have A2 := Lib.hid (fun n => @num_zero s.data.toList n); have A3 := Lib.hid (fun n => @num_big s.data.toList n); have A4 := Lib.hid (fun n => @num_pos s.data.toList n); have A5 := Lib.hid (fun n => @num_neg s.data.toList n)
  have AV := Lib.hid (fun v e => @nuV_of s.data.toList v e)
  have hr : ∀ n, numO s.data.toList = some n → 0 ≤ n ∧ n ≤ 9007199254740993 := fun n h => mg_range (by split <;> omega) h
  rcases num_ways hbd with ⟨hl, hO⟩ | ⟨hl, hp, hO⟩ | ⟨hl, hp, hO⟩
  · have C3 := fun w => rplain_any s 10 w (by omega) (Or.inl rfl)
    unfold mgV at C3
    rw [← hO] at C3
    have g1 : (s.size : Int) ≤ 2 := by omega
    generalize numO s.data.toList = O at *
    generalize nuV s.data.toList = V at *
    generalize numV s.data.toList = Vn at *
    generalize numE s.data.toList = Ve at *
    generalize neg s.data.toList = bn at *
    subst hng
    clear hO hl hbd
    cases O with
    | none =>
      have H3 := Lib.hid C3
      have HV := Lib.hid (AV.out _ _ (A1.out rfl))
      clear C3 hr
      go_enter Tryd.func40, Tryd.ntmps40
      go_wp2_with (first
        | (go_at_call 54; go_must (refine (H3.out _).mono ?_; rintro e w3 ⟨rfl, rfl⟩)))
      go_returns
      exact ⟨ret_of HV.out.symm, rfl⟩
    | some n =>
      have H3 := Lib.hid C3
      obtain ⟨n0, n1⟩ := hr n rfl
      clear C3 hr
      by_cases hb : 9007199254740992 < n
      · have HV := Lib.hid (AV.out _ _ (A3.out n rfl hb))
        have hn0 : (n == 0) = false := by rw [beq_eq_false_iff_ne]; omega
        go_enter Tryd.func40, Tryd.ntmps40
        go_wp2_with (first
          | (go_at_call 54; go_must (refine (H3.out _).mono ?_; rintro e w3 ⟨rfl, rfl⟩)))
        go_returns
        exact ⟨ret_of HV.out.symm, rfl⟩
      have hb' : n ≤ 9007199254740992 := by omega
      have HV := Lib.hid (AV.out _ _ (A4.out n rfl rfl hb))
      clear hb
      go_enter Tryd.func40, Tryd.ntmps40
      go_wp2_with (first
        | (go_at_call 54; go_must (refine (H3.out _).mono ?_; rintro e w3 ⟨rfl, rfl⟩)))
      go_returns
      exact ⟨by rw [HV.out]; first | rfl | exact ret_of (by congr 4; omega) | (congr 4; omega), rfl⟩
  · exfalso; omega
  · exfalso; omega

set_option maxHeartbeats 2000000 in
theorem rnumber_pos (s : ByteArray) (w : World) (hs : s.size ≤ 140737488351232) (hg : (0 : Int) < s.size) (hg0 : 0 < s.size) (hg1 : ((s[0].toNat : Int) == 45) = false) (hbd : body s.data.toList = s.data.toList) (hng : neg s.data.toList = false) :
    Calls Tryd.prog 40 #[.string s] w fun e w' => e = .returned (nuV s.data.toList) ∧ w = w' := by
  have hs' : (s.size : Int) ≤ 140737488351232 := by omega
  have A1 := Lib.hid (@num_none s.data.toList); have A2 := Lib.hid (fun n => @num_zero s.data.toList n); have A3 := Lib.hid (fun n => @num_big s.data.toList n); have A4 := Lib.hid (fun n => @num_pos s.data.toList n); have A5 := Lib.hid (fun n => @num_neg s.data.toList n)
  have AV := Lib.hid (fun v e => @nuV_of s.data.toList v e)
  have hr : ∀ n, numO s.data.toList = some n → 0 ≤ n ∧ n ≤ 9007199254740993 := fun n h => mg_range (by split <;> omega) h
  rcases num_ways hbd with ⟨hl, hO⟩ | ⟨hl, hp, hO⟩ | ⟨hl, hp, hO⟩
  · have C3 := fun w => rplain_any s 10 w (by omega) (Or.inl rfl)
    unfold mgV at C3
    rw [← hO] at C3
    have g1 : (s.size : Int) ≤ 2 := by omega
    generalize numO s.data.toList = O at *
    generalize nuV s.data.toList = V at *
    generalize numV s.data.toList = Vn at *
    generalize numE s.data.toList = Ve at *
    generalize neg s.data.toList = bn at *
    subst hng
    clear hO hl hbd
    cases O with
    | none =>
      have H3 := Lib.hid C3
      have HV := Lib.hid (AV.out _ _ (A1.out rfl))
      clear C3 hr
      go_enter Tryd.func40, Tryd.ntmps40
      go_wp2_with (first
        | (go_at_call 54; go_must (refine (H3.out _).mono ?_; rintro e w3 ⟨rfl, rfl⟩)))
      go_returns
      exact ⟨ret_of HV.out.symm, rfl⟩
    | some n =>
      have H3 := Lib.hid C3
      obtain ⟨n0, n1⟩ := hr n rfl
      clear C3 hr
      by_cases hb : 9007199254740992 < n
      · have HV := Lib.hid (AV.out _ _ (A3.out n rfl hb))
        have hn0 : (n == 0) = false := by rw [beq_eq_false_iff_ne]; omega
        go_enter Tryd.func40, Tryd.ntmps40
        go_wp2_with (first
          | (go_at_call 54; go_must (refine (H3.out _).mono ?_; rintro e w3 ⟨rfl, rfl⟩)))
        go_returns
        exact ⟨ret_of HV.out.symm, rfl⟩
      have hb' : n ≤ 9007199254740992 := by omega
      have HV := Lib.hid (AV.out _ _ (A4.out n rfl rfl hb))
      clear hb
      go_enter Tryd.func40, Tryd.ntmps40
      go_wp2_with (first
        | (go_at_call 54; go_must (refine (H3.out _).mono ?_; rintro e w3 ⟨rfl, rfl⟩)))
      go_returns
      exact ⟨by rw [HV.out]; first | rfl | exact ret_of (by congr 4; omega) | (congr 4; omega), rfl⟩
  · have C3 := fun w => rplain_any s 10 w (by omega) (Or.inl rfl)
    unfold mgV at C3
    rw [← hO] at C3
    have g1 : (2 : Int) < s.size := by omega
    generalize numO s.data.toList = O at *
    generalize nuV s.data.toList = V at *
    generalize numV s.data.toList = Vn at *
    generalize numE s.data.toList = Ve at *
    generalize neg s.data.toList = bn at *
    subst hng
    clear hO hl hbd
    cases O with
    | none =>
      have H3 := Lib.hid C3
      have HV := Lib.hid (AV.out _ _ (A1.out rfl))
      clear C3 hr
      go_enter Tryd.func40, Tryd.ntmps40
      go_wp2_with (first
        | (go_at_call 54; go_must (refine (H3.out _).mono ?_; rintro e w3 ⟨rfl, rfl⟩)))
      go_returns
      exact ⟨ret_of HV.out.symm, rfl⟩
    | some n =>
      have H3 := Lib.hid C3
      obtain ⟨n0, n1⟩ := hr n rfl
      clear C3 hr
      by_cases hb : 9007199254740992 < n
      · have HV := Lib.hid (AV.out _ _ (A3.out n rfl hb))
        have hn0 : (n == 0) = false := by rw [beq_eq_false_iff_ne]; omega
        go_enter Tryd.func40, Tryd.ntmps40
        go_wp2_with (first
          | (go_at_call 54; go_must (refine (H3.out _).mono ?_; rintro e w3 ⟨rfl, rfl⟩)))
        go_returns
        exact ⟨ret_of HV.out.symm, rfl⟩
      have hb' : n ≤ 9007199254740992 := by omega
      have HV := Lib.hid (AV.out _ _ (A4.out n rfl rfl hb))
      clear hb
      go_enter Tryd.func40, Tryd.ntmps40
      go_wp2_with (first
        | (go_at_call 54; go_must (refine (H3.out _).mono ?_; rintro e w3 ⟨rfl, rfl⟩)))
      go_returns
      exact ⟨by rw [HV.out]; first | rfl | exact ret_of (by congr 4; omega) | (congr 4; omega), rfl⟩
  · have C3 := fun w => rplain_any (s.extract 2 s.size) 16 w (by have := ext_size s 2 s.size; omega) (Or.inr rfl)
    unfold mgV at C3
    rw [ext_end, ← hO] at C3
    have g1 : (2 : Int) < s.size := by omega
    generalize hY : s.extract 2 s.size = Y at *
    generalize numO s.data.toList = O at *
    generalize nuV s.data.toList = V at *
    generalize numV s.data.toList = Vn at *
    generalize numE s.data.toList = Ve at *
    generalize neg s.data.toList = bn at *
    subst hng
    clear hO hl hbd
    cases O with
    | none =>
      have H3 := Lib.hid C3
      have HV := Lib.hid (AV.out _ _ (A1.out rfl))
      clear C3 hr
      go_enter Tryd.func40, Tryd.ntmps40
      go_wp2_with (first
        | (go_at_call 54; go_must (refine (H3.out _).mono ?_; rintro e w3 ⟨rfl, rfl⟩)))
      go_returns
      exact ⟨ret_of HV.out.symm, rfl⟩
    | some n =>
      have H3 := Lib.hid C3
      obtain ⟨n0, n1⟩ := hr n rfl
      clear C3 hr
      by_cases hb : 9007199254740992 < n
      · have HV := Lib.hid (AV.out _ _ (A3.out n rfl hb))
        have hn0 : (n == 0) = false := by rw [beq_eq_false_iff_ne]; omega
        go_enter Tryd.func40, Tryd.ntmps40
        go_wp2_with (first
          | (go_at_call 54; go_must (refine (H3.out _).mono ?_; rintro e w3 ⟨rfl, rfl⟩)))
        go_returns
        exact ⟨ret_of HV.out.symm, rfl⟩
      have hb' : n ≤ 9007199254740992 := by omega
      have HV := Lib.hid (AV.out _ _ (A4.out n rfl rfl hb))
      clear hb
      go_enter Tryd.func40, Tryd.ntmps40
      go_wp2_with (first
        | (go_at_call 54; go_must (refine (H3.out _).mono ?_; rintro e w3 ⟨rfl, rfl⟩)))
      go_returns
      exact ⟨by rw [HV.out]; first | rfl | exact ret_of (by congr 4; omega) | (congr 4; omega), rfl⟩

set_option maxHeartbeats 2000000 in
theorem rnumber_neg (s X : ByteArray) (w : World) (hs : s.size ≤ 140737488351232) (hX : X.size ≤ s.size) (hg : (0 : Int) < s.size) (hg0 : 0 < s.size) (hg1 : ((s[0].toNat : Int) == 45) = true) (hXs : s.extract 1 s.size = X) (hbd : body s.data.toList = X.data.toList) (hng : neg s.data.toList = true) :
    Calls Tryd.prog 40 #[.string s] w fun e w' => e = .returned (nuV s.data.toList) ∧ w = w' := by
  have hs' : (s.size : Int) ≤ 140737488351232 := by omega
  have A1 := Lib.hid (@num_none s.data.toList); have A2 := Lib.hid (fun n => @num_zero s.data.toList n); have A3 := Lib.hid (fun n => @num_big s.data.toList n); have A4 := Lib.hid (fun n => @num_pos s.data.toList n); have A5 := Lib.hid (fun n => @num_neg s.data.toList n)
  have AV := Lib.hid (fun v e => @nuV_of s.data.toList v e)
  have hr : ∀ n, numO s.data.toList = some n → 0 ≤ n ∧ n ≤ 9007199254740993 := fun n h => mg_range (by split <;> omega) h
  rcases num_ways hbd with ⟨hl, hO⟩ | ⟨hl, hp, hO⟩ | ⟨hl, hp, hO⟩
  · have C3 := fun w => rplain_any X 10 w (by omega) (Or.inl rfl)
    unfold mgV at C3
    rw [← hO] at C3
    have g1 : (X.size : Int) ≤ 2 := by omega
    generalize numO s.data.toList = O at *
    generalize nuV s.data.toList = V at *
    generalize numV s.data.toList = Vn at *
    generalize numE s.data.toList = Ve at *
    generalize neg s.data.toList = bn at *
    subst hng
    clear hO hl hbd
    cases O with
    | none =>
      have H3 := Lib.hid C3
      have HV := Lib.hid (AV.out _ _ (A1.out rfl))
      clear C3 hr
      go_enter Tryd.func40, Tryd.ntmps40
      go_wp2_with (first
        | (go_at_call 54; go_must (refine (H3.out _).mono ?_; rintro e w3 ⟨rfl, rfl⟩)))
      go_returns
      exact ⟨ret_of HV.out.symm, rfl⟩
    | some n =>
      have H3 := Lib.hid C3
      obtain ⟨n0, n1⟩ := hr n rfl
      clear C3 hr
      by_cases hb : 9007199254740992 < n
      · have HV := Lib.hid (AV.out _ _ (A3.out n rfl hb))
        have hn0 : (n == 0) = false := by rw [beq_eq_false_iff_ne]; omega
        go_enter Tryd.func40, Tryd.ntmps40
        go_wp2_with (first
          | (go_at_call 54; go_must (refine (H3.out _).mono ?_; rintro e w3 ⟨rfl, rfl⟩)))
        go_returns
        exact ⟨ret_of HV.out.symm, rfl⟩
      have hb' : n ≤ 9007199254740992 := by omega
      by_cases h0 : n = 0
      · have HV := Lib.hid (AV.out _ _ (A2.out n rfl rfl h0))
        clear hb
        subst h0
        go_enter Tryd.func40, Tryd.ntmps40
        go_wp2_with (first
          | (go_at_call 54; go_must (refine (H3.out _).mono ?_; rintro e w3 ⟨rfl, rfl⟩)))
        go_returns
        exact ⟨ret_of HV.out.symm, rfl⟩
      · have HV := Lib.hid (AV.out _ _ (A5.out n rfl rfl h0 hb))
        have hn0 : (n == 0) = false := by rw [beq_eq_false_iff_ne]; omega
        clear hb h0
        go_enter Tryd.func40, Tryd.ntmps40
        go_wp2_with (first
          | (go_at_call 54; go_must (refine (H3.out _).mono ?_; rintro e w3 ⟨rfl, rfl⟩)))
        go_returns
        exact ⟨by rw [HV.out]; first | rfl | exact ret_of (by congr 4; omega) | (congr 4; omega), rfl⟩
  · have C3 := fun w => rplain_any X 10 w (by omega) (Or.inl rfl)
    unfold mgV at C3
    rw [← hO] at C3
    have g1 : (2 : Int) < X.size := by omega
    generalize numO s.data.toList = O at *
    generalize nuV s.data.toList = V at *
    generalize numV s.data.toList = Vn at *
    generalize numE s.data.toList = Ve at *
    generalize neg s.data.toList = bn at *
    subst hng
    clear hO hl hbd
    cases O with
    | none =>
      have H3 := Lib.hid C3
      have HV := Lib.hid (AV.out _ _ (A1.out rfl))
      clear C3 hr
      go_enter Tryd.func40, Tryd.ntmps40
      go_wp2_with (first
        | (go_at_call 54; go_must (refine (H3.out _).mono ?_; rintro e w3 ⟨rfl, rfl⟩)))
      go_returns
      exact ⟨ret_of HV.out.symm, rfl⟩
    | some n =>
      have H3 := Lib.hid C3
      obtain ⟨n0, n1⟩ := hr n rfl
      clear C3 hr
      by_cases hb : 9007199254740992 < n
      · have HV := Lib.hid (AV.out _ _ (A3.out n rfl hb))
        have hn0 : (n == 0) = false := by rw [beq_eq_false_iff_ne]; omega
        go_enter Tryd.func40, Tryd.ntmps40
        go_wp2_with (first
          | (go_at_call 54; go_must (refine (H3.out _).mono ?_; rintro e w3 ⟨rfl, rfl⟩)))
        go_returns
        exact ⟨ret_of HV.out.symm, rfl⟩
      have hb' : n ≤ 9007199254740992 := by omega
      by_cases h0 : n = 0
      · have HV := Lib.hid (AV.out _ _ (A2.out n rfl rfl h0))
        clear hb
        subst h0
        go_enter Tryd.func40, Tryd.ntmps40
        go_wp2_with (first
          | (go_at_call 54; go_must (refine (H3.out _).mono ?_; rintro e w3 ⟨rfl, rfl⟩)))
        go_returns
        exact ⟨ret_of HV.out.symm, rfl⟩
      · have HV := Lib.hid (AV.out _ _ (A5.out n rfl rfl h0 hb))
        have hn0 : (n == 0) = false := by rw [beq_eq_false_iff_ne]; omega
        clear hb h0
        go_enter Tryd.func40, Tryd.ntmps40
        go_wp2_with (first
          | (go_at_call 54; go_must (refine (H3.out _).mono ?_; rintro e w3 ⟨rfl, rfl⟩)))
        go_returns
        exact ⟨by rw [HV.out]; first | rfl | exact ret_of (by congr 4; omega) | (congr 4; omega), rfl⟩
  · have C3 := fun w => rplain_any (X.extract 2 X.size) 16 w (by have := ext_size X 2 X.size; omega) (Or.inr rfl)
    unfold mgV at C3
    rw [ext_end, ← hO] at C3
    have g1 : (2 : Int) < X.size := by omega
    generalize hY : X.extract 2 X.size = Y at *
    generalize numO s.data.toList = O at *
    generalize nuV s.data.toList = V at *
    generalize numV s.data.toList = Vn at *
    generalize numE s.data.toList = Ve at *
    generalize neg s.data.toList = bn at *
    subst hng
    clear hO hl hbd
    cases O with
    | none =>
      have H3 := Lib.hid C3
      have HV := Lib.hid (AV.out _ _ (A1.out rfl))
      clear C3 hr
      go_enter Tryd.func40, Tryd.ntmps40
      go_wp2_with (first
        | (go_at_call 54; go_must (refine (H3.out _).mono ?_; rintro e w3 ⟨rfl, rfl⟩)))
      go_returns
      exact ⟨ret_of HV.out.symm, rfl⟩
    | some n =>
      have H3 := Lib.hid C3
      obtain ⟨n0, n1⟩ := hr n rfl
      clear C3 hr
      by_cases hb : 9007199254740992 < n
      · have HV := Lib.hid (AV.out _ _ (A3.out n rfl hb))
        have hn0 : (n == 0) = false := by rw [beq_eq_false_iff_ne]; omega
        go_enter Tryd.func40, Tryd.ntmps40
        go_wp2_with (first
          | (go_at_call 54; go_must (refine (H3.out _).mono ?_; rintro e w3 ⟨rfl, rfl⟩)))
        go_returns
        exact ⟨ret_of HV.out.symm, rfl⟩
      have hb' : n ≤ 9007199254740992 := by omega
      by_cases h0 : n = 0
      · have HV := Lib.hid (AV.out _ _ (A2.out n rfl rfl h0))
        clear hb
        subst h0
        go_enter Tryd.func40, Tryd.ntmps40
        go_wp2_with (first
          | (go_at_call 54; go_must (refine (H3.out _).mono ?_; rintro e w3 ⟨rfl, rfl⟩)))
        go_returns
        exact ⟨ret_of HV.out.symm, rfl⟩
      · have HV := Lib.hid (AV.out _ _ (A5.out n rfl rfl h0 hb))
        have hn0 : (n == 0) = false := by rw [beq_eq_false_iff_ne]; omega
        clear hb h0
        go_enter Tryd.func40, Tryd.ntmps40
        go_wp2_with (first
          | (go_at_call 54; go_must (refine (H3.out _).mono ?_; rintro e w3 ⟨rfl, rfl⟩)))
        go_returns
        exact ⟨by rw [HV.out]; first | rfl | exact ret_of (by congr 4; omega) | (congr 4; omega), rfl⟩

theorem rnumber_any (s : ByteArray) (w : World) (hs : s.size ≤ 140737488351232) :
    Calls Tryd.prog 40 #[.string s] w fun e w' => e = .returned (nuV s.data.toList) ∧ w = w' := by
  by_cases h0 : s.size = 0
  · exact rnumber_pos0 s w hs (by omega) (by rw [empty_toList h0]; rfl) (by rw [empty_toList h0]; rfl)
  · have hp : 0 < s.size := by omega
    by_cases h45 : s[0].toNat = 45
    · have hc : s[0] = 45 := UInt8.toNat_inj.1 h45
      refine rnumber_neg s (s.extract 1 s.size) w hs (ext_size _ _ _) (by omega) hp (by rw [h45]; rfl) rfl ?_ ?_
      · rw [ext_end]
        conv => lhs; rw [cons_of hp, hc]
        rfl
      · rw [cons_of hp, hc]; rfl
    · have hc : ((45 : UInt8) == s[0]) = false := by rw [beq_eq_false_iff_ne]; intro e; exact h45 (by rw [← e]; rfl)
      have hn : neg s.data.toList = false := by
        rw [cons_of hp]; unfold neg Lib.hasPrefix; simp only [List.isPrefixOf, hc, Bool.false_and]
      refine rnumber_pos s w hs (by omega) hp (by rw [beq_eq_false_iff_ne]; omega) ?_ hn
      unfold body Lib.trimPrefix
      unfold neg at hn
      rw [hn]; rfl

end Go.Proofs.YtpeiiomimfiebaaDoor
