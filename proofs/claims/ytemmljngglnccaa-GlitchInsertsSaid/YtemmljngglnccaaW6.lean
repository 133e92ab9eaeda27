/-
  The walks of FromEdges and Join (the program's).
-/
import Derived.Test.YtemmljngglnccaaW5
import Derived.Test.YtemmljngglnccaaW3
namespace Go.Proofs.Ytemmljngglnccaa
open Go Go.RowKit Go.Joins
set_option linter.unusedVariables false
set_option linter.unusedSimpArgs false

/-- Runs and an error. -/
def prE (v : Value) (e : Int) : Value := .tuple #[v, .int .i64 e]
/-- What Join and FromEdges end in. -/
def RnRes (p : List Rn × Int) (w : World) (e : Ending) (w' : World) : Prop := ∃ v : Value, e = .returned (prE v p.2) ∧ RnRow w' w.heap.size v p.1 ∧ Below w.heap.size w w'
theorem RnRes.no {p : List Rn × Int} {c : Int} {w w' : World} (h : p = ([], c)) (hb : Below w.heap.size w w') : RnRes p w (.returned (.tuple #[.slice none 0 0, .int .i64 c])) w' := by
  subst h; exact ⟨_, rfl, KRow.nil _ _, hb⟩
theorem RnRes.yes {p : List Rn × Int} {l : List Rn} {v : Value} {w w' : World} (h : p = (l, 0)) (hr : RnRow w' w.heap.size v l) (hb : Below w.heap.size w w') : RnRes p w (.returned (.tuple #[v, .int .i64 0])) w' := by
  subst h; exact ⟨_, rfl, hr, hb⟩

set_option maxRecDepth 100000 in
set_option maxHeartbeats 8000000 in
theorem from_any (v : Int) (q : List Int) (V : Value) (n : Int) (w : World) (hT : InArg w V q) : Calls Try.prog 38 #[.int .i64 v, V, .int .i64 n] w (RnRes (feR v q n) w) := by
  obtain ⟨A, c, rfl, hA⟩ := hT
  have HA := Lib.hid hA
  clear hA
  by_cases hv : ¬ (v = 0 ∨ v = 1)
  · have HL := Lib.hid (feR_1 (n := n) (q := q) hv)
    have CL := Lib.hid (fun w => by have := isLevel_any v w; rw [decide_eq_false hv] at this; exact this)
    clear hv HA
    go_enter Try.func38, Try.ntmps38
    go_wp2_with (first
      | (go_at_call 42; go_must (refine (CL.out _).mono ?_; rintro e1 w1 ⟨rfl, rfl⟩)))
    go_returns
    exact RnRes.no HL.out (Below.refl _ _)
  replace hv := Decidable.not_not.1 hv
  have CL := Lib.hid (fun w => by have := isLevel_any v w; rw [decide_eq_true hv] at this; exact this)
  have HVV := Lib.hid hv
  have hv0 : 0 ≤ v := by omega
  have hv1 : v ≤ 1 := by omega
  by_cases hn : n < 0
  · have HL := Lib.hid (feR_2 (q := q) hv (.inl hn))
    clear hv HA
    go_enter Try.func38, Try.ntmps38
    go_wp2_with (first
      | (go_at_call 42; go_must (refine (CL.out _).mono ?_; rintro e1 w1 ⟨rfl, rfl⟩)))
    go_returns
    exact RnRes.no HL.out (Below.refl _ _)
  by_cases hn2 : 1099511627776 < n
  · have HL := Lib.hid (feR_2 (q := q) hv (.inr hn2))
    clear hv HA
    go_enter Try.func38, Try.ntmps38
    go_wp2_with (first
      | (go_at_call 42; go_must (refine (CL.out _).mono ?_; rintro e1 w1 ⟨rfl, rfl⟩)))
    go_returns
    exact RnRes.no HL.out (Below.refl _ _)
  have hrg : ¬ (n < 0 ∨ 1099511627776 < n) := by omega
  by_cases hq : 262144 ≤ q.length
  · have HL := Lib.hid (feR_6 hv hrg hq)
    have hq' : (262144 : Int) ≤ q.length := by omega
    clear hv HA hrg
    go_enter Try.func38, Try.ntmps38
    go_wp2_with (first
      | (go_at_call 42; go_must (refine (CL.out _).mono ?_; rintro e1 w1 ⟨rfl, rfl⟩)))
    go_returns
    exact RnRes.no HL.out (Below.refl _ _)
  have hq' : ¬ (262144 : Int) ≤ q.length := by omega
  have H7 := Lib.hid (fun h => feR_7 hv hrg hq h)
  have H0 := Lib.hid (fun h => feR_0 hv hrg hq h)
  have CO := Lib.hid other_any
  have d1 : decide (n < 0) = false := decide_eq_false hn
  have d2 : decide (1099511627776 < n) = false := decide_eq_false hn2
  have d3 : decide ((262144 : Int) ≤ q.length) = false := decide_eq_false hq'
  clear hv hrg
  go_enter Try.func38, Try.ntmps38
  go_wp2_with (first
    | (go_at_call 42; go_must (refine (CL.out _).mono ?_; rintro e1 w1 ⟨rfl, rfl⟩)))
  go_loopw [28, 8, 9, 10] (fun i r x s wr => ∃ j : Nat, j ≤ q.length ∧ i = .int .i64 j ∧ x = .int .i64 (lv v (q.take j)) ∧ s = .int .i64 (le' 0 (q.take j)) ∧ Hid (RnRow wr w.heap.size r (fp v 0 (q.take j))) ∧ Hid (oe 0 (q.take j) n = true) ∧ Hid (Below w.heap.size w wr)) (fun i _ _ _ _ => q.length - (intOf i).toNat)
  case atStart => exact ⟨0, Nat.zero_le _, rfl, rfl, rfl, Lib.hid (KRow.nil _ _), Lib.hid rfl, Lib.hid (Below.refl _ _)⟩
  case round =>
    obtain ⟨j, hj, rfl, rfl, rfl, HR, HO, HB⟩ := hrel
    have hb := HB.out
    have hlr := le_range (q.take j) 0 n HO.out (by omega)
    have hlv := lv_one (q.take j) v HVV.out
    have hfl := fp_len (q.take j) v 0
    have hfl2 : (fp v 0 (q.take j)).length ≤ 262144 := by rw [hfl, List.length_take]; omega
    clear hfl
    by_cases hjl : j < q.length
    · obtain ⟨g, o, rfl, hg, hc⟩ := HA.out (by omega)
      have a0 := arg_int hc j hjl
      have f0 := (hb.cell (p := ⟨g, o + j, none⟩) hg).trans a0
      have hot := oe_take hjl HO.out
      have hbd := Lib.hid (fun h => H7.out (oe_bad (q := q) (j := j + 1) h))
      have hlt1 := Lib.hid (le_take (q := q) hjl 0)
      have hlt2 := Lib.hid (lv_take (q := q) hjl v)
      have hlt3 := Lib.hid (fp_take (q := q) hjl v)
      clear a0 hc
      obtain ⟨x0, hx0⟩ : ∃ x, q[j] = x := ⟨_, rfl⟩
      rw [hx0] at f0 hot hlt1 hlt3
      clear hx0
      generalize le' 0 (q.take j) = S at *
      generalize lv v (q.take j) = L at *
      generalize fp v 0 (q.take j) = E at *
      have HLV := Lib.hid hlv
      have hL0 : 0 ≤ L := by omega
      have hL1 : L ≤ 1 := by omega
      clear hlv
      by_cases c1 : x0 ≤ S
      · have d4 : decide (x0 ≤ S) = true := decide_eq_true c1
        have HL := Lib.hid (hbd.out (by rw [hot, decide_eq_false (by omega)]; rfl))
        clear hot
        go_wp2
        go_returns
        exact RnRes.no HL.out hb
      have d4 : decide (x0 ≤ S) = false := decide_eq_false c1
      by_cases c2 : n ≤ x0
      · have d5 : decide (n ≤ x0) = true := decide_eq_true c2
        have HL := Lib.hid (hbd.out (by rw [hot, decide_eq_false (show ¬ x0 < n by omega), Bool.and_false]))
        clear hot
        go_wp2
        go_returns
        exact RnRes.no HL.out hb
      have d5 : decide (n ≤ x0) = false := decide_eq_false c2
      have HO2 := Lib.hid (show oe 0 (q.take (j + 1)) n = true by rw [hot, decide_eq_true (by omega), decide_eq_true (by omega)]; rfl)
      clear hot
      obtain ⟨UA, UN, UC, rfl, hUN⟩ := HR.out.form
      clear hUN
      go_wp2_with (first
        | (at_builtin; go_must (refine wpList_append_rn rfl _ _ rfl rfl rfl rfl rfl HR.out hb.size (by omega) ?_; intro v5 w5 R5 b5))
        | (go_at_call 63; go_must (refine (CO.out _ _ HLV.out).mono ?_; rintro e6 w6 ⟨rfl, rfl⟩)))
      go_roundw
      case rel => exact ⟨j + 1, by omega, val_int (by omega), val_int hlt2.out.symm, val_int hlt1.out.symm, Lib.hid (by rw [hlt3.out]; exact R5), HO2, Lib.hid (hb.trans b5)⟩
      case measure => simp [intOf]; omega
    · have he : q.take j = q := List.take_of_length_le (by omega)
      have HL := Lib.hid (H0.out (by rw [← he]; exact HO.out))
      have HF := Lib.hid (show fe v 0 q n = fp v 0 (q.take j) ++ (if le' 0 (q.take j) < n then [(lv v (q.take j), n - le' 0 (q.take j))] else []) by rw [he]; rfl)
      clear he
      generalize le' 0 (q.take j) = S at *
      generalize lv v (q.take j) = L at *
      generalize fp v 0 (q.take j) = E at *
      by_cases c1 : S < n
      · have HG := Lib.hid (show fe v 0 q n = E ++ [(L, n - S)] by rw [HF.out, if_pos c1])
        obtain ⟨UA, UN, UC, rfl, hUN⟩ := HR.out.form
        clear hUN hlv HF
        go_wp2_with (first
          | (at_builtin; go_must (refine wpList_append_rn rfl _ _ rfl rfl rfl rfl rfl HR.out hb.size (by omega) ?_; intro v5 w5 R5 b5)))
        go_returns
        exact RnRes.yes HL.out (by rw [HG.out]; exact R5) (hb.trans b5)
      · have HG := Lib.hid (show fe v 0 q n = E by rw [HF.out, if_neg c1, List.append_nil])
        clear hlv HF
        go_wp2
        go_returns
        exact RnRes.yes HL.out (by rw [HG.out]; exact HR.out) hb

end Go.Proofs.Ytemmljngglnccaa
