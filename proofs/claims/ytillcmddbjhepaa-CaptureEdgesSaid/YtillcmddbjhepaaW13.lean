/-
  Lists of waves; isLevel, Valid, checkWaves.
-/
import Derived.Test.YtillcmddbjhepaaW10
import Derived.Test.YtillcmddbjhepaaM4
namespace Go.Proofs.Ytillcmddbjhepaa
open Go Go.RowKit Go.Joins
set_option linter.unusedVariables false
set_option linter.unusedSimpArgs false

abbrev Sl := Option Addr × Nat × Nat
def slC (s : Sl) : Array Value := #[.slice s.1 s.2.1 s.2.2]
theorem slC_size (s : Sl) : (slC s).size = 1 := rfl
theorem slC_one (s : Sl) : (slC s).toList.all (·.oneCell') = true := rfl
def slV (s : Sl) : Value := .slice s.1 s.2.1 s.2.2
/-- A slice of waves that came in. -/
def WvArg (w : World) (v : Value) (ws : List (List Rn)) : Prop := ∃ S : List Sl, KArg slC 1 w v S ∧ S.length = ws.length ∧ ∀ i (h : i < ws.length) (h' : i < S.length), RnArg w (slV S[i]) ws[i]
theorem WvArg.keep {w w' : World} {v : Value} {ws : List (List Rn)} (h : WvArg w v ws) (hb : Below w.heap.size w w') : WvArg w' v ws := by
  obtain ⟨S, h1, h2, h3⟩ := h
  exact ⟨S, h1.keep hb, h2, fun i h h' => (h3 i h h').keep hb⟩
theorem WvArg.form {w : World} {v : Value} {ws : List (List Rn)} (h : WvArg w v ws) : ∃ A c, v = .slice A ws.length c ∧
    (0 < ws.length → ∃ g o, A = some ⟨g, o, none⟩ ∧ g < w.heap.size ∧ ∀ i (h : i < ws.length), ∃ B d, w.cell? ⟨g, o + i, none⟩ = some (.slice B ws[i].length d) ∧ RnArg w (.slice B ws[i].length d) ws[i]) := by
  obtain ⟨S, ⟨A, c, rfl, hA⟩, h2, h3⟩ := h
  refine ⟨A, c, by rw [h2], fun h0 => ?_⟩
  obtain ⟨g, o, e, hg, hc⟩ := hA (by omega)
  refine ⟨g, o, e, hg, fun i hi => ?_⟩
  have h4 := h3 i hi (by omega)
  have h5 := hc i (by omega) 0 (by omega)
  rw [Nat.mul_one] at h5
  obtain ⟨B, d, e4, h6⟩ := h4
  have e5 : slV S[i] = .slice B ws[i].length d := e4
  refine ⟨B, d, ?_, ⟨B, d, rfl, h6⟩⟩
  rw [← e5]
  exact h5

set_option maxHeartbeats 1000000 in
theorem isLevel_any (n : Int) (w : World) : Calls Try.prog 29 #[.int .i64 n] w fun e w' => e = .returned (.bool (decide (0 ≤ n ∧ n ≤ 1))) ∧ w = w' := by
  by_cases h0 : n = 0
  · subst h0
    go_enter Try.func29, Try.ntmps29
    go_wp2
    go_returns
    exact ⟨rfl, rfl⟩
  by_cases h1 : n = 1
  · subst h1
    go_enter Try.func29, Try.ntmps29
    go_wp2
    go_returns
    exact ⟨rfl, rfl⟩
  have e0 : (n == 0) = false := by simpa using h0
  have e1 : (n == 1) = false := by simpa using h1
  have H := Lib.hid (show decide (0 ≤ n ∧ n ≤ 1) = false from decide_eq_false (by omega))
  clear h0 h1
  go_enter Try.func29, Try.ntmps29
  go_wp2
  go_returns
  exact ⟨ret_bool H.out.symm, rfl⟩

set_option maxRecDepth 20000 in
set_option maxHeartbeats 4000000 in
theorem valid_any (l : List Rn) (V : Value) (w : World) (hT : RnArg w V l) : Calls Try.prog 21 #[V] w fun e w' => e = .returned (.bool (vl l)) ∧ Below w.heap.size w w' := by
  obtain ⟨A, c, rfl, hA⟩ := hT
  have HA := Lib.hid hA
  clear hA
  by_cases hn : 262144 < l.length
  · have hn' : (262144 : Int) < l.length := by omega
    have HV := Lib.hid (vl_big hn)
    clear hn HA
    go_enter Try.func21, Try.ntmps21
    go_wp2
    go_returns
    exact ⟨ret_bool HV.out.symm, Below.refl _ _⟩
  have hn' : (l.length : Int) ≤ 262144 := by omega
  rw [vl_of (by omega)]
  have CL := Lib.hid isLevel_any
  go_enter Try.func21, Try.ntmps21
  go_wp2
  go_loopw [11, 3] (fun i s wr => ∃ j : Nat, j ≤ l.length ∧ i = .int .i64 j ∧ s = .int .i64 (lg (l.take j)) ∧ Hid (vr 1 0 (l.take j) = true) ∧ Hid (Below w.heap.size w wr)) (fun i _ _ => l.length - (intOf i).toNat)
  case atStart => exact ⟨0, Nat.zero_le _, rfl, rfl, Lib.hid rfl, Lib.hid (Below.refl _ _)⟩
  case round =>
    obtain ⟨j, hj, rfl, rfl, HR, HB⟩ := hrel
    have hb := HB.out
    by_cases hjl : j < l.length
    · obtain ⟨g, o, rfl, hg, hc⟩ := HA.out (by omega)
      obtain ⟨a0, a1⟩ := arg_two hc j hjl
      have f0 := (hb.cell (p := ⟨g, o + j * 2, none⟩) hg).trans a0
      have f1 := (hb.cell (p := ⟨g, o + j * 2 + 1, none⟩) hg).trans a1
      have hr := vr_range HR.out
      have hst' : Hid (vr 1 0 (l.take (j + 1)) = okR 1 (lg (l.take j)) (l[j].1, l[j].2)) := Lib.hid (vr_step hjl HR.out)
      have hbd' : Hid (okR 1 (lg (l.take j)) (l[j].1, l[j].2) = false → vr 1 0 l = false) := Lib.hid (fun h => vr_bad (l := l) hjl h)
      have htk := Lib.hid (lg_take l j hjl)
      clear a0 a1 hc HR
      have HB2 := Lib.hid (show Below w.heap.size w (wr.alloc (.cells #[.int .i64 l[j].1, .int .i64 l[j].2] 41)) from hb.alloc hb.size _)
      generalize l[j].1 = x0 at *
      generalize l[j].2 = x1 at *
      generalize lg (l.take j) = S at *
      by_cases c0 : 0 ≤ x0 ∧ x0 ≤ 1
      · have d0 : decide (0 ≤ x0 ∧ x0 ≤ 1) = true := decide_eq_true c0
        have CL2 := Lib.hid (fun w => by have := CL.out x0 w; rw [d0] at this; exact this)
        clear CL d0
        by_cases c1 : x1 < 1
        · have HV := Lib.hid (hbd'.out (by unfold okR; rw [decide_eq_false (show ¬ (1 : Int) ≤ x1 by omega)]; simp))
          go_wp2_with (first
            | (go_at_call 29; go_must (refine (CL2.out _).mono ?_; rintro e1 w1 ⟨rfl, rfl⟩)))
          go_returns
          exact ⟨ret_bool HV.out.symm, HB2.out⟩
        by_cases c2 : 1099511627776 - S < x1
        · have HV := Lib.hid (hbd'.out (by unfold okR; rw [decide_eq_false (show ¬ x1 ≤ 1099511627776 - S by omega)]; simp))
          go_wp2_with (first
            | (go_at_call 29; go_must (refine (CL2.out _).mono ?_; rintro e1 w1 ⟨rfl, rfl⟩)))
          go_returns
          exact ⟨ret_bool HV.out.symm, HB2.out⟩
        have HS := Lib.hid (show vr 1 0 (l.take (j + 1)) = true by rw [hst'.out]; unfold okR; rw [decide_eq_true c0, decide_eq_true (show (1 : Int) ≤ x1 by omega), decide_eq_true (show x1 ≤ 1099511627776 - S by omega)]; rfl)
        clear c0
        go_wp2_with (first
          | (go_at_call 29; go_must (refine (CL2.out _).mono ?_; rintro e1 w1 ⟨rfl, rfl⟩)))
        go_roundw
        case rel => exact ⟨j + 1, by omega, val_int (by omega), val_int (by rw [htk.out]), HS, HB2⟩
        case measure => simp [intOf]; omega
      · have d0 : decide (0 ≤ x0 ∧ x0 ≤ 1) = false := decide_eq_false c0
        have CL2 := Lib.hid (fun w => by have := CL.out x0 w; rw [d0] at this; exact this)
        have HV := Lib.hid (hbd'.out (by unfold okR; rw [d0]; rfl))
        clear CL d0 c0
        go_wp2_with (first
          | (go_at_call 29; go_must (refine (CL2.out _).mono ?_; rintro e1 w1 ⟨rfl, rfl⟩)))
        go_returns
        exact ⟨ret_bool HV.out.symm, HB2.out⟩
    · have he : l.take j = l := List.take_of_length_le (by omega)
      have HV := Lib.hid (show vr 1 0 l = true by rw [← he]; exact HR.out)
      clear he
      go_wp2
      go_returns
      exact ⟨ret_bool HV.out.symm, hb⟩

/-- What is wrong with a list of waves. -/
def sameLg (ws : List (List Rn)) : Bool := ws.all fun w => decide (lg w = lg (ws.getD 0 []))
def ckW (ws : List (List Rn)) (n : Nat) : Int := if ws.length ≠ n then 1 else if ws.all vl = false then 1 else if sameLg ws = false then 17 else 0
theorem ckW_n {ws : List (List Rn)} {n : Nat} (h : ¬ ws.length = n) : ckW ws n = 1 := by unfold ckW; rw [if_pos h]
theorem ckW_1 {ws : List (List Rn)} {n : Nat} (h : ws.length = n) (h1 : ws.all vl = false) : ckW ws n = 1 := by unfold ckW; rw [if_neg (fun x => x h), if_pos h1]
theorem ckW_17 {ws : List (List Rn)} {n : Nat} (h : ws.length = n) (h1 : ws.all vl = true) (h2 : sameLg ws = false) : ckW ws n = 17 := by unfold ckW; rw [if_neg (fun x => x h), if_neg (by rw [h1]; decide), if_pos h2]
theorem ckW_0 {ws : List (List Rn)} {n : Nat} (h : ws.length = n) (h1 : ws.all vl = true) (h2 : sameLg ws = true) : ckW ws n = 0 := by unfold ckW; rw [if_neg (fun x => x h), if_neg (by rw [h1]; decide), if_neg (by rw [h2]; decide)]
theorem ckW_ok {ws : List (List Rn)} {n : Nat} (h : ckW ws n = 0) : ws.length = n ∧ ws.all vl = true ∧ sameLg ws = true := by
  unfold ckW at h
  split at h
  · omega
  · rename_i a
    split at h
    · omega
    · rename_i b
      split at h
      · omega
      · rename_i c
        exact ⟨by simpa using a, by simpa using b, by simpa using c⟩
theorem ckW_range (ws : List (List Rn)) (n : Nat) : 0 ≤ ckW ws n ∧ ckW ws n ≤ 17 := by unfold ckW; (repeat' split) <;> omega
theorem vls_at {ws : List (List Rn)} (h : ws.all vl = true) (i : Nat) (hi : i < ws.length) : ws[i].length ≤ 262144 ∧ vr 1 0 ws[i] = true := by
  have h1 := List.all_eq_true.1 h _ (List.getElem_mem hi)
  unfold vl at h1
  rw [Bool.and_eq_true, decide_eq_true_eq] at h1
  exact h1
theorem vls_no {ws : List (List Rn)} {j : Nat} (hj : j < ws.length) (h : vl ws[j] = false) : ws.all vl = false := by
  rw [List.all_eq_false]
  exact ⟨ws[j], List.getElem_mem hj, by rw [h]; decide⟩
theorem vls_take {ws : List (List Rn)} {j : Nat} (hj : j < ws.length) (h : (ws.take j).all vl = true) (h1 : vl ws[j] = true) : (ws.take (j + 1)).all vl = true := by
  rw [List.take_succ_eq_append_getElem hj, List.all_append, h]
  simp [h1]
def slT (ws : List (List Rn)) (T : Int) : Bool := ws.all fun w => decide (lg w = T)
theorem slT_take {ws : List (List Rn)} {T : Int} {j : Nat} (hj : j < ws.length) (h : slT (ws.take j) T = true) (h1 : lg ws[j] = T) : slT (ws.take (j + 1)) T = true := by
  unfold slT at *
  rw [List.take_succ_eq_append_getElem hj, List.all_append, h]
  simp [h1]
theorem slT_no {ws : List (List Rn)} {T : Int} {j : Nat} (hj : j < ws.length) (h : ¬ lg ws[j] = T) : slT ws T = false := by
  unfold slT
  rw [List.all_eq_false]
  exact ⟨ws[j], List.getElem_mem hj, by simpa using h⟩
theorem sameLg_eq {ws : List (List Rn)} (h : 0 < ws.length) : sameLg ws = slT ws (lg ws[0]) := by
  unfold sameLg slT
  simp [h]
theorem sameLg_at {ws : List (List Rn)} (h : sameLg ws = true) (i : Nat) (hi : i < ws.length) : lg ws[i] = lg (ws[0]'(by omega)) := by
  rw [sameLg_eq (by omega)] at h
  simpa using List.all_eq_true.1 h _ (List.getElem_mem hi)

theorem heldW {w W W' : World} {g o : Nat} {x : Value} (h : W.cell? ⟨g, o, none⟩ = some x ∧ Below w.heap.size w W ∧ g < W.heap.size) (hb : Below W.heap.size W W') : W'.cell? ⟨g, o, none⟩ = some x ∧ Below w.heap.size w W' ∧ g < W'.heap.size := by
  obtain ⟨h0, h1, h2⟩ := h
  have := hb.size
  exact ⟨(hb.cell (p := ⟨g, o, none⟩) h2).trans h0, h1.trans (hb.mono h1.size), by omega⟩

set_option maxRecDepth 20000 in
set_option maxHeartbeats 4000000 in
theorem checkWaves_any (ws : List (List Rn)) (V : Value) (n : Nat) (w : World) (hT : WvArg w V ws) (hn0 : 0 < n) (hn : n ≤ 16) : Calls Try.prog 15 #[V, .int .i64 n] w fun e w' => e = .returned (.int .i64 (ckW ws n)) ∧ Below w.heap.size w w' := by
  obtain ⟨A, c, rfl, hA⟩ := hT.form
  have HA := Lib.hid hA
  clear hA hT
  by_cases hl : ws.length = n
  · have H1 := Lib.hid (fun a => ckW_1 hl a); have H17 := Lib.hid (fun a b => ckW_17 hl a b); have H0 := Lib.hid (fun a b => ckW_0 hl a b)
    subst hl
    have hn' : (ws.length : Int) ≤ 16 := by omega
    generalize ckW ws ws.length = r at *
    go_enter Try.func15, Try.ntmps15
    go_wp2
    go_loopw [15] (fun i wr => ∃ j : Nat, j ≤ ws.length ∧ i = .int .i64 j ∧ Hid ((ws.take j).all vl = true) ∧ Hid (Below w.heap.size w wr)) (fun i _ => ws.length - (intOf i).toNat)
    case atStart => exact ⟨0, Nat.zero_le _, rfl, Lib.hid rfl, Lib.hid (Below.refl _ _)⟩
    case round =>
      obtain ⟨j, hj, rfl, HR, HB⟩ := hrel
      have hb := HB.out
      by_cases hjl : j < ws.length
      · obtain ⟨g, o, rfl, hg, hcell⟩ := HA.out (by omega)
        obtain ⟨B, d, hc1, hc2⟩ := hcell j hjl
        have f0 := (hb.cell (p := ⟨g, o + j, none⟩) hg).trans hc1
        have C1 := valid_any ws[j] _ wr (hc2.keep hb)
        clear hcell hc1 hc2
        cases hh : vl ws[j] with
        | true =>
          have HR2 := Lib.hid (vls_take hjl HR.out hh)
          rw [hh] at C1
          have C2 := Lib.hid C1
          clear C1 hh HR
          go_wp2_with (first
            | (go_at_call 21; go_must (refine C2.out.mono ?_; rintro e1 w1 ⟨rfl, b1⟩)))
          go_roundw
          case rel => exact ⟨j + 1, by omega, val_int (by omega), HR2, Lib.hid (hb.trans (b1.mono hb.size))⟩
          case measure => simp [intOf]; omega
        | false =>
          have HV := Lib.hid (H1.out (vls_no hjl hh))
          rw [hh] at C1
          have C2 := Lib.hid C1
          clear C1 hh HR
          go_wp2_with (first
            | (go_at_call 21; go_must (refine C2.out.mono ?_; rintro e1 w1 ⟨rfl, b1⟩)))
          go_returns
          exact ⟨ret_int HV.out.symm, hb.trans (b1.mono hb.size)⟩
      · have hall : ws.all vl = true := by rw [← List.take_of_length_le (show ws.length ≤ j by omega)]; exact HR.out
        have HAll := Lib.hid hall
        obtain ⟨g, o, rfl, hg, hcell⟩ := HA.out (by omega)
        obtain ⟨B0, d0, hz1, hz2⟩ := hcell 0 (by omega)
        have HZ := Lib.hid (fun w' (hb : Below w.heap.size w w') => (hb.cell (p := ⟨g, o + 0, none⟩) hg).trans hz1)
        have hv0 := vls_at hall 0 (by omega)
        have C0 := Lib.hid (fun w' (hb : Below w.heap.size w w') => long_any 1 ws[0] _ w' (hz2.keep hb) (by omega) hv0.2)
        have HSm := Lib.hid (sameLg_eq (ws := ws) (by omega))
        have HCell := Lib.hid hcell
        obtain ⟨T, hT⟩ : ∃ T, lg ws[0] = T := ⟨_, rfl⟩
        rw [hT] at C0 HSm
        clear HR hall hv0 hz1 hz2 hcell hT
        go_wp2
        go_loopw [25] (fun i wr => ∃ j : Nat, j ≤ ws.length ∧ i = .int .i64 j ∧ Hid (slT (ws.take j) T = true) ∧ Hid (Below w.heap.size w wr)) (fun i _ => ws.length - (intOf i).toNat)
        case atStart => exact ⟨0, Nat.zero_le _, rfl, Lib.hid rfl, HB⟩
        case round =>
          obtain ⟨k, hk, rfl, HD, HB⟩ := hrel
          have hb := HB.out
          by_cases hkl : k < ws.length
          · obtain ⟨B, d, hc1, hc2⟩ := HCell.out k hkl
            have f0 := (hb.cell (p := ⟨g, o + k, none⟩) hg).trans hc1
            have hz := HZ.out wr hb
            have hvk := vls_at HAll.out k hkl
            have CK := Lib.hid (fun w' (hb : Below w.heap.size w w') => long_any 1 ws[k] _ w' (hc2.keep hb) (by omega) hvk.2)
            have S0 : wr.drew.cell? ⟨g, o + 0, none⟩ = some (.slice B0 ws[0].length d0) ∧ Below w.heap.size w wr.drew ∧ g < wr.drew.heap.size := ⟨hz, hb.drew, Nat.lt_of_lt_of_le hg hb.size⟩
            rw [Nat.add_zero] at S0
            have HS0 := Lib.hid S0
            have h0l : (0 : Int) < ws.length := by omega
            have C0' := Lib.hid (fun w' (h : w'.cell? ⟨g, o, none⟩ = some (.slice B0 ws[0].length d0) ∧ Below w.heap.size w w' ∧ g < w'.heap.size) => C0.out w' h.2.1)
            have CK' := Lib.hid (fun w' (h : w'.cell? ⟨g, o, none⟩ = some (.slice B0 ws[0].length d0) ∧ Below w.heap.size w w' ∧ g < w'.heap.size) => CK.out w' h.2.1)
            clear hc1 hc2 hz hvk CK HCell HZ C0
            generalize ws[k].length = nk at *
            generalize ws[0].length = n0 at *
            by_cases he : lg ws[k] = T
            · have HD2 := Lib.hid (slT_take hkl HD.out he)
              rw [he] at CK'
              clear he HD
              go_wp2
              clear f0
              go_region_held3 (fun w' => w'.cell? ⟨g, o, none⟩ = some (.slice B0 n0 d0) ∧ Below w.heap.size w w' ∧ g < w'.heap.size) (first | assumption | go_keep)
                (first
                  | (go_at_call_of 13 (Value.slice B0 n0 d0); refine (C0'.out _ (by first | assumption | exact HS0.out)).mono ?_; rintro e5 w5 ⟨rfl, b5⟩; have h5 := heldW (by first | assumption | exact HS0.out) b5)
                  | (go_at_call_of 13 (Value.slice B nk d); refine (CK'.out _ (by first | assumption | exact HS0.out)).mono ?_; rintro e6 w6 ⟨rfl, b6⟩; have h6 := heldW (by first | assumption | exact HS0.out) b6)
                  | fail)
              all_goals (rename_i hh; have Bz := Lib.hid hh.2.1; clear hh)
              all_goals go_wp2
              all_goals go_roundw
              all_goals first
                | exact ⟨k + 1, by omega, val_int (by omega), HD2, Bz⟩
                | (simp [intOf]; omega)
            · have HV := Lib.hid (H17.out HAll.out (by rw [HSm.out]; exact slT_no hkl he))
              have hne : (lg ws[k] == T) = false := by simpa using he
              clear he HD
              generalize lg ws[k] = T2 at *
              go_wp2
              clear f0
              go_region_held3 (fun w' => w'.cell? ⟨g, o, none⟩ = some (.slice B0 n0 d0) ∧ Below w.heap.size w w' ∧ g < w'.heap.size) (first | assumption | go_keep)
                (first
                  | (go_at_call_of 13 (Value.slice B0 n0 d0); refine (C0'.out _ (by first | assumption | exact HS0.out)).mono ?_; rintro e5 w5 ⟨rfl, b5⟩; have h5 := heldW (by first | assumption | exact HS0.out) b5)
                  | (go_at_call_of 13 (Value.slice B nk d); refine (CK'.out _ (by first | assumption | exact HS0.out)).mono ?_; rintro e6 w6 ⟨rfl, b6⟩; have h6 := heldW (by first | assumption | exact HS0.out) b6)
                  | fail)
              all_goals (rename_i hh; have Bz := Lib.hid hh.2.1; clear hh)
              all_goals go_wp2
              all_goals go_returns
              all_goals exact ⟨ret_int HV.out.symm, Bz.out⟩
          · have HV := Lib.hid (H0.out HAll.out (by rw [HSm.out, ← List.take_of_length_le (show ws.length ≤ k by omega)]; exact HD.out))
            go_wp2
            go_returns
            exact ⟨ret_int HV.out.symm, hb⟩
  · have HV := Lib.hid (ckW_n hl)
    have hl' : ((ws.length : Int) == (n : Int)) = false := by simpa using fun e => hl (by omega)
    clear hl HA
    go_enter Try.func15, Try.ntmps15
    go_wp2
    go_returns
    exact ⟨ret_int HV.out.symm, Below.refl _ _⟩

end Go.Proofs.Ytillcmddbjhepaa
