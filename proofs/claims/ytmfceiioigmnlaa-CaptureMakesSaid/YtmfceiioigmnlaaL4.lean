/-
  The walk of the statement CaptureMakes.
-/
import Derived.Test.YtmfceiioigmnlaaL1
import Derived.Test.YtmfceiioigmnlaaW19
import Derived.Test.YtmfceiioigmnlaaW25
namespace Go.Proofs.Ytmfceiioigmnlaa
open Go Go.RowKit Go.Joins
set_option linter.unusedVariables false
set_option linter.unusedSimpArgs false

theorem sl2_le (ws : List (List Rn)) (h : ∀ w ∈ ws, w.length ≤ 500) : sl2 ws ≤ 500 * ws.length := by
  induction ws with
  | nil => simp [sl2]
  | cons w ws ih =>
    have h1 := h w (List.mem_cons_self ..)
    have h2 := ih (fun x hx => h x (List.mem_cons_of_mem _ hx))
    simp only [sl2, List.length_cons]
    omega
theorem small_next {ws : List (List Rn)} {j : Nat} (hj : j < ws.length) (h : ∀ w ∈ ws.take j, w.length ≤ 500) (h1 : ws[j].length ≤ 500) : ∀ w ∈ ws.take (j + 1), w.length ≤ 500 := by
  rw [List.take_succ_eq_append_getElem hj]
  intro w hw
  rcases List.mem_append.1 hw with hw | hw
  · exact h w hw
  · rw [List.mem_singleton.1 hw]; exact h1
theorem Bd_same {w w' : World} {B B' : Nat} {N : List ByteArray} {ws : List (List Rn)} {v1 v2 u1 u2 : Value} {N1 N2 : List ByteArray} {o1 o2 : List Rn} (h : Bd w B N ws v1 v2 N1 o1) (h' : Bd w' B' N ws u1 u2 N2 o2) : N2 = N1 ∧ o2 = o1 := by
  obtain ⟨_, _, a1, a2, _⟩ := h
  obtain ⟨_, _, b1, b2, _⟩ := h'
  by_cases hz : bdE N ws = 0
  · exact ⟨(b1 hz).1.trans (a1 hz).1.symm, Cb_unique (b1 hz).2 (a1 hz).2⟩
  · exact ⟨(b2 hz).1.trans (a2 hz).1.symm, (b2 hz).2.trans (a2 hz).2.symm⟩
theorem Bd_len {w : World} {B : Nat} {N : List ByteArray} {ws : List (List Rn)} {v1 v2 : Value} {N1 : List ByteArray} {o1 : List Rn} (h : Bd w B N ws v1 v2 N1 o1) (hn : N.length ≤ 1099511627776) : N1.length ≤ 1099511627776 ∧ o1.length ≤ 1099511627776 := by
  obtain ⟨_, _, a1, a2, a3⟩ := h
  refine ⟨?_, by omega⟩
  by_cases hz : bdE N ws = 0
  · rw [(a1 hz).1]; exact hn
  · rw [(a2 hz).1]; simp

set_option maxRecDepth 100000 in
set_option maxHeartbeats 16000000 in
theorem law_makes (N : List ByteArray) (ws : List (List Rn)) (vN vW : Value) (w : World) (hN : NmArg w vN N) (hs : szs N) (hW : WvArg w vW ws) :
    Calls Try.prog 5 #[vN, vW] w fun e w' => e = .returned (.bool true) ∧ Below w.heap.size w w' := by
  have HL := Lib.hid lives_any
  have KB := Lib.hid (fun w' (hb : Below w.heap.size w w') h => build_any N ws vN vW w' (hN.keep hb) hs (hW.keep hb) h)
  have KR := Lib.hid (fun w' (hb : Below w.heap.size w w') h h2 => rbuild_any N ws vN vW w' (hN.keep hb) hs (hW.keep hb) h h2)
  obtain ⟨A1, c1, rfl, _, q1⟩ := hN.form
  obtain ⟨A2, c2, rfl, q2⟩ := hW.form
  have HA := Lib.hid q2
  clear hN hW q1 q2 hs
  by_cases hn : 100 < N.length
  · have hn' : (100 : Int) < N.length := by omega
    clear KB KR hn HA
    generalize N.length = n at *
    generalize ws.length = m at *
    go_enter Try.func5, Try.ntmps5
    go_wp2_with (first
      | (go_at_call 10; go_must (refine (HL.out _).mono ?_; rintro e1 w1 ⟨rfl, b1⟩; have B1 := Lib.hid b1; clear b1)))
    go_returns
    exact ⟨rfl, B1.out⟩
  by_cases hm : 100 < ws.length
  · have hn' : ¬ (100 : Int) < N.length := by omega
    have hm' : (100 : Int) < ws.length := by omega
    clear KB KR hn hm HA
    generalize N.length = n at *
    generalize ws.length = m at *
    go_enter Try.func5, Try.ntmps5
    go_wp2_with (first
      | (go_at_call 10; go_must (refine (HL.out _).mono ?_; rintro e1 w1 ⟨rfl, b1⟩; have B1 := Lib.hid b1; clear b1)))
    go_returns
    exact ⟨rfl, B1.out⟩
  have hn3 : N.length ≤ 1099511627776 := by omega
  have hm3 : ws.length ≤ 65536 := by omega
  have hn' : ¬ (100 : Int) < N.length := by omega
  have hm' : ¬ (100 : Int) < ws.length := by omega
  clear hn hm
  go_enter Try.func5, Try.ntmps5
  go_wp2_with (first
    | (go_at_call 10; go_must (refine (HL.out _).mono ?_; rintro e1 w1 ⟨rfl, b1⟩; have B1 := Lib.hid b1; clear b1))
    | fail)
  go_loopw [5] (fun x wr => ∃ (k m : Nat), k ≤ ws.length ∧ x = .int .i64 k ∧ Hid (∀ w ∈ ws.take k, w.length ≤ 500) ∧ wr = w1.drewN m) (fun x _ => ws.length - (intOf x).toNat)
  case atStart => exact ⟨0, 0, by omega, rfl, Lib.hid (fun w h => absurd h (by simp)), rfl⟩
  case round =>
    obtain ⟨k, m, hk, rfl, HT, rfl⟩ := hrel
    by_cases hlt : k < ws.length
    · obtain ⟨g, o, rfl, hg, hcell⟩ := HA.out (by omega)
      obtain ⟨B, d, hc1, hc2⟩ := hcell k hlt
      have f0 := (B1.out.cell (p := ⟨g, o + k, none⟩) hg).trans hc1
      have HN := Lib.hid (fun h => small_next hlt HT.out h)
      clear hc1 hc2 hcell HT
      by_cases hbig : 500 < ws[k].length
      · have hbig' : (500 : Int) < ws[k].length := by omega
        clear hbig HN
        generalize ws[k].length = nk at *
        go_wp2
        go_returns
        exact ⟨rfl, Go.below_drewN B1.out _⟩
      · have hbig' : ¬ (500 : Int) < ws[k].length := by omega
        have HN2 := Lib.hid (HN.out (by omega))
        clear hbig HN
        generalize ws[k].length = nk at *
        go_wp2
        go_roundw
        case rel => exact ⟨k + 1, m, by omega, by go_num, HN2, rfl⟩
        case measure => simp [intOf]; omega
    · have hall : ∀ w ∈ ws, w.length ≤ 500 := by rw [← List.take_of_length_le (show ws.length ≤ k by omega)]; exact HT.out
      have hsl := sl2_le ws hall
      have hsl2 : sl2 ws ≤ 262144 := by omega
      have B2 := Lib.hid (Go.below_drewN B1.out m)
      have CB := Lib.hid (fun w' hb => KB.out w' hb (fun _ _ => hsl2))
      have CR := Lib.hid (fun w' hb => KR.out w' hb (fun _ _ => hsl2) hm3)
      have HL3 := Lib.hid hn3
      clear HT hall hsl hsl2 KB KR hn3 hm3 HA
      generalize w1.drewN m = w2 at *
      generalize bdE N ws = be at *
      have qb : (be == be) = true := by simp
      go_wp2_with (first
        | (go_at_call 26; go_must (refine (CB.out _ B2.out).mono ?_; rintro e3 w3 ⟨v1, v2, N1, o1, rfl, d3, b3⟩; obtain ⟨X1, m1, d1, rfl, rfl⟩ := KRow.form d3.1; obtain ⟨X2, m2, d2, rfl, rfl⟩ := KRow.form d3.2.1; have bx := ba w3 (.cells #[.slice X1 N1.length d1, .slice X2 o1.length d2] 25); have D3 := Lib.hid d3; have NA3 := Lib.hid (d3.1.name.keep bx); have RA3 := Lib.hid ((KRow.arg rnC_size d3.2.1).keep bx); have B3 := Lib.hid ((B2.out.trans (b3.mono B2.out.size)).trans (bx.mono (Nat.le_trans B2.out.size b3.size))); have PX3 := Lib.hid (RowAt.new w3 25 #[.slice X1 N1.length d1, .slice X2 o1.length d2]); clear b3 d3 bx))
        | (go_at_call 27; go_must (refine (CR.out _ B3.out).mono ?_; rintro e4 w4 ⟨u1, u2, N2, o2, rfl, d4, b4⟩; obtain ⟨rfl, rfl⟩ := Bd_same D3.out d4; have hln := Bd_len d4 HL3.out; obtain ⟨Y1, m3, f1, rfl, rfl⟩ := KRow.form d4.1; obtain ⟨Y2, m4, f2, rfl, rfl⟩ := KRow.form d4.2.1; have bx := ba w4 (.cells #[.slice Y1 N2.length f1, .slice Y2 o2.length f2] 25); have NA4 := Lib.hid ((NA3.out.keep b4).keep bx); have RA4 := Lib.hid ((RA3.out.keep b4).keep bx); have NB4 := Lib.hid (d4.1.name.keep bx); have RB4 := Lib.hid ((KRow.arg rnC_size d4.2.1).keep bx); have B4 := Lib.hid ((B3.out.trans (b4.mono B3.out.size)).trans (bx.mono (Nat.le_trans B3.out.size b4.size))); have PX4 := (PX3.out.keep b4).keep bx; have PY4 := RowAt.new w4 25 #[.slice Y1 N2.length f1, .slice Y2 o2.length f2]; have x0 := PX4.cell 0; have x1 := PX4.cell 1; have y0 := PY4.cell 0; have y1 := PY4.cell 1; have H1 := Lib.hid hln.1; have H2 := Lib.hid hln.2; clear b4 d4 bx PX4 PY4 D3 hln))
        | (go_at_call 23; go_must (refine (equal_any N2 o2 _ _ _ _ _ NA4.out RA4.out NB4.out RB4.out H1.out H2.out).mono ?_; rintro e5 w5 ⟨rfl, b5⟩; have B5 := Lib.hid (B4.out.trans (b5.mono B4.out.size)); clear b5))
        | fail)
      go_returns
      exact ⟨rfl, B5.out⟩

end Go.Proofs.Ytmfceiioigmnlaa
