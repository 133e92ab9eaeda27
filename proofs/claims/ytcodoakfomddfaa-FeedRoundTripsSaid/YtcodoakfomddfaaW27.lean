/-
  slices.Equal of names and of runs, the law's sameRuns.
  Same.
  The specification's Same.
-/
import Derived.Test.YtcodoakfomddfaaW9
import Derived.Test.YtcodoakfomddfaaW7
import Derived.Deep.RegionHeld3
namespace Go.Proofs.Ytcodoakfomddfaa
open Go Go.RowKit Go.Joins
set_option linter.unusedVariables false
set_option linter.unusedSimpArgs false

theorem take_next {α : Type} {l l' : List α} {k : Nat} (hk : k < l.length) (hk' : k < l'.length) (h : l.take k = l'.take k) (e : l[k] = l'[k]) : l.take (k + 1) = l'.take (k + 1) := by
  rw [List.take_succ_eq_append_getElem hk, List.take_succ_eq_append_getElem hk', h, e]
theorem take_end {α : Type} {l l' : List α} {k : Nat} (hk : ¬ k < l.length) (hl : l.length = l'.length) (h : l.take k = l'.take k) : l = l' := by
  rw [List.take_of_length_le (by omega), List.take_of_length_le (by omega)] at h
  exact h
theorem at_ne {α : Type} {l l' : List α} {k : Nat} (hk : k < l.length) (hk' : k < l'.length) (h : ¬ l[k] = l'[k]) : ¬ l = l' := by
  intro e
  subst e
  exact h rfl
theorem rn_pair {a b : Rn} : a = b ↔ a.1 = b.1 ∧ a.2 = b.2 := Prod.ext_iff

end Go.Proofs.Ytcodoakfomddfaa

namespace Go.Proofs.Ytcodoakfomddfaa
open Go Go.RowKit Go.Joins
set_option linter.unusedVariables false
set_option linter.unusedSimpArgs false

def smP (N : List ByteArray) (R : List Rn) (N' : List ByteArray) (R' : List Rn) : Prop := ckC N R = 0 ∧ ckC N' R' = 0 ∧ N = N' ∧ jn R = jn R'
theorem heldT {w W W' : World} {b b' : Nat} {x y : Value} (h : W.cell? ⟨b, 1, none⟩ = some x ∧ W.cell? ⟨b', 1, none⟩ = some y ∧ Below w.heap.size w W ∧ b < W.heap.size ∧ b' < W.heap.size) (hb : Below W.heap.size W W') : W'.cell? ⟨b, 1, none⟩ = some x ∧ W'.cell? ⟨b', 1, none⟩ = some y ∧ Below w.heap.size w W' ∧ b < W'.heap.size ∧ b' < W'.heap.size := by
  obtain ⟨h0, h1, h2, h3, h4⟩ := h
  have := hb.size
  exact ⟨(hb.cell (p := ⟨b, 1, none⟩) h3).trans h0, (hb.cell (p := ⟨b', 1, none⟩) h4).trans h1, h2.trans (hb.mono h2.size), by omega, by omega⟩

end Go.Proofs.Ytcodoakfomddfaa

namespace Go.Proofs.Ytcodoakfomddfaa
open Go Go.RowKit Go.Joins
set_option linter.unusedVariables false
set_option linter.unusedSimpArgs false

set_option maxRecDepth 100000 in
set_option maxHeartbeats 16000000 in
theorem refSame_any (b : Bool) (N : List ByteArray) (R : List Rn) (N' : List ByteArray) (R' : List Rn) (v1 v2 u1 u2 : Value) (w : World) (hN : NmArg w v1 N) (hs : szs N) (hR : RnArg w v2 R) (hN' : NmArg w u1 N') (hs' : szs N') (hR' : RnArg w u2 R') (hn : R.length ≤ 8796093022208) (hn' : R'.length ≤ 8796093022208)
    (hm : N.length ≤ 8796093022208) (hm' : N'.length ≤ 8796093022208) (hb1 : smP N R N' R' → b = true) (hb2 : ¬ smP N R N' R' → b = false) :
    Calls Try.prog 21 #[.agg #[v1, v2], .agg #[u1, u2]] w fun e w' => e = .returned (.bool b) ∧ Below w.heap.size w w' := by
  have HK := Lib.hid (fun w' (hb : Below w.heap.size w w') => good_any N R v1 v2 w' (hN.keep hb) hs (hR.keep hb) hn)
  have HK' := Lib.hid (fun w' (hb : Below w.heap.size w w') => good_any N' R' u1 u2 w' (hN'.keep hb) hs' (hR'.keep hb) hn')
  have HP := Lib.hid (fun m h h0 w' (hb : Below w.heap.size w w') => rclean_any m R v2 w' (hR.keep hb) h0 h)
  have HP' := Lib.hid (fun m h h0 w' (hb : Below w.heap.size w w') => rclean_any m R' u2 w' (hR'.keep hb) h0 h)
  have HB1 := Lib.hid hb1; have HB2 := Lib.hid hb2
  obtain ⟨A1, c1, rfl, _, q1⟩ := hN.form
  obtain ⟨A2, c2, rfl, q2⟩ := hR
  obtain ⟨A3, c3, rfl, _, q3⟩ := hN'.form
  obtain ⟨A4, c4, rfl, q4⟩ := hR'
  have H1 := Lib.hid q1; have H3 := Lib.hid q3
  have BA := Lib.hid (ba w (.cells #[.slice A1 N.length c1, .slice A2 R.length c2] 25))
  have PA := Lib.hid (RowAt.new w 25 #[.slice A1 N.length c1, .slice A2 R.length c2])
  have BB := Lib.hid (ba (w.alloc (.cells #[.slice A1 N.length c1, .slice A2 R.length c2] 25)) (.cells #[.slice A3 N'.length c3, .slice A4 R'.length c4] 25))
  have PB := Lib.hid (RowAt.new (w.alloc (.cells #[.slice A1 N.length c1, .slice A2 R.length c2] 25)) 25 #[.slice A3 N'.length c3, .slice A4 R'.length c4])
  rw [World.size_alloc] at PB
  have PA2 := Lib.hid (PA.out.keep BB.out)
  have B2 := Lib.hid (BA.out.trans (BB.out.mono BA.out.size))
  clear hN hN' q1 q2 q3 q4 hb1 hb2 hs hs'
  by_cases hz : ckC N R = 0
  case neg =>
    have hx := HB2.out (fun h => hz h.1)
    subst hx
    rw [show decide (ckC N R = 0) = false from decide_eq_false hz] at HK
    clear HB1 HB2 HP HP' HK' hz H1 H3
    go_enter Try.func21, Try.ntmps21
    go_wp2_with (first
      | (go_at_call 20; go_must (refine (HK.out _ B2.out).mono ?_; rintro e3 w3 ⟨rfl, b3⟩; have B3 := Lib.hid (B2.out.trans (b3.mono B2.out.size)); clear b3)))
    go_returns
    exact ⟨rfl, B3.out⟩
  by_cases hy : ckC N' R' = 0
  case neg =>
    have hx := HB2.out (fun h => hy h.2.1)
    subst hx
    rw [show decide (ckC N R = 0) = true from decide_eq_true hz] at HK
    rw [show decide (ckC N' R' = 0) = false from decide_eq_false hy] at HK'
    clear HB1 HB2 HP HP' hz hy H1 H3
    go_enter Try.func21, Try.ntmps21
    go_wp2_with (first
      | (go_at_call 20; first
          | ((with_reducible refine (HK.out _ B2.out).mono ?_); rintro e3 w3 ⟨rfl, b3⟩; have B3 := Lib.hid (B2.out.trans (b3.mono B2.out.size)); have PB3 := PB.out.keep b3; have g2 := PB3.cell 0; have g3 := PB3.cell 1; clear b3 PB3)
          | ((with_reducible refine (HK'.out _ B3.out).mono ?_); rintro e4 w4 ⟨rfl, b4⟩; have B4 := Lib.hid (B3.out.trans (b4.mono B3.out.size)); clear b4)))
    go_returns
    exact ⟨rfl, B4.out⟩
  obtain ⟨k1, _, _, k4, _, k6⟩ := ckC_ok hz
  obtain ⟨k1', _, _, k4', _, k6'⟩ := ckC_ok hy
  have HPx := Lib.hid (HP.out _ k6 k1)
  have HPx' := Lib.hid (HP'.out _ k6' k1')
  have hj := jn_len R
  have hj' := jn_len R'
  rw [show decide (ckC N R = 0) = true from decide_eq_true hz] at HK
  rw [show decide (ckC N' R' = 0) = true from decide_eq_true hy] at HK'
  clear HP HP' k6 k6'
  have HZ := Lib.hid hz; have HY := Lib.hid hy
  clear hz hy
  by_cases hl : N.length = N'.length
  case neg =>
    have hx := HB2.out (fun h => hl (by rw [h.2.2.1]))
    subst hx
    have hle : ((N.length : Int) == (N'.length : Int)) = false := by rw [Bool.eq_false_iff]; intro h; exact hl (by have := beq_iff_eq.1 h; omega)
    clear HB1 HB2 HPx HPx' hl
    go_enter Try.func21, Try.ntmps21
    go_wp2_with (first
      | (go_at_call 20; first
          | ((with_reducible refine (HK.out _ B2.out).mono ?_); rintro e3 w3 ⟨rfl, b3⟩; have B3 := Lib.hid (B2.out.trans (b3.mono B2.out.size)); have PA3 := Lib.hid (PA2.out.keep b3); have PB3 := Lib.hid (PB.out.keep b3); have g2 := PB3.out.cell 0; have g3 := PB3.out.cell 1; clear b3)
          | ((with_reducible refine (HK'.out _ B3.out).mono ?_); rintro e4 w4 ⟨rfl, b4⟩; have B4 := Lib.hid (B3.out.trans (b4.mono B3.out.size)); have PA4 := PA3.out.keep b4; have PB4 := PB3.out.keep b4; have g0 := PA4.cell 0; have g1 := PA4.cell 1; have g2 := PB4.cell 0; have g3 := PB4.cell 1; clear b4 PA4 PB4)))
    go_returns
    exact ⟨rfl, B4.out⟩
  have HLn := Lib.hid hl
  have hle : ((N.length : Int) == (N'.length : Int)) = true := beq_iff_eq.2 (by omega)
  have hlN : (N.length : Int) ≤ 16 := by omega
  clear hl
  go_enter Try.func21, Try.ntmps21
  go_wp2_with (first
    | (go_at_call 20; first
        | ((with_reducible refine (HK.out _ B2.out).mono ?_); rintro e3 w3 ⟨rfl, b3⟩; have B3 := Lib.hid (B2.out.trans (b3.mono B2.out.size)); have PA3 := Lib.hid (PA2.out.keep b3); have PB3 := Lib.hid (PB.out.keep b3); have g2 := PB3.out.cell 0; have g3 := PB3.out.cell 1; clear b3)
        | ((with_reducible refine (HK'.out _ B3.out).mono ?_); rintro e4 w4 ⟨rfl, b4⟩; have B4 := Lib.hid (B3.out.trans (b4.mono B3.out.size)); have PA4 := Lib.hid (PA3.out.keep b4); have PB4 := Lib.hid (PB3.out.keep b4); have g0 := PA4.out.cell 0; have g1 := PA4.out.cell 1; have g2 := PB4.out.cell 0; have g3 := PB4.out.cell 1; clear b4))
    | fail)
  go_loopw [5] (fun x wr => ∃ (k m : Nat), k ≤ N.length ∧ x = .int .i64 k ∧ Hid (N.take k = N'.take k) ∧ wr = w4.drewN m) (fun x _ => N.length - (intOf x).toNat)
  case atStart => exact ⟨0, 0, by omega, rfl, Lib.hid rfl, rfl⟩
  case round =>
    obtain ⟨k, m, hk, rfl, HT, rfl⟩ := hrel
    by_cases hlt : k < N.length
    · have hlt' : k < N'.length := by have := HLn.out; omega
      obtain ⟨gA, o1, rfl, hg1, hc1⟩ := H1.out (by omega)
      obtain ⟨gB, o2, rfl, hg2, hc2⟩ := H3.out (by omega)
      have a0 := (B4.out.cell (p := ⟨gA, o1 + k, none⟩) hg1).trans (hc1 k hlt)
      have b0 := (B4.out.cell (p := ⟨gB, o2 + k, none⟩) hg2).trans (hc2 k hlt')
      have HN := Lib.hid (fun (h : N[k] = N'[k]) => take_next hlt hlt' HT.out h)
      have HX := Lib.hid (fun (h : ¬ N[k] = N'[k]) => HB2.out (fun e => at_ne hlt hlt' h e.2.2.1))
      clear hc1 hc2 HT
      generalize N[k] = x0 at *
      generalize N'[k] = y0 at *
      by_cases e0 : x0 = y0
      · have HN2 := Lib.hid (HN.out e0)
        subst e0
        clear HN HX
        have q1 : (x0.toList == x0.toList) = true := (str_eq rfl).1
        go_wp2
        go_quiet (fail)
        go_wp2
        go_roundw
        case rel => exact ⟨k + 1, m + nq, by omega, by go_num, HN2, rfl⟩
        case measure => simp [intOf]; omega
      · have hx := HX.out e0
        subst hx
        obtain ⟨q1, q2⟩ := str_ne (a := x0) (b := y0) (fun h => e0 (eq_of_toList h))
        clear HN HX HB1 HB2 e0
        go_wp2
        go_quiet (fail)
        go_wp2
        go_returns
        exact ⟨rfl, Go.below_drewN (Go.below_drewN B4.out _) _⟩
    · have he : N = N' := take_end hlt HLn.out HT.out
      have HB1x := Lib.hid (fun h => HB1.out ⟨HZ.out, HY.out, he, h⟩)
      have HB2x := Lib.hid (fun (h : ¬ jn R = jn R') => HB2.out (fun e => h e.2.2.2))
      have B5 := Lib.hid (Go.below_drewN B4.out m)
      clear HB1 HB2 HT he HZ HY H1 H3
      generalize jn R = J at *
      generalize jn R' = J' at *
      have hJ : (J.length : Int) ≤ 262144 := by omega
      have hJ' : (J'.length : Int) ≤ 262144 := by omega
      have p1 : (w4.drewN m).cell? ⟨w.heap.size, 1, none⟩ = some (.slice A2 R.length c2) := g1
      have p3 : (w4.drewN m).cell? ⟨w.heap.size + 1, 1, none⟩ = some (.slice A4 R'.length c4) := g3
      have p0 : (w4.drewN m).cell? ⟨w.heap.size, 0, none⟩ = some (.slice A1 N.length c1) := g0
      generalize w4.drewN m = w5 at *
      go_wp2
      have S0 : (w5.drew).cell? ⟨w.heap.size, 1, none⟩ = some (.slice A2 R.length c2) ∧ (w5.drew).cell? ⟨w.heap.size + 1, 1, none⟩ = some (.slice A4 R'.length c4) ∧ Below w.heap.size w (w5.drew) ∧ w.heap.size < (w5.drew).heap.size ∧ w.heap.size + 1 < (w5.drew).heap.size := ⟨p1, p3, B5.out.drew, World.block_lt_of_cell? w5 _ p1, World.block_lt_of_cell? w5 _ p3⟩
      go_region_held3 (fun w' => w'.cell? ⟨w.heap.size, 1, none⟩ = some (.slice A2 R.length c2) ∧ w'.cell? ⟨w.heap.size + 1, 1, none⟩ = some (.slice A4 R'.length c4) ∧ Below w.heap.size w w' ∧ w.heap.size < w'.heap.size ∧ w.heap.size + 1 < w'.heap.size) (first | assumption | go_keep)
        (first
          | (go_at_call 22; first
              | ((with_reducible refine (HPx.out _ (And.left (And.right (And.right (by assumption))))).mono ?_); rintro e6 w6 ⟨v6, rfl, r6, b6⟩; obtain ⟨X6, m6, d6, rfl, rfl⟩ := KRow.form r6; have R6 := Lib.hid (KRow.arg rnC_size r6); have h6 := heldT (by assumption) b6; clear r6)
              | ((with_reducible refine (HPx'.out _ (And.left (And.right (And.right (by assumption))))).mono ?_); rintro e7 w7 ⟨v7, rfl, r7, b7⟩; obtain ⟨X7, m7, d7, rfl, rfl⟩ := KRow.form r7; have R7 := Lib.hid (KRow.arg rnC_size r7); have R67 := Lib.hid (R6.out.keep b7); have h7 := heldT (by assumption) b7; clear r7))
          | fail)
      have BZ := Lib.hid h7.2.2.1
      clear h6 h7 S0 p0 p1 p3 g0 g1 g2 g3 R6 b6 b7
      by_cases hlj : J.length = J'.length
      · have HLj := Lib.hid hlj
        have hlje : ((J.length : Int) == (J'.length : Int)) = true := beq_iff_eq.2 (by omega)
        clear hlj
        go_wp2
        go_loopw [8] (fun x wr => ∃ (k m : Nat), k ≤ J.length ∧ x = .int .i64 k ∧ Hid (J.take k = J'.take k) ∧ wr = w7.drewN m) (fun x _ => J.length - (intOf x).toNat)
        case atStart => exact ⟨0, 0, by omega, rfl, Lib.hid rfl, rfl⟩
        case round =>
          rename_i hrel
          obtain ⟨i, q, hi, rfl, HT, rfl⟩ := hrel
          by_cases hil : i < J.length
          · have hil' : i < J'.length := by have := HLj.out; omega
            obtain ⟨_, _, e1, q1⟩ := R67.out
            obtain ⟨_, _, e2, q2⟩ := R7.out
            obtain ⟨g1', o1, rfl, hg1, hc1⟩ := q1 (by omega)
            obtain ⟨g2', o2, rfl, hg2, hc2⟩ := q2 (by omega)
            simp only [Value.slice.injEq, true_and, and_true] at e1 e2
            obtain ⟨rfl, rfl⟩ := e1
            obtain ⟨rfl, rfl⟩ := e2
            obtain ⟨a0, a1⟩ := arg_two hc1 i hil
            obtain ⟨b0, b1⟩ := arg_two hc2 i hil'
            have HN := Lib.hid (fun (h : J[i] = J'[i]) => take_next hil hil' HT.out h)
            have HX := Lib.hid (fun (h : ¬ J[i] = J'[i]) => HB2x.out (at_ne hil hil' h))
            simp only [rn_pair] at HN HX
            clear hc1 hc2 HT q1 q2
            generalize J[i].1 = x0 at *
            generalize J[i].2 = x1 at *
            generalize J'[i].1 = y0 at *
            generalize J'[i].2 = y1 at *
            by_cases e0 : x0 = y0
            · by_cases e1 : x1 = y1
              · have HN2 := Lib.hid (HN.out ⟨e0, e1⟩)
                subst e0 e1
                clear HN HX
                go_wp2
                go_quiet (fail)
                go_wp2
                go_roundw
                case rel => exact ⟨i + 1, q + nq, by omega, by go_num, HN2, rfl⟩
                case measure => simp [intOf]; omega
              · have hx := HX.out (fun h => e1 h.2)
                subst e0 hx
                have q1 : (x1 == y1) = false := by simpa using e1
                have q2 : (y1 == x1) = false := by simpa using fun h => e1 h.symm
                clear HN HX HB1x HB2x
                go_wp2
                go_quiet (fail)
                go_wp2
                go_returns
                exact ⟨rfl, Go.below_drewN (Go.below_drewN BZ.out _) _⟩
            · have hx := HX.out (fun h => e0 h.1)
              subst hx
              have q1 : (x0 == y0) = false := by simpa using e0
              have q2 : (y0 == x0) = false := by simpa using fun h => e0 h.symm
              clear HN HX HB1x HB2x
              go_wp2
              go_quiet (fail)
              go_wp2
              go_returns
              exact ⟨rfl, Go.below_drewN (Go.below_drewN BZ.out _) _⟩
          · have hx := HB1x.out (take_end hil HLj.out HT.out)
            subst hx
            clear HB1x HB2x HT
            go_wp2
            go_returns
            exact ⟨rfl, Go.below_drewN BZ.out _⟩
      · have hx := HB2x.out (fun e => hlj (by rw [e]))
        subst hx
        have hlje : ((J.length : Int) == (J'.length : Int)) = false := by rw [Bool.eq_false_iff]; intro h; exact hlj (by have := beq_iff_eq.1 h; omega)
        clear hlj HB1x HB2x
        go_wp2
        go_returns
        exact ⟨rfl, BZ.out⟩

end Go.Proofs.Ytcodoakfomddfaa
