/-
  Same.
-/
import Derived.Test.YtmfceiioigmnlaaW25
import Derived.Test.YtmfceiioigmnlaaW7
import Derived.Deep.RegionHeld3
namespace Go.Proofs.Ytmfceiioigmnlaa
open Go Go.RowKit Go.Joins
set_option linter.unusedVariables false
set_option linter.unusedSimpArgs false

def smP (N : List ByteArray) (R : List Rn) (N' : List ByteArray) (R' : List Rn) : Prop := ckC N R = 0 ∧ ckC N' R' = 0 ∧ N = N' ∧ jn R = jn R'
theorem heldT {w W W' : World} {b b' : Nat} {x y : Value} (h : W.cell? ⟨b, 1, none⟩ = some x ∧ W.cell? ⟨b', 1, none⟩ = some y ∧ Below w.heap.size w W ∧ b < W.heap.size ∧ b' < W.heap.size) (hb : Below W.heap.size W W') : W'.cell? ⟨b, 1, none⟩ = some x ∧ W'.cell? ⟨b', 1, none⟩ = some y ∧ Below w.heap.size w W' ∧ b < W'.heap.size ∧ b' < W'.heap.size := by
  obtain ⟨h0, h1, h2, h3, h4⟩ := h
  have := hb.size
  exact ⟨(hb.cell (p := ⟨b, 1, none⟩) h3).trans h0, (hb.cell (p := ⟨b', 1, none⟩) h4).trans h1, h2.trans (hb.mono h2.size), by omega, by omega⟩

set_option maxRecDepth 100000 in
set_option maxHeartbeats 8000000 in
theorem capSame_any (b : Bool) (N : List ByteArray) (R : List Rn) (N' : List ByteArray) (R' : List Rn) (v1 v2 u1 u2 : Value) (w : World) (hN : NmArg w v1 N) (hs : szs N) (hR : RnArg w v2 R) (hN' : NmArg w u1 N') (hs' : szs N') (hR' : RnArg w u2 R') (hn : R.length ≤ 1099511627776) (hn' : R'.length ≤ 1099511627776)
    (hm : N.length ≤ 1099511627776) (hm' : N'.length ≤ 1099511627776) (hb1 : smP N R N' R' → b = true) (hb2 : ¬ smP N R N' R' → b = false) :
    Calls Try.prog 28 #[.agg #[v1, v2], .agg #[u1, u2]] w fun e w' => e = .returned (.bool b) ∧ Below w.heap.size w w' := by
  have HK := Lib.hid (fun w' (hb : Below w.heap.size w w') => check_any N R v1 v2 w' (hN.keep hb) hs (hR.keep hb) hn)
  have HK' := Lib.hid (fun w' (hb : Below w.heap.size w w') => check_any N' R' u1 u2 w' (hN'.keep hb) hs' (hR'.keep hb) hn')
  have HQ := Lib.hid (fun q w' (hb : Below w.heap.size w w') h1 h2 => eqNames_any q N N' v1 u1 w' (hN.keep hb) (hN'.keep hb) hm hm' h1 h2)
  have HP := Lib.hid (fun m h h0 w' (hb : Below w.heap.size w w') => part_any m R v2 0 1099511627776 w' (hR.keep hb) h0 h (by omega) (by omega) (by omega) (by omega))
  have HP' := Lib.hid (fun m h h0 w' (hb : Below w.heap.size w w') => part_any m R' u2 0 1099511627776 w' (hR'.keep hb) h0 h (by omega) (by omega) (by omega) (by omega))
  have HB1 := Lib.hid hb1; have HB2 := Lib.hid hb2
  obtain ⟨A1, c1, rfl, _, q1⟩ := hN.form
  obtain ⟨A2, c2, rfl, q2⟩ := hR
  obtain ⟨A3, c3, rfl, _, q3⟩ := hN'.form
  obtain ⟨A4, c4, rfl, q4⟩ := hR'
  have BA := Lib.hid (ba w (.cells #[.slice A1 N.length c1, .slice A2 R.length c2] 25))
  have PA := Lib.hid (RowAt.new w 25 #[.slice A1 N.length c1, .slice A2 R.length c2])
  have BB := Lib.hid (ba (w.alloc (.cells #[.slice A1 N.length c1, .slice A2 R.length c2] 25)) (.cells #[.slice A3 N'.length c3, .slice A4 R'.length c4] 25))
  have PB := Lib.hid (RowAt.new (w.alloc (.cells #[.slice A1 N.length c1, .slice A2 R.length c2] 25)) 25 #[.slice A3 N'.length c3, .slice A4 R'.length c4])
  rw [World.size_alloc] at PB
  have PA2 := Lib.hid (PA.out.keep BB.out)
  have B2 := Lib.hid (BA.out.trans (BB.out.mono BA.out.size))
  clear hN hN' q1 q2 q3 q4 hb1 hb2 hs hs'
  by_cases hz : ckC N R = 0
  case neg =>
    have hx := HB2.out (fun h => hz h.1)
    subst hx
    have hz' : (ckC N R != 0) = true := by simpa using hz
    have hz2 : ¬ ckC N R = 0 := hz
    clear HB1 HB2 HQ HP HP' HK' hz
    generalize ckC N R = c at *
    go_enter Try.func28, Try.ntmps28
    go_wp2_with (first
      | (go_at_call 14; go_must (refine (HK.out _ B2.out).mono ?_; rintro e3 w3 ⟨rfl, b3⟩; have B3 := Lib.hid (B2.out.trans (b3.mono B2.out.size)); clear b3)))
    go_returns
    exact ⟨rfl, B3.out⟩
  by_cases hy : ckC N' R' = 0
  case neg =>
    have hx := HB2.out (fun h => hy h.2.1)
    subst hx
    have hz' : (ckC N' R' != 0) = true := by simpa using hy
    have hz2 : ¬ ckC N' R' = 0 := hy
    rw [hz] at HK
    clear HB1 HB2 HQ HP HP' hz hy
    generalize ckC N' R' = c at *
    go_enter Try.func28, Try.ntmps28
    go_wp2_with (first
      | (go_at_call 14; first
          | ((with_reducible refine (HK.out _ B2.out).mono ?_); rintro e3 w3 ⟨rfl, b3⟩; have B3 := Lib.hid (B2.out.trans (b3.mono B2.out.size)); have PB3 := PB.out.keep b3; have g2 := PB3.cell 0; have g3 := PB3.cell 1; clear b3 PB3)
          | ((with_reducible refine (HK'.out _ B3.out).mono ?_); rintro e4 w4 ⟨rfl, b4⟩; have B4 := Lib.hid (B3.out.trans (b4.mono B3.out.size)); clear b4)))
    go_returns
    exact ⟨rfl, B4.out⟩
  obtain ⟨k1, _, _, _, _, k6⟩ := ckC_ok hz
  obtain ⟨k1', _, _, _, _, k6'⟩ := ckC_ok hy
  have HP2 := HP.out _ k6 k1
  have HP2' := HP'.out _ k6' k1'
  rw [prt_all k6] at HP2
  rw [prt_all k6'] at HP2'
  have hj := jn_len R
  have hj' := jn_len R'
  have HPx := Lib.hid HP2; have HPx' := Lib.hid HP2'
  rw [hz] at HK
  rw [hy] at HK'
  clear HP HP' HP2 HP2' k6 k6'
  by_cases he : N = N'
  case neg =>
    have hx := HB2.out (fun h => he h.2.2.1)
    subst hx
    have HQ2 := Lib.hid (fun w' hb => HQ.out false w' hb (fun h => absurd h he) (fun _ => rfl))
    clear HB1 HB2 HQ hz hy HPx HPx'
    go_enter Try.func28, Try.ntmps28
    go_wp2_with (first
      | (go_at_call 14; first
          | ((with_reducible refine (HK.out _ B2.out).mono ?_); rintro e3 w3 ⟨rfl, b3⟩; have B3 := Lib.hid (B2.out.trans (b3.mono B2.out.size)); have PA3 := Lib.hid (PA2.out.keep b3); have PB3 := Lib.hid (PB.out.keep b3); have g2 := PB3.out.cell 0; have g3 := PB3.out.cell 1; clear b3)
          | ((with_reducible refine (HK'.out _ B3.out).mono ?_); rintro e4 w4 ⟨rfl, b4⟩; have B4 := Lib.hid (B3.out.trans (b4.mono B3.out.size)); have PA4 := PA3.out.keep b4; have PB4 := PB3.out.keep b4; have g0 := PA4.cell 0; have g1 := PA4.cell 1; have g2 := PB4.cell 0; have g3 := PB4.cell 1; clear b4 PA4 PB4))
      | (go_at_call 49; go_must (refine (HQ2.out _ B4.out).mono ?_; rintro e5 w5 ⟨rfl, b5⟩; have B5 := Lib.hid (B4.out.trans (b5.mono B4.out.size)); clear b5)))
    go_returns
    exact ⟨rfl, B5.out⟩
  have HQ2 := Lib.hid (fun w' hb => HQ.out true w' hb (fun _ => rfl) (fun h => absurd he h))
  have HB1x := Lib.hid (fun h => HB1.out ⟨hz, hy, he, h⟩)
  have HB2x := Lib.hid (fun (h : ¬ jn R = jn R') => HB2.out (fun e => h e.2.2.2))
  clear HB1 HB2 HQ hz hy he
  generalize jn R = J at *
  generalize jn R' = J' at *
  have hJ : J.length ≤ 1099511627776 := by omega
  have hJ' : J'.length ≤ 1099511627776 := by omega
  go_enter Try.func28, Try.ntmps28
  go_wp2_with (first
    | (go_at_call 14; first
        | ((with_reducible refine (HK.out _ B2.out).mono ?_); rintro e3 w3 ⟨rfl, b3⟩; have B3 := Lib.hid (B2.out.trans (b3.mono B2.out.size)); have PA3 := Lib.hid (PA2.out.keep b3); have PB3 := Lib.hid (PB.out.keep b3); have g2 := PB3.out.cell 0; have g3 := PB3.out.cell 1; clear b3)
        | ((with_reducible refine (HK'.out _ B3.out).mono ?_); rintro e4 w4 ⟨rfl, b4⟩; have B4 := Lib.hid (B3.out.trans (b4.mono B3.out.size)); have PA4 := Lib.hid (PA3.out.keep b4); have PB4 := Lib.hid (PB3.out.keep b4); have g0 := PA4.out.cell 0; have g1 := PA4.out.cell 1; have g2 := PB4.out.cell 0; have g3 := PB4.out.cell 1; clear b4))
    | (go_at_call 49; go_must (refine (HQ2.out _ B4.out).mono ?_; rintro e5 w5 ⟨rfl, b5⟩; have B5 := Lib.hid (B4.out.trans (b5.mono B4.out.size)); have PA5 := Lib.hid (PA4.out.keep b5); have PB5 := Lib.hid (PB4.out.keep b5); have g1 := PA5.out.cell 1; have g3 := PB5.out.cell 1; clear b5))
    | fail)
  have S0 : (w5.drew).cell? ⟨w.heap.size, 1, none⟩ = some (.slice A2 R.length c2) ∧ (w5.drew).cell? ⟨w.heap.size + 1, 1, none⟩ = some (.slice A4 R'.length c4) ∧ Below w.heap.size w (w5.drew) ∧ w.heap.size < (w5.drew).heap.size ∧ w.heap.size + 1 < (w5.drew).heap.size := ⟨g1, g3, B5.out.drew, World.block_lt_of_cell? w5 _ g1, World.block_lt_of_cell? w5 _ g3⟩
  go_region_held3 (fun w' => w'.cell? ⟨w.heap.size, 1, none⟩ = some (.slice A2 R.length c2) ∧ w'.cell? ⟨w.heap.size + 1, 1, none⟩ = some (.slice A4 R'.length c4) ∧ Below w.heap.size w w' ∧ w.heap.size < w'.heap.size ∧ w.heap.size + 1 < w'.heap.size) (first | assumption | go_keep)
    (first
      | (go_at_call 43; first
          | ((with_reducible refine (HPx.out _ (And.left (And.right (And.right (by assumption))))).mono ?_); rintro e6 w6 ⟨v6, rfl, r6, b6⟩; obtain ⟨X6, m6, d6, rfl, rfl⟩ := KRow.form r6; have R6 := Lib.hid (KRow.arg rnC_size r6); have h6 := heldT (by assumption) b6; clear r6)
          | ((with_reducible refine (HPx'.out _ (And.left (And.right (And.right (by assumption))))).mono ?_); rintro e7 w7 ⟨v7, rfl, r7, b7⟩; obtain ⟨X7, m7, d7, rfl, rfl⟩ := KRow.form r7; have R7 := Lib.hid (KRow.arg rnC_size r7); have R67 := Lib.hid (R6.out.keep b7); have h7 := heldT (by assumption) b7; clear r7))
      | (go_at_call 50; refine (eqRuns_any b J J' _ _ _ R67.out R7.out hJ hJ' HB1x.out HB2x.out).mono ?_; rintro e8 w8 ⟨rfl, b8⟩; have h8 := heldT (by assumption) b8)
      | fail)
  have BZ := Lib.hid h8.2.2.1
  go_wp2
  go_returns
  exact ⟨rfl, BZ.out⟩

end Go.Proofs.Ytmfceiioigmnlaa
