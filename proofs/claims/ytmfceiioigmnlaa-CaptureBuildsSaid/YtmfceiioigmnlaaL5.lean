/-
  The walk of the statement CaptureSame.
-/
import Derived.Test.YtmfceiioigmnlaaL1
import Derived.Test.YtmfceiioigmnlaaW27
namespace Go.Proofs.Ytmfceiioigmnlaa
open Go Go.RowKit Go.Joins
set_option linter.unusedVariables false
set_option linter.unusedSimpArgs false

theorem smP_symm {N N' : List ByteArray} {R R' : List Rn} (h : smP N R N' R') : smP N' R' N R := ⟨h.2.1, h.1, h.2.2.1.symm, h.2.2.2.symm⟩
theorem sm_bool (p : Prop) : ∃ b : Bool, (p → b = true) ∧ (¬ p → b = false) := by
  by_cases h : p
  · exact ⟨true, fun _ => rfl, fun x => absurd h x⟩
  · exact ⟨false, fun x => absurd x h, fun _ => rfl⟩
theorem heldF {w W W' : World} {b b' : Nat} {x0 x y0 y : Value} (h : W.cell? ⟨b, 0, none⟩ = some x0 ∧ W.cell? ⟨b, 1, none⟩ = some x ∧ W.cell? ⟨b', 0, none⟩ = some y0 ∧ W.cell? ⟨b', 1, none⟩ = some y ∧ Below w.heap.size w W ∧ b < W.heap.size ∧ b' < W.heap.size) (hb : Below W.heap.size W W') : W'.cell? ⟨b, 0, none⟩ = some x0 ∧ W'.cell? ⟨b, 1, none⟩ = some x ∧ W'.cell? ⟨b', 0, none⟩ = some y0 ∧ W'.cell? ⟨b', 1, none⟩ = some y ∧ Below w.heap.size w W' ∧ b < W'.heap.size ∧ b' < W'.heap.size := by
  obtain ⟨h0, h1, h2', h3', h2, h3, h4⟩ := h
  have := hb.size
  exact ⟨(hb.cell (p := ⟨b, 0, none⟩) h3).trans h0, (hb.cell (p := ⟨b, 1, none⟩) h3).trans h1, (hb.cell (p := ⟨b', 0, none⟩) h4).trans h2', (hb.cell (p := ⟨b', 1, none⟩) h4).trans h3', h2.trans (hb.mono h2.size), by omega, by omega⟩

set_option maxRecDepth 100000 in
set_option maxHeartbeats 16000000 in
theorem law_same (N N' : List ByteArray) (R R' : List Rn) (v1 v2 u1 u2 : Value) (w : World) (hN : NmArg w v1 N) (hs : szs N) (hR : RnArg w v2 R) (hN' : NmArg w u1 N') (hs' : szs N') (hR' : RnArg w u2 R') :
    Calls Try.prog 6 #[.agg #[v1, v2], .agg #[u1, u2]] w fun e w' => e = .returned (.bool true) ∧ Below w.heap.size w w' := by
  have HL := Lib.hid lives_any
  have HF := Lib.hid (fun w' (hb : Below w.heap.size w w') => few_any N R v1 v2 w' (hN.keep hb) (hR.keep hb))
  have HF' := Lib.hid (fun w' (hb : Below w.heap.size w w') => few_any N' R' u1 u2 w' (hN'.keep hb) (hR'.keep hb))
  have QC := Lib.hid (fun w' (hb : Below w.heap.size w w') hn => check_any N R v1 v2 w' (hN.keep hb) hs (hR.keep hb) hn)
  have QS := Lib.hid (fun b w' (hb : Below w.heap.size w w') h1 h2 h3 h4 h5 h6 => capSame_any b N R N' R' v1 v2 u1 u2 w' (hN.keep hb) hs (hR.keep hb) (hN'.keep hb) hs' (hR'.keep hb) h1 h2 h3 h4 h5 h6)
  have QR := Lib.hid (fun b w' (hb : Below w.heap.size w w') h1 h2 h3 h4 h5 h6 => refSame_any b N R N' R' v1 v2 u1 u2 w' (hN.keep hb) hs (hR.keep hb) (hN'.keep hb) hs' (hR'.keep hb) h1 h2 h3 h4 h5 h6)
  have QA := Lib.hid (fun b w' (hb : Below w.heap.size w w') h1 h2 h3 h4 h5 h6 => capSame_any b N R N R v1 v2 v1 v2 w' (hN.keep hb) hs (hR.keep hb) (hN.keep hb) hs (hR.keep hb) h1 h2 h3 h4 h5 h6)
  have QB := Lib.hid (fun b w' (hb : Below w.heap.size w w') h1 h2 h3 h4 h5 h6 => capSame_any b N' R' N R u1 u2 v1 v2 w' (hN'.keep hb) hs' (hR'.keep hb) (hN.keep hb) hs (hR.keep hb) h1 h2 h3 h4 h5 h6)
  obtain ⟨A1, c1, rfl, _, q1⟩ := hN.form
  obtain ⟨A2, c2, rfl, q2⟩ := hR
  obtain ⟨A3, c3, rfl, _, q3⟩ := hN'.form
  obtain ⟨A4, c4, rfl, q4⟩ := hR'
  have BA := Lib.hid (ba w (.cells #[.slice A1 N.length c1, .slice A2 R.length c2] 25))
  have PA := Lib.hid (RowAt.new w 25 #[.slice A1 N.length c1, .slice A2 R.length c2])
  have BB := Lib.hid (ba (w.alloc (.cells #[.slice A1 N.length c1, .slice A2 R.length c2] 25)) (.cells #[.slice A3 N'.length c3, .slice A4 R'.length c4] 25))
  have PB := Lib.hid (RowAt.new (w.alloc (.cells #[.slice A1 N.length c1, .slice A2 R.length c2] 25)) 25 #[.slice A3 N'.length c3, .slice A4 R'.length c4])
  rw [World.size_alloc] at PB
  have PA2 := Lib.hid (PA.out.keep BB.out)
  have B2 := Lib.hid (BA.out.trans (BB.out.mono BA.out.size))
  clear hN hN' q1 q2 q3 q4 hs hs'
  cases hf : fewB N R with
  | false =>
    rw [hf] at HF
    clear HF' QC QS QR QA QB hf
    go_enter Try.func6, Try.ntmps6
    go_wp2_with (first
      | (go_at_call 10; go_must (refine (HL.out _).mono ?_; rintro e3 w3 ⟨rfl, b3⟩; have B3 := Lib.hid (B2.out.trans (b3.mono B2.out.size)); have PA3 := PA2.out.keep b3; have g0 := PA3.cell 0; have g1 := PA3.cell 1; clear b3 PA3))
      | (go_at_call 11; go_must (refine (HF.out _ B3.out).mono ?_; rintro e4 w4 ⟨rfl, b4⟩; have B4 := Lib.hid (B3.out.trans (b4.mono B3.out.size)); clear b4)))
    go_returns
    exact ⟨rfl, B4.out⟩
  | true =>
  rw [hf] at HF
  cases hf' : fewB N' R' with
  | false =>
    rw [hf'] at HF'
    clear QC QS QR QA QB hf hf'
    go_enter Try.func6, Try.ntmps6
    go_wp2_with (first
      | (go_at_call 10; go_must (refine (HL.out _).mono ?_; rintro e3 w3 ⟨rfl, b3⟩; have B3 := Lib.hid (B2.out.trans (b3.mono B2.out.size)); have PA3 := PA2.out.keep b3; have PB3 := Lib.hid (PB.out.keep b3); have g0 := PA3.cell 0; have g1 := PA3.cell 1; clear b3 PA3))
      | (go_at_call 11; first
          | ((with_reducible refine (HF.out _ B3.out).mono ?_); rintro e4 w4 ⟨rfl, b4⟩; have B4 := Lib.hid (B3.out.trans (b4.mono B3.out.size)); have PB4 := PB3.out.keep b4; have g2 := PB4.cell 0; have g3 := PB4.cell 1; clear b4 PB4)
          | ((with_reducible refine (HF'.out _ B4.out).mono ?_); rintro e5 w5 ⟨rfl, b5⟩; have B5 := Lib.hid (B4.out.trans (b5.mono B4.out.size)); clear b5)))
    go_returns
    exact ⟨rfl, B5.out⟩
  | true =>
  rw [hf'] at HF'
  obtain ⟨hn1, hn2⟩ := fewB_len hf
  obtain ⟨hm1, hm2⟩ := fewB_len hf'
  obtain ⟨b, hb1, hb2⟩ := sm_bool (smP N R N' R')
  have CC := Lib.hid (fun w' hb => QC.out w' hb (by omega))
  have CS := Lib.hid (fun w' hb => QS.out b w' hb (by omega) (by omega) (by omega) (by omega) hb1 hb2)
  have CR := Lib.hid (fun w' hb => QR.out b w' hb (by omega) (by omega) (by omega) (by omega) hb1 hb2)
  have CB := Lib.hid (fun w' hb => QB.out b w' hb (by omega) (by omega) (by omega) (by omega) (fun h => hb1 (smP_symm h)) (fun h => hb2 (fun x => h (smP_symm x))))
  have CA := Lib.hid (fun w' hb => QA.out (ckC N R == 0) w' hb (by omega) (by omega) (by omega) (by omega) (fun h => by simpa using h.1) (fun h => by simpa using fun x => h ⟨x, x, rfl, rfl⟩))
  clear QC QS QR QA QB hf hf' hb1 hb2 hn1 hn2 hm1 hm2
  generalize ckC N R = c at *
  have qb : (b == b) = true := by simp
  have qA : ((c == 0) == (c == 0)) = true := by simp
  generalize N.length = n at *
  generalize N'.length = n' at *
  generalize R.length = r at *
  generalize R'.length = r' at *
  go_enter Try.func6, Try.ntmps6
  go_wp2_with (first
    | (go_at_call 10; go_must (refine (HL.out _).mono ?_; rintro e3 w3 ⟨rfl, b3⟩; have B3 := Lib.hid (B2.out.trans (b3.mono B2.out.size)); have PA3 := Lib.hid (PA2.out.keep b3); have PB3 := Lib.hid (PB.out.keep b3); have g0 := PA3.out.cell 0; have g1 := PA3.out.cell 1; clear b3))
    | (go_at_call 11; first
        | ((with_reducible refine (HF.out _ B3.out).mono ?_); rintro e4 w4 ⟨rfl, b4⟩; have B4 := Lib.hid (B3.out.trans (b4.mono B3.out.size)); have PA4 := Lib.hid (PA3.out.keep b4); have PB4 := Lib.hid (PB3.out.keep b4); have g2 := PB4.out.cell 0; have g3 := PB4.out.cell 1; clear b4)
        | ((with_reducible refine (HF'.out _ B4.out).mono ?_); rintro e5 w5 ⟨rfl, b5⟩; have B5 := Lib.hid (B4.out.trans (b5.mono B4.out.size)); have PA5 := Lib.hid (PA4.out.keep b5); have PB5 := Lib.hid (PB4.out.keep b5); have g0 := PA5.out.cell 0; have g1 := PA5.out.cell 1; have g2 := PB5.out.cell 0; have g3 := PB5.out.cell 1; clear b5))
    | fail)
  have S0 : (w5.drew).cell? ⟨w.heap.size, 0, none⟩ = some (.slice A1 n c1) ∧ (w5.drew).cell? ⟨w.heap.size, 1, none⟩ = some (.slice A2 r c2) ∧ (w5.drew).cell? ⟨w.heap.size + 1, 0, none⟩ = some (.slice A3 n' c3) ∧ (w5.drew).cell? ⟨w.heap.size + 1, 1, none⟩ = some (.slice A4 r' c4) ∧ Below w.heap.size w (w5.drew) ∧ w.heap.size < (w5.drew).heap.size ∧ w.heap.size + 1 < (w5.drew).heap.size := ⟨g0, g1, g2, g3, B5.out.drew, World.block_lt_of_cell? w5 _ g1, World.block_lt_of_cell? w5 _ g3⟩
  go_region_held3 (fun w' => w'.cell? ⟨w.heap.size, 0, none⟩ = some (.slice A1 n c1) ∧ w'.cell? ⟨w.heap.size, 1, none⟩ = some (.slice A2 r c2) ∧ w'.cell? ⟨w.heap.size + 1, 0, none⟩ = some (.slice A3 n' c3) ∧ w'.cell? ⟨w.heap.size + 1, 1, none⟩ = some (.slice A4 r' c4) ∧ Below w.heap.size w w' ∧ w.heap.size < w'.heap.size ∧ w.heap.size + 1 < w'.heap.size) (first | assumption | go_keep)
    (first
      | (go_at_call 28; first
          | ((with_reducible refine (CS.out _ (And.left (And.right (And.right (And.right (And.right (by assumption))))))).mono ?_); rintro e6 w6 ⟨rfl, b6⟩; have h6 := heldF (by assumption) b6)
          | ((with_reducible refine (CA.out _ (And.left (And.right (And.right (And.right (And.right (by assumption))))))).mono ?_); rintro e7 w7 ⟨rfl, b7⟩; have h7 := heldF (by assumption) b7)
          | ((with_reducible refine (CB.out _ (And.left (And.right (And.right (And.right (And.right (by assumption))))))).mono ?_); rintro e8 w8 ⟨rfl, b8⟩; have h8 := heldF (by assumption) b8))
      | (go_at_call 29; refine (CR.out _ (And.left (And.right (And.right (And.right (And.right (by assumption))))))).mono ?_; rintro e9 w9 ⟨rfl, b9⟩; have h9 := heldF (by assumption) b9)
      | (go_at_call 14; refine (CC.out _ (And.left (And.right (And.right (And.right (And.right (by assumption))))))).mono ?_; rintro e10 w10 ⟨rfl, b10⟩; have h10 := heldF (by assumption) b10)
      | fail)
  have BZ := Lib.hid (And.left (And.right (And.right (And.right (And.right h6)))))
  go_wp2
  go_returns
  exact ⟨rfl, BZ.out⟩

end Go.Proofs.Ytmfceiioigmnlaa
