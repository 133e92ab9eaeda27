/-
  Layer 15: the law of levels that are divided, for all arguments.
-/
import Derived.Test.YtmbeaagpjpphhaaT27
namespace Go.Proofs.Ytmbeaagpjpphhaa
open Go Go.RowKit Go.Joins
set_option linter.unusedVariables false

set_option maxRecDepth 20000 in
set_option maxHeartbeats 8000000 in
theorem short_long (N D : Int) (l : List Ev) (V : Value) (w : World) (hT : EvArg w V l) (h4 : 400 < l.length) :
    Calls Try.prog 20 #[rat N D, V] w fun e w' => ∃ B, e = .returned (.bool B) ∧ (B = true → l.length ≤ 400) ∧ Below w.heap.size w w' := by
  obtain ⟨A, c, rfl, hA⟩ := hT
  clear hA
  have h4' : (400 : Int) < (l.length : Int) := by omega
  go_enter Try.func20, Try.ntmps20
  go_wp2
  all_goals first
    | (exfalso; omega)
    | (go_returns; exact ⟨_, rfl, fun hh => by (first | (cases hh; done) | simp at hh), by (repeat' (first | with_reducible exact Below.refl _ _ | with_reducible exact Nat.le_refl _ | with_reducible assumption | with_reducible refine below_drewN ?_ _ | with_reducible refine Below.drew ?_ | with_reducible refine Below.trans ?_ (Below.mono (by assumption) ?_) | with_reducible refine Below.alloc ?_ ?_ _ | with_reducible refine Below.setCell ?_ ?_ _ | with_reducible refine le_setCell ?_ _ _ | with_reducible refine le_alloc ?_ _ | with_reducible refine le_drewN ?_ _ | with_reducible refine le_drew ?_ | with_reducible refine Nat.le_trans ?_ (Below.size (by assumption)) | (simp only [World.size_alloc, World.size_setCell]; omega) | omega))⟩)

theorem smR_olen {N D : Int} (h : Bt N D) (l : List Ev) : (smR N D l).o.length ≤ 1099511627776 := by
  have hrc := rcM_all h l
  rcases hrc with ⟨_, h2, _⟩ | ⟨_, _, _, h4, h5, _⟩
  · rw [h2]; simp
  · omega

theorem law_pieces15 (N D : Int) (l : List Ev) (cs : List Int) (V VC : Value) (w : World) (hN0 : -9223372036854775808 ≤ N) (hN1 : N ≤ 9223372036854775807) (hD0 : -9223372036854775808 ≤ D) (hD1 : D ≤ 9223372036854775807) (hT : EvArg w V l) (hTC : Sw.InArg w VC cs) (hl : l.length ≤ 140737488351232) (hd : ∀ j (h : j < l.length), l[j].d.length ≤ 140737488351232) :
    Calls Try.prog 7 #[rat N D, V, VC] w fun e w' => e = .returned (.bool true) ∧ Below w.heap.size w w' := by
  have SH : ∀ W, Below w.heap.size w W → Calls Try.prog 20 #[rat N D, V] W fun e w' => ∃ B, e = .returned (.bool B) ∧ (B = true → l.length ≤ 400) ∧ Below W.heap.size W w' := by
    intro W hb
    by_cases h4 : 400 < l.length
    · exact short_long N D l V W (hT.keep hb) h4
    by_cases hk : ckE N D = 0
    · exact short_yes N D l V W hk (Lib.hid fun W => by
        have h := ck_bt hk
        have hh := refCheck_any N D W (by have := h.n1; have := h.d1; omega) (by have := h.n2; omega) (by have := h.d1; omega) (by have := h.d2; omega)
        rwa [hk] at hh) (hT.keep hb) (by omega)
    · exact short_no N D l V W hN0 hN1 hD0 hD1 hk (hT.keep hb) (by omega)
  have ctl : ∃ A n c, V = .slice A n c := by obtain ⟨A, c, e, _⟩ := hT; exact ⟨A, _, c, e⟩
  by_cases hG : CsG l
  · have CC : ∀ W, Below w.heap.size w W → Calls Try.prog 33 #[V] W fun e w' => e = .returned (.bool true) ∧ Below W.heap.size W w' :=
      fun W hb => chained_any l V W (hT.keep hb) hl true (fun _ => rfl) (fun h => absurd hG h)
    by_cases hcs : 400 < cs.length
    · exact pieces15_not N D l cs V VC w hTC ctl true (.inl hcs) SH CC
    by_cases hk : ckE N D = 0
    · have h := ck_bt hk
      refine pieces15_main N D l cs V VC w hT hTC (by omega) (smR N D l).o (smR_olen h l) SH CC (fun h4 W hb => mdecode_yes N D l V W hk (hT.keep hb) (by omega) hd) (fun h4 V' W hV => ?_)
      have hp := pcL_len cs l l.length
      have := mdecode_yes N D (pcL cs l l.length) V' W hk hV (by omega) (pcL_d cs hd l.length)
      rw [pcL_fold h cs hG l.length (Nat.le_refl _), List.take_of_length_le (Nat.le_refl _)] at this
      exact this
    · refine pieces15_main N D l cs V VC w hT hTC (by omega) [] (by simp) SH CC (fun h4 W hb => ?_) (fun h4 V' W hV => ?_)
      · exact (mdecode_no N D V W hN0 hN1 hD0 hD1 hk).mono fun e w' ⟨h1, h2⟩ => ⟨_, h1, KRow.nil _ _, h2⟩
      · exact (mdecode_no N D V' W hN0 hN1 hD0 hD1 hk).mono fun e w' ⟨h1, h2⟩ => ⟨_, h1, KRow.nil _ _, h2⟩
  · exact pieces15_not N D l cs V VC w hTC ctl false (.inr rfl) SH (fun W hb => chained_any l V W (hT.keep hb) hl false (fun h => absurd h hG) (fun _ => rfl))

end Go.Proofs.Ytmbeaagpjpphhaa
