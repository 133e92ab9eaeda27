/-
  The walk of the statement LexTexts.
-/
import Derived.Test.YtpeiiomimfiebaaDoorW17
import Derived.Test.YtpeiiomimfiebaaDoorW26
namespace Go.Proofs.YtpeiiomimfiebaaDoor
open Go Go.RowKit
set_option linter.unusedVariables false
set_option linter.unusedSimpArgs false

set_option maxRecDepth 200000 in
set_option maxHeartbeats 4000000 in
theorem law_texts (l : List Tok) (V : Value) (w : World) (hT : TArg w V l) (hs : ∀ t ∈ l, t.t.length ≤ 1048576 ∧ -9223372036854775808 ≤ t.v ∧ t.v ≤ 9223372036854775807) (hn : l.length ≤ 140737488351232) (hE : Env w) :
    Calls Tryd.prog 4 #[V] w fun e w' => e = .returned (.bool true) ∧ Below w.heap.size w w' := by
  have C1 := fun w h hE => text_any l V w h (fun t ht => ⟨Nat.le_trans (hs t ht).1 (by decide), (hs t ht).2⟩) hn hE
  have C2 := fun w h => rtext_any l V w h hs hn
  generalize (tx l).1 = J at *
  generalize (tx l).2 = E at *
  generalize (⟨J.toArray⟩ : ByteArray) = S at *
  generalize (E : Int) = F at *
  have H1 := Lib.hid C1; have H2 := Lib.hid C2
  have HT := Lib.hid hT; have HH := Lib.hid hE
  have HK := Lib.hid (show ∀ w', Below w.heap.size w w' → TArg w' V l from fun w' hb => by
    obtain ⟨A', c', e', h'⟩ := hT
    refine ⟨A', c', e', fun h => ?_⟩
    obtain ⟨g, o, e1, e2, e3⟩ := h' h
    exact ⟨g, o, e1, Nat.lt_of_lt_of_le e2 hb.size, fun j hj i hi => (hb.cell (p := ⟨g, o + j * 4 + i, none⟩) e2).trans (e3 j hj i hi)⟩)
  obtain ⟨A, c, rfl, -⟩ := hT
  clear C1 C2 hE hs
  go_enter Tryd.func4, Tryd.ntmps4
  go_wp2_with (first
    | (go_at_call 5; go_must (refine (H1.out _ HT.out HH.out).mono ?_; rintro e1 w1 ⟨rfl, b1⟩))
    | (go_at_call 8; go_must (refine (H2.out _ (HK.out _ b1)).mono ?_; rintro e2 w2 ⟨rfl, b2⟩; have s2 := b1.trans (b2.mono b1.size)))
    | (go_at_call 6; go_must (refine (awake_any _).mono ?_; rintro e5 w5 ⟨rfl, b5⟩; have s5 := s2.trans (b5.mono s2.size))))
  go_returns
  exact ⟨rfl, s5⟩

end Go.Proofs.YtpeiiomimfiebaaDoor
