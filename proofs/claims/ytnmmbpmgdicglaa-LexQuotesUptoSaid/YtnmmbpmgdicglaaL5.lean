/-
  The walk of the statement LexQuotes.
-/
import Derived.Test.YtnmmbpmgdicglaaW17
import Derived.Test.YtnmmbpmgdicglaaW15
namespace Go.Proofs.Ytnmmbpmgdicglaa
open Go.RowKit
set_option linter.unusedVariables false
set_option linter.unusedSimpArgs false

set_option maxRecDepth 20000 in
set_option maxHeartbeats 2000000 in
theorem law_quotes (s : ByteArray) (w : World) (hs : s.size ≤ 1048576) :
    Calls Try.prog 5 #[.string s] w fun e w' => e = .returned (.bool true) ∧ Below w.heap.size w w' := by
  have C1 := fun w => quote_any s w (by omega)
  have C2 := fun w => rquote_any s w (by omega)
  have hq := (qtB_len s.data.toList).2
  have hz : (⟨(qt s.data.toList).toArray⟩ : ByteArray).size ≤ 140737488351232 := by rw [size_mk, qt_len]; rw [← size_len] at hq; omega
  have C3 := fun w => unquote_any ⟨(qt s.data.toList).toArray⟩ w hz
  rw [toList_mk, unV_some (unq_qt s.data.toList), bytes_of] at C3
  generalize (⟨(qt s.data.toList).toArray⟩ : ByteArray) = Q at *
  have H1 := Lib.hid C1; have H2 := Lib.hid C2; have H3 := Lib.hid C3
  clear C1 C2 C3 hq hz
  go_enter Try.func5, Try.ntmps5
  go_wp2_with (first
    | (go_at_call 16; go_must (refine (H1.out _).mono ?_; rintro e w1 ⟨rfl, b1⟩))
    | (go_at_call 17; go_must (refine (H3.out _).mono ?_; rintro e w2 ⟨rfl, b2⟩; have s2 := b1.trans (b2.mono b1.size)))
    | (go_at_call 18; go_must (refine (H2.out _).mono ?_; rintro e w3 ⟨rfl, b3⟩; have s3 := s2.trans (b3.mono s2.size)))
    | (go_at_call 11; go_must (refine (awake_any _).mono ?_; rintro e w5 ⟨rfl, b5⟩; have s5 := s3.trans (b5.mono s3.size))))
  go_returns
  exact ⟨rfl, s5⟩

end Go.Proofs.Ytnmmbpmgdicglaa
