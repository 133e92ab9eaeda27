/-
  The walk of the statement LexTokens.
-/
import Derived.Test.YtnmmbpmgdicglaaW17
import Derived.Test.YtnmmbpmgdicglaaW21
import Derived.Test.YtnmmbpmgdicglaaM3
namespace Go.Proofs.Ytnmmbpmgdicglaa
open Go.RowKit
set_option linter.unusedVariables false
set_option linter.unusedSimpArgs false

set_option maxRecDepth 20000 in
set_option maxHeartbeats 2000000 in
theorem law_tokens (s : ByteArray) (w : World) (hs : s.size ≤ 140737488351232) :
    Calls Try.prog 3 #[.string s] w fun e w' => e = .returned (.bool true) ∧ Below w.heap.size w w' := by
  have C1 := fun w => tokens_any s w hs
  have C2 := fun w => rtokens_any s w hs
  have hl := ans_len s.data.toList
  unfold anV at C1 C2
  rcases hA : ans s.data.toList with ⟨ts, r, f⟩
  rw [hA] at C1 C2 hl
  simp only at C1 C2 hl
  have H1 := Lib.hid C1; have H2 := Lib.hid C2
  clear C1 C2 hA
  go_enter Try.func3, Try.ntmps3
  go_wp2_with (first
    | (go_at_call 8; go_must (refine (H1.out _).mono ?_; rintro e w1 ⟨V1, rfl, r1, b1⟩; obtain ⟨VA, VN, VC, rfl, -⟩ := r1.form))
    | (go_at_call 9; go_must (refine (H2.out _).mono ?_; rintro e w2 ⟨V2, rfl, r2, b2⟩; obtain ⟨UA, UN, UC, rfl, -⟩ := r2.form; have q1 := r1.keep b2; have s2 := b1.trans (b2.mono b1.size)))
    | (go_at_call 10; go_must (refine (same_any ts _ _ _ _ _ q1 r2 (by omega)).mono ?_; rintro e w3 ⟨rfl, b3⟩; have s3 := s2.trans (b3.mono s2.size)))
    | (go_at_call 11; go_must (refine (awake_any _).mono ?_; rintro e w5 ⟨rfl, b5⟩; have s5 := s3.trans (b5.mono s3.size))))
  go_returns
  exact ⟨rfl, s5⟩

end Go.Proofs.Ytnmmbpmgdicglaa
