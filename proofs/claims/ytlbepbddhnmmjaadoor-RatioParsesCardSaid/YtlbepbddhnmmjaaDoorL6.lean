/-
  The walk of the statement RatioParses.
-/
import Derived.Test.YtlbepbddhnmmjaaDoorW16
namespace Go.Proofs.YtlbepbddhnmmjaaDoor
open Go.RowKit

set_option maxHeartbeats 4000000 in
theorem law_parses (s : ByteArray) (m : Int) (w : World) (_hs : s.size ≤ 9223372036854775807) (h : Env m w) :
    Calls Tryd.prog 8 #[.string s] w fun e w' => e = .returned (.bool true) ∧ Below w.heap.size w w' := by
  by_cases hl : 200 < s.size
  · go_enter Tryd.func8, Tryd.ntmps8
    go_wp2_with (go_at_call 16; refine (awake_any m _ h).mono ?_; rintro e w3 ⟨rfl, b3⟩)
    go_returns
    exact ⟨rfl, by repeat' (first | with_reducible exact Below.refl _ _ | with_reducible exact Nat.le_refl _ | with_reducible assumption | with_reducible refine Below.trans ?_ (Below.mono (by assumption) ?_) | with_reducible refine Below.alloc ?_ ?_ _ | with_reducible refine le_alloc ?_ _ | with_reducible refine Nat.le_trans ?_ (Below.size (by assumption)))⟩
  · have hs : s.size ≤ 1000000 := by omega
    obtain ⟨n1, hn1⟩ : ∃ n, psN s.data.toList = n := ⟨_, rfl⟩
    obtain ⟨d1, hd1⟩ : ∃ n, psD s.data.toList = n := ⟨_, rfl⟩
    obtain ⟨e1, he1⟩ : ∃ n, psE s.data.toList = n := ⟨_, rfl⟩
    have c1 := fun w (h : Env m w) => parse_any s m w hs h.2.1 h.2.2.2
    have c2 := fun w => rparse_any s w hs
    simp only [hn1, hd1, he1] at c1 c2
    clear hn1 hd1 he1
    go_enter Tryd.func8, Tryd.ntmps8
    go_wp2_with (first
      | (go_at_call 35; refine (c1 _ h).mono ?_; rintro e w1 ⟨rfl, b1⟩; have h1 := (h.below b1).below (ba _ (.cells #[.int .i64 n1, .int .i64 d1] 23)))
      | (go_at_call 36; refine (c2 _).mono ?_; rintro e w2 ⟨rfl, b2⟩; have h2 := (h1.below b2).below (ba _ (.cells #[.int .i64 n1, .int .i64 d1] 23)); obtain ⟨p0, p1, p2⟩ := old2 (ba _ (.cells #[.int .i64 n1, .int .i64 d1] 23)) (old2 b2 (new2 _ _ _ _)))
      | (go_at_call 16; refine (awake_any m _ h2).mono ?_; rintro e w3 ⟨rfl, b3⟩))
    go_returns
    exact ⟨rfl, by repeat' (first | with_reducible exact Below.refl _ _ | with_reducible exact Nat.le_refl _ | with_reducible assumption | with_reducible refine Below.trans ?_ (Below.mono (by assumption) ?_) | with_reducible refine Below.alloc ?_ ?_ _ | with_reducible refine le_alloc ?_ _ | with_reducible refine Nat.le_trans ?_ (Below.size (by assumption)))⟩

end Go.Proofs.YtlbepbddhnmmjaaDoor
