/-
  The walk of the statement RatioMakes.
-/
import Derived.Test.YtlbepbddhnmmjaaDoorW16
namespace Go.Proofs.YtlbepbddhnmmjaaDoor
open Go.RowKit

set_option maxHeartbeats 4000000 in
theorem law_makes (n d m : Int) (w : World) (hn0 : -9223372036854775808 ≤ n) (hn1 : n ≤ 9223372036854775807) (hd0 : -9223372036854775808 ≤ d) (hd1 : d ≤ 9223372036854775807) (h : Env m w) :
    Calls Tryd.prog 4 #[.int .i64 n, .int .i64 d] w fun e w' => e = .returned (.bool true) ∧ Below w.heap.size w w' := by
  go_enter Tryd.func4, Tryd.ntmps4
  go_wp2_with (first
    | (go_at_call 17; refine (make_any n d _ hn0 hn1 hd0 hd1).mono ?_; rintro e w1 ⟨rfl, b1⟩; have h1 := (h.below b1).below (ba _ (.cells #[.int .i64 (mkN n d), .int .i64 (mkD n d)] 23)))
    | (go_at_call 18; refine (rmake_any n d _ hn0 hn1 hd0 hd1).mono ?_; rintro e w2 ⟨rfl, b2⟩; have h2 := (h1.below b2).below (ba _ (.cells #[.int .i64 (mkN n d), .int .i64 (mkD n d)] 23)); obtain ⟨p0, p1, p2⟩ := old2 (ba _ (.cells #[.int .i64 (mkN n d), .int .i64 (mkD n d)] 23)) (old2 b2 (new2 _ _ _ _)))
    | (go_at_call 16; refine (awake_any m _ h2).mono ?_; rintro e w3 ⟨rfl, b3⟩))
  go_returns
  exact ⟨rfl, by repeat' (first | with_reducible exact Below.refl _ _ | with_reducible exact Nat.le_refl _ | with_reducible assumption | with_reducible refine Below.trans ?_ (Below.mono (by assumption) ?_) | with_reducible refine Below.alloc ?_ ?_ _ | with_reducible refine le_alloc ?_ _ | with_reducible refine Nat.le_trans ?_ (Below.size (by assumption)))⟩

end Go.Proofs.YtlbepbddhnmmjaaDoor
