/-
  The walk of the statement RatioProducts.
-/
import Derived.Test.YtlbepbddhnmmjaaDoorW16
namespace Go.Proofs.YtlbepbddhnmmjaaDoor
open Go.RowKit

set_option maxHeartbeats 8000000 in
theorem law_products (a1 a2 b1 b2 m : Int) (w : World) (ha10 : -9223372036854775808 ≤ a1) (ha11 : a1 ≤ 9223372036854775807) (ha20 : -9223372036854775808 ≤ a2) (ha21 : a2 ≤ 9223372036854775807) (hb10 : -9223372036854775808 ≤ b1) (hb11 : b1 ≤ 9223372036854775807) (hb20 : -9223372036854775808 ≤ b2) (hb21 : b2 ≤ 9223372036854775807) (h : Env m w) :
    Calls Tryd.prog 6 #[.agg #[.int .i64 a1, .int .i64 a2], .agg #[.int .i64 b1, .int .i64 b2]] w fun e w' => e = .returned (.bool true) ∧ Below w.heap.size w w' := by
  obtain ⟨A0, B0⟩ := two_new w (.int .i64 a1) (.int .i64 a2) (.int .i64 b1) (.int .i64 b2) 23
  have h0 := (h.below (ba _ (.cells #[.int .i64 a1, .int .i64 a2] 23))).below (ba _ (.cells #[.int .i64 b1, .int .i64 b2] 23))
  obtain ⟨n1, hn1⟩ : ∃ n, arN (validB a1 a2 && validB b1 b2) (a1 * b1) (a2 * b2) = n := ⟨_, rfl⟩
  obtain ⟨d1, hd1⟩ : ∃ n, arD (validB a1 a2 && validB b1 b2) (a1 * b1) (a2 * b2) = n := ⟨_, rfl⟩
  obtain ⟨e1, he1⟩ : ∃ n, arE (validB a1 a2 && validB b1 b2) (a1 * b1) (a2 * b2) = n := ⟨_, rfl⟩
  obtain ⟨n2, hn2⟩ : ∃ n, arN (validB a1 a2 && validB b1 b2) (a1 * b2) (a2 * b1) = n := ⟨_, rfl⟩
  obtain ⟨d2, hd2⟩ : ∃ n, arD (validB a1 a2 && validB b1 b2) (a1 * b2) (a2 * b1) = n := ⟨_, rfl⟩
  obtain ⟨e2, he2⟩ : ∃ n, arE (validB a1 a2 && validB b1 b2) (a1 * b2) (a2 * b1) = n := ⟨_, rfl⟩
  have c1 := fun w => mul_any a1 a2 b1 b2 w ha10 ha11 ha20 ha21 hb10 hb11 hb20 hb21
  simp only [hn1, hd1, he1] at c1
  have c2 := fun w => rmul_any a1 a2 b1 b2 w ha10 ha11 ha20 ha21 hb10 hb11 hb20 hb21
  simp only [hn1, hd1, he1] at c2
  have c3 := fun w => quo_any a1 a2 b1 b2 w ha10 ha11 ha20 ha21 hb10 hb11 hb20 hb21
  simp only [hn2, hd2, he2] at c3
  have c4 := fun w => rquo_any a1 a2 b1 b2 w ha10 ha11 ha20 ha21 hb10 hb11 hb20 hb21
  simp only [hn2, hd2, he2] at c4
  clear hn1 hd1 he1 hn2 hd2 he2
  go_enter Tryd.func6, Tryd.ntmps6
  go_wp2_with (first
    | (go_at_call 23; refine (c1 _).mono ?_; rintro e w1 ⟨rfl, b1⟩; obtain ⟨A10, A11, A12⟩ := old2 (ba _ (.cells #[.int .i64 n1, .int .i64 d1] 23)) (old2 b1 A0); obtain ⟨B10, B11, B12⟩ := old2 (ba _ (.cells #[.int .i64 n1, .int .i64 d1] 23)) (old2 b1 B0); obtain ⟨X110, X111, X112⟩ := new2 w1 (.int .i64 n1) (.int .i64 d1) 23; have h1 := (h0.below b1).below (ba _ (.cells #[.int .i64 n1, .int .i64 d1] 23)))
    | (go_at_call 24; refine (c2 _).mono ?_; rintro e w2 ⟨rfl, b2⟩; obtain ⟨A20, A21, A22⟩ := old2 (ba _ (.cells #[.int .i64 n1, .int .i64 d1] 23)) (old2 b2 ⟨A10, A11, A12⟩); obtain ⟨B20, B21, B22⟩ := old2 (ba _ (.cells #[.int .i64 n1, .int .i64 d1] 23)) (old2 b2 ⟨B10, B11, B12⟩); obtain ⟨X120, X121, X122⟩ := old2 (ba _ (.cells #[.int .i64 n1, .int .i64 d1] 23)) (old2 b2 ⟨X110, X111, X112⟩); obtain ⟨X220, X221, X222⟩ := new2 w2 (.int .i64 n1) (.int .i64 d1) 23; have h2 := (h1.below b2).below (ba _ (.cells #[.int .i64 n1, .int .i64 d1] 23)))
    | (go_at_call 25; refine (c3 _).mono ?_; rintro e w3 ⟨rfl, b3⟩; obtain ⟨A30, A31, A32⟩ := old2 (ba _ (.cells #[.int .i64 n2, .int .i64 d2] 23)) (old2 b3 ⟨A20, A21, A22⟩); obtain ⟨B30, B31, B32⟩ := old2 (ba _ (.cells #[.int .i64 n2, .int .i64 d2] 23)) (old2 b3 ⟨B20, B21, B22⟩); obtain ⟨X130, X131, X132⟩ := old2 (ba _ (.cells #[.int .i64 n2, .int .i64 d2] 23)) (old2 b3 ⟨X120, X121, X122⟩); obtain ⟨X230, X231, X232⟩ := old2 (ba _ (.cells #[.int .i64 n2, .int .i64 d2] 23)) (old2 b3 ⟨X220, X221, X222⟩); obtain ⟨X330, X331, X332⟩ := new2 w3 (.int .i64 n2) (.int .i64 d2) 23; have h3 := (h2.below b3).below (ba _ (.cells #[.int .i64 n2, .int .i64 d2] 23)))
    | (go_at_call 26; refine (c4 _).mono ?_; rintro e w4 ⟨rfl, b4⟩; obtain ⟨A40, A41, A42⟩ := old2 (ba _ (.cells #[.int .i64 n2, .int .i64 d2] 23)) (old2 b4 ⟨A30, A31, A32⟩); obtain ⟨B40, B41, B42⟩ := old2 (ba _ (.cells #[.int .i64 n2, .int .i64 d2] 23)) (old2 b4 ⟨B30, B31, B32⟩); obtain ⟨X140, X141, X142⟩ := old2 (ba _ (.cells #[.int .i64 n2, .int .i64 d2] 23)) (old2 b4 ⟨X130, X131, X132⟩); obtain ⟨X240, X241, X242⟩ := old2 (ba _ (.cells #[.int .i64 n2, .int .i64 d2] 23)) (old2 b4 ⟨X230, X231, X232⟩); obtain ⟨X340, X341, X342⟩ := old2 (ba _ (.cells #[.int .i64 n2, .int .i64 d2] 23)) (old2 b4 ⟨X330, X331, X332⟩); obtain ⟨X440, X441, X442⟩ := new2 w4 (.int .i64 n2) (.int .i64 d2) 23; have h4 := (h3.below b4).below (ba _ (.cells #[.int .i64 n2, .int .i64 d2] 23)))
    | (go_at_call 16; refine (awake_any m _ h4).mono ?_; rintro e w5 ⟨rfl, b5⟩))
  go_returns
  exact ⟨rfl, by repeat' (first | with_reducible exact Below.refl _ _ | with_reducible exact Nat.le_refl _ | with_reducible assumption | with_reducible refine Below.trans ?_ (Below.mono (by assumption) ?_) | with_reducible refine Below.alloc ?_ ?_ _ | with_reducible refine le_alloc ?_ _ | with_reducible refine Nat.le_trans ?_ (Below.size (by assumption)))⟩

end Go.Proofs.YtlbepbddhnmmjaaDoor
