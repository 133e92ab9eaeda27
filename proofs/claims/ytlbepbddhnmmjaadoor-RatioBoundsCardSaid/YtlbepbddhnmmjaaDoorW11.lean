/-
  The walk of the specification's Parse, way by way.
-/
import Derived.Test.YtlbepbddhnmmjaaDoorW3
import Derived.Test.YtlbepbddhnmmjaaDoorW8
namespace Go.Proofs.YtlbepbddhnmmjaaDoor
open Go.RowKit
set_option linter.unusedVariables false

theorem slash_at (s : ByteArray) (k : Nat) (w : World) (hs : s.size ≤ 1000000) (hk : Hid (k = slashI s.data.toList)) :
    Calls Tryd.prog 52 #[.string s] w fun e w' => e = .returned (.int .i64 k) ∧ w' = w := by
  rw [hk.out]; exact slash_any s w hs
theorem rnum_yes (s : ByteArray) (n : Nat) (w : World) (hs : s.size ≤ 1000000) (hd : Hid (decB s.data.toList = true)) (hn : Hid (n = numV s.data.toList)) :
    Calls Tryd.prog 53 #[.string s] w fun e w' => e = .returned (.tuple #[.int .i64 n, .bool true]) ∧ w' = w := by
  have h := rnum_any s w hs
  rw [rnV, hd.out, if_pos rfl, ← hn.out] at h; exact h
theorem rnum_no (s : ByteArray) (w : World) (hs : s.size ≤ 1000000) (hd : Hid (decB s.data.toList = false)) :
    Calls Tryd.prog 53 #[.string s] w fun e w' => e = .returned (.tuple #[.int .i64 0, .bool false]) ∧ w' = w := by
  have h := rnum_any s w hs
  rw [rnV, hd.out, if_neg (by simp)] at h; exact h
theorem gcd_eq (a b : Nat) (x : Int) (w : World) (hg : Hid (x = (Nat.gcd a b : Nat))) (h0 : a < 18446744073709551616) (h1 : b < 18446744073709551616) :
    Calls Tryd.prog 41 #[.int .u64 a, .int .u64 b] w fun e w' => e = .returned (.int .u64 x) ∧ w' = w := by
  rw [hg.out]; exact (gcd_any b a b w (Nat.le_refl _) h0 h1).mono fun _ _ h => ⟨h.1, h.2.symm⟩

set_option maxHeartbeats 4000000 in
theorem rparse_e_an (s a b : ByteArray) (k : Nat) (w : World) (he : s.toList = []) (sr : s.size ≤ 1000000) (hk : Hid (k = slashI s.data.toList)) (lk : k ≤ s.size) (hx2 : s.extract 0 k = a) (sa : a.size ≤ 1000000) (da : Hid (decB a.data.toList = false)) :
    Calls Tryd.prog 36 #[.string s] w fun e w' => e = .returned (.tuple #[.agg #[.int .i64 0, .int .i64 0], .int .i64 4]) ∧ Below w.heap.size w w' := by
  go_enter Tryd.func36, Tryd.ntmps36
  go_wp2_with (first | (go_at_call 52; refine (slash_at _ k _ sr hk).mono ?_; rintro e w' ⟨rfl, rfl⟩) | (go_at_call_of 53 (Value.string a); refine (rnum_no _ _ sa da).mono ?_; rintro e w' ⟨rfl, rfl⟩))
  go_returns
  exact ⟨rfl, by (repeat' (first | with_reducible exact Below.refl _ _ | with_reducible exact Nat.le_refl _ | with_reducible assumption | with_reducible refine below_drewN ?_ _ | with_reducible refine Below.alloc ?_ ?_ _ | with_reducible refine Below.setCell ?_ ?_ _ | with_reducible refine le_alloc ?_ _ | with_reducible refine le_setCell ?_ _ _ | with_reducible refine le_drewN ?_ _ | exact Nat.le_refl _ | (simp; done) | (simp; omega)))⟩

set_option maxHeartbeats 4000000 in
theorem rparse_e_o (s a b : ByteArray) (k : Nat) (w : World) (he : s.toList = []) (sr : s.size ≤ 1000000) (hk : Hid (k = slashI s.data.toList)) (lk : k ≤ s.size) (hx2 : s.extract 0 k = a) (sa : a.size ≤ 1000000) (na : Nat) (da : Hid (decB a.data.toList = true)) (ea : Hid (na = numV a.data.toList)) (la : na ≤ 1073741825) (hf : s.size ≤ k) (hn : 1073741824 < na) :
    Calls Tryd.prog 36 #[.string s] w fun e w' => e = .returned (.tuple #[.agg #[.int .i64 0, .int .i64 0], .int .i64 3]) ∧ Below w.heap.size w w' := by
  go_enter Tryd.func36, Tryd.ntmps36
  go_wp2_with (first | (go_at_call 52; refine (slash_at _ k _ sr hk).mono ?_; rintro e w' ⟨rfl, rfl⟩) | (go_at_call_of 53 (Value.string a); refine (rnum_yes _ na _ sa da ea).mono ?_; rintro e w' ⟨rfl, rfl⟩))
  go_returns
  exact ⟨rfl, by (repeat' (first | with_reducible exact Below.refl _ _ | with_reducible exact Nat.le_refl _ | with_reducible assumption | with_reducible refine below_drewN ?_ _ | with_reducible refine Below.alloc ?_ ?_ _ | with_reducible refine Below.setCell ?_ ?_ _ | with_reducible refine le_alloc ?_ _ | with_reducible refine le_setCell ?_ _ _ | with_reducible refine le_drewN ?_ _ | exact Nat.le_refl _ | (simp; done) | (simp; omega)))⟩

set_option maxHeartbeats 4000000 in
theorem rparse_e_y (s a b : ByteArray) (k : Nat) (w : World) (he : s.toList = []) (sr : s.size ≤ 1000000) (hk : Hid (k = slashI s.data.toList)) (lk : k ≤ s.size) (hx2 : s.extract 0 k = a) (sa : a.size ≤ 1000000) (na : Nat) (da : Hid (decB a.data.toList = true)) (ea : Hid (na = numV a.data.toList)) (la : na ≤ 1073741825) (hf : s.size ≤ k) (hn : na ≤ 1073741824) :
    Calls Tryd.prog 36 #[.string s] w fun e w' => e = .returned (.tuple #[.agg #[.int .i64 na, .int .i64 1], .int .i64 0]) ∧ Below w.heap.size w w' := by
  go_enter Tryd.func36, Tryd.ntmps36
  go_wp2_with (first | (go_at_call 52; refine (slash_at _ k _ sr hk).mono ?_; rintro e w' ⟨rfl, rfl⟩) | (go_at_call_of 53 (Value.string a); refine (rnum_yes _ na _ sa da ea).mono ?_; rintro e w' ⟨rfl, rfl⟩))
  go_returns
  exact ⟨rfl, by (repeat' (first | with_reducible exact Below.refl _ _ | with_reducible exact Nat.le_refl _ | with_reducible assumption | with_reducible refine below_drewN ?_ _ | with_reducible refine Below.alloc ?_ ?_ _ | with_reducible refine Below.setCell ?_ ?_ _ | with_reducible refine le_alloc ?_ _ | with_reducible refine le_setCell ?_ _ _ | with_reducible refine le_drewN ?_ _ | exact Nat.le_refl _ | (simp; done) | (simp; omega)))⟩

set_option maxHeartbeats 4000000 in
theorem rparse_e_bn (s a b : ByteArray) (k : Nat) (w : World) (he : s.toList = []) (sr : s.size ≤ 1000000) (hk : Hid (k = slashI s.data.toList)) (lk : k ≤ s.size) (hx2 : s.extract 0 k = a) (sa : a.size ≤ 1000000) (na : Nat) (da : Hid (decB a.data.toList = true)) (ea : Hid (na = numV a.data.toList)) (la : na ≤ 1073741825) (hf : k < s.size) (hx3 : s.extract (k + 1) s.size = b) (sb : b.size ≤ 1000000) (db : Hid (decB b.data.toList = false)) :
    Calls Tryd.prog 36 #[.string s] w fun e w' => e = .returned (.tuple #[.agg #[.int .i64 0, .int .i64 0], .int .i64 4]) ∧ Below w.heap.size w w' := by
  go_enter Tryd.func36, Tryd.ntmps36
  go_wp2_with (first | (go_at_call 52; refine (slash_at _ k _ sr hk).mono ?_; rintro e w' ⟨rfl, rfl⟩) | (go_at_call_of 53 (Value.string a); refine (rnum_yes _ na _ sa da ea).mono ?_; rintro e w' ⟨rfl, rfl⟩) | (go_at_call_of 53 (Value.string b); refine (rnum_no _ _ sb db).mono ?_; rintro e w' ⟨rfl, rfl⟩))
  go_returns
  exact ⟨rfl, by (repeat' (first | with_reducible exact Below.refl _ _ | with_reducible exact Nat.le_refl _ | with_reducible assumption | with_reducible refine below_drewN ?_ _ | with_reducible refine Below.alloc ?_ ?_ _ | with_reducible refine Below.setCell ?_ ?_ _ | with_reducible refine le_alloc ?_ _ | with_reducible refine le_setCell ?_ _ _ | with_reducible refine le_drewN ?_ _ | exact Nat.le_refl _ | (simp; done) | (simp; omega)))⟩

set_option maxHeartbeats 4000000 in
theorem rparse_e_fo1 (s a b : ByteArray) (k : Nat) (w : World) (he : s.toList = []) (sr : s.size ≤ 1000000) (hk : Hid (k = slashI s.data.toList)) (lk : k ≤ s.size) (hx2 : s.extract 0 k = a) (sa : a.size ≤ 1000000) (na : Nat) (da : Hid (decB a.data.toList = true)) (ea : Hid (na = numV a.data.toList)) (la : na ≤ 1073741825) (hf : k < s.size) (hx3 : s.extract (k + 1) s.size = b) (sb : b.size ≤ 1000000) (nb : Nat) (db : Hid (decB b.data.toList = true)) (eb : Hid (nb = numV b.data.toList)) (lb : nb ≤ 1073741825) (hn : 1073741824 < na) :
    Calls Tryd.prog 36 #[.string s] w fun e w' => e = .returned (.tuple #[.agg #[.int .i64 0, .int .i64 0], .int .i64 3]) ∧ Below w.heap.size w w' := by
  go_enter Tryd.func36, Tryd.ntmps36
  go_wp2_with (first | (go_at_call 52; refine (slash_at _ k _ sr hk).mono ?_; rintro e w' ⟨rfl, rfl⟩) | (go_at_call_of 53 (Value.string a); refine (rnum_yes _ na _ sa da ea).mono ?_; rintro e w' ⟨rfl, rfl⟩) | (go_at_call_of 53 (Value.string b); refine (rnum_yes _ nb _ sb db eb).mono ?_; rintro e w' ⟨rfl, rfl⟩))
  go_returns
  exact ⟨rfl, by (repeat' (first | with_reducible exact Below.refl _ _ | with_reducible exact Nat.le_refl _ | with_reducible assumption | with_reducible refine below_drewN ?_ _ | with_reducible refine Below.alloc ?_ ?_ _ | with_reducible refine Below.setCell ?_ ?_ _ | with_reducible refine le_alloc ?_ _ | with_reducible refine le_setCell ?_ _ _ | with_reducible refine le_drewN ?_ _ | exact Nat.le_refl _ | (simp; done) | (simp; omega)))⟩

set_option maxHeartbeats 4000000 in
theorem rparse_e_fo2 (s a b : ByteArray) (k : Nat) (w : World) (he : s.toList = []) (sr : s.size ≤ 1000000) (hk : Hid (k = slashI s.data.toList)) (lk : k ≤ s.size) (hx2 : s.extract 0 k = a) (sa : a.size ≤ 1000000) (na : Nat) (da : Hid (decB a.data.toList = true)) (ea : Hid (na = numV a.data.toList)) (la : na ≤ 1073741825) (hf : k < s.size) (hx3 : s.extract (k + 1) s.size = b) (sb : b.size ≤ 1000000) (nb : Nat) (db : Hid (decB b.data.toList = true)) (eb : Hid (nb = numV b.data.toList)) (lb : nb ≤ 1073741825) (hn : na ≤ 1073741824) (hn2 : 1073741824 < nb) :
    Calls Tryd.prog 36 #[.string s] w fun e w' => e = .returned (.tuple #[.agg #[.int .i64 0, .int .i64 0], .int .i64 3]) ∧ Below w.heap.size w w' := by
  go_enter Tryd.func36, Tryd.ntmps36
  go_wp2_with (first | (go_at_call 52; refine (slash_at _ k _ sr hk).mono ?_; rintro e w' ⟨rfl, rfl⟩) | (go_at_call_of 53 (Value.string a); refine (rnum_yes _ na _ sa da ea).mono ?_; rintro e w' ⟨rfl, rfl⟩) | (go_at_call_of 53 (Value.string b); refine (rnum_yes _ nb _ sb db eb).mono ?_; rintro e w' ⟨rfl, rfl⟩))
  go_returns
  exact ⟨rfl, by (repeat' (first | with_reducible exact Below.refl _ _ | with_reducible exact Nat.le_refl _ | with_reducible assumption | with_reducible refine below_drewN ?_ _ | with_reducible refine Below.alloc ?_ ?_ _ | with_reducible refine Below.setCell ?_ ?_ _ | with_reducible refine le_alloc ?_ _ | with_reducible refine le_setCell ?_ _ _ | with_reducible refine le_drewN ?_ _ | exact Nat.le_refl _ | (simp; done) | (simp; omega)))⟩

set_option maxHeartbeats 4000000 in
theorem rparse_e_fl (s a b : ByteArray) (k : Nat) (w : World) (he : s.toList = []) (sr : s.size ≤ 1000000) (hk : Hid (k = slashI s.data.toList)) (lk : k ≤ s.size) (hx2 : s.extract 0 k = a) (sa : a.size ≤ 1000000) (na : Nat) (da : Hid (decB a.data.toList = true)) (ea : Hid (na = numV a.data.toList)) (la : na ≤ 1073741825) (hf : k < s.size) (hx3 : s.extract (k + 1) s.size = b) (sb : b.size ≤ 1000000) (nb : Nat) (db : Hid (decB b.data.toList = true)) (eb : Hid (nb = numV b.data.toList)) (lb : nb ≤ 1073741825) (hn : na ≤ 1073741824) (hn2 : nb < 2) :
    Calls Tryd.prog 36 #[.string s] w fun e w' => e = .returned (.tuple #[.agg #[.int .i64 0, .int .i64 0], .int .i64 4]) ∧ Below w.heap.size w w' := by
  go_enter Tryd.func36, Tryd.ntmps36
  go_wp2_with (first | (go_at_call 52; refine (slash_at _ k _ sr hk).mono ?_; rintro e w' ⟨rfl, rfl⟩) | (go_at_call_of 53 (Value.string a); refine (rnum_yes _ na _ sa da ea).mono ?_; rintro e w' ⟨rfl, rfl⟩) | (go_at_call_of 53 (Value.string b); refine (rnum_yes _ nb _ sb db eb).mono ?_; rintro e w' ⟨rfl, rfl⟩))
  go_returns
  exact ⟨rfl, by (repeat' (first | with_reducible exact Below.refl _ _ | with_reducible exact Nat.le_refl _ | with_reducible assumption | with_reducible refine below_drewN ?_ _ | with_reducible refine Below.alloc ?_ ?_ _ | with_reducible refine Below.setCell ?_ ?_ _ | with_reducible refine le_alloc ?_ _ | with_reducible refine le_setCell ?_ _ _ | with_reducible refine le_drewN ?_ _ | exact Nat.le_refl _ | (simp; done) | (simp; omega)))⟩

set_option maxHeartbeats 4000000 in
theorem rparse_e_fg (s a b : ByteArray) (k : Nat) (w : World) (he : s.toList = []) (sr : s.size ≤ 1000000) (hk : Hid (k = slashI s.data.toList)) (lk : k ≤ s.size) (hx2 : s.extract 0 k = a) (sa : a.size ≤ 1000000) (na : Nat) (da : Hid (decB a.data.toList = true)) (ea : Hid (na = numV a.data.toList)) (la : na ≤ 1073741825) (hf : k < s.size) (hx3 : s.extract (k + 1) s.size = b) (sb : b.size ≤ 1000000) (nb : Nat) (db : Hid (decB b.data.toList = true)) (eb : Hid (nb = numV b.data.toList)) (lb : nb ≤ 1073741825) (hn : na ≤ 1073741824) (hn2 : nb ≤ 1073741824) (hn3 : 2 ≤ nb) (x : Int) (hg : Hid (x = (Nat.gcd na nb : Nat))) (hx : (x != 1) = true) :
    Calls Tryd.prog 36 #[.string s] w fun e w' => e = .returned (.tuple #[.agg #[.int .i64 0, .int .i64 0], .int .i64 4]) ∧ Below w.heap.size w w' := by
  have ga : na < 18446744073709551616 := by omega
  have gb : nb < 18446744073709551616 := by omega
  go_enter Tryd.func36, Tryd.ntmps36
  go_wp2_with (first | (go_at_call 52; refine (slash_at _ k _ sr hk).mono ?_; rintro e w' ⟨rfl, rfl⟩) | (go_at_call_of 53 (Value.string a); refine (rnum_yes _ na _ sa da ea).mono ?_; rintro e w' ⟨rfl, rfl⟩) | (go_at_call_of 53 (Value.string b); refine (rnum_yes _ nb _ sb db eb).mono ?_; rintro e w' ⟨rfl, rfl⟩) | (go_at_call 41; refine (gcd_eq na nb x _ hg ga gb).mono ?_; rintro e w' ⟨rfl, rfl⟩))
  go_returns
  exact ⟨rfl, by (repeat' (first | with_reducible exact Below.refl _ _ | with_reducible exact Nat.le_refl _ | with_reducible assumption | with_reducible refine below_drewN ?_ _ | with_reducible refine Below.alloc ?_ ?_ _ | with_reducible refine Below.setCell ?_ ?_ _ | with_reducible refine le_alloc ?_ _ | with_reducible refine le_setCell ?_ _ _ | with_reducible refine le_drewN ?_ _ | exact Nat.le_refl _ | (simp; done) | (simp; omega)))⟩

set_option maxHeartbeats 4000000 in
theorem rparse_e_fy (s a b : ByteArray) (k : Nat) (w : World) (he : s.toList = []) (sr : s.size ≤ 1000000) (hk : Hid (k = slashI s.data.toList)) (lk : k ≤ s.size) (hx2 : s.extract 0 k = a) (sa : a.size ≤ 1000000) (na : Nat) (da : Hid (decB a.data.toList = true)) (ea : Hid (na = numV a.data.toList)) (la : na ≤ 1073741825) (hf : k < s.size) (hx3 : s.extract (k + 1) s.size = b) (sb : b.size ≤ 1000000) (nb : Nat) (db : Hid (decB b.data.toList = true)) (eb : Hid (nb = numV b.data.toList)) (lb : nb ≤ 1073741825) (hn : na ≤ 1073741824) (hn2 : nb ≤ 1073741824) (hn3 : 2 ≤ nb) (x : Int) (hg : Hid (x = (Nat.gcd na nb : Nat))) (hx : (x != 1) = false) :
    Calls Tryd.prog 36 #[.string s] w fun e w' => e = .returned (.tuple #[.agg #[.int .i64 na, .int .i64 nb], .int .i64 0]) ∧ Below w.heap.size w w' := by
  have ga : na < 18446744073709551616 := by omega
  have gb : nb < 18446744073709551616 := by omega
  go_enter Tryd.func36, Tryd.ntmps36
  go_wp2_with (first | (go_at_call 52; refine (slash_at _ k _ sr hk).mono ?_; rintro e w' ⟨rfl, rfl⟩) | (go_at_call_of 53 (Value.string a); refine (rnum_yes _ na _ sa da ea).mono ?_; rintro e w' ⟨rfl, rfl⟩) | (go_at_call_of 53 (Value.string b); refine (rnum_yes _ nb _ sb db eb).mono ?_; rintro e w' ⟨rfl, rfl⟩) | (go_at_call 41; refine (gcd_eq na nb x _ hg ga gb).mono ?_; rintro e w' ⟨rfl, rfl⟩))
  go_returns
  exact ⟨rfl, by (repeat' (first | with_reducible exact Below.refl _ _ | with_reducible exact Nat.le_refl _ | with_reducible assumption | with_reducible refine below_drewN ?_ _ | with_reducible refine Below.alloc ?_ ?_ _ | with_reducible refine Below.setCell ?_ ?_ _ | with_reducible refine le_alloc ?_ _ | with_reducible refine le_setCell ?_ _ _ | with_reducible refine le_drewN ?_ _ | exact Nat.le_refl _ | (simp; done) | (simp; omega)))⟩

set_option maxHeartbeats 4000000 in
theorem rparse_p_an (s a b : ByteArray) (k : Nat) (w : World) (he : s.toList.isEmpty = false) (hp : 0 < s.size) (h45 : ((s[0].toNat : Int) == 45) = false) (sr : s.size ≤ 1000000) (hk : Hid (k = slashI s.data.toList)) (lk : k ≤ s.size) (hx2 : s.extract 0 k = a) (sa : a.size ≤ 1000000) (da : Hid (decB a.data.toList = false)) :
    Calls Tryd.prog 36 #[.string s] w fun e w' => e = .returned (.tuple #[.agg #[.int .i64 0, .int .i64 0], .int .i64 4]) ∧ Below w.heap.size w w' := by
  go_enter Tryd.func36, Tryd.ntmps36
  go_wp2_with (first | (go_at_call 52; refine (slash_at _ k _ sr hk).mono ?_; rintro e w' ⟨rfl, rfl⟩) | (go_at_call_of 53 (Value.string a); refine (rnum_no _ _ sa da).mono ?_; rintro e w' ⟨rfl, rfl⟩))
  go_returns
  exact ⟨rfl, by (repeat' (first | with_reducible exact Below.refl _ _ | with_reducible exact Nat.le_refl _ | with_reducible assumption | with_reducible refine below_drewN ?_ _ | with_reducible refine Below.alloc ?_ ?_ _ | with_reducible refine Below.setCell ?_ ?_ _ | with_reducible refine le_alloc ?_ _ | with_reducible refine le_setCell ?_ _ _ | with_reducible refine le_drewN ?_ _ | exact Nat.le_refl _ | (simp; done) | (simp; omega)))⟩

set_option maxHeartbeats 4000000 in
theorem rparse_p_o (s a b : ByteArray) (k : Nat) (w : World) (he : s.toList.isEmpty = false) (hp : 0 < s.size) (h45 : ((s[0].toNat : Int) == 45) = false) (sr : s.size ≤ 1000000) (hk : Hid (k = slashI s.data.toList)) (lk : k ≤ s.size) (hx2 : s.extract 0 k = a) (sa : a.size ≤ 1000000) (na : Nat) (da : Hid (decB a.data.toList = true)) (ea : Hid (na = numV a.data.toList)) (la : na ≤ 1073741825) (hf : s.size ≤ k) (hn : 1073741824 < na) :
    Calls Tryd.prog 36 #[.string s] w fun e w' => e = .returned (.tuple #[.agg #[.int .i64 0, .int .i64 0], .int .i64 3]) ∧ Below w.heap.size w w' := by
  go_enter Tryd.func36, Tryd.ntmps36
  go_wp2_with (first | (go_at_call 52; refine (slash_at _ k _ sr hk).mono ?_; rintro e w' ⟨rfl, rfl⟩) | (go_at_call_of 53 (Value.string a); refine (rnum_yes _ na _ sa da ea).mono ?_; rintro e w' ⟨rfl, rfl⟩))
  go_returns
  exact ⟨rfl, by (repeat' (first | with_reducible exact Below.refl _ _ | with_reducible exact Nat.le_refl _ | with_reducible assumption | with_reducible refine below_drewN ?_ _ | with_reducible refine Below.alloc ?_ ?_ _ | with_reducible refine Below.setCell ?_ ?_ _ | with_reducible refine le_alloc ?_ _ | with_reducible refine le_setCell ?_ _ _ | with_reducible refine le_drewN ?_ _ | exact Nat.le_refl _ | (simp; done) | (simp; omega)))⟩

set_option maxHeartbeats 4000000 in
theorem rparse_p_y (s a b : ByteArray) (k : Nat) (w : World) (he : s.toList.isEmpty = false) (hp : 0 < s.size) (h45 : ((s[0].toNat : Int) == 45) = false) (sr : s.size ≤ 1000000) (hk : Hid (k = slashI s.data.toList)) (lk : k ≤ s.size) (hx2 : s.extract 0 k = a) (sa : a.size ≤ 1000000) (na : Nat) (da : Hid (decB a.data.toList = true)) (ea : Hid (na = numV a.data.toList)) (la : na ≤ 1073741825) (hf : s.size ≤ k) (hn : na ≤ 1073741824) :
    Calls Tryd.prog 36 #[.string s] w fun e w' => e = .returned (.tuple #[.agg #[.int .i64 na, .int .i64 1], .int .i64 0]) ∧ Below w.heap.size w w' := by
  go_enter Tryd.func36, Tryd.ntmps36
  go_wp2_with (first | (go_at_call 52; refine (slash_at _ k _ sr hk).mono ?_; rintro e w' ⟨rfl, rfl⟩) | (go_at_call_of 53 (Value.string a); refine (rnum_yes _ na _ sa da ea).mono ?_; rintro e w' ⟨rfl, rfl⟩))
  go_returns
  exact ⟨rfl, by (repeat' (first | with_reducible exact Below.refl _ _ | with_reducible exact Nat.le_refl _ | with_reducible assumption | with_reducible refine below_drewN ?_ _ | with_reducible refine Below.alloc ?_ ?_ _ | with_reducible refine Below.setCell ?_ ?_ _ | with_reducible refine le_alloc ?_ _ | with_reducible refine le_setCell ?_ _ _ | with_reducible refine le_drewN ?_ _ | exact Nat.le_refl _ | (simp; done) | (simp; omega)))⟩

set_option maxHeartbeats 4000000 in
theorem rparse_p_bn (s a b : ByteArray) (k : Nat) (w : World) (he : s.toList.isEmpty = false) (hp : 0 < s.size) (h45 : ((s[0].toNat : Int) == 45) = false) (sr : s.size ≤ 1000000) (hk : Hid (k = slashI s.data.toList)) (lk : k ≤ s.size) (hx2 : s.extract 0 k = a) (sa : a.size ≤ 1000000) (na : Nat) (da : Hid (decB a.data.toList = true)) (ea : Hid (na = numV a.data.toList)) (la : na ≤ 1073741825) (hf : k < s.size) (hx3 : s.extract (k + 1) s.size = b) (sb : b.size ≤ 1000000) (db : Hid (decB b.data.toList = false)) :
    Calls Tryd.prog 36 #[.string s] w fun e w' => e = .returned (.tuple #[.agg #[.int .i64 0, .int .i64 0], .int .i64 4]) ∧ Below w.heap.size w w' := by
  go_enter Tryd.func36, Tryd.ntmps36
  go_wp2_with (first | (go_at_call 52; refine (slash_at _ k _ sr hk).mono ?_; rintro e w' ⟨rfl, rfl⟩) | (go_at_call_of 53 (Value.string a); refine (rnum_yes _ na _ sa da ea).mono ?_; rintro e w' ⟨rfl, rfl⟩) | (go_at_call_of 53 (Value.string b); refine (rnum_no _ _ sb db).mono ?_; rintro e w' ⟨rfl, rfl⟩))
  go_returns
  exact ⟨rfl, by (repeat' (first | with_reducible exact Below.refl _ _ | with_reducible exact Nat.le_refl _ | with_reducible assumption | with_reducible refine below_drewN ?_ _ | with_reducible refine Below.alloc ?_ ?_ _ | with_reducible refine Below.setCell ?_ ?_ _ | with_reducible refine le_alloc ?_ _ | with_reducible refine le_setCell ?_ _ _ | with_reducible refine le_drewN ?_ _ | exact Nat.le_refl _ | (simp; done) | (simp; omega)))⟩

set_option maxHeartbeats 4000000 in
theorem rparse_p_fo1 (s a b : ByteArray) (k : Nat) (w : World) (he : s.toList.isEmpty = false) (hp : 0 < s.size) (h45 : ((s[0].toNat : Int) == 45) = false) (sr : s.size ≤ 1000000) (hk : Hid (k = slashI s.data.toList)) (lk : k ≤ s.size) (hx2 : s.extract 0 k = a) (sa : a.size ≤ 1000000) (na : Nat) (da : Hid (decB a.data.toList = true)) (ea : Hid (na = numV a.data.toList)) (la : na ≤ 1073741825) (hf : k < s.size) (hx3 : s.extract (k + 1) s.size = b) (sb : b.size ≤ 1000000) (nb : Nat) (db : Hid (decB b.data.toList = true)) (eb : Hid (nb = numV b.data.toList)) (lb : nb ≤ 1073741825) (hn : 1073741824 < na) :
    Calls Tryd.prog 36 #[.string s] w fun e w' => e = .returned (.tuple #[.agg #[.int .i64 0, .int .i64 0], .int .i64 3]) ∧ Below w.heap.size w w' := by
  go_enter Tryd.func36, Tryd.ntmps36
  go_wp2_with (first | (go_at_call 52; refine (slash_at _ k _ sr hk).mono ?_; rintro e w' ⟨rfl, rfl⟩) | (go_at_call_of 53 (Value.string a); refine (rnum_yes _ na _ sa da ea).mono ?_; rintro e w' ⟨rfl, rfl⟩) | (go_at_call_of 53 (Value.string b); refine (rnum_yes _ nb _ sb db eb).mono ?_; rintro e w' ⟨rfl, rfl⟩))
  go_returns
  exact ⟨rfl, by (repeat' (first | with_reducible exact Below.refl _ _ | with_reducible exact Nat.le_refl _ | with_reducible assumption | with_reducible refine below_drewN ?_ _ | with_reducible refine Below.alloc ?_ ?_ _ | with_reducible refine Below.setCell ?_ ?_ _ | with_reducible refine le_alloc ?_ _ | with_reducible refine le_setCell ?_ _ _ | with_reducible refine le_drewN ?_ _ | exact Nat.le_refl _ | (simp; done) | (simp; omega)))⟩

set_option maxHeartbeats 4000000 in
theorem rparse_p_fo2 (s a b : ByteArray) (k : Nat) (w : World) (he : s.toList.isEmpty = false) (hp : 0 < s.size) (h45 : ((s[0].toNat : Int) == 45) = false) (sr : s.size ≤ 1000000) (hk : Hid (k = slashI s.data.toList)) (lk : k ≤ s.size) (hx2 : s.extract 0 k = a) (sa : a.size ≤ 1000000) (na : Nat) (da : Hid (decB a.data.toList = true)) (ea : Hid (na = numV a.data.toList)) (la : na ≤ 1073741825) (hf : k < s.size) (hx3 : s.extract (k + 1) s.size = b) (sb : b.size ≤ 1000000) (nb : Nat) (db : Hid (decB b.data.toList = true)) (eb : Hid (nb = numV b.data.toList)) (lb : nb ≤ 1073741825) (hn : na ≤ 1073741824) (hn2 : 1073741824 < nb) :
    Calls Tryd.prog 36 #[.string s] w fun e w' => e = .returned (.tuple #[.agg #[.int .i64 0, .int .i64 0], .int .i64 3]) ∧ Below w.heap.size w w' := by
  go_enter Tryd.func36, Tryd.ntmps36
  go_wp2_with (first | (go_at_call 52; refine (slash_at _ k _ sr hk).mono ?_; rintro e w' ⟨rfl, rfl⟩) | (go_at_call_of 53 (Value.string a); refine (rnum_yes _ na _ sa da ea).mono ?_; rintro e w' ⟨rfl, rfl⟩) | (go_at_call_of 53 (Value.string b); refine (rnum_yes _ nb _ sb db eb).mono ?_; rintro e w' ⟨rfl, rfl⟩))
  go_returns
  exact ⟨rfl, by (repeat' (first | with_reducible exact Below.refl _ _ | with_reducible exact Nat.le_refl _ | with_reducible assumption | with_reducible refine below_drewN ?_ _ | with_reducible refine Below.alloc ?_ ?_ _ | with_reducible refine Below.setCell ?_ ?_ _ | with_reducible refine le_alloc ?_ _ | with_reducible refine le_setCell ?_ _ _ | with_reducible refine le_drewN ?_ _ | exact Nat.le_refl _ | (simp; done) | (simp; omega)))⟩

set_option maxHeartbeats 4000000 in
theorem rparse_p_fl (s a b : ByteArray) (k : Nat) (w : World) (he : s.toList.isEmpty = false) (hp : 0 < s.size) (h45 : ((s[0].toNat : Int) == 45) = false) (sr : s.size ≤ 1000000) (hk : Hid (k = slashI s.data.toList)) (lk : k ≤ s.size) (hx2 : s.extract 0 k = a) (sa : a.size ≤ 1000000) (na : Nat) (da : Hid (decB a.data.toList = true)) (ea : Hid (na = numV a.data.toList)) (la : na ≤ 1073741825) (hf : k < s.size) (hx3 : s.extract (k + 1) s.size = b) (sb : b.size ≤ 1000000) (nb : Nat) (db : Hid (decB b.data.toList = true)) (eb : Hid (nb = numV b.data.toList)) (lb : nb ≤ 1073741825) (hn : na ≤ 1073741824) (hn2 : nb < 2) :
    Calls Tryd.prog 36 #[.string s] w fun e w' => e = .returned (.tuple #[.agg #[.int .i64 0, .int .i64 0], .int .i64 4]) ∧ Below w.heap.size w w' := by
  go_enter Tryd.func36, Tryd.ntmps36
  go_wp2_with (first | (go_at_call 52; refine (slash_at _ k _ sr hk).mono ?_; rintro e w' ⟨rfl, rfl⟩) | (go_at_call_of 53 (Value.string a); refine (rnum_yes _ na _ sa da ea).mono ?_; rintro e w' ⟨rfl, rfl⟩) | (go_at_call_of 53 (Value.string b); refine (rnum_yes _ nb _ sb db eb).mono ?_; rintro e w' ⟨rfl, rfl⟩))
  go_returns
  exact ⟨rfl, by (repeat' (first | with_reducible exact Below.refl _ _ | with_reducible exact Nat.le_refl _ | with_reducible assumption | with_reducible refine below_drewN ?_ _ | with_reducible refine Below.alloc ?_ ?_ _ | with_reducible refine Below.setCell ?_ ?_ _ | with_reducible refine le_alloc ?_ _ | with_reducible refine le_setCell ?_ _ _ | with_reducible refine le_drewN ?_ _ | exact Nat.le_refl _ | (simp; done) | (simp; omega)))⟩

set_option maxHeartbeats 4000000 in
theorem rparse_p_fg (s a b : ByteArray) (k : Nat) (w : World) (he : s.toList.isEmpty = false) (hp : 0 < s.size) (h45 : ((s[0].toNat : Int) == 45) = false) (sr : s.size ≤ 1000000) (hk : Hid (k = slashI s.data.toList)) (lk : k ≤ s.size) (hx2 : s.extract 0 k = a) (sa : a.size ≤ 1000000) (na : Nat) (da : Hid (decB a.data.toList = true)) (ea : Hid (na = numV a.data.toList)) (la : na ≤ 1073741825) (hf : k < s.size) (hx3 : s.extract (k + 1) s.size = b) (sb : b.size ≤ 1000000) (nb : Nat) (db : Hid (decB b.data.toList = true)) (eb : Hid (nb = numV b.data.toList)) (lb : nb ≤ 1073741825) (hn : na ≤ 1073741824) (hn2 : nb ≤ 1073741824) (hn3 : 2 ≤ nb) (x : Int) (hg : Hid (x = (Nat.gcd na nb : Nat))) (hx : (x != 1) = true) :
    Calls Tryd.prog 36 #[.string s] w fun e w' => e = .returned (.tuple #[.agg #[.int .i64 0, .int .i64 0], .int .i64 4]) ∧ Below w.heap.size w w' := by
  have ga : na < 18446744073709551616 := by omega
  have gb : nb < 18446744073709551616 := by omega
  go_enter Tryd.func36, Tryd.ntmps36
  go_wp2_with (first | (go_at_call 52; refine (slash_at _ k _ sr hk).mono ?_; rintro e w' ⟨rfl, rfl⟩) | (go_at_call_of 53 (Value.string a); refine (rnum_yes _ na _ sa da ea).mono ?_; rintro e w' ⟨rfl, rfl⟩) | (go_at_call_of 53 (Value.string b); refine (rnum_yes _ nb _ sb db eb).mono ?_; rintro e w' ⟨rfl, rfl⟩) | (go_at_call 41; refine (gcd_eq na nb x _ hg ga gb).mono ?_; rintro e w' ⟨rfl, rfl⟩))
  go_returns
  exact ⟨rfl, by (repeat' (first | with_reducible exact Below.refl _ _ | with_reducible exact Nat.le_refl _ | with_reducible assumption | with_reducible refine below_drewN ?_ _ | with_reducible refine Below.alloc ?_ ?_ _ | with_reducible refine Below.setCell ?_ ?_ _ | with_reducible refine le_alloc ?_ _ | with_reducible refine le_setCell ?_ _ _ | with_reducible refine le_drewN ?_ _ | exact Nat.le_refl _ | (simp; done) | (simp; omega)))⟩

set_option maxHeartbeats 4000000 in
theorem rparse_p_fy (s a b : ByteArray) (k : Nat) (w : World) (he : s.toList.isEmpty = false) (hp : 0 < s.size) (h45 : ((s[0].toNat : Int) == 45) = false) (sr : s.size ≤ 1000000) (hk : Hid (k = slashI s.data.toList)) (lk : k ≤ s.size) (hx2 : s.extract 0 k = a) (sa : a.size ≤ 1000000) (na : Nat) (da : Hid (decB a.data.toList = true)) (ea : Hid (na = numV a.data.toList)) (la : na ≤ 1073741825) (hf : k < s.size) (hx3 : s.extract (k + 1) s.size = b) (sb : b.size ≤ 1000000) (nb : Nat) (db : Hid (decB b.data.toList = true)) (eb : Hid (nb = numV b.data.toList)) (lb : nb ≤ 1073741825) (hn : na ≤ 1073741824) (hn2 : nb ≤ 1073741824) (hn3 : 2 ≤ nb) (x : Int) (hg : Hid (x = (Nat.gcd na nb : Nat))) (hx : (x != 1) = false) :
    Calls Tryd.prog 36 #[.string s] w fun e w' => e = .returned (.tuple #[.agg #[.int .i64 na, .int .i64 nb], .int .i64 0]) ∧ Below w.heap.size w w' := by
  have ga : na < 18446744073709551616 := by omega
  have gb : nb < 18446744073709551616 := by omega
  go_enter Tryd.func36, Tryd.ntmps36
  go_wp2_with (first | (go_at_call 52; refine (slash_at _ k _ sr hk).mono ?_; rintro e w' ⟨rfl, rfl⟩) | (go_at_call_of 53 (Value.string a); refine (rnum_yes _ na _ sa da ea).mono ?_; rintro e w' ⟨rfl, rfl⟩) | (go_at_call_of 53 (Value.string b); refine (rnum_yes _ nb _ sb db eb).mono ?_; rintro e w' ⟨rfl, rfl⟩) | (go_at_call 41; refine (gcd_eq na nb x _ hg ga gb).mono ?_; rintro e w' ⟨rfl, rfl⟩))
  go_returns
  exact ⟨rfl, by (repeat' (first | with_reducible exact Below.refl _ _ | with_reducible exact Nat.le_refl _ | with_reducible assumption | with_reducible refine below_drewN ?_ _ | with_reducible refine Below.alloc ?_ ?_ _ | with_reducible refine Below.setCell ?_ ?_ _ | with_reducible refine le_alloc ?_ _ | with_reducible refine le_setCell ?_ _ _ | with_reducible refine le_drewN ?_ _ | exact Nat.le_refl _ | (simp; done) | (simp; omega)))⟩

set_option maxHeartbeats 4000000 in
theorem rparse_n_an (s r a b : ByteArray) (k : Nat) (w : World) (he : s.toList.isEmpty = false) (hp : 0 < s.size) (h45 : ((s[0].toNat : Int) == 45) = true) (hp1 : 1 ≤ s.size) (hx1 : s.extract 1 s.size = r) (sr : r.size ≤ 1000000) (hk : Hid (k = slashI r.data.toList)) (lk : k ≤ r.size) (hx2 : r.extract 0 k = a) (sa : a.size ≤ 1000000) (da : Hid (decB a.data.toList = false)) :
    Calls Tryd.prog 36 #[.string s] w fun e w' => e = .returned (.tuple #[.agg #[.int .i64 0, .int .i64 0], .int .i64 4]) ∧ Below w.heap.size w w' := by
  go_enter Tryd.func36, Tryd.ntmps36
  go_wp2_with (first | (go_at_call 52; refine (slash_at _ k _ sr hk).mono ?_; rintro e w' ⟨rfl, rfl⟩) | (go_at_call_of 53 (Value.string a); refine (rnum_no _ _ sa da).mono ?_; rintro e w' ⟨rfl, rfl⟩))
  go_returns
  exact ⟨rfl, by (repeat' (first | with_reducible exact Below.refl _ _ | with_reducible exact Nat.le_refl _ | with_reducible assumption | with_reducible refine below_drewN ?_ _ | with_reducible refine Below.alloc ?_ ?_ _ | with_reducible refine Below.setCell ?_ ?_ _ | with_reducible refine le_alloc ?_ _ | with_reducible refine le_setCell ?_ _ _ | with_reducible refine le_drewN ?_ _ | exact Nat.le_refl _ | (simp; done) | (simp; omega)))⟩

set_option maxHeartbeats 4000000 in
theorem rparse_n_az (s r a b : ByteArray) (k : Nat) (w : World) (he : s.toList.isEmpty = false) (hp : 0 < s.size) (h45 : ((s[0].toNat : Int) == 45) = true) (hp1 : 1 ≤ s.size) (hx1 : s.extract 1 s.size = r) (sr : r.size ≤ 1000000) (hk : Hid (k = slashI r.data.toList)) (lk : k ≤ r.size) (hx2 : r.extract 0 k = a) (sa : a.size ≤ 1000000) (da : Hid (decB a.data.toList = true)) (ea : Hid (0 = numV a.data.toList)) :
    Calls Tryd.prog 36 #[.string s] w fun e w' => e = .returned (.tuple #[.agg #[.int .i64 0, .int .i64 0], .int .i64 4]) ∧ Below w.heap.size w w' := by
  go_enter Tryd.func36, Tryd.ntmps36
  go_wp2_with (first | (go_at_call 52; refine (slash_at _ k _ sr hk).mono ?_; rintro e w' ⟨rfl, rfl⟩) | (go_at_call_of 53 (Value.string a); refine (rnum_yes _ 0 _ sa da ea).mono ?_; rintro e w' ⟨rfl, rfl⟩))
  go_returns
  exact ⟨rfl, by (repeat' (first | with_reducible exact Below.refl _ _ | with_reducible exact Nat.le_refl _ | with_reducible assumption | with_reducible refine below_drewN ?_ _ | with_reducible refine Below.alloc ?_ ?_ _ | with_reducible refine Below.setCell ?_ ?_ _ | with_reducible refine le_alloc ?_ _ | with_reducible refine le_setCell ?_ _ _ | with_reducible refine le_drewN ?_ _ | exact Nat.le_refl _ | (simp; done) | (simp; omega)))⟩

set_option maxHeartbeats 4000000 in
theorem rparse_n_o (s r a b : ByteArray) (k : Nat) (w : World) (he : s.toList.isEmpty = false) (hp : 0 < s.size) (h45 : ((s[0].toNat : Int) == 45) = true) (hp1 : 1 ≤ s.size) (hx1 : s.extract 1 s.size = r) (sr : r.size ≤ 1000000) (hk : Hid (k = slashI r.data.toList)) (lk : k ≤ r.size) (hx2 : r.extract 0 k = a) (sa : a.size ≤ 1000000) (na : Nat) (da : Hid (decB a.data.toList = true)) (ea : Hid (na = numV a.data.toList)) (la : na ≤ 1073741825) (nz : ((na : Int) == 0) = false) (hf : r.size ≤ k) (hn : 1073741824 < na) :
    Calls Tryd.prog 36 #[.string s] w fun e w' => e = .returned (.tuple #[.agg #[.int .i64 0, .int .i64 0], .int .i64 3]) ∧ Below w.heap.size w w' := by
  go_enter Tryd.func36, Tryd.ntmps36
  go_wp2_with (first | (go_at_call 52; refine (slash_at _ k _ sr hk).mono ?_; rintro e w' ⟨rfl, rfl⟩) | (go_at_call_of 53 (Value.string a); refine (rnum_yes _ na _ sa da ea).mono ?_; rintro e w' ⟨rfl, rfl⟩))
  go_returns
  exact ⟨rfl, by (repeat' (first | with_reducible exact Below.refl _ _ | with_reducible exact Nat.le_refl _ | with_reducible assumption | with_reducible refine below_drewN ?_ _ | with_reducible refine Below.alloc ?_ ?_ _ | with_reducible refine Below.setCell ?_ ?_ _ | with_reducible refine le_alloc ?_ _ | with_reducible refine le_setCell ?_ _ _ | with_reducible refine le_drewN ?_ _ | exact Nat.le_refl _ | (simp; done) | (simp; omega)))⟩

set_option maxHeartbeats 4000000 in
theorem rparse_n_y (s r a b : ByteArray) (k : Nat) (w : World) (he : s.toList.isEmpty = false) (hp : 0 < s.size) (h45 : ((s[0].toNat : Int) == 45) = true) (hp1 : 1 ≤ s.size) (hx1 : s.extract 1 s.size = r) (sr : r.size ≤ 1000000) (hk : Hid (k = slashI r.data.toList)) (lk : k ≤ r.size) (hx2 : r.extract 0 k = a) (sa : a.size ≤ 1000000) (na : Nat) (da : Hid (decB a.data.toList = true)) (ea : Hid (na = numV a.data.toList)) (la : na ≤ 1073741825) (nz : ((na : Int) == 0) = false) (hf : r.size ≤ k) (hn : na ≤ 1073741824) :
    Calls Tryd.prog 36 #[.string s] w fun e w' => e = .returned (.tuple #[.agg #[.int .i64 (-(na : Int)), .int .i64 1], .int .i64 0]) ∧ Below w.heap.size w w' := by
  go_enter Tryd.func36, Tryd.ntmps36
  go_wp2_with (first | (go_at_call 52; refine (slash_at _ k _ sr hk).mono ?_; rintro e w' ⟨rfl, rfl⟩) | (go_at_call_of 53 (Value.string a); refine (rnum_yes _ na _ sa da ea).mono ?_; rintro e w' ⟨rfl, rfl⟩))
  go_returns
  exact ⟨rfl, by (repeat' (first | with_reducible exact Below.refl _ _ | with_reducible exact Nat.le_refl _ | with_reducible assumption | with_reducible refine below_drewN ?_ _ | with_reducible refine Below.alloc ?_ ?_ _ | with_reducible refine Below.setCell ?_ ?_ _ | with_reducible refine le_alloc ?_ _ | with_reducible refine le_setCell ?_ _ _ | with_reducible refine le_drewN ?_ _ | exact Nat.le_refl _ | (simp; done) | (simp; omega)))⟩

set_option maxHeartbeats 4000000 in
theorem rparse_n_bn (s r a b : ByteArray) (k : Nat) (w : World) (he : s.toList.isEmpty = false) (hp : 0 < s.size) (h45 : ((s[0].toNat : Int) == 45) = true) (hp1 : 1 ≤ s.size) (hx1 : s.extract 1 s.size = r) (sr : r.size ≤ 1000000) (hk : Hid (k = slashI r.data.toList)) (lk : k ≤ r.size) (hx2 : r.extract 0 k = a) (sa : a.size ≤ 1000000) (na : Nat) (da : Hid (decB a.data.toList = true)) (ea : Hid (na = numV a.data.toList)) (la : na ≤ 1073741825) (nz : ((na : Int) == 0) = false) (hf : k < r.size) (hx3 : r.extract (k + 1) r.size = b) (sb : b.size ≤ 1000000) (db : Hid (decB b.data.toList = false)) :
    Calls Tryd.prog 36 #[.string s] w fun e w' => e = .returned (.tuple #[.agg #[.int .i64 0, .int .i64 0], .int .i64 4]) ∧ Below w.heap.size w w' := by
  go_enter Tryd.func36, Tryd.ntmps36
  go_wp2_with (first | (go_at_call 52; refine (slash_at _ k _ sr hk).mono ?_; rintro e w' ⟨rfl, rfl⟩) | (go_at_call_of 53 (Value.string a); refine (rnum_yes _ na _ sa da ea).mono ?_; rintro e w' ⟨rfl, rfl⟩) | (go_at_call_of 53 (Value.string b); refine (rnum_no _ _ sb db).mono ?_; rintro e w' ⟨rfl, rfl⟩))
  go_returns
  exact ⟨rfl, by (repeat' (first | with_reducible exact Below.refl _ _ | with_reducible exact Nat.le_refl _ | with_reducible assumption | with_reducible refine below_drewN ?_ _ | with_reducible refine Below.alloc ?_ ?_ _ | with_reducible refine Below.setCell ?_ ?_ _ | with_reducible refine le_alloc ?_ _ | with_reducible refine le_setCell ?_ _ _ | with_reducible refine le_drewN ?_ _ | exact Nat.le_refl _ | (simp; done) | (simp; omega)))⟩

set_option maxHeartbeats 4000000 in
theorem rparse_n_fo1 (s r a b : ByteArray) (k : Nat) (w : World) (he : s.toList.isEmpty = false) (hp : 0 < s.size) (h45 : ((s[0].toNat : Int) == 45) = true) (hp1 : 1 ≤ s.size) (hx1 : s.extract 1 s.size = r) (sr : r.size ≤ 1000000) (hk : Hid (k = slashI r.data.toList)) (lk : k ≤ r.size) (hx2 : r.extract 0 k = a) (sa : a.size ≤ 1000000) (na : Nat) (da : Hid (decB a.data.toList = true)) (ea : Hid (na = numV a.data.toList)) (la : na ≤ 1073741825) (nz : ((na : Int) == 0) = false) (hf : k < r.size) (hx3 : r.extract (k + 1) r.size = b) (sb : b.size ≤ 1000000) (nb : Nat) (db : Hid (decB b.data.toList = true)) (eb : Hid (nb = numV b.data.toList)) (lb : nb ≤ 1073741825) (hn : 1073741824 < na) :
    Calls Tryd.prog 36 #[.string s] w fun e w' => e = .returned (.tuple #[.agg #[.int .i64 0, .int .i64 0], .int .i64 3]) ∧ Below w.heap.size w w' := by
  go_enter Tryd.func36, Tryd.ntmps36
  go_wp2_with (first | (go_at_call 52; refine (slash_at _ k _ sr hk).mono ?_; rintro e w' ⟨rfl, rfl⟩) | (go_at_call_of 53 (Value.string a); refine (rnum_yes _ na _ sa da ea).mono ?_; rintro e w' ⟨rfl, rfl⟩) | (go_at_call_of 53 (Value.string b); refine (rnum_yes _ nb _ sb db eb).mono ?_; rintro e w' ⟨rfl, rfl⟩))
  go_returns
  exact ⟨rfl, by (repeat' (first | with_reducible exact Below.refl _ _ | with_reducible exact Nat.le_refl _ | with_reducible assumption | with_reducible refine below_drewN ?_ _ | with_reducible refine Below.alloc ?_ ?_ _ | with_reducible refine Below.setCell ?_ ?_ _ | with_reducible refine le_alloc ?_ _ | with_reducible refine le_setCell ?_ _ _ | with_reducible refine le_drewN ?_ _ | exact Nat.le_refl _ | (simp; done) | (simp; omega)))⟩

set_option maxHeartbeats 4000000 in
theorem rparse_n_fo2 (s r a b : ByteArray) (k : Nat) (w : World) (he : s.toList.isEmpty = false) (hp : 0 < s.size) (h45 : ((s[0].toNat : Int) == 45) = true) (hp1 : 1 ≤ s.size) (hx1 : s.extract 1 s.size = r) (sr : r.size ≤ 1000000) (hk : Hid (k = slashI r.data.toList)) (lk : k ≤ r.size) (hx2 : r.extract 0 k = a) (sa : a.size ≤ 1000000) (na : Nat) (da : Hid (decB a.data.toList = true)) (ea : Hid (na = numV a.data.toList)) (la : na ≤ 1073741825) (nz : ((na : Int) == 0) = false) (hf : k < r.size) (hx3 : r.extract (k + 1) r.size = b) (sb : b.size ≤ 1000000) (nb : Nat) (db : Hid (decB b.data.toList = true)) (eb : Hid (nb = numV b.data.toList)) (lb : nb ≤ 1073741825) (hn : na ≤ 1073741824) (hn2 : 1073741824 < nb) :
    Calls Tryd.prog 36 #[.string s] w fun e w' => e = .returned (.tuple #[.agg #[.int .i64 0, .int .i64 0], .int .i64 3]) ∧ Below w.heap.size w w' := by
  go_enter Tryd.func36, Tryd.ntmps36
  go_wp2_with (first | (go_at_call 52; refine (slash_at _ k _ sr hk).mono ?_; rintro e w' ⟨rfl, rfl⟩) | (go_at_call_of 53 (Value.string a); refine (rnum_yes _ na _ sa da ea).mono ?_; rintro e w' ⟨rfl, rfl⟩) | (go_at_call_of 53 (Value.string b); refine (rnum_yes _ nb _ sb db eb).mono ?_; rintro e w' ⟨rfl, rfl⟩))
  go_returns
  exact ⟨rfl, by (repeat' (first | with_reducible exact Below.refl _ _ | with_reducible exact Nat.le_refl _ | with_reducible assumption | with_reducible refine below_drewN ?_ _ | with_reducible refine Below.alloc ?_ ?_ _ | with_reducible refine Below.setCell ?_ ?_ _ | with_reducible refine le_alloc ?_ _ | with_reducible refine le_setCell ?_ _ _ | with_reducible refine le_drewN ?_ _ | exact Nat.le_refl _ | (simp; done) | (simp; omega)))⟩

set_option maxHeartbeats 4000000 in
theorem rparse_n_fl (s r a b : ByteArray) (k : Nat) (w : World) (he : s.toList.isEmpty = false) (hp : 0 < s.size) (h45 : ((s[0].toNat : Int) == 45) = true) (hp1 : 1 ≤ s.size) (hx1 : s.extract 1 s.size = r) (sr : r.size ≤ 1000000) (hk : Hid (k = slashI r.data.toList)) (lk : k ≤ r.size) (hx2 : r.extract 0 k = a) (sa : a.size ≤ 1000000) (na : Nat) (da : Hid (decB a.data.toList = true)) (ea : Hid (na = numV a.data.toList)) (la : na ≤ 1073741825) (nz : ((na : Int) == 0) = false) (hf : k < r.size) (hx3 : r.extract (k + 1) r.size = b) (sb : b.size ≤ 1000000) (nb : Nat) (db : Hid (decB b.data.toList = true)) (eb : Hid (nb = numV b.data.toList)) (lb : nb ≤ 1073741825) (hn : na ≤ 1073741824) (hn2 : nb < 2) :
    Calls Tryd.prog 36 #[.string s] w fun e w' => e = .returned (.tuple #[.agg #[.int .i64 0, .int .i64 0], .int .i64 4]) ∧ Below w.heap.size w w' := by
  go_enter Tryd.func36, Tryd.ntmps36
  go_wp2_with (first | (go_at_call 52; refine (slash_at _ k _ sr hk).mono ?_; rintro e w' ⟨rfl, rfl⟩) | (go_at_call_of 53 (Value.string a); refine (rnum_yes _ na _ sa da ea).mono ?_; rintro e w' ⟨rfl, rfl⟩) | (go_at_call_of 53 (Value.string b); refine (rnum_yes _ nb _ sb db eb).mono ?_; rintro e w' ⟨rfl, rfl⟩))
  go_returns
  exact ⟨rfl, by (repeat' (first | with_reducible exact Below.refl _ _ | with_reducible exact Nat.le_refl _ | with_reducible assumption | with_reducible refine below_drewN ?_ _ | with_reducible refine Below.alloc ?_ ?_ _ | with_reducible refine Below.setCell ?_ ?_ _ | with_reducible refine le_alloc ?_ _ | with_reducible refine le_setCell ?_ _ _ | with_reducible refine le_drewN ?_ _ | exact Nat.le_refl _ | (simp; done) | (simp; omega)))⟩

set_option maxHeartbeats 4000000 in
theorem rparse_n_fg (s r a b : ByteArray) (k : Nat) (w : World) (he : s.toList.isEmpty = false) (hp : 0 < s.size) (h45 : ((s[0].toNat : Int) == 45) = true) (hp1 : 1 ≤ s.size) (hx1 : s.extract 1 s.size = r) (sr : r.size ≤ 1000000) (hk : Hid (k = slashI r.data.toList)) (lk : k ≤ r.size) (hx2 : r.extract 0 k = a) (sa : a.size ≤ 1000000) (na : Nat) (da : Hid (decB a.data.toList = true)) (ea : Hid (na = numV a.data.toList)) (la : na ≤ 1073741825) (nz : ((na : Int) == 0) = false) (hf : k < r.size) (hx3 : r.extract (k + 1) r.size = b) (sb : b.size ≤ 1000000) (nb : Nat) (db : Hid (decB b.data.toList = true)) (eb : Hid (nb = numV b.data.toList)) (lb : nb ≤ 1073741825) (hn : na ≤ 1073741824) (hn2 : nb ≤ 1073741824) (hn3 : 2 ≤ nb) (x : Int) (hg : Hid (x = (Nat.gcd na nb : Nat))) (hx : (x != 1) = true) :
    Calls Tryd.prog 36 #[.string s] w fun e w' => e = .returned (.tuple #[.agg #[.int .i64 0, .int .i64 0], .int .i64 4]) ∧ Below w.heap.size w w' := by
  have ga : na < 18446744073709551616 := by omega
  have gb : nb < 18446744073709551616 := by omega
  go_enter Tryd.func36, Tryd.ntmps36
  go_wp2_with (first | (go_at_call 52; refine (slash_at _ k _ sr hk).mono ?_; rintro e w' ⟨rfl, rfl⟩) | (go_at_call_of 53 (Value.string a); refine (rnum_yes _ na _ sa da ea).mono ?_; rintro e w' ⟨rfl, rfl⟩) | (go_at_call_of 53 (Value.string b); refine (rnum_yes _ nb _ sb db eb).mono ?_; rintro e w' ⟨rfl, rfl⟩) | (go_at_call 41; refine (gcd_eq na nb x _ hg ga gb).mono ?_; rintro e w' ⟨rfl, rfl⟩))
  go_returns
  exact ⟨rfl, by (repeat' (first | with_reducible exact Below.refl _ _ | with_reducible exact Nat.le_refl _ | with_reducible assumption | with_reducible refine below_drewN ?_ _ | with_reducible refine Below.alloc ?_ ?_ _ | with_reducible refine Below.setCell ?_ ?_ _ | with_reducible refine le_alloc ?_ _ | with_reducible refine le_setCell ?_ _ _ | with_reducible refine le_drewN ?_ _ | exact Nat.le_refl _ | (simp; done) | (simp; omega)))⟩

set_option maxHeartbeats 4000000 in
theorem rparse_n_fy (s r a b : ByteArray) (k : Nat) (w : World) (he : s.toList.isEmpty = false) (hp : 0 < s.size) (h45 : ((s[0].toNat : Int) == 45) = true) (hp1 : 1 ≤ s.size) (hx1 : s.extract 1 s.size = r) (sr : r.size ≤ 1000000) (hk : Hid (k = slashI r.data.toList)) (lk : k ≤ r.size) (hx2 : r.extract 0 k = a) (sa : a.size ≤ 1000000) (na : Nat) (da : Hid (decB a.data.toList = true)) (ea : Hid (na = numV a.data.toList)) (la : na ≤ 1073741825) (nz : ((na : Int) == 0) = false) (hf : k < r.size) (hx3 : r.extract (k + 1) r.size = b) (sb : b.size ≤ 1000000) (nb : Nat) (db : Hid (decB b.data.toList = true)) (eb : Hid (nb = numV b.data.toList)) (lb : nb ≤ 1073741825) (hn : na ≤ 1073741824) (hn2 : nb ≤ 1073741824) (hn3 : 2 ≤ nb) (x : Int) (hg : Hid (x = (Nat.gcd na nb : Nat))) (hx : (x != 1) = false) :
    Calls Tryd.prog 36 #[.string s] w fun e w' => e = .returned (.tuple #[.agg #[.int .i64 (-(na : Int)), .int .i64 nb], .int .i64 0]) ∧ Below w.heap.size w w' := by
  have ga : na < 18446744073709551616 := by omega
  have gb : nb < 18446744073709551616 := by omega
  go_enter Tryd.func36, Tryd.ntmps36
  go_wp2_with (first | (go_at_call 52; refine (slash_at _ k _ sr hk).mono ?_; rintro e w' ⟨rfl, rfl⟩) | (go_at_call_of 53 (Value.string a); refine (rnum_yes _ na _ sa da ea).mono ?_; rintro e w' ⟨rfl, rfl⟩) | (go_at_call_of 53 (Value.string b); refine (rnum_yes _ nb _ sb db eb).mono ?_; rintro e w' ⟨rfl, rfl⟩) | (go_at_call 41; refine (gcd_eq na nb x _ hg ga gb).mono ?_; rintro e w' ⟨rfl, rfl⟩))
  go_returns
  exact ⟨rfl, by (repeat' (first | with_reducible exact Below.refl _ _ | with_reducible exact Nat.le_refl _ | with_reducible assumption | with_reducible refine below_drewN ?_ _ | with_reducible refine Below.alloc ?_ ?_ _ | with_reducible refine Below.setCell ?_ ?_ _ | with_reducible refine le_alloc ?_ _ | with_reducible refine le_setCell ?_ _ _ | with_reducible refine le_drewN ?_ _ | exact Nat.le_refl _ | (simp; done) | (simp; omega)))⟩

end Go.Proofs.YtlbepbddhnmmjaaDoor
