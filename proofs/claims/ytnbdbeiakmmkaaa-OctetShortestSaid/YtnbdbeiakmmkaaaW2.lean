/-
  The walks of TakeUint, the program's and the specification's.
-/
import Derived.Test.YtnbdbeiakmmkaaaM1
import Derived.Test.YtnbdbeiakmmkaaaG0
import Derived.Laws.Bits64b
import Derived.Deep.DeepMust
namespace Go.Proofs.Ytnbdbeiakmmkaaa
open Go.RowKit
set_option linter.unusedVariables false
set_option linter.unusedSimpArgs false

/-- What TakeUint answers. -/
def tuVal (l : List UInt8) (at_ : Int) : Value := .tuple #[.int .u64 (tuV l at_ : Nat), .int .i64 (tuN l at_ : Nat), .int .i64 (tuE l at_ : Nat)]
theorem tuVal_of {l : List UInt8} {at_ : Int} {v n e : Nat} (h : tu l at_ = (v, n, e)) : Ending.returned (.tuple #[.int .u64 (v : Int), .int .i64 (n : Int), .int .i64 (e : Int)]) = .returned (tuVal l at_) := by
  unfold tuVal tuV tuN tuE
  rw [h]
theorem tuVal_at {l : List UInt8} {at_ : Int} {v n e : Nat} (h : tu l at_ = (v, n, e)) (x y z : Int) (hx : x = v) (hy : y = n) (hz : z = e) : Ending.returned (.tuple #[.int .u64 x, .int .i64 y, .int .i64 z]) = .returned (tuVal l at_) := by
  subst hx hy hz; exact tuVal_of h

/-- Behind k bytes of the value n, what is answered is what is answered from the start. -/
theorem tu_comb {l : List UInt8} {a n k : Nat} (ha : a ≤ l.length) {v m e : Nat} (h : comb n k (tk k (l.drop (a + k))) = tk 0 (l.drop a)) (hv : comb n k (tk k (l.drop (a + k))) = (v, m, e)) : tu l a = if e = 0 then (v, a + m, 0) else (0, 0, e) := by
  rw [tu_in ha, ← h, hv]

theorem drop_at (s : ByteArray) (j : Nat) (h : j < s.size) : s.data.toList.drop j = s[j] :: s.data.toList.drop (j + 1) := by
  rw [List.drop_eq_getElem_cons (by simpa using h)]; rfl

set_option maxRecDepth 20000 in
set_option maxHeartbeats 1000000 in
theorem taku_any (s : ByteArray) (at_ : Int) (w : World) (hs : s.size ≤ 9223372036854775807) :
    Calls Try.prog 13 #[.string s, .int .i64 at_] w fun e w' => e = .returned (tuVal s.data.toList at_) ∧ w = w' := by
  have hlen : s.data.toList.length = s.size := by simp
  have hs' : (s.size : Int) ≤ 9223372036854775807 := by omega
  by_cases h1 : at_ < 0
  · have HT := Lib.hid (tu_out (l := s.data.toList) (.inl h1))
    clear hlen
    go_enter Try.func13, Try.ntmps13
    go_wp2
    go_returns
    exact ⟨tuVal_at HT.out _ _ _ rfl rfl rfl, rfl⟩
  · by_cases h2 : (s.size : Int) < at_
    · have HT := Lib.hid (tu_out (l := s.data.toList) (.inr (by rw [hlen]; exact h2)))
      clear hlen
      go_enter Try.func13, Try.ntmps13
      go_wp2
      go_returns
      exact ⟨tuVal_at HT.out _ _ _ rfl rfl rfl, rfl⟩
    · obtain ⟨a, rfl⟩ : ∃ a : Nat, at_ = a := ⟨at_.toNat, by omega⟩
      have HLen := Lib.hid hlen
      clear hlen
      go_enter Try.func13, Try.ntmps13
      go_wp2
      go_loop [7, 8] (fun x y => ∃ n k : Nat, k ≤ 9 ∧ n < 128 ^ k ∧ a + k ≤ s.size ∧ x = .int .u64 n ∧ y = .int .i64 k ∧ Hid (comb n k (tk k (s.data.toList.drop (a + k))) = tk 0 (s.data.toList.drop a))) (fun _ y => 10 - (intOf y).toNat)
      case atStart => exact ⟨0, 0, by omega, by omega, by omega, rfl, rfl, comb_zero _⟩
      case round =>
        obtain ⟨n, k, hk, hn, hle, rfl, rfl, HC⟩ := hrel
        have HN := Lib.hid hn
        clear hn
        by_cases he : a + k = s.size
        · have HT := Lib.hid (show tu s.data.toList a = (0, 0, 5) by
            have e : s.data.toList.drop (a + k) = [] := List.drop_eq_nil_of_le (by rw [HLen.out]; omega)
            have := tu_comb (l := s.data.toList) (a := a) (n := n) (k := k) (v := 0) (m := 0) (e := 5) (by rw [HLen.out]; omega) HC.out (by rw [e]; exact comb_nil n k)
            simpa using this)
          go_wp2
          go_returns
          exact ⟨tuVal_at HT.out _ _ _ rfl rfl rfl, rfl⟩
        · have hlt : a + k < s.size := by omega
          have hd := drop_at s (a + k) hlt
          have hc0 := s[a + k].toNat_lt
          have HD := Lib.hid (show s.data.toList.drop (a + k) = s[a + k] :: s.data.toList.drop (a + (k + 1)) from hd)
          clear hd
          have HB0 : Hid ((k = 9 ∧ 1 < s[a + k].toNat ∨ 0 < k ∧ s[a + k].toNat = 0) → tu s.data.toList a = (0, 0, 4)) := fun hb => by
            have := tu_comb (l := s.data.toList) (a := a) (n := n) (k := k) (v := 0) (m := 0) (e := 4) (by rw [HLen.out]; omega) HC.out (by rw [HD.out]; exact comb_bad _ hb)
            simpa using this
          have HE0 : Hid (¬ (k = 9 ∧ 1 < s[a + k].toNat ∨ 0 < k ∧ s[a + k].toNat = 0) → s[a + k].toNat < 128 → tu s.data.toList a = (n + 128 ^ k * (s[a + k].toNat % 128), a + (k + 1), 0)) := fun hb hc => by
            have := tu_comb (l := s.data.toList) (a := a) (n := n) (k := k) (v := n + 128 ^ k * (s[a + k].toNat % 128)) (m := k + 1) (e := 0) (by rw [HLen.out]; omega) HC.out (by rw [HD.out]; exact comb_end _ hb hc)
            simpa using this
          have HN0 : Hid (¬ (k = 9 ∧ 1 < s[a + k].toNat ∨ 0 < k ∧ s[a + k].toNat = 0) → ¬ s[a + k].toNat < 128 → comb (n + 128 ^ k * (s[a + k].toNat % 128)) (k + 1) (tk (k + 1) (s.data.toList.drop (a + (k + 1)))) = tk 0 (s.data.toList.drop a)) := fun hb hc => by
            rw [← HC.out, HD.out]; exact (comb_on _ hb hc).symm
          clear HD
          go_wp2
          all_goals first
            | (go_returns
               have hb : k = 9 ∧ 1 < s[a + k].toNat ∨ 0 < k ∧ s[a + k].toNat = 0 := by (first | omega | (simp only [beq_iff_eq, beq_eq_false_iff_ne, ne_eq] at *; omega))
               exact ⟨tuVal_at (HB0.out hb) _ _ _ rfl rfl rfl, rfl⟩)
            | (go_returns
               have hb : ¬ (k = 9 ∧ 1 < s[a + k].toNat ∨ 0 < k ∧ s[a + k].toNat = 0) := by (first | omega | (simp only [beq_iff_eq, beq_eq_false_iff_ne, ne_eq] at *; omega))
               have h9 : k = 9 → s[a + k].toNat ≤ 1 := by omega
               first
                 | exact ⟨tuVal_at (HE0.out hb (by omega)) _ _ _ (or_group hk HN.out h9 _ (wrap_group hk h9)) (by omega) rfl, rfl⟩
                 | (obtain rfl : k = 9 := by omega
                    exact ⟨tuVal_at (HE0.out hb (by omega)) _ _ _ (or_group hk HN.out h9 _ (by omega)) (by omega) rfl, rfl⟩))
            | (have hb : ¬ (k = 9 ∧ 1 < s[a + k].toNat ∨ 0 < k ∧ s[a + k].toNat = 0) := by (first | omega | (simp only [beq_iff_eq, beq_eq_false_iff_ne, ne_eq] at *; omega))
               have h9 : k = 9 → s[a + k].toNat ≤ 1 := by omega
               go_round
               case rel => exact ⟨n + 128 ^ k * (s[a + k].toNat % 128), k + 1, by omega, next_lt HN.out, by omega, val_int (or_group hk HN.out h9 _ (wrap_group hk h9)), by go_num, HN0.out hb (by omega)⟩
               case measure => simp [intOf]; omega)

set_option maxRecDepth 20000 in
set_option maxHeartbeats 1000000 in
theorem rtaku_any (s : ByteArray) (at_ : Int) (w : World) (hs : s.size ≤ 9223372036854775807) :
    Calls Try.prog 19 #[.string s, .int .i64 at_] w fun e w' => e = .returned (tuVal s.data.toList at_) ∧ w = w' := by
  have hlen : s.data.toList.length = s.size := by simp
  have hs' : (s.size : Int) ≤ 9223372036854775807 := by omega
  by_cases h1 : at_ < 0
  · have HT := Lib.hid (tu_out (l := s.data.toList) (.inl h1))
    clear hlen
    go_enter Try.func19, Try.ntmps19
    go_wp2
    go_returns
    exact ⟨tuVal_at HT.out _ _ _ rfl rfl rfl, rfl⟩
  · by_cases h2 : (s.size : Int) < at_
    · have HT := Lib.hid (tu_out (l := s.data.toList) (.inr (by rw [hlen]; exact h2)))
      clear hlen
      go_enter Try.func19, Try.ntmps19
      go_wp2
      go_returns
      exact ⟨tuVal_at HT.out _ _ _ rfl rfl rfl, rfl⟩
    · obtain ⟨a, rfl⟩ : ∃ a : Nat, at_ = a := ⟨at_.toNat, by omega⟩
      have HLen := Lib.hid hlen
      clear hlen
      go_enter Try.func19, Try.ntmps19
      go_wp2
      go_loop [7, 8, 9] (fun x z y => ∃ n k : Nat, k ≤ 9 ∧ n < 128 ^ k ∧ a + k ≤ s.size ∧ x = .int .u64 n ∧ z = .int .u64 ((128 ^ k : Nat) : Int) ∧ y = .int .i64 k ∧ Hid (comb n k (tk k (s.data.toList.drop (a + k))) = tk 0 (s.data.toList.drop a))) (fun _ _ y => 10 - (intOf y).toNat)
      case atStart => exact ⟨0, 0, by omega, by omega, by omega, rfl, rfl, rfl, comb_zero _⟩
      case round =>
        obtain ⟨n, k, hk, hn, hle, rfl, hz, rfl, HC⟩ := hrel
        obtain ⟨W, hW⟩ : ∃ W : Int, ((128 ^ k : Nat) : Int) = W := ⟨_, rfl⟩
        have hz' := hz.trans (congrArg (Value.int .u64) hW)
        subst hz'
        have HW := Lib.hid hW
        clear hW hz
        have HN := Lib.hid hn
        clear hn
        by_cases he : a + k = s.size
        · have HT := Lib.hid (show tu s.data.toList a = (0, 0, 5) by
            have e : s.data.toList.drop (a + k) = [] := List.drop_eq_nil_of_le (by rw [HLen.out]; omega)
            have := tu_comb (l := s.data.toList) (a := a) (n := n) (k := k) (v := 0) (m := 0) (e := 5) (by rw [HLen.out]; omega) HC.out (by rw [e]; exact comb_nil n k)
            simpa using this)
          go_wp2
          go_returns
          exact ⟨tuVal_at HT.out _ _ _ rfl rfl rfl, rfl⟩
        · have hlt : a + k < s.size := by omega
          have hd := drop_at s (a + k) hlt
          have hc0 := s[a + k].toNat_lt
          have HD := Lib.hid (show s.data.toList.drop (a + k) = s[a + k] :: s.data.toList.drop (a + (k + 1)) from hd)
          clear hd
          have HB0 : Hid ((k = 9 ∧ 1 < s[a + k].toNat ∨ 0 < k ∧ s[a + k].toNat = 0) → tu s.data.toList a = (0, 0, 4)) := fun hb => by
            have := tu_comb (l := s.data.toList) (a := a) (n := n) (k := k) (v := 0) (m := 0) (e := 4) (by rw [HLen.out]; omega) HC.out (by rw [HD.out]; exact comb_bad _ hb)
            simpa using this
          have HE0 : Hid (¬ (k = 9 ∧ 1 < s[a + k].toNat ∨ 0 < k ∧ s[a + k].toNat = 0) → s[a + k].toNat < 128 → tu s.data.toList a = (n + 128 ^ k * (s[a + k].toNat % 128), a + (k + 1), 0)) := fun hb hc => by
            have := tu_comb (l := s.data.toList) (a := a) (n := n) (k := k) (v := n + 128 ^ k * (s[a + k].toNat % 128)) (m := k + 1) (e := 0) (by rw [HLen.out]; omega) HC.out (by rw [HD.out]; exact comb_end _ hb hc)
            simpa using this
          have HN0 : Hid (¬ (k = 9 ∧ 1 < s[a + k].toNat ∨ 0 < k ∧ s[a + k].toNat = 0) → ¬ s[a + k].toNat < 128 → comb (n + 128 ^ k * (s[a + k].toNat % 128)) (k + 1) (tk (k + 1) (s.data.toList.drop (a + (k + 1)))) = tk 0 (s.data.toList.drop a)) := fun hb hc => by
            rw [← HC.out, HD.out]; exact (comb_on _ hb hc).symm
          clear HD
          go_wp2
          all_goals first
            | (go_returns
               have hb : k = 9 ∧ 1 < s[a + k].toNat ∨ 0 < k ∧ s[a + k].toNat = 0 := by (first | omega | (simp only [beq_iff_eq, beq_eq_false_iff_ne, ne_eq] at *; omega))
               exact ⟨tuVal_at (HB0.out hb) _ _ _ rfl rfl rfl, rfl⟩)
            | (go_returns
               have hb : ¬ (k = 9 ∧ 1 < s[a + k].toNat ∨ 0 < k ∧ s[a + k].toNat = 0) := by (first | omega | (simp only [beq_iff_eq, beq_eq_false_iff_ne, ne_eq] at *; omega))
               have h9 : k = 9 → s[a + k].toNat ≤ 1 := by omega
               exact ⟨tuVal_at (HE0.out hb (by omega)) _ _ _ (sum_group HW.out hk HN.out h9) (by omega) rfl, rfl⟩)
            | (have hb : ¬ (k = 9 ∧ 1 < s[a + k].toNat ∨ 0 < k ∧ s[a + k].toNat = 0) := by (first | omega | (simp only [beq_iff_eq, beq_eq_false_iff_ne, ne_eq] at *; omega))
               have h9 : k = 9 → s[a + k].toNat ≤ 1 := by omega
               go_round
               case rel => exact ⟨n + 128 ^ k * (s[a + k].toNat % 128), k + 1, by omega, next_lt HN.out, by omega, val_int (sum_group HW.out hk HN.out h9), val_int (next_weight HW.out (by omega)), by go_num, HN0.out hb (by omega)⟩
               case measure => simp [intOf]; omega)

end Go.Proofs.Ytnbdbeiakmmkaaa
