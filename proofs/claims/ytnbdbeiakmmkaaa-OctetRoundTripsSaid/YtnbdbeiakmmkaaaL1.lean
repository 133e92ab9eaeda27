/-
  The walk of the statement OctetRoundTrips.
-/
import Derived.Test.YtnbdbeiakmmkaaaW4
import Derived.BigQuiet
namespace Go.Proofs.Ytnbdbeiakmmkaaa
open Go.RowKit
set_option linter.unusedVariables false

theorem law_round_big (A : Option Addr) (m c k : Nat) (i : Int) (s r : ByteArray) (w : World) (h : 1048576 < m ∨ 1048576 < s.size ∨ 1048576 < r.size) (hm : m ≤ 140737488351232) (hs : s.size ≤ 140737488351232) (hr : r.size ≤ 140737488351232) :
    Calls Try.prog 3 #[.slice A m c, .int .u64 k, .int .i64 i, .string s, .string r] w fun e w' => e = .returned (.bool true) ∧ Below w.heap.size w w' := by
  by_cases h1 : 1048576 < m
  · clear h
    go_enter Try.func3, Try.ntmps3
    go_wp2_with (go_at_call 9; go_must (refine (awake_any _).mono ?_; rintro e w1 ⟨rfl, hb⟩))
    go_returns
    exact ⟨rfl, hb⟩
  · by_cases h2 : 1048576 < s.size
    · clear h
      go_enter Try.func3, Try.ntmps3
      go_wp2_with (go_at_call 9; go_must (refine (awake_any _).mono ?_; rintro e w1 ⟨rfl, hb⟩))
      go_returns
      exact ⟨rfl, hb⟩
    · have h3 : 1048576 < r.size := by omega
      clear h
      go_enter Try.func3, Try.ntmps3
      go_wp2_with (go_at_call 9; go_must (refine (awake_any _).mono ?_; rintro e w1 ⟨rfl, hb⟩))
      go_returns
      exact ⟨rfl, hb⟩

/-- What is read of what the three Put functions append. -/
theorem reads (l r t : List UInt8) (k z : Nat) (hk : k < 18446744073709551616) (hz : z < 18446744073709551616) (ht : t.length ≤ 1048576) :
    tu (l ++ put k ++ put z ++ put t.length ++ t ++ r) l.length = (k, l.length + (put k).length, 0) ∧
    tu (l ++ put k ++ put z ++ put t.length ++ t ++ r) (l.length + (put k).length : Nat) = (z, l.length + (put k).length + (put z).length, 0) ∧
    tcE (l ++ put k ++ put z ++ put t.length ++ t ++ r) (l.length + (put k).length + (put z).length : Nat) 1048576 = 0 ∧
    tcN (l ++ put k ++ put z ++ put t.length ++ t ++ r) (l.length + (put k).length + (put z).length : Nat) 1048576 + tcV (l ++ put k ++ put z ++ put t.length ++ t ++ r) (l.length + (put k).length + (put z).length : Nat) 1048576 = l.length + (put k).length + (put z).length + (put t.length).length + t.length ∧
    ttS (l ++ put k ++ put z ++ put t.length ++ t ++ r) (l.length + (put k).length + (put z).length : Nat) 1048576 = t := by
  have e1 := tu_put l (put z ++ put t.length ++ t ++ r) k hk
  have e2 := tu_put (l ++ put k) (put t.length ++ t ++ r) z hz
  have e3 := tu_put (l ++ put k ++ put z) (t ++ r) t.length (by omega)
  simp only [List.append_assoc, List.length_append] at e1 e2 e3
  simp only [List.append_assoc]
  simp only [← Nat.add_assoc] at e1 e2 e3
  have v3 : tuV (l ++ (put k ++ (put z ++ (put t.length ++ (t ++ r))))) (l.length + (put k).length + (put z).length : Nat) = t.length := by unfold tuV; rw [e3]
  have n3 : tuN (l ++ (put k ++ (put z ++ (put t.length ++ (t ++ r))))) (l.length + (put k).length + (put z).length : Nat) = l.length + (put k).length + (put z).length + (put t.length).length := by unfold tuN; rw [e3]
  have E3 : tuE (l ++ (put k ++ (put z ++ (put t.length ++ (t ++ r))))) (l.length + (put k).length + (put z).length : Nat) = 0 := by unfold tuE; rw [e3]
  obtain ⟨a, b, c⟩ := tc_3 (most := 1048576) E3 (by rw [v3]; omega) (by rw [v3, n3]; simp only [List.length_append]; omega)
  rw [v3] at b
  rw [n3] at c
  refine ⟨e1, e2, a, by rw [b, c], ?_⟩
  unfold ttS
  rw [b, c]
  have : l ++ (put k ++ (put z ++ (put t.length ++ (t ++ r)))) = (l ++ put k ++ put z ++ put t.length) ++ (t ++ r) := by simp
  rw [this, List.drop_left' (by simp only [List.length_append]), List.take_left' rfl]

set_option maxRecDepth 20000 in
set_option maxHeartbeats 2000000 in
theorem law_round (A : Option Addr) (m c k : Nat) (i : Int) (l : List UInt8) (s r : ByteArray) (w : World) (hr : Rd w w.heap.size A l) (hn : m = l.length) (hc : m ≤ c) (hnil : A = none → c = 0) (hk : k < 18446744073709551616) (h0 : -9223372036854775808 ≤ i) (h1 : i ≤ 9223372036854775807)
    (hm : m ≤ 1048576) (hs : s.size ≤ 1048576) (hq : r.size ≤ 1048576) :
    Calls Try.prog 3 #[.slice A m c, .int .u64 k, .int .i64 i, .string s, .string r] w fun e w' => e = .returned (.bool true) ∧ Below w.heap.size w w' := by
  have hz := zg_lt h0 h1
  have hp1 := put_ten hk
  have hp2 := put_ten hz
  have hp3 := put_ten (n := s.size) (by omega)
  have hsl : s.data.toList.length = s.size := by simp
  have C1 := putu_any A m c l k w hr hn hc hnil hk (by omega)
  have C2 : ∀ (w' : World) (g n c : Nat) (B : Nat), Own w' B g n c (l ++ put k) → Calls Try.prog 11 #[.slice (some ⟨g, 0, none⟩) n c, .int .i64 i] w' (Made w' (l ++ put k ++ put (zg i))) := fun w' g n c B ho =>
    puti_any _ n c _ i w' ho.rd ho.len.symm ho.cap.1 (fun h => by cases h) h0 h1 (by have := ho.len; rw [List.length_append] at this; omega)
  have C3 : ∀ (w' : World) (g n c : Nat) (B : Nat), Own w' B g n c (l ++ put k ++ put (zg i)) → Calls Try.prog 10 #[.slice (some ⟨g, 0, none⟩) n c, .string s] w' (Made w' (l ++ put k ++ put (zg i) ++ put s.size ++ s.data.toList)) := fun w' g n c B ho =>
    putt_any _ n c _ s w' ho.rd ho.len.symm ho.cap.1 (fun h => by cases h) (by have := ho.len; rw [List.length_append, List.length_append] at this; omega)
  obtain ⟨T, hT⟩ : ∃ T : ByteArray, (⟨(l ++ put k ++ put (zg i) ++ put s.size ++ s.data.toList).toArray⟩ : ByteArray) = T := ⟨_, rfl⟩
  have hTl : T.data.toList = l ++ put k ++ put (zg i) ++ put s.size ++ s.data.toList := by rw [← hT]
  have hTs : T.size = m + (put k).length + (put (zg i)).length + (put s.size).length + s.size := by rw [size_len, hTl]; simp only [List.length_append, hn, hsl]
  have hall : (T ++ r).data.toList = l ++ put k ++ put (zg i) ++ put s.data.toList.length ++ s.data.toList ++ r.data.toList := by simp [hTl]
  have hallz : (T ++ r).size ≤ 4000000 := by rw [ByteArray.size_append]; omega
  obtain ⟨a1, a2, a3, a4, a5⟩ := reads l r.data.toList s.data.toList k (zg i) hk hz (by omega)
  rw [← hall, ← hn] at a1 a2 a3 a4 a5
  have C4 : ∀ w', Calls Try.prog 13 #[.string (T ++ r), .int .i64 m] w' fun e w'' => e = .returned (.tuple #[.int .u64 k, .int .i64 (m + (put k).length : Nat), .int .i64 (0 : Nat)]) ∧ w' = w'' := fun w' => by
    have h := taku_any (T ++ r) m w' (by omega)
    unfold tuVal tuV tuN tuE at h
    rw [a1] at h
    exact h
  have C5 : ∀ w', Calls Try.prog 14 #[.string (T ++ r), .int .i64 (m + (put k).length : Nat)] w' fun e w'' => e = .returned (.tuple #[.int .i64 i, .int .i64 (m + (put k).length + (put (zg i)).length : Nat), .int .i64 (0 : Nat)]) ∧ w' = w'' := fun w' => by
    have h := taki_any (T ++ r) (m + (put k).length : Nat) w' (by omega)
    unfold tiVal tuV tuN tuE at h
    rw [a2] at h
    rw [show zz (zg i, m + (put k).length + (put (zg i)).length, 0).1 = i from zz_zg i] at h
    exact h
  have C6 : ∀ w', Calls Try.prog 15 #[.string (T ++ r), .int .i64 (m + (put k).length + (put (zg i)).length : Nat), .int .i64 1048576] w' fun e w'' => e = .returned (.tuple #[.string s, .int .i64 T.size, .int .i64 (0 : Nat)]) ∧ Below w'.heap.size w' w'' := fun w' => by
    have h := takt_any (T ++ r) (m + (put k).length + (put (zg i)).length : Nat) 1048576 w' (by omega) (by omega) (by omega)
    unfold ttVal at h
    rw [a3, a4, a5, bytes_of, show m + (put k).length + (put (zg i)).length + (put s.data.toList.length).length + s.data.toList.length = T.size by rw [hTs, hsl]] at h
    exact h
  have hx : (⟨l.toArray⟩ : ByteArray) = (T ++ r).extract 0 m := by
    have e : ((T ++ r).extract 0 m).data.toList = l := by
      rw [Lib.extract_data, hall, List.drop_zero, Nat.sub_zero, hn]
      simp only [List.append_assoc]
      exact List.take_left
    rw [← bytes_of ((T ++ r).extract 0 m), e]
  have C7 : ∀ w', (∀ p : Addr, p.block < w.heap.size → w'.cell? p = w.cell? p) → (convert 22 9 (.slice A m c)).run Try.prog w' = .ok (.string ((T ++ r).extract 0 m)) w' := fun w' h => by
    rw [← hx]; exact conv_rd hr m c hn w' h
  have H1 := Lib.hid C1; have H2 := Lib.hid C2; have H3 := Lib.hid C3; have H4 := Lib.hid C4; have H5 := Lib.hid C5; have H6 := Lib.hid C6; have H7 := Lib.hid C7
  have HT := Lib.hid hT
  have hTm : m ≤ T.size := by omega
  have hTz : T.size ≤ 4000000 := by rw [ByteArray.size_append] at hallz; omega
  generalize m + (put k).length + (put (zg i)).length = P2 at H5 H6
  generalize m + (put k).length = P1 at H4 H5
  clear C1 C2 C3 C4 C5 C6 C7 hT hTl hTs hall hallz a1 a2 a3 a4 a5 hx hsl hp1 hp2 hp3 hz hr hn hnil
  go_enter Try.func3, Try.ntmps3
  go_wp2_with (first
    | (go_at_call 12; go_must (refine H1.out.mono ?_; rintro e w1 ⟨g1, n1, c1, rfl, o1, b1⟩))
    | (go_at_call 11; go_must (refine (H2.out _ _ _ _ _ o1).mono ?_; rintro e w2 ⟨g2, n2, c2, rfl, o2, b2⟩))
    | (go_at_call 10; go_must (refine (H3.out _ _ _ _ _ o2).mono ?_; intro e w3 h3; obtain ⟨g3, n3, c3, rfl, k3, b3⟩ := h3.conv; rw [HT.out] at k3; clear h3)))
  have bw : Below w.heap.size w w3 := (b1.trans (b2.mono b1.size)).trans (b3.mono (b1.trans (b2.mono b1.size)).size)
  have kq := fun n => H7.out (w3.drewN n) (fun p hp => bw.cell hp)
  have i0 : (0 : Int) ≤ (m : Int) := by omega
  have i1 : (m : Int) ≤ (T.size : Int) + (r.size : Int) := by omega
  have i2 : (m : Int) ≤ ((T ++ r).size : Int) := by rw [ByteArray.size_append]; omega
  have hd1 : decide ((T.size : Int) + (r.size : Int) < (m : Int)) = false := by simpa using i1
  have hd2 : decide (((T ++ r).size : Int) < (m : Int)) = false := by simpa using i2
  go_quiet (fail)
  go_wp2_with (first
    | (go_at_call 13; go_must (refine (H4.out _).mono ?_; rintro e w4 ⟨rfl, rfl⟩))
    | (go_at_call 14; go_must (refine (H5.out _).mono ?_; rintro e w5 ⟨rfl, rfl⟩))
    | (go_at_call 15; go_must (refine (H6.out _).mono ?_; rintro e w6 ⟨rfl, b6⟩))
    | (go_at_call 9; go_must (refine (awake_any _).mono ?_; rintro e w7 ⟨rfl, b7⟩)))
  go_returns
  exact ⟨rfl, (below_drewN bw nq).trans ((b6.trans (b7.mono b6.size)).mono bw.size)⟩

end Go.Proofs.Ytnbdbeiakmmkaaa
