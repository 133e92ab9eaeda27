/-
  The walks of TakeInt, TakeCount and TakeText, the program's and the specification's, and of strings.Clone.
-/
import Derived.Test.YtillcmddbjhepaaGreatDoorZ12
import Derived.Test.YtillcmddbjhepaaGreatDoorZ03
import Derived.Test.YtillcmddbjhepaaGreatDoorShelf
namespace Go.Proofs.YtillcmddbjhepaaGreatDoor
namespace Sb
open Go.RowKit
set_option linter.unusedVariables false
set_option linter.unusedSimpArgs false

theorem taku_at (s : ByteArray) (at_ : Int) (w : World) (hs : s.size ≤ 9223372036854775807) {V N E : Nat} (hV : tuV s.data.toList at_ = V) (hN : tuN s.data.toList at_ = N) (hE : tuE s.data.toList at_ = E) :
    Calls Tryz.prog 102 #[.string s, .int .i64 at_] w fun e w' => e = .returned (.tuple #[.int .u64 (V : Int), .int .i64 (N : Int), .int .i64 (E : Int)]) ∧ w = w' := by
  subst hV hN hE; exact taku_any s at_ w hs
theorem rtaku_at (s : ByteArray) (at_ : Int) (w : World) (hs : s.size ≤ 9223372036854775807) {V N E : Nat} (hV : tuV s.data.toList at_ = V) (hN : tuN s.data.toList at_ = N) (hE : tuE s.data.toList at_ = E) :
    Calls Tryz.prog 84 #[.string s, .int .i64 at_] w fun e w' => e = .returned (.tuple #[.int .u64 (V : Int), .int .i64 (N : Int), .int .i64 (E : Int)]) ∧ w = w' := by
  subst hV hN hE; exact rtaku_any s at_ w hs

/-- What TakeInt answers. -/
def tiVal (l : List UInt8) (at_ : Int) : Value := .tuple #[.int .i64 (zz (tuV l at_)), .int .i64 (tuN l at_ : Nat), .int .i64 (tuE l at_ : Nat)]
/-- What TakeCount answers. -/
def tcVal (l : List UInt8) (at_ most : Int) : Value := .tuple #[.int .i64 (tcV l at_ most : Nat), .int .i64 (tcN l at_ most : Nat), .int .i64 (tcE l at_ most : Nat)]
theorem tuple3 {x y z x' y' z' : Int} (hx : x = x') (hy : y = y') (hz : z = z') : Ending.returned (.tuple #[.int .i64 x, .int .i64 y, .int .i64 z]) = .returned (.tuple #[.int .i64 x', .int .i64 y', .int .i64 z']) := by subst hx hy hz; rfl

theorem tc_of {l : List UInt8} {at_ most : Int} {v n e : Nat} (hE : tcE l at_ most = e) (hV : tcV l at_ most = v) (hN : tcN l at_ most = n) {x y z : Int} (hx : x = v) (hy : y = n) (hz : z = e) : Ending.returned (.tuple #[.int .i64 x, .int .i64 y, .int .i64 z]) = .returned (tcVal l at_ most) := by
  subst hE hV hN hx hy hz; rfl
theorem tc_0 {l : List UInt8} {at_ most : Int} (h : tuE l at_ ≠ 0) : tcE l at_ most = tuE l at_ ∧ tcV l at_ most = 0 ∧ tcN l at_ most = 0 := by
  have e : tcE l at_ most = tuE l at_ := by unfold tcE; rw [if_pos h]
  exact ⟨e, by unfold tcV; rw [e, if_neg h], by unfold tcN; rw [e, if_neg h]⟩
theorem tc_1 {l : List UInt8} {at_ most : Int} (h : tuE l at_ = 0) (h1 : most < 0 ∨ most < tuV l at_) : tcE l at_ most = 6 ∧ tcV l at_ most = 0 ∧ tcN l at_ most = 0 := by
  have e : tcE l at_ most = 6 := by unfold tcE; rw [if_neg (by omega), if_pos h1]
  exact ⟨e, by unfold tcV; rw [e, if_neg (by omega)], by unfold tcN; rw [e, if_neg (by omega)]⟩
theorem tc_2 {l : List UInt8} {at_ most : Int} (h : tuE l at_ = 0) (h1 : ¬ (most < 0 ∨ most < tuV l at_)) (h2 : l.length - tuN l at_ < tuV l at_) : tcE l at_ most = 5 ∧ tcV l at_ most = 0 ∧ tcN l at_ most = 0 := by
  have e : tcE l at_ most = 5 := by unfold tcE; rw [if_neg (by omega), if_neg h1, if_pos h2]
  exact ⟨e, by unfold tcV; rw [e, if_neg (by omega)], by unfold tcN; rw [e, if_neg (by omega)]⟩
theorem tc_3 {l : List UInt8} {at_ most : Int} (h : tuE l at_ = 0) (h1 : ¬ (most < 0 ∨ most < tuV l at_)) (h2 : ¬ l.length - tuN l at_ < tuV l at_) : tcE l at_ most = 0 ∧ tcV l at_ most = tuV l at_ ∧ tcN l at_ most = tuN l at_ := by
  have e : tcE l at_ most = 0 := by unfold tcE; rw [if_neg (by omega), if_neg h1, if_neg h2]
  exact ⟨e, by unfold tcV; rw [e, if_pos rfl], by unfold tcN; rw [e, if_pos rfl]⟩

set_option maxHeartbeats 1000000 in
theorem takc_any (s : ByteArray) (at_ most : Int) (w : World) (hs : s.size ≤ 9223372036854775807) (hm0 : -9223372036854775808 ≤ most) (hm1 : most ≤ 9223372036854775807) :
    Calls Tryz.prog 125 #[.string s, .int .i64 at_, .int .i64 most] w fun e w' => e = .returned (tcVal s.data.toList at_ most) ∧ w = w' := by
  obtain ⟨hb1, hb2, hb3⟩ := tu_bounds s.data.toList at_
  have hlen : s.data.toList.length = s.size := by simp
  have h0 := tc_0 (l := s.data.toList) (at_ := at_) (most := most)
  have h1 := tc_1 (l := s.data.toList) (at_ := at_) (most := most)
  have h2 := tc_2 (l := s.data.toList) (at_ := at_) (most := most)
  have h3 := tc_3 (l := s.data.toList) (at_ := at_) (most := most)
  obtain ⟨V, hV⟩ : ∃ V, tuV s.data.toList at_ = V := ⟨_, rfl⟩
  obtain ⟨N, hN⟩ : ∃ V, tuN s.data.toList at_ = V := ⟨_, rfl⟩
  obtain ⟨E, hE⟩ : ∃ V, tuE s.data.toList at_ = V := ⟨_, rfl⟩
  have HC := Lib.hid (taku_at s at_ w hs hV hN hE)
  rw [hlen] at hb2 h2 h3
  rw [hV] at hb1 h1 h2 h3
  rw [hN] at hb2 h2 h3
  rw [hE] at hb3 h0 h1 h2 h3
  clear hV hN hE hlen
  have H0 := Lib.hid h0; have H1 := Lib.hid h1; have H2 := Lib.hid h2; have H3 := Lib.hid h3
  have hs' : (s.size : Int) ≤ 9223372036854775807 := by omega
  clear h0 h1 h2 h3 hs
  go_enter Tryz.func125, Tryz.ntmps125
  go_wp2_with (go_at_call 102; go_must (refine HC.out.mono ?_; rintro e w1 ⟨rfl, rfl⟩))
  all_goals
    go_returns
    first
      | (have he : E ≠ 0 := by (first | omega | (simp only [beq_iff_eq, beq_eq_false_iff_ne, bne_iff_ne, ne_eq, bne_eq_false_iff_eq] at *; omega))
         obtain ⟨a, b, c⟩ := H0.out he
         exact ⟨tc_of a b c rfl rfl rfl, rfl⟩)
      | (have he : E = 0 := by (first | omega | (simp only [beq_iff_eq, beq_eq_false_iff_ne, bne_iff_ne, ne_eq, bne_eq_false_iff_eq] at *; omega))
         first
           | (obtain ⟨a, b, c⟩ := H1.out he (by omega)
              exact ⟨tc_of a b c rfl rfl rfl, rfl⟩)
           | (obtain ⟨a, b, c⟩ := H2.out he (by omega) (by omega)
              exact ⟨tc_of a b c rfl rfl rfl, rfl⟩)
           | (obtain ⟨a, b, c⟩ := H3.out he (by omega) (by omega)
              exact ⟨tc_of a b c (by omega) (by omega) rfl, rfl⟩))

set_option maxHeartbeats 1000000 in
theorem rtakc_any (s : ByteArray) (at_ most : Int) (w : World) (hs : s.size ≤ 9223372036854775807) (hm0 : -9223372036854775808 ≤ most) (hm1 : most ≤ 9223372036854775807) :
    Calls Tryz.prog 119 #[.string s, .int .i64 at_, .int .i64 most] w fun e w' => e = .returned (tcVal s.data.toList at_ most) ∧ w = w' := by
  obtain ⟨hb1, hb2, hb3⟩ := tu_bounds s.data.toList at_
  have hlen : s.data.toList.length = s.size := by simp
  have h0 := tc_0 (l := s.data.toList) (at_ := at_) (most := most)
  have h1 := tc_1 (l := s.data.toList) (at_ := at_) (most := most)
  have h2 := tc_2 (l := s.data.toList) (at_ := at_) (most := most)
  have h3 := tc_3 (l := s.data.toList) (at_ := at_) (most := most)
  obtain ⟨V, hV⟩ : ∃ V, tuV s.data.toList at_ = V := ⟨_, rfl⟩
  obtain ⟨N, hN⟩ : ∃ V, tuN s.data.toList at_ = V := ⟨_, rfl⟩
  obtain ⟨E, hE⟩ : ∃ V, tuE s.data.toList at_ = V := ⟨_, rfl⟩
  have HC := Lib.hid (rtaku_at s at_ w hs hV hN hE)
  rw [hlen] at hb2 h2 h3
  rw [hV] at hb1 h1 h2 h3
  rw [hN] at hb2 h2 h3
  rw [hE] at hb3 h0 h1 h2 h3
  clear hV hN hE hlen
  have H0 := Lib.hid h0; have H1 := Lib.hid h1; have H2 := Lib.hid h2; have H3 := Lib.hid h3
  have hs' : (s.size : Int) ≤ 9223372036854775807 := by omega
  clear h0 h1 h2 h3 hs
  go_enter Tryz.func119, Tryz.ntmps119
  go_wp2_with (go_at_call 84; go_must (refine HC.out.mono ?_; rintro e w1 ⟨rfl, rfl⟩))
  all_goals
    go_returns
    first
      | (have he : E ≠ 0 := by (first | omega | (simp only [beq_iff_eq, beq_eq_false_iff_ne, bne_iff_ne, ne_eq, bne_eq_false_iff_eq] at *; omega))
         obtain ⟨a, b, c⟩ := H0.out he
         exact ⟨tc_of a b c rfl rfl rfl, rfl⟩)
      | (have he : E = 0 := by (first | omega | (simp only [beq_iff_eq, beq_eq_false_iff_ne, bne_iff_ne, ne_eq, bne_eq_false_iff_eq] at *; omega))
         first
           | (obtain ⟨a, b, c⟩ := H1.out he (by omega)
              exact ⟨tc_of a b c rfl rfl rfl, rfl⟩)
           | (obtain ⟨a, b, c⟩ := H2.out he (by omega) (by omega)
              exact ⟨tc_of a b c rfl rfl rfl, rfl⟩)
           | (obtain ⟨a, b, c⟩ := H3.out he (by omega) (by omega)
              exact ⟨tc_of a b c (by omega) (by omega) rfl, rfl⟩))


theorem clone_any (s : ByteArray) (w : World) (hs : s.size ≤ 281474976710656) :
    Calls Tryz.prog 89 #[.string s] w fun e w' => e = .returned (.string s) ∧ Below w.heap.size w w' := by
  go_enter Tryz.func89, Tryz.ntmps89
  go_wp2_with (go_at_call 110; go_must (refine (Tryz.stringslite_Clone s _ hs).mono ?_; rintro e w1 ⟨rfl, hb⟩))
  go_returns
  exact ⟨rfl, hb⟩

/-- What TakeText answers. -/
def ttVal (l : List UInt8) (at_ most : Int) : Value := .tuple #[.string ⟨(ttS l at_ most).toArray⟩, .int .i64 (tcN l at_ most + tcV l at_ most : Nat), .int .i64 (tcE l at_ most : Nat)]
theorem tc_err (l : List UInt8) (at_ most : Int) : tcE l at_ most ≠ 0 → tcV l at_ most = 0 ∧ tcN l at_ most = 0 := fun h => by
  unfold tcV tcN
  rw [if_neg h, if_neg h]; exact ⟨rfl, rfl⟩
theorem tt_of (s : ByteArray) (at_ most : Int) (t : ByteArray) (x z : Int) (ht : t.data.toList = (s.data.toList.drop (tcN s.data.toList at_ most)).take (tcV s.data.toList at_ most)) (hx : x = ((tcN s.data.toList at_ most + tcV s.data.toList at_ most : Nat) : Int)) (hz : z = ((tcE s.data.toList at_ most : Nat) : Int)) :
    Ending.returned (.tuple #[.string t, .int .i64 x, .int .i64 z]) = .returned (ttVal s.data.toList at_ most) := by
  subst hx hz
  unfold ttVal ttS
  rw [← ht, bytes_of]

set_option maxHeartbeats 1000000 in
theorem takt_any (s : ByteArray) (at_ most : Int) (w : World) (hs : s.size ≤ 140737488351232) (hm0 : -9223372036854775808 ≤ most) (hm1 : most ≤ 9223372036854775807) :
    Calls Tryz.prog 116 #[.string s, .int .i64 at_, .int .i64 most] w fun e w' => e = .returned (ttVal s.data.toList at_ most) ∧ Below w.heap.size w w' := by
  obtain ⟨hb1, hb2⟩ := tc_bounds s.data.toList at_ most
  have hlen : s.data.toList.length = s.size := by simp
  have herr := tc_err s.data.toList at_ most
  have HC0 := takc_any s at_ most w (by omega) hm0 hm1
  have HV := Lib.hid (tt_of s at_ most)
  unfold tcVal at HC0
  generalize tcV s.data.toList at_ most = V at hb1 HC0 HV herr
  generalize tcN s.data.toList at_ most = N at hb1 HC0 HV herr
  generalize tcE s.data.toList at_ most = E at hb2 HC0 HV herr
  have HC := Lib.hid HC0
  have HE := Lib.hid herr
  have HL := Lib.hid hs
  rw [hlen] at hb1
  have hs' : (s.size : Int) ≤ 140737488351232 := by omega
  clear HC0 herr hlen hs
  go_enter Tryz.func116, Tryz.ntmps116
  go_wp2_with (first
    | (go_at_call 125; go_must (refine HC.out.mono ?_; rintro e w1 ⟨rfl, rfl⟩))
    | (go_at_call 89; go_must (refine (clone_any _ _ (by have := HL.out; rw [ByteArray.size_extract]; omega)).mono ?_; rintro e w2 ⟨rfl, hb⟩)))
  all_goals
    go_returns
    first
      | (have he : E ≠ 0 := by (first | omega | (simp only [beq_iff_eq, beq_eq_false_iff_ne, bne_iff_ne, ne_eq, bne_eq_false_iff_eq] at *; omega))
         obtain ⟨rfl, rfl⟩ := HE.out he
         exact ⟨HV.out _ _ _ (by simp) (by omega) rfl, Below.refl _ _⟩)
      | (have he : E = 0 := by (first | omega | (simp only [beq_iff_eq, beq_eq_false_iff_ne, bne_iff_ne, ne_eq, bne_eq_false_iff_eq] at *; omega))
         exact ⟨HV.out _ _ _ (by rw [Lib.extract_data, Nat.add_sub_cancel_left]) (by omega) (by omega), hb⟩)

set_option maxHeartbeats 1000000 in
theorem rtakt_any (s : ByteArray) (at_ most : Int) (w : World) (hs : s.size ≤ 140737488351232) (hm0 : -9223372036854775808 ≤ most) (hm1 : most ≤ 9223372036854775807) :
    Calls Tryz.prog 106 #[.string s, .int .i64 at_, .int .i64 most] w fun e w' => e = .returned (ttVal s.data.toList at_ most) ∧ w = w' := by
  obtain ⟨hb1, hb2⟩ := tc_bounds s.data.toList at_ most
  have hlen : s.data.toList.length = s.size := by simp
  have herr := tc_err s.data.toList at_ most
  have HC0 := rtakc_any s at_ most w (by omega) hm0 hm1
  have HV := Lib.hid (tt_of s at_ most)
  unfold tcVal at HC0
  generalize tcV s.data.toList at_ most = V at hb1 HC0 HV herr
  generalize tcN s.data.toList at_ most = N at hb1 HC0 HV herr
  generalize tcE s.data.toList at_ most = E at hb2 HC0 HV herr
  have HC := Lib.hid HC0
  have HE := Lib.hid herr
  have HL := Lib.hid hs
  rw [hlen] at hb1
  have hs' : (s.size : Int) ≤ 140737488351232 := by omega
  clear HC0 herr hlen hs
  go_enter Tryz.func106, Tryz.ntmps106
  go_wp2_with (go_at_call 119; go_must (refine HC.out.mono ?_; rintro e w1 ⟨rfl, rfl⟩))
  all_goals
    go_returns
    first
      | (have he : E ≠ 0 := by (first | omega | (simp only [beq_iff_eq, beq_eq_false_iff_ne, bne_iff_ne, ne_eq, bne_eq_false_iff_eq] at *; omega))
         obtain ⟨rfl, rfl⟩ := HE.out he
         exact ⟨HV.out _ _ _ (by simp) (by omega) rfl, rfl⟩)
      | (have he : E = 0 := by (first | omega | (simp only [beq_iff_eq, beq_eq_false_iff_ne, bne_iff_ne, ne_eq, bne_eq_false_iff_eq] at *; omega))
         exact ⟨HV.out _ _ _ (by rw [Lib.extract_data, Nat.add_sub_cancel_left]) (by omega) (by omega), rfl⟩)

end Sb
end Go.Proofs.YtillcmddbjhepaaGreatDoor
