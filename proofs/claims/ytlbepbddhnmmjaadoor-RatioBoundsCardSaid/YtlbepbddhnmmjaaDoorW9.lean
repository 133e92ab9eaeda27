/-
  The walk of Parse of package ratio.
-/
import Derived.Test.YtlbepbddhnmmjaaDoorW5
import Derived.Test.YtlbepbddhnmmjaaDoorW8
import Derived.Test.YtlbepbddhnmmjaaDoorM3
import Derived.Test.YtlbepbddhnmmjaaDoorShelf
namespace Go.Proofs.YtlbepbddhnmmjaaDoor
open Go.RowKit
set_option linter.unusedVariables false

theorem bytes_of (s : ByteArray) : (⟨s.data.toList.toArray⟩ : ByteArray) = s := by cases s; simp

/-- strings.CutPrefix at "-": the sign and the rest. -/
theorem cutp_at (s r : ByteArray) (g : Bool) (w : World) (hr : r.data.toList = psRest s.data.toList) (hg : g = psNeg s.data.toList) :
    Calls Tryd.prog 48 #[.string s, .string ⟨#[45]⟩] w fun e w' => e = .returned (.tuple #[.string r, .bool g]) ∧ w' = w := by
  refine (Tryd.strings_CutPrefix s ⟨#[45]⟩ w).mono fun e w' h => ⟨?_, h.2⟩
  rw [h.1]
  have e1 : Lib.trimPrefix s.data.toList (⟨#[45]⟩ : ByteArray).data.toList = r.data.toList := by rw [hr]; exact trimPrefix_rest _
  have e2 : Lib.hasPrefix s.data.toList (⟨#[45]⟩ : ByteArray).data.toList = g := by rw [hg]; exact hasPrefix_neg _
  rw [e1, e2, bytes_of]
/-- strings.Cut at "/". -/
theorem cut_at (r a b : ByteArray) (f : Bool) (m : Int) (w : World) (hs : r.size < 4294967281) (hm : w.cell? ⟨0, 0, none⟩ = some (.int .i64 m))
    (ha : a.data.toList = r.data.toList.take (slashI r.data.toList)) (hb : b.data.toList = if slashI r.data.toList < r.data.toList.length then r.data.toList.drop (slashI r.data.toList + 1) else []) (hf : f = decide (slashI r.data.toList < r.data.toList.length)) :
    Calls Tryd.prog 49 #[.string r, .string ⟨#[47]⟩] w fun e w' => e = .returned (.tuple #[.string a, .string b, .bool f]) ∧ ∃ n, w' = w.drewN n := by
  refine (Tryd.strings_Cut r ⟨#[47]⟩ m w hs hm).mono fun e w' h => ⟨?_, h.2⟩
  rw [h.1]
  have e0 : Lib.cut r.data.toList (⟨#[47]⟩ : ByteArray).data.toList = (a.data.toList, b.data.toList, f) := by rw [ha, hb, hf]; exact cut_slash _
  rw [e0, bytes_of, bytes_of]

/-- Behind a call that only makes memory: the two blocks of Parse, as they were laid. -/
theorem pz {w wa : World} {n : Nat} {x0 x1 y0 y1 : Value} {T : TypeId} (h : Below (((w.alloc (.cells #[x0, x1] T)).drewN n).alloc (.cells #[y0, y1] T)).heap.size (((w.alloc (.cells #[x0, x1] T)).drewN n).alloc (.cells #[y0, y1] T)) wa) :
    (wa.cell? ⟨w.heap.size, 0, none⟩ = some x0 ∧ wa.cell? ⟨w.heap.size, 1, none⟩ = some x1) ∧ (wa.cell? ⟨w.heap.size + 1, 0, none⟩ = some y0 ∧ wa.cell? ⟨w.heap.size + 1, 1, none⟩ = some y1) ∧
    (wa.frozen? ⟨w.heap.size, 0, none⟩ = false ∧ wa.frozen? ⟨w.heap.size, 1, none⟩ = false) ∧ (wa.frozen? ⟨w.heap.size + 1, 0, none⟩ = false ∧ wa.frozen? ⟨w.heap.size + 1, 1, none⟩ = false) ∧ w.heap.size + 1 < wa.heap.size := by
  have hs := h.size
  simp only [World.size_alloc, World.heap_drewN] at hs
  refine ⟨⟨?_, ?_⟩, ⟨?_, ?_⟩, ⟨?_, ?_⟩, ⟨?_, ?_⟩, by omega⟩
  all_goals first
    | (refine (h.cell (by simp only [World.size_alloc, World.heap_drewN]; omega)).trans ?_; go_simp)
    | (refine (h.frozen (by simp only [World.size_alloc, World.heap_drewN]; omega)).trans ?_; go_simp)

theorem num_at (s : ByteArray) (k : Nat) (w : World) (hs : s.size ≤ 1000000) (ha : s.data.toList.all isDig = true) (hk : Hid (k = numV s.data.toList)) :
    Calls Tryd.prog 51 #[.string s] w fun e w' => e = .returned (.int .i64 k) ∧ w' = w := by
  rw [hk.out]; exact num_any s w hs ha
theorem valid_at (n d : Int) (v : Bool) (w : World) (hn0 : -9223372036854775808 ≤ n) (hn1 : n ≤ 9223372036854775807) (hd0 : -9223372036854775808 ≤ d) (hd1 : d ≤ 9223372036854775807) (hv : Hid (v = validB n d)) :
    Calls Tryd.prog 12 #[.agg #[.int .i64 n, .int .i64 d]] w fun e w' => e = .returned (.bool v) ∧ Below w.heap.size w w' := by
  rw [hv.out]; exact valid_any n d w hn0 hn1 hd0 hd1

set_option maxHeartbeats 4000000 in
theorem parse_syn1 (s r a b : ByteArray) (g f : Bool) (m : Int) (w : World) (hm : w.cell? ⟨0, 0, none⟩ = some (.int .i64 m)) (hml : 0 < w.heap.size)
    (C1 : ∀ w, Calls Tryd.prog 48 #[.string s, .string ⟨#[45]⟩] w fun e w' => e = .returned (.tuple #[.string r, .bool g]) ∧ w' = w)
    (C2 : ∀ w, w.cell? ⟨0, 0, none⟩ = some (.int .i64 m) → Calls Tryd.prog 49 #[.string r, .string ⟨#[47]⟩] w fun e w' => e = .returned (.tuple #[.string a, .string b, .bool f]) ∧ ∃ n, w' = w.drewN n)
    (sa : a.size ≤ 1000000) (sb : b.size ≤ 1000000) (ha : decB a.data.toList = false) :
    Calls Tryd.prog 35 #[.string s] w fun e w' => e = .returned (.tuple #[.agg #[.int .i64 0, .int .i64 0], .int .i64 4]) ∧ Below w.heap.size w w' := by
  have hm' : (w.alloc (.cells #[.int .i64 0, .int .i64 0] 23)).cell? ⟨0, 0, none⟩ = some (.int .i64 m) := by rw [← hm]; exact ((Below.refl w.heap.size w).alloc (Nat.le_refl _) _).cell hml
  go_enter Tryd.func35, Tryd.ntmps35
  go_wp2_with (first | (go_at_call 48; refine (C1 _).mono ?_; rintro e w' ⟨rfl, rfl⟩) | (go_at_call 49; refine (C2 _ hm').mono ?_; rintro e w' ⟨rfl, n, rfl⟩) | (go_at_call_of 50 (Value.string a); refine (dec_any _ _ sa).mono ?_; rintro e w' ⟨rfl, rfl⟩) | (go_at_call_of 50 (Value.string b); refine (dec_any _ _ sb).mono ?_; rintro e w' ⟨rfl, rfl⟩))
  go_returns
  exact ⟨rfl, by (repeat' (first | with_reducible exact Below.refl _ _ | with_reducible exact Nat.le_refl _ | with_reducible assumption | with_reducible refine below_drewN ?_ _ | with_reducible refine Below.drew ?_ | with_reducible refine Below.alloc ?_ ?_ _ | with_reducible refine Below.setCell ?_ ?_ _ | with_reducible refine le_alloc ?_ _ | with_reducible refine le_setCell ?_ _ _ | with_reducible refine le_drewN ?_ _ | with_reducible refine Below.trans ?_ (Below.mono (by assumption) ?_) | with_reducible refine Nat.le_trans ?_ (Below.size (by assumption)) | exact Nat.le_refl _ | (simp; done) | (simp; omega)))⟩

set_option maxHeartbeats 4000000 in
theorem parse_syn2 (s r a b : ByteArray) (g f : Bool) (m : Int) (w : World) (hm : w.cell? ⟨0, 0, none⟩ = some (.int .i64 m)) (hml : 0 < w.heap.size)
    (C1 : ∀ w, Calls Tryd.prog 48 #[.string s, .string ⟨#[45]⟩] w fun e w' => e = .returned (.tuple #[.string r, .bool g]) ∧ w' = w)
    (C2 : ∀ w, w.cell? ⟨0, 0, none⟩ = some (.int .i64 m) → Calls Tryd.prog 49 #[.string r, .string ⟨#[47]⟩] w fun e w' => e = .returned (.tuple #[.string a, .string b, .bool f]) ∧ ∃ n, w' = w.drewN n)
    (sa : a.size ≤ 1000000) (sb : b.size ≤ 1000000) (ha : decB a.data.toList = true) (hf : f = true) (hb : decB b.data.toList = false) :
    Calls Tryd.prog 35 #[.string s] w fun e w' => e = .returned (.tuple #[.agg #[.int .i64 0, .int .i64 0], .int .i64 4]) ∧ Below w.heap.size w w' := by
  subst hf
  have hm' : (w.alloc (.cells #[.int .i64 0, .int .i64 0] 23)).cell? ⟨0, 0, none⟩ = some (.int .i64 m) := by rw [← hm]; exact ((Below.refl w.heap.size w).alloc (Nat.le_refl _) _).cell hml
  go_enter Tryd.func35, Tryd.ntmps35
  go_wp2_with (first | (go_at_call 48; refine (C1 _).mono ?_; rintro e w' ⟨rfl, rfl⟩) | (go_at_call 49; refine (C2 _ hm').mono ?_; rintro e w' ⟨rfl, n, rfl⟩) | (go_at_call_of 50 (Value.string a); refine (dec_any _ _ sa).mono ?_; rintro e w' ⟨rfl, rfl⟩) | (go_at_call_of 50 (Value.string b); refine (dec_any _ _ sb).mono ?_; rintro e w' ⟨rfl, rfl⟩))
  go_returns
  exact ⟨rfl, by (repeat' (first | with_reducible exact Below.refl _ _ | with_reducible exact Nat.le_refl _ | with_reducible assumption | with_reducible refine below_drewN ?_ _ | with_reducible refine Below.drew ?_ | with_reducible refine Below.alloc ?_ ?_ _ | with_reducible refine Below.setCell ?_ ?_ _ | with_reducible refine le_alloc ?_ _ | with_reducible refine le_setCell ?_ _ _ | with_reducible refine le_drewN ?_ _ | with_reducible refine Below.trans ?_ (Below.mono (by assumption) ?_) | with_reducible refine Nat.le_trans ?_ (Below.size (by assumption)) | exact Nat.le_refl _ | (simp; done) | (simp; omega)))⟩

set_option maxHeartbeats 4000000 in
theorem parse_syn3 (s r a b : ByteArray) (g f : Bool) (m : Int) (w : World) (hm : w.cell? ⟨0, 0, none⟩ = some (.int .i64 m)) (hml : 0 < w.heap.size)
    (C1 : ∀ w, Calls Tryd.prog 48 #[.string s, .string ⟨#[45]⟩] w fun e w' => e = .returned (.tuple #[.string r, .bool g]) ∧ w' = w)
    (C2 : ∀ w, w.cell? ⟨0, 0, none⟩ = some (.int .i64 m) → Calls Tryd.prog 49 #[.string r, .string ⟨#[47]⟩] w fun e w' => e = .returned (.tuple #[.string a, .string b, .bool f]) ∧ ∃ n, w' = w.drewN n)
    (sa : a.size ≤ 1000000) (sb : b.size ≤ 1000000) (ha : decB a.data.toList = true) (hb : f = false ∨ decB b.data.toList = true) (hg : g = true) (h0 : a.toList = [48]) :
    Calls Tryd.prog 35 #[.string s] w fun e w' => e = .returned (.tuple #[.agg #[.int .i64 0, .int .i64 0], .int .i64 4]) ∧ Below w.heap.size w w' := by
  subst hg
  have hm' : (w.alloc (.cells #[.int .i64 0, .int .i64 0] 23)).cell? ⟨0, 0, none⟩ = some (.int .i64 m) := by rw [← hm]; exact ((Below.refl w.heap.size w).alloc (Nat.le_refl _) _).cell hml
  rcases hb with rfl | hb
  · go_enter Tryd.func35, Tryd.ntmps35
    go_wp2_with (first | (go_at_call 48; refine (C1 _).mono ?_; rintro e w' ⟨rfl, rfl⟩) | (go_at_call 49; refine (C2 _ hm').mono ?_; rintro e w' ⟨rfl, n, rfl⟩) | (go_at_call_of 50 (Value.string a); refine (dec_any _ _ sa).mono ?_; rintro e w' ⟨rfl, rfl⟩) | (go_at_call_of 50 (Value.string b); refine (dec_any _ _ sb).mono ?_; rintro e w' ⟨rfl, rfl⟩))
    go_returns
    exact ⟨rfl, by (repeat' (first | with_reducible exact Below.refl _ _ | with_reducible exact Nat.le_refl _ | with_reducible assumption | with_reducible refine below_drewN ?_ _ | with_reducible refine Below.drew ?_ | with_reducible refine Below.alloc ?_ ?_ _ | with_reducible refine Below.setCell ?_ ?_ _ | with_reducible refine le_alloc ?_ _ | with_reducible refine le_setCell ?_ _ _ | with_reducible refine le_drewN ?_ _ | with_reducible refine Below.trans ?_ (Below.mono (by assumption) ?_) | with_reducible refine Nat.le_trans ?_ (Below.size (by assumption)) | exact Nat.le_refl _ | (simp; done) | (simp; omega)))⟩
  · cases f
    · go_enter Tryd.func35, Tryd.ntmps35
      go_wp2_with (first | (go_at_call 48; refine (C1 _).mono ?_; rintro e w' ⟨rfl, rfl⟩) | (go_at_call 49; refine (C2 _ hm').mono ?_; rintro e w' ⟨rfl, n, rfl⟩) | (go_at_call_of 50 (Value.string a); refine (dec_any _ _ sa).mono ?_; rintro e w' ⟨rfl, rfl⟩) | (go_at_call_of 50 (Value.string b); refine (dec_any _ _ sb).mono ?_; rintro e w' ⟨rfl, rfl⟩))
      go_returns
      exact ⟨rfl, by (repeat' (first | with_reducible exact Below.refl _ _ | with_reducible exact Nat.le_refl _ | with_reducible assumption | with_reducible refine below_drewN ?_ _ | with_reducible refine Below.drew ?_ | with_reducible refine Below.alloc ?_ ?_ _ | with_reducible refine Below.setCell ?_ ?_ _ | with_reducible refine le_alloc ?_ _ | with_reducible refine le_setCell ?_ _ _ | with_reducible refine le_drewN ?_ _ | with_reducible refine Below.trans ?_ (Below.mono (by assumption) ?_) | with_reducible refine Nat.le_trans ?_ (Below.size (by assumption)) | exact Nat.le_refl _ | (simp; done) | (simp; omega)))⟩
    · go_enter Tryd.func35, Tryd.ntmps35
      go_wp2_with (first | (go_at_call 48; refine (C1 _).mono ?_; rintro e w' ⟨rfl, rfl⟩) | (go_at_call 49; refine (C2 _ hm').mono ?_; rintro e w' ⟨rfl, n, rfl⟩) | (go_at_call_of 50 (Value.string a); refine (dec_any _ _ sa).mono ?_; rintro e w' ⟨rfl, rfl⟩) | (go_at_call_of 50 (Value.string b); refine (dec_any _ _ sb).mono ?_; rintro e w' ⟨rfl, rfl⟩))
      go_returns
      exact ⟨rfl, by (repeat' (first | with_reducible exact Below.refl _ _ | with_reducible exact Nat.le_refl _ | with_reducible assumption | with_reducible refine below_drewN ?_ _ | with_reducible refine Below.drew ?_ | with_reducible refine Below.alloc ?_ ?_ _ | with_reducible refine Below.setCell ?_ ?_ _ | with_reducible refine le_alloc ?_ _ | with_reducible refine le_setCell ?_ _ _ | with_reducible refine le_drewN ?_ _ | with_reducible refine Below.trans ?_ (Below.mono (by assumption) ?_) | with_reducible refine Nat.le_trans ?_ (Below.size (by assumption)) | exact Nat.le_refl _ | (simp; done) | (simp; omega)))⟩

end Go.Proofs.YtlbepbddhnmmjaaDoor
