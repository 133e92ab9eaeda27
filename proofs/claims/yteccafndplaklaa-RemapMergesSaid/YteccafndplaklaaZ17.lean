/-
  The statements' few and equal; lives.
  The walk of the statement RemapComposes.
  The walk of the statement RemapMerges.
-/
import Derived.Test.YteccafndplaklaaZ14
import Derived.Test.YteccafndplaklaaZ16
namespace Go.Proofs.Yteccafndplaklaa
open Go Go.RowKit Go.Joins
set_option linter.unusedVariables false
set_option linter.unusedSimpArgs false

def fewB (N : List ByteArray) (R : List Rn) : Bool := decide (N.length ≤ 60) && decide (R.length ≤ 500)
theorem fewB_t {N : List ByteArray} {R : List Rn} (h : fewB N R = true) : N.length ≤ 60 ∧ R.length ≤ 500 := by
  unfold fewB at h
  rw [Bool.and_eq_true, decide_eq_true_eq, decide_eq_true_eq] at h
  exact h
set_option maxRecDepth 100000 in
set_option maxHeartbeats 4000000 in
theorem few_any (N : List ByteArray) (R : List Rn) (vN vR : Value) (w : World) (hN : NmArg w vN N) (hR : RnArg w vR R) : Calls Try.prog 11 #[.agg #[vN, vR]] w fun e w' => e = .returned (.bool (fewB N R)) ∧ Below w.heap.size w w' := by
  obtain ⟨A1, c1, rfl, q1⟩ := hN.form
  obtain ⟨A2, c2, rfl, q2⟩ := hR
  have bb := Lib.hid (ba w (.cells #[.slice A1 N.length c1, .slice A2 R.length c2] 25))
  clear hN q1 q2
  by_cases h1 : N.length ≤ 60
  · by_cases h2 : R.length ≤ 500
    · have e : fewB N R = true := by unfold fewB; simp [h1, h2]
      rw [e]
      have h1' : (N.length : Int) ≤ 60 := by omega
      have h2' : (R.length : Int) ≤ 500 := by omega
      generalize N.length = n at *
      generalize R.length = r at *
      go_enter Try.func11, Try.ntmps11
      go_wp2
      go_returns
      exact ⟨by simp [*], bb.out⟩
    · have e : fewB N R = false := by unfold fewB; simp [h1, h2]
      rw [e]
      have h1' : (N.length : Int) ≤ 60 := by omega
      have h2' : ¬ (R.length : Int) ≤ 500 := by omega
      generalize N.length = n at *
      generalize R.length = r at *
      go_enter Try.func11, Try.ntmps11
      go_wp2
      go_returns
      exact ⟨by simp [*], bb.out⟩
  · have e : fewB N R = false := by unfold fewB; simp [h1]
    rw [e]
    have h1' : ¬ (N.length : Int) ≤ 60 := by omega
    generalize N.length = n at *
    generalize R.length = r at *
    go_enter Try.func11, Try.ntmps11
    go_wp2
    go_returns
    exact ⟨by simp [*], bb.out⟩

set_option maxRecDepth 100000 in
set_option maxHeartbeats 4000000 in
theorem equal12_any (N : List ByteArray) (R : List Rn) (v1 v2 u1 u2 : Value) (w : World) (h1 : NmArg w v1 N) (h2 : RnArg w v2 R) (k1 : NmArg w u1 N) (k2 : RnArg w u2 R) (hl1 : N.length ≤ 1099511627776) (hl2 : R.length ≤ 1099511627776) :
    Calls Try.prog 14 #[.agg #[v1, v2], .agg #[u1, u2]] w fun e w' => e = .returned (.bool true) ∧ Below w.heap.size w w' := by
  obtain ⟨A1, c1, rfl, _, q1⟩ := h1.form
  obtain ⟨A2, c2, rfl, q2⟩ := h2
  obtain ⟨A3, c3, rfl, _, q3⟩ := k1.form
  obtain ⟨A4, c4, rfl, q4⟩ := k2
  have H1 := Lib.hid q1; have H2 := Lib.hid q3; have H3 := Lib.hid q2; have H4 := Lib.hid q4
  have BA := Lib.hid (ba w (.cells #[.slice A1 N.length c1, .slice A2 R.length c2] 25))
  have PA := Lib.hid (RowAt.new w 25 #[.slice A1 N.length c1, .slice A2 R.length c2])
  have BB := Lib.hid (ba (w.alloc (.cells #[.slice A1 N.length c1, .slice A2 R.length c2] 25)) (.cells #[.slice A3 N.length c3, .slice A4 R.length c4] 25))
  have PB := Lib.hid (RowAt.new (w.alloc (.cells #[.slice A1 N.length c1, .slice A2 R.length c2] 25)) 25 #[.slice A3 N.length c3, .slice A4 R.length c4])
  rw [World.size_alloc] at PB
  have PA2 := Lib.hid (PA.out.keep BB.out)
  have B2 := Lib.hid (BA.out.trans (BB.out.mono BA.out.size))
  obtain ⟨W2, hW2⟩ : ∃ W2, W2 = (w.alloc (.cells #[.slice A1 N.length c1, .slice A2 R.length c2] 25)).alloc (.cells #[.slice A3 N.length c3, .slice A4 R.length c4] 25) := ⟨_, rfl⟩
  rw [← hW2] at PA2 B2 PB
  clear h1 k1 q1 q2 q3 q4 BA PA BB
  have hn : (N.length : Int) ≤ 1099511627776 := by omega
  have hr : (R.length : Int) ≤ 1099511627776 := by omega
  go_enter Try.func14, Try.ntmps14
  go_wp2
  rw [← hW2]
  clear hW2
  have g0 := PA2.out.cell 0
  have g1 := PA2.out.cell 1
  have g2 := PB.out.cell 0
  have g3 := PB.out.cell 1
  go_loopw [5] (fun x wr => ∃ (k m : Nat), k ≤ N.length ∧ x = .int .i64 k ∧ wr = W2.drewN m) (fun x _ => N.length - (intOf x).toNat)
  case atStart => exact ⟨0, 0, by omega, rfl, rfl⟩
  case round =>
    obtain ⟨k, m, hk, rfl, rfl⟩ := hrel
    by_cases hlt : k < N.length
    · obtain ⟨gA, o1, rfl, hg1, hc1⟩ := H1.out (by omega)
      obtain ⟨gB, o2, rfl, hg2, hc2⟩ := H2.out (by omega)
      have a0 := (B2.out.cell (p := ⟨gA, o1 + k, none⟩) hg1).trans (hc1 k hlt)
      have b0 := (B2.out.cell (p := ⟨gB, o2 + k, none⟩) hg2).trans (hc2 k hlt)
      clear hc1 hc2
      generalize N[k] = x0 at *
      have q1 : (!(x0.toList == x0.toList)) = false := by rw [(str_eq rfl).1]; rfl
      have q2 : (x0.toList == x0.toList) = true := (str_eq rfl).1
      go_wp2
      go_quiet (fail)
      go_wp2
      go_roundw
      case rel => exact ⟨k + 1, m + nq, by omega, by go_num, rfl⟩
      case measure => simp [intOf]; omega
    · go_wp2
      go_loopw [6] (fun x wr => ∃ (k2 m2 : Nat), k2 ≤ R.length ∧ x = .int .i64 k2 ∧ wr = W2.drewN m2) (fun x _ => R.length - (intOf x).toNat)
      case atStart => exact ⟨0, m, by omega, rfl, rfl⟩
      case round =>
        obtain ⟨k2, m2, hk2, rfl, rfl⟩ := hrel
        by_cases hlt2 : k2 < R.length
        · obtain ⟨gA, o1, rfl, hg1, hc1⟩ := H3.out (by omega)
          obtain ⟨gB, o2, rfl, hg2, hc2⟩ := H4.out (by omega)
          obtain ⟨a0', a1'⟩ := arg_two hc1 k2 hlt2
          obtain ⟨b0', b1'⟩ := arg_two hc2 k2 hlt2
          have a0 := (B2.out.cell (p := ⟨gA, o1 + k2 * 2, none⟩) hg1).trans a0'
          have a1 := (B2.out.cell (p := ⟨gA, o1 + k2 * 2 + 1, none⟩) hg1).trans a1'
          have b0 := (B2.out.cell (p := ⟨gB, o2 + k2 * 2, none⟩) hg2).trans b0'
          have b1 := (B2.out.cell (p := ⟨gB, o2 + k2 * 2 + 1, none⟩) hg2).trans b1'
          clear hc1 hc2 a0' a1' b0' b1'
          generalize R[k2].1 = x0 at *
          generalize R[k2].2 = x1 at *
          go_wp2
          go_quiet (fail)
          go_wp2
          go_roundw
          case rel => exact ⟨k2 + 1, m2 + nq, by omega, by go_num, rfl⟩
          case measure => simp [intOf]; omega
        · go_wp2
          go_returns
          exact ⟨rfl, Go.below_drewN B2.out _⟩

/-! The statements' example. -/
def exA : List ByteArray := [⟨#[97]⟩]
def exB : List ByteArray := [⟨#[98]⟩]
def exX : List Rn := [(1, 2)]
def exY : List Rn := [(1, 1), (0, 2)]
theorem ex_sA : szs exA := by
  intro s hs
  simp only [exA, List.mem_cons, List.mem_nil_iff, or_false] at hs
  subst hs; decide +kernel
theorem ex_sB : szs exB := by
  intro s hs
  simp only [exB, List.mem_cons, List.mem_nil_iff, or_false] at hs
  subst hs; decide +kernel
theorem ex_mgE : mgE exA exX exB exY = 0 := by decide +kernel
theorem ex_mgN : mgN exA exX exB exY = [⟨#[97]⟩, ⟨#[98]⟩] := by rw [mgN_0 ex_mgE]; rfl
theorem ex_mgR : mgR exA exX exB exY = [(3, 1), (1, 2)] := by
  rw [mgR_0 ex_mgE]
  have e1 : exS exX (max (lg exX) (lg exY) - lg exX) = [(1, 2), (1, 1)] := by decide +kernel
  have e2 : exS exY (max (lg exX) (lg exY) - lg exY) = [(1, 1), (0, 2)] := by decide +kernel
  unfold mgS
  rw [e1, e2, mrg_gt (by decide), mrg_lt (by decide), show (2 : Int) - (2 - 1) = 1 by decide, mrg_eq, mrg_nil]
  decide +kernel

set_option maxRecDepth 100000 in
set_option maxHeartbeats 8000000 in
theorem lives_any (w : World) : Calls Try.prog 10 #[] w fun e w' => e = .returned (.bool true) ∧ Below w.heap.size w w' := by
  obtain ⟨W4, hW4⟩ : ∃ W4, W4 = (((w.alloc (.cells #[.string ⟨#[97]⟩] 9)).alloc (.cells #[.int .i64 1, .int .i64 2] 48)).alloc (.cells #[.string ⟨#[98]⟩] 9)).alloc (.cells #[.int .i64 1, .int .i64 1, .int .i64 0, .int .i64 2] 48) := ⟨_, rfl⟩
  have B4 := Lib.hid (show Below w.heap.size w W4 by rw [hW4]; exact ((((Below.refl _ _).alloc (Nat.le_refl _) _).alloc (by simp) _).alloc (by simp; omega) _).alloc (by simp; omega) _)
  have HM := Lib.hid (show Calls Try.prog 17 #[.agg #[.slice (some ⟨w.heap.size, 0, none⟩) 1 1, .slice (some ⟨w.heap.size + 1, 0, none⟩) 1 1], .agg #[.slice (some ⟨w.heap.size + 1 + 1, 0, none⟩) 1 1, .slice (some ⟨w.heap.size + 1 + 1 + 1, 0, none⟩) 2 2]] W4 fun e w' => ∃ (v1 v2 : Value), e = .returned (.tuple #[.agg #[v1, v2], .int .i64 0]) ∧ NmArg w' v1 [⟨#[97]⟩, ⟨#[98]⟩] ∧ RnArg w' v2 [(3, 1), (1, 2)] ∧ Below W4.heap.size W4 w' by
    have a0 : RowAt W4 w.heap.size 9 #[.string ⟨#[97]⟩] := by rw [hW4]; exact (((RowAt.new w _ _).alloc _).alloc _).alloc _
    have a1 : RowAt W4 (w.heap.size + 1) 48 #[.int .i64 1, .int .i64 2] := by rw [hW4]; exact ((RowAt.at (by simp)).alloc _).alloc _
    have a2 : RowAt W4 (w.heap.size + 1 + 1) 9 #[.string ⟨#[98]⟩] := by rw [hW4]; exact (RowAt.at (by simp)).alloc _
    have a3 : RowAt W4 (w.heap.size + 1 + 1 + 1) 48 #[.int .i64 1, .int .i64 1, .int .i64 0, .int .i64 2] := by rw [hW4]; exact RowAt.at (by simp)
    have n1 : NmArg W4 (.slice (some ⟨w.heap.size, 0, none⟩) 1 1) exA := by
      refine NmArg.of rfl (by decide) (fun _ => ⟨w.heap.size, 0, rfl, a0.lt, fun j hj => ?_⟩)
      obtain rfl : j = 0 := by simp [exA] at hj; omega
      exact a0.cell 0
    have n2 : NmArg W4 (.slice (some ⟨w.heap.size + 1 + 1, 0, none⟩) 1 1) exB := by
      refine NmArg.of rfl (by decide) (fun _ => ⟨w.heap.size + 1 + 1, 0, rfl, a2.lt, fun j hj => ?_⟩)
      obtain rfl : j = 0 := by simp [exB] at hj; omega
      exact a2.cell 0
    have r1 : RnArg W4 (.slice (some ⟨w.heap.size + 1, 0, none⟩) 1 1) exX := by
      refine ⟨_, 1, rfl, fun _ => ⟨w.heap.size + 1, 0, rfl, a1.lt, fun j hj i hi => ?_⟩⟩
      obtain rfl : j = 0 := by simp [exX] at hj; omega
      have hi2 : i = 0 ∨ i = 1 := by omega
      rcases hi2 with rfl | rfl
      · exact a1.cell 0
      · exact a1.cell 1
    have r2 : RnArg W4 (.slice (some ⟨w.heap.size + 1 + 1 + 1, 0, none⟩) 2 2) exY := by
      refine ⟨_, 2, rfl, fun _ => ⟨w.heap.size + 1 + 1 + 1, 0, rfl, a3.lt, fun j hj i hi => ?_⟩⟩
      have hj2 : j = 0 ∨ j = 1 := by simp [exY] at hj; omega
      have hi2 : i = 0 ∨ i = 1 := by omega
      rcases hj2 with rfl | rfl <;> rcases hi2 with rfl | rfl
      · exact a3.cell 0
      · exact a3.cell 1
      · exact a3.cell 2
      · exact a3.cell 3
    refine (merge_any exA exX exB exY _ _ _ _ W4 n1 ex_sA r1 n2 ex_sB r2 (by decide) (by decide) (by decide) (by decide)).mono ?_
    rintro e w' ⟨v1, v2, rfl, a1, a2, b⟩
    rw [ex_mgE]
    rw [ex_mgN] at a1
    rw [ex_mgR] at a2
    exact ⟨v1, v2, rfl, a1, a2, b⟩)
  go_enter Try.func10, Try.ntmps10
  go_wp2_with (first
    | (go_at_call 17; go_must (rw [← hW4]; clear hW4; refine HM.out.mono ?_; rintro e1 w1 ⟨v1, v2, rfl, a1, a2, b1⟩; obtain ⟨A1, c1, rfl, _, _⟩ := a1.form; obtain ⟨A2, c2, rfl, q2⟩ := a2; obtain ⟨g, o, rfl, hg, hc⟩ := q2 (by decide); have f0 : w1.cell? ⟨g, o, none⟩ = some (.int .i64 3) := hc 0 (by decide) 0 (by decide); have f1 : w1.cell? ⟨g, o + 1, none⟩ = some (.int .i64 1) := hc 0 (by decide) 1 (by decide); have f2 : w1.cell? ⟨g, o + 2, none⟩ = some (.int .i64 1) := hc 1 (by decide) 0 (by decide); have f3 : w1.cell? ⟨g, o + 2 + 1, none⟩ = some (.int .i64 2) := hc 1 (by decide) 1 (by decide); have B1 := Lib.hid (B4.out.trans (b1.mono B4.out.size)); have BX := ba w1 (.cells #[.slice A1 2 c1, .slice (some ⟨g, o, none⟩) 2 c2] 25); have x0 := (BX.cell (p := ⟨g, o, none⟩) hg).trans f0; have x1 := (BX.cell (p := ⟨g, o + 1, none⟩) hg).trans f1; have x2 := (BX.cell (p := ⟨g, o + 2, none⟩) hg).trans f2; have x3 := (BX.cell (p := ⟨g, o + 2 + 1, none⟩) hg).trans f3; have PX := RowAt.new w1 25 #[.slice A1 2 c1, .slice (some ⟨g, o, none⟩) 2 c2]; have y0 := PX.cell 0; have y1 := PX.cell 1; have BXh := Lib.hid BX; clear BX PX f0 f1 f2 f3 hc b1 a1 q2)))
  go_returns
  exact ⟨rfl, B1.out.trans (BXh.out.mono B1.out.size)⟩
end Go.Proofs.Yteccafndplaklaa

namespace Go.Proofs.Yteccafndplaklaa
open Go Go.RowKit Go.Joins
set_option linter.unusedVariables false
set_option linter.unusedSimpArgs false

theorem mk_two (m n : Nat) {a b : Int} (h0 : 0 ≤ a) (h1 : a ≤ mk m) (h2 : 0 ≤ b) (h3 : b ≤ mk n) : 0 ≤ a + b * 2 ^ m ∧ a + b * 2 ^ m ≤ mk (m + n) := by
  unfold mk at *
  have hm : (0 : Int) < 2 ^ m := Int.pow_pos (by omega)
  have e : (2 : Int) ^ (m + n) = 2 ^ m * 2 ^ n := Int.pow_add 2 m n
  have h4 : b * 2 ^ m ≤ (2 ^ n - 1) * 2 ^ m := Int.mul_le_mul_of_nonneg_right h3 (by omega)
  have h5 : 0 ≤ b * 2 ^ m := Int.mul_nonneg h2 (by omega)
  have e2 : ((2 : Int) ^ n - 1) * 2 ^ m = 2 ^ m * 2 ^ n - 2 ^ m := by rw [Int.sub_mul, Int.one_mul, Int.mul_comm]
  rw [e2] at h4
  rw [e]
  omega
theorem mrg_lv (m n : Nat) : ∀ (k : Nat) (x y : List Rn), x.length + y.length ≤ k → lv (mk m) x → lv (mk n) y → lv (mk (m + n)) (mrg m x y) := by
  intro k
  induction k with
  | zero =>
    intro x y hk _ _
    have : x = [] := List.eq_nil_of_length_eq_zero (by omega)
    subst this
    rw [mrg_nil]; exact lv_nil _
  | succ k ih =>
    intro x y hk hx hy
    cases x with
    | nil => rw [mrg_nil]; exact lv_nil _
    | cons r x =>
      cases y with
      | nil => rw [mrg_nil2]; exact lv_nil _
      | cons s y =>
        obtain ⟨l, t⟩ := r
        obtain ⟨u, d⟩ := s
        rw [lv_cons] at hx hy
        have hb := mk_two m n hx.1.1 hx.1.2 hy.1.1 hy.1.2
        simp only [List.length_cons] at hk
        rcases Int.lt_trichotomy t d with c | c | c
        · rw [mrg_lt c, lv_cons]
          exact ⟨hb, ih x ((u, d - t) :: y) (by simp only [List.length_cons]; omega) hx.2 (lv_cons.2 hy)⟩
        · subst c
          rw [mrg_eq, lv_cons]
          exact ⟨hb, ih x y (by omega) hx.2 hy.2⟩
        · rw [mrg_gt c, lv_cons]
          exact ⟨hb, ih ((l, t - d) :: x) y (by simp only [List.length_cons]; omega) (lv_cons.2 hx) hy.2⟩
theorem sel_lv (ks : List Nat) (R : List Rn) : lv (mk ks.length) (sel ks R) := by
  intro r hr
  obtain ⟨q, _, rfl⟩ := List.mem_map.1 hr
  have := sb_range ks q.1
  unfold mk
  show 0 ≤ sb ks q.1 ∧ sb ks q.1 ≤ _
  omega
/-- A merged capture is valid. -/
theorem mg_valid {A B : List ByteArray} {X Y : List Rn} (h : mgE A X B Y = 0) (hx : X.length ≤ 1000) (hy : Y.length ≤ 1000) :
    ckC (A ++ B) (mgR A X B Y) = 0 ∧ lg (mgR A X B Y) = max (lg X) (lg Y) ∧ (mgR A X B Y).length ≤ X.length + Y.length + 2 ∧
      ∀ k, 0 ≤ k → k < max (lg X) (lg Y) → atv (mgR A X B Y) k = ((atv (exS X (max (lg X) (lg Y) - lg X)) k).1 + (atv (exS Y (max (lg X) (lg Y) - lg Y)) k).1 * 2 ^ A.length, true) := by
  obtain ⟨h1, h2, h3, h4⟩ := mg_ok h
  obtain ⟨a1, a2, a3, a4, a5, a6⟩ := ckC_ok h1
  obtain ⟨b1, b2, b3, b4, b5, b6⟩ := ckC_ok h2
  have rX := vr_range a6
  have rY := vr_range b6
  obtain ⟨v1, v2, v3⟩ := (vr_iff _ X 0 (by omega)).1 a6
  obtain ⟨u1, u2, u3⟩ := (vr_iff _ Y 0 (by omega)).1 b6
  obtain ⟨x1, x2, x3, x4, _⟩ := ex_all (R := X) (d := max (lg X) (lg Y) - lg X) v2 (by omega)
  obtain ⟨y1, y2, y3, y4, _⟩ := ex_all (R := Y) (d := max (lg X) (lg Y) - lg Y) u2 (by omega)
  obtain ⟨m1, m2, m3, m4⟩ := mrg_all A.length _ _ x2 y2
  have hnd : (A ++ B).Nodup := dp_no.1 (by rw [dp_two (ckN_nodup a2) (ckN_nodup b2)]; exact h3)
  have hN : ckN (A ++ B) = 0 := ckN_of (by rw [List.length_append]; omega) (by rw [List.length_append]; exact h4) (by rw [List.all_append, a5, b5]; rfl) hnd
  have hlv : lv (mk (A ++ B).length) (mgS A.length X Y) := by
    rw [List.length_append]
    exact mrg_lv A.length B.length _ _ _ (Nat.le_refl _) (exS_lv v1 (mk_range a4).1) (exS_lv u1 (mk_range b4).1)
  have hl : lg (mgS A.length X Y) = max (lg X) (lg Y) := by unfold mgS; rw [m2, x4, y4]; omega
  have hfew := mrg_few (m := A.length) v2 u2 (show 0 ≤ max (lg X) (lg Y) - lg X by omega) (show 0 ≤ max (lg X) (lg Y) - lg Y by omega)
  rw [mgR_0 h]
  refine ⟨ckC_0 (by unfold mgS; omega) hN ((vr_iff _ _ 0 (by omega)).2 ⟨jn_lv hlv, jn_ps m1, by rw [jn_lg, hl]; omega⟩), by rw [jn_lg, hl], hfew, fun k k0 k1 => ?_⟩
  unfold mgS
  rw [atv_jn k m1 k0]
  exact m4 k k0 (by rw [x4, y4]; omega)
theorem has_left {A B : List ByteArray} : ∀ x ∈ A, has (A ++ B) x = true := fun x hx => has_iff.2 (List.mem_append_left _ hx)
theorem has_right {A B : List ByteArray} : ∀ x ∈ B, has (A ++ B) x = true := fun x hx => has_iff.2 (List.mem_append_right _ hx)
theorem kn_all {N M : List ByteArray} (h : ∀ x ∈ M, has N x = true) : kn N M = M.length := kn_eq (fun j hj _ => h _ (List.getElem_mem hj)) (Nat.le_refl _) (fun hj => absurd hj (by omega))
theorem ckS_all {N M : List ByteArray} (h : ∀ x ∈ M, has N x = true) (h0 : 0 < M.length) (hd : M.Nodup) : ckS N M = 0 := by
  have hk := kn_all h
  unfold ckS
  rw [hk, List.take_length, if_neg (by omega), if_neg (by rw [dp_no.2 hd]; decide), if_neg (by omega)]
theorem map_left {A B : List ByteArray} (h : ckN (A ++ B) = 0) : A.map (ixN (A ++ B)) = List.range A.length := by
  apply List.ext_getElem
  · simp
  · intro i h1 h2
    have hi : i < A.length := by simpa using h1
    have := ix_own h (i := i) (by rw [List.length_append]; omega)
    rw [List.getElem_append_left hi] at this
    simp only [List.getElem_map, List.getElem_range]
    unfold ixN
    rw [this]; rfl
theorem map_right {A B : List ByteArray} (h : ckN (A ++ B) = 0) : B.map (ixN (A ++ B)) = List.range' A.length B.length := by
  apply List.ext_getElem
  · simp
  · intro i h1 h2
    have hi : i < B.length := by simpa using h1
    have := ix_own h (i := A.length + i) (by rw [List.length_append]; omega)
    rw [List.getElem_append_right (by omega)] at this
    simp only [Nat.add_sub_cancel_left] at this
    simp only [List.getElem_map, List.getElem_range']
    unfold ixN
    rw [this]; simp; omega
theorem comp_law {A B : List ByteArray} {X Y : List Rn} (h : mgE A X B Y = 0) (hx : X.length ≤ 1000) (hy : Y.length ≤ 1000) :
    seE (A ++ B) (mgR A X B Y) A = 0 ∧ seE (A ++ B) (mgR A X B Y) B = 0 ∧ (mgR A X B Y).length ≤ X.length + Y.length + 2 ∧
      (seR (A ++ B) (mgR A X B Y) A).length ≤ 262144 ∧ (seR (A ++ B) (mgR A X B Y) B).length ≤ 262144 ∧
      (∀ k, 0 ≤ k → k < lg X → atC A (seR (A ++ B) (mgR A X B Y) A) k = atv X k) ∧ (∀ k, 0 ≤ k → k < lg Y → atC B (seR (A ++ B) (mgR A X B Y) B) k = atv Y k) := by
  obtain ⟨g1, g2, g3, g4⟩ := mg_valid h hx hy
  obtain ⟨h1, h2, h3, h4⟩ := mg_ok h
  obtain ⟨a1, a2, a3, a4, a5, a6⟩ := ckC_ok h1
  obtain ⟨b1, b2, b3, b4, b5, b6⟩ := ckC_ok h2
  obtain ⟨v1, v2, v3⟩ := (vr_iff _ X 0 (by omega)).1 a6
  obtain ⟨u1, u2, u3⟩ := (vr_iff _ Y 0 (by omega)).1 b6
  have gk := ckC_ok g1
  have gr := vr_range gk.2.2.2.2.2
  obtain ⟨w1, w2, w3⟩ := (vr_iff _ (mgR A X B Y) 0 (by omega)).1 gk.2.2.2.2.2
  have e1 : seE (A ++ B) (mgR A X B Y) A = 0 := by rw [se_s g1]; exact ckS_all has_left a3 (ckN_nodup a2)
  have e2 : seE (A ++ B) (mgR A X B Y) B = 0 := by rw [se_s g1]; exact ckS_all has_right b3 (ckN_nodup b2)
  have sv : ∀ (N : List ByteArray) (ks : List Nat), ckN N = 0 → ks.length = N.length → ckC N (jn (sel ks (mgR A X B Y))) = 0 := by
    intro N ks hN hk
    have hlen : (sel ks (mgR A X B Y)).length = (mgR A X B Y).length := by simp [sel]
    have := jn_len (sel ks (mgR A X B Y))
    refine ckC_0 (by omega) hN ((vr_iff _ _ 0 (by omega)).2 ⟨jn_lv (by rw [← hk]; exact sel_lv ks _), jn_ps (sel_ps w2), by rw [jn_lg, sel_lg]; omega⟩)
  rw [seR_0 e1, seR_0 e2, map_left gk.2.1, map_right gk.2.1]
  have l1 := jn_len (sel (List.range A.length) (mgR A X B Y))
  have l2 := jn_len (sel (List.range' A.length B.length) (mgR A X B Y))
  have l3 : (sel (List.range A.length) (mgR A X B Y)).length = (mgR A X B Y).length := by simp [sel]
  have l4 : (sel (List.range' A.length B.length) (mgR A X B Y)).length = (mgR A X B Y).length := by simp [sel]
  have pA : (2 : Int) ^ A.length = mk A.length + 1 := by unfold mk; omega
  have pB : (2 : Int) ^ B.length = mk B.length + 1 := by unfold mk; omega
  have lvX : ∀ k, 0 ≤ k → k < max (lg X) (lg Y) → 0 ≤ (atv (exS X (max (lg X) (lg Y) - lg X)) k).1 ∧ (atv (exS X (max (lg X) (lg Y) - lg X)) k).1 < 2 ^ A.length := by
    intro k k0 k1
    obtain ⟨_, x2, _, x4, _⟩ := ex_all (R := X) (d := max (lg X) (lg Y) - lg X) v2 (by omega)
    obtain ⟨_, r, hr, hr2⟩ := atv_in k0 x2 (by rw [x4]; omega)
    have := exS_lv v1 (mk_range a4).1 (d := max (lg X) (lg Y) - lg X) r hr
    rw [hr2, pA]; omega
  have lvY : ∀ k, 0 ≤ k → k < max (lg X) (lg Y) → 0 ≤ (atv (exS Y (max (lg X) (lg Y) - lg Y)) k).1 ∧ (atv (exS Y (max (lg X) (lg Y) - lg Y)) k).1 < 2 ^ B.length := by
    intro k k0 k1
    obtain ⟨_, x2, _, x4, _⟩ := ex_all (R := Y) (d := max (lg X) (lg Y) - lg Y) u2 (by omega)
    obtain ⟨_, r, hr, hr2⟩ := atv_in k0 x2 (by rw [x4]; omega)
    have := exS_lv u1 (mk_range b4).1 (d := max (lg X) (lg Y) - lg Y) r hr
    rw [hr2, pB]; omega
  refine ⟨e1, e2, g3, by omega, by omega, fun k k0 k1 => ?_, fun k k0 k1 => ?_⟩
  · rw [atC_yes (sv A _ a2 (by simp)) k0, atv_jn k (sel_ps w2) k0, sel_at, g4 k k0 (by omega), if_pos rfl]
    have q1 := lvX k k0 (by omega)
    have q2 := lvY k k0 (by omega)
    simp only
    rw [sb_low q1.1 q1.2, exS_old v2 k0 k1]
    exact Prod.ext rfl (atv_in k0 v2 k1).1.symm
  · rw [atC_yes (sv B _ b2 (by simp)) k0, atv_jn k (sel_ps w2) k0, sel_at, g4 k k0 (by omega), if_pos rfl]
    have q1 := lvX k k0 (by omega)
    have q2 := lvY k k0 (by omega)
    simp only
    rw [sb_high q1.1 q1.2 q2.1 q2.2, exS_old u2 k0 k1]
    exact Prod.ext rfl (atv_in k0 u2 k1).1.symm
/-- What At answers in a valid capture: a level, or none. -/
theorem atC_two {N : List ByteArray} {R : List Rn} (h : ckC N R = 0) (k : Int) : (0 ≤ k ∧ k < lg R ∧ ∃ L, atC N R k = (L, true) ∧ atv R k = (L, true)) ∨ atC N R k = (-1, false) := by
  have hps := ((vr_iff _ R 0 (by omega)).1 (ckC_ok h).2.2.2.2.2).2.1
  by_cases h0 : 0 ≤ k
  · by_cases h1 : k < lg R
    · refine Or.inl ⟨h0, h1, (atv R k).1, ?_, ?_⟩
      · rw [atC_yes h h0]; exact Prod.ext rfl (atv_in h0 hps h1).1
      · exact Prod.ext rfl (atv_in h0 hps h1).1
    · exact Or.inr (by rw [atC_yes h h0]; exact atv_end hps (by omega))
  · exact Or.inr (atC_no (fun x => h0 x.2))

set_option maxRecDepth 100000 in
set_option maxHeartbeats 16000000 in
theorem law_composes (A : List ByteArray) (X : List Rn) (B : List ByteArray) (Y : List Rn) (k : Int) (vA vX vB vY : Value) (w : World) (hA : NmArg w vA A) (hsA : szs A) (hX : RnArg w vX X) (hB : NmArg w vB B) (hsB : szs B) (hY : RnArg w vY Y) (hk1 : k ≤ 9223372036854775807) :
    Calls Try.prog 7 #[.agg #[vA, vX], .agg #[vB, vY], .int .i64 k] w fun e w' => e = .returned (.bool true) ∧ Below w.heap.size w w' := by
  have HFc := Lib.hid (fun w' (hb : Below w.heap.size w w') => few_any A X vA vX w' (hA.keep hb) (hX.keep hb))
  have HFd := Lib.hid (fun w' (hb : Below w.heap.size w w') => few_any B Y vB vY w' (hB.keep hb) (hY.keep hb))
  have hA' := fun w' (hb : Below w.heap.size w w') => hA.keep hb
  have hX' := fun w' (hb : Below w.heap.size w w') => hX.keep hb
  have hB' := fun w' (hb : Below w.heap.size w w') => hB.keep hb
  have hY' := fun w' (hb : Below w.heap.size w w') => hY.keep hb
  have HAK := Lib.hid hA'; have HXK := Lib.hid hX'; have HBK := Lib.hid hB'; have HYK := Lib.hid hY'
  clear hA' hX' hB' hY'
  obtain ⟨A1, c1, rfl, _⟩ := hA.form
  obtain ⟨A2, c2, rfl⟩ := hX.form
  obtain ⟨E1, d1, rfl, _⟩ := hB.form
  obtain ⟨E2, d2, rfl⟩ := hY.form
  have e1s : (w.alloc (.cells #[.slice A1 A.length c1, .slice A2 X.length c2] 25)).heap.size = w.heap.size + 1 := World.size_alloc _ _
  have B0 := Lib.hid ((ba w (.cells #[.slice A1 A.length c1, .slice A2 X.length c2] 25)).alloc (ba w _).size (.cells #[.slice E1 B.length d1, .slice E2 Y.length d2] 25))
  have P0 := Lib.hid ((RowAt.new w 25 #[.slice A1 A.length c1, .slice A2 X.length c2]).alloc (.cells #[.slice E1 B.length d1, .slice E2 Y.length d2] 25))
  have T0' := RowAt.new (w.alloc (.cells #[.slice A1 A.length c1, .slice A2 X.length c2] 25)) 25 #[.slice E1 B.length d1, .slice E2 Y.length d2]
  rw [e1s] at T0'
  have T0 := Lib.hid T0'
  clear T0' e1s hA hX hB hY
  have p0 := P0.out.cell 0
  have p1 := P0.out.cell 1
  have t0 := T0.out.cell 0
  have t1 := T0.out.cell 1
  cases hf : fewB A X with
  | false =>
    rw [hf] at HFc
    clear hf
    go_enter Try.func7, Try.ntmps7
    go_wp2_with (first
      | (go_at_call 10; go_must (refine (lives_any _).mono ?_; rintro e1 w1 ⟨rfl, b1⟩; have B1 := Lib.hid (B0.out.trans (b1.mono B0.out.size)); have P1 := Lib.hid (P0.out.keep b1); have T1 := Lib.hid (T0.out.keep b1); (try clear p0 p1); (try clear t0 t1); (try clear x0 x1); (try clear y0 y1); (try clear z0 z1); have p0 := P1.out.cell 0; have p1 := P1.out.cell 1; have t0 := T1.out.cell 0; have t1 := T1.out.cell 1; clear b1))
      | (go_at_call 11; go_must (refine (HFc.out _ B1.out).mono ?_; rintro e2 w2 ⟨rfl, b2⟩; have B2 := Lib.hid (B1.out.trans (b2.mono B1.out.size)); have P2 := Lib.hid (P1.out.keep b2); have T2 := Lib.hid (T1.out.keep b2); (try clear p0 p1); (try clear t0 t1); (try clear x0 x1); (try clear y0 y1); (try clear z0 z1); have p0 := P2.out.cell 0; have p1 := P2.out.cell 1; have t0 := T2.out.cell 0; have t1 := T2.out.cell 1; clear b2)))
    go_returns
    exact ⟨rfl, B2.out⟩
  | true =>
    rw [hf] at HFc
    obtain ⟨f1, f2⟩ := fewB_t hf
    cases hg : fewB B Y with
    | false =>
      rw [hg] at HFd
      clear hf hg f1 f2
      go_enter Try.func7, Try.ntmps7
      go_wp2_with (first
        | (go_at_call 10; go_must (refine (lives_any _).mono ?_; rintro e1 w1 ⟨rfl, b1⟩; have B1 := Lib.hid (B0.out.trans (b1.mono B0.out.size)); have P1 := Lib.hid (P0.out.keep b1); have T1 := Lib.hid (T0.out.keep b1); (try clear p0 p1); (try clear t0 t1); (try clear x0 x1); (try clear y0 y1); (try clear z0 z1); have p0 := P1.out.cell 0; have p1 := P1.out.cell 1; have t0 := T1.out.cell 0; have t1 := T1.out.cell 1; clear b1))
        | (go_at_call 11; go_must (first | (have tok := B2.out; refine (HFd.out _ B2.out).mono ?_; rintro e3 w3 ⟨rfl, b3⟩; have B3 := Lib.hid (B2.out.trans (b3.mono B2.out.size)); have P3 := Lib.hid (P2.out.keep b3); have T3 := Lib.hid (T2.out.keep b3); (try clear p0 p1); (try clear t0 t1); (try clear x0 x1); (try clear y0 y1); (try clear z0 z1); have p0 := P3.out.cell 0; have p1 := P3.out.cell 1; have t0 := T3.out.cell 0; have t1 := T3.out.cell 1; clear b3) | (refine (HFc.out _ B1.out).mono ?_; rintro e2 w2 ⟨rfl, b2⟩; have B2 := Lib.hid (B1.out.trans (b2.mono B1.out.size)); have P2 := Lib.hid (P1.out.keep b2); have T2 := Lib.hid (T1.out.keep b2); (try clear p0 p1); (try clear t0 t1); (try clear x0 x1); (try clear y0 y1); (try clear z0 z1); have p0 := P2.out.cell 0; have p1 := P2.out.cell 1; have t0 := T2.out.cell 0; have t1 := T2.out.cell 1; clear b2))))
      go_returns
      exact ⟨rfl, B3.out⟩
    | true =>
      rw [hg] at HFd
      obtain ⟨f3, f4⟩ := fewB_t hg
      have HM' := fun w' (hb : Below w.heap.size w w') => merge_any A X B Y _ _ _ _ w' (HAK.out w' hb) hsA (HXK.out w' hb) (HBK.out w' hb) hsB (HYK.out w' hb) (by omega) (by omega) (by omega) (by omega)
      by_cases he : mgE A X B Y = 0
      · rw [he, mgN_0 he] at HM'
        have HM := Lib.hid HM'
        obtain ⟨q1, q2, q3, q4, q5, q6, q7⟩ := comp_law he (by omega) (by omega)
        obtain ⟨h1, h2, h3, h4⟩ := mg_ok he
        have hsM : szs (A ++ B) := fun s hs => by rcases List.mem_append.1 hs with h | h; exact hsA s h; exact hsB s h
        have HS1' := fun V U w' (h1 : NmArg w' V (A ++ B)) (h2 : RnArg w' U (mgR A X B Y)) (hb : Below w.heap.size w w') => select_any (A ++ B) (mgR A X B Y) A V U _ w' h1 hsM h2 (by omega) (HAK.out w' hb) hsA (by omega) (by rw [List.length_append]; omega)
        have HS2' := fun V U w' (h1 : NmArg w' V (A ++ B)) (h2 : RnArg w' U (mgR A X B Y)) (hb : Below w.heap.size w w') => select_any (A ++ B) (mgR A X B Y) B V U _ w' h1 hsM h2 (by omega) (HBK.out w' hb) hsB (by omega) (by rw [List.length_append]; omega)
        rw [q1, seN_0 q1] at HS1'
        rw [q2, seN_0 q2] at HS2'
        have HS1 := Lib.hid (fun (_ : Unit) => HS1')
        have HS2 := Lib.hid (fun (_ : Unit) => HS2')
        have HA1' := fun w' (hb : Below w.heap.size w w') => at_any A X _ _ k w' (HAK.out w' hb) hsA (HXK.out w' hb) (by omega) hk1
        have HA3' := fun w' (hb : Below w.heap.size w w') => at_any B Y _ _ k w' (HBK.out w' hb) hsB (HYK.out w' hb) (by omega) hk1
        have HA2' := fun V U w' (n : NmArg w' V A) (r : RnArg w' U (seR (A ++ B) (mgR A X B Y) A)) => at_any A (seR (A ++ B) (mgR A X B Y) A) V U k w' n hsA r (by omega) hk1
        have HA4' := fun V U w' (n : NmArg w' V B) (r : RnArg w' U (seR (A ++ B) (mgR A X B Y) B)) => at_any B (seR (A ++ B) (mgR A X B Y) B) V U k w' n hsB r (by omega) hk1
        have z1 := atC_two h1 k
        have z2 := atC_two h2 k
        have y1 : ∀ L, 0 ≤ k → k < lg X → atv X k = (L, true) → atC A (seR (A ++ B) (mgR A X B Y) A) k = (L, true) := fun L a b c => (q6 k a b).trans c
        have y2 : ∀ L, 0 ≤ k → k < lg Y → atv Y k = (L, true) → atC B (seR (A ++ B) (mgR A X B Y) B) k = (L, true) := fun L a b c => (q7 k a b).trans c
        clear HM' HS1' HS2' hf hg f1 f2 f3 f4 q1 q2 q3 q4 q5 q6 q7 he h1 h2 h3 h4 hsM
        generalize seR (A ++ B) (mgR A X B Y) A = S1 at *
        generalize seR (A ++ B) (mgR A X B Y) B = S2 at *
        generalize mgR A X B Y = MR at *
        generalize A ++ B = MN at *
        rcases z1 with ⟨k0, k1, L1, za, zb⟩ | za
        · have zc := y1 L1 k0 k1 zb
          rw [za] at HA1'
          rw [zc] at HA2'
          rcases z2 with ⟨k2, k3, L2, zd, ze⟩ | zd
          · have zf := y2 L2 k2 k3 ze
            rw [zd] at HA3'
            rw [zf] at HA4'
            clear y1 y2 za zb zc zd ze zf k0 k1 k2 k3
            have HA1 := Lib.hid (show ∀ w', Below w.heap.size w w' → Calls Try.prog 23 #[.agg #[.slice A1 A.length c1, .slice A2 X.length c2], .int .i64 k] w' fun e w'' => e = .returned (.tuple #[.int .i64 L1, .bool true]) ∧ Below w'.heap.size w' w'' from HA1')
            have HA2 := Lib.hid (show ∀ V U w', NmArg w' V A → RnArg w' U S1 → Calls Try.prog 23 #[.agg #[V, U], .int .i64 k] w' fun e w'' => e = .returned (.tuple #[.int .i64 L1, .bool true]) ∧ Below w'.heap.size w' w'' from HA2')
            have HA3 := Lib.hid (show ∀ w', Below w.heap.size w w' → Calls Try.prog 23 #[.agg #[.slice E1 B.length d1, .slice E2 Y.length d2], .int .i64 k] w' fun e w'' => e = .returned (.tuple #[.int .i64 L2, .bool true]) ∧ Below w'.heap.size w' w'' from HA3')
            have HA4 := Lib.hid (show ∀ V U w', NmArg w' V B → RnArg w' U S2 → Calls Try.prog 23 #[.agg #[V, U], .int .i64 k] w' fun e w'' => e = .returned (.tuple #[.int .i64 L2, .bool true]) ∧ Below w'.heap.size w' w'' from HA4')
            clear HA1' HA2' HA3' HA4' HAK HXK HBK HYK
            go_enter Try.func7, Try.ntmps7
            go_wp2_with (first
              | (go_at_call 10; go_must (refine (lives_any _).mono ?_; rintro e1 w1 ⟨rfl, b1⟩; have B1 := Lib.hid (B0.out.trans (b1.mono B0.out.size)); have P1 := Lib.hid (P0.out.keep b1); have T1 := Lib.hid (T0.out.keep b1); (try clear p0 p1); (try clear t0 t1); (try clear x0 x1); (try clear y0 y1); (try clear z0 z1); have p0 := P1.out.cell 0; have p1 := P1.out.cell 1; have t0 := T1.out.cell 0; have t1 := T1.out.cell 1; clear b1))
              | (go_at_call 11; go_must (first | (have tok := B2.out; refine (HFd.out _ B2.out).mono ?_; rintro e3 w3 ⟨rfl, b3⟩; have B3 := Lib.hid (B2.out.trans (b3.mono B2.out.size)); have P3 := Lib.hid (P2.out.keep b3); have T3 := Lib.hid (T2.out.keep b3); (try clear p0 p1); (try clear t0 t1); (try clear x0 x1); (try clear y0 y1); (try clear z0 z1); have p0 := P3.out.cell 0; have p1 := P3.out.cell 1; have t0 := T3.out.cell 0; have t1 := T3.out.cell 1; clear b3) | (refine (HFc.out _ B1.out).mono ?_; rintro e2 w2 ⟨rfl, b2⟩; have B2 := Lib.hid (B1.out.trans (b2.mono B1.out.size)); have P2 := Lib.hid (P1.out.keep b2); have T2 := Lib.hid (T1.out.keep b2); (try clear p0 p1); (try clear t0 t1); (try clear x0 x1); (try clear y0 y1); (try clear z0 z1); have p0 := P2.out.cell 0; have p1 := P2.out.cell 1; have t0 := T2.out.cell 0; have t1 := T2.out.cell 1; clear b2)))
              | (go_at_call 17; go_must (refine (HM.out _ B3.out).mono ?_; rintro e4 w4 ⟨v4, u4, rfl, n4, r4, b4⟩; obtain ⟨UA, UC, rfl, _⟩ := n4.form; obtain ⟨VA, VC, rfl⟩ := r4.form; have B4 := Lib.hid ((B3.out.trans (b4.mono B3.out.size)).alloc (B3.out.trans (b4.mono B3.out.size)).size (.cells #[.slice UA MN.length UC, .slice VA MR.length VC] 25)); have P4 := Lib.hid ((P3.out.keep b4).alloc (.cells #[.slice UA MN.length UC, .slice VA MR.length VC] 25)); have T4 := Lib.hid ((T3.out.keep b4).alloc (.cells #[.slice UA MN.length UC, .slice VA MR.length VC] 25)); have X4 := Lib.hid (RowAt.new w4 25 #[.slice UA MN.length UC, .slice VA MR.length VC]); have Nm4 := Lib.hid (n4.keep (ba w4 (.cells #[.slice UA MN.length UC, .slice VA MR.length VC] 25))); have Rm4 := Lib.hid (r4.keep (ba w4 (.cells #[.slice UA MN.length UC, .slice VA MR.length VC] 25))); (try clear p0 p1); (try clear t0 t1); (try clear x0 x1); (try clear y0 y1); (try clear z0 z1); have p0 := P4.out.cell 0; have p1 := P4.out.cell 1; have t0 := T4.out.cell 0; have t1 := T4.out.cell 1; have x0 := X4.out.cell 0; have x1 := X4.out.cell 1; clear n4 r4 b4))
              | (go_at_call 12; go_must (first | (have tok := B5.out; refine (HS2.out () _ _ _ Nm5.out Rm5.out B5.out).mono ?_; rintro e6 w6 ⟨v6, u6, rfl, n6, r6, b6⟩; obtain ⟨GA, GC, rfl, _⟩ := n6.form; obtain ⟨HA, HC, rfl⟩ := r6.form; have B6 := Lib.hid ((B5.out.trans (b6.mono B5.out.size)).alloc (B5.out.trans (b6.mono B5.out.size)).size (.cells #[.slice GA B.length GC, .slice HA S2.length HC] 25)); have P6 := Lib.hid ((P5.out.keep b6).alloc (.cells #[.slice GA B.length GC, .slice HA S2.length HC] 25)); have T6 := Lib.hid ((T5.out.keep b6).alloc (.cells #[.slice GA B.length GC, .slice HA S2.length HC] 25)); have X6 := Lib.hid ((X5.out.keep b6).alloc (.cells #[.slice GA B.length GC, .slice HA S2.length HC] 25)); have Y6 := Lib.hid ((Y5.out.keep b6).alloc (.cells #[.slice GA B.length GC, .slice HA S2.length HC] 25)); have Nx6 := Lib.hid ((Nx5.out.keep b6).keep (ba w6 (.cells #[.slice GA B.length GC, .slice HA S2.length HC] 25))); have Rx6 := Lib.hid ((Rx5.out.keep b6).keep (ba w6 (.cells #[.slice GA B.length GC, .slice HA S2.length HC] 25))); have Z6 := Lib.hid (RowAt.new w6 25 #[.slice GA B.length GC, .slice HA S2.length HC]); have Ny6 := Lib.hid (n6.keep (ba w6 (.cells #[.slice GA B.length GC, .slice HA S2.length HC] 25))); have Ry6 := Lib.hid (r6.keep (ba w6 (.cells #[.slice GA B.length GC, .slice HA S2.length HC] 25))); (try clear p0 p1); (try clear t0 t1); (try clear x0 x1); (try clear y0 y1); (try clear z0 z1); have p0 := P6.out.cell 0; have p1 := P6.out.cell 1; have t0 := T6.out.cell 0; have t1 := T6.out.cell 1; have y0 := Y6.out.cell 0; have y1 := Y6.out.cell 1; have z0 := Z6.out.cell 0; have z1 := Z6.out.cell 1; clear n6 r6 b6) | (refine (HS1.out () _ _ _ Nm4.out Rm4.out B4.out).mono ?_; rintro e5 w5 ⟨v5, u5, rfl, n5, r5, b5⟩; obtain ⟨EA, EC, rfl, _⟩ := n5.form; obtain ⟨FA, FC, rfl⟩ := r5.form; have B5 := Lib.hid ((B4.out.trans (b5.mono B4.out.size)).alloc (B4.out.trans (b5.mono B4.out.size)).size (.cells #[.slice EA A.length EC, .slice FA S1.length FC] 25)); have P5 := Lib.hid ((P4.out.keep b5).alloc (.cells #[.slice EA A.length EC, .slice FA S1.length FC] 25)); have T5 := Lib.hid ((T4.out.keep b5).alloc (.cells #[.slice EA A.length EC, .slice FA S1.length FC] 25)); have X5 := Lib.hid ((X4.out.keep b5).alloc (.cells #[.slice EA A.length EC, .slice FA S1.length FC] 25)); have Nm5 := Lib.hid ((Nm4.out.keep b5).keep (ba w5 (.cells #[.slice EA A.length EC, .slice FA S1.length FC] 25))); have Rm5 := Lib.hid ((Rm4.out.keep b5).keep (ba w5 (.cells #[.slice EA A.length EC, .slice FA S1.length FC] 25))); have Y5 := Lib.hid (RowAt.new w5 25 #[.slice EA A.length EC, .slice FA S1.length FC]); have Nx5 := Lib.hid (n5.keep (ba w5 (.cells #[.slice EA A.length EC, .slice FA S1.length FC] 25))); have Rx5 := Lib.hid (r5.keep (ba w5 (.cells #[.slice EA A.length EC, .slice FA S1.length FC] 25))); (try clear p0 p1); (try clear t0 t1); (try clear x0 x1); (try clear y0 y1); (try clear z0 z1); have p0 := P5.out.cell 0; have p1 := P5.out.cell 1; have t0 := T5.out.cell 0; have t1 := T5.out.cell 1; have x0 := X5.out.cell 0; have x1 := X5.out.cell 1; have y0 := Y5.out.cell 0; have y1 := Y5.out.cell 1; clear n5 r5 b5)))
              | (go_at_call 23; go_must (first | (have tok := B9.out; refine (HA4.out _ _ _ Ny9.out Ry9.out).mono ?_; rintro e10 w10 ⟨rfl, b10⟩; have B10 := Lib.hid (B9.out.trans (b10.mono B9.out.size)); (try clear p0 p1); (try clear t0 t1); (try clear x0 x1); (try clear y0 y1); (try clear z0 z1); clear b10) | (have tok := B8.out; refine (HA3.out _ B8.out).mono ?_; rintro e9 w9 ⟨rfl, b9⟩; have B9 := Lib.hid (B8.out.trans (b9.mono B8.out.size)); have P9 := Lib.hid (P8.out.keep b9); have T9 := Lib.hid (T8.out.keep b9); have Y9 := Lib.hid (Y8.out.keep b9); have Z9 := Lib.hid (Z8.out.keep b9); have Ny9 := Lib.hid (Ny8.out.keep b9); have Ry9 := Lib.hid (Ry8.out.keep b9); (try clear p0 p1); (try clear t0 t1); (try clear x0 x1); (try clear y0 y1); (try clear z0 z1); have p0 := P9.out.cell 0; have p1 := P9.out.cell 1; have t0 := T9.out.cell 0; have t1 := T9.out.cell 1; have y0 := Y9.out.cell 0; have y1 := Y9.out.cell 1; have z0 := Z9.out.cell 0; have z1 := Z9.out.cell 1; clear b9) | (have tok := B7.out; refine (HA2.out _ _ _ Nx7.out Rx7.out).mono ?_; rintro e8 w8 ⟨rfl, b8⟩; have B8 := Lib.hid (B7.out.trans (b8.mono B7.out.size)); have P8 := Lib.hid (P7.out.keep b8); have T8 := Lib.hid (T7.out.keep b8); have Y8 := Lib.hid (Y7.out.keep b8); have Z8 := Lib.hid (Z7.out.keep b8); have Ny8 := Lib.hid (Ny7.out.keep b8); have Ry8 := Lib.hid (Ry7.out.keep b8); (try clear p0 p1); (try clear t0 t1); (try clear x0 x1); (try clear y0 y1); (try clear z0 z1); have p0 := P8.out.cell 0; have p1 := P8.out.cell 1; have t0 := T8.out.cell 0; have t1 := T8.out.cell 1; have y0 := Y8.out.cell 0; have y1 := Y8.out.cell 1; have z0 := Z8.out.cell 0; have z1 := Z8.out.cell 1; clear b8) | (refine (HA1.out _ B6.out).mono ?_; rintro e7 w7 ⟨rfl, b7⟩; have B7 := Lib.hid (B6.out.trans (b7.mono B6.out.size)); have P7 := Lib.hid (P6.out.keep b7); have T7 := Lib.hid (T6.out.keep b7); have Y7 := Lib.hid (Y6.out.keep b7); have Z7 := Lib.hid (Z6.out.keep b7); have Nx7 := Lib.hid (Nx6.out.keep b7); have Rx7 := Lib.hid (Rx6.out.keep b7); have Ny7 := Lib.hid (Ny6.out.keep b7); have Ry7 := Lib.hid (Ry6.out.keep b7); (try clear p0 p1); (try clear t0 t1); (try clear x0 x1); (try clear y0 y1); (try clear z0 z1); have p0 := P7.out.cell 0; have p1 := P7.out.cell 1; have t0 := T7.out.cell 0; have t1 := T7.out.cell 1; have y0 := Y7.out.cell 0; have y1 := Y7.out.cell 1; have z0 := Z7.out.cell 0; have z1 := Z7.out.cell 1; clear b7))))
            go_returns
            exact ⟨rfl, B10.out⟩
          · rw [zd] at HA3'
            generalize atC B S2 k = p2 at *
            obtain ⟨L4, O4⟩ := p2
            clear y1 y2 za zb zc zd k0 k1
            have HA1 := Lib.hid (show ∀ w', Below w.heap.size w w' → Calls Try.prog 23 #[.agg #[.slice A1 A.length c1, .slice A2 X.length c2], .int .i64 k] w' fun e w'' => e = .returned (.tuple #[.int .i64 L1, .bool true]) ∧ Below w'.heap.size w' w'' from HA1')
            have HA2 := Lib.hid (show ∀ V U w', NmArg w' V A → RnArg w' U S1 → Calls Try.prog 23 #[.agg #[V, U], .int .i64 k] w' fun e w'' => e = .returned (.tuple #[.int .i64 L1, .bool true]) ∧ Below w'.heap.size w' w'' from HA2')
            have HA3 := Lib.hid (show ∀ w', Below w.heap.size w w' → Calls Try.prog 23 #[.agg #[.slice E1 B.length d1, .slice E2 Y.length d2], .int .i64 k] w' fun e w'' => e = .returned (.tuple #[.int .i64 (-1), .bool false]) ∧ Below w'.heap.size w' w'' from HA3')
            have HA4 := Lib.hid (show ∀ V U w', NmArg w' V B → RnArg w' U S2 → Calls Try.prog 23 #[.agg #[V, U], .int .i64 k] w' fun e w'' => e = .returned (.tuple #[.int .i64 L4, .bool O4]) ∧ Below w'.heap.size w' w'' from HA4')
            clear HA1' HA2' HA3' HA4' HAK HXK HBK HYK
            go_enter Try.func7, Try.ntmps7
            go_wp2_with (first
              | (go_at_call 10; go_must (refine (lives_any _).mono ?_; rintro e1 w1 ⟨rfl, b1⟩; have B1 := Lib.hid (B0.out.trans (b1.mono B0.out.size)); have P1 := Lib.hid (P0.out.keep b1); have T1 := Lib.hid (T0.out.keep b1); (try clear p0 p1); (try clear t0 t1); (try clear x0 x1); (try clear y0 y1); (try clear z0 z1); have p0 := P1.out.cell 0; have p1 := P1.out.cell 1; have t0 := T1.out.cell 0; have t1 := T1.out.cell 1; clear b1))
              | (go_at_call 11; go_must (first | (have tok := B2.out; refine (HFd.out _ B2.out).mono ?_; rintro e3 w3 ⟨rfl, b3⟩; have B3 := Lib.hid (B2.out.trans (b3.mono B2.out.size)); have P3 := Lib.hid (P2.out.keep b3); have T3 := Lib.hid (T2.out.keep b3); (try clear p0 p1); (try clear t0 t1); (try clear x0 x1); (try clear y0 y1); (try clear z0 z1); have p0 := P3.out.cell 0; have p1 := P3.out.cell 1; have t0 := T3.out.cell 0; have t1 := T3.out.cell 1; clear b3) | (refine (HFc.out _ B1.out).mono ?_; rintro e2 w2 ⟨rfl, b2⟩; have B2 := Lib.hid (B1.out.trans (b2.mono B1.out.size)); have P2 := Lib.hid (P1.out.keep b2); have T2 := Lib.hid (T1.out.keep b2); (try clear p0 p1); (try clear t0 t1); (try clear x0 x1); (try clear y0 y1); (try clear z0 z1); have p0 := P2.out.cell 0; have p1 := P2.out.cell 1; have t0 := T2.out.cell 0; have t1 := T2.out.cell 1; clear b2)))
              | (go_at_call 17; go_must (refine (HM.out _ B3.out).mono ?_; rintro e4 w4 ⟨v4, u4, rfl, n4, r4, b4⟩; obtain ⟨UA, UC, rfl, _⟩ := n4.form; obtain ⟨VA, VC, rfl⟩ := r4.form; have B4 := Lib.hid ((B3.out.trans (b4.mono B3.out.size)).alloc (B3.out.trans (b4.mono B3.out.size)).size (.cells #[.slice UA MN.length UC, .slice VA MR.length VC] 25)); have P4 := Lib.hid ((P3.out.keep b4).alloc (.cells #[.slice UA MN.length UC, .slice VA MR.length VC] 25)); have T4 := Lib.hid ((T3.out.keep b4).alloc (.cells #[.slice UA MN.length UC, .slice VA MR.length VC] 25)); have X4 := Lib.hid (RowAt.new w4 25 #[.slice UA MN.length UC, .slice VA MR.length VC]); have Nm4 := Lib.hid (n4.keep (ba w4 (.cells #[.slice UA MN.length UC, .slice VA MR.length VC] 25))); have Rm4 := Lib.hid (r4.keep (ba w4 (.cells #[.slice UA MN.length UC, .slice VA MR.length VC] 25))); (try clear p0 p1); (try clear t0 t1); (try clear x0 x1); (try clear y0 y1); (try clear z0 z1); have p0 := P4.out.cell 0; have p1 := P4.out.cell 1; have t0 := T4.out.cell 0; have t1 := T4.out.cell 1; have x0 := X4.out.cell 0; have x1 := X4.out.cell 1; clear n4 r4 b4))
              | (go_at_call 12; go_must (first | (have tok := B5.out; refine (HS2.out () _ _ _ Nm5.out Rm5.out B5.out).mono ?_; rintro e6 w6 ⟨v6, u6, rfl, n6, r6, b6⟩; obtain ⟨GA, GC, rfl, _⟩ := n6.form; obtain ⟨HA, HC, rfl⟩ := r6.form; have B6 := Lib.hid ((B5.out.trans (b6.mono B5.out.size)).alloc (B5.out.trans (b6.mono B5.out.size)).size (.cells #[.slice GA B.length GC, .slice HA S2.length HC] 25)); have P6 := Lib.hid ((P5.out.keep b6).alloc (.cells #[.slice GA B.length GC, .slice HA S2.length HC] 25)); have T6 := Lib.hid ((T5.out.keep b6).alloc (.cells #[.slice GA B.length GC, .slice HA S2.length HC] 25)); have X6 := Lib.hid ((X5.out.keep b6).alloc (.cells #[.slice GA B.length GC, .slice HA S2.length HC] 25)); have Y6 := Lib.hid ((Y5.out.keep b6).alloc (.cells #[.slice GA B.length GC, .slice HA S2.length HC] 25)); have Nx6 := Lib.hid ((Nx5.out.keep b6).keep (ba w6 (.cells #[.slice GA B.length GC, .slice HA S2.length HC] 25))); have Rx6 := Lib.hid ((Rx5.out.keep b6).keep (ba w6 (.cells #[.slice GA B.length GC, .slice HA S2.length HC] 25))); have Z6 := Lib.hid (RowAt.new w6 25 #[.slice GA B.length GC, .slice HA S2.length HC]); have Ny6 := Lib.hid (n6.keep (ba w6 (.cells #[.slice GA B.length GC, .slice HA S2.length HC] 25))); have Ry6 := Lib.hid (r6.keep (ba w6 (.cells #[.slice GA B.length GC, .slice HA S2.length HC] 25))); (try clear p0 p1); (try clear t0 t1); (try clear x0 x1); (try clear y0 y1); (try clear z0 z1); have p0 := P6.out.cell 0; have p1 := P6.out.cell 1; have t0 := T6.out.cell 0; have t1 := T6.out.cell 1; have y0 := Y6.out.cell 0; have y1 := Y6.out.cell 1; have z0 := Z6.out.cell 0; have z1 := Z6.out.cell 1; clear n6 r6 b6) | (refine (HS1.out () _ _ _ Nm4.out Rm4.out B4.out).mono ?_; rintro e5 w5 ⟨v5, u5, rfl, n5, r5, b5⟩; obtain ⟨EA, EC, rfl, _⟩ := n5.form; obtain ⟨FA, FC, rfl⟩ := r5.form; have B5 := Lib.hid ((B4.out.trans (b5.mono B4.out.size)).alloc (B4.out.trans (b5.mono B4.out.size)).size (.cells #[.slice EA A.length EC, .slice FA S1.length FC] 25)); have P5 := Lib.hid ((P4.out.keep b5).alloc (.cells #[.slice EA A.length EC, .slice FA S1.length FC] 25)); have T5 := Lib.hid ((T4.out.keep b5).alloc (.cells #[.slice EA A.length EC, .slice FA S1.length FC] 25)); have X5 := Lib.hid ((X4.out.keep b5).alloc (.cells #[.slice EA A.length EC, .slice FA S1.length FC] 25)); have Nm5 := Lib.hid ((Nm4.out.keep b5).keep (ba w5 (.cells #[.slice EA A.length EC, .slice FA S1.length FC] 25))); have Rm5 := Lib.hid ((Rm4.out.keep b5).keep (ba w5 (.cells #[.slice EA A.length EC, .slice FA S1.length FC] 25))); have Y5 := Lib.hid (RowAt.new w5 25 #[.slice EA A.length EC, .slice FA S1.length FC]); have Nx5 := Lib.hid (n5.keep (ba w5 (.cells #[.slice EA A.length EC, .slice FA S1.length FC] 25))); have Rx5 := Lib.hid (r5.keep (ba w5 (.cells #[.slice EA A.length EC, .slice FA S1.length FC] 25))); (try clear p0 p1); (try clear t0 t1); (try clear x0 x1); (try clear y0 y1); (try clear z0 z1); have p0 := P5.out.cell 0; have p1 := P5.out.cell 1; have t0 := T5.out.cell 0; have t1 := T5.out.cell 1; have x0 := X5.out.cell 0; have x1 := X5.out.cell 1; have y0 := Y5.out.cell 0; have y1 := Y5.out.cell 1; clear n5 r5 b5)))
              | (go_at_call 23; go_must (first | (have tok := B9.out; refine (HA4.out _ _ _ Ny9.out Ry9.out).mono ?_; rintro e10 w10 ⟨rfl, b10⟩; have B10 := Lib.hid (B9.out.trans (b10.mono B9.out.size)); (try clear p0 p1); (try clear t0 t1); (try clear x0 x1); (try clear y0 y1); (try clear z0 z1); clear b10) | (have tok := B8.out; refine (HA3.out _ B8.out).mono ?_; rintro e9 w9 ⟨rfl, b9⟩; have B9 := Lib.hid (B8.out.trans (b9.mono B8.out.size)); have P9 := Lib.hid (P8.out.keep b9); have T9 := Lib.hid (T8.out.keep b9); have Y9 := Lib.hid (Y8.out.keep b9); have Z9 := Lib.hid (Z8.out.keep b9); have Ny9 := Lib.hid (Ny8.out.keep b9); have Ry9 := Lib.hid (Ry8.out.keep b9); (try clear p0 p1); (try clear t0 t1); (try clear x0 x1); (try clear y0 y1); (try clear z0 z1); have p0 := P9.out.cell 0; have p1 := P9.out.cell 1; have t0 := T9.out.cell 0; have t1 := T9.out.cell 1; have y0 := Y9.out.cell 0; have y1 := Y9.out.cell 1; have z0 := Z9.out.cell 0; have z1 := Z9.out.cell 1; clear b9) | (have tok := B7.out; refine (HA2.out _ _ _ Nx7.out Rx7.out).mono ?_; rintro e8 w8 ⟨rfl, b8⟩; have B8 := Lib.hid (B7.out.trans (b8.mono B7.out.size)); have P8 := Lib.hid (P7.out.keep b8); have T8 := Lib.hid (T7.out.keep b8); have Y8 := Lib.hid (Y7.out.keep b8); have Z8 := Lib.hid (Z7.out.keep b8); have Ny8 := Lib.hid (Ny7.out.keep b8); have Ry8 := Lib.hid (Ry7.out.keep b8); (try clear p0 p1); (try clear t0 t1); (try clear x0 x1); (try clear y0 y1); (try clear z0 z1); have p0 := P8.out.cell 0; have p1 := P8.out.cell 1; have t0 := T8.out.cell 0; have t1 := T8.out.cell 1; have y0 := Y8.out.cell 0; have y1 := Y8.out.cell 1; have z0 := Z8.out.cell 0; have z1 := Z8.out.cell 1; clear b8) | (refine (HA1.out _ B6.out).mono ?_; rintro e7 w7 ⟨rfl, b7⟩; have B7 := Lib.hid (B6.out.trans (b7.mono B6.out.size)); have P7 := Lib.hid (P6.out.keep b7); have T7 := Lib.hid (T6.out.keep b7); have Y7 := Lib.hid (Y6.out.keep b7); have Z7 := Lib.hid (Z6.out.keep b7); have Nx7 := Lib.hid (Nx6.out.keep b7); have Rx7 := Lib.hid (Rx6.out.keep b7); have Ny7 := Lib.hid (Ny6.out.keep b7); have Ry7 := Lib.hid (Ry6.out.keep b7); (try clear p0 p1); (try clear t0 t1); (try clear x0 x1); (try clear y0 y1); (try clear z0 z1); have p0 := P7.out.cell 0; have p1 := P7.out.cell 1; have t0 := T7.out.cell 0; have t1 := T7.out.cell 1; have y0 := Y7.out.cell 0; have y1 := Y7.out.cell 1; have z0 := Z7.out.cell 0; have z1 := Z7.out.cell 1; clear b7))))
            go_returns
            exact ⟨rfl, B10.out⟩
        · rw [za] at HA1'
          generalize hp1 : atC A S1 k = p1' at *
          obtain ⟨L3, O3⟩ := p1'
          rcases z2 with ⟨k2, k3, L2, zd, ze⟩ | zd
          · have zf := y2 L2 k2 k3 ze
            rw [zd] at HA3'
            rw [zf] at HA4'
            clear y1 y2 za zd ze zf k2 k3 hp1
            have HA1 := Lib.hid (show ∀ w', Below w.heap.size w w' → Calls Try.prog 23 #[.agg #[.slice A1 A.length c1, .slice A2 X.length c2], .int .i64 k] w' fun e w'' => e = .returned (.tuple #[.int .i64 (-1), .bool false]) ∧ Below w'.heap.size w' w'' from HA1')
            have HA2 := Lib.hid (show ∀ V U w', NmArg w' V A → RnArg w' U S1 → Calls Try.prog 23 #[.agg #[V, U], .int .i64 k] w' fun e w'' => e = .returned (.tuple #[.int .i64 L3, .bool O3]) ∧ Below w'.heap.size w' w'' from HA2')
            have HA3 := Lib.hid (show ∀ w', Below w.heap.size w w' → Calls Try.prog 23 #[.agg #[.slice E1 B.length d1, .slice E2 Y.length d2], .int .i64 k] w' fun e w'' => e = .returned (.tuple #[.int .i64 L2, .bool true]) ∧ Below w'.heap.size w' w'' from HA3')
            have HA4 := Lib.hid (show ∀ V U w', NmArg w' V B → RnArg w' U S2 → Calls Try.prog 23 #[.agg #[V, U], .int .i64 k] w' fun e w'' => e = .returned (.tuple #[.int .i64 L2, .bool true]) ∧ Below w'.heap.size w' w'' from HA4')
            clear HA1' HA2' HA3' HA4' HAK HXK HBK HYK
            go_enter Try.func7, Try.ntmps7
            go_wp2_with (first
              | (go_at_call 10; go_must (refine (lives_any _).mono ?_; rintro e1 w1 ⟨rfl, b1⟩; have B1 := Lib.hid (B0.out.trans (b1.mono B0.out.size)); have P1 := Lib.hid (P0.out.keep b1); have T1 := Lib.hid (T0.out.keep b1); (try clear p0 p1); (try clear t0 t1); (try clear x0 x1); (try clear y0 y1); (try clear z0 z1); have p0 := P1.out.cell 0; have p1 := P1.out.cell 1; have t0 := T1.out.cell 0; have t1 := T1.out.cell 1; clear b1))
              | (go_at_call 11; go_must (first | (have tok := B2.out; refine (HFd.out _ B2.out).mono ?_; rintro e3 w3 ⟨rfl, b3⟩; have B3 := Lib.hid (B2.out.trans (b3.mono B2.out.size)); have P3 := Lib.hid (P2.out.keep b3); have T3 := Lib.hid (T2.out.keep b3); (try clear p0 p1); (try clear t0 t1); (try clear x0 x1); (try clear y0 y1); (try clear z0 z1); have p0 := P3.out.cell 0; have p1 := P3.out.cell 1; have t0 := T3.out.cell 0; have t1 := T3.out.cell 1; clear b3) | (refine (HFc.out _ B1.out).mono ?_; rintro e2 w2 ⟨rfl, b2⟩; have B2 := Lib.hid (B1.out.trans (b2.mono B1.out.size)); have P2 := Lib.hid (P1.out.keep b2); have T2 := Lib.hid (T1.out.keep b2); (try clear p0 p1); (try clear t0 t1); (try clear x0 x1); (try clear y0 y1); (try clear z0 z1); have p0 := P2.out.cell 0; have p1 := P2.out.cell 1; have t0 := T2.out.cell 0; have t1 := T2.out.cell 1; clear b2)))
              | (go_at_call 17; go_must (refine (HM.out _ B3.out).mono ?_; rintro e4 w4 ⟨v4, u4, rfl, n4, r4, b4⟩; obtain ⟨UA, UC, rfl, _⟩ := n4.form; obtain ⟨VA, VC, rfl⟩ := r4.form; have B4 := Lib.hid ((B3.out.trans (b4.mono B3.out.size)).alloc (B3.out.trans (b4.mono B3.out.size)).size (.cells #[.slice UA MN.length UC, .slice VA MR.length VC] 25)); have P4 := Lib.hid ((P3.out.keep b4).alloc (.cells #[.slice UA MN.length UC, .slice VA MR.length VC] 25)); have T4 := Lib.hid ((T3.out.keep b4).alloc (.cells #[.slice UA MN.length UC, .slice VA MR.length VC] 25)); have X4 := Lib.hid (RowAt.new w4 25 #[.slice UA MN.length UC, .slice VA MR.length VC]); have Nm4 := Lib.hid (n4.keep (ba w4 (.cells #[.slice UA MN.length UC, .slice VA MR.length VC] 25))); have Rm4 := Lib.hid (r4.keep (ba w4 (.cells #[.slice UA MN.length UC, .slice VA MR.length VC] 25))); (try clear p0 p1); (try clear t0 t1); (try clear x0 x1); (try clear y0 y1); (try clear z0 z1); have p0 := P4.out.cell 0; have p1 := P4.out.cell 1; have t0 := T4.out.cell 0; have t1 := T4.out.cell 1; have x0 := X4.out.cell 0; have x1 := X4.out.cell 1; clear n4 r4 b4))
              | (go_at_call 12; go_must (first | (have tok := B5.out; refine (HS2.out () _ _ _ Nm5.out Rm5.out B5.out).mono ?_; rintro e6 w6 ⟨v6, u6, rfl, n6, r6, b6⟩; obtain ⟨GA, GC, rfl, _⟩ := n6.form; obtain ⟨HA, HC, rfl⟩ := r6.form; have B6 := Lib.hid ((B5.out.trans (b6.mono B5.out.size)).alloc (B5.out.trans (b6.mono B5.out.size)).size (.cells #[.slice GA B.length GC, .slice HA S2.length HC] 25)); have P6 := Lib.hid ((P5.out.keep b6).alloc (.cells #[.slice GA B.length GC, .slice HA S2.length HC] 25)); have T6 := Lib.hid ((T5.out.keep b6).alloc (.cells #[.slice GA B.length GC, .slice HA S2.length HC] 25)); have X6 := Lib.hid ((X5.out.keep b6).alloc (.cells #[.slice GA B.length GC, .slice HA S2.length HC] 25)); have Y6 := Lib.hid ((Y5.out.keep b6).alloc (.cells #[.slice GA B.length GC, .slice HA S2.length HC] 25)); have Nx6 := Lib.hid ((Nx5.out.keep b6).keep (ba w6 (.cells #[.slice GA B.length GC, .slice HA S2.length HC] 25))); have Rx6 := Lib.hid ((Rx5.out.keep b6).keep (ba w6 (.cells #[.slice GA B.length GC, .slice HA S2.length HC] 25))); have Z6 := Lib.hid (RowAt.new w6 25 #[.slice GA B.length GC, .slice HA S2.length HC]); have Ny6 := Lib.hid (n6.keep (ba w6 (.cells #[.slice GA B.length GC, .slice HA S2.length HC] 25))); have Ry6 := Lib.hid (r6.keep (ba w6 (.cells #[.slice GA B.length GC, .slice HA S2.length HC] 25))); (try clear p0 p1); (try clear t0 t1); (try clear x0 x1); (try clear y0 y1); (try clear z0 z1); have p0 := P6.out.cell 0; have p1 := P6.out.cell 1; have t0 := T6.out.cell 0; have t1 := T6.out.cell 1; have y0 := Y6.out.cell 0; have y1 := Y6.out.cell 1; have z0 := Z6.out.cell 0; have z1 := Z6.out.cell 1; clear n6 r6 b6) | (refine (HS1.out () _ _ _ Nm4.out Rm4.out B4.out).mono ?_; rintro e5 w5 ⟨v5, u5, rfl, n5, r5, b5⟩; obtain ⟨EA, EC, rfl, _⟩ := n5.form; obtain ⟨FA, FC, rfl⟩ := r5.form; have B5 := Lib.hid ((B4.out.trans (b5.mono B4.out.size)).alloc (B4.out.trans (b5.mono B4.out.size)).size (.cells #[.slice EA A.length EC, .slice FA S1.length FC] 25)); have P5 := Lib.hid ((P4.out.keep b5).alloc (.cells #[.slice EA A.length EC, .slice FA S1.length FC] 25)); have T5 := Lib.hid ((T4.out.keep b5).alloc (.cells #[.slice EA A.length EC, .slice FA S1.length FC] 25)); have X5 := Lib.hid ((X4.out.keep b5).alloc (.cells #[.slice EA A.length EC, .slice FA S1.length FC] 25)); have Nm5 := Lib.hid ((Nm4.out.keep b5).keep (ba w5 (.cells #[.slice EA A.length EC, .slice FA S1.length FC] 25))); have Rm5 := Lib.hid ((Rm4.out.keep b5).keep (ba w5 (.cells #[.slice EA A.length EC, .slice FA S1.length FC] 25))); have Y5 := Lib.hid (RowAt.new w5 25 #[.slice EA A.length EC, .slice FA S1.length FC]); have Nx5 := Lib.hid (n5.keep (ba w5 (.cells #[.slice EA A.length EC, .slice FA S1.length FC] 25))); have Rx5 := Lib.hid (r5.keep (ba w5 (.cells #[.slice EA A.length EC, .slice FA S1.length FC] 25))); (try clear p0 p1); (try clear t0 t1); (try clear x0 x1); (try clear y0 y1); (try clear z0 z1); have p0 := P5.out.cell 0; have p1 := P5.out.cell 1; have t0 := T5.out.cell 0; have t1 := T5.out.cell 1; have x0 := X5.out.cell 0; have x1 := X5.out.cell 1; have y0 := Y5.out.cell 0; have y1 := Y5.out.cell 1; clear n5 r5 b5)))
              | (go_at_call 23; go_must (first | (have tok := B9.out; refine (HA4.out _ _ _ Ny9.out Ry9.out).mono ?_; rintro e10 w10 ⟨rfl, b10⟩; have B10 := Lib.hid (B9.out.trans (b10.mono B9.out.size)); (try clear p0 p1); (try clear t0 t1); (try clear x0 x1); (try clear y0 y1); (try clear z0 z1); clear b10) | (have tok := B8.out; refine (HA3.out _ B8.out).mono ?_; rintro e9 w9 ⟨rfl, b9⟩; have B9 := Lib.hid (B8.out.trans (b9.mono B8.out.size)); have P9 := Lib.hid (P8.out.keep b9); have T9 := Lib.hid (T8.out.keep b9); have Y9 := Lib.hid (Y8.out.keep b9); have Z9 := Lib.hid (Z8.out.keep b9); have Ny9 := Lib.hid (Ny8.out.keep b9); have Ry9 := Lib.hid (Ry8.out.keep b9); (try clear p0 p1); (try clear t0 t1); (try clear x0 x1); (try clear y0 y1); (try clear z0 z1); have p0 := P9.out.cell 0; have p1 := P9.out.cell 1; have t0 := T9.out.cell 0; have t1 := T9.out.cell 1; have y0 := Y9.out.cell 0; have y1 := Y9.out.cell 1; have z0 := Z9.out.cell 0; have z1 := Z9.out.cell 1; clear b9) | (have tok := B7.out; refine (HA2.out _ _ _ Nx7.out Rx7.out).mono ?_; rintro e8 w8 ⟨rfl, b8⟩; have B8 := Lib.hid (B7.out.trans (b8.mono B7.out.size)); have P8 := Lib.hid (P7.out.keep b8); have T8 := Lib.hid (T7.out.keep b8); have Y8 := Lib.hid (Y7.out.keep b8); have Z8 := Lib.hid (Z7.out.keep b8); have Ny8 := Lib.hid (Ny7.out.keep b8); have Ry8 := Lib.hid (Ry7.out.keep b8); (try clear p0 p1); (try clear t0 t1); (try clear x0 x1); (try clear y0 y1); (try clear z0 z1); have p0 := P8.out.cell 0; have p1 := P8.out.cell 1; have t0 := T8.out.cell 0; have t1 := T8.out.cell 1; have y0 := Y8.out.cell 0; have y1 := Y8.out.cell 1; have z0 := Z8.out.cell 0; have z1 := Z8.out.cell 1; clear b8) | (refine (HA1.out _ B6.out).mono ?_; rintro e7 w7 ⟨rfl, b7⟩; have B7 := Lib.hid (B6.out.trans (b7.mono B6.out.size)); have P7 := Lib.hid (P6.out.keep b7); have T7 := Lib.hid (T6.out.keep b7); have Y7 := Lib.hid (Y6.out.keep b7); have Z7 := Lib.hid (Z6.out.keep b7); have Nx7 := Lib.hid (Nx6.out.keep b7); have Rx7 := Lib.hid (Rx6.out.keep b7); have Ny7 := Lib.hid (Ny6.out.keep b7); have Ry7 := Lib.hid (Ry6.out.keep b7); (try clear p0 p1); (try clear t0 t1); (try clear x0 x1); (try clear y0 y1); (try clear z0 z1); have p0 := P7.out.cell 0; have p1 := P7.out.cell 1; have t0 := T7.out.cell 0; have t1 := T7.out.cell 1; have y0 := Y7.out.cell 0; have y1 := Y7.out.cell 1; have z0 := Z7.out.cell 0; have z1 := Z7.out.cell 1; clear b7))))
            go_returns
            exact ⟨rfl, B10.out⟩
          · rw [zd] at HA3'
            generalize atC B S2 k = p2 at *
            obtain ⟨L4, O4⟩ := p2
            clear y1 y2 za zd hp1
            have HA1 := Lib.hid (show ∀ w', Below w.heap.size w w' → Calls Try.prog 23 #[.agg #[.slice A1 A.length c1, .slice A2 X.length c2], .int .i64 k] w' fun e w'' => e = .returned (.tuple #[.int .i64 (-1), .bool false]) ∧ Below w'.heap.size w' w'' from HA1')
            have HA2 := Lib.hid (show ∀ V U w', NmArg w' V A → RnArg w' U S1 → Calls Try.prog 23 #[.agg #[V, U], .int .i64 k] w' fun e w'' => e = .returned (.tuple #[.int .i64 L3, .bool O3]) ∧ Below w'.heap.size w' w'' from HA2')
            have HA3 := Lib.hid (show ∀ w', Below w.heap.size w w' → Calls Try.prog 23 #[.agg #[.slice E1 B.length d1, .slice E2 Y.length d2], .int .i64 k] w' fun e w'' => e = .returned (.tuple #[.int .i64 (-1), .bool false]) ∧ Below w'.heap.size w' w'' from HA3')
            have HA4 := Lib.hid (show ∀ V U w', NmArg w' V B → RnArg w' U S2 → Calls Try.prog 23 #[.agg #[V, U], .int .i64 k] w' fun e w'' => e = .returned (.tuple #[.int .i64 L4, .bool O4]) ∧ Below w'.heap.size w' w'' from HA4')
            clear HA1' HA2' HA3' HA4' HAK HXK HBK HYK
            go_enter Try.func7, Try.ntmps7
            go_wp2_with (first
              | (go_at_call 10; go_must (refine (lives_any _).mono ?_; rintro e1 w1 ⟨rfl, b1⟩; have B1 := Lib.hid (B0.out.trans (b1.mono B0.out.size)); have P1 := Lib.hid (P0.out.keep b1); have T1 := Lib.hid (T0.out.keep b1); (try clear p0 p1); (try clear t0 t1); (try clear x0 x1); (try clear y0 y1); (try clear z0 z1); have p0 := P1.out.cell 0; have p1 := P1.out.cell 1; have t0 := T1.out.cell 0; have t1 := T1.out.cell 1; clear b1))
              | (go_at_call 11; go_must (first | (have tok := B2.out; refine (HFd.out _ B2.out).mono ?_; rintro e3 w3 ⟨rfl, b3⟩; have B3 := Lib.hid (B2.out.trans (b3.mono B2.out.size)); have P3 := Lib.hid (P2.out.keep b3); have T3 := Lib.hid (T2.out.keep b3); (try clear p0 p1); (try clear t0 t1); (try clear x0 x1); (try clear y0 y1); (try clear z0 z1); have p0 := P3.out.cell 0; have p1 := P3.out.cell 1; have t0 := T3.out.cell 0; have t1 := T3.out.cell 1; clear b3) | (refine (HFc.out _ B1.out).mono ?_; rintro e2 w2 ⟨rfl, b2⟩; have B2 := Lib.hid (B1.out.trans (b2.mono B1.out.size)); have P2 := Lib.hid (P1.out.keep b2); have T2 := Lib.hid (T1.out.keep b2); (try clear p0 p1); (try clear t0 t1); (try clear x0 x1); (try clear y0 y1); (try clear z0 z1); have p0 := P2.out.cell 0; have p1 := P2.out.cell 1; have t0 := T2.out.cell 0; have t1 := T2.out.cell 1; clear b2)))
              | (go_at_call 17; go_must (refine (HM.out _ B3.out).mono ?_; rintro e4 w4 ⟨v4, u4, rfl, n4, r4, b4⟩; obtain ⟨UA, UC, rfl, _⟩ := n4.form; obtain ⟨VA, VC, rfl⟩ := r4.form; have B4 := Lib.hid ((B3.out.trans (b4.mono B3.out.size)).alloc (B3.out.trans (b4.mono B3.out.size)).size (.cells #[.slice UA MN.length UC, .slice VA MR.length VC] 25)); have P4 := Lib.hid ((P3.out.keep b4).alloc (.cells #[.slice UA MN.length UC, .slice VA MR.length VC] 25)); have T4 := Lib.hid ((T3.out.keep b4).alloc (.cells #[.slice UA MN.length UC, .slice VA MR.length VC] 25)); have X4 := Lib.hid (RowAt.new w4 25 #[.slice UA MN.length UC, .slice VA MR.length VC]); have Nm4 := Lib.hid (n4.keep (ba w4 (.cells #[.slice UA MN.length UC, .slice VA MR.length VC] 25))); have Rm4 := Lib.hid (r4.keep (ba w4 (.cells #[.slice UA MN.length UC, .slice VA MR.length VC] 25))); (try clear p0 p1); (try clear t0 t1); (try clear x0 x1); (try clear y0 y1); (try clear z0 z1); have p0 := P4.out.cell 0; have p1 := P4.out.cell 1; have t0 := T4.out.cell 0; have t1 := T4.out.cell 1; have x0 := X4.out.cell 0; have x1 := X4.out.cell 1; clear n4 r4 b4))
              | (go_at_call 12; go_must (first | (have tok := B5.out; refine (HS2.out () _ _ _ Nm5.out Rm5.out B5.out).mono ?_; rintro e6 w6 ⟨v6, u6, rfl, n6, r6, b6⟩; obtain ⟨GA, GC, rfl, _⟩ := n6.form; obtain ⟨HA, HC, rfl⟩ := r6.form; have B6 := Lib.hid ((B5.out.trans (b6.mono B5.out.size)).alloc (B5.out.trans (b6.mono B5.out.size)).size (.cells #[.slice GA B.length GC, .slice HA S2.length HC] 25)); have P6 := Lib.hid ((P5.out.keep b6).alloc (.cells #[.slice GA B.length GC, .slice HA S2.length HC] 25)); have T6 := Lib.hid ((T5.out.keep b6).alloc (.cells #[.slice GA B.length GC, .slice HA S2.length HC] 25)); have X6 := Lib.hid ((X5.out.keep b6).alloc (.cells #[.slice GA B.length GC, .slice HA S2.length HC] 25)); have Y6 := Lib.hid ((Y5.out.keep b6).alloc (.cells #[.slice GA B.length GC, .slice HA S2.length HC] 25)); have Nx6 := Lib.hid ((Nx5.out.keep b6).keep (ba w6 (.cells #[.slice GA B.length GC, .slice HA S2.length HC] 25))); have Rx6 := Lib.hid ((Rx5.out.keep b6).keep (ba w6 (.cells #[.slice GA B.length GC, .slice HA S2.length HC] 25))); have Z6 := Lib.hid (RowAt.new w6 25 #[.slice GA B.length GC, .slice HA S2.length HC]); have Ny6 := Lib.hid (n6.keep (ba w6 (.cells #[.slice GA B.length GC, .slice HA S2.length HC] 25))); have Ry6 := Lib.hid (r6.keep (ba w6 (.cells #[.slice GA B.length GC, .slice HA S2.length HC] 25))); (try clear p0 p1); (try clear t0 t1); (try clear x0 x1); (try clear y0 y1); (try clear z0 z1); have p0 := P6.out.cell 0; have p1 := P6.out.cell 1; have t0 := T6.out.cell 0; have t1 := T6.out.cell 1; have y0 := Y6.out.cell 0; have y1 := Y6.out.cell 1; have z0 := Z6.out.cell 0; have z1 := Z6.out.cell 1; clear n6 r6 b6) | (refine (HS1.out () _ _ _ Nm4.out Rm4.out B4.out).mono ?_; rintro e5 w5 ⟨v5, u5, rfl, n5, r5, b5⟩; obtain ⟨EA, EC, rfl, _⟩ := n5.form; obtain ⟨FA, FC, rfl⟩ := r5.form; have B5 := Lib.hid ((B4.out.trans (b5.mono B4.out.size)).alloc (B4.out.trans (b5.mono B4.out.size)).size (.cells #[.slice EA A.length EC, .slice FA S1.length FC] 25)); have P5 := Lib.hid ((P4.out.keep b5).alloc (.cells #[.slice EA A.length EC, .slice FA S1.length FC] 25)); have T5 := Lib.hid ((T4.out.keep b5).alloc (.cells #[.slice EA A.length EC, .slice FA S1.length FC] 25)); have X5 := Lib.hid ((X4.out.keep b5).alloc (.cells #[.slice EA A.length EC, .slice FA S1.length FC] 25)); have Nm5 := Lib.hid ((Nm4.out.keep b5).keep (ba w5 (.cells #[.slice EA A.length EC, .slice FA S1.length FC] 25))); have Rm5 := Lib.hid ((Rm4.out.keep b5).keep (ba w5 (.cells #[.slice EA A.length EC, .slice FA S1.length FC] 25))); have Y5 := Lib.hid (RowAt.new w5 25 #[.slice EA A.length EC, .slice FA S1.length FC]); have Nx5 := Lib.hid (n5.keep (ba w5 (.cells #[.slice EA A.length EC, .slice FA S1.length FC] 25))); have Rx5 := Lib.hid (r5.keep (ba w5 (.cells #[.slice EA A.length EC, .slice FA S1.length FC] 25))); (try clear p0 p1); (try clear t0 t1); (try clear x0 x1); (try clear y0 y1); (try clear z0 z1); have p0 := P5.out.cell 0; have p1 := P5.out.cell 1; have t0 := T5.out.cell 0; have t1 := T5.out.cell 1; have x0 := X5.out.cell 0; have x1 := X5.out.cell 1; have y0 := Y5.out.cell 0; have y1 := Y5.out.cell 1; clear n5 r5 b5)))
              | (go_at_call 23; go_must (first | (have tok := B9.out; refine (HA4.out _ _ _ Ny9.out Ry9.out).mono ?_; rintro e10 w10 ⟨rfl, b10⟩; have B10 := Lib.hid (B9.out.trans (b10.mono B9.out.size)); (try clear p0 p1); (try clear t0 t1); (try clear x0 x1); (try clear y0 y1); (try clear z0 z1); clear b10) | (have tok := B8.out; refine (HA3.out _ B8.out).mono ?_; rintro e9 w9 ⟨rfl, b9⟩; have B9 := Lib.hid (B8.out.trans (b9.mono B8.out.size)); have P9 := Lib.hid (P8.out.keep b9); have T9 := Lib.hid (T8.out.keep b9); have Y9 := Lib.hid (Y8.out.keep b9); have Z9 := Lib.hid (Z8.out.keep b9); have Ny9 := Lib.hid (Ny8.out.keep b9); have Ry9 := Lib.hid (Ry8.out.keep b9); (try clear p0 p1); (try clear t0 t1); (try clear x0 x1); (try clear y0 y1); (try clear z0 z1); have p0 := P9.out.cell 0; have p1 := P9.out.cell 1; have t0 := T9.out.cell 0; have t1 := T9.out.cell 1; have y0 := Y9.out.cell 0; have y1 := Y9.out.cell 1; have z0 := Z9.out.cell 0; have z1 := Z9.out.cell 1; clear b9) | (have tok := B7.out; refine (HA2.out _ _ _ Nx7.out Rx7.out).mono ?_; rintro e8 w8 ⟨rfl, b8⟩; have B8 := Lib.hid (B7.out.trans (b8.mono B7.out.size)); have P8 := Lib.hid (P7.out.keep b8); have T8 := Lib.hid (T7.out.keep b8); have Y8 := Lib.hid (Y7.out.keep b8); have Z8 := Lib.hid (Z7.out.keep b8); have Ny8 := Lib.hid (Ny7.out.keep b8); have Ry8 := Lib.hid (Ry7.out.keep b8); (try clear p0 p1); (try clear t0 t1); (try clear x0 x1); (try clear y0 y1); (try clear z0 z1); have p0 := P8.out.cell 0; have p1 := P8.out.cell 1; have t0 := T8.out.cell 0; have t1 := T8.out.cell 1; have y0 := Y8.out.cell 0; have y1 := Y8.out.cell 1; have z0 := Z8.out.cell 0; have z1 := Z8.out.cell 1; clear b8) | (refine (HA1.out _ B6.out).mono ?_; rintro e7 w7 ⟨rfl, b7⟩; have B7 := Lib.hid (B6.out.trans (b7.mono B6.out.size)); have P7 := Lib.hid (P6.out.keep b7); have T7 := Lib.hid (T6.out.keep b7); have Y7 := Lib.hid (Y6.out.keep b7); have Z7 := Lib.hid (Z6.out.keep b7); have Nx7 := Lib.hid (Nx6.out.keep b7); have Rx7 := Lib.hid (Rx6.out.keep b7); have Ny7 := Lib.hid (Ny6.out.keep b7); have Ry7 := Lib.hid (Ry6.out.keep b7); (try clear p0 p1); (try clear t0 t1); (try clear x0 x1); (try clear y0 y1); (try clear z0 z1); have p0 := P7.out.cell 0; have p1 := P7.out.cell 1; have t0 := T7.out.cell 0; have t1 := T7.out.cell 1; have y0 := Y7.out.cell 0; have y1 := Y7.out.cell 1; have z0 := Z7.out.cell 0; have z1 := Z7.out.cell 1; clear b7))))
            go_returns
            exact ⟨rfl, B10.out⟩
      · rw [mgN_no he, mgR_no he] at HM'
        have HM := Lib.hid HM'
        have hz : (mgE A X B Y == 0) = false := by simpa using he
        have hz2 : (mgE A X B Y != 0) = true := by simpa using he
        clear HM' HAK HXK HBK HYK hf hg f1 f2 f3 f4
        generalize mgE A X B Y = E at *
        go_enter Try.func7, Try.ntmps7
        go_wp2_with (first
          | (go_at_call 10; go_must (refine (lives_any _).mono ?_; rintro e1 w1 ⟨rfl, b1⟩; have B1 := Lib.hid (B0.out.trans (b1.mono B0.out.size)); have P1 := Lib.hid (P0.out.keep b1); have T1 := Lib.hid (T0.out.keep b1); (try clear p0 p1); (try clear t0 t1); (try clear x0 x1); (try clear y0 y1); (try clear z0 z1); have p0 := P1.out.cell 0; have p1 := P1.out.cell 1; have t0 := T1.out.cell 0; have t1 := T1.out.cell 1; clear b1))
          | (go_at_call 11; go_must (first | (have tok := B2.out; refine (HFd.out _ B2.out).mono ?_; rintro e3 w3 ⟨rfl, b3⟩; have B3 := Lib.hid (B2.out.trans (b3.mono B2.out.size)); have P3 := Lib.hid (P2.out.keep b3); have T3 := Lib.hid (T2.out.keep b3); (try clear p0 p1); (try clear t0 t1); (try clear x0 x1); (try clear y0 y1); (try clear z0 z1); have p0 := P3.out.cell 0; have p1 := P3.out.cell 1; have t0 := T3.out.cell 0; have t1 := T3.out.cell 1; clear b3) | (refine (HFc.out _ B1.out).mono ?_; rintro e2 w2 ⟨rfl, b2⟩; have B2 := Lib.hid (B1.out.trans (b2.mono B1.out.size)); have P2 := Lib.hid (P1.out.keep b2); have T2 := Lib.hid (T1.out.keep b2); (try clear p0 p1); (try clear t0 t1); (try clear x0 x1); (try clear y0 y1); (try clear z0 z1); have p0 := P2.out.cell 0; have p1 := P2.out.cell 1; have t0 := T2.out.cell 0; have t1 := T2.out.cell 1; clear b2)))
          | (go_at_call 17; go_must (refine (HM.out _ B3.out).mono ?_; rintro e4 w4 ⟨v4, u4, rfl, n4, r4, b4⟩; obtain ⟨UA, UC, rfl, _⟩ := n4.form; obtain ⟨VA, VC, rfl⟩ := r4.form; have B4 := Lib.hid ((B3.out.trans (b4.mono B3.out.size)).alloc (B3.out.trans (b4.mono B3.out.size)).size (.cells #[.slice UA ([] : List ByteArray).length UC, .slice VA ([] : List Rn).length VC] 25)); have P4 := Lib.hid ((P3.out.keep b4).alloc (.cells #[.slice UA ([] : List ByteArray).length UC, .slice VA ([] : List Rn).length VC] 25)); have T4 := Lib.hid ((T3.out.keep b4).alloc (.cells #[.slice UA ([] : List ByteArray).length UC, .slice VA ([] : List Rn).length VC] 25)); have X4 := Lib.hid (RowAt.new w4 25 #[.slice UA ([] : List ByteArray).length UC, .slice VA ([] : List Rn).length VC]); have Nm4 := Lib.hid (n4.keep (ba w4 (.cells #[.slice UA ([] : List ByteArray).length UC, .slice VA ([] : List Rn).length VC] 25))); have Rm4 := Lib.hid (r4.keep (ba w4 (.cells #[.slice UA ([] : List ByteArray).length UC, .slice VA ([] : List Rn).length VC] 25))); (try clear p0 p1); (try clear t0 t1); (try clear x0 x1); (try clear y0 y1); (try clear z0 z1); have p0 := P4.out.cell 0; have p1 := P4.out.cell 1; have t0 := T4.out.cell 0; have t1 := T4.out.cell 1; have x0 := X4.out.cell 0; have x1 := X4.out.cell 1; clear n4 r4 b4)))
        go_returns
        exact ⟨rfl, B4.out⟩
end Go.Proofs.Yteccafndplaklaa

namespace Go.Proofs.Yteccafndplaklaa
open Go Go.RowKit Go.Joins
set_option linter.unusedVariables false
set_option linter.unusedSimpArgs false

set_option maxRecDepth 100000 in
set_option maxHeartbeats 16000000 in
theorem law_merges (N : List ByteArray) (R : List Rn) (B : List ByteArray) (Y : List Rn) (vN vR vB vY : Value) (w : World) (hN : NmArg w vN N) (hs : szs N) (hR : RnArg w vR R) (hB : NmArg w vB B) (hsB : szs B) (hY : RnArg w vY Y) :
    Calls Try.prog 5 #[.agg #[vN, vR], .agg #[vB, vY]] w fun e w' => e = .returned (.bool true) ∧ Below w.heap.size w w' := by
  have HF := Lib.hid (fun w' (hb : Below w.heap.size w w') => few_any N R vN vR w' (hN.keep hb) (hR.keep hb))
  have HG := Lib.hid (fun w' (hb : Below w.heap.size w w') => few_any B Y vB vY w' (hB.keep hb) (hY.keep hb))
  have H1' := fun (h1 : R.length ≤ 8000) (h2 : N.length ≤ 2000) (h3 : Y.length ≤ 8000) (h4 : B.length ≤ 2000) w' (hb : Below w.heap.size w w') => merge_any N R B Y vN vR vB vY w' (hN.keep hb) hs (hR.keep hb) (hB.keep hb) hsB (hY.keep hb) h2 h4 h1 h3
  have H2' := fun (h1 : R.length ≤ 8000) (h2 : N.length ≤ 2000) (h3 : Y.length ≤ 8000) (h4 : B.length ≤ 2000) w' (hb : Below w.heap.size w w') => rmerge_any N R B Y vN vR vB vY w' (hN.keep hb) hs (hR.keep hb) (hB.keep hb) hsB (hY.keep hb) h2 h4 h1 h3
  obtain ⟨A1, c1, rfl, _⟩ := hN.form
  obtain ⟨A2, c2, rfl⟩ := hR.form
  obtain ⟨A3, c3, rfl, _⟩ := hB.form
  obtain ⟨A4, c4, rfl⟩ := hY.form
  have e1s : (w.alloc (.cells #[.slice A1 N.length c1, .slice A2 R.length c2] 25)).heap.size = w.heap.size + 1 := World.size_alloc _ _
  have B0 := Lib.hid ((ba w (.cells #[.slice A1 N.length c1, .slice A2 R.length c2] 25)).alloc (ba w _).size (.cells #[.slice A3 B.length c3, .slice A4 Y.length c4] 25))
  have P0 := Lib.hid ((RowAt.new w 25 #[.slice A1 N.length c1, .slice A2 R.length c2]).alloc (.cells #[.slice A3 B.length c3, .slice A4 Y.length c4] 25))
  have T0' := RowAt.new (w.alloc (.cells #[.slice A1 N.length c1, .slice A2 R.length c2] 25)) 25 #[.slice A3 B.length c3, .slice A4 Y.length c4]
  rw [e1s] at T0'
  have T0 := Lib.hid T0'
  have Pc0 := P0.out.cell 0
  have Pc1 := P0.out.cell 1
  have Tc0 := T0.out.cell 0
  have Tc1 := T0.out.cell 1
  clear hN hR hB hY T0' e1s
  cases hf : fewB N R with
  | false =>
    rw [hf] at HF
    clear H1' H2' hf
    go_enter Try.func5, Try.ntmps5
    go_wp2_with (first
      | (go_at_call 10; go_must (refine (lives_any _).mono ?_; rintro e1 w1 ⟨rfl, b1⟩; have B1 := Lib.hid (B0.out.trans (b1.mono B0.out.size)); (try clear Pc0 Pc1 Tc0 Tc1); have P1 := Lib.hid (P0.out.keep b1); have T1 := Lib.hid (T0.out.keep b1); have Pc0 := P1.out.cell 0; have Pc1 := P1.out.cell 1; have Tc0 := T1.out.cell 0; have Tc1 := T1.out.cell 1;  clear b1))
      | (go_at_call 11; go_must (refine (HF.out _ B1.out).mono ?_; rintro e2 w2 ⟨rfl, b2⟩; have B2 := Lib.hid (B1.out.trans (b2.mono B1.out.size)); (try clear Pc0 Pc1 Tc0 Tc1); have P2 := Lib.hid (P1.out.keep b2); have T2 := Lib.hid (T1.out.keep b2); have Pc0 := P2.out.cell 0; have Pc1 := P2.out.cell 1; have Tc0 := T2.out.cell 0; have Tc1 := T2.out.cell 1;  clear b2)))
    go_returns
    exact ⟨rfl, B2.out⟩
  | true =>
    rw [hf] at HF
    obtain ⟨f1, f2⟩ := fewB_t hf
    cases hg : fewB B Y with
    | false =>
      rw [hg] at HG
      clear H1' H2' hf hg f1 f2
      go_enter Try.func5, Try.ntmps5
      go_wp2_with (first
        | (go_at_call 10; go_must (refine (lives_any _).mono ?_; rintro e1 w1 ⟨rfl, b1⟩; have B1 := Lib.hid (B0.out.trans (b1.mono B0.out.size)); (try clear Pc0 Pc1 Tc0 Tc1); have P1 := Lib.hid (P0.out.keep b1); have T1 := Lib.hid (T0.out.keep b1); have Pc0 := P1.out.cell 0; have Pc1 := P1.out.cell 1; have Tc0 := T1.out.cell 0; have Tc1 := T1.out.cell 1;  clear b1))
        | (go_at_call 11; go_must (first | (have tok := B2.out; refine (HG.out _ B2.out).mono ?_; rintro e3 w3 ⟨rfl, b3⟩; have B3 := Lib.hid (B2.out.trans (b3.mono B2.out.size)); (try clear Pc0 Pc1 Tc0 Tc1); have P3 := Lib.hid (P2.out.keep b3); have T3 := Lib.hid (T2.out.keep b3); have Pc0 := P3.out.cell 0; have Pc1 := P3.out.cell 1; have Tc0 := T3.out.cell 0; have Tc1 := T3.out.cell 1;  clear b3; clear tok) | (have tok := B1.out; refine (HF.out _ B1.out).mono ?_; rintro e2 w2 ⟨rfl, b2⟩; have B2 := Lib.hid (B1.out.trans (b2.mono B1.out.size)); (try clear Pc0 Pc1 Tc0 Tc1); have P2 := Lib.hid (P1.out.keep b2); have T2 := Lib.hid (T1.out.keep b2); have Pc0 := P2.out.cell 0; have Pc1 := P2.out.cell 1; have Tc0 := T2.out.cell 0; have Tc1 := T2.out.cell 1;  clear b2; clear tok))))
      go_returns
      exact ⟨rfl, B3.out⟩
    | true =>
      rw [hg] at HG
      obtain ⟨f3, f4⟩ := fewB_t hg
      have H1 := Lib.hid (H1' (by omega) (by omega) (by omega) (by omega))
      have H2 := Lib.hid (H2' (by omega) (by omega) (by omega) (by omega))
      have hml : (mgR N R B Y).length ≤ R.length + Y.length + 2 ∧ (mgN N R B Y).length ≤ N.length + B.length := by
        by_cases he : mgE N R B Y = 0
        · refine ⟨(mg_valid he (by omega) (by omega)).2.2.1, ?_⟩
          rw [mgN_0 he, List.length_append]; exact Nat.le_refl _
        · rw [mgR_no he, mgN_no he]; simp
      have E1 := Lib.hid (fun v1 v2 u1 u2 w' h1 h2 k1 k2 => equal12_any (mgN N R B Y) (mgR N R B Y) v1 v2 u1 u2 w' h1 h2 k1 k2 (by omega) (by omega))
      clear H1' H2' hf hg f1 f2 f3 f4 hml
      generalize mgR N R B Y = R1 at *
      generalize mgN N R B Y = N1 at *
      generalize mgE N R B Y = F1 at *
      go_enter Try.func5, Try.ntmps5
      go_wp2_with (first
        | (go_at_call 10; go_must (refine (lives_any _).mono ?_; rintro e1 w1 ⟨rfl, b1⟩; have B1 := Lib.hid (B0.out.trans (b1.mono B0.out.size)); (try clear Pc0 Pc1 Tc0 Tc1); have P1 := Lib.hid (P0.out.keep b1); have T1 := Lib.hid (T0.out.keep b1); have Pc0 := P1.out.cell 0; have Pc1 := P1.out.cell 1; have Tc0 := T1.out.cell 0; have Tc1 := T1.out.cell 1;  clear b1))
        | (go_at_call 11; go_must (first | (have tok := B2.out; refine (HG.out _ B2.out).mono ?_; rintro e3 w3 ⟨rfl, b3⟩; have B3 := Lib.hid (B2.out.trans (b3.mono B2.out.size)); (try clear Pc0 Pc1 Tc0 Tc1); have P3 := Lib.hid (P2.out.keep b3); have T3 := Lib.hid (T2.out.keep b3); have Pc0 := P3.out.cell 0; have Pc1 := P3.out.cell 1; have Tc0 := T3.out.cell 0; have Tc1 := T3.out.cell 1;  clear b3; clear tok) | (have tok := B1.out; refine (HF.out _ B1.out).mono ?_; rintro e2 w2 ⟨rfl, b2⟩; have B2 := Lib.hid (B1.out.trans (b2.mono B1.out.size)); (try clear Pc0 Pc1 Tc0 Tc1); have P2 := Lib.hid (P1.out.keep b2); have T2 := Lib.hid (T1.out.keep b2); have Pc0 := P2.out.cell 0; have Pc1 := P2.out.cell 1; have Tc0 := T2.out.cell 0; have Tc1 := T2.out.cell 1;  clear b2; clear tok)))
        | (go_at_call 17; go_must (refine (H1.out _ B3.out).mono ?_; rintro e4 w4 ⟨v1, v2, rfl, n4, r4, b4⟩; obtain ⟨UA4, UC4, rfl, _⟩ := n4.form; obtain ⟨VA4, VC4, rfl⟩ := r4.form; have BX4 := Lib.hid (B3.out.trans (b4.mono B3.out.size)); have B4 := Lib.hid (BX4.out.alloc BX4.out.size (.cells #[.slice UA4 N1.length UC4, .slice VA4 R1.length VC4] 25)); (try clear Pc0 Pc1 Tc0 Tc1); have P4 := Lib.hid ((P3.out.keep b4).alloc (.cells #[.slice UA4 N1.length UC4, .slice VA4 R1.length VC4] 25)); have T4 := Lib.hid ((T3.out.keep b4).alloc (.cells #[.slice UA4 N1.length UC4, .slice VA4 R1.length VC4] 25)); have X4 := Lib.hid (RowAt.new w4 25 #[.slice UA4 N1.length UC4, .slice VA4 R1.length VC4]); have Xn_4 := Lib.hid (n4.keep (ba w4 (.cells #[.slice UA4 N1.length UC4, .slice VA4 R1.length VC4] 25))); have Xr_4 := Lib.hid (r4.keep (ba w4 (.cells #[.slice UA4 N1.length UC4, .slice VA4 R1.length VC4] 25))); have Pc0 := P4.out.cell 0; have Pc1 := P4.out.cell 1; have Tc0 := T4.out.cell 0; have Tc1 := T4.out.cell 1; have Xc0 := X4.out.cell 0; have Xc1 := X4.out.cell 1; clear n4 r4 b4))
        | (go_at_call 18; go_must (refine (H2.out _ B4.out).mono ?_; rintro e5 w5 ⟨v1, v2, rfl, n5, r5, b5⟩; obtain ⟨UA5, UC5, rfl, _⟩ := n5.form; obtain ⟨VA5, VC5, rfl⟩ := r5.form; have BX5 := Lib.hid (B4.out.trans (b5.mono B4.out.size)); have B5 := Lib.hid (BX5.out.alloc BX5.out.size (.cells #[.slice UA5 N1.length UC5, .slice VA5 R1.length VC5] 25)); (try clear Pc0 Pc1 Tc0 Tc1 Xc0 Xc1); have P5 := Lib.hid ((P4.out.keep b5).alloc (.cells #[.slice UA5 N1.length UC5, .slice VA5 R1.length VC5] 25)); have T5 := Lib.hid ((T4.out.keep b5).alloc (.cells #[.slice UA5 N1.length UC5, .slice VA5 R1.length VC5] 25)); have X5 := Lib.hid ((X4.out.keep b5).alloc (.cells #[.slice UA5 N1.length UC5, .slice VA5 R1.length VC5] 25)); have Xn_5 := Lib.hid ((Xn_4.out.keep b5).keep (ba w5 (.cells #[.slice UA5 N1.length UC5, .slice VA5 R1.length VC5] 25))); have Xr_5 := Lib.hid ((Xr_4.out.keep b5).keep (ba w5 (.cells #[.slice UA5 N1.length UC5, .slice VA5 R1.length VC5] 25))); have Y5 := Lib.hid (RowAt.new w5 25 #[.slice UA5 N1.length UC5, .slice VA5 R1.length VC5]); have Yn_5 := Lib.hid (n5.keep (ba w5 (.cells #[.slice UA5 N1.length UC5, .slice VA5 R1.length VC5] 25))); have Yr_5 := Lib.hid (r5.keep (ba w5 (.cells #[.slice UA5 N1.length UC5, .slice VA5 R1.length VC5] 25))); have Pc0 := P5.out.cell 0; have Pc1 := P5.out.cell 1; have Tc0 := T5.out.cell 0; have Tc1 := T5.out.cell 1; have Xc0 := X5.out.cell 0; have Xc1 := X5.out.cell 1; have Yc0 := Y5.out.cell 0; have Yc1 := Y5.out.cell 1; clear n5 r5 b5))
        | (go_at_call 14; go_must (refine (E1.out _ _ _ _ _ Xn_5.out Xr_5.out Yn_5.out Yr_5.out).mono ?_; rintro e6 w6 ⟨rfl, b6⟩; have B6 := Lib.hid (B5.out.trans (b6.mono B5.out.size)); (try clear Pc0 Pc1 Tc0 Tc1 Xc0 Xc1 Yc0 Yc1); have P6 := Lib.hid (P5.out.keep b6); have T6 := Lib.hid (T5.out.keep b6); have X6 := Lib.hid (X5.out.keep b6); have Y6 := Lib.hid (Y5.out.keep b6); have Xn_6 := Lib.hid (Xn_5.out.keep b6); have Xr_6 := Lib.hid (Xr_5.out.keep b6); have Yn_6 := Lib.hid (Yn_5.out.keep b6); have Yr_6 := Lib.hid (Yr_5.out.keep b6); have Pc0 := P6.out.cell 0; have Pc1 := P6.out.cell 1; have Tc0 := T6.out.cell 0; have Tc1 := T6.out.cell 1; have Xc0 := X6.out.cell 0; have Xc1 := X6.out.cell 1; have Yc0 := Y6.out.cell 0; have Yc1 := Y6.out.cell 1;  clear b6)))
      go_returns
      exact ⟨rfl, B6.out⟩
end Go.Proofs.Yteccafndplaklaa
