/-
  Plain events: the specification's Plain, the program's plain, touch and isRun.
-/
import Derived.Test.YtcodoakfomddfaaA6
namespace Go.Proofs.Ytcodoakfomddfaa
open Go Go.RowKit Go.Joins
set_option linter.unusedVariables false
set_option linter.unusedSimpArgs false

/-- An event is plain. -/
def plF (k a : Int) (s : ByteArray) (u : Int) : Bool := k == 1 && (a == 0 && (s.data.toList == [] && u == 0))
def plE (e : Ev) : Bool := plF e.k e.a ⟨e.d.toArray⟩ e.u
theorem plF_eq (k v a : Int) (s : ByteArray) (u : Int) : eqF k 0 0 v a s u 1 0 0 v 0 ⟨#[]⟩ 0 = plF k a s u := by
  unfold eqF plF
  simp
theorem plF_iff (k a : Int) (s : ByteArray) (u : Int) : plF k a s u = true ↔ k = 1 ∧ a = 0 ∧ s.data.toList = [] ∧ u = 0 := by
  unfold plF
  simp
theorem plE_iff (e : Ev) : plE e = true ↔ e.k = 1 ∧ e.a = 0 ∧ e.d = [] ∧ e.u = 0 := by
  unfold plE
  rw [plF_iff]
/-- y is a plain event that continues the plain event x. -/
def tcE (x y : Ev) : Bool := plE x && (plE y && (x.v == y.v && x.t == y.f))
theorem tcE_iff (x y : Ev) : tcE x y = true ↔ plE x = true ∧ plE y = true ∧ x.v = y.v ∧ x.t = y.f := by
  unfold tcE
  simp
/-- An event that can be a run. -/
def irF (k f t v a : Int) (s : ByteArray) (u : Int) : Bool := plF k a s u && (decide (f < t) && (decide (t ≤ 1099511627776) && (decide (0 ≤ v) && decide (v < 65536))))
def irE (e : Ev) : Bool := irF e.k e.f e.t e.v e.a ⟨e.d.toArray⟩ e.u

set_option maxRecDepth 20000 in
set_option maxHeartbeats 2000000 in
theorem refPlain_xy (k f t v a : Int) (s : ByteArray) (u : Int) (w : World) : Calls Try.prog 32 #[.agg (evA k f t v a s u)] w fun e w' => e = .returned (.bool (plF k a s u)) ∧ Below w.heap.size w w' := by
  go_enter Try.func32, Try.ntmps32
  go_wp2
  all_goals
    go_returns
    refine ⟨ret_bool ?_, ba _ _⟩
    try simp only [decide_eq_true_eq, decide_eq_false_iff_not, beq_iff_eq, Bool.not_eq_true, bne_iff_ne, ne_eq] at *
    first | (unfold plF; simp_all [ByteArray.toList_eq]; done) | trace_state

theorem seven_at (w : World) (k f t v a : Int) (s : ByteArray) (u : Int) (T : TypeId) : ∃ W b, W = w.alloc (.cells (evA k f t v a s u) T) ∧ b = w.heap.size ∧ W.cell? ⟨b, 0, none⟩ = some (.int .i64 k) ∧ W.cell? ⟨b, 1, none⟩ = some (.int .i64 f) ∧ W.cell? ⟨b, 2, none⟩ = some (.int .i64 t) ∧ W.cell? ⟨b, 3, none⟩ = some (.int .i64 v) ∧ W.cell? ⟨b, 4, none⟩ = some (.int .i64 a) ∧ W.cell? ⟨b, 5, none⟩ = some (.string s) ∧ W.cell? ⟨b, 6, none⟩ = some (.int .i64 u) ∧ Below w.heap.size w W ∧ b < W.heap.size := by
  have h := RowAt.new w T (evA k f t v a s u)
  exact ⟨_, _, rfl, rfl, h.cell 0, h.cell 1, h.cell 2, h.cell 3, h.cell 4, h.cell 5, h.cell 6, ba _ _, by rw [World.size_alloc]; omega⟩
theorem held_one {w W W' : World} {b : Nat} {k f t v a : Int} {s : ByteArray} {u : Int} (h : W.cell? ⟨b, 0, none⟩ = some (.int .i64 k) ∧ W.cell? ⟨b, 1, none⟩ = some (.int .i64 f) ∧ W.cell? ⟨b, 2, none⟩ = some (.int .i64 t) ∧ W.cell? ⟨b, 3, none⟩ = some (.int .i64 v) ∧ W.cell? ⟨b, 4, none⟩ = some (.int .i64 a) ∧ W.cell? ⟨b, 5, none⟩ = some (.string s) ∧ W.cell? ⟨b, 6, none⟩ = some (.int .i64 u) ∧ Below w.heap.size w W ∧ b < W.heap.size) (hb : Below W.heap.size W W') : W'.cell? ⟨b, 0, none⟩ = some (.int .i64 k) ∧ W'.cell? ⟨b, 1, none⟩ = some (.int .i64 f) ∧ W'.cell? ⟨b, 2, none⟩ = some (.int .i64 t) ∧ W'.cell? ⟨b, 3, none⟩ = some (.int .i64 v) ∧ W'.cell? ⟨b, 4, none⟩ = some (.int .i64 a) ∧ W'.cell? ⟨b, 5, none⟩ = some (.string s) ∧ W'.cell? ⟨b, 6, none⟩ = some (.int .i64 u) ∧ Below w.heap.size w W' ∧ b < W'.heap.size := by
  obtain ⟨a0, a1, a2, a3, a4, a5, a6, hB, l1⟩ := h
  have hs := hb.size
  exact ⟨(hb.cell l1).trans a0, (hb.cell l1).trans a1, (hb.cell l1).trans a2, (hb.cell l1).trans a3, (hb.cell l1).trans a4, (hb.cell l1).trans a5, (hb.cell l1).trans a6, hB.trans (hb.mono hB.size), by omega⟩
theorem seven_two (w : World) (k f t v a : Int) (s : ByteArray) (u : Int) (k' f' t' v' a' : Int) (s' : ByteArray) (u' : Int) (T : TypeId) : ∃ W b c, W = (w.alloc (.cells (evA k f t v a s u) T)).alloc (.cells (evA k' f' t' v' a' s' u') T) ∧ b = w.heap.size ∧ c = w.heap.size + 1 ∧ W.cell? ⟨b, 0, none⟩ = some (.int .i64 k) ∧ W.cell? ⟨b, 1, none⟩ = some (.int .i64 f) ∧ W.cell? ⟨b, 2, none⟩ = some (.int .i64 t) ∧ W.cell? ⟨b, 3, none⟩ = some (.int .i64 v) ∧ W.cell? ⟨b, 4, none⟩ = some (.int .i64 a) ∧ W.cell? ⟨b, 5, none⟩ = some (.string s) ∧ W.cell? ⟨b, 6, none⟩ = some (.int .i64 u) ∧ W.cell? ⟨c, 0, none⟩ = some (.int .i64 k') ∧ W.cell? ⟨c, 1, none⟩ = some (.int .i64 f') ∧ W.cell? ⟨c, 2, none⟩ = some (.int .i64 t') ∧ W.cell? ⟨c, 3, none⟩ = some (.int .i64 v') ∧ W.cell? ⟨c, 4, none⟩ = some (.int .i64 a') ∧ W.cell? ⟨c, 5, none⟩ = some (.string s') ∧ W.cell? ⟨c, 6, none⟩ = some (.int .i64 u') ∧ Below w.heap.size w W ∧ b < W.heap.size ∧ c < W.heap.size := by
  obtain ⟨W, b, rfl, rfl, a0, a1, a2, a3, a4, a5, a6, hB, l1⟩ := seven_at w k f t v a s u T
  have h := RowAt.new (w.alloc (.cells (evA k f t v a s u) T)) T (evA k' f' t' v' a' s' u')
  rw [World.size_alloc] at h
  have hb := ba (w.alloc (.cells (evA k f t v a s u) T)) (.cells (evA k' f' t' v' a' s' u') T)
  exact ⟨_, _, _, rfl, rfl, rfl, (hb.cell l1).trans a0, (hb.cell l1).trans a1, (hb.cell l1).trans a2, (hb.cell l1).trans a3, (hb.cell l1).trans a4, (hb.cell l1).trans a5, (hb.cell l1).trans a6, h.cell 0, h.cell 1, h.cell 2, h.cell 3, h.cell 4, h.cell 5, h.cell 6, hB.trans (hb.mono hB.size), by rw [World.size_alloc, World.size_alloc]; omega, by rw [World.size_alloc, World.size_alloc]; omega⟩
theorem held_two {w W W' : World} {b c : Nat} {k f t v a : Int} {s : ByteArray} {u : Int} {k' f' t' v' a' : Int} {s' : ByteArray} {u' : Int} (h : W.cell? ⟨b, 0, none⟩ = some (.int .i64 k) ∧ W.cell? ⟨b, 1, none⟩ = some (.int .i64 f) ∧ W.cell? ⟨b, 2, none⟩ = some (.int .i64 t) ∧ W.cell? ⟨b, 3, none⟩ = some (.int .i64 v) ∧ W.cell? ⟨b, 4, none⟩ = some (.int .i64 a) ∧ W.cell? ⟨b, 5, none⟩ = some (.string s) ∧ W.cell? ⟨b, 6, none⟩ = some (.int .i64 u) ∧ W.cell? ⟨c, 0, none⟩ = some (.int .i64 k') ∧ W.cell? ⟨c, 1, none⟩ = some (.int .i64 f') ∧ W.cell? ⟨c, 2, none⟩ = some (.int .i64 t') ∧ W.cell? ⟨c, 3, none⟩ = some (.int .i64 v') ∧ W.cell? ⟨c, 4, none⟩ = some (.int .i64 a') ∧ W.cell? ⟨c, 5, none⟩ = some (.string s') ∧ W.cell? ⟨c, 6, none⟩ = some (.int .i64 u') ∧ Below w.heap.size w W ∧ b < W.heap.size ∧ c < W.heap.size) (hb : Below W.heap.size W W') : W'.cell? ⟨b, 0, none⟩ = some (.int .i64 k) ∧ W'.cell? ⟨b, 1, none⟩ = some (.int .i64 f) ∧ W'.cell? ⟨b, 2, none⟩ = some (.int .i64 t) ∧ W'.cell? ⟨b, 3, none⟩ = some (.int .i64 v) ∧ W'.cell? ⟨b, 4, none⟩ = some (.int .i64 a) ∧ W'.cell? ⟨b, 5, none⟩ = some (.string s) ∧ W'.cell? ⟨b, 6, none⟩ = some (.int .i64 u) ∧ W'.cell? ⟨c, 0, none⟩ = some (.int .i64 k') ∧ W'.cell? ⟨c, 1, none⟩ = some (.int .i64 f') ∧ W'.cell? ⟨c, 2, none⟩ = some (.int .i64 t') ∧ W'.cell? ⟨c, 3, none⟩ = some (.int .i64 v') ∧ W'.cell? ⟨c, 4, none⟩ = some (.int .i64 a') ∧ W'.cell? ⟨c, 5, none⟩ = some (.string s') ∧ W'.cell? ⟨c, 6, none⟩ = some (.int .i64 u') ∧ Below w.heap.size w W' ∧ b < W'.heap.size ∧ c < W'.heap.size := by
  obtain ⟨a0, a1, a2, a3, a4, a5, a6, b0, b1, b2, b3, b4, b5, b6, hB, l1, l2⟩ := h
  have hs := hb.size
  exact ⟨(hb.cell l1).trans a0, (hb.cell l1).trans a1, (hb.cell l1).trans a2, (hb.cell l1).trans a3, (hb.cell l1).trans a4, (hb.cell l1).trans a5, (hb.cell l1).trans a6, (hb.cell l2).trans b0, (hb.cell l2).trans b1, (hb.cell l2).trans b2, (hb.cell l2).trans b3, (hb.cell l2).trans b4, (hb.cell l2).trans b5, (hb.cell l2).trans b6, hB.trans (hb.mono hB.size), by omega, by omega⟩

set_option maxRecDepth 20000 in
set_option maxHeartbeats 2000000 in
theorem plain_xy (k f t v a : Int) (s : ByteArray) (u : Int) (w : World) : Calls Try.prog 36 #[.agg (evA k f t v a s u)] w fun e w' => e = .returned (.bool (plF k a s u)) ∧ Below w.heap.size w w' := by
  have HC := Lib.hid (fun W => core_xy k f t v a s u W)
  have Q := fun W => eql_ev k 0 0 v a s u 1 0 0 v 0 ⟨#[]⟩ 0 W
  rw [plF_eq] at Q
  generalize plF k a s u = q at *
  obtain ⟨W, b, eW, eb, HS⟩ := seven_at w k f t v a s u 48
  have hs := Lib.hid HS
  clear HS
  go_enter Try.func36, Try.ntmps36
  go_wp2
  rw [← eW, ← eb]
  clear eW eb
  go_region_held3 (fun w' => w'.cell? ⟨b, 0, none⟩ = some (.int .i64 k) ∧ w'.cell? ⟨b, 1, none⟩ = some (.int .i64 f) ∧ w'.cell? ⟨b, 2, none⟩ = some (.int .i64 t) ∧ w'.cell? ⟨b, 3, none⟩ = some (.int .i64 v) ∧ w'.cell? ⟨b, 4, none⟩ = some (.int .i64 a) ∧ w'.cell? ⟨b, 5, none⟩ = some (.string s) ∧ w'.cell? ⟨b, 6, none⟩ = some (.int .i64 u) ∧ Below w.heap.size w w' ∧ b < w'.heap.size) (first | assumption | exact held_one hs.out (Below.refl _ _).drew | exact held_one (by assumption) (Below.refl _ _).drew | fail)
    (first | (go_at_call 51; refine (HC.out _).mono ?_; rintro e5 w5 ⟨rfl, b5, d5⟩; have h5 := held_one (by assumption) b5))
  rename_i hS9
  have hB9 := Lib.hid hS9.2.2.2.2.2.2.2.1
  clear hS9
  go_wp2
  go_returns
  exact ⟨rfl, hB9.out⟩

set_option maxRecDepth 20000 in
set_option maxHeartbeats 4000000 in
theorem touch_xy (k f t v a : Int) (s : ByteArray) (u : Int) (k' f' t' v' a' : Int) (s' : ByteArray) (u' : Int) (w : World) : Calls Try.prog 31 #[.agg (evA k f t v a s u), .agg (evA k' f' t' v' a' s' u')] w fun e w' => e = .returned (.bool (plF k a s u && (plF k' a' s' u' && (v == v' && t == f')))) ∧ Below w.heap.size w w' := by
  have HC := Lib.hid (fun W => plain_xy k f t v a s u W)
  have HD := Lib.hid (fun W => plain_xy k' f' t' v' a' s' u' W)
  generalize plF k a s u = p at *
  generalize plF k' a' s' u' = q at *
  obtain ⟨W, b, c, eW, eb, ec, HS⟩ := seven_two w k f t v a s u k' f' t' v' a' s' u' 48
  subst eW eb ec
  have hs := Lib.hid HS
  clear HS
  go_enter Try.func31, Try.ntmps31
  go_wp2_with (first
    | (go_at_call_of 36 (Value.agg #[Value.int IntKind.i64 k, Value.int IntKind.i64 f, Value.int IntKind.i64 t, Value.int IntKind.i64 v, Value.int IntKind.i64 a, Value.string s, Value.int IntKind.i64 u]); go_must (refine (HC.out _).mono ?_; rintro e1 w1 ⟨rfl, b1⟩; have h1 := Lib.hid (held_two hs.out b1); obtain ⟨a0, a1, a2, a3, a4, a5, a6, c0, c1, c2, c3, c4, c5, c6, B1, l1, l2⟩ := h1.out))
    | (go_at_call 36; go_must (refine (HD.out _).mono ?_; rintro e2 w2 ⟨rfl, b2⟩; have h2 := Lib.hid (held_two h1.out b2); obtain ⟨A0, A1, A2, A3, A4, A5, A6, C0, C1, C2, C3, C4, C5, C6, B2, L1, L2⟩ := h2.out)))
  all_goals
    go_returns
    refine ⟨ret_bool ?_, by assumption⟩
    try simp only [decide_eq_true_eq, decide_eq_false_iff_not, beq_iff_eq, Bool.not_eq_true, bne_iff_ne, ne_eq] at *
    first | (simp_all; done) | (clear HC hs h1; simp_all; omega) | (clear HC HD hs h1 h2; simp_all; omega) | trace_state

set_option maxRecDepth 20000 in
set_option maxHeartbeats 4000000 in
theorem isRun_xy (k f t v a : Int) (s : ByteArray) (u : Int) (w : World) : Calls Try.prog 39 #[.agg (evA k f t v a s u)] w fun e w' => e = .returned (.bool (irF k f t v a s u)) ∧ Below w.heap.size w w' := by
  have HC := Lib.hid (fun W => plain_xy k f t v a s u W)
  unfold irF
  generalize plF k a s u = p at *
  obtain ⟨W, b, eW, eb, HS⟩ := seven_at w k f t v a s u 48
  subst eW eb
  have hs := Lib.hid HS
  clear HS
  go_enter Try.func39, Try.ntmps39
  go_wp2_with (first
    | (go_at_call 36; go_must (refine (HC.out _).mono ?_; rintro e1 w1 ⟨rfl, b1⟩; have h1 := Lib.hid (held_one hs.out b1); obtain ⟨a0, a1, a2, a3, a4, a5, a6, B1, l1⟩ := h1.out)))
  all_goals
    go_returns
    refine ⟨ret_bool ?_, by assumption⟩
    try simp only [decide_eq_true_eq, decide_eq_false_iff_not, beq_iff_eq, Bool.not_eq_true, bne_iff_ne, ne_eq] at *
    first | (simp_all; done) | (clear HC hs h1; simp_all; omega) | (clear HC HD hs h1 h2; simp_all; omega) | trace_state

end Go.Proofs.Ytcodoakfomddfaa
