/-
  Events as the model holds them; the walks of moderate, Valid and Core, the program's and the specification's, and of the specification's Less.
  Two events compared by '==' and '!='.
  The walks of small, times and Same over events.
  Layer 16: the walks of Step, the program's and the specification's.
  Layer 16: the walk of the program's Decode (a generic one, called with Step and End).
  Items; the walks of CheckBits, checkItem, CheckItems, and of the specification's wrong.
  Layer 16: what came in: a configuration, an event, events, items; how long they may be.
  Which events of a level a decoder accepts: plain.
  Layer 17: the decoder of Manchester codes as a fold, the program's and the specification's: plain.
-/
import Derived.Test.YtmbeaagpjpphhaaZ10
import Derived.Test.YtmbeaagpjpphhaaZ09
import Derived.Deep.RegionHeld3
import Derived.Deep.QuietTactic
import Derived.BigQuiet
import Derived.Test.YtmbeaagpjpphhaaZ06
import Derived.SizedLaws
import Derived.ChangeMaps5
namespace Go.Proofs.Ytmbeaagpjpphhaa
open Go Go.RowKit Go.Joins
set_option linter.unusedVariables false
set_option linter.unusedSimpArgs false

abbrev evA (k f t v a : Int) (s : ByteArray) (u : Int) : Array Value := #[.int .i64 k, .int .i64 f, .int .i64 t, .int .i64 v, .int .i64 a, .string s, .int .i64 u]
def evC (e : Ev) : Array Value := #[.int .i64 e.k, .int .i64 e.f, .int .i64 e.t, .int .i64 e.v, .int .i64 e.a, .string ⟨e.d.toArray⟩, .int .i64 e.u]
def evV (e : Ev) : Value := .agg (evC e)
theorem evC_size (e : Ev) : (evC e).size = 7 := rfl
abbrev EvRow (w : World) (B : Nat) (v : Value) (l : List Ev) : Prop := KRow evC 7 44 w B v l
abbrev EvArg (w : World) (v : Value) (l : List Ev) : Prop := KArg evC 7 w v l
instance : Inhabited Ev := ⟨⟨0, 0, 0, 0, 0, [], 0⟩⟩

theorem ev_info : (Try.prog.info? 44).map (fun i => (i.zero, i.size, i.bytes)) = some (some (.agg #[.int .i64 0, .int .i64 0, .int .i64 0, .int .i64 0, .int .i64 0, .string ⟨#[]⟩, .int .i64 0]), 7, 64) := by kernel_rfl

set_option maxHeartbeats 1000000 in
theorem moderate_x (n : Int) (w : World) : Calls Try.prog 116 #[.int .i64 n] w fun e w' => e = .returned (.bool (decide (-9007199254740992 ≤ n ∧ n ≤ 9007199254740992))) ∧ w' = w := by
  go_enter Try.func116, Try.ntmps116
  go_wp2
  all_goals
    go_returns
    exact ⟨ret_bool (by first | rfl | (simp; omega) | (simp [*]; done)), rfl⟩

def VeP (k f t v a : Int) (n : Nat) (u : Int) : Prop := 1 ≤ k ∧ k ≤ 8 ∧ 0 ≤ f ∧ f ≤ t ∧ t ≤ 1099511627776 ∧ n ≤ 4096 ∧ 0 ≤ u ∧ u ≤ 12 ∧
    -9007199254740992 ≤ v ∧ v ≤ 9007199254740992 ∧ -9007199254740992 ≤ a ∧ a ≤ 9007199254740992
instance (k f t v a : Int) (n : Nat) (u : Int) : Decidable (VeP k f t v a n u) := by unfold VeP; exact inferInstance
set_option maxRecDepth 20000 in
set_option maxHeartbeats 2000000 in
theorem valid_xy (k f t v a : Int) (s : ByteArray) (u : Int) (w : World) (hs : s.size ≤ 140737488351232) : Calls Try.prog 104 #[.agg (evA k f t v a s u)] w fun e w' => e = .returned (.bool (decide (VeP k f t v a s.size u))) ∧ w' = w.alloc (.cells (evA k f t v a s u) 44) := by
  have hs' : (s.size : Int) ≤ 140737488351232 := by omega
  have CM := Lib.hid moderate_x
  go_enter Try.func104, Try.ntmps104
  go_wp2_with (go_at_call 116; go_must (refine (CM.out _ _).mono ?_; rintro e1 w1 ⟨rfl, rfl⟩))
  all_goals
    go_returns
    refine ⟨ret_bool ?_, rfl⟩
    try simp only [decide_eq_true_eq, decide_eq_false_iff_not, beq_iff_eq, Bool.not_eq_true, bne_iff_ne, ne_eq] at *
    first | (symm; rw [decide_eq_false_iff_not]; unfold VeP; omega) | (symm; rw [decide_eq_true_eq]; unfold VeP; omega) | (rw [decide_eq_decide]; unfold VeP; omega) | trace_state
set_option maxRecDepth 20000 in
set_option maxHeartbeats 2000000 in
theorem refValid_xy (k f t v a : Int) (s : ByteArray) (u : Int) (w : World) (hs : s.size ≤ 140737488351232) : Calls Try.prog 88 #[.agg (evA k f t v a s u)] w fun e w' => e = .returned (.bool (decide (VeP k f t v a s.size u))) ∧ w' = w.alloc (.cells (evA k f t v a s u) 44) := by
  have hs' : (s.size : Int) ≤ 140737488351232 := by omega
  have CM := Lib.hid moderate_x
  go_enter Try.func88, Try.ntmps88
  go_wp2_with (go_at_call 116; go_must (refine (CM.out _ _).mono ?_; rintro e1 w1 ⟨rfl, rfl⟩))
  all_goals
    go_returns
    refine ⟨ret_bool ?_, rfl⟩
    try simp only [decide_eq_true_eq, decide_eq_false_iff_not, beq_iff_eq, Bool.not_eq_true, bne_iff_ne, ne_eq] at *
    first | (symm; rw [decide_eq_false_iff_not]; unfold VeP; omega) | (symm; rw [decide_eq_true_eq]; unfold VeP; omega) | (rw [decide_eq_decide]; unfold VeP; omega) | trace_state

end Go.Proofs.Ytmbeaagpjpphhaa

namespace Go.Proofs.Ytmbeaagpjpphhaa
open Go Go.RowKit Go.Joins
set_option linter.unusedVariables false
set_option linter.unusedSimpArgs false

/-- Two events are the same. -/
def eqF (k f t v a : Int) (s : ByteArray) (u : Int) (k' f' t' v' a' : Int) (s' : ByteArray) (u' : Int) : Bool := k == k' && (f == f' && (t == t' && (v == v' && (a == a' && (s.data.toList == s'.data.toList && u == u')))))
theorem eqF_iff (k f t v a : Int) (s : ByteArray) (u : Int) (k' f' t' v' a' : Int) (s' : ByteArray) (u' : Int) : eqF k f t v a s u k' f' t' v' a' s' u' = decide ((⟨k, f, t, v, a, s.data.toList, u⟩ : Ev) = ⟨k', f', t', v', a', s'.data.toList, u'⟩) := by
  unfold eqF
  rw [Bool.eq_iff_iff]
  simp
set_option maxRecDepth 20000 in
set_option maxHeartbeats 1000000 in
theorem eqFields_ev (d : Nat) (k f t v a : Int) (s : ByteArray) (u : Int) (k' f' t' v' a' : Int) (s' : ByteArray) (u' : Int) (w : World) :
    (Op.eqFields (d + 1) (evA k f t v a s u) (evA k' f' t' v' a' s' u') (Try.prog.fieldsOf 44).toList).run Try.prog w = .ok (eqF k f t v a s u k' f' t' v' a' s' u') w := by
  unfold Program.fieldsOf
  rw [Try.underlying44]
  simp only
  unfold eqF
  go_simp
  rw [ByteArray.toList_eq, ByteArray.toList_eq]
  by_cases h0 : k = k'
  case neg => simp [h0]
  by_cases h1 : f = f'
  case neg => simp [h1]
  by_cases h2 : t = t'
  case neg => simp [h2]
  by_cases h3 : v = v'
  case neg => simp [h3]
  by_cases h4 : a = a'
  case neg => simp [h4]
  by_cases h5 : s.data.toList = s'.data.toList
  case neg => simp only [h5, if_false, if_true, *]; have h5' : ¬ s.data = s'.data := fun e => h5 (by rw [e]); simp [h5']
  by_cases h6 : u = u'
  case neg => simp [h6]
  have h5' : s.data = s'.data := Array.toList_inj.1 h5
  simp [h0, h1, h2, h3, h4, h5', h6]

theorem eqIn_ev (k f t v a : Int) (s : ByteArray) (u : Int) (k' f' t' v' a' : Int) (s' : ByteArray) (u' : Int) (w : World) :
    (Op.equalIn 10000 44 (.agg (evA k f t v a s u)) (.agg (evA k' f' t' v' a' s' u'))).run Try.prog w = .ok (eqF k f t v a s u k' f' t' v' a' s' u') w := by
  have hst : Try.prog.underlying 44 = some (.struct (Try.prog.fieldsOf 44)) := by unfold Program.fieldsOf; rw [Try.underlying44]
  rw [run_equalIn_agg w 9999 _ _ _ hst (by kernel_rfl)]
  exact eqFields_ev 9998 k f t v a s u k' f' t' v' a' s' u' w
theorem eql_ev (k f t v a : Int) (s : ByteArray) (u : Int) (k' f' t' v' a' : Int) (s' : ByteArray) (u' : Int) (w : World) :
    (binOp .eql 44 (.agg (evA k f t v a s u)) (.agg (evA k' f' t' v' a' s' u'))).run Try.prog w = .ok (.bool (eqF k f t v a s u k' f' t' v' a' s' u')) w := by
  rw [run_eql_struct, eqIn_ev]; rfl
theorem neq_ev (k f t v a : Int) (s : ByteArray) (u : Int) (k' f' t' v' a' : Int) (s' : ByteArray) (u' : Int) (w : World) :
    (binOp .neq 44 (.agg (evA k f t v a s u)) (.agg (evA k' f' t' v' a' s' u'))).run Try.prog w = .ok (.bool (!eqF k f t v a s u k' f' t' v' a' s' u')) w := by
  rw [run_neq_struct, eqIn_ev]; rfl

end Go.Proofs.Ytmbeaagpjpphhaa

namespace Go.Proofs.Ytmbeaagpjpphhaa
open Go Go.RowKit Go.Joins
set_option linter.unusedVariables false
set_option linter.unusedSimpArgs false

theorem arg_seven {w : World} {g o : Nat} {l : List Ev} (h : ∀ j (hj : j < l.length) i, i < 7 → w.cell? ⟨g, o + j * 7 + i, none⟩ = (evC l[j])[i]?) (j : Nat) (hj : j < l.length) :
    w.cell? ⟨g, o + j * 7, none⟩ = some (.int .i64 l[j].k) ∧ w.cell? ⟨g, o + j * 7 + 1, none⟩ = some (.int .i64 l[j].f) ∧ w.cell? ⟨g, o + j * 7 + 2, none⟩ = some (.int .i64 l[j].t) ∧ w.cell? ⟨g, o + j * 7 + 3, none⟩ = some (.int .i64 l[j].v) ∧ w.cell? ⟨g, o + j * 7 + 4, none⟩ = some (.int .i64 l[j].a) ∧ w.cell? ⟨g, o + j * 7 + 5, none⟩ = some (.string ⟨l[j].d.toArray⟩) ∧ w.cell? ⟨g, o + j * 7 + 6, none⟩ = some (.int .i64 l[j].u) :=
  ⟨h j hj 0 (by omega), h j hj 1 (by omega), h j hj 2 (by omega), h j hj 3 (by omega), h j hj 4 (by omega), h j hj 5 (by omega), h j hj 6 (by omega)⟩
theorem elem_eqF (x y : Ev) : eqF x.k x.f x.t x.v x.a ⟨x.d.toArray⟩ x.u y.k y.f y.t y.v y.a ⟨y.d.toArray⟩ y.u = decide (x = y) := eqF_iff _ _ _ _ _ _ _ _ _ _ _ _ _ _

def smE (l : List Ev) : Bool := decide (l.length ≤ 40) && l.all fun e => decide (e.d.length ≤ 300)
theorem smE_iff (l : List Ev) : smE l = true ↔ l.length ≤ 40 ∧ ∀ j (h : j < l.length), l[j].d.length ≤ 300 := by
  unfold smE
  simp only [Bool.and_eq_true, decide_eq_true_eq, List.all_eq_true]
  refine and_congr Iff.rfl ⟨fun h j hj => h _ (List.getElem_mem hj), fun h e he => ?_⟩
  obtain ⟨j, hj, rfl⟩ := List.mem_iff_getElem.1 he
  exact h j hj

set_option maxRecDepth 20000 in
set_option maxHeartbeats 2000000 in
theorem same_any (l : List Ev) (V V' : Value) (w : World) (h1 : EvArg w V l) (h2 : EvArg w V' l) (hl : l.length ≤ 1099511627776) :
    Calls Try.prog 45 #[V, V'] w fun e w' => e = .returned (.bool true) ∧ Below w.heap.size w w' := by
  obtain ⟨A1, c1, rfl, h1⟩ := h1
  obtain ⟨A2, c2, rfl, h2⟩ := h2
  have H1 := Lib.hid h1; have H2 := Lib.hid h2
  have hl' : (l.length : Int) ≤ 1099511627776 := by omega
  clear h1 h2
  go_enter Try.func45, Try.ntmps45
  go_wp2
  go_loopw [5] (fun x wr => ∃ (k m : Nat), k ≤ l.length ∧ x = .int .i64 k ∧ wr = w.drewN m) (fun x _ => l.length - (intOf x).toNat)
  case atStart => exact ⟨0, 0, by omega, rfl, rfl⟩
  case round =>
    obtain ⟨k, m, hk, rfl, rfl⟩ := hrel
    by_cases hlt : k < l.length
    · obtain ⟨g1, o1, rfl, hg1, hc1⟩ := H1.out (by omega)
      obtain ⟨g2, o2, rfl, hg2, hc2⟩ := H2.out (by omega)
      obtain ⟨a0, a1, a2, a3, a4, a5, a6⟩ := arg_seven hc1 k hlt
      obtain ⟨b0, b1, b2, b3, b4, b5, b6⟩ := arg_seven hc2 k hlt
      have Q := fun W => neq_ev l[k].k l[k].f l[k].t l[k].v l[k].a ⟨l[k].d.toArray⟩ l[k].u l[k].k l[k].f l[k].t l[k].v l[k].a ⟨l[k].d.toArray⟩ l[k].u W
      rw [elem_eqF, decide_eq_true rfl] at Q
      clear hc1 hc2
      generalize (⟨l[k].d.toArray⟩ : ByteArray) = x5 at *
      generalize l[k].k = x0 at *
      generalize l[k].f = x1 at *
      generalize l[k].t = x2 at *
      generalize l[k].v = x3 at *
      generalize l[k].a = x4 at *
      generalize l[k].u = x6 at *
      go_wp2
      go_quiet (fail)
      go_wp2
      go_roundw
      case rel => exact ⟨k + 1, m + nq, by omega, by go_num, rfl⟩
      case measure => simp [intOf]; omega
    · go_wp2
      go_returns
      exact ⟨rfl, Go.below_drewN (Below.refl _ _) _⟩

end Go.Proofs.Ytmbeaagpjpphhaa

namespace Go.Proofs.Ytmbeaagpjpphhaa
open Go Go.RowKit Go.Joins
set_option linter.unusedVariables false
set_option linter.unusedSimpArgs false

theorem row8 {w : World} {b : Nat} {T : TypeId} {x0 x1 x2 x3 x4 x5 x6 x7 : Value} (h : RowAt w b T #[x0, x1, x2, x3, x4, x5, x6, x7]) : (w.cell? ⟨b, 0, none⟩ = some x0 ∧ w.cell? ⟨b, 1, none⟩ = some x1 ∧ w.cell? ⟨b, 2, none⟩ = some x2 ∧ w.cell? ⟨b, 3, none⟩ = some x3 ∧ w.cell? ⟨b, 4, none⟩ = some x4 ∧ w.cell? ⟨b, 5, none⟩ = some x5 ∧ w.cell? ⟨b, 6, none⟩ = some x6 ∧ w.cell? ⟨b, 7, none⟩ = some x7) ∧ ∀ j, w.frozen? ⟨b, j, none⟩ = false :=
  ⟨⟨h.cell 0, h.cell 1, h.cell 2, h.cell 3, h.cell 4, h.cell 5, h.cell 6, h.cell 7⟩, fun j => h.frozen j⟩
theorem row7 {w : World} {b : Nat} {T : TypeId} {x0 x1 x2 x3 x4 x5 x6 : Value} (h : RowAt w b T #[x0, x1, x2, x3, x4, x5, x6]) : (w.cell? ⟨b, 0, none⟩ = some x0 ∧ w.cell? ⟨b, 1, none⟩ = some x1 ∧ w.cell? ⟨b, 2, none⟩ = some x2 ∧ w.cell? ⟨b, 3, none⟩ = some x3 ∧ w.cell? ⟨b, 4, none⟩ = some x4 ∧ w.cell? ⟨b, 5, none⟩ = some x5 ∧ w.cell? ⟨b, 6, none⟩ = some x6) ∧ ∀ j, w.frozen? ⟨b, j, none⟩ = false :=
  ⟨⟨h.cell 0, h.cell 1, h.cell 2, h.cell 3, h.cell 4, h.cell 5, h.cell 6⟩, fun j => h.frozen j⟩

/-- Behind the state's two stores and the new event. -/
theorem after_at {w W0 : World} {b4 b6 : Nat} {S Z : Array Value} (n f t v a : Int) (u : Int) (R1 : RowAt W0 b4 39 S) (R3 : RowAt W0 b6 39 Z) (B : Below w.heap.size w W0) :
    ∃ w2 b8, w2 = W0.alloc (.cells (evA 2 f t n a ⟨#[]⟩ u) 44) ∧ b8 = W0.heap.size ∧ b4 < b8 ∧ b6 < b8 ∧ b4 < w2.heap.size ∧ b6 < w2.heap.size ∧ b8 < w2.heap.size ∧ RowAt w2 b4 39 S ∧ RowAt w2 b6 39 Z ∧ RowAt w2 b8 44 (evA 2 f t n a ⟨#[]⟩ u) ∧ Below w.heap.size w w2 := by
  have := R1.lt
  have := R3.lt
  refine ⟨_, _, rfl, rfl, R1.lt, R3.lt, ?_, ?_, ?_, R1.alloc _, R3.alloc _, RowAt.new _ _ _, B.alloc B.size _⟩ <;> rw [World.size_alloc] <;> omega
theorem set8 {w : World} {q : Nat} {T : TypeId} {z0 z1 z2 z3 z4 z5 z6 z7 x0 x1 x2 x3 x4 x5 x6 x7 : Value} (h : RowAt w q T #[z0, z1, z2, z3, z4, z5, z6, z7]) : RowAt ((((((((w.setCell ⟨q, 0, none⟩ x0).setCell ⟨q, 1, none⟩ x1).setCell ⟨q, 2, none⟩ x2).setCell ⟨q, 3, none⟩ x3).setCell ⟨q, 4, none⟩ x4).setCell ⟨q, 5, none⟩ x5).setCell ⟨q, 6, none⟩ x6).setCell ⟨q, 7, none⟩ x7) q T #[x0, x1, x2, x3, x4, x5, x6, x7] := by
  simpa using (((((((h.set 0 x0).set 1 x1).set 2 x2).set 3 x3).set 4 x4).set 5 x5).set 6 x6).set 7 x7
/-- The end of a step: the state in the result, the event in a literal. -/
theorem end_at {w w2 : World} {b6 : Nat} {z0 z1 z2 z3 z4 z5 z6 z7 : Value} (x0 x1 x2 x3 x4 x5 x6 x7 : Value) (n f t a u : Int) (q6 : RowAt w2 b6 39 #[z0, z1, z2, z3, z4, z5, z6, z7]) (B : Below w.heap.size w w2) (hb : w.heap.size ≤ b6) :
    ∃ w9, w9 = ((((((((w2.setCell ⟨b6, 0, none⟩ x0).setCell ⟨b6, 1, none⟩ x1).setCell ⟨b6, 2, none⟩ x2).setCell ⟨b6, 3, none⟩ x3).setCell ⟨b6, 4, none⟩ x4).setCell ⟨b6, 5, none⟩ x5).setCell ⟨b6, 6, none⟩ x6).setCell ⟨b6, 7, none⟩ x7).alloc (.cells (evA 2 f t n a ⟨#[]⟩ u) 44) ∧
      RowAt w9 b6 39 #[x0, x1, x2, x3, x4, x5, x6, x7] ∧ EvRow w9 w.heap.size (.slice (some ⟨w2.heap.size, 0, none⟩) 1 1) [⟨2, f, t, n, a, [], u⟩] ∧ Below w.heap.size w w9 := by
  have B8 : Below w.heap.size w ((((((((w2.setCell ⟨b6, 0, none⟩ x0).setCell ⟨b6, 1, none⟩ x1).setCell ⟨b6, 2, none⟩ x2).setCell ⟨b6, 3, none⟩ x3).setCell ⟨b6, 4, none⟩ x4).setCell ⟨b6, 5, none⟩ x5).setCell ⟨b6, 6, none⟩ x6).setCell ⟨b6, 7, none⟩ x7) := (((((((B.setCell hb _).setCell hb _).setCell hb _).setCell hb _).setCell hb _).setCell hb _).setCell hb _).setCell hb _
  refine ⟨_, rfl, (set8 q6).alloc _, ?_, B8.alloc B8.size _⟩
  have hz : ((((((((w2.setCell ⟨b6, 0, none⟩ x0).setCell ⟨b6, 1, none⟩ x1).setCell ⟨b6, 2, none⟩ x2).setCell ⟨b6, 3, none⟩ x3).setCell ⟨b6, 4, none⟩ x4).setCell ⟨b6, 5, none⟩ x5).setCell ⟨b6, 6, none⟩ x6).setCell ⟨b6, 7, none⟩ x7).heap.size = w2.heap.size := by simp only [World.size_setCell]
  rw [← hz]
  exact KRow.lit evC_size _ _ B8.size [(⟨2, f, t, n, a, [], u⟩ : Ev)] _ rfl 1 rfl (by simp)

end Go.Proofs.Ytmbeaagpjpphhaa

namespace Go.Proofs.Ytmbeaagpjpphhaa
open Go Go.RowKit Go.Joins
set_option linter.unusedVariables false
set_option linter.unusedSimpArgs false

theorem ev_one (x : Ev) : (evC x).toList.all (·.oneCell') = true := rfl
theorem EvArg.none (w : World) : EvArg w (.slice none 0 0) [] := ⟨_, _, rfl, fun h => absurd h (by simp)⟩

theorem cell_held {w W W' : World} {b : Nat} {x : Value} (h : W.cell? ⟨b, 0, none⟩ = some x ∧ b < W.heap.size ∧ Below w.heap.size w W) (hb : Below W.heap.size W W') : W'.cell? ⟨b, 0, none⟩ = some x ∧ b < W'.heap.size ∧ Below w.heap.size w W' :=
  ⟨(hb.cell (p := ⟨b, 0, none⟩) h.2.1).trans h.1, Nat.lt_of_lt_of_le h.2.1 hb.size, h.2.2.trans (hb.mono h.2.2.size)⟩

end Go.Proofs.Ytmbeaagpjpphhaa

namespace Go.Proofs.Ytmbeaagpjpphhaa
open Go Go.RowKit Go.Joins
set_option linter.unusedVariables false
set_option linter.unusedSimpArgs false

structure It where
  g : Int
  v : Int
  x : Int
  d : ByteArray
  u : Int
instance : Inhabited It := ⟨⟨0, 0, 0, ⟨#[]⟩, 0⟩⟩
abbrev itA (g v x : Int) (d : ByteArray) (u : Int) : Array Value := #[.int .i64 g, .int .i64 v, .int .i64 x, .string d, .int .i64 u]
def itC (e : It) : Array Value := itA e.g e.v e.x e.d e.u
theorem itC_size (e : It) : (itC e).size = 5 := rfl
theorem it_one (x : It) : (itC x).toList.all (·.oneCell') = true := rfl
abbrev ItRow (w : World) (B : Nat) (v : Value) (l : List It) : Prop := KRow itC 5 32 w B v l
abbrev ItArg (w : World) (v : Value) (l : List It) : Prop := KArg itC 5 w v l
theorem it_info : (Try.prog.info? 32).map (fun i => (i.zero, i.size, i.bytes)) = some (some (.agg #[.int .i64 0, .int .i64 0, .int .i64 0, .string ⟨#[]⟩, .int .i64 0]), 5, 48) := by kernel_rfl
theorem arg_five {w : World} {g o : Nat} {l : List It} (h : ∀ j (hj : j < l.length) i, i < 5 → w.cell? ⟨g, o + j * 5 + i, none⟩ = (itC l[j])[i]?) (j : Nat) (hj : j < l.length) :
    w.cell? ⟨g, o + j * 5, none⟩ = some (.int .i64 l[j].g) ∧ w.cell? ⟨g, o + j * 5 + 1, none⟩ = some (.int .i64 l[j].v) ∧ w.cell? ⟨g, o + j * 5 + 2, none⟩ = some (.int .i64 l[j].x) ∧ w.cell? ⟨g, o + j * 5 + 3, none⟩ = some (.string l[j].d) ∧ w.cell? ⟨g, o + j * 5 + 4, none⟩ = some (.int .i64 l[j].u) :=
  ⟨h j hj 0 (by omega), h j hj 1 (by omega), h j hj 2 (by omega), h j hj 3 (by omega), h j hj 4 (by omega)⟩

/-- The error of an item that should be bits and nothing else. -/
def cbE (v x : Int) (ok : Bool) (u : Int) : Int := if ok = false then 4 else if v = 0 ∧ x = 0 ∧ u = 0 then 0 else 1
def ciE (M g v x : Int) (n : Nat) (ok : Bool) (u : Int) : Int := if g < 0 ∨ M < g then 1 else if 4096 < n then 6 else cbE v x ok u
def ciT (M : Int) (e : It) : Int := ciE M e.g e.v e.x e.d.size (Sb.okB e.d.data.toList) e.u
def cfE (M : Int) : List It → Int
  | [] => 0
  | e :: r => if ciT M e = 0 then cfE M r else ciT M e
/-- The error of items. -/
def clE (M : Int) (l : List It) : Int := if 1024 < l.length then 6 else cfE M l

/-- The error of an item that should have nothing but a gap and data. -/
def cpE (v x u : Int) : Int := if v = 0 ∧ x = 0 ∧ u = 0 then 0 else 1
set_option maxRecDepth 20000 in
set_option maxHeartbeats 2000000 in
theorem checkPlain_xy (g v x : Int) (d : ByteArray) (u : Int) (w : World) : Calls Try.prog 92 #[.agg (itA g v x d u)] w fun e w' => e = .returned (.int .i64 (cpE v x u)) ∧ Below w.heap.size w w' := by
  have HE : Hid (cpE v x u = if v = 0 ∧ x = 0 ∧ u = 0 then 0 else 1) := Lib.hid rfl
  generalize cpE v x u = E at *
  go_enter Try.func92, Try.ntmps92
  go_wp2
  all_goals
    go_returns
    refine ⟨ret_int ?_, by (repeat' (first | with_reducible exact Below.refl _ _ | with_reducible exact Nat.le_refl _ | with_reducible assumption | with_reducible refine below_drewN ?_ _ | with_reducible refine Below.drew ?_ | with_reducible refine Below.trans ?_ (Below.mono (by assumption) ?_) | with_reducible refine Below.alloc ?_ ?_ _ | with_reducible refine Below.setCell ?_ ?_ _ | with_reducible refine le_setCell ?_ _ _ | with_reducible refine le_alloc ?_ _ | with_reducible refine le_drewN ?_ _ | with_reducible refine le_drew ?_ | with_reducible refine Nat.le_trans ?_ (Below.size (by assumption)) | (simp only [World.size_alloc, World.size_setCell]; omega) | omega))⟩
    rw [HE.out]
    try simp only [decide_eq_true_eq, decide_eq_false_iff_not, beq_iff_eq, Bool.not_eq_true, bne_iff_ne, ne_eq] at *
    first | (simp_all; done) | (clear HE; simp_all; omega) | trace_state

set_option maxRecDepth 20000 in
set_option maxHeartbeats 2000000 in
theorem checkBits_xy (g v x : Int) (d : ByteArray) (u : Int) (w : World) (hd : d.size ≤ 140737488351232) : Calls Try.prog 56 #[.agg (itA g v x d u)] w fun e w' => e = .returned (.int .i64 (cbE v x (Sb.okB d.data.toList) u)) ∧ Below w.heap.size w w' := by
  have HV := Lib.hid (fun W => Sb.valid_any d W hd)
  have HP := Lib.hid (fun W => checkPlain_xy g v x d u W)
  have HE : Hid (cbE v x (Sb.okB d.data.toList) u = if Sb.okB d.data.toList = false then 4 else cpE v x u) := Lib.hid rfl
  generalize cbE v x (Sb.okB d.data.toList) u = E at *
  generalize cpE v x u = p at *
  generalize Sb.okB d.data.toList = q at *
  go_enter Try.func56, Try.ntmps56
  go_wp2_with (first
    | (go_at_call 91; go_must (refine (HV.out _).mono ?_; rintro e1 w1 ⟨rfl, rfl⟩))
    | (go_at_call 92; go_must (refine (HP.out _).mono ?_; rintro e2 w2 ⟨rfl, b2⟩)))
  all_goals
    go_returns
    refine ⟨ret_int ?_, by (repeat' (first | with_reducible exact Below.refl _ _ | with_reducible exact Nat.le_refl _ | with_reducible assumption | with_reducible refine below_drewN ?_ _ | with_reducible refine Below.drew ?_ | with_reducible refine Below.trans ?_ (Below.mono (by assumption) ?_) | with_reducible refine Below.alloc ?_ ?_ _ | with_reducible refine Below.setCell ?_ ?_ _ | with_reducible refine le_setCell ?_ _ _ | with_reducible refine le_alloc ?_ _ | with_reducible refine le_drewN ?_ _ | with_reducible refine le_drew ?_ | with_reducible refine Nat.le_trans ?_ (Below.size (by assumption)) | (simp only [World.size_alloc, World.size_setCell]; omega) | omega))⟩
    rw [HE.out]
    try simp only [decide_eq_true_eq, decide_eq_false_iff_not, beq_iff_eq, Bool.not_eq_true, bne_iff_ne, ne_eq] at *
    first | (clear HV HE HP; simp_all; done) | (clear HV HE HP; simp_all; omega) | trace_state

set_option maxRecDepth 20000 in
set_option maxHeartbeats 2000000 in
theorem checkItem_xy (M g v x : Int) (d : ByteArray) (u : Int) (w : World) (hd : d.size ≤ 140737488351232) : Calls Try.prog 90 #[.agg (itA g v x d u), .int .i64 M, .func (.func 56) #[] #[]] w fun e w' => e = .returned (.int .i64 (ciE M g v x d.size (Sb.okB d.data.toList) u)) ∧ Below w.heap.size w w' := by
  have HV := Lib.hid (fun W => checkBits_xy g v x d u W hd)
  have HE : Hid (ciE M g v x d.size (Sb.okB d.data.toList) u = if g < 0 ∨ M < g then 1 else if 4096 < d.size then 6 else cbE v x (Sb.okB d.data.toList) u) := Lib.hid rfl
  generalize ciE M g v x d.size (Sb.okB d.data.toList) u = E at *
  generalize cbE v x (Sb.okB d.data.toList) u = q at *
  have hd' : (d.size : Int) ≤ 140737488351232 := by omega
  go_enter Try.func90, Try.ntmps90
  go_wp2_with (go_at_call 56; go_must (refine (HV.out _).mono ?_; rintro e1 w1 ⟨rfl, b1⟩))
  all_goals
    go_returns
    refine ⟨ret_int ?_, by (repeat' (first | with_reducible exact Below.refl _ _ | with_reducible exact Nat.le_refl _ | with_reducible assumption | with_reducible refine below_drewN ?_ _ | with_reducible refine Below.drew ?_ | with_reducible refine Below.trans ?_ (Below.mono (by assumption) ?_) | with_reducible refine Below.alloc ?_ ?_ _ | with_reducible refine Below.setCell ?_ ?_ _ | with_reducible refine le_setCell ?_ _ _ | with_reducible refine le_alloc ?_ _ | with_reducible refine le_drewN ?_ _ | with_reducible refine le_drew ?_ | with_reducible refine Nat.le_trans ?_ (Below.size (by assumption)) | (simp only [World.size_alloc, World.size_setCell]; omega) | omega))⟩
    rw [HE.out]
    try simp only [decide_eq_true_eq, decide_eq_false_iff_not, beq_iff_eq, Bool.not_eq_true, bne_iff_ne, ne_eq] at *
    first | (rw [if_pos (by omega)]; done) | (rw [if_neg (by omega), if_pos (by omega)]; done) | (rw [if_neg (by omega), if_neg (by omega)]; done) | trace_state

theorem cfE_at {M : Int} {l : List It} {j : Nat} (hj : j < l.length) (h : cfE M l = cfE M (l.drop j)) : cfE M l = if ciT M l[j] = 0 then cfE M (l.drop (j + 1)) else ciT M l[j] := by
  rw [h, List.drop_eq_getElem_cons hj]
  rfl
set_option maxRecDepth 20000 in
set_option maxHeartbeats 2000000 in
theorem checkItems_any (M : Int) (l : List It) (V : Value) (w : World) (hT : ItArg w V l) (hl : l.length ≤ 140737488351232) (hd : ∀ j (h : j < l.length), l[j].d.size ≤ 140737488351232) : Calls Try.prog 55 #[V, .int .i64 M, .func (.func 56) #[] #[]] w fun e w' => e = .returned (.int .i64 (clE M l)) ∧ Below w.heap.size w w' := by
  have HE : Hid (clE M l = if 1024 < l.length then 6 else cfE M l) := Lib.hid rfl
  generalize clE M l = E at *
  obtain ⟨A, c, rfl, hA⟩ := hT
  have HA := Lib.hid hA; have HD := Lib.hid hd
  clear hA hd
  have hl' : (l.length : Int) ≤ 140737488351232 := by omega
  by_cases hb : 1024 < l.length
  · have hb' : (1024 : Int) < l.length := by omega
    obtain rfl : E = 6 := by rw [HE.out, if_pos hb]
    go_enter Try.func55, Try.ntmps55
    go_wp2
    go_returns
    exact ⟨rfl, Below.refl _ _⟩
  have hb' : ¬ (1024 : Int) < l.length := by omega
  replace HE : Hid (E = cfE M l) := Lib.hid (by rw [HE.out, if_neg hb])
  go_enter Try.func55, Try.ntmps55
  go_wp2
  go_loopw [15] (fun i wr => ∃ (j : Nat), j ≤ l.length ∧ i = .int .i64 j ∧ Hid (cfE M l = cfE M (l.drop j)) ∧ Hid (Below w.heap.size w wr)) (fun i _ => l.length - (intOf i).toNat)
  case atStart => exact ⟨0, Nat.zero_le _, rfl, Lib.hid rfl, Lib.hid (Below.refl _ _)⟩
  case round =>
    obtain ⟨j, hj, rfl, HC, HB⟩ := hrel
    have hb := HB.out
    by_cases hjl : j < l.length
    · obtain ⟨g, o, rfl, hg, hc⟩ := HA.out (by omega)
      obtain ⟨a0, a1, a2, a3, a4⟩ := arg_five hc j hjl
      have f0 := (hb.cell (p := ⟨g, o + j * 5, none⟩) hg).trans a0
      have f1 := (hb.cell (p := ⟨g, o + j * 5 + 1, none⟩) hg).trans a1
      have f2 := (hb.cell (p := ⟨g, o + j * 5 + 2, none⟩) hg).trans a2
      have f3 := (hb.cell (p := ⟨g, o + j * 5 + 3, none⟩) hg).trans a3
      have f4 := (hb.cell (p := ⟨g, o + j * 5 + 4, none⟩) hg).trans a4
      have HF := Lib.hid (cfE_at hjl HC.out)
      have CI : Hid (∀ W, Calls Try.prog 90 #[.agg (itA l[j].g l[j].v l[j].x l[j].d l[j].u), .int .i64 M, .func (.func 56) #[] #[]] W fun e w' => e = .returned (.int .i64 (ciT M l[j])) ∧ Below W.heap.size W w') := Lib.hid fun W => checkItem_xy M l[j].g l[j].v l[j].x l[j].d l[j].u W (HD.out j hjl)
      clear a0 a1 a2 a3 a4 hc
      generalize ciT M l[j] = C at *
      generalize l[j].g = x0 at *
      generalize l[j].v = x1 at *
      generalize l[j].x = x2 at *
      generalize l[j].d = x3 at *
      generalize l[j].u = x4 at *
      by_cases hC : C = 0
      · subst hC
        replace HF : Hid (cfE M l = cfE M (l.drop (j + 1))) := Lib.hid (by rw [HF.out, if_pos rfl])
        go_wp2_with (go_at_call 90; go_must (refine (CI.out _).mono ?_; rintro e1 w1 ⟨rfl, b1⟩; have B1 := Lib.hid (hb.trans (((ba wr _).trans (b1.mono (by rw [World.size_alloc]; omega))).mono hb.size))))
        go_roundw
        case rel => exact ⟨j + 1, by omega, val_int (by omega), HF, B1⟩
        case measure => simp [intOf]; omega
      · have hC' : (C == 0) = false := by simpa using hC
        obtain rfl : E = C := by rw [HE.out, HF.out, if_neg hC]
        clear HE HF hC
        go_wp2_with (go_at_call 90; go_must (refine (CI.out _).mono ?_; rintro e1 w1 ⟨rfl, b1⟩; have B1 := Lib.hid (hb.trans (((ba wr _).trans (b1.mono (by rw [World.size_alloc]; omega))).mono hb.size))))
        go_returns
        exact ⟨rfl, B1.out⟩
    · have hdz : l.drop j = [] := List.drop_of_length_le (by omega)
      obtain rfl : E = 0 := by rw [HE.out, HC.out, hdz]; rfl
      clear HE HC hdz
      go_wp2
      go_returns
      exact ⟨rfl, hb⟩

end Go.Proofs.Ytmbeaagpjpphhaa

namespace Go.Proofs.Ytmbeaagpjpphhaa
open Go Go.ChangeShapes Go.WideShapes Go.ChangeAt Go.RowKit
set_option linter.unusedVariables false

theorem cells_ev : Try.prog.cellsOf 44 = 7 := by kernel_rfl
theorem bytes_ev : Try.prog.bytesOf 44 = 64 := by kernel_rfl
theorem cells_it : Try.prog.cellsOf 32 = 5 := by kernel_rfl
theorem bytes_it : Try.prog.bytesOf 32 = 48 := by kernel_rfl
theorem arr1 {cs : Array Value} (h : cs.size = 1) : cs = #[cs.getD 0 default] := by
  obtain ⟨l⟩ := cs
  match l, h with
  | [a], _ => rfl
theorem open_struct2 {H : Type} {enc : TypeId × Value → H} {P : Program} {w : World} {b0 base : Nat} {spare : Nat → Bool} {held : Bool} {r : Reach} {t : TypeId} {v : Value} {d : DataW H} {p : List MemPlace} {fs : Array Field} (hs : P.underlying t = some (.struct fs)) (hv : Value.okWide P w r b0 t v) (h : DataW.Trod enc P w base spare held t v d p) :
    ∃ (cs : Array Value) (n : Nat) (ys : List (DataW H)), v = .agg cs ∧ cs.size = P.cellsOf t ∧ d = .agg ys ∧ ∀ (i : Nat) (f : Field), fs[i]? = some f → P.cellsOf f.type = 1 → f.offset < cs.size → ∃ y q, ys[i]? = some y ∧ DataW.trod enc P w base spare held n f.type [cs.getD f.offset default] = some (y, q) := by
  obtain ⟨cs, rfl, hsz⟩ := okWide_struct hs hv
  obtain ⟨fuel, hf⟩ := h
  obtain ⟨xs, n, rfl, q1, q2, hl, hx⟩ := DataW.trod_struct hs hf
  have hd1 : d = .agg (xs.map (·.1)) := by first | exact (Prod.mk.inj q1).1 | exact (Prod.mk.inj q2).1
  refine ⟨cs, n, xs.map (·.1), rfl, hsz, hd1, fun i f hi h1 ho => ?_⟩
  have hlt : i < fs.size := (Array.getElem?_eq_some_iff.1 hi).1
  have h2 := hx i f hi
  have h3 : i < xs.length := by omega
  rw [h1, List.getElem?_eq_getElem h3] at h2
  refine ⟨xs[i].1, xs[i].2, by rw [List.getElem?_map, List.getElem?_eq_getElem h3]; rfl, ?_⟩
  rw [← h2]
  congr 1
  have e : (Value.agg cs).cells.toList = cs.toList := rfl
  rw [e]
  apply List.ext_getElem?
  intro j
  rw [List.getElem?_take, List.getElem?_drop]
  cases j with
  | zero => simp [ho]
  | succ j => simp
theorem arr7 {cs : Array Value} (h : cs.size = 7) : cs = #[cs.getD 0 default, cs.getD 1 default, cs.getD 2 default, cs.getD 3 default, cs.getD 4 default, cs.getD 5 default, cs.getD 6 default] := by
  obtain ⟨l⟩ := cs
  match l, h with
  | [a, b, c, d, e, f, g], _ => rfl

set_option maxRecDepth 100000 in
/-- An event among the arguments. -/
theorem open_ev {H : Type} {enc : TypeId × Value → H} {W : World} {base b : Nat} {sp : Nat → Bool} {hd : Bool} {v : Value} {d : DataW H} {p : List MemPlace} (hv : Value.okWide Try.prog W .any base 44 v) (h : DataW.Trod enc Try.prog W b sp hd 44 v d p) :
    ∃ (x0 x1 x2 x3 x4 : Int) (s : ByteArray) (x6 : Int), v = .agg (evA x0 x1 x2 x3 x4 s x6) ∧ ∃ ys, d = .agg ys ∧ ys[5]? = some (.lit (.string s.data.toList)) := by
  obtain ⟨cs, n, ys, rfl, hsz, rfl, hx⟩ := open_struct2 Try.underlying44 hv h
  have h7 : cs.size = 7 := hsz.trans (by kernel_rfl)
  rw [arr7 h7]
  obtain ⟨y0, q0, l0, k0⟩ := hx 0 _ rfl (by kernel_rfl) (by show 0 < cs.size; omega)
  obtain ⟨y1, q1, l1, k1⟩ := hx 1 _ rfl (by kernel_rfl) (by show 1 < cs.size; omega)
  obtain ⟨y2, q2, l2, k2⟩ := hx 2 _ rfl (by kernel_rfl) (by show 2 < cs.size; omega)
  obtain ⟨y3, q3, l3, k3⟩ := hx 3 _ rfl (by kernel_rfl) (by show 3 < cs.size; omega)
  obtain ⟨y4, q4, l4, k4⟩ := hx 4 _ rfl (by kernel_rfl) (by show 4 < cs.size; omega)
  obtain ⟨y5, q5, l5, k5⟩ := hx 5 _ rfl (by kernel_rfl) (by show 5 < cs.size; omega)
  obtain ⟨y6, q6, l6, k6⟩ := hx 6 _ rfl (by kernel_rfl) (by show 6 < cs.size; omega)
  obtain ⟨x0, e0, _, _⟩ := DataW.trod_int Try.underlying3 k0
  obtain ⟨x1, e1, _, _⟩ := DataW.trod_int Try.underlying3 k1
  obtain ⟨x2, e2, _, _⟩ := DataW.trod_int Try.underlying3 k2
  obtain ⟨x3, e3, _, _⟩ := DataW.trod_int Try.underlying3 k3
  obtain ⟨x4, e4, _, _⟩ := DataW.trod_int Try.underlying3 k4
  obtain ⟨s, e5, z5, _⟩ := DataW.trod_string Try.underlying9 k5
  obtain ⟨x6, e6, _, _⟩ := DataW.trod_int Try.underlying3 k6
  simp only [List.cons.injEq, and_true] at e0 e1 e2 e3 e4 e5 e6
  simp only [Prod.mk.injEq] at z5
  obtain rfl := z5.1
  refine ⟨x0, x1, x2, x3, x4, s, x6, ?_, ys, rfl, l5⟩
  have f0 : cs.getD 0 default = .int .i64 x0 := e0
  have f1 : cs.getD 1 default = .int .i64 x1 := e1
  have f2 : cs.getD 2 default = .int .i64 x2 := e2
  have f3 : cs.getD 3 default = .int .i64 x3 := e3
  have f4 : cs.getD 4 default = .int .i64 x4 := e4
  have f5 : cs.getD 5 default = .string s := e5
  have f6 : cs.getD 6 default = .int .i64 x6 := e6
  rw [f0, f1, f2, f3, f4, f5, f6]
/-- Its data's length. -/
theorem ev_reach {H : Type} {s : ByteArray} {d : DataW H} {ts : List TypeId} {ds : List (DataW H)} {j : Nat} (hd : ∃ ys, d = .agg ys ∧ ys[5]? = some (.lit (.string s.data.toList)))
    (hw : (DataW.weightsEach Try.prog ts ds).all (· ≤ reachBytes) = true) (ht : ts[j]? = some 44) (hj : ds[j]? = some d) : s.size ≤ 140737488351232 := by
  have e : reachBytes = 140737488351232 := rfl
  obtain ⟨ys, rfl, h5⟩ := hd
  have hn : s.data.toList.length ∈ (DataW.lit (H := H) (.string s.data.toList)).weights Try.prog 9 := by simp [DataW.weights]
  have hp := weights_part (P := Try.prog) (e := 44) (i := 5) (f := _) Try.underlying44 rfl h5 hn
  have := List.all_eq_true.1 hw _ (DataW.weights_mem_each ht hj _ hp)
  simp only [decide_eq_true_eq] at this
  rw [size_len]
  omega

set_option maxRecDepth 100000 in
/-- A slice of events that came in. -/
theorem open_evs {H : Type} {enc : TypeId × Value → H} {W : World} {base : Nat} {v : Value} {d : DataW H} {p : List MemPlace} (hv : Value.okWide Try.prog W .any base 36 v) (h : DataW.Trod enc Try.prog W 0 (fun _ => true) true 36 v d p) :
    ∃ l : List Ev, EvArg W v l ∧ (l = [] ∨ ∃ es sp, d = .slice es sp ∧ es.length = l.length ∧ ∀ j (hj : j < l.length), ∃ ys, es[j]? = some (.agg ys) ∧ ys[5]? = some (.lit (.string l[j].d))) := by
  obtain ⟨A, len, cap, rfl, hlc, hnil, hel⟩ := open_rows Try.underlying36 Try.underlying44 cells_ev (by omega) hv h
  rcases Nat.eq_zero_or_pos len with h0 | h0
  · subst h0
    exact ⟨[], ⟨A, cap, rfl, fun h => absurd h (by simp)⟩, .inl rfl⟩
  · obtain ⟨g, o, es, sp, rfl, hg, rfl, hes, hj⟩ := hel h0
    have key : ∀ j, j < len → ∃ t : Ev, (∀ i, i < 7 → W.cell? ⟨g, o + j * 7 + i, none⟩ = (evC t)[i]?) ∧ ∃ ys, es[j]? = some (.agg ys) ∧ ys[5]? = some (.lit (.string t.d)) := by
      intro j hjl
      obtain ⟨cs, ys, n, hcl, hcell, hys, hf⟩ := hj j hjl
      obtain ⟨c0, y0, q0, k0, l0, t0⟩ := hf 0 _ rfl (by kernel_rfl) (by decide)
      obtain ⟨c1, y1, q1, k1, l1, t1⟩ := hf 1 _ rfl (by kernel_rfl) (by decide)
      obtain ⟨c2, y2, q2, k2, l2, t2⟩ := hf 2 _ rfl (by kernel_rfl) (by decide)
      obtain ⟨c3, y3, q3, k3, l3, t3⟩ := hf 3 _ rfl (by kernel_rfl) (by decide)
      obtain ⟨c4, y4, q4, k4, l4, t4⟩ := hf 4 _ rfl (by kernel_rfl) (by decide)
      obtain ⟨c5, y5, q5, k5, l5, t5⟩ := hf 5 _ rfl (by kernel_rfl) (by decide)
      obtain ⟨c6, y6, q6, k6, l6, t6⟩ := hf 6 _ rfl (by kernel_rfl) (by decide)
      obtain ⟨x0, e0, _, _⟩ := DataW.trod_int Try.underlying3 t0
      obtain ⟨x1, e1, _, _⟩ := DataW.trod_int Try.underlying3 t1
      obtain ⟨x2, e2, _, _⟩ := DataW.trod_int Try.underlying3 t2
      obtain ⟨x3, e3, _, _⟩ := DataW.trod_int Try.underlying3 t3
      obtain ⟨x4, e4, _, _⟩ := DataW.trod_int Try.underlying3 t4
      obtain ⟨x5, e5, z5, _⟩ := DataW.trod_string Try.underlying9 t5
      obtain ⟨x6, e6, _, _⟩ := DataW.trod_int Try.underlying3 t6
      simp only [List.cons.injEq, and_true] at e0 e1 e2 e3 e4 e5 e6
      simp only [Prod.mk.injEq] at z5
      subst e0 e1 e2 e3 e4 e5 e6
      obtain rfl := z5.1
      have k0' : cs[0]? = some (.int .i64 x0) := k0
      have k1' : cs[1]? = some (.int .i64 x1) := k1
      have k2' : cs[2]? = some (.int .i64 x2) := k2
      have k3' : cs[3]? = some (.int .i64 x3) := k3
      have k4' : cs[4]? = some (.int .i64 x4) := k4
      have k5' : cs[5]? = some (.string x5) := k5
      have k6' : cs[6]? = some (.int .i64 x6) := k6
      refine ⟨⟨x0, x1, x2, x3, x4, x5.data.toList, x6⟩, fun i hi => ?_, ys, hys, l5⟩
      rw [hcell i hi]
      unfold evC
      match i, hi with
      | 0, _ => exact k0'
      | 1, _ => exact k1'
      | 2, _ => exact k2'
      | 3, _ => exact k3'
      | 4, _ => exact k4'
      | 5, _ => rw [k5']; simp only [bytes_of]; rfl
      | 6, _ => exact k6'
    obtain ⟨F, hF⟩ := Go.Deep.choose_lt key
    have hlen : ((List.range len).map F).length = len := by simp
    refine ⟨(List.range len).map F, ⟨some ⟨g, o, none⟩, cap, by rw [hlen], fun _ => ⟨g, o, rfl, hg, fun j hj i hi => ?_⟩⟩, .inr ⟨es, sp, rfl, by rw [hes, hlen], fun j hj => ?_⟩⟩
    · rw [hlen] at hj
      rw [(hF j hj).1 i hi]
      simp
    · rw [hlen] at hj
      obtain ⟨ys, h1, h2⟩ := (hF j hj).2
      exact ⟨ys, h1, by simpa using h2⟩
/-- What the weights say of events that came in. -/
theorem evs_reach {H : Type} {l : List Ev} {d : DataW H} {ts : List TypeId} {ds : List (DataW H)} {j : Nat} (hd : l = [] ∨ ∃ es sp, d = .slice es sp ∧ es.length = l.length ∧ ∀ j (hj : j < l.length), ∃ ys, es[j]? = some (.agg ys) ∧ ys[5]? = some (.lit (.string l[j].d)))
    (hw : (DataW.weightsEach Try.prog ts ds).all (· ≤ reachBytes) = true) (ht : ts[j]? = some 36) (hj : ds[j]? = some d) : (∀ j (h : j < l.length), l[j].d.length ≤ 140737488351232) ∧ l.length ≤ 140737488351232 := by
  have e : reachBytes = 140737488351232 := rfl
  rcases hd with rfl | ⟨es, sp, rfl, hlen, hel⟩
  · exact ⟨by simp, by simp⟩
  · refine ⟨fun i hi => ?_, ?_⟩
    · obtain ⟨ys, h1, h2⟩ := hel i hi
      have hn : l[i].d.length ∈ (DataW.lit (H := H) (.string l[i].d)).weights Try.prog 9 := by simp [DataW.weights]
      have hp := weights_part (P := Try.prog) (e := 44) (i := 5) (f := _) Try.underlying44 rfl h2 hn
      have ha := weights_elem (P := Try.prog) (t := 36) (sp := sp) Try.underlying36 (List.mem_of_getElem? h1) hp
      have := List.all_eq_true.1 hw _ (DataW.weights_mem_each ht hj _ ha)
      simp only [decide_eq_true_eq] at this
      omega
    · have := sized_slice hw ht hj Try.underlying36
      rw [bytes_ev] at this
      omega


set_option maxRecDepth 100000 in
/-- A slice of items that came in. -/
theorem open_items {H : Type} {enc : TypeId × Value → H} {W : World} {base : Nat} {v : Value} {d : DataW H} {p : List MemPlace} (hv : Value.okWide Try.prog W .any base 33 v) (h : DataW.Trod enc Try.prog W 0 (fun _ => true) true 33 v d p) :
    ∃ l : List It, ItArg W v l ∧ (l = [] ∨ ∃ es sp, d = .slice es sp ∧ es.length = l.length ∧ ∀ j (hj : j < l.length), ∃ ys, es[j]? = some (.agg ys) ∧ ys[3]? = some (.lit (.string l[j].d.data.toList))) := by
  obtain ⟨A, len, cap, rfl, hlc, hnil, hel⟩ := open_rows Try.underlying33 Try.underlying32 cells_it (by omega) hv h
  rcases Nat.eq_zero_or_pos len with h0 | h0
  · subst h0
    exact ⟨[], ⟨A, cap, rfl, fun h => absurd h (by simp)⟩, .inl rfl⟩
  · obtain ⟨g, o, es, sp, rfl, hg, rfl, hes, hj⟩ := hel h0
    have key : ∀ j, j < len → ∃ t : It, (∀ i, i < 5 → W.cell? ⟨g, o + j * 5 + i, none⟩ = (itC t)[i]?) ∧ ∃ ys, es[j]? = some (.agg ys) ∧ ys[3]? = some (.lit (.string t.d.data.toList)) := by
      intro j hjl
      obtain ⟨cs, ys, n, hcl, hcell, hys, hf⟩ := hj j hjl
      obtain ⟨c0, y0, q0, k0, l0, t0⟩ := hf 0 _ rfl (by kernel_rfl) (by decide)
      obtain ⟨c1, y1, q1, k1, l1, t1⟩ := hf 1 _ rfl (by kernel_rfl) (by decide)
      obtain ⟨c2, y2, q2, k2, l2, t2⟩ := hf 2 _ rfl (by kernel_rfl) (by decide)
      obtain ⟨c3, y3, q3, k3, l3, t3⟩ := hf 3 _ rfl (by kernel_rfl) (by decide)
      obtain ⟨c4, y4, q4, k4, l4, t4⟩ := hf 4 _ rfl (by kernel_rfl) (by decide)
      obtain ⟨x0, e0, _, _⟩ := DataW.trod_int Try.underlying3 t0
      obtain ⟨x1, e1, _, _⟩ := DataW.trod_int Try.underlying3 t1
      obtain ⟨x2, e2, _, _⟩ := DataW.trod_int Try.underlying3 t2
      obtain ⟨x3, e3, z3, _⟩ := DataW.trod_string Try.underlying9 t3
      obtain ⟨x4, e4, _, _⟩ := DataW.trod_int Try.underlying3 t4
      simp only [List.cons.injEq, and_true] at e0 e1 e2 e3 e4
      simp only [Prod.mk.injEq] at z3
      subst e0 e1 e2 e3 e4
      obtain rfl := z3.1
      have k0' : cs[0]? = some (.int .i64 x0) := k0
      have k1' : cs[1]? = some (.int .i64 x1) := k1
      have k2' : cs[2]? = some (.int .i64 x2) := k2
      have k3' : cs[3]? = some (.string x3) := k3
      have k4' : cs[4]? = some (.int .i64 x4) := k4
      refine ⟨⟨x0, x1, x2, x3, x4⟩, fun i hi => ?_, ys, hys, l3⟩
      rw [hcell i hi]
      unfold itC
      match i, hi with
      | 0, _ => exact k0'
      | 1, _ => exact k1'
      | 2, _ => exact k2'
      | 3, _ => exact k3'
      | 4, _ => exact k4'
    obtain ⟨F, hF⟩ := Go.Deep.choose_lt key
    have hlen : ((List.range len).map F).length = len := by simp
    refine ⟨(List.range len).map F, ⟨some ⟨g, o, none⟩, cap, by rw [hlen], fun _ => ⟨g, o, rfl, hg, fun j hj i hi => ?_⟩⟩, .inr ⟨es, sp, rfl, by rw [hes, hlen], fun j hj => ?_⟩⟩
    · rw [hlen] at hj
      rw [(hF j hj).1 i hi]
      simp
    · rw [hlen] at hj
      obtain ⟨ys, h1, h2⟩ := (hF j hj).2
      exact ⟨ys, h1, by simpa using h2⟩
/-- What the weights say of items that came in. -/
theorem items_reach {H : Type} {l : List It} {d : DataW H} {ts : List TypeId} {ds : List (DataW H)} {j : Nat} (hd : l = [] ∨ ∃ es sp, d = .slice es sp ∧ es.length = l.length ∧ ∀ j (hj : j < l.length), ∃ ys, es[j]? = some (.agg ys) ∧ ys[3]? = some (.lit (.string l[j].d.data.toList)))
    (hw : (DataW.weightsEach Try.prog ts ds).all (· ≤ reachBytes) = true) (ht : ts[j]? = some 33) (hj : ds[j]? = some d) : (∀ j (h : j < l.length), l[j].d.size ≤ 140737488351232) ∧ l.length ≤ 140737488351232 := by
  have e : reachBytes = 140737488351232 := rfl
  rcases hd with rfl | ⟨es, sp, rfl, hlen, hel⟩
  · exact ⟨by simp, by simp⟩
  · refine ⟨fun i hi => ?_, ?_⟩
    · obtain ⟨ys, h1, h2⟩ := hel i hi
      have hn : l[i].d.data.toList.length ∈ (DataW.lit (H := H) (.string l[i].d.data.toList)).weights Try.prog 9 := by simp [DataW.weights]
      have hp := weights_part (P := Try.prog) (e := 32) (i := 3) (f := _) Try.underlying32 rfl h2 hn
      have ha := weights_elem (P := Try.prog) (t := 33) (sp := sp) Try.underlying33 (List.mem_of_getElem? h1) hp
      have := List.all_eq_true.1 hw _ (DataW.weights_mem_each ht hj _ ha)
      simp only [decide_eq_true_eq] at this
      rw [size_len]
      omega
    · have := sized_slice hw ht hj Try.underlying33
      rw [bytes_it] at this
      omega

end Go.Proofs.Ytmbeaagpjpphhaa

namespace Go.Proofs.Ytmbeaagpjpphhaa
open Go Go.RowKit Go.Joins
set_option linter.unusedVariables false

/-- An event that is accepted: of a level, behind the end of those before (ph is 0 if there is none). -/
def AcL (ph at' k f t v a : Int) (n : Nat) (u : Int) : Prop := VeP k f t v a n u ∧ k = 1 ∧ u = 0 ∧ f ≠ t ∧ (v = 0 ∨ v = 1) ∧ (ph = 0 ∨ f = at')
instance (ph at' k f t v a : Int) (n : Nat) (u : Int) : Decidable (AcL ph at' k f t v a n u) := by unfold AcL; exact inferInstance
theorem acL_bool (ph at' k f t v a : Int) (n : Nat) (u : Int) : decide (AcL ph at' k f t v a n u) = (decide (VeP k f t v a n u) && (k == 1 && (u == 0 && (!decide (f = t) && ((v == 0 || v == 1) && (ph == 0 || f == at')))))) := by
  unfold AcL
  by_cases h1 : VeP k f t v a n u <;> by_cases h2 : k = 1 <;> by_cases h3 : u = 0 <;> by_cases h4 : f = t <;> by_cases h5 : v = 0 <;> by_cases h6 : v = 1 <;> by_cases h7 : ph = 0 <;> by_cases h8 : f = at' <;> simp [h1, h2, h3, h4, h5, h6, h7, h8]
theorem acL_ph {ph ph' at' : Int} (h : ph = 0 ↔ ph' = 0) (k f t v a : Int) (n : Nat) (u : Int) : AcL ph at' k f t v a n u ↔ AcL ph' at' k f t v a n u := by
  unfold AcL; rw [h]

theorem acL_bool2 (ph at' k f t v a : Int) (n : Nat) (u : Int) : decide (AcL ph at' k f t v a n u) = (decide (VeP k f t v a n u) && (k == 1 && (u == 0 && ((!decide (t ≤ f)) && ((!decide (v < 0) && !decide (1 < v)) && (ph == 0 || f == at')))))) := by
  by_cases h1 : VeP k f t v a n u
  · have hft := h1.2.2.2.1
    have key : AcL ph at' k f t v a n u ↔ (k = 1 ∧ u = 0 ∧ ¬ t ≤ f ∧ (¬ v < 0 ∧ ¬ 1 < v) ∧ (ph = 0 ∨ f = at')) := by
      unfold AcL
      constructor
      · rintro ⟨_, a1, a2, a3, a4, a5⟩; exact ⟨a1, a2, by omega, by omega, a5⟩
      · rintro ⟨a1, a2, a3, a4, a5⟩; exact ⟨h1, a1, a2, by omega, by omega, a5⟩
    rw [show decide (AcL ph at' k f t v a n u) = decide (k = 1 ∧ u = 0 ∧ ¬ t ≤ f ∧ (¬ v < 0 ∧ ¬ 1 < v) ∧ (ph = 0 ∨ f = at')) from decide_eq_decide.2 key, decide_eq_true h1, Bool.true_and]
    by_cases h2 : k = 1 <;> by_cases h3 : u = 0 <;> by_cases h4 : t ≤ f <;> by_cases h5 : v < 0 <;> by_cases h6 : 1 < v <;> by_cases h7 : ph = 0 <;> by_cases h8 : f = at' <;> simp [h2, h3, h4, h5, h6, h7, h8] <;> (rw [Bool.eq_iff_iff]; simp)
  · have : ¬ AcL ph at' k f t v a n u := fun h => h1 h.1
    simp [h1, this]

theorem box7 (w : World) (S : Array Value) : ∃ W q, W = w.alloc (.cells S 44) ∧ q = w.heap.size ∧ q < W.heap.size ∧ RowAt W q 44 S ∧ Below w.heap.size w W :=
  ⟨_, _, rfl, rfl, by simp only [World.size_alloc]; omega, RowAt.new w _ _, ba w _⟩
theorem held_ev {w0 w w' : World} {b : Nat} {x0 x1 x2 x3 x4 x5 x6 : Value} (h : w.cell? ⟨b, 0, none⟩ = some x0 ∧ w.cell? ⟨b, 1, none⟩ = some x1 ∧ w.cell? ⟨b, 2, none⟩ = some x2 ∧ w.cell? ⟨b, 3, none⟩ = some x3 ∧ w.cell? ⟨b, 4, none⟩ = some x4 ∧ w.cell? ⟨b, 5, none⟩ = some x5 ∧ w.cell? ⟨b, 6, none⟩ = some x6 ∧ b < w.heap.size ∧ Below w0.heap.size w0 w) (hb : Below w.heap.size w w') : w'.cell? ⟨b, 0, none⟩ = some x0 ∧ w'.cell? ⟨b, 1, none⟩ = some x1 ∧ w'.cell? ⟨b, 2, none⟩ = some x2 ∧ w'.cell? ⟨b, 3, none⟩ = some x3 ∧ w'.cell? ⟨b, 4, none⟩ = some x4 ∧ w'.cell? ⟨b, 5, none⟩ = some x5 ∧ w'.cell? ⟨b, 6, none⟩ = some x6 ∧ b < w'.heap.size ∧ Below w0.heap.size w0 w' := by
  obtain ⟨a0, a1, a2, a3, a4, a5, a6, l, B⟩ := h
  have hs := hb.size
  exact ⟨(hb.cell l).trans a0, (hb.cell l).trans a1, (hb.cell l).trans a2, (hb.cell l).trans a3, (hb.cell l).trans a4, (hb.cell l).trans a5, (hb.cell l).trans a6, by omega, B.trans (hb.mono B.size)⟩

end Go.Proofs.Ytmbeaagpjpphhaa

namespace Go.Proofs.Ytmbeaagpjpphhaa
open Go
set_option linter.unusedVariables false

/-- A state: whether there is a last middle, the end of the accepted events, the last middle, the signal; the events so far. -/
structure MN where
  y : Int
  e : Int
  m : Int
  p : Int
  o : List Ev
/-- The signal of a level, and the level of a signal. -/
def sgI (z : Bool) (v : Int) : Int := if z = true then v else 1 - v
theorem sg_sg (z : Bool) (v : Int) : sgI z (sgI z v) = v := by unfold sgI; cases z <;> simp <;> omega
theorem sg_not (z : Bool) (v : Int) : sgI (!z) (1 - v) = sgI z v := by unfold sgI; cases z <;> simp <;> omega
theorem sg_bit (z : Bool) {v : Int} (h : v = 0 ∨ v = 1) : sgI z v = 0 ∨ sgI z v = 1 := by unfold sgI; cases z <;> simp <;> omega
/-- The event of a bit. -/
def bnE (N D m t v : Int) : Ev := ⟨2, m + smI N D 0, t, if 5 * N < 4 * (t - m) * D then 0 else v, 0, [], if 5 * N < 4 * (t - m) * D then 5 else 0⟩
/-- An edge at t, when there is a last middle or not (idle: what becomes of y when a falling edge is too late). -/
def edG (q : Int) (N D y m t v : Int) : Int × Int × List Ev :=
  if y = 0 ∨ 2 * N ≤ (t - m) * D then (if v = 1 then (1, t, []) else (q, m, []))
  else if 4 * (t - m) * D < 3 * N then (y, m, [])
  else (y, t, [bnE N D m t v])
abbrev AcN (s : MN) (e : Ev) : Prop := AcL s.e s.e e.k e.f e.t e.v e.a e.d.length e.u
/-- The program's step. -/
def mnS (z : Bool) (N D : Int) (s : MN) (e : Ev) : MN :=
  if AcN s e then (if sgI z e.v = s.p then ⟨s.y, e.t, s.m, s.p, s.o⟩ else ⟨(edG s.y N D s.y s.m e.f (sgI z e.v)).1, e.t, (edG s.y N D s.y s.m e.f (sgI z e.v)).2.1, sgI z e.v, s.o ++ (edG s.y N D s.y s.m e.f (sgI z e.v)).2.2⟩) else s
/-- The specification's step. -/
def rnS (z : Bool) (N D : Int) (s : MN) (e : Ev) : MN :=
  if AcN s e then (if sgI z e.v = s.p then ⟨s.y, e.t, s.m, s.p, s.o⟩ else ⟨(edG 0 N D s.y s.m e.f (sgI z e.v)).1, e.t, (edG 0 N D s.y s.m e.f (sgI z e.v)).2.1, sgI z e.v, s.o ++ (edG 0 N D s.y s.m e.f (sgI z e.v)).2.2⟩) else s
abbrev MN.zero : MN := ⟨0, 0, 0, 0, []⟩
def mnR (z : Bool) (N D : Int) (l : List Ev) : MN := l.foldl (mnS z N D) MN.zero
def rnR (z : Bool) (N D : Int) (l : List Ev) : MN := l.foldl (rnS z N D) MN.zero
theorem mnR_snoc (z : Bool) (N D : Int) {l : List Ev} {j : Nat} (hj : j < l.length) : mnR z N D (l.take (j + 1)) = mnS z N D (mnR z N D (l.take j)) l[j] := by
  unfold mnR
  rw [List.take_succ_eq_append_getElem hj, List.foldl_append]
  rfl
theorem rnR_snoc (z : Bool) (N D : Int) {l : List Ev} {j : Nat} (hj : j < l.length) : rnR z N D (l.take (j + 1)) = rnS z N D (rnR z N D (l.take j)) l[j] := by
  unfold rnR
  rw [List.take_succ_eq_append_getElem hj, List.foldl_append]
  rfl
theorem edG_one (q N D y m t v : Int) : (edG q N D y m t v).2.2.length ≤ 1 := by
  unfold edG
  split
  · split <;> simp
  · split <;> simp
theorem mnS_parts (z : Bool) (N D y e0 m p : Int) (o : List Ev) (e : Ev) : mnS z N D ⟨y, e0, m, p, o⟩ e = ⟨(mnS z N D ⟨y, e0, m, p, []⟩ e).y, (mnS z N D ⟨y, e0, m, p, []⟩ e).e, (mnS z N D ⟨y, e0, m, p, []⟩ e).m, (mnS z N D ⟨y, e0, m, p, []⟩ e).p, o ++ (mnS z N D ⟨y, e0, m, p, []⟩ e).o⟩ := by
  unfold mnS
  by_cases h : AcL e0 e0 e.k e.f e.t e.v e.a e.d.length e.u
  · by_cases h2 : sgI z e.v = p <;> simp [h, h2]
  · simp [h]
theorem rnS_parts (z : Bool) (N D y e0 m p : Int) (o : List Ev) (e : Ev) : rnS z N D ⟨y, e0, m, p, o⟩ e = ⟨(rnS z N D ⟨y, e0, m, p, []⟩ e).y, (rnS z N D ⟨y, e0, m, p, []⟩ e).e, (rnS z N D ⟨y, e0, m, p, []⟩ e).m, (rnS z N D ⟨y, e0, m, p, []⟩ e).p, o ++ (rnS z N D ⟨y, e0, m, p, []⟩ e).o⟩ := by
  unfold rnS
  by_cases h : AcL e0 e0 e.k e.f e.t e.v e.a e.d.length e.u
  · by_cases h2 : sgI z e.v = p <;> simp [h, h2]
  · simp [h]
theorem mnS_one (z : Bool) (N D y e0 m p : Int) (e : Ev) : (mnS z N D ⟨y, e0, m, p, []⟩ e).o.length ≤ 1 := by
  unfold mnS
  split
  · split
    · simp
    · simpa using edG_one y N D y m e.f (sgI z e.v)
  · simp
theorem rnS_one (z : Bool) (N D y e0 m p : Int) (e : Ev) : (rnS z N D ⟨y, e0, m, p, []⟩ e).o.length ≤ 1 := by
  unfold rnS
  split
  · split
    · simp
    · simpa using edG_one 0 N D y m e.f (sgI z e.v)
  · simp
/-- What holds of every state that is reached. -/
structure RcN (s : MN) : Prop where
  y : s.y = 0 ∨ s.y = 1
  m : 0 ≤ s.m ∧ s.m ≤ s.e
  e : s.e ≤ 1099511627776
  p : s.p = 0 ∨ s.p = 1
theorem acN_bd {s : MN} {e : Ev} (hs : RcN s) (h : AcN s e) : s.e ≤ e.f ∧ e.f < e.t ∧ e.t ≤ 1099511627776 ∧ (e.v = 0 ∨ e.v = 1) := by
  have h1 := hs.m; have h2 := hs.e
  obtain ⟨⟨_, _, a0, a1, a2, _⟩, _, _, a3, a4, a5⟩ := h
  exact ⟨by omega, by omega, a2, a4⟩
theorem edG_rc {q N D y m t v : Int} (hq : q = 0 ∨ q = 1) (hy : y = 0 ∨ y = 1) (hm : 0 ≤ m ∧ m ≤ t) : ((edG q N D y m t v).1 = 0 ∨ (edG q N D y m t v).1 = 1) ∧ 0 ≤ (edG q N D y m t v).2.1 ∧ (edG q N D y m t v).2.1 ≤ t := by
  unfold edG
  split
  · split
    · exact ⟨.inr rfl, by simp only; omega, by simp⟩
    · exact ⟨hq, hm.1, hm.2⟩
  · split
    · exact ⟨hy, hm.1, hm.2⟩
    · exact ⟨hy, by simp only; omega, by simp⟩
theorem rcN_step {z : Bool} {N D : Int} {s : MN} (hs : RcN s) (e : Ev) : RcN (mnS z N D s e) ∧ RcN (rnS z N D s e) := by
  unfold mnS rnS
  by_cases h : AcN s e
  · obtain ⟨a0, a1, a2, a3⟩ := acN_bd hs h
    rw [if_pos h, if_pos h]
    have hm := hs.m
    by_cases h2 : sgI z e.v = s.p
    · rw [if_pos h2, if_pos h2]
      exact ⟨⟨hs.y, ⟨hm.1, by simp only; omega⟩, a2, hs.p⟩, ⟨hs.y, ⟨hm.1, by simp only; omega⟩, a2, hs.p⟩⟩
    · rw [if_neg h2, if_neg h2]
      obtain ⟨b0, b1, b2⟩ := edG_rc (N := N) (D := D) (v := sgI z e.v) hs.y hs.y (t := e.f) ⟨hm.1, by omega⟩
      obtain ⟨c0, c1, c2⟩ := edG_rc (N := N) (D := D) (v := sgI z e.v) (.inl rfl : (0 : Int) = 0 ∨ (0 : Int) = 1) hs.y (t := e.f) (m := s.m) ⟨hm.1, by omega⟩
      exact ⟨⟨b0, ⟨b1, by simp only; omega⟩, a2, sg_bit z a3⟩, ⟨c0, ⟨c1, by simp only; omega⟩, a2, sg_bit z a3⟩⟩
  · rw [if_neg h, if_neg h]; exact ⟨hs, hs⟩
theorem rcN_zero : RcN MN.zero := ⟨.inl rfl, ⟨Int.le_refl _, Int.le_refl _⟩, by decide, .inl rfl⟩
theorem rcN_fold {z : Bool} {N D : Int} (l : List Ev) (s : MN) (hs : RcN s) : RcN (l.foldl (mnS z N D) s) := by
  induction l generalizing s with
  | nil => exact hs
  | cons e l ih => exact ih _ (rcN_step hs e).1
theorem rcN_all (z : Bool) (N D : Int) (l : List Ev) : RcN (mnR z N D l) := rcN_fold l _ rcN_zero
theorem rcN_foldR {z : Bool} {N D : Int} (l : List Ev) (s : MN) (hs : RcN s) : RcN (l.foldl (rnS z N D) s) := by
  induction l generalizing s with
  | nil => exact hs
  | cons e l ih => exact ih _ (rcN_step hs e).2
theorem rcN_allR (z : Bool) (N D : Int) (l : List Ev) : RcN (rnR z N D l) := rcN_foldR l _ rcN_zero
theorem mnR_len (z : Bool) (N D : Int) (l : List Ev) : (mnR z N D l).o.length ≤ l.length := by
  unfold mnR
  suffices h : ∀ (l : List Ev) (s : MN), (l.foldl (mnS z N D) s).o.length ≤ s.o.length + l.length by simpa using h l MN.zero
  intro l
  induction l with
  | nil => intro s; simp
  | cons e l ih =>
    intro s
    rw [List.foldl_cons]
    have h1 := ih (mnS z N D s e)
    have h2 := mnS_one z N D s.y s.e s.m s.p e
    have h3 := mnS_parts z N D s.y s.e s.m s.p s.o e
    rw [h3] at h1
    rw [show mnS z N D s e = mnS z N D ⟨s.y, s.e, s.m, s.p, s.o⟩ e from rfl, h3]
    simp only [List.length_append, List.length_cons] at h1 ⊢
    omega
theorem rnR_len (z : Bool) (N D : Int) (l : List Ev) : (rnR z N D l).o.length ≤ l.length := by
  unfold rnR
  suffices h : ∀ (l : List Ev) (s : MN), (l.foldl (rnS z N D) s).o.length ≤ s.o.length + l.length by simpa using h l MN.zero
  intro l
  induction l with
  | nil => intro s; simp
  | cons e l ih =>
    intro s
    rw [List.foldl_cons]
    have h1 := ih (rnS z N D s e)
    have h2 := rnS_one z N D s.y s.e s.m s.p e
    have h3 := rnS_parts z N D s.y s.e s.m s.p s.o e
    rw [h3] at h1
    rw [show rnS z N D s e = rnS z N D ⟨s.y, s.e, s.m, s.p, s.o⟩ e from rfl, h3]
    simp only [List.length_append, List.length_cons] at h1 ⊢
    omega
/-- Both states belong together. -/
structure RelN (N D : Int) (a b : MN) : Prop where
  e : a.e = b.e
  p : a.p = b.p
  o : a.o = b.o
  m : (a.y = b.y ∧ a.m = b.m) ∨ (b.y = 0 ∧ 2 * N ≤ (a.e - a.m) * D)
theorem relN_step {z : Bool} {N D : Int} (hD : 1 ≤ D) {a b : MN} (ha : RcN a) (h : RelN N D a b) (e : Ev) : RelN N D (mnS z N D a e) (rnS z N D b e) := by
  have mono : ∀ x y : Int, x ≤ y → (x - a.m) * D ≤ (y - a.m) * D := fun x y hxy => Int.mul_le_mul_of_nonneg_right (by omega) (by omega)
  unfold mnS rnS
  by_cases hA : AcN a e
  · obtain ⟨a0, a1, a2, a3⟩ := acN_bd ha hA
    have hB : AcN b e := by unfold AcN at *; rw [← h.e]; exact hA
    rw [if_pos hA, if_pos hB, ← h.p, ← h.o]
    by_cases h2 : sgI z e.v = a.p
    · rw [if_pos h2, if_pos h2]
      refine ⟨rfl, rfl, rfl, ?_⟩
      rcases h.m with h3 | ⟨h3, h4⟩
      · exact .inl h3
      · exact .inr ⟨h3, Int.le_trans h4 (mono _ _ (by simp only; omega))⟩
    · rw [if_neg h2, if_neg h2]
      unfold edG
      rcases h.m with ⟨h3, h4⟩ | ⟨h3, h4⟩
      · rw [← h3, ← h4]
        by_cases h5 : a.y = 0 ∨ 2 * N ≤ (e.f - a.m) * D
        · rw [if_pos h5, if_pos h5]
          by_cases h6 : sgI z e.v = 1
          · rw [if_pos h6, if_pos h6]; exact ⟨rfl, rfl, rfl, .inl ⟨rfl, rfl⟩⟩
          · rw [if_neg h6, if_neg h6]
            refine ⟨rfl, rfl, rfl, ?_⟩
            rcases h5 with h5 | h5
            · exact .inl ⟨h5, rfl⟩
            · exact .inr ⟨rfl, Int.le_trans h5 (mono _ _ (by simp only; omega))⟩
        · rw [if_neg h5, if_neg h5]
          by_cases h6 : 4 * (e.f - a.m) * D < 3 * N
          · rw [if_pos h6]; exact ⟨rfl, rfl, rfl, .inl ⟨rfl, rfl⟩⟩
          · rw [if_neg h6]; exact ⟨rfl, rfl, rfl, .inl ⟨rfl, rfl⟩⟩
      · have h5 : 2 * N ≤ (e.f - a.m) * D := Int.le_trans h4 (mono _ _ a0)
        rw [if_pos (show a.y = 0 ∨ 2 * N ≤ (e.f - a.m) * D from .inr h5), if_pos (show b.y = 0 ∨ 2 * N ≤ (e.f - b.m) * D from .inl h3)]
        by_cases h6 : sgI z e.v = 1
        · rw [if_pos h6, if_pos h6]; exact ⟨rfl, rfl, rfl, .inl ⟨rfl, rfl⟩⟩
        · rw [if_neg h6, if_neg h6]
          exact ⟨rfl, rfl, rfl, .inr ⟨rfl, Int.le_trans h5 (mono _ _ (by simp only; omega))⟩⟩
  · have hB : ¬ AcN b e := by unfold AcN at *; rw [← h.e]; exact hA
    rw [if_neg hA, if_neg hB]; exact h
theorem relN_fold {z : Bool} {N D : Int} (hD : 1 ≤ D) (l : List Ev) (a b : MN) (ha : RcN a) (h : RelN N D a b) : RelN N D (l.foldl (mnS z N D) a) (l.foldl (rnS z N D) b) := by
  induction l generalizing a b with
  | nil => exact h
  | cons e l ih => exact ih _ _ (rcN_step ha e).1 (relN_step hD ha h e)
theorem relN_all (z : Bool) {N D : Int} (hD : 1 ≤ D) (l : List Ev) : RelN N D (mnR z N D l) (rnR z N D l) := relN_fold hD l _ _ rcN_zero ⟨rfl, rfl, rfl, .inl ⟨rfl, rfl⟩⟩
/-- The bits of one event are the same. -/
theorem relN_out (z : Bool) {N D : Int} (hD : 1 ≤ D) {l : List Ev} {j : Nat} (hj : j < l.length) :
    (mnS z N D ⟨(mnR z N D (l.take j)).y, (mnR z N D (l.take j)).e, (mnR z N D (l.take j)).m, (mnR z N D (l.take j)).p, []⟩ l[j]).o = (rnS z N D ⟨(rnR z N D (l.take j)).y, (rnR z N D (l.take j)).e, (rnR z N D (l.take j)).m, (rnR z N D (l.take j)).p, []⟩ l[j]).o := by
  have h := relN_all z hD (l.take j) (N := N)
  have := relN_step (z := z) hD (a := ⟨(mnR z N D (l.take j)).y, (mnR z N D (l.take j)).e, (mnR z N D (l.take j)).m, (mnR z N D (l.take j)).p, []⟩) (b := ⟨(rnR z N D (l.take j)).y, (rnR z N D (l.take j)).e, (rnR z N D (l.take j)).m, (rnR z N D (l.take j)).p, []⟩) ?_ ⟨h.e, h.p, rfl, h.m⟩ l[j]
  · exact this.o
  · have := rcN_all z N D (l.take j)
    exact ⟨this.y, this.m, this.e, this.p⟩

end Go.Proofs.Ytmbeaagpjpphhaa
