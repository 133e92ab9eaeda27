/-
  slices.AppendSeq, Collect and Sorted over slices.Values.
-/
import Derived.Test.YtcodoakfomddfaaT15
import Derived.Test.YtcodoakfomddfaaR3
namespace Go.Proofs.Ytcodoakfomddfaa
open Go Go.RowKit Go.Joins Go.Shelf
set_option linter.unusedVariables false
set_option linter.unusedSimpArgs false

attribute [local go_sem] Oper.semAt_some

/-- Between two rounds. -/
def apI (w : World) (pre : List Int) (W : World) : Prop := (∃ v, Boxed W w.heap.size 35 v ∧ TkRow W w.heap.size v pre) ∧ Below w.heap.size w W
theorem krow_kept {α : Type} {enc : α → Array Value} {k : Nat} {T : TypeId} {A A' : World} {B : Nat} {v : Value} {l : List α} {row : Option Nat} (h : KRow enc k T A B v l) (hg : A.grownBy A' row) (hr : ∀ r, row = some r → ∃ o : Obj, A.heap[r]? = some o ∧ o.isCells = false) : KRow enc k T A' B v l := by
  refine ⟨h.1, h.2.imp id fun ⟨g, cap, cur, e, h1, h2, h3⟩ => ⟨g, cap, cur, e, h1, ?_, h3⟩⟩
  rw [hg.block g (Array.getElem?_eq_some_iff.1 h2).1 ?_]; exact h2
  intro e
  obtain ⟨o, ho, hc⟩ := hr g e.symm
  rw [h2] at ho
  cases ho
  cases hc
theorem boxed_kept {A A' : World} {b : Nat} {T : TypeId} {v : Value} {row : Option Nat} (h : Boxed A b T v) (hg : A.grownBy A' row) (hr : ∀ r, row = some r → ∃ o : Obj, A.heap[r]? = some o ∧ o.isCells = false) : Boxed A' b T v :=
  h.kept hg (fun e => by obtain ⟨o, ho, hc⟩ := hr b e.symm; rw [show A.heap[b]? = _ from h] at ho; cases ho; cases hc)
theorem apI_own (w : World) (B : Nat) (hB : w.heap.size ≤ B) : OwnFrom B (apI w) := fun s A A' row hs hg hr => by
  obtain ⟨⟨v, h1, h2⟩, h3⟩ := hs
  have hr' := fun r e => (hr r e).2
  exact ⟨⟨v, boxed_kept h1 hg hr', krow_kept h2 hg hr'⟩, h3.grown hg h3.size (fun k e => Nat.le_trans hB (hr k e).1)⟩

set_option maxRecDepth 100000 in
set_option maxHeartbeats 4000000 in
theorem appendSeq_in (m : Nat) (hm : 3 ≤ m) (Bs : Nat) (sv : Value) (zs : List Int) (hlen : zs.length ≤ 1099511627776) (w : World) (hBs : Bs < w.heap.size) (hc : w.cell? ⟨Bs, 0, none⟩ = some sv) (hI : TkArg w sv zs) :
    CallsIn Fence.wide m Try.prog 58 #[.slice none 0 0, .func (.func 50) #[] #[.pointer (some ⟨Bs, 0, none⟩)]] w fun e w' => ∃ v, e = .returned v ∧ TkRow w' w.heap.size v zs ∧ Below w.heap.size w w' := by
  obtain ⟨i0, hi, hz0, hz1, hz2⟩ := info_parts int_info
  refine callsIn_of_wp_marks Try.func58 rfl trivial ?_ rfl
  simp only [Try.ntmps58, List.size_toArray, List.length_cons, List.length_nil, Nat.reduceAdd, Nat.reduceSub, Array.replicate_succ, Array.replicate_zero, List.push_toArray, List.append_toArray, List.nil_append, List.cons_append]
  gi_wp2
  have hb0 : Below w.heap.size w (w.alloc (.cells #[.slice none 0 0] 35)) := ba w _
  have bx0 := Boxed.new w 35 (.slice none 0 0)
  have hs0 : (w.alloc (.cells #[.slice none 0 0] 35)).heap.size = w.heap.size + 1 := World.size_alloc _ _
  generalize w.alloc (.cells #[.slice none 0 0] 35) = W0 at *
  refine wpIn_rangeFunc_ownF rfl (by omega) (gf := 50) (lb := #[.pointer (some ⟨Bs, 0, none⟩)]) rfl trivial (enters_of Try.func50 (by kernel_rfl) rfl)
    (values_stops (m - 1) (by omega) Bs sv zs hlen w hBs hc hI) (fun h k => belowK_t h k) (fun W l o o' h1 h2 h3 h4 => belowK_b (w := W0) (by omega) W l o o' h1 h2 h3 h4) hb0 (fun _ => rfl)
    (apI w) (fun _ _ _ => False) (apI_own w _ (by omega)) (fun _ _ _ _ _ hs _ _ => hs) ⟨⟨_, bx0, KRow.nil _ _⟩, hb0⟩
    (fun x => { tmps := #[.slice none 0 0, .func (.func 50) #[] #[.pointer (some ⟨Bs, 0, none⟩)], .pointer (some ⟨w.heap.size, 0, none⟩), undef, .slice none 0 0, .int .i64 x, .func (.func 50) #[] #[.pointer (some ⟨Bs, 0, none⟩)], .int .i64 x, undef, undef, undef, undef, undef], defers := [] }) ?assign ?body ?done ?stop
  case assign =>
    intro l x W K hK
    gi_wp2
    exact hK
  case body =>
    rintro l pre x W ⟨⟨v, hv, hrow⟩, hB⟩ hpl
    have hvc := hv.cell
    have hle := hB.size
    gi_wp2_with (gi_at_builtin; refine wpListIn_append_own _ rfl _ _ 35 rfl w.heap.size 3 i0 (.int .i64 0) 1 8 Try.underlying35 hi hz0 hz1 hz2 rfl (by decide) _ _ _ rfl (World.ownsRow.alloc hrow _) ⟨W.heap.size, 0, none⟩ 1 1 [.int .i64 x] rfl rfl (cell_one_new _ _ _) (by simp [Value.oneCell']) (by simp only [maxLen]; omega) (by omega) (by rw [World.size_alloc]; omega) ?_; intro v' w1 hown' hgrow _; obtain ⟨g', cap', rfl⟩ := ownsRow_succ hown'; obtain ⟨hv1, hv2, hr2, hk2, hb2⟩ := hv.appended (by decide) hrow hle (Nat.le_refl _) hown' hgrow; have hc1 := hv1.cell; have hf1 := hv1.frozen)
    refine ⟨hk2, hb2, ⟨_, hv2, ?_⟩, hB.trans hb2⟩
    unfold TkRow KRow
    rw [List.length_append, kCs_snoc]
    exact hr2
  case done =>
    rintro D ys W hD rfl ⟨⟨v, hv, hrow⟩, hB⟩ hK
    have hvc := hv.cell
    obtain ⟨A, N, c, rfl, hN⟩ := hrow.form
    clear hN
    gi_wp2
    refine ⟨by simp, .inl ⟨_, _, rfl, run_takeDeferred hK, ?_⟩⟩
    exact ⟨_, results_tmp rfl _ _ _, .slice A N c, rfl, ownsRow_putObj hrow _ hK rfl, hB.trans (belowK_b (w := w) (Nat.le_refl _) W D _ _ (by omega) hK rfl rfl)⟩
  case stop =>
    rintro D c pre W _ _ h _
    exact h.elim

set_option maxHeartbeats 1000000 in
theorem collect_any (Bs : Nat) (sv : Value) (zs : List Int) (hlen : zs.length ≤ 1099511627776) (w : World) (hBs : Bs < w.heap.size) (hc : w.cell? ⟨Bs, 0, none⟩ = some sv) (hI : TkArg w sv zs) :
    Calls Try.prog 48 #[.func (.func 50) #[] #[.pointer (some ⟨Bs, 0, none⟩)]] w fun e w' => ∃ v, e = .returned v ∧ TkRow w' w.heap.size v zs ∧ Below w.heap.size w w' := by
  have CA := Lib.hid ((callsIn_wide (n := 3)).1 (appendSeq_in 3 (by omega) Bs sv zs hlen w hBs hc hI))
  clear hc
  go_enter Try.func48, Try.ntmps48
  go_wp2_with (go_at_call 58; refine CA.out.mono ?_; rintro e w' ⟨v, rfl, hr, hb⟩; obtain ⟨A, N, c, rfl, hN⟩ := hr.form; clear hN)
  go_returns
  exact ⟨_, rfl, hr, hb⟩

theorem TkRow.sorted {w : World} {B g n c q : Nat} {zs ts : List Int} {os : Array Obj} (h : TkRow w B (.slice (some ⟨g, 0, none⟩) n c) zs) (hl : ts.length = zs.length) :
    TkRow (Sort.grow (Sort.putRow encZ (Sort.ahead w q) g 0 ts.toArray) os) B (.slice (some ⟨g, 0, none⟩) n c) ts ∧ Below B w (Sort.grow (Sort.putRow encZ (Sort.ahead w q) g 0 ts.toArray) os) := by
  rcases h.2 with ⟨h', _⟩ | ⟨g', cap', cur, h', hB, hg, hnc, hcm, hcs, htake⟩
  · simp at h'
  simp only [Value.slice.injEq, Option.some.injEq, Addr.mk.injEq, and_true] at h'
  obtain ⟨rfl, hN, rfl⟩ := h'
  refine ⟨?_, (Below.refl _ _).grown (grownBy_sorted_i ts.toArray) (by have := (Array.getElem?_eq_some_iff.1 hg).1; omega) (fun k e => by cases e; exact hB)⟩
  unfold TkRow KRow
  rw [kCs_tk, hl, hN]
  exact ownsRow_sorted_i hl hB hg hnc hcm hcs
theorem TkRow.holds {w : World} {B g n c : Nat} {zs : List Int} (h : TkRow w B (.slice (some ⟨g, 0, none⟩) n c) zs) : Sort.Holds (Value.int .i64) w g 0 zs.toArray := fun j hj => by
  have hj' : j < zs.length := by simpa using hj
  refine ⟨?_, h.frozen _⟩
  have := h.cell tkC_size j hj' 0 (by omega)
  rw [show j * 1 + 0 = 0 + j by omega] at this
  rw [this]
  simp [tkC, hj']

set_option maxHeartbeats 2000000 in
theorem sorted_any (Bs : Nat) (sv : Value) (zs : List Int) (hlen : zs.length ≤ 1099511627776) (w : World) (hBs : Bs < w.heap.size) (hc : w.cell? ⟨Bs, 0, none⟩ = some sv) (hI : TkArg w sv zs) :
    Calls Try.prog 34 #[.func (.func 50) #[] #[.pointer (some ⟨Bs, 0, none⟩)]] w fun e w' => ∃ v, e = .returned v ∧ TkRow w' w.heap.size v (srt zs) ∧ Below w.heap.size w w' := by
  have CA := Lib.hid (collect_any Bs sv zs hlen w hBs hc hI)
  clear hc
  go_enter Try.func34, Try.ntmps34
  by_cases h0 : 0 < zs.length
  · go_wp2_with (first
      | (go_at_call 48; refine CA.out.mono ?_; rintro e w' ⟨v, rfl, hr, hb⟩; obtain ⟨g, c, rfl⟩ := hr.full h0; have hgl := (hr.lt g rfl).2)
      | (go_at_call 49; refine (Try.slices_Sort_int g 0 c zs w' hr.holds hgl (by omega)).mono ?_; rintro e w5 ⟨rfl, q, os, rfl⟩))
    go_returns
    obtain ⟨r1, r2⟩ := TkRow.sorted (q := q) (os := os) hr (srt_len zs)
    exact ⟨_, rfl, r1, hb.trans r2⟩
  · obtain rfl : zs = [] := List.eq_nil_of_length_eq_zero (by omega)
    go_wp2_with (first
      | (go_at_call 48; refine CA.out.mono ?_; rintro e w' ⟨v, rfl, hr, hb⟩; obtain ⟨A, N, c, rfl, hN⟩ := hr.form; obtain rfl : N = 0 := hN)
      | (go_at_call 49; refine (Try.slices_Sort_int_none A c w').mono ?_; rintro e w5 ⟨rfl, rfl⟩))
    go_returns
    exact ⟨.slice A 0 c, rfl, by rw [show srt [] = [] by simp [srt]]; exact hr, hb⟩

end Go.Proofs.Ytcodoakfomddfaa
