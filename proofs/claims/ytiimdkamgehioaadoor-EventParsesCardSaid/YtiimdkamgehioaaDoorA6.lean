/-
  The walks of small, times and Same over events.
-/
import Derived.Test.YtiimdkamgehioaaDoorA1
import Derived.Test.YtiimdkamgehioaaDoorA5
import Derived.Deep.QuietTactic
import Derived.BigQuiet
namespace Go.Proofs.YtiimdkamgehioaaDoor
open Go Go.RowKit Go.Joins
set_option linter.unusedVariables false
set_option linter.unusedSimpArgs false

theorem arg_seven {w : World} {g o : Nat} {l : List Ev} (h : ∀ j (hj : j < l.length) i, i < 7 → w.cell? ⟨g, o + j * 7 + i, none⟩ = (evC l[j])[i]?) (j : Nat) (hj : j < l.length) :
    w.cell? ⟨g, o + j * 7, none⟩ = some (.int .i64 l[j].k) ∧ w.cell? ⟨g, o + j * 7 + 1, none⟩ = some (.int .i64 l[j].f) ∧ w.cell? ⟨g, o + j * 7 + 2, none⟩ = some (.int .i64 l[j].t) ∧ w.cell? ⟨g, o + j * 7 + 3, none⟩ = some (.int .i64 l[j].v) ∧ w.cell? ⟨g, o + j * 7 + 4, none⟩ = some (.int .i64 l[j].a) ∧ w.cell? ⟨g, o + j * 7 + 5, none⟩ = some (.string ⟨l[j].d.toArray⟩) ∧ w.cell? ⟨g, o + j * 7 + 6, none⟩ = some (.int .i64 l[j].u) :=
  ⟨h j hj 0 (by omega), h j hj 1 (by omega), h j hj 2 (by omega), h j hj 3 (by omega), h j hj 4 (by omega), h j hj 5 (by omega), h j hj 6 (by omega)⟩
theorem elem_eqF (x y : Ev) : eqF x.k x.f x.t x.v x.a ⟨x.d.toArray⟩ x.u y.k y.f y.t y.v y.a ⟨y.d.toArray⟩ y.u = decide (x = y) := eqF_iff _ _ _ _ _ _ _ _ _ _ _ _ _ _

def smE (l : List Ev) : Bool := decide (l.length ≤ 40) && l.all fun e => decide (e.d.length ≤ 300)
theorem smE_iff (l : List Ev) : smE l = true ↔ l.length ≤ 40 ∧ ∀ j (h : j < l.length), l[j].d.length ≤ 300 := by
  unfold smE
  simp only [Bool.and_eq_true, decide_eq_true_eq, List.all_eq_true]
  refine and_congr Iff.rfl ⟨fun h j hj => h _ (List.getElem_mem hj), fun h e he => ?_⟩
  obtain ⟨j, hj, rfl⟩ := List.mem_iff_getElem.1 he
  exact h j hj

set_option maxRecDepth 20000 in
set_option maxHeartbeats 2000000 in
theorem small_any (l : List Ev) (V : Value) (w : World) (h1 : EvArg w V l) (hl : l.length ≤ 140737488351232) (hd : ∀ j (h : j < l.length), l[j].d.length ≤ 140737488351232) :
    Calls Tryd.prog 17 #[V] w fun e w' => e = .returned (.bool (smE l)) ∧ w' = w := by
  obtain ⟨A1, c1, rfl, h1⟩ := h1
  have H1 := Lib.hid h1; have HD := Lib.hid hd
  have hs := Lib.hid (smE_iff l)
  generalize smE l = R at *
  clear h1 hd
  have hl' : (l.length : Int) ≤ 140737488351232 := by omega
  by_cases h40 : 40 < l.length
  · have hR : R = false := by
      cases R
      · rfl
      · exact absurd (hs.out.1 rfl).1 (by omega)
    subst hR
    have h40' : (40 : Int) < l.length := by omega
    go_enter Tryd.func17, Tryd.ntmps17
    go_wp2
    go_returns
    exact ⟨rfl, rfl⟩
  · have h40' : (l.length : Int) ≤ 40 := by omega
    go_enter Tryd.func17, Tryd.ntmps17
    go_wp2
    go_loopw [3] (fun x wr => ∃ (k : Nat), k ≤ l.length ∧ x = .int .i64 k ∧ wr = w ∧ Hid (∀ j (h : j < l.length), j < k → l[j].d.length ≤ 300)) (fun x _ => l.length - (intOf x).toNat)
    case atStart => exact ⟨0, by omega, rfl, by trivial, Lib.hid (fun j _ h => by omega)⟩
    case round =>
      obtain ⟨k, hk, rfl, rfl, HZ⟩ := hrel
      by_cases hlt : k < l.length
      · obtain ⟨g1, o1, rfl, hg1, hc1⟩ := H1.out (by omega)
        have a5 := (arg_seven hc1 k hlt).2.2.2.2.2.1
        have d0 := HD.out k hlt
        clear hc1
        have hsz : (⟨l[k].d.toArray⟩ : ByteArray).size = l[k].d.length := size_mk _
        generalize (⟨l[k].d.toArray⟩ : ByteArray) = s at *
        by_cases hb : l[k].d.length ≤ 300
        · have hb' : (s.size : Int) ≤ 300 := by omega
          have HB := Lib.hid hb
          clear hsz hb d0
          go_wp2
          go_roundw
          case rel => exact ⟨k + 1, by omega, by go_num, by trivial, Lib.hid (fun j hj hk => by
            by_cases e : j = k
            · subst e; exact HB.out
            · exact HZ.out j hj (by omega))⟩
          case measure => simp [intOf]; omega
        · have hb' : (300 : Int) < s.size := by omega
          have hb2 : (s.size : Int) ≤ 140737488351232 := by omega
          have hR : R = false := by
            cases R
            · rfl
            · exact absurd ((hs.out.1 rfl).2 k hlt) (by omega)
          subst hR
          clear hsz hb d0
          go_wp2
          go_returns
          exact ⟨rfl, rfl⟩
      · have hR : R = true := hs.out.2 ⟨by omega, fun j hj => HZ.out j hj (by omega)⟩
        subst hR
        go_wp2
        go_returns
        exact ⟨rfl, rfl⟩

set_option maxRecDepth 20000 in
set_option maxHeartbeats 2000000 in
theorem same_any (l : List Ev) (V V' : Value) (w : World) (h1 : EvArg w V l) (h2 : EvArg w V' l) (hl : l.length ≤ 1099511627776) :
    Calls Tryd.prog 20 #[V, V'] w fun e w' => e = .returned (.bool true) ∧ Below w.heap.size w w' := by
  obtain ⟨A1, c1, rfl, h1⟩ := h1
  obtain ⟨A2, c2, rfl, h2⟩ := h2
  have H1 := Lib.hid h1; have H2 := Lib.hid h2
  have hl' : (l.length : Int) ≤ 1099511627776 := by omega
  clear h1 h2
  go_enter Tryd.func20, Tryd.ntmps20
  go_wp2
  go_loopw [5] (fun x wr => ∃ (k m : Nat), k ≤ l.length ∧ x = .int .i64 k ∧ wr = w.drewN m) (fun x _ => l.length - (intOf x).toNat)
  case atStart => exact ⟨0, 0, by omega, rfl, rfl⟩
  case round =>
    obtain ⟨k, m, hk, rfl, rfl⟩ := hrel
    by_cases hlt : k < l.length
    · obtain ⟨g1, o1, rfl, hg1, hc1⟩ := H1.out (by omega)
      obtain ⟨g2, o2, rfl, hg2, hc2⟩ := H2.out (by omega)
      obtain ⟨a0, a1, a2, a3, a4, a5, a6⟩ := arg_seven hc1 k hlt
      obtain ⟨b0, b1, b2, b3, b4, b5, b6⟩ := arg_seven hc2 k hlt
      have Q := fun W => neq_ev l[k].k l[k].f l[k].t l[k].v l[k].a ⟨l[k].d.toArray⟩ l[k].u l[k].k l[k].f l[k].t l[k].v l[k].a ⟨l[k].d.toArray⟩ l[k].u W
      rw [elem_eqF, decide_eq_true rfl] at Q
      clear hc1 hc2
      generalize (⟨l[k].d.toArray⟩ : ByteArray) = x5 at *
      generalize l[k].k = x0 at *
      generalize l[k].f = x1 at *
      generalize l[k].t = x2 at *
      generalize l[k].v = x3 at *
      generalize l[k].a = x4 at *
      generalize l[k].u = x6 at *
      go_wp2
      go_quiet (fail)
      go_wp2
      go_roundw
      case rel => exact ⟨k + 1, m + nq, by omega, by go_num, rfl⟩
      case measure => simp [intOf]; omega
    · go_wp2
      go_returns
      exact ⟨rfl, Go.below_drewN (Below.refl _ _) _⟩

set_option maxRecDepth 20000 in
set_option maxHeartbeats 2000000 in
theorem times_any (l : List Ev) (V : Value) (x : Ev) (w : World) (h1 : EvArg w V l) (hl : l.length ≤ 1099511627776) :
    Calls Tryd.prog 29 #[V, evV x] w fun e w' => e = .returned (.int .i64 (l.count x : Nat)) ∧ Below w.heap.size w w' := by
  obtain ⟨A1, c1, rfl, h1⟩ := h1
  have hl' : (l.length : Int) ≤ 1099511627776 := by omega
  have hx := RowAt.new w 23 (evC x)
  have b0 : (w.alloc (.cells (evC x) 23)).cell? ⟨w.heap.size, 0, none⟩ = some (.int .i64 x.k) := hx.cell 0
  have b1 : (w.alloc (.cells (evC x) 23)).cell? ⟨w.heap.size, 1, none⟩ = some (.int .i64 x.f) := hx.cell 1
  have b2 : (w.alloc (.cells (evC x) 23)).cell? ⟨w.heap.size, 2, none⟩ = some (.int .i64 x.t) := hx.cell 2
  have b3 : (w.alloc (.cells (evC x) 23)).cell? ⟨w.heap.size, 3, none⟩ = some (.int .i64 x.v) := hx.cell 3
  have b4 : (w.alloc (.cells (evC x) 23)).cell? ⟨w.heap.size, 4, none⟩ = some (.int .i64 x.a) := hx.cell 4
  have b5 : (w.alloc (.cells (evC x) 23)).cell? ⟨w.heap.size, 5, none⟩ = some (.string ⟨x.d.toArray⟩) := hx.cell 5
  have b6 : (w.alloc (.cells (evC x) 23)).cell? ⟨w.heap.size, 6, none⟩ = some (.int .i64 x.u) := hx.cell 6
  have hb := Lib.hid (show Below w.heap.size w (w.alloc (.cells (evC x) 23)) from ba _ _)
  have H1 := Lib.hid h1
  clear h1 hx
  have hW : ∃ W, W = w.alloc (.cells (evC x) 23) := ⟨_, rfl⟩
  obtain ⟨W, eW⟩ := hW
  have hgs : ∀ g, g < w.heap.size → g < W.heap.size := fun g h => by rw [eW, World.size_alloc]; omega
  rw [← eW] at b0 b1 b2 b3 b4 b5 b6 hb
  unfold evV
  go_enter Tryd.func29, Tryd.ntmps29
  go_wp2
  rw [← eW]
  have hg0 := hb.out.size
  clear eW
  have B := Lib.hid (And.intro b0 (And.intro b1 (And.intro b2 (And.intro b3 (And.intro b4 (And.intro b5 b6))))))
  clear b0 b1 b2 b3 b4 b5 b6
  go_loopw [6, 5] (fun y n wr => ∃ (k m : Nat), k ≤ l.length ∧ y = .int .i64 k ∧ n = .int .i64 ((l.take k).count x : Nat) ∧ wr = W.drewN m) (fun y _ _ => l.length - (intOf y).toNat)
  case atStart => exact ⟨0, 0, by omega, rfl, rfl, rfl⟩
  case round =>
    obtain ⟨k, m, hk, rfl, rfl, rfl⟩ := hrel
    by_cases hlt : k < l.length
    · obtain ⟨g1, o1, rfl, hg1, hc1⟩ := H1.out (by omega)
      have b0 := B.out.1; have b1 := B.out.2.1; have b2 := B.out.2.2.1; have b3 := B.out.2.2.2.1; have b4 := B.out.2.2.2.2.1; have b5 := B.out.2.2.2.2.2.1; have b6 := B.out.2.2.2.2.2.2
      have H2 : ∀ j (hj : j < l.length) i, i < 7 → W.cell? ⟨g1, o1 + j * 7 + i, none⟩ = (evC l[j])[i]? := fun j hj i hi => (hb.out.cell (p := ⟨g1, o1 + j * 7 + i, none⟩) (by omega)).trans (hc1 j hj i hi)
      obtain ⟨a0, a1, a2, a3, a4, a5, a6⟩ := arg_seven H2 k hlt
      have Q := fun W => eql_ev l[k].k l[k].f l[k].t l[k].v l[k].a ⟨l[k].d.toArray⟩ l[k].u x.k x.f x.t x.v x.a ⟨x.d.toArray⟩ x.u W
      rw [elem_eqF] at Q
      have ht : (l.take (k + 1)).count x = (l.take k).count x + (if decide (l[k] = x) = true then 1 else 0) := by
        rw [List.take_succ_eq_append_getElem hlt, List.count_append, List.count_singleton]
        by_cases e : l[k] = x <;> simp [e]
      have hle : (l.take k).count x ≤ k := Nat.le_trans List.count_le_length (by rw [List.length_take]; omega)
      clear hc1 H2
      generalize (⟨l[k].d.toArray⟩ : ByteArray) = x5 at *
      generalize decide (l[k] = x) = q at *
      generalize l[k].k = x0 at *
      generalize l[k].f = x1 at *
      generalize l[k].t = x2 at *
      generalize l[k].v = x3 at *
      generalize l[k].a = x4 at *
      generalize l[k].u = x6 at *
      generalize (l.take k).count x = N at *
      have HT := Lib.hid ht
      clear ht
      cases q
      · go_wp2
        go_quiet (fail)
        go_wp2
        go_roundw
        case rel => exact ⟨k + 1, m + nq, by omega, by go_num, by rw [HT.out]; first | rfl | go_num, by first | rfl | trivial⟩
        case measure => simp [intOf]; omega
      · go_wp2
        go_quiet (fail)
        go_wp2
        go_roundw
        case rel => exact ⟨k + 1, m + nq, by omega, by go_num, by rw [HT.out]; first | rfl | go_num, by first | rfl | trivial⟩
        case measure => simp [intOf]; omega
    · have he : l.take k = l := List.take_of_length_le (by omega)
      rw [he]
      go_wp2
      go_returns
      exact ⟨rfl, Go.below_drewN hb.out _⟩

end Go.Proofs.YtiimdkamgehioaaDoor
