/-
  EventShifts: events that can be shifted by a number of ticks are restored by shifting them back; nothing else of them changes.
-/
import Derived.Test.YtddphdohjceonaaDoorL3
namespace Go.Proofs.YtddphdohjceonaaDoor
open Go Go.RowKit Go.Joins
set_option linter.unusedVariables false
set_option linter.unusedSimpArgs false

theorem held_sh {w W W' : World} {g1 g2 o1 o2 k : Nat} {b x0 x1 x2 x3 x4 x6 : Int} {x5 : ByteArray} (h : W.cell? ⟨g2, o2 + k * 7, none⟩ = some (.int .i64 x0) ∧ W.cell? ⟨g2, o2 + k * 7 + 1, none⟩ = some (.int .i64 (x1 + b)) ∧ W.cell? ⟨g2, o2 + k * 7 + 2, none⟩ = some (.int .i64 (x2 + b)) ∧ W.cell? ⟨g2, o2 + k * 7 + 3, none⟩ = some (.int .i64 x3) ∧ W.cell? ⟨g2, o2 + k * 7 + 4, none⟩ = some (.int .i64 x4) ∧ W.cell? ⟨g2, o2 + k * 7 + 5, none⟩ = some (.string x5) ∧ W.cell? ⟨g2, o2 + k * 7 + 6, none⟩ = some (.int .i64 x6) ∧ W.cell? ⟨g1, o1 + k * 7, none⟩ = some (.int .i64 x0) ∧ W.cell? ⟨g1, o1 + k * 7 + 1, none⟩ = some (.int .i64 x1) ∧ W.cell? ⟨g1, o1 + k * 7 + 2, none⟩ = some (.int .i64 x2) ∧ W.cell? ⟨g1, o1 + k * 7 + 3, none⟩ = some (.int .i64 x3) ∧ W.cell? ⟨g1, o1 + k * 7 + 4, none⟩ = some (.int .i64 x4) ∧ W.cell? ⟨g1, o1 + k * 7 + 5, none⟩ = some (.string x5) ∧ W.cell? ⟨g1, o1 + k * 7 + 6, none⟩ = some (.int .i64 x6) ∧ Below w.heap.size w W ∧ g2 < W.heap.size ∧ g1 < W.heap.size) (hb : Below W.heap.size W W') : W'.cell? ⟨g2, o2 + k * 7, none⟩ = some (.int .i64 x0) ∧ W'.cell? ⟨g2, o2 + k * 7 + 1, none⟩ = some (.int .i64 (x1 + b)) ∧ W'.cell? ⟨g2, o2 + k * 7 + 2, none⟩ = some (.int .i64 (x2 + b)) ∧ W'.cell? ⟨g2, o2 + k * 7 + 3, none⟩ = some (.int .i64 x3) ∧ W'.cell? ⟨g2, o2 + k * 7 + 4, none⟩ = some (.int .i64 x4) ∧ W'.cell? ⟨g2, o2 + k * 7 + 5, none⟩ = some (.string x5) ∧ W'.cell? ⟨g2, o2 + k * 7 + 6, none⟩ = some (.int .i64 x6) ∧ W'.cell? ⟨g1, o1 + k * 7, none⟩ = some (.int .i64 x0) ∧ W'.cell? ⟨g1, o1 + k * 7 + 1, none⟩ = some (.int .i64 x1) ∧ W'.cell? ⟨g1, o1 + k * 7 + 2, none⟩ = some (.int .i64 x2) ∧ W'.cell? ⟨g1, o1 + k * 7 + 3, none⟩ = some (.int .i64 x3) ∧ W'.cell? ⟨g1, o1 + k * 7 + 4, none⟩ = some (.int .i64 x4) ∧ W'.cell? ⟨g1, o1 + k * 7 + 5, none⟩ = some (.string x5) ∧ W'.cell? ⟨g1, o1 + k * 7 + 6, none⟩ = some (.int .i64 x6) ∧ Below w.heap.size w W' ∧ g2 < W'.heap.size ∧ g1 < W'.heap.size := by
  obtain ⟨a0, a1, a2, a3, a4, a5, a6, b0, b1, b2, b3, b4, b5, b6, hB, l1, l2⟩ := h
  have hs := hb.size
  exact ⟨(hb.cell l1).trans a0, (hb.cell l1).trans a1, (hb.cell l1).trans a2, (hb.cell l1).trans a3, (hb.cell l1).trans a4, (hb.cell l1).trans a5, (hb.cell l1).trans a6, (hb.cell l2).trans b0, (hb.cell l2).trans b1, (hb.cell l2).trans b2, (hb.cell l2).trans b3, (hb.cell l2).trans b4, (hb.cell l2).trans b5, (hb.cell l2).trans b6, hB.trans (hb.mono hB.size), by omega, by omega⟩
theorem below_sh {w W : World} {g1 g2 o1 o2 k : Nat} {b x0 x1 x2 x3 x4 x6 : Int} {x5 : ByteArray} (h : W.cell? ⟨g2, o2 + k * 7, none⟩ = some (.int .i64 x0) ∧ W.cell? ⟨g2, o2 + k * 7 + 1, none⟩ = some (.int .i64 (x1 + b)) ∧ W.cell? ⟨g2, o2 + k * 7 + 2, none⟩ = some (.int .i64 (x2 + b)) ∧ W.cell? ⟨g2, o2 + k * 7 + 3, none⟩ = some (.int .i64 x3) ∧ W.cell? ⟨g2, o2 + k * 7 + 4, none⟩ = some (.int .i64 x4) ∧ W.cell? ⟨g2, o2 + k * 7 + 5, none⟩ = some (.string x5) ∧ W.cell? ⟨g2, o2 + k * 7 + 6, none⟩ = some (.int .i64 x6) ∧ W.cell? ⟨g1, o1 + k * 7, none⟩ = some (.int .i64 x0) ∧ W.cell? ⟨g1, o1 + k * 7 + 1, none⟩ = some (.int .i64 x1) ∧ W.cell? ⟨g1, o1 + k * 7 + 2, none⟩ = some (.int .i64 x2) ∧ W.cell? ⟨g1, o1 + k * 7 + 3, none⟩ = some (.int .i64 x3) ∧ W.cell? ⟨g1, o1 + k * 7 + 4, none⟩ = some (.int .i64 x4) ∧ W.cell? ⟨g1, o1 + k * 7 + 5, none⟩ = some (.string x5) ∧ W.cell? ⟨g1, o1 + k * 7 + 6, none⟩ = some (.int .i64 x6) ∧ Below w.heap.size w W ∧ g2 < W.heap.size ∧ g1 < W.heap.size) : Below w.heap.size w W := h.2.2.2.2.2.2.2.2.2.2.2.2.2.2.1
theorem sh_cases (l : List Ev) (b : Int) : (shErr l b = 0 ∧ shL l b = l.map (shM b) ∧ l.all vE = true ∧ l.all (shOk b) = true) ∨ ((shErr l b = 1 ∨ shErr l b = 2) ∧ shL l b = []) := by
  cases h1 : l.all vE with
  | false => exact .inr ⟨.inl (sh_arg h1).1, (sh_arg (b := b) h1).2⟩
  | true =>
    cases h2 : l.all (shOk b) with
    | false => exact .inr ⟨.inr (sh_range h1 h2).1, (sh_range h1 h2).2⟩
    | true => exact .inl ⟨(sh_ok h1 h2).1, (sh_ok h1 h2).2, rfl, rfl⟩
theorem sh_at {l : List Ev} {b : Int} (h1 : l.all vE = true) (h2 : l.all (shOk b) = true) (j : Nat) (hj : j < l.length) : 0 ≤ l[j].f ∧ l[j].f ≤ 1099511627776 ∧ 0 ≤ l[j].t ∧ l[j].t ≤ 1099511627776 ∧ -l[j].f ≤ b ∧ b ≤ 1099511627776 - l[j].t ∧ vE l[j] = true := by
  have a1 := List.all_eq_true.1 h1 _ (List.getElem_mem hj)
  have a2 := List.all_eq_true.1 h2 _ (List.getElem_mem hj)
  unfold shOk at a2
  simp only [Bool.and_eq_true, decide_eq_true_eq] at a2
  have a3 := a1
  unfold vE at a3
  have a3 := of_decide_eq_true a3
  exact ⟨by omega, by omega, by omega, by omega, a2.1, a2.2, a1⟩
theorem sh_back {l : List Ev} {b : Int} (h1 : l.all vE = true) (h2 : l.all (shOk b) = true) : shErr (l.map (shM b)) (-b) = 0 ∧ shL (l.map (shM b)) (-b) = l := by
  have hv : (l.map (shM b)).all vE = true := by
    refine all_true_of fun j hj => ?_
    rw [List.length_map] at hj
    rw [List.getElem_map]
    have h := sh_at h1 h2 j hj
    rw [sh_valid h.2.2.2.2.2.2]
    exact List.all_eq_true.1 h2 _ (List.getElem_mem hj)
  have ho : (l.map (shM b)).all (shOk (-b)) = true := by
    refine all_true_of fun j hj => ?_
    rw [List.length_map] at hj
    rw [List.getElem_map]
    have h := sh_at h1 h2 j hj
    unfold shOk shM
    simp only [Bool.and_eq_true, decide_eq_true_eq]
    omega
  refine ⟨(sh_ok hv ho).1, ?_⟩
  rw [(sh_ok hv ho).2, List.map_map]
  refine List.ext_getElem (by simp) fun j h3 h4 => ?_
  rw [List.getElem_map]
  show shM (-b) (shM b l[j]) = l[j]
  unfold shM
  rcases l[j] with ⟨k, f, t, v, a, d, u⟩
  simp only [Ev.mk.injEq, true_and, and_true]
  omega

set_option maxRecDepth 20000 in
set_option maxHeartbeats 8000000 in
theorem law_shifts (l : List Ev) (V : Value) (b : Int) (w : World) (h1 : EvArg w V l) (hl : l.length ≤ 140737488351232) (hd : ∀ j (h : j < l.length), l[j].d.length ≤ 140737488351232) (hb0 : -9223372036854775808 ≤ b) (hb1 : b ≤ 9223372036854775807) (hE : Env w) :
    Calls Tryd.prog 9 #[V, .int .i64 b] w fun e w' => e = .returned (.bool true) ∧ Below w.heap.size w w' := by
  have HA := Lib.hid (fun W h => awake_any W (hE.below h))
  have HT := Lib.hid (fun W (h : Below w.heap.size w W) => KArg.keep h1 h)
  have C1 := Lib.hid (small_any l V w h1 hl hd)
  cases hsm : smE l with
  | false =>
    rw [hsm] at C1
    clear h1 hd hE hsm
    go_enter Tryd.func9, Tryd.ntmps9
    go_wp2_with (first
      | (go_at_call 17; go_must (refine C1.out.mono ?_; rintro e1 w1 ⟨rfl, rfl⟩))
      | (go_at_call 10; go_must (refine (HA.out _ (Below.refl _ _)).mono ?_; rintro e2 w2 ⟨rfl, b2⟩)))
    go_returns
    exact ⟨rfl, b2⟩
  | true =>
    have hlen := smE_len hsm
    have hl' : (l.length : Int) ≤ 1000 := by omega
    rw [hsm] at C1
    have CS := Lib.hid (shift_any l V b w h1 hlen hd hb0 hb1)
    rcases sh_cases l b with ⟨e1, e2, e3, e4⟩ | ⟨e1, e2⟩
    · have hat := Lib.hid (fun j hj => sh_at e3 e4 j hj)
      obtain ⟨k1, k2⟩ := sh_back e3 e4
      have hml : (l.map (shM b)).length = l.length := List.length_map _
      have HML := Lib.hid hml
      have hbr : 0 < l.length → -1099511627776 ≤ b ∧ b ≤ 1099511627776 := fun h => by have := sh_at e3 e4 0 h; omega
      have HBR := Lib.hid hbr
      have CB := Lib.hid (fun V W h (hr : -9223372036854775808 ≤ -b ∧ -b ≤ 9223372036854775807) => shift_any (l.map (shM b)) V (-b) W h (by rw [hml]; exact hlen) (fun j hj => by rw [List.getElem_map]; exact hd j (by rw [hml] at hj; exact hj)) hr.1 hr.2)
      rw [e1, e2] at CS
      rw [k1, k2] at CB
      have MM := Lib.hid (fun V V' W h h' => same_any l V V' W h h' (by omega))
      clear hd hE hsm hlen e1 e2 e3 e4 k1 k2 hml hbr
      obtain ⟨A1, c1, rfl, h1⟩ := h1
      have H1 := Lib.hid h1
      clear h1
      rcases Nat.eq_zero_or_pos l.length with h0 | h0
      · have h0' : (l.length : Int) = 0 := by omega
        obtain rfl := List.eq_nil_of_length_eq_zero h0
        go_enter Tryd.func9, Tryd.ntmps9
        go_wp2_with (first
          | (go_at_call 17; go_must (refine C1.out.mono ?_; rintro e1 w1 ⟨rfl, rfl⟩))
          | (go_at_call 18; go_must (refine CS.out.mono ?_; rintro e2 w2 ⟨V1, rfl, r2, b2⟩; have B2 := Lib.hid b2; obtain ⟨A2, c2, rfl, _⟩ := KRow.arg evC_size r2; clear r2 b2)))
        go_loopw [7] (fun x wr => x = .int .i64 0 ∧ wr = w2) (fun _ _ => 0)
        case atStart => exact ⟨rfl, rfl⟩
        case round =>
          obtain ⟨rfl, rfl⟩ := hrel
          go_wp2_with (go_at_call 10; go_must (refine (HA.out _ B2.out).mono ?_; rintro e3 w3 ⟨rfl, b3⟩))
          go_returns
          exact ⟨rfl, B2.out.trans (b3.mono B2.out.size)⟩
      · obtain ⟨r1, r2⟩ := HBR.out h0
        have hpos : (0 : Int) < l.length := by omega
        have dd1 : decide (b < -1099511627776) = false := decide_eq_false (by omega)
        have dd2 : decide (1099511627776 < b) = false := decide_eq_false (by omega)
        have CB2 := Lib.hid (fun V W h => CB.out V W h ⟨by omega, by omega⟩)
        go_enter Tryd.func9, Tryd.ntmps9
        go_wp2_with (first
          | (go_at_call 17; go_must (refine C1.out.mono ?_; rintro e1 w1 ⟨rfl, rfl⟩))
          | (go_at_call 18; go_must (refine CS.out.mono ?_; rintro e2 w2 ⟨V1, rfl, r2, b2⟩; have B2 := Lib.hid b2; have K2 := Lib.hid (KRow.arg evC_size r2); obtain ⟨A2, c2, rfl, hm2⟩ := KRow.arg evC_size r2; have hM2 := Lib.hid hm2; rw [HML.out] at K2; rw [HML.out]; clear r2 b2 hm2)))
        go_loopw [7] (fun x wr => ∃ k : Nat, k ≤ l.length ∧ x = .int .i64 k ∧ Hid (Below w2.heap.size w2 wr)) (fun x _ => l.length - (intOf x).toNat)
        case atStart => exact ⟨0, by omega, rfl, Lib.hid (Below.refl _ _)⟩
        case round =>
          obtain ⟨k, hk, rfl, HB⟩ := hrel
          have hb := HB.out
          by_cases hlt : k < l.length
          · obtain ⟨g1, o1, rfl, hg1, hc1⟩ := H1.out (by omega)
            obtain ⟨g2, o2, rfl, hg2, hc2⟩ := hM2.out (by rw [HML.out]; exact h0)
            have H2 : ∀ j (hj : j < l.length) i, i < 7 → wr.cell? ⟨g1, o1 + j * 7 + i, none⟩ = (evC l[j])[i]? := fun j hj i hi => (hb.cell (p := ⟨g1, o1 + j * 7 + i, none⟩) (Nat.lt_of_lt_of_le hg1 B2.out.size)).trans ((B2.out.cell (p := ⟨g1, o1 + j * 7 + i, none⟩) hg1).trans (hc1 j hj i hi))
            have H3 : ∀ j (hj : j < (l.map (shM b)).length) i, i < 7 → wr.cell? ⟨g2, o2 + j * 7 + i, none⟩ = (evC (l.map (shM b))[j])[i]? := fun j hj i hi => (hb.cell (p := ⟨g2, o2 + j * 7 + i, none⟩) hg2).trans (hc2 j hj i hi)
            obtain ⟨b0, b1, b2, b3, b4, b5, b6⟩ := arg_seven H2 k hlt
            obtain ⟨a0, a1, a2, a3, a4, a5, a6⟩ := arg_seven H3 k (by rw [HML.out]; exact hlt)
            rw [List.getElem_map] at a0 a1 a2 a3 a4 a5 a6
            simp only [shM] at a0 a1 a2 a3 a4 a5 a6
            obtain ⟨v0, v1, v2, v3, v4, v5, _⟩ := hat.out k hlt
            have hlt' : (k : Int) < l.length := by omega
            have hk0 : (0 : Int) ≤ k := by omega
            have CC := fun W => (core_xy l[k].k (l[k].f + b) (l[k].t + b) l[k].v l[k].a ⟨l[k].d.toArray⟩ l[k].u W).mono fun e w' (h : _ ∧ _ ∧ _) => (⟨h.1, h.2.1⟩ : e = .returned (.agg (evA l[k].k 0 0 l[k].v l[k].a ⟨l[k].d.toArray⟩ l[k].u)) ∧ Below W.heap.size W w')
            have CD := fun W => (core_xy l[k].k l[k].f l[k].t l[k].v l[k].a ⟨l[k].d.toArray⟩ l[k].u W).mono fun e w' (h : _ ∧ _ ∧ _) => (⟨h.1, h.2.1⟩ : e = .returned (.agg (evA l[k].k 0 0 l[k].v l[k].a ⟨l[k].d.toArray⟩ l[k].u)) ∧ Below W.heap.size W w')
            have Q := fun W => neq_ev l[k].k 0 0 l[k].v l[k].a ⟨l[k].d.toArray⟩ l[k].u l[k].k 0 0 l[k].v l[k].a ⟨l[k].d.toArray⟩ l[k].u W
            have hq : eqF l[k].k 0 0 l[k].v l[k].a ⟨l[k].d.toArray⟩ l[k].u l[k].k 0 0 l[k].v l[k].a ⟨l[k].d.toArray⟩ l[k].u = true := by rw [eqF_iff]; exact decide_eq_true rfl
            rw [hq] at Q
            have hgr1 : g1 < wr.heap.size := Nat.lt_of_lt_of_le (Nat.lt_of_lt_of_le hg1 B2.out.size) hb.size
            have hgr2 : g2 < wr.heap.size := Nat.lt_of_lt_of_le hg2 hb.size
            have HCC := Lib.hid CC; have HCD := Lib.hid CD
            clear hc1 hc2 H2 H3 CC CD hq
            generalize (⟨l[k].d.toArray⟩ : ByteArray) = x5 at *; generalize l[k].k = x0 at *; generalize l[k].f = x1 at *; generalize l[k].t = x2 at *; generalize l[k].v = x3 at *; generalize l[k].a = x4 at *; generalize l[k].u = x6 at *
            have i1 : IntKind.i64.wrap (x1 + b - b) = x1 := by rw [Int.add_sub_cancel]; exact IntWalk.i64_in _ (by omega)
            have i2 : IntKind.i64.wrap (x2 + b - b) = x2 := by rw [Int.add_sub_cancel]; exact IntWalk.i64_in _ (by omega)
            have j1 : IntKind.i64.wrap x1 = x1 := IntWalk.i64_in _ (by omega)
            have j2 : IntKind.i64.wrap x2 = x2 := IntWalk.i64_in _ (by omega)
            have n1 : (x1 != x1) = false := by simp
            have n2 : (x2 != x2) = false := by simp
            have HS := Lib.hid (show wr.cell? ⟨g2, o2 + k * 7, none⟩ = some (.int .i64 x0) ∧ wr.cell? ⟨g2, o2 + k * 7 + 1, none⟩ = some (.int .i64 (x1 + b)) ∧ wr.cell? ⟨g2, o2 + k * 7 + 2, none⟩ = some (.int .i64 (x2 + b)) ∧ wr.cell? ⟨g2, o2 + k * 7 + 3, none⟩ = some (.int .i64 x3) ∧ wr.cell? ⟨g2, o2 + k * 7 + 4, none⟩ = some (.int .i64 x4) ∧ wr.cell? ⟨g2, o2 + k * 7 + 5, none⟩ = some (.string x5) ∧ wr.cell? ⟨g2, o2 + k * 7 + 6, none⟩ = some (.int .i64 x6) ∧ wr.cell? ⟨g1, o1 + k * 7, none⟩ = some (.int .i64 x0) ∧ wr.cell? ⟨g1, o1 + k * 7 + 1, none⟩ = some (.int .i64 x1) ∧ wr.cell? ⟨g1, o1 + k * 7 + 2, none⟩ = some (.int .i64 x2) ∧ wr.cell? ⟨g1, o1 + k * 7 + 3, none⟩ = some (.int .i64 x3) ∧ wr.cell? ⟨g1, o1 + k * 7 + 4, none⟩ = some (.int .i64 x4) ∧ wr.cell? ⟨g1, o1 + k * 7 + 5, none⟩ = some (.string x5) ∧ wr.cell? ⟨g1, o1 + k * 7 + 6, none⟩ = some (.int .i64 x6) ∧ Below w2.heap.size w2 wr ∧ g2 < wr.heap.size ∧ g1 < wr.heap.size from ⟨a0, a1, a2, a3, a4, a5, a6, b0, b1, b2, b3, b4, b5, b6, hb, hgr2, hgr1⟩)
            clear a0 a1 a2 a3 a4 a5 a6 b0 b1 b2 b3 b4 b5 b6
            go_wp2
            go_region_held3 (fun w' => w'.cell? ⟨g2, o2 + k * 7, none⟩ = some (.int .i64 x0) ∧ w'.cell? ⟨g2, o2 + k * 7 + 1, none⟩ = some (.int .i64 (x1 + b)) ∧ w'.cell? ⟨g2, o2 + k * 7 + 2, none⟩ = some (.int .i64 (x2 + b)) ∧ w'.cell? ⟨g2, o2 + k * 7 + 3, none⟩ = some (.int .i64 x3) ∧ w'.cell? ⟨g2, o2 + k * 7 + 4, none⟩ = some (.int .i64 x4) ∧ w'.cell? ⟨g2, o2 + k * 7 + 5, none⟩ = some (.string x5) ∧ w'.cell? ⟨g2, o2 + k * 7 + 6, none⟩ = some (.int .i64 x6) ∧ w'.cell? ⟨g1, o1 + k * 7, none⟩ = some (.int .i64 x0) ∧ w'.cell? ⟨g1, o1 + k * 7 + 1, none⟩ = some (.int .i64 x1) ∧ w'.cell? ⟨g1, o1 + k * 7 + 2, none⟩ = some (.int .i64 x2) ∧ w'.cell? ⟨g1, o1 + k * 7 + 3, none⟩ = some (.int .i64 x3) ∧ w'.cell? ⟨g1, o1 + k * 7 + 4, none⟩ = some (.int .i64 x4) ∧ w'.cell? ⟨g1, o1 + k * 7 + 5, none⟩ = some (.string x5) ∧ w'.cell? ⟨g1, o1 + k * 7 + 6, none⟩ = some (.int .i64 x6) ∧ Below w2.heap.size w2 w' ∧ g2 < w'.heap.size ∧ g1 < w'.heap.size) (first | assumption | exact held_sh HS.out (Below.refl _ _).drew | exact held_sh (by assumption) (Below.refl _ _).drew | fail)
              (first
                | (go_at_call_of 15 (Value.agg #[Value.int IntKind.i64 x0, Value.int IntKind.i64 (x1 + b), Value.int IntKind.i64 (x2 + b), Value.int IntKind.i64 x3, Value.int IntKind.i64 x4, Value.string x5, Value.int IntKind.i64 x6]); refine (HCC.out _).mono ?_; rintro e5 w5 ⟨rfl, b5⟩; have h5 := held_sh (by assumption) b5)
                | (go_at_call 15; refine (HCD.out _).mono ?_; rintro e6 w6 ⟨rfl, b6⟩; have h6 := held_sh (by assumption) b6)
                | fail)
            all_goals
              rename_i hS9
              have hB9 := Lib.hid (below_sh hS9)
              clear hS9
              go_wp2
              go_roundw
              case rel => exact ⟨k + 1, by omega, by go_num, hB9⟩
              case measure => simp [intOf]; omega
          · have HBB := Lib.hid (B2.out.trans (hb.mono B2.out.size))
            go_wp2_with (first
              | (go_at_call 18; go_must (refine (CB2.out _ _ (KArg.keep K2.out hb)).mono ?_; rintro e3 w3 ⟨V3, rfl, r3, b3⟩; have B3 := Lib.hid (HBB.out.trans (b3.mono HBB.out.size)); have A3 := Lib.hid (KRow.arg evC_size r3); clear r3 b3))
              | (go_at_call 20; go_must (refine (MM.out _ _ _ A3.out (HT.out _ B3.out)).mono ?_; rintro e4 w4 ⟨rfl, b4⟩; have B4 := Lib.hid (B3.out.trans (b4.mono B3.out.size)); clear b4))
              | (go_at_call 10; go_must (refine (HA.out _ B4.out).mono ?_; rintro e5 w5 ⟨rfl, b5⟩)))
            go_returns
            exact ⟨rfl, B4.out.trans (b5.mono B4.out.size)⟩
    · rw [e2] at CS
      clear h1 hd hE hsm hlen e2
      rcases e1 with e1 | e1
      all_goals
        rw [e1] at CS
        go_enter Tryd.func9, Tryd.ntmps9
        go_wp2_with (first
          | (go_at_call 17; go_must (refine C1.out.mono ?_; rintro e1 w1 ⟨rfl, rfl⟩))
          | (go_at_call 18; go_must (refine CS.out.mono ?_; rintro e2 w2 ⟨V1, rfl, r2, b2⟩; have B2 := Lib.hid b2; obtain ⟨A2, c2, rfl, _⟩ := KRow.arg evC_size r2; clear r2 b2))
          | (go_at_call 10; go_must (refine (HA.out _ B2.out).mono ?_; rintro e3 w3 ⟨rfl, b3⟩)))
        go_returns
        exact ⟨rfl, B2.out.trans (b3.mono B2.out.size)⟩

end Go.Proofs.YtddphdohjceonaaDoor
