/-
  Filter.
-/
import Derived.Deep.LoopGhost
import Derived.Test.YtemmljngglnccaaT4
import Derived.Test.YtemmljngglnccaaK3
namespace Go.Proofs.Ytemmljngglnccaa
open Go Go.RowKit Go.Joins
set_option linter.unusedVariables false
set_option linter.unusedSimpArgs false

/-- Where the filter stands: what is kept already, the run that may still grow, the rest. -/
def FlI (k : Int) (F P : List Rn) (z : Rn) (r : List Rn) : Prop := P ++ flP k (z :: r) = F ∧ gd (P ++ [z] ++ r) ∧ lg (P ++ [z] ++ r) ≤ 1099511627776 ∧ (P ++ [z]).length + r.length ≤ 262144
theorem part_at (r : List Rn) (i : Nat) (h : i + 1 < r.length) : r = r.take i ++ r[i] :: r[i + 1] :: r.drop (i + 2) := by
  rw [← List.drop_eq_getElem_cons, ← List.drop_eq_getElem_cons (by omega), List.take_append_drop]
theorem RnArg.cut {w : World} {g o c : Nat} {l : List Rn} (h : RnArg w (.slice (some ⟨g, o, none⟩) l.length c) l) (i : Nat) (hi : i ≤ l.length) (hc : l.length ≤ c) (hl : 0 < l.length) : RnArg w (.slice (if c = i then some ⟨g, o, none⟩ else some ⟨g, o + i * 2, none⟩) (l.length - i) (c - i)) (l.drop i) := by
  obtain ⟨A', c', e, hA⟩ := h
  obtain ⟨rfl, _, rfl⟩ := Value.slice.inj e
  obtain ⟨g', o', e2, hg, hcl⟩ := hA hl
  obtain ⟨rfl, rfl, _⟩ := Addr.mk.inj (Option.some.inj e2)
  refine ⟨_, _, by rw [List.length_drop], fun h0 => ?_⟩
  rw [List.length_drop] at h0
  refine ⟨g, o + i * 2, by rw [if_neg (by omega)], hg, fun j hj q hq => ?_⟩
  rw [List.length_drop] at hj
  rw [List.getElem_drop, ← hcl (i + j) (by omega) q hq]
  congr 2
  omega
theorem RnArg.head {w : World} {g o c : Nat} {l : List Rn} (h : RnArg w (.slice (some ⟨g, o, none⟩) l.length c) l) (i : Nat) (hi : i ≤ l.length) (hl : 0 < l.length) : RnArg w (.slice (some ⟨g, o, none⟩) i c) (l.take i) := by
  obtain ⟨A', c', e, hA⟩ := h
  obtain ⟨rfl, _, rfl⟩ := Value.slice.inj e
  obtain ⟨g', o', e2, hg, hcl⟩ := hA hl
  obtain ⟨rfl, rfl, _⟩ := Addr.mk.inj (Option.some.inj e2)
  refine ⟨_, _, by rw [List.length_take, Nat.min_eq_left hi], fun h0 => ⟨g, o, rfl, hg, fun j hj q hq => ?_⟩⟩
  rw [List.length_take] at hj
  rw [List.getElem_take, hcl j (by omega) q hq]
theorem rn_one {w : World} {g B : Nat} {x0 x1 : Int} (h : RowAt w g 48 #[.int .i64 x0, .int .i64 x1]) (hB : B ≤ g) : RnRow w B (.slice (some ⟨g, 0, none⟩) 1 1) [(x0, x1)] :=
  ⟨rfl, Or.inr ⟨g, 1, #[.int .i64 x0, .int .i64 x1], rfl, hB, h, Nat.le_refl _, by decide, rfl, rfl⟩⟩
theorem FlI.step {k : Int} {F P : List Rn} {z : Rn} {r : List Rn} (h : FlI k F P z r) (i : Nat) (hi : i + 1 < r.length) (hs : r[i].2 < k) (hl : ∀ j (hj : j < r.length), j < i → ¬ r[j].2 < k) :
    ∃ P' y, P ++ [z] ++ r.take i = P' ++ [y] ∧ FlI k F P' (y.1, y.2 + (r[i].2 + r[i + 1].2)) (r.drop (i + 2)) ∧ 1 ≤ y.2 ∧ y.2 ≤ 1099511627776 ∧ 1 ≤ r[i].2 ∧ 1 ≤ r[i + 1].2 ∧ y.2 + (r[i].2 + r[i + 1].2) ≤ 1099511627776 := by
  obtain ⟨h1, h2, h3, h4⟩ := h
  have e := part_at r i hi
  have hT : ∀ x ∈ r.take i, ¬ x.2 < k := by
    intro x hx
    obtain ⟨j, hj, rfl⟩ := List.mem_iff_getElem.1 hx
    rw [List.length_take] at hj
    rw [List.getElem_take]
    exact hl j (by omega) (by omega)
  have hln : (r.take i).length = i := by rw [List.length_take]; omega
  generalize r[i] = b at *
  generalize r[i + 1] = c at *
  have hd : (r.drop (i + 2)).length = r.length - (i + 2) := List.length_drop
  generalize r.drop (i + 2) = t at *
  generalize r.take i = T at *
  subst e
  obtain ⟨Q, y, hQ⟩ : ∃ Q y, z :: T = Q ++ [y] := by
    rcases nil_or_snoc (z :: T) with h | ⟨o, x, h⟩
    · cases h
    · exact ⟨o, x, h⟩
  have eX : P ++ [z] ++ T = (P ++ Q) ++ [y] := by rw [List.append_assoc, List.append_assoc, ← hQ]; rfl
  have eA : P ++ [z] ++ (T ++ b :: c :: t) = (P ++ Q) ++ (y :: b :: c :: t) := by rw [← List.append_assoc, eX]; simp
  have eL : (P ++ Q).length + 1 = P.length + 1 + T.length := by have := congrArg List.length eX; simp at this; simp; omega
  rw [eA] at h2 h3
  have g0 := gd_append.1 h2
  have g1 := gd_cons.1 g0.2
  have g2 := gd_cons.1 g1.2
  have g3 := gd_cons.1 g2.2
  have p1 := gd_nonneg g0.1
  have p2 := gd_nonneg g3.2
  rw [lg_append] at h3
  have e3 : lg (y :: b :: c :: t) = y.2 + (b.2 + (c.2 + lg t)) := rfl
  rw [e3] at h3
  have hy1 := g1.1.2
  have hb1 := g2.1.2
  have hc1 := g3.1.2
  refine ⟨P ++ Q, y, eX, ⟨?_, ?_, ?_, ?_⟩, hy1, by omega, hb1, hc1, by omega⟩
  · rw [← h1, List.append_assoc]
    congr 1
    have e5 : z :: (T ++ b :: c :: t) = Q ++ y :: b :: c :: t := by
      show (z :: T) ++ b :: c :: t = _
      rw [hQ, List.append_assoc]; rfl
    have hq : ∀ x ∈ Q.drop 1, ¬ x.2 < k := by
      intro x hx
      cases Q with
      | nil => cases hx
      | cons q Q =>
        simp only [List.cons_append, List.cons.injEq] at hQ
        obtain ⟨_, rfl⟩ := hQ
        rw [List.drop_one, List.tail_cons] at hx
        exact hT x (List.mem_append_left _ hx)
    have hy : Q ≠ [] → ¬ y.2 < k := by
      intro hne
      cases Q with
      | nil => exact absurd rfl hne
      | cons q Q =>
        simp only [List.cons_append, List.cons.injEq] at hQ
        obtain ⟨_, rfl⟩ := hQ
        exact hT y (List.mem_append_right _ (List.mem_singleton.2 rfl))
    rw [e5, flP_pre k Q y _ hq hy, flP_short hs, Int.add_assoc]
  · rw [List.append_assoc]
    exact gd_append.2 ⟨g0.1, gd_cons.2 ⟨⟨g1.1.1, by show 1 ≤ y.2 + (b.2 + c.2); omega⟩, g3.2⟩⟩
  · rw [List.append_assoc, lg_append]
    show lg (P ++ Q) + (y.2 + (b.2 + c.2) + lg t) ≤ _
    omega
  · simp only [List.length_append, List.length_cons, List.length_nil] at h4 eL ⊢
    omega
theorem FlI.done {k : Int} {F P : List Rn} {z : Rn} {r : List Rn} (h : FlI k F P z r) (hl : ∀ j (hj : j + 1 < r.length), ¬ r[j].2 < k) : P ++ [z] ++ r = F := by
  rw [← h.1, flP_id k (z :: r) (by rw [List.drop_one, List.tail_cons]; exact cn_zero.2 hl), List.append_assoc]
  rfl

set_option maxRecDepth 100000 in
set_option maxHeartbeats 8000000 in
theorem filterG_any (l : List Rn) (k : Int) (V : Value) (w : World) (hT : RnArg w V l) :
    Calls Try.prog 15 #[V, .int .i64 k] w fun e w' => ∃ v : Value, e = .returned v ∧ RnRow w' w.heap.size v (flP k (cl l)) ∧ Below w.heap.size w w' := by
  have HC := Lib.hid (clean_any l V w hT)
  have HV := (vl_iff _).1 (cl_vl l)
  obtain ⟨A, c, rfl⟩ := hT.form
  clear hT
  generalize cl l = C at *
  cases C with
  | nil =>
    have HF := Lib.hid (flP_nil k)
    clear HV
    go_enter Try.func15, Try.ntmps15
    go_wp2
    go_step3
    go_wp2_with (first
      | (go_at_call 24; go_must (refine HC.out.mono ?_; rintro e1 w1 ⟨v1, rfl, r1, b1⟩; obtain ⟨UA, UN, UC, rfl, rfl⟩ := KRow.form r1; have B1 := Lib.hid b1; clear r1 b1)))
    try rw [Exit.noGoto_ret]
    go_returns
    exact ⟨_, rfl, by rw [HF.out]; exact KRow.nil _ _, B1.out⟩
  | cons z0 r0 =>
    have I0 := Lib.hid (show FlI k (flP k (z0 :: r0)) [] z0 r0 from ⟨rfl, HV.2.1, HV.2.2, by have := HV.1; simp at this ⊢; omega⟩)
    have hle := HV.1
    rw [List.length_cons] at hle
    clear HV
    generalize flP k (z0 :: r0) = F at *
    go_enter Try.func15, Try.ntmps15
    have hz : ((((r0.length : Int) + 1) == 0) = false) := by rw [beq_eq_false_iff_ne]; omega
    go_wp2
    go_step3
    go_wp2_with (first
      | (go_at_call 24; go_must (refine HC.out.mono ?_; rintro e1 w1 ⟨v1, rfl, r1, b1⟩; obtain ⟨UA, UC, rfl⟩ := KRow.full r1 (by simp); have R1 := Lib.hid r1; have B1 := Lib.hid b1; clear r1 b1)))
    have HR := Lib.hid (KRow.arg rnC_size R1.out)
    have hcap := KRow.len R1.out
    have f0 : w1.drew.cell? ⟨UA, 0, none⟩ = some (.int .i64 z0.1) := (RnRow.two R1.out 0 (by simp)).1
    have f1 : w1.drew.cell? ⟨UA, 1, none⟩ = some (.int .i64 z0.2) := (RnRow.two R1.out 0 (by simp)).2.1
    obtain ⟨x0, x1⟩ := z0
    have S0 := Lib.hid (show w1.drew.cell? ⟨UA, 0, none⟩ = some (.int .i64 x0) ∧ w1.drew.cell? ⟨UA, 1, none⟩ = some (.int .i64 x1) from ⟨f0, f1⟩)
    have G0 := Lib.hid (show UA < w1.drew.heap.size from hcap.2.2.2)
    refine wp_region_held_drew (S := fun w' => w'.cell? ⟨UA, 0, none⟩ = some (.int .i64 x0) ∧ w'.cell? ⟨UA, 1, none⟩ = some (.int .i64 x1)) (by kernel_rfl) ?_ (fun hH => ?_)
    · exact S0.out
    have hWB := Lib.hid (show Below w1.heap.size w1 w1.drew from (Below.refl _ _).drew)
    have hWS := Lib.hid (show w1.drew.heap.size = w1.heap.size from rfl)
    have hs1 : (1 : Int) ≤ (r0.length : Int) + 1 := by omega
    clear f0 f1
    generalize w1.drew = WD at *
    refine wpAnyH_take (i := 0) (oi := { dst := some 14, op := Go.Op.move (Go.Operand.tmp 5), type := 22, pos := "glitch.go:31", after := #[], guard := none }) (v := ?_) rfl ?_ ?_ ?_ ?_ (Or.inl ⟨?_, ?_⟩) hH ?_
    rotate_left
    · kernel_rfl
    · kernel_rfl
    · kernel_rfl
    · exact fun _ _ _ h => h
    · kernel_rfl
    · intro wS hSw
      try dsimp only at hSw
      go_simp
      try with_reducible rfl
    try simp only [Act.put, List.setIfInBounds_toArray, List.set_cons_zero, List.set_cons_succ]
    refine wpAnyH_take (i := 1) (oi := { dst := some 15, op := Go.Op.indexAddr 22 (Go.Operand.tmp 14) (Go.Operand.const (Go.Value.int Go.IntKind.i64 0)), type := 0, pos := "glitch.go:31", after := #[{ on := 0, ground := Go.Ground.data }], guard := none }) (v := ?_) rfl ?_ ?_ ?_ ?_ (Or.inl ⟨?_, ?_⟩) hH ?_
    rotate_left
    · kernel_rfl
    · kernel_rfl
    · kernel_rfl
    · exact fun _ _ _ h => h
    · kernel_rfl
    · intro wS hSw
      try dsimp only at hSw
      go_simp
      try with_reducible rfl
    try simp only [Act.put, List.setIfInBounds_toArray, List.set_cons_zero, List.set_cons_succ]
    refine wpAnyH_take (i := 2) (oi := { dst := some 16, op := Go.Op.load 48 (Go.Operand.tmp 15), type := 48, pos := "glitch.go:31", after := #[{ on := 1, ground := Go.Ground.data }], guard := none }) (v := ?_) rfl ?_ ?_ ?_ ?_ (Or.inl ⟨?_, ?_⟩) hH ?_
    rotate_left
    · kernel_rfl
    · kernel_rfl
    · kernel_rfl
    · exact fun _ _ _ h => h
    · kernel_rfl
    · intro wS hSw
      try dsimp only at hSw
      go_simp
      try with_reducible rfl
    try simp only [Act.put, List.setIfInBounds_toArray, List.set_cons_zero, List.set_cons_succ]
    refine wpAnyH_take (i := 4) (oi := { dst := some 18, op := Go.Op.move (Go.Operand.tmp 5), type := 22, pos := "glitch.go:31", after := #[], guard := none }) (v := ?_) rfl ?_ ?_ ?_ ?_ (Or.inl ⟨?_, ?_⟩) hH ?_
    rotate_left
    · kernel_rfl
    · kernel_rfl
    · kernel_rfl
    · exact fun _ _ _ h => h
    · kernel_rfl
    · intro wS hSw
      try dsimp only at hSw
      go_simp
      try with_reducible rfl
    try simp only [Act.put, List.setIfInBounds_toArray, List.set_cons_zero, List.set_cons_succ]
    refine wpAnyH_take (i := 5) (oi := { dst := some 19, op := Go.Op.slice 22 (Go.Operand.tmp 18) (some (Go.Operand.const (Go.Value.int Go.IntKind.i64 1))) none none, type := 22, pos := "glitch.go:31", after := #[{ on := 4, ground := Go.Ground.data }], guard := none }) (v := ?_) rfl ?_ ?_ ?_ ?_ (Or.inl ⟨?_, ?_⟩) hH ?_
    rotate_left
    · kernel_rfl
    · kernel_rfl
    · kernel_rfl
    · exact fun _ _ _ h => h
    · kernel_rfl
    · intro wS hSw
      try dsimp only at hSw
      go_simp
      try with_reducible rfl
    try simp only [Act.put, List.setIfInBounds_toArray, List.set_cons_zero, List.set_cons_succ]
    refine wpAnyH_ready (rs := [3]) (by kernel_rfl) (by simp) ?_
    refine AllReadyH.cons (o := { dst := some 17, op := Go.Op.buildSlice 22 1 #[(0, Go.Operand.tmp 16)], type := 22, pos := "glitch.go:31", after := #[{ on := 2, ground := Go.Ground.data }], guard := none }) rfl (fun K hK => ?_) AllReadyH.nil
    · obtain ⟨wA2, hA2⟩ : ∃ wA2, wA2 = World.alloc WD (.cells #[.int .i64 x0, .int .i64 x1] 48) := ⟨_, rfl⟩
      have SA2 := Lib.hid (show wA2.cell? ⟨UA, 0, none⟩ = some (.int .i64 x0) ∧ wA2.cell? ⟨UA, 1, none⟩ = some (.int .i64 x1) by rw [hA2]; exact ⟨((ba _ _).cell (p := ⟨UA, 0, none⟩) G0.out).trans S0.out.1, ((ba _ _).cell (p := ⟨UA, 1, none⟩) G0.out).trans S0.out.2⟩)
      have XA2 := Lib.hid (show RowAt wA2 WD.heap.size 48 #[.int .i64 x0, .int .i64 x1] by rw [hA2]; exact RowAt.new _ _ _)
      have BA2 := Lib.hid (show Below WD.heap.size WD wA2 by rw [hA2]; exact ba _ _)
      go_simp
      rw [← hA2]
      clear hA2
      refine hK.out _ _ ?_ (fun hH1 => ?_)
      · exact SA2.out
      clear hK K hH
      try simp only [Act.put, List.setIfInBounds_toArray, List.set_cons_zero, List.set_cons_succ]
      refine wpAnyH_take (i := 6) (oi := { dst := some 6, op := Go.Op.assign (Go.Operand.tmp 17), type := 22, pos := "glitch.go:31", after := #[{ on := 3, ground := Go.Ground.data }, { on := 0, ground := Go.Ground.phase }, { on := 1, ground := Go.Ground.phase }, { on := 2, ground := Go.Ground.phase }, { on := 3, ground := Go.Ground.phase }, { on := 4, ground := Go.Ground.textOnly Go.Departure.lateStores }, { on := 5, ground := Go.Ground.textOnly Go.Departure.lateStoresUnsure }], guard := none }) (v := ?_) rfl ?_ ?_ ?_ ?_ (Or.inl ⟨?_, ?_⟩) hH1 ?_
      rotate_left
      · kernel_rfl
      · kernel_rfl
      · kernel_rfl
      · exact fun _ _ _ h => h
      · kernel_rfl
      · intro wS hSw
        try dsimp only at hSw
        go_simp
        try with_reducible rfl
      try simp only [Act.put, List.setIfInBounds_toArray, List.set_cons_zero, List.set_cons_succ]
      refine wpAnyH_take (i := 7) (oi := { dst := some 7, op := Go.Op.assign (Go.Operand.tmp 19), type := 22, pos := "glitch.go:31", after := #[{ on := 5, ground := Go.Ground.data }, { on := 6, ground := Go.Ground.chain }, { on := 0, ground := Go.Ground.phase }, { on := 1, ground := Go.Ground.phase }, { on := 2, ground := Go.Ground.phase }, { on := 3, ground := Go.Ground.phase }, { on := 4, ground := Go.Ground.phase }, { on := 5, ground := Go.Ground.phase }, { on := 6, ground := Go.Ground.phase }], guard := none }) (v := ?_) rfl ?_ ?_ ?_ ?_ (Or.inl ⟨?_, ?_⟩) hH1 ?_
      rotate_left
      · kernel_rfl
      · kernel_rfl
      · kernel_rfl
      · exact fun _ _ _ h => h
      · kernel_rfl
      · intro wS hSw
        try dsimp only at hSw
        go_simp
        try with_reducible rfl
      try simp only [Act.put, List.setIfInBounds_toArray, List.set_cons_zero, List.set_cons_succ]
      refine wpAnyH_done (by kernel_rfl) ?_ _
      generalize hAD : (if UC = 1 then (some ⟨UA, 0, none⟩ : Option Addr) else some ⟨UA, 2, none⟩) = AD at *
      have HAR := Lib.hid (show RnArg w1 (.slice AD r0.length (UC - 1)) r0 by rw [← hAD]; have := RnArg.cut HR.out 1 (by simp) hcap.2.1 (by simp); simpa using this)
      have hBs := BA2.out.size
      have HK := Lib.hid (show RnRow wA2 w1.heap.size (.slice (some ⟨WD.heap.size, 0, none⟩) 1 1) [(x0, x1)] from rn_one XA2.out (by rw [hWS.out]; exact Nat.le_refl _))
      have HBW := Lib.hid (show Below w1.heap.size w1 wA2 from hWB.out.trans (by rw [← hWS.out]; exact BA2.out))
      have hUC : r0.length ≤ UC - 1 := by have := hcap.2.1; simp at this; omega
      clear hAD hcap HC R1 HR S0 G0 SA2 XA2 BA2 hWB
      try clear hH1
      go_wp2
      go_step3
      go_wp2
      generalize UC - 1 = UC at *
      go_loopg [6, 7] r0.length (fun n kp rs wr => ∃ (P : List Rn) (z : Rn) (r : List Rn) (AR : Option Addr) (c : Nat), n = r.length ∧ rs = .slice AR r.length c ∧ r.length ≤ c ∧ Hid (FlI k F P z r) ∧ Hid (RnRow wr w1.heap.size kp (P ++ [z])) ∧ Hid (RnArg w1 (.slice AR r.length c) r) ∧ Hid (Below w1.heap.size w1 wr))
      case atStart => exact ⟨[], (x0, x1), r0, AD, UC, rfl, rfl, hUC, I0, HK, HAR, HBW⟩
      case round =>
        obtain ⟨P, z, r, AR, c, hn, rfl, hcr, HI, HX, HA, HB⟩ := hrel
        have hrl : r.length ≤ 262144 := by have := HI.out.2.2.2; omega
        have hw0 := IntWalk.i64_in ((r.length : Int) - 1) (by omega)
        clear HK HAR HBW I0 hUC hle hz hs1 hBs
        obtain ⟨UK, UN, UM, rfl, hUN⟩ := KRow.form HX.out
        clear hUN
        subst hn
        go_wp2
        go_loopg [6, 7, 23] r.length (fun n kp rs i wi => ∃ j : Nat, kp = .slice UK UN UM ∧ rs = .slice AR r.length c ∧ i = .int .i64 j ∧ n + j = r.length ∧ wi = wr ∧ Hid (∀ q (hq : q < r.length), q < j → ¬ r[q].2 < k))
        case atStart => exact ⟨0, rfl, rfl, rfl, rfl, rfl, Lib.hid (fun q hq h => absurd h (by omega))⟩
        case round =>
          obtain ⟨j, rfl, rfl, rfl, hnj, rfl, HM⟩ := hrel
          by_cases hj : j + 1 < r.length
          · obtain ⟨A', c', e, hA⟩ := HA.out
            obtain ⟨rfl, _, rfl⟩ := Value.slice.inj e
            obtain ⟨g, o, rfl, hg, hcl⟩ := hA (by omega)
            have a0 := (HB.out.cell (p := ⟨g, o + j * 2 + 1, none⟩) hg).trans (arg_two hcl j (by omega)).2
            have a1 := (HB.out.cell (p := ⟨g, o + (j + 1) * 2 + 1, none⟩) hg).trans (arg_two hcl (j + 1) hj).2
            have d0 : (j : Int) < (r.length : Int) - 1 := by omega
            have d0' : decide ((j : Int) < (r.length : Int) - 1) = true := decide_eq_true d0
            have hjl : (j : Int) < (r.length : Int) := by omega
            have HJ := Lib.hid hj
            have hgr := Lib.hid hg
            clear hA hcl e hg
            by_cases ht : r[j].2 < k
            · obtain ⟨P', y, eX, hI, y1, y2, b1, c1, ys⟩ := HI.out.step j hj ht HM.out
              have EX := Lib.hid eX
              have HI2 := Lib.hid hI
              have HT := Lib.hid ht
              have ht' : decide (r[j].2 < k) = true := decide_eq_true ht
              have HTK := Lib.hid (RnArg.head (HA.out.keep HB.out) j (by omega) (by omega))
              have hln := HI.out.2.2.2
              have Hln := Lib.hid (show (P ++ [z]).length + (r.take j).length ≤ 262144 by rw [List.length_take]; omega)
              clear eX hI hln
              generalize r[j].2 = bt at *
              generalize r[j + 1].2 = ct at *
              go_wp2_with (first
                | (at_builtin; go_must (refine wpList_append_arg (o := ⟨some 37, _, _, _, _, _⟩) Try.underlying22 run_info rfl (by omega) rnC_size rnC_one rfl (.tmp 33) (.tmp 36) rfl rfl rfl HX.out HTK.out HB.out.size (by have := Hln.out; omega) (by have := Hln.out; omega) ?_; intro v6 w6 r6 b6; rw [EX.out] at r6; obtain ⟨VK, VM, rfl⟩ := KRow.full r6 (by simp); rw [show (P' ++ [y]).length = P'.length + 1 by simp] at r6 ⊢; have R6 := Lib.hid r6; have B6 := Lib.hid b6; clear r6 b6)))
              have a2 := (B6.out.cell (p := ⟨g, o + j * 2 + 1, none⟩) hgr.out).trans a0
              have a3 := (B6.out.cell (p := ⟨g, o + (j + 1) * 2 + 1, none⟩) hgr.out).trans a1
              have a4 := R6.out.cell rnC_size P'.length (by simp) 1 (by omega)
              have a5 := R6.out.frozen (P'.length * 2 + 1)
              have hgl : (P' ++ [y])[P'.length]'(by simp) = y := by simp
              rw [hgl] at a4
              have HM6 := Lib.hid (show P'.length + 1 ≤ 262144 by have := HI2.out.2.2.2; simp at this; omega)
              obtain ⟨y0, yt⟩ := y
              have R7 := Lib.hid (show RnRow (w6.drew.setCell ⟨VK, P'.length * 2 + 1, none⟩ (.int .i64 (yt + (bt + ct)))) w1.heap.size (.slice (some ⟨VK, 0, none⟩) (P'.length + 1) VM) (P' ++ [(y0, yt + (bt + ct))]) from by
                have := KRow.cellSet rnC_size (KRow.drewN R6.out 1) P'.length 1 (by simp) (by omega) (.int .i64 (yt + (bt + ct))) (y0, yt + (bt + ct)) (by rw [hgl]; rfl)
                rw [show (P' ++ [(y0, yt)]).set P'.length (y0, yt + (bt + ct)) = P' ++ [(y0, yt + (bt + ct))] by simp] at this
                exact this)
              have B7 := Lib.hid (show Below w1.heap.size w1 (w6.drew.setCell ⟨VK, P'.length * 2 + 1, none⟩ (.int .i64 (yt + (bt + ct)))) from Below.setCell (HB.out.trans B6.out).drew (KRow.len R6.out).2.2.1 _)
              have f2 : w6.drew.cell? ⟨g, o + j * 2 + 1, none⟩ = some (.int .i64 bt) := a2
              have f3 : w6.drew.cell? ⟨g, o + (j + 1) * 2 + 1, none⟩ = some (.int .i64 ct) := a3
              have f4 : w6.drew.cell? ⟨VK, P'.length * 2 + 1, none⟩ = some (.int .i64 yt) := a4
              have f5 : w6.drew.frozen? ⟨VK, P'.length * 2 + 1, none⟩ = false := a5
              clear a2 a3 a4 a5 hgl a0 a1 R6 B6 HTK HX EX
              have EL := Lib.hid (show (P' ++ [(y0, yt + (bt + ct))]).length = P'.length + 1 by simp)
              generalize hpl : P'.length = m at *
              clear hpl
              have m6 := HM6.out
              have w10 := IntWalk.i64_in (m : Int) (by omega)
              have w11 := IntWalk.i64_in ((j : Int) + 1) (by omega)
              have w12 := IntWalk.i64_in ((j : Int) + 2) (by omega)
              have w13 := IntWalk.i64_in (bt + ct) (by have := HI2.out.2.2.1; omega)
              have w14 := IntWalk.i64_in (yt + (bt + ct)) (by simp only at ys y1; omega)
              have l3 : (m : Int) < (m : Int) + 1 := by omega
              have l4 : (0 : Int) ≤ (j : Int) + 1 := by omega
              have l5 : ((j : Int) + 1).toNat = j + 1 := by omega
              have l6 : (0 : Int) ≤ (j : Int) + 2 := by omega
              have l7 : ((j : Int) + 2).toNat = j + 2 := by omega
              have l1 : (j : Int) + 1 < (r.length : Int) := by omega
              have l2 : (j : Int) + 2 ≤ (r.length : Int) := by omega
              go_still_tail 22, (by kernel_rfl)
              change wpList _ _ _ _ _ w6.drew
              generalize w6.drew = W at *
              have HCR := Lib.hid hcr
              have HAC := Lib.hid (RnArg.cut HA.out (j + 2) (by omega) hcr (by omega))
              by_cases hcj : c = j + 2
              · have HC2 := Lib.hid hcj
                have hcj' : (c = j + 2) = True := eq_true hcj
                clear hcj
                go_wp2
                go_roundg (r.length - (j + 2))
                case rel => exact ⟨P', (y0, yt + (bt + ct)), r.drop (j + 2), some ⟨g, o, none⟩, c - (j + 2), by rw [List.length_drop], by rw [List.length_drop], by rw [List.length_drop]; have := HCR.out; omega, HI2, R7, Lib.hid (by have a := HAC.out; rw [if_pos HC2.out] at a; rw [List.length_drop]; exact a), B7⟩
                case measure => omega
              · have HC2 := Lib.hid hcj
                go_wp2
                go_roundg (r.length - (j + 2))
                case rel => exact ⟨P', (y0, yt + (bt + ct)), r.drop (j + 2), some ⟨g, o + (j + 2) * 2, none⟩, c - (j + 2), by rw [List.length_drop], by rw [List.length_drop], by rw [List.length_drop]; have := HCR.out; omega, HI2, R7, Lib.hid (by have a := HAC.out; rw [if_neg HC2.out] at a; rw [List.length_drop]; exact a), B7⟩
                case measure => omega
            · have HT := Lib.hid ht
              have ht' : decide (r[j].2 < k) = false := decide_eq_false ht
              generalize r[j].2 = bt at a0 ht ht'
              go_wp2
              go_roundg (r.length - (j + 1))
              case rel => exact ⟨j + 1, rfl, rfl, by go_num, by omega, rfl, Lib.hid (fun q hq a => by
                by_cases e : q = j
                · subst e; exact HT.out
                · exact HM.out q hq (by omega))⟩
              case measure => omega
          · have d0 : ¬ (j : Int) < (r.length : Int) - 1 := by omega
            have d0' : decide ((j : Int) < (r.length : Int) - 1) = false := decide_eq_false d0
            have HE := Lib.hid (HI.out.done fun q hq => HM.out q (by omega) (by omega))
            have HTK := Lib.hid (HA.out.keep HB.out)
            have Hln := Lib.hid (HI.out.2.2.2)
            go_wp2_with (first
              | (at_builtin; go_must (refine wpList_append_arg (o := ⟨some 67, _, _, _, _, _⟩) Try.underlying22 run_info rfl (by omega) rnC_size rnC_one rfl (.tmp 65) (.tmp 66) rfl rfl rfl HX.out HTK.out HB.out.size (by have := Hln.out; omega) (by have := Hln.out; omega) ?_; intro v6 w6 r6 b6; rw [HE.out] at r6; obtain ⟨VK, VN, VM, rfl, hVN⟩ := KRow.form r6; clear hVN; have R6 := Lib.hid r6; have B6 := Lib.hid b6; clear r6 b6)))
            try rw [Exit.noGoto_ret]
            go_returns
            exact ⟨_, rfl, R6.out.mono B1.out.size, B1.out.trans ((HB.out.trans B6.out).mono B1.out.size)⟩
end Go.Proofs.Ytemmljngglnccaa
