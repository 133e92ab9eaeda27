/-
  Slice (both).
  extended, whole; clean: the clean capture of a valid one.
  slices.Grow of nil, slices.Concat of two: of names and of waves.
  Select.
  Rename.
  Delay.
  Scale.
-/
import Derived.Test.YtbahijhhcibfaaaZ11
import Derived.Test.YtbahijhhcibfaaaZ13
import Derived.Deep.RegionHeld3
import Derived.Test.YtbahijhhcibfaaaShelf
import Derived.Test.YtbahijhhcibfaaaZ09
namespace Go.Proofs.Ytbahijhhcibfaaa
open Go Go.RowKit Go.Joins
set_option linter.unusedVariables false
set_option linter.unusedSimpArgs false

def slE (N : List ByteArray) (R : List Rn) (f t : Int) : Int := if ckC N R ≠ 0 then ckC N R else if f < 0 ∨ t ≤ f ∨ lg R < t then 2 else 0
theorem slE_n {N : List ByteArray} {R : List Rn} {f t : Int} (h : ¬ ckC N R = 0) : slE N R f t = ckC N R := by unfold slE; rw [if_pos h]
theorem slE_2 {N : List ByteArray} {R : List Rn} {f t : Int} (h : ckC N R = 0) (h1 : f < 0 ∨ t ≤ f ∨ lg R < t) : slE N R f t = 2 := by unfold slE; rw [if_neg (fun x => x h), if_pos h1]
theorem slE_0 {N : List ByteArray} {R : List Rn} {f t : Int} (h : ckC N R = 0) (h1 : ¬ (f < 0 ∨ t ≤ f ∨ lg R < t)) : slE N R f t = 0 := by unfold slE; rw [if_neg (fun x => x h), if_neg h1]
def slN (N : List ByteArray) (R : List Rn) (f t : Int) : List ByteArray := if slE N R f t = 0 then N else []
def slR (N : List ByteArray) (R : List Rn) (f t : Int) : List Rn := if slE N R f t = 0 then prt R f t else []
theorem slN_0 {N : List ByteArray} {R : List Rn} {f t : Int} (h : slE N R f t = 0) : slN N R f t = N ∧ slR N R f t = prt R f t := by unfold slN slR; rw [if_pos h, if_pos h]; exact ⟨rfl, rfl⟩
theorem slN_n {N : List ByteArray} {R : List Rn} {f t : Int} (h : ¬ slE N R f t = 0) : slN N R f t = [] ∧ slR N R f t = [] := by unfold slN slR; rw [if_neg h, if_neg h]; exact ⟨rfl, rfl⟩

/-- Two cells of an old block, behind calls and a store into the next one. -/
theorem heldP {w W W' : World} {b : Nat} {x0 x1 : Value} (h : W.cell? ⟨b, 0, none⟩ = some x0 ∧ W.cell? ⟨b, 1, none⟩ = some x1 ∧ Below w.heap.size w W ∧ b < W.heap.size) (hb : Below W.heap.size W W') : W'.cell? ⟨b, 0, none⟩ = some x0 ∧ W'.cell? ⟨b, 1, none⟩ = some x1 ∧ Below w.heap.size w W' ∧ b < W'.heap.size := held2 h hb
theorem heldPS {w W : World} {b : Nat} {x0 x1 : Value} (h : W.cell? ⟨b, 0, none⟩ = some x0 ∧ W.cell? ⟨b, 1, none⟩ = some x1 ∧ Below w.heap.size w W ∧ b < W.heap.size) (hw : w.heap.size ≤ b + 1) (u v : Value) :
    ((W.setCell ⟨b + 1, 0, none⟩ u).setCell ⟨b + 1, 1, none⟩ v).cell? ⟨b, 0, none⟩ = some x0 ∧ ((W.setCell ⟨b + 1, 0, none⟩ u).setCell ⟨b + 1, 1, none⟩ v).cell? ⟨b, 1, none⟩ = some x1 ∧ Below w.heap.size w ((W.setCell ⟨b + 1, 0, none⟩ u).setCell ⟨b + 1, 1, none⟩ v) ∧ b < ((W.setCell ⟨b + 1, 0, none⟩ u).setCell ⟨b + 1, 1, none⟩ v).heap.size := by
  obtain ⟨h0, h1, h2, h3⟩ := h
  have e : ∀ (X : World) (i j : Nat) (y : Value), (X.setCell ⟨b + 1, i, none⟩ y).cell? ⟨b, j, none⟩ = X.cell? ⟨b, j, none⟩ := fun X i j y => World.cell?_setCell_other _ _ _ _ (fun e => by have := congrArg Addr.block e; simp only at this; omega)
  refine ⟨by rw [e, e]; exact h0, by rw [e, e]; exact h1, Below.setCell (Below.setCell h2 hw _) hw _, by rw [World.size_setCell, World.size_setCell]; exact h3⟩

theorem step_store_at2 {P : Program} {ops : Array Oper} {o : Oper} {a : Act} {w : World} {K : Act → World → Prop} {Q : Exit → Act → World → Prop} {E : Prop} {b : Nat} {T : TypeId} {old : Array Value} (h : RowAt w b T old)
    (cells : Array Value) (x y : Operand) (ty : TypeId) (hgd : o.guard = none) (ho : o.op = .store ty x y) (hx : a.eval x = .pointer (some ⟨b, 0, none⟩)) (hy : a.eval y = .agg cells)
    (hi : (P.info? ty).map (·.size) = some cells.size) (hold : old.size = cells.size) (h1 : cells.toList.all (·.oneCell') = true)
    (hk : ∀ w', RowAt w' b T cells → Below b w w' → (∀ k, k ≠ b → w'.heap[k]? = w.heap[k]?) → K (a.put o.dst undef) w') : if Region.wanted o (yielded ops a.tmps) = true then Oper.wp P o a w K Q else E := by
  have hw : Region.wanted o (yielded ops a.tmps) = true := by simp [Region.wanted, hgd]
  rw [if_pos hw]
  exact wp_store_row ty x y ho b cells hx hy T old h hi hold (by simpa using h1) (hk _ (setRow_heap w b old cells T (0, 0) h) (below_setRow (Below.refl _ _) (Nat.le_refl _) cells) (fun k hk => setRow_other w b cells k hk))
theorem heldQ {w W W' : World} {b : Nat} {x0 x1 : Value} (h : W.cell? ⟨b, 0, none⟩ = some x0 ∧ W.cell? ⟨b, 1, none⟩ = some x1 ∧ Below w.heap.size w W ∧ b < W.heap.size) (hk : ∀ k, k ≠ b + 1 → W'.heap[k]? = W.heap[k]?) (hb : Below (b + 1) W W') (hw : w.heap.size ≤ b + 1 := by omega) :
    W'.cell? ⟨b, 0, none⟩ = some x0 ∧ W'.cell? ⟨b, 1, none⟩ = some x1 ∧ Below w.heap.size w W' ∧ b < W'.heap.size := by
  obtain ⟨h0, h1, h2, h3⟩ := h
  have := hb.size
  exact ⟨(World.cell?_of_block (hk b (by omega))).trans h0, (World.cell?_of_block (hk b (by omega))).trans h1, h2.trans (hb.mono hw), by omega⟩

set_option maxRecDepth 20000 in
set_option maxHeartbeats 8000000 in
theorem slice_any (N : List ByteArray) (R : List Rn) (vN vR : Value) (F T : Int) (w : World) (hN : NmArg w vN N) (hs : szs N) (hR : RnArg w vR R) (hn : R.length ≤ 1099511627776) :
    Calls Try.prog 71 #[.agg #[vN, vR], .int .i64 F, .int .i64 T] w fun e w' => ∃ v1 v2 : Value, e = .returned (.tuple #[.agg #[v1, v2], .int .i64 (slE N R F T)]) ∧ NmRow w' w.heap.size v1 (slN N R F T) ∧ RnRow w' w.heap.size v2 (slR N R F T) ∧ Below w.heap.size w w' := by
  have HK := Lib.hid (fun w' (hb : Below w.heap.size w w') => check_any N R vN vR w' (hN.keep hb) hs (hR.keep hb) hn)
  have HL := Lib.hid (fun h w' (hb : Below w.heap.size w w') => long_any (mk N.length) R vR w' (hR.keep hb) hn (ckC_ok h).2.2.2.2.2)
  have HP := Lib.hid (fun h w' (hb : Below w.heap.size w w') h1 h2 h3 h4 => part_any (mk N.length) R vR F T w' (hR.keep hb) (ckC_ok h).1 (ckC_ok h).2.2.2.2.2 h1 h2 h3 h4)
  have HCp := Lib.hid (fun w' (hb : Below w.heap.size w w') h1 h2 => copied_any N vN w' (hN.keep hb) h1 h2)
  obtain ⟨A1, c1, rfl, hA1, hA1'⟩ := hN.form
  obtain ⟨A2, c2, rfl⟩ := hR.form
  clear hA1' hN hR hA1 hs
  have B0 := Lib.hid ((ba w (.cells #[.slice A1 N.length c1, .slice A2 R.length c2] 25)).alloc (ba w _).size (.cells #[.slice none 0 0, .slice none 0 0] 25))
  have P0 := Lib.hid ((RowAt.new w 25 #[.slice A1 N.length c1, .slice A2 R.length c2]).alloc (.cells #[.slice none 0 0, .slice none 0 0] 25))
  have Q0' := RowAt.new (w.alloc (.cells #[.slice A1 N.length c1, .slice A2 R.length c2] 25)) 25 #[.slice none 0 0, .slice none 0 0]
  rw [World.size_alloc] at Q0'
  have Q0 := Lib.hid Q0'
  clear Q0'
  by_cases hz : ckC N R = 0
  · have hck := ckC_ok hz
    have HL2 := Lib.hid (HL.out hz)
    have HP2 := Lib.hid (HP.out hz)
    have HCp2 := Lib.hid (fun w' hb => HCp.out w' hb (by omega) (fun j h => nm_small hck.2.2.2.2.1 j h))
    have hrg := vr_range hck.2.2.2.2.2
    have E2 := Lib.hid (fun h => slE_2 (f := F) (t := T) hz h); have E0 := Lib.hid (fun h => slE_0 (f := F) (t := T) hz h)
    rw [hz] at HK
    clear hz HL HP HCp hck
    by_cases hbad : F < 0 ∨ T ≤ F ∨ lg R < T
    · have he := E2.out hbad
      have hs := slN_n (N := N) (R := R) (f := F) (t := T) (by rw [he]; decide)
      have HE := Lib.hid he; have HS1 := Lib.hid hs.1; have HS2 := Lib.hid hs.2
      clear he hs E0 E2 HP2 HCp2
      generalize lg R = S at *
      by_cases d1 : F < 0
      · clear hbad
        go_enter Try.func71, Try.ntmps71
        go_wp2_with (first
          | (go_at_call 24; go_must (refine (HK.out _ B0.out).mono ?_; rintro e1 w1 ⟨rfl, b1⟩; have B1 := Lib.hid (B0.out.trans (b1.mono B0.out.size)); have P1 := Lib.hid (P0.out.keep b1); have Q1 := Lib.hid (Q0.out.keep b1); have g0 := P1.out.cell 0; have g1 := P1.out.cell 1; have k0 := Q1.out.cell 0; have k1 := Q1.out.cell 1; have z0 := Q1.out.frozen 0; have z1 := Q1.out.frozen 1; clear b1)))
        have e0 : ((w1.setCell ⟨w.heap.size + 1, 0, none⟩ (.slice none 0 0)).setCell ⟨w.heap.size + 1, 1, none⟩ (.slice none 0 0)).cell? ⟨w.heap.size + 1, 0, none⟩ = some (.slice none 0 0) := (two_set k0 k1).1
        have e1 : ((w1.setCell ⟨w.heap.size + 1, 0, none⟩ (.slice none 0 0)).setCell ⟨w.heap.size + 1, 1, none⟩ (.slice none 0 0)).cell? ⟨w.heap.size + 1, 1, none⟩ = some (.slice none 0 0) := (two_set k0 k1).2
        refine bodyPost_ret (v := .tuple #[.agg #[.slice none 0 0, .slice none 0 0], .int .i64 2]) (by simp [results, Try.results71, go_sem, e0, e1]) rfl ⟨_, _, by rw [HE.out], by rw [HS1.out]; exact KRow.nil _ _, by rw [HS2.out]; exact KRow.nil _ _, Below.setCell (Below.setCell B1.out (Nat.le_succ _) _) (Nat.le_succ _) _⟩
      by_cases d2 : T ≤ F
      · have d1' : decide (T ≤ F) = true := decide_eq_true d2
        clear hbad
        go_enter Try.func71, Try.ntmps71
        go_wp2_with (first
          | (go_at_call 24; go_must (refine (HK.out _ B0.out).mono ?_; rintro e1 w1 ⟨rfl, b1⟩; have B1 := Lib.hid (B0.out.trans (b1.mono B0.out.size)); have P1 := Lib.hid (P0.out.keep b1); have Q1 := Lib.hid (Q0.out.keep b1); have g0 := P1.out.cell 0; have g1 := P1.out.cell 1; have k0 := Q1.out.cell 0; have k1 := Q1.out.cell 1; have z0 := Q1.out.frozen 0; have z1 := Q1.out.frozen 1; clear b1)))
        have e0 : ((w1.setCell ⟨w.heap.size + 1, 0, none⟩ (.slice none 0 0)).setCell ⟨w.heap.size + 1, 1, none⟩ (.slice none 0 0)).cell? ⟨w.heap.size + 1, 0, none⟩ = some (.slice none 0 0) := (two_set k0 k1).1
        have e1 : ((w1.setCell ⟨w.heap.size + 1, 0, none⟩ (.slice none 0 0)).setCell ⟨w.heap.size + 1, 1, none⟩ (.slice none 0 0)).cell? ⟨w.heap.size + 1, 1, none⟩ = some (.slice none 0 0) := (two_set k0 k1).2
        refine bodyPost_ret (v := .tuple #[.agg #[.slice none 0 0, .slice none 0 0], .int .i64 2]) (by simp [results, Try.results71, go_sem, e0, e1]) rfl ⟨_, _, by rw [HE.out], by rw [HS1.out]; exact KRow.nil _ _, by rw [HS2.out]; exact KRow.nil _ _, Below.setCell (Below.setCell B1.out (Nat.le_succ _) _) (Nat.le_succ _) _⟩
      · have d1' : decide (T ≤ F) = false := decide_eq_false d2
        have d3 : S < T := by omega
        clear hbad
        go_enter Try.func71, Try.ntmps71
        go_wp2_with (first
          | (go_at_call 24; go_must (refine (HK.out _ B0.out).mono ?_; rintro e1 w1 ⟨rfl, b1⟩; have B1 := Lib.hid (B0.out.trans (b1.mono B0.out.size)); have P1 := Lib.hid (P0.out.keep b1); have Q1 := Lib.hid (Q0.out.keep b1); have g0 := P1.out.cell 0; have g1 := P1.out.cell 1; clear b1))
          | (go_at_call 52; go_must (refine (HL2.out _ B1.out).mono ?_; rintro e2 w2 ⟨rfl, b2⟩; have B2 := Lib.hid (B1.out.trans (b2.mono B1.out.size)); have Q2 := Lib.hid (Q1.out.keep b2); have k0 := Q2.out.cell 0; have k1 := Q2.out.cell 1; have z0 := Q2.out.frozen 0; have z1 := Q2.out.frozen 1; clear b2)))
        have e0 : ((w2.setCell ⟨w.heap.size + 1, 0, none⟩ (.slice none 0 0)).setCell ⟨w.heap.size + 1, 1, none⟩ (.slice none 0 0)).cell? ⟨w.heap.size + 1, 0, none⟩ = some (.slice none 0 0) := (two_set k0 k1).1
        have e1 : ((w2.setCell ⟨w.heap.size + 1, 0, none⟩ (.slice none 0 0)).setCell ⟨w.heap.size + 1, 1, none⟩ (.slice none 0 0)).cell? ⟨w.heap.size + 1, 1, none⟩ = some (.slice none 0 0) := (two_set k0 k1).2
        refine bodyPost_ret (v := .tuple #[.agg #[.slice none 0 0, .slice none 0 0], .int .i64 2]) (by simp [results, Try.results71, go_sem, e0, e1]) rfl ⟨_, _, by rw [HE.out], by rw [HS1.out]; exact KRow.nil _ _, by rw [HS2.out]; exact KRow.nil _ _, Below.setCell (Below.setCell B2.out (Nat.le_succ _) _) (Nat.le_succ _) _⟩
    · have he := E0.out hbad
      have hs := slN_0 (N := N) (R := R) (f := F) (t := T) he
      have HE := Lib.hid he; have HS1 := Lib.hid hs.1; have HS2 := Lib.hid hs.2
      have HP3 := Lib.hid (fun w' hb => HP2.out w' hb (by omega) (by omega) (by omega) (by omega))
      clear he hs E0 E2 HP2
      generalize lg R = S at *
      have d0 : ¬ F < 0 := by omega
      have d1 : decide (T ≤ F) = false := decide_eq_false (by omega)
      have d3 : ¬ S < T := by omega
      clear hbad
      go_enter Try.func71, Try.ntmps71
      go_wp2_with (first
        | (go_at_call 24; go_must (refine (HK.out _ B0.out).mono ?_; rintro e1 w1 ⟨rfl, b1⟩; have B1 := Lib.hid (B0.out.trans (b1.mono B0.out.size)); have P1 := Lib.hid (P0.out.keep b1); have Q1 := Lib.hid (Q0.out.keep b1); have g0 := P1.out.cell 0; have g1 := P1.out.cell 1; clear b1))
        | (go_at_call 52; go_must (refine (HL2.out _ B1.out).mono ?_; rintro e2 w2 ⟨rfl, b2⟩; have B2 := Lib.hid (B1.out.trans (b2.mono B1.out.size)); have P2 := Lib.hid (P1.out.keep b2); have Q2 := Lib.hid (Q1.out.keep b2); clear b2 g0 g1)))
      have S0 := Lib.hid (show w2.drew.cell? ⟨w.heap.size, 0, none⟩ = some (.slice A1 N.length c1) ∧ w2.drew.cell? ⟨w.heap.size, 1, none⟩ = some (.slice A2 R.length c2) ∧ Below w.heap.size w w2.drew ∧ w.heap.size < w2.drew.heap.size from ⟨P2.out.cell 0, P2.out.cell 1, B2.out.drew, P2.out.lt⟩)
      have q2 := Lib.hid (show RowAt w2.drew (w.heap.size + 1) 25 #[.slice none 0 0, .slice none 0 0] from Q2.out)
      have s2 := Lib.hid (show w.heap.size + 2 ≤ w2.drew.heap.size from Q2.out.lt)
      have HCX := Lib.hid (fun w' (h : w'.cell? ⟨w.heap.size, 0, none⟩ = some (.slice A1 N.length c1) ∧ w'.cell? ⟨w.heap.size, 1, none⟩ = some (.slice A2 R.length c2) ∧ Below w.heap.size w w' ∧ w.heap.size < w'.heap.size) => HCp2.out w' h.2.2.1)
      have HPX := Lib.hid (fun w' (h : w'.cell? ⟨w.heap.size, 0, none⟩ = some (.slice A1 N.length c1) ∧ w'.cell? ⟨w.heap.size, 1, none⟩ = some (.slice A2 R.length c2) ∧ Below w.heap.size w w' ∧ w.heap.size < w'.heap.size) => HP3.out w' h.2.2.1)
      refine wp_region_held_drew (S := fun w' => w'.cell? ⟨w.heap.size, 0, none⟩ = some (.slice A1 N.length c1) ∧ w'.cell? ⟨w.heap.size, 1, none⟩ = some (.slice A2 R.length c2) ∧ Below w.heap.size w w' ∧ w.heap.size < w'.heap.size) (by kernel_rfl) ?_ (fun hH => ?_)
      · exact S0.out
      refine wpAnyH_take (i := 0) (oi := { dst := some 30, op := Go.Op.fieldAddr 25 (Go.Operand.tmp 3) 0, type := 0, pos := "capture.go:108", after := #[], guard := none }) (v := ?_) rfl ?_ ?_ ?_ ?_ (Or.inl ⟨?_, ?_⟩) hH ?_
      rotate_left
      · kernel_rfl
      · kernel_rfl
      · kernel_rfl
      · exact fun _ _ _ h => h
      · kernel_rfl
      · intro wS hSw
        try dsimp only at hSw
        go_simp
        try with_reducible rfl
      try simp only [Act.put, List.setIfInBounds_toArray, List.set_cons_zero, List.set_cons_succ]
      refine wpAnyH_take (i := 1) (oi := { dst := some 31, op := Go.Op.load 22 (Go.Operand.tmp 30), type := 22, pos := "capture.go:108", after := #[{ on := 0, ground := Go.Ground.data }], guard := none }) (v := ?_) rfl ?_ ?_ ?_ ?_ (Or.inl ⟨?_, ?_⟩) hH ?_
      rotate_left
      · kernel_rfl
      · kernel_rfl
      · kernel_rfl
      · exact fun _ _ _ h => h
      · kernel_rfl
      · intro wS hSw
        try dsimp only at hSw
        go_simp
        try with_reducible rfl
      try simp only [Act.put, List.setIfInBounds_toArray, List.set_cons_zero, List.set_cons_succ]
      refine wpAnyH_take (i := 3) (oi := { dst := some 33, op := Go.Op.fieldAddr 25 (Go.Operand.tmp 3) 1, type := 0, pos := "capture.go:108", after := #[], guard := none }) (v := ?_) rfl ?_ ?_ ?_ ?_ (Or.inl ⟨?_, ?_⟩) hH ?_
      rotate_left
      · kernel_rfl
      · kernel_rfl
      · kernel_rfl
      · exact fun _ _ _ h => h
      · kernel_rfl
      · intro wS hSw
        try dsimp only at hSw
        go_simp
        try with_reducible rfl
      try simp only [Act.put, List.setIfInBounds_toArray, List.set_cons_zero, List.set_cons_succ]
      refine wpAnyH_take (i := 4) (oi := { dst := some 34, op := Go.Op.load 23 (Go.Operand.tmp 33), type := 23, pos := "capture.go:108", after := #[{ on := 3, ground := Go.Ground.data }], guard := none }) (v := ?_) rfl ?_ ?_ ?_ ?_ (Or.inl ⟨?_, ?_⟩) hH ?_
      rotate_left
      · kernel_rfl
      · kernel_rfl
      · kernel_rfl
      · exact fun _ _ _ h => h
      · kernel_rfl
      · intro wS hSw
        try dsimp only at hSw
        go_simp
        try with_reducible rfl
      try simp only [Act.put, List.setIfInBounds_toArray, List.set_cons_zero, List.set_cons_succ]
      refine wpAnyH_take (i := 5) (oi := { dst := some 35, op := Go.Op.move (Go.Operand.tmp 1), type := 3, pos := "capture.go:108", after := #[], guard := none }) (v := ?_) rfl ?_ ?_ ?_ ?_ (Or.inl ⟨?_, ?_⟩) hH ?_
      rotate_left
      · kernel_rfl
      · kernel_rfl
      · kernel_rfl
      · exact fun _ _ _ h => h
      · kernel_rfl
      · intro wS hSw
        try dsimp only at hSw
        go_simp
        try with_reducible rfl
      try simp only [Act.put, List.setIfInBounds_toArray, List.set_cons_zero, List.set_cons_succ]
      refine wpAnyH_take (i := 6) (oi := { dst := some 36, op := Go.Op.move (Go.Operand.tmp 2), type := 3, pos := "capture.go:108", after := #[], guard := none }) (v := ?_) rfl ?_ ?_ ?_ ?_ (Or.inl ⟨?_, ?_⟩) hH ?_
      rotate_left
      · kernel_rfl
      · kernel_rfl
      · kernel_rfl
      · exact fun _ _ _ h => h
      · kernel_rfl
      · intro wS hSw
        try dsimp only at hSw
        go_simp
        try with_reducible rfl
      try simp only [Act.put, List.setIfInBounds_toArray, List.set_cons_zero, List.set_cons_succ]
      refine wpAnyH_ready (rs := [2]) (by kernel_rfl) (by simp) ?_
      refine AllReadyH.cons (o := { dst := some 32, op := Go.Op.call { callee := Go.Callee.value (Go.Operand.func 59), args := #[Go.Operand.tmp 31], argTypes := #[22] }, type := 22, pos := "capture.go:108", after := #[{ on := 1, ground := Go.Ground.data }], guard := none }) rfl (fun K hK => ?_) AllReadyH.nil
      go_simp
      refine (HCX.out _ S0.out).mono ?_
      rintro e5 w5 ⟨v5, rfl, r5, b5⟩
      obtain ⟨NA, NN, NC, rfl, rfl⟩ := KRow.form r5
      try go_wp2_with fail
      have h5 := Lib.hid (heldP S0.out b5)
      have q5 := Lib.hid (q2.out.keep b5)
      have R5 := Lib.hid (KRow.mono r5 s2.out)
      have s5 := Lib.hid (Nat.le_trans s2.out b5.size)
      refine hK.out _ _ ?_ (fun hH1 => ?_)
      · exact h5.out
      clear hK K hH r5 b5
      try simp only [Act.put, List.setIfInBounds_toArray, List.set_cons_zero, List.set_cons_succ]
      refine wpAnyH_ready (rs := [7]) (by kernel_rfl) (by simp) ?_
      refine AllReadyH.cons (o := { dst := some 37, op := Go.Op.call { callee := Go.Callee.value (Go.Operand.func 55), args := #[Go.Operand.tmp 34, Go.Operand.tmp 35, Go.Operand.tmp 36], argTypes := #[23, 3, 3] }, type := 23, pos := "capture.go:108", after := #[{ on := 4, ground := Go.Ground.data }, { on := 5, ground := Go.Ground.data }, { on := 6, ground := Go.Ground.data }, { on := 2, ground := Go.Ground.chain }], guard := none }) rfl (fun K hK => ?_) AllReadyH.nil
      go_simp
      refine (HPX.out _ h5.out).mono ?_
      rintro e6 w6 ⟨v6, rfl, r6, b6⟩
      obtain ⟨RA, RN, RC, rfl, rfl⟩ := KRow.form r6
      try go_wp2_with fail
      have h6 := Lib.hid (heldP h5.out b6)
      have q6 := Lib.hid (q5.out.keep b6)
      have R5' := Lib.hid (KRow.keep R5.out b6)
      have R6 := Lib.hid (KRow.mono r6 s5.out)
      refine hK.out _ _ ?_ (fun hH2 => ?_)
      · exact h6.out
      clear hK K hH1 r6 b6
      try simp only [Act.put, List.setIfInBounds_toArray, List.set_cons_zero, List.set_cons_succ]
      refine wpAnyH_take (i := 8) (oi := { dst := some 38, op := Go.Op.build 25 #[(0, Go.Operand.tmp 32), (1, Go.Operand.tmp 37)], type := 25, pos := "capture.go:108", after := #[{ on := 2, ground := Go.Ground.data }, { on := 7, ground := Go.Ground.data }], guard := none }) (v := ?_) rfl ?_ ?_ ?_ ?_ (Or.inl ⟨?_, ?_⟩) hH2 ?_
      rotate_left
      · kernel_rfl
      · kernel_rfl
      · kernel_rfl
      · exact fun _ _ _ h => h
      · kernel_rfl
      · intro wS hSw
        try dsimp only at hSw
        go_simp
        try with_reducible rfl
      try simp only [Act.put, List.setIfInBounds_toArray, List.set_cons_zero, List.set_cons_succ]
      refine wpAnyH_ready (rs := [9]) (by kernel_rfl) (by simp) ?_
      refine AllReadyH.cons (o := { dst := none, op := Go.Op.store 25 (Go.Operand.tmp 6) (Go.Operand.tmp 38), type := 0, pos := "capture.go:108", after := #[{ on := 8, ground := Go.Ground.data }, { on := 7, ground := Go.Ground.chain }, { on := 0, ground := Go.Ground.phase }, { on := 1, ground := Go.Ground.phase }, { on := 2, ground := Go.Ground.phase }, { on := 3, ground := Go.Ground.phase }, { on := 4, ground := Go.Ground.phase }, { on := 5, ground := Go.Ground.phase }, { on := 6, ground := Go.Ground.phase }, { on := 7, ground := Go.Ground.phase }, { on := 8, ground := Go.Ground.phase }], guard := none }) rfl (fun K hK => ?_) AllReadyH.nil
      refine step_store_at2 q6.out #[.slice NA N.length NC, .slice RA (prt R F T).length RC] (.tmp 6) (.tmp 38) 25 rfl rfl rfl rfl (by kernel_rfl) rfl rfl ?_
      intro w8 r8 b8 k8
      have h8 := Lib.hid (heldQ h6.out k8 b8)
      refine hK.out _ _ ?_ (fun hH3 => ?_)
      · exact h8.out
      have X8 := Lib.hid r8
      have N8 := Lib.hid (KRow.others R5'.out k8 (Nat.lt_succ_self _))
      have P8 := Lib.hid (KRow.others R6.out k8 (Nat.lt_succ_self _))
      clear hK K hH2 r8 b8 k8
      try simp only [Act.put, List.setIfInBounds_toArray, List.set_cons_zero, List.set_cons_succ]
      refine wpAnyH_take (i := 10) (oi := { dst := some 7, op := Go.Op.assign (Go.Operand.const (Go.Value.int Go.IntKind.i64 0)), type := 28, pos := "capture.go:108", after := #[{ on := 9, ground := Go.Ground.chain }, { on := 0, ground := Go.Ground.phase }, { on := 1, ground := Go.Ground.phase }, { on := 2, ground := Go.Ground.phase }, { on := 3, ground := Go.Ground.phase }, { on := 4, ground := Go.Ground.phase }, { on := 5, ground := Go.Ground.phase }, { on := 6, ground := Go.Ground.phase }, { on := 7, ground := Go.Ground.phase }, { on := 8, ground := Go.Ground.phase }, { on := 9, ground := Go.Ground.phase }], guard := none }) (v := ?_) rfl ?_ ?_ ?_ ?_ (Or.inl ⟨?_, ?_⟩) hH3 ?_
      rotate_left
      · kernel_rfl
      · kernel_rfl
      · kernel_rfl
      · exact fun _ _ _ h => h
      · kernel_rfl
      · intro wS hSw
        try dsimp only at hSw
        go_simp
        try with_reducible rfl
      try simp only [Act.put, List.setIfInBounds_toArray, List.set_cons_zero, List.set_cons_succ]
      refine wpAnyH_done (by kernel_rfl) ?_ _
      have e0 : w8.cell? ⟨w.heap.size + 1, 0, none⟩ = some (.slice NA N.length NC) := X8.out.cell 0
      have e1 : w8.cell? ⟨w.heap.size + 1, 1, none⟩ = some (.slice RA (prt R F T).length RC) := X8.out.cell 1
      go_wp2
      refine bodyPost_ret (v := .tuple #[.agg #[.slice NA N.length NC, .slice RA (prt R F T).length RC], .int .i64 0]) (by simp [results, Try.results71, go_sem, e0, e1]) rfl ⟨_, _, by rw [HE.out], by rw [HS1.out]; exact N8.out.mono (Nat.le_trans (Nat.le_succ _) (Nat.le_succ _)), by rw [HS2.out]; exact P8.out.mono (Nat.le_trans (Nat.le_succ _) (Nat.le_succ _)), h8.out.2.2.1⟩
  · have he := slE_n (f := F) (t := T) hz
    have hs := slN_n (N := N) (R := R) (f := F) (t := T) (by rw [he]; exact hz)
    have HE := Lib.hid he; have HS1 := Lib.hid hs.1; have HS2 := Lib.hid hs.2
    have hz' : (ckC N R == 0) = false := by simpa using hz
    clear hz he hs HL HP HCp
    generalize ckC N R = r at *
    go_enter Try.func71, Try.ntmps71
    go_wp2_with (first
      | (go_at_call 24; go_must (refine (HK.out _ B0.out).mono ?_; rintro e1 w1 ⟨rfl, b1⟩; have B1 := Lib.hid (B0.out.trans (b1.mono B0.out.size)); have Q1 := Lib.hid (Q0.out.keep b1); have k0 := Q1.out.cell 0; have k1 := Q1.out.cell 1; have z0 := Q1.out.frozen 0; have z1 := Q1.out.frozen 1; clear b1)))
    have e0 : ((w1.setCell ⟨w.heap.size + 1, 0, none⟩ (.slice none 0 0)).setCell ⟨w.heap.size + 1, 1, none⟩ (.slice none 0 0)).cell? ⟨w.heap.size + 1, 0, none⟩ = some (.slice none 0 0) := (two_set k0 k1).1
    have e1 : ((w1.setCell ⟨w.heap.size + 1, 0, none⟩ (.slice none 0 0)).setCell ⟨w.heap.size + 1, 1, none⟩ (.slice none 0 0)).cell? ⟨w.heap.size + 1, 1, none⟩ = some (.slice none 0 0) := (two_set k0 k1).2
    refine bodyPost_ret (v := .tuple #[.agg #[.slice none 0 0, .slice none 0 0], .int .i64 r]) (by simp [results, Try.results71, go_sem, e0, e1]) rfl ⟨_, _, by rw [HE.out], by rw [HS1.out]; exact KRow.nil _ _, by rw [HS2.out]; exact KRow.nil _ _, Below.setCell (Below.setCell B1.out (Nat.le_succ _) _) (Nat.le_succ _) _⟩

end Go.Proofs.Ytbahijhhcibfaaa

namespace Go.Proofs.Ytbahijhhcibfaaa
open Go Go.RowKit Go.Joins
set_option linter.unusedVariables false
set_option linter.unusedSimpArgs false

theorem extended_any (N : List ByteArray) (R : List Rn) (vN vR : Value) (L : Int) (w : World) (hN : NmArg w vN N) (hs : szs N) (hR : RnArg w vR R) (h : ckC N R = 0) (hL : lg R ≤ L) (hm : L ≤ 1099511627776) :
    Calls Try.prog 40 #[.agg #[vN, vR], .int .i64 L] w fun e w' => ∃ v1 v2 : Value, e = .returned (.agg #[v1, v2]) ∧ NmArg w' v1 N ∧ RnArg w' v2 (exP R (L - lg R)) ∧ Below w.heap.size w w' := by
  by_cases he : L = lg R
  · exact extended_same N R vN vR L w hN hs hR h he
  · rcases nil_or_snoc R with rfl | ⟨o, x, hx⟩
    · exact extended_none N vN vR L w hN hs hR h (by have : lg [] = 0 := rfl; omega) hm
    · exact extended_more N o x R hx vN vR L w hN hs hR h (by omega) hm

theorem KRow.apart {α : Type} {enc : α → Array Value} {k : Nat} {T : TypeId} {w w' : World} {B b : Nat} {v : Value} {l : List α} (h : KRow enc k T w B v l) (hk : ∀ q, q ≠ b → w'.heap[q]? = w.heap[q]?) (hb : v.ownBlock ≠ some b) : KRow enc k T w' B v l := by
  refine ⟨h.1, h.2.imp id fun ⟨g, cap, cur, e, h1, h2, h3⟩ => ⟨g, cap, cur, e, h1, ?_, h3⟩⟩
  rw [hk g (fun x => hb (by rw [e, x]; rfl))]; exact h2
theorem KRow.off {α : Type} {enc : α → Array Value} {k : Nat} {T T' : TypeId} {w : World} {B b : Nat} {v : Value} {l : List α} {cs : Array Value} (h : KRow enc k T w B v l) (hx : RowAt w b T' cs) (hT : T ≠ T') : v.ownBlock ≠ some b := by
  intro e
  obtain ⟨_, h2⟩ := h
  rcases h2 with ⟨rfl, _⟩ | ⟨g, cap, cur, rfl, _, hc, _⟩
  · cases e
  · have e1 : g = b := Option.some.inj e
    subst e1
    rw [show w.heap[g]? = _ from hx] at hc
    have := Option.some.inj hc
    injection this with a b
    exact hT b.symm
theorem heldX {w W W' : World} {b bx : Nat} {x0 x1 : Value} (h : W.cell? ⟨b, 0, none⟩ = some x0 ∧ W.cell? ⟨b, 1, none⟩ = some x1 ∧ Below w.heap.size w W ∧ b < W.heap.size) (hk : ∀ k, k ≠ bx → W'.heap[k]? = W.heap[k]?) (hb : Below bx W W') (hx : b + 2 ≤ bx) (hw : w.heap.size ≤ b := by omega) :
    W'.cell? ⟨b, 0, none⟩ = some x0 ∧ W'.cell? ⟨b, 1, none⟩ = some x1 ∧ Below w.heap.size w W' ∧ b < W'.heap.size := by
  obtain ⟨h0, h1, h2, h3⟩ := h
  have := hb.size
  exact ⟨(World.cell?_of_block (hk b (by omega))).trans h0, (World.cell?_of_block (hk b (by omega))).trans h1, h2.trans (hb.mono (by omega)), by omega⟩
theorem prt_whole {R : List Rn} (h : ps R) : prt R 0 (lg R) = jn R := by unfold prt; rw [sl_all h (Int.le_refl _) (by omega)]

set_option maxRecDepth 100000 in
set_option maxHeartbeats 8000000 in
theorem clean12_any (N : List ByteArray) (R : List Rn) (vN vR : Value) (w : World) (hN : NmArg w vN N) (hs : szs N) (hR : RnArg w vR R) (h : ckC N R = 0) :
    Calls Try.prog 44 #[.agg #[vN, vR]] w fun e w' => ∃ v1 v2 : Value, e = .returned (.agg #[v1, v2]) ∧ (∀ B, B ≤ w.heap.size → NmRow w B vN N → RnRow w B vR R → NmRow w' B v1 N ∧ RnRow w' B v2 (jn R)) ∧ NmArg w' v1 N ∧ RnArg w' v2 (jn R) ∧ Below w.heap.size w w' := by
  have hck := ckC_ok h
  have hps := ((vr_iff _ R 0 (by omega)).1 hck.2.2.2.2.2).2.1
  have hrg := vr_range hck.2.2.2.2.2
  have HL := Lib.hid (fun w' (hb : Below w.heap.size w w') => longC_any N R vN vR w' (hN.keep hb) hs (hR.keep hb) (by omega))
  rw [lgC_yes h] at HL
  have HS0 := Lib.hid (fun w' (hb : Below w.heap.size w w') => slice_any N R vN vR 0 (lg R) w' (hN.keep hb) hs (hR.keep hb) (by omega))
  have HNA := Lib.hid hN
  have HRA := Lib.hid hR
  obtain ⟨A1, c1, rfl, _⟩ := hN.form
  obtain ⟨A2, c2, rfl⟩ := hR.form
  have B0 := Lib.hid ((ba w (.cells #[.slice A1 N.length c1, .slice A2 R.length c2] 25)).alloc (ba w _).size (.cells #[.slice none 0 0, .slice none 0 0] 25))
  have P0 := Lib.hid ((RowAt.new w 25 #[.slice A1 N.length c1, .slice A2 R.length c2]).alloc (.cells #[.slice none 0 0, .slice none 0 0] 25))
  have Q0' := RowAt.new (w.alloc (.cells #[.slice A1 N.length c1, .slice A2 R.length c2] 25)) 25 #[.slice none 0 0, .slice none 0 0]
  rw [World.size_alloc] at Q0'
  obtain ⟨W1, hW1⟩ : ∃ W1, W1 = (w.alloc (.cells #[.slice A1 N.length c1, .slice A2 R.length c2] 25)).alloc (.cells #[.slice none 0 0, .slice none 0 0] 25) := ⟨_, rfl⟩
  rw [← hW1] at B0 P0 Q0'
  have Q1 := Lib.hid Q0'
  clear Q0' hN hR hs
  by_cases h0 : R.length = 0
  · have e0 : R = [] := List.eq_nil_of_length_eq_zero h0
    subst e0
    have hz : (((([] : List Rn).length : Nat) : Int) == 0) = true := rfl
    have g0 := P0.out.cell 0
    have g1 := P0.out.cell 1
    have k0 := Q1.out.cell 0
    have k1 := Q1.out.cell 1
    have z0 := Q1.out.frozen 0
    have z1 := Q1.out.frozen 1
    subst hW1
    clear HL HS0 hck hps hrg h h0
    go_enter Try.func44, Try.ntmps44
    go_wp2
    have e0 := (two_set (v0 := .slice A1 N.length c1) (v1 := .slice A2 ([] : List Rn).length c2) k0 k1).1
    have e1 := (two_set (v0 := .slice A1 N.length c1) (v1 := .slice A2 ([] : List Rn).length c2) k0 k1).2
    have BF : ∀ o, Below w.heap.size w ((w.alloc (.cells #[.slice A1 N.length c1, .slice A2 ([] : List Rn).length c2] 25)).alloc o) := fun o => (ba w _).alloc (ba w _).size o
    refine bodyPost_ret (v := .agg #[.slice A1 N.length c1, .slice A2 ([] : List Rn).length c2]) (by simp [results, Try.results44, go_sem, e0, e1]) rfl ⟨_, _, rfl, fun B hB h1 h2 => ⟨KRow.keep h1 (BF _), KRow.keep h2 (BF _)⟩, HNA.out.keep (BF _), HRA.out.keep (BF _), BF _⟩
  · have hz : ((R.length : Int) == 0) = false := by rw [beq_eq_false_iff_ne]; omega
    have hl := ps_len hps
    have he : slE N R 0 (lg R) = 0 := slE_0 h (by omega)
    have HSl := Lib.hid (show ∀ w', Below w.heap.size w w' → Calls Try.prog 71 #[.agg #[.slice A1 N.length c1, .slice A2 R.length c2], .int .i64 0, .int .i64 (lg R)] w' fun e w'' => ∃ v1 v2 : Value, e = .returned (.tuple #[.agg #[v1, v2], .int .i64 0]) ∧ NmRow w'' w'.heap.size v1 N ∧ RnRow w'' w'.heap.size v2 (jn R) ∧ Below w'.heap.size w' w'' by
      intro w' hb
      have := HS0.out w' hb
      rw [he, (slN_0 he).1, (slN_0 he).2, prt_whole hps] at this
      exact this)
    have g0 := P0.out.cell 0
    have g1 := P0.out.cell 1
    have S0 := Lib.hid (show W1.drew.cell? ⟨w.heap.size, 0, none⟩ = some (.slice A1 N.length c1) ∧ W1.drew.cell? ⟨w.heap.size, 1, none⟩ = some (.slice A2 R.length c2) ∧ Below w.heap.size w W1.drew ∧ w.heap.size < W1.drew.heap.size from ⟨P0.out.cell 0, P0.out.cell 1, B0.out.drew, P0.out.lt⟩)
    have Q0 := Lib.hid (show RowAt W1.drew (w.heap.size + 1) 25 #[.slice none 0 0, .slice none 0 0] from Q1.out)
    have s0 := Lib.hid (show w.heap.size + 2 ≤ W1.drew.heap.size from Q1.out.lt)
    generalize lg R = G at *
    clear HS0 hck hps hrg h h0 hl he
    go_enter Try.func44, Try.ntmps44
    go_wp2
    rw [← hW1]
    clear hW1 g0 g1
    refine wp_region_held_drew (S := fun w' => w'.cell? ⟨w.heap.size, 0, none⟩ = some (.slice A1 N.length c1) ∧ w'.cell? ⟨w.heap.size, 1, none⟩ = some (.slice A2 R.length c2) ∧ Below w.heap.size w w' ∧ w.heap.size < w'.heap.size) (by kernel_rfl) ?_ (fun hH => ?_)
    · exact S0.out
    generalize W1.drew = WD at *
    refine wpAnyH_take (i := 0) (oi := { dst := some 11, op := Go.Op.load 25 (Go.Operand.tmp 1), type := 25, pos := "remap.go:179", after := #[], guard := none }) (v := ?_) rfl ?_ ?_ ?_ ?_ (Or.inl ⟨?_, ?_⟩) hH ?_
    rotate_left
    · kernel_rfl
    · kernel_rfl
    · kernel_rfl
    · exact fun _ _ _ h => h
    · kernel_rfl
    · intro wS hSw
      try dsimp only at hSw
      go_simp
      try with_reducible rfl
    try simp only [Act.put, List.setIfInBounds_toArray, List.set_cons_zero, List.set_cons_succ]
    refine wpAnyH_take (i := 1) (oi := { dst := some 12, op := Go.Op.load 25 (Go.Operand.tmp 1), type := 25, pos := "remap.go:179", after := #[], guard := none }) (v := ?_) rfl ?_ ?_ ?_ ?_ (Or.inl ⟨?_, ?_⟩) hH ?_
    rotate_left
    · kernel_rfl
    · kernel_rfl
    · kernel_rfl
    · exact fun _ _ _ h => h
    · kernel_rfl
    · intro wS hSw
      try dsimp only at hSw
      go_simp
      try with_reducible rfl
    try simp only [Act.put, List.setIfInBounds_toArray, List.set_cons_zero, List.set_cons_succ]
    refine wpAnyH_ready (rs := [2, 7]) (by kernel_rfl) (by simp) ?_
    refine AllReadyH.cons (o := { dst := some 13, op := Go.Op.call { callee := Go.Callee.value (Go.Operand.func 25), args := #[Go.Operand.tmp 12], argTypes := #[25] }, type := 3, pos := "remap.go:179", after := #[{ on := 1, ground := Go.Ground.data }], guard := none }) rfl (fun K hK => ?_) (AllReadyH.cons (o := { dst := some 3, op := Go.Op.alloc 25, type := 0, pos := "remap.go:179", after := #[], guard := none }) rfl (fun K hK => ?_) AllReadyH.nil)
    · go_simp
      refine (HL.out _ S0.out.2.2.1).mono ?_
      rintro eL2 wL2 ⟨rfl, bL2⟩
      try go_wp2_with fail
      have SL2 := Lib.hid (heldP S0.out bL2)
      have QL2 := Lib.hid (Q0.out.keep bL2)
      have sL2 := Lib.hid (Nat.le_trans s0.out bL2.size)
      clear bL2
      refine hK.out _ _ ?_ (fun hH1 => ?_)
      · exact SL2.out
      clear hK K hH
      try simp only [Act.put, List.setIfInBounds_toArray, List.set_cons_zero, List.set_cons_succ]
      refine wpAnyH_ready (rs := [3, 7]) (by kernel_rfl) (by simp) ?_
      refine AllReadyH.cons (o := { dst := some 14, op := Go.Op.call { callee := Go.Callee.value (Go.Operand.func 71), args := #[Go.Operand.tmp 11, Go.Operand.const (Go.Value.int Go.IntKind.i64 0), Go.Operand.tmp 13], argTypes := #[25, 3, 3] }, type := 29, pos := "remap.go:179", after := #[{ on := 0, ground := Go.Ground.data }, { on := 2, ground := Go.Ground.data }, { on := 2, ground := Go.Ground.chain }], guard := none }) rfl (fun K hK => ?_) (AllReadyH.cons (o := { dst := some 3, op := Go.Op.alloc 25, type := 0, pos := "remap.go:179", after := #[], guard := none }) rfl (fun K hK => ?_) AllReadyH.nil)
      · go_simp
        refine (HSl.out _ SL2.out.2.2.1).mono ?_
        rintro eC4 wC4 ⟨uC4, vC4, rfl, rC4, tC4, bC4⟩
        obtain ⟨NA, NN, NC, rfl, rfl⟩ := KRow.form rC4
        obtain ⟨RA, RN, RC, rfl, rfl⟩ := KRow.form tC4
        try go_wp2_with fail
        have SC4 := Lib.hid (heldP SL2.out bC4)
        have QC4 := Lib.hid (QL2.out.keep bC4)
        have RNC4 := Lib.hid (KRow.mono rC4 sL2.out)
        have RRC4 := Lib.hid (KRow.mono tC4 sL2.out)
        have sC4 := Lib.hid (Nat.le_trans sL2.out bC4.size)
        clear bC4 rC4 tC4
        refine hK.out _ _ ?_ (fun hH3 => ?_)
        · exact SC4.out
        clear hK K hH1
        try simp only [Act.put, List.setIfInBounds_toArray, List.set_cons_zero, List.set_cons_succ]
        refine wpAnyH_take (i := 4) (oi := { dst := some 10, op := Go.Op.move (Go.Operand.tmp 14), type := 29, pos := "remap.go:179", after := #[{ on := 3, ground := Go.Ground.data }], guard := none }) (v := ?_) rfl ?_ ?_ ?_ ?_ (Or.inl ⟨?_, ?_⟩) hH3 ?_
        rotate_left
        · kernel_rfl
        · kernel_rfl
        · kernel_rfl
        · exact fun _ _ _ h => h
        · kernel_rfl
        · intro wS hSw
          try dsimp only at hSw
          go_simp
          try with_reducible rfl
        try simp only [Act.put, List.setIfInBounds_toArray, List.set_cons_zero, List.set_cons_succ]
        refine wpAnyH_take (i := 5) (oi := { dst := some 15, op := Go.Op.extract (Go.Operand.tmp 10) 0, type := 25, pos := "remap.go:179", after := #[{ on := 4, ground := Go.Ground.data }], guard := none }) (v := ?_) rfl ?_ ?_ ?_ ?_ (Or.inl ⟨?_, ?_⟩) hH3 ?_
        rotate_left
        · kernel_rfl
        · kernel_rfl
        · kernel_rfl
        · exact fun _ _ _ h => h
        · kernel_rfl
        · intro wS hSw
          try dsimp only at hSw
          go_simp
          try with_reducible rfl
        try simp only [Act.put, List.setIfInBounds_toArray, List.set_cons_zero, List.set_cons_succ]
        refine wpAnyH_take (i := 6) (oi := { dst := some 16, op := Go.Op.extract (Go.Operand.tmp 10) 1, type := 28, pos := "remap.go:179", after := #[{ on := 4, ground := Go.Ground.data }, { on := 8, ground := Go.Ground.gcOnly Go.Departure.lateStores }], guard := none }) (v := ?_) rfl ?_ ?_ ?_ ?_ (Or.inl ⟨?_, ?_⟩) hH3 ?_
        rotate_left
        · kernel_rfl
        · kernel_rfl
        · kernel_rfl
        · exact fun _ _ _ h => h
        · kernel_rfl
        · intro wS hSw
          try dsimp only at hSw
          go_simp
          try with_reducible rfl
        try simp only [Act.put, List.setIfInBounds_toArray, List.set_cons_zero, List.set_cons_succ]
        refine wpAnyH_ready (rs := [7]) (by kernel_rfl) (by simp) ?_
        refine AllReadyH.cons (o := { dst := some 3, op := Go.Op.alloc 25, type := 0, pos := "remap.go:179", after := #[], guard := none }) rfl (fun K hK => ?_) AllReadyH.nil
        · obtain ⟨wA6, hA6⟩ : ∃ wA6, wA6 = World.alloc wC4 (.cells #[.slice none 0 0, .slice none 0 0] 25) := ⟨_, rfl⟩
          have SA6 := Lib.hid (show wA6.cell? ⟨w.heap.size, 0, none⟩ = some (.slice A1 N.length c1) ∧ wA6.cell? ⟨w.heap.size, 1, none⟩ = some (.slice A2 R.length c2) ∧ Below w.heap.size w wA6 ∧ w.heap.size < wA6.heap.size by rw [hA6]; exact heldP SC4.out (ba _ _))
          have QA6 := Lib.hid (show RowAt wA6 (w.heap.size + 1) 25 #[.slice none 0 0, .slice none 0 0] by rw [hA6]; exact QC4.out.alloc _)
          have XA6 := Lib.hid (show RowAt wA6 wC4.heap.size 25 #[.slice none 0 0, .slice none 0 0] by rw [hA6]; exact RowAt.new _ _ _)
          have sA6 := Lib.hid (show w.heap.size + 2 ≤ wA6.heap.size by rw [hA6, World.size_alloc]; have := sC4.out; omega)
          have xs := Lib.hid (show w.heap.size + 2 ≤ wC4.heap.size from sC4.out)
          have RNA6 := Lib.hid (by have := KRow.alloc RNC4.out (.cells #[.slice none 0 0, .slice none 0 0] 25); rw [← hA6] at this; exact this)
          have RRA6 := Lib.hid (by have := KRow.alloc RRC4.out (.cells #[.slice none 0 0, .slice none 0 0] 25); rw [← hA6] at this; exact this)
          go_simp
          rw [← hA6]
          clear hA6
          generalize wC4.heap.size = bx at *
          refine hK.out _ _ ?_ (fun hH5 => ?_)
          · exact SA6.out
          clear hK K hH3
          try simp only [Act.put, List.setIfInBounds_toArray, List.set_cons_zero, List.set_cons_succ]
          refine wpAnyH_ready (rs := [8]) (by kernel_rfl) (by simp) ?_
          refine AllReadyH.cons (o := { dst := none, op := Go.Op.store 25 (Go.Operand.tmp 3) (Go.Operand.tmp 15), type := 0, pos := "remap.go:179", after := #[{ on := 7, ground := Go.Ground.data }, { on := 5, ground := Go.Ground.data }, { on := 3, ground := Go.Ground.chain }, { on := 0, ground := Go.Ground.phase }, { on := 1, ground := Go.Ground.phase }, { on := 2, ground := Go.Ground.phase }, { on := 3, ground := Go.Ground.phase }, { on := 4, ground := Go.Ground.phase }, { on := 5, ground := Go.Ground.phase }, { on := 6, ground := Go.Ground.textOnly Go.Departure.lateStores }, { on := 7, ground := Go.Ground.phase }], guard := none }) rfl (fun K hK => ?_) AllReadyH.nil
          · refine step_store_at2 XA6.out #[.slice NA N.length NC, .slice RA (jn R).length RC] (.tmp 3) (.tmp 15) 25 rfl rfl rfl rfl (by kernel_rfl) rfl rfl ?_
            intro wT8 rT8 bT8 kT8
            have ST8 := Lib.hid (heldX SA6.out kT8 bT8 xs.out)
            have QT8 := Lib.hid (show RowAt wT8 (w.heap.size + 1) 25 #[.slice none 0 0, .slice none 0 0] from (kT8 (w.heap.size + 1) (by have := xs.out; omega)).trans QA6.out)
            have XT8 := Lib.hid rT8
            have RNT8 := Lib.hid (KRow.apart RNA6.out kT8 (KRow.off RNA6.out XA6.out (by decide)))
            have RRT8 := Lib.hid (KRow.apart RRA6.out kT8 (KRow.off RRA6.out XA6.out (by decide)))
            clear rT8 bT8 kT8
            refine hK.out _ _ ?_ (fun hH7 => ?_)
            · exact ST8.out
            clear hK K hH5
            try simp only [Act.put, List.setIfInBounds_toArray, List.set_cons_zero, List.set_cons_succ]
            refine wpAnyH_take (i := 9) (oi := { dst := some 4, op := Go.Op.assign (Go.Operand.tmp 16), type := 28, pos := "remap.go:179", after := #[{ on := 6, ground := Go.Ground.data }, { on := 8, ground := Go.Ground.chain }, { on := 0, ground := Go.Ground.phase }, { on := 1, ground := Go.Ground.phase }, { on := 2, ground := Go.Ground.phase }, { on := 3, ground := Go.Ground.phase }, { on := 4, ground := Go.Ground.phase }, { on := 5, ground := Go.Ground.phase }, { on := 6, ground := Go.Ground.phase }, { on := 7, ground := Go.Ground.phase }, { on := 8, ground := Go.Ground.phase }], guard := none }) (v := ?_) rfl ?_ ?_ ?_ ?_ (Or.inl ⟨?_, ?_⟩) hH7 ?_
            rotate_left
            · kernel_rfl
            · kernel_rfl
            · kernel_rfl
            · exact fun _ _ _ h => h
            · kernel_rfl
            · intro wS hSw
              try dsimp only at hSw
              go_simp
              try with_reducible rfl
            try simp only [Act.put, List.setIfInBounds_toArray, List.set_cons_zero, List.set_cons_succ]
            refine wpAnyH_done (by kernel_rfl) ?_ _
            have y0 : wT8.cell? ⟨bx, 0, none⟩ = some (.slice NA N.length NC) := XT8.out.cell 0
            have y1 : wT8.cell? ⟨bx, 1, none⟩ = some (.slice RA (jn R).length RC) := XT8.out.cell 1
            have k0 := QT8.out.cell 0
            have k1 := QT8.out.cell 1
            have z0 := QT8.out.frozen 0
            have z1 := QT8.out.frozen 1
            go_wp2
            have e0 := (two_set (v0 := .slice NA N.length NC) (v1 := .slice RA (jn R).length RC) k0 k1).1
            have e1 := (two_set (v0 := .slice NA N.length NC) (v1 := .slice RA (jn R).length RC) k0 k1).2
            refine bodyPost_ret (v := .agg #[.slice NA N.length NC, .slice RA (jn R).length RC]) (by simp [results, Try.results44, go_sem, e0, e1]) rfl ⟨_, _, rfl, fun B hB _ _ => ⟨KRow.mono (KRow.set2 RNT8.out (Nat.lt_succ_self _) _ _) (by omega), KRow.mono (KRow.set2 RRT8.out (Nat.lt_succ_self _) _ _) (by omega)⟩, KRow.name (KRow.set2 RNT8.out (Nat.lt_succ_self _) _ _), KRow.arg rnC_size (KRow.set2 RRT8.out (Nat.lt_succ_self _) _ _), Below.setCell (Below.setCell ST8.out.2.2.1 (Nat.le_succ _) _) (Nat.le_succ _) _⟩
      · obtain ⟨wA10, hA10⟩ : ∃ wA10, wA10 = World.alloc wL2 (.cells #[.slice none 0 0, .slice none 0 0] 25) := ⟨_, rfl⟩
        have SA10 := Lib.hid (show wA10.cell? ⟨w.heap.size, 0, none⟩ = some (.slice A1 N.length c1) ∧ wA10.cell? ⟨w.heap.size, 1, none⟩ = some (.slice A2 R.length c2) ∧ Below w.heap.size w wA10 ∧ w.heap.size < wA10.heap.size by rw [hA10]; exact heldP SL2.out (ba _ _))
        have QA10 := Lib.hid (show RowAt wA10 (w.heap.size + 1) 25 #[.slice none 0 0, .slice none 0 0] by rw [hA10]; exact QL2.out.alloc _)
        have XA10 := Lib.hid (show RowAt wA10 wL2.heap.size 25 #[.slice none 0 0, .slice none 0 0] by rw [hA10]; exact RowAt.new _ _ _)
        have sA10 := Lib.hid (show w.heap.size + 2 ≤ wA10.heap.size by rw [hA10, World.size_alloc]; have := sL2.out; omega)
        have xs := Lib.hid (show w.heap.size + 2 ≤ wL2.heap.size from sL2.out)
        go_simp
        rw [← hA10]
        clear hA10
        generalize wL2.heap.size = bx at *
        refine hK.out _ _ ?_ (fun hH9 => ?_)
        · exact SA10.out
        clear hK K hH1
        try simp only [Act.put, List.setIfInBounds_toArray, List.set_cons_zero, List.set_cons_succ]
        refine wpAnyH_ready (rs := [3]) (by kernel_rfl) (by simp) ?_
        refine AllReadyH.cons (o := { dst := some 14, op := Go.Op.call { callee := Go.Callee.value (Go.Operand.func 71), args := #[Go.Operand.tmp 11, Go.Operand.const (Go.Value.int Go.IntKind.i64 0), Go.Operand.tmp 13], argTypes := #[25, 3, 3] }, type := 29, pos := "remap.go:179", after := #[{ on := 0, ground := Go.Ground.data }, { on := 2, ground := Go.Ground.data }, { on := 2, ground := Go.Ground.chain }], guard := none }) rfl (fun K hK => ?_) AllReadyH.nil
        · go_simp
          refine (HSl.out _ SA10.out.2.2.1).mono ?_
          rintro eC12 wC12 ⟨uC12, vC12, rfl, rC12, tC12, bC12⟩
          obtain ⟨NA, NN, NC, rfl, rfl⟩ := KRow.form rC12
          obtain ⟨RA, RN, RC, rfl, rfl⟩ := KRow.form tC12
          try go_wp2_with fail
          have SC12 := Lib.hid (heldP SA10.out bC12)
          have QC12 := Lib.hid (QA10.out.keep bC12)
          have RNC12 := Lib.hid (KRow.mono rC12 sA10.out)
          have RRC12 := Lib.hid (KRow.mono tC12 sA10.out)
          have sC12 := Lib.hid (Nat.le_trans sA10.out bC12.size)
          have XC12 := Lib.hid (XA10.out.keep bC12)
          clear bC12 rC12 tC12
          refine hK.out _ _ ?_ (fun hH11 => ?_)
          · exact SC12.out
          clear hK K hH9
          try simp only [Act.put, List.setIfInBounds_toArray, List.set_cons_zero, List.set_cons_succ]
          refine wpAnyH_take (i := 4) (oi := { dst := some 10, op := Go.Op.move (Go.Operand.tmp 14), type := 29, pos := "remap.go:179", after := #[{ on := 3, ground := Go.Ground.data }], guard := none }) (v := ?_) rfl ?_ ?_ ?_ ?_ (Or.inl ⟨?_, ?_⟩) hH11 ?_
          rotate_left
          · kernel_rfl
          · kernel_rfl
          · kernel_rfl
          · exact fun _ _ _ h => h
          · kernel_rfl
          · intro wS hSw
            try dsimp only at hSw
            go_simp
            try with_reducible rfl
          try simp only [Act.put, List.setIfInBounds_toArray, List.set_cons_zero, List.set_cons_succ]
          refine wpAnyH_take (i := 5) (oi := { dst := some 15, op := Go.Op.extract (Go.Operand.tmp 10) 0, type := 25, pos := "remap.go:179", after := #[{ on := 4, ground := Go.Ground.data }], guard := none }) (v := ?_) rfl ?_ ?_ ?_ ?_ (Or.inl ⟨?_, ?_⟩) hH11 ?_
          rotate_left
          · kernel_rfl
          · kernel_rfl
          · kernel_rfl
          · exact fun _ _ _ h => h
          · kernel_rfl
          · intro wS hSw
            try dsimp only at hSw
            go_simp
            try with_reducible rfl
          try simp only [Act.put, List.setIfInBounds_toArray, List.set_cons_zero, List.set_cons_succ]
          refine wpAnyH_take (i := 6) (oi := { dst := some 16, op := Go.Op.extract (Go.Operand.tmp 10) 1, type := 28, pos := "remap.go:179", after := #[{ on := 4, ground := Go.Ground.data }, { on := 8, ground := Go.Ground.gcOnly Go.Departure.lateStores }], guard := none }) (v := ?_) rfl ?_ ?_ ?_ ?_ (Or.inl ⟨?_, ?_⟩) hH11 ?_
          rotate_left
          · kernel_rfl
          · kernel_rfl
          · kernel_rfl
          · exact fun _ _ _ h => h
          · kernel_rfl
          · intro wS hSw
            try dsimp only at hSw
            go_simp
            try with_reducible rfl
          try simp only [Act.put, List.setIfInBounds_toArray, List.set_cons_zero, List.set_cons_succ]
          refine wpAnyH_ready (rs := [8]) (by kernel_rfl) (by simp) ?_
          refine AllReadyH.cons (o := { dst := none, op := Go.Op.store 25 (Go.Operand.tmp 3) (Go.Operand.tmp 15), type := 0, pos := "remap.go:179", after := #[{ on := 7, ground := Go.Ground.data }, { on := 5, ground := Go.Ground.data }, { on := 3, ground := Go.Ground.chain }, { on := 0, ground := Go.Ground.phase }, { on := 1, ground := Go.Ground.phase }, { on := 2, ground := Go.Ground.phase }, { on := 3, ground := Go.Ground.phase }, { on := 4, ground := Go.Ground.phase }, { on := 5, ground := Go.Ground.phase }, { on := 6, ground := Go.Ground.textOnly Go.Departure.lateStores }, { on := 7, ground := Go.Ground.phase }], guard := none }) rfl (fun K hK => ?_) AllReadyH.nil
          · refine step_store_at2 XC12.out #[.slice NA N.length NC, .slice RA (jn R).length RC] (.tmp 3) (.tmp 15) 25 rfl rfl rfl rfl (by kernel_rfl) rfl rfl ?_
            intro wT14 rT14 bT14 kT14
            have ST14 := Lib.hid (heldX SC12.out kT14 bT14 xs.out)
            have QT14 := Lib.hid (show RowAt wT14 (w.heap.size + 1) 25 #[.slice none 0 0, .slice none 0 0] from (kT14 (w.heap.size + 1) (by have := xs.out; omega)).trans QC12.out)
            have XT14 := Lib.hid rT14
            have RNT14 := Lib.hid (KRow.apart RNC12.out kT14 (KRow.off RNC12.out XC12.out (by decide)))
            have RRT14 := Lib.hid (KRow.apart RRC12.out kT14 (KRow.off RRC12.out XC12.out (by decide)))
            clear rT14 bT14 kT14
            refine hK.out _ _ ?_ (fun hH13 => ?_)
            · exact ST14.out
            clear hK K hH11
            try simp only [Act.put, List.setIfInBounds_toArray, List.set_cons_zero, List.set_cons_succ]
            refine wpAnyH_take (i := 9) (oi := { dst := some 4, op := Go.Op.assign (Go.Operand.tmp 16), type := 28, pos := "remap.go:179", after := #[{ on := 6, ground := Go.Ground.data }, { on := 8, ground := Go.Ground.chain }, { on := 0, ground := Go.Ground.phase }, { on := 1, ground := Go.Ground.phase }, { on := 2, ground := Go.Ground.phase }, { on := 3, ground := Go.Ground.phase }, { on := 4, ground := Go.Ground.phase }, { on := 5, ground := Go.Ground.phase }, { on := 6, ground := Go.Ground.phase }, { on := 7, ground := Go.Ground.phase }, { on := 8, ground := Go.Ground.phase }], guard := none }) (v := ?_) rfl ?_ ?_ ?_ ?_ (Or.inl ⟨?_, ?_⟩) hH13 ?_
            rotate_left
            · kernel_rfl
            · kernel_rfl
            · kernel_rfl
            · exact fun _ _ _ h => h
            · kernel_rfl
            · intro wS hSw
              try dsimp only at hSw
              go_simp
              try with_reducible rfl
            try simp only [Act.put, List.setIfInBounds_toArray, List.set_cons_zero, List.set_cons_succ]
            refine wpAnyH_done (by kernel_rfl) ?_ _
            have y0 : wT14.cell? ⟨bx, 0, none⟩ = some (.slice NA N.length NC) := XT14.out.cell 0
            have y1 : wT14.cell? ⟨bx, 1, none⟩ = some (.slice RA (jn R).length RC) := XT14.out.cell 1
            have k0 := QT14.out.cell 0
            have k1 := QT14.out.cell 1
            have z0 := QT14.out.frozen 0
            have z1 := QT14.out.frozen 1
            go_wp2
            have e0 := (two_set (v0 := .slice NA N.length NC) (v1 := .slice RA (jn R).length RC) k0 k1).1
            have e1 := (two_set (v0 := .slice NA N.length NC) (v1 := .slice RA (jn R).length RC) k0 k1).2
            refine bodyPost_ret (v := .agg #[.slice NA N.length NC, .slice RA (jn R).length RC]) (by simp [results, Try.results44, go_sem, e0, e1]) rfl ⟨_, _, rfl, fun B hB _ _ => ⟨KRow.mono (KRow.set2 RNT14.out (Nat.lt_succ_self _) _ _) (by omega), KRow.mono (KRow.set2 RRT14.out (Nat.lt_succ_self _) _ _) (by omega)⟩, KRow.name (KRow.set2 RNT14.out (Nat.lt_succ_self _) _ _), KRow.arg rnC_size (KRow.set2 RRT14.out (Nat.lt_succ_self _) _ _), Below.setCell (Below.setCell ST14.out.2.2.1 (Nat.le_succ _) _) (Nat.le_succ _) _⟩
    · obtain ⟨wA16, hA16⟩ : ∃ wA16, wA16 = World.alloc WD (.cells #[.slice none 0 0, .slice none 0 0] 25) := ⟨_, rfl⟩
      have SA16 := Lib.hid (show wA16.cell? ⟨w.heap.size, 0, none⟩ = some (.slice A1 N.length c1) ∧ wA16.cell? ⟨w.heap.size, 1, none⟩ = some (.slice A2 R.length c2) ∧ Below w.heap.size w wA16 ∧ w.heap.size < wA16.heap.size by rw [hA16]; exact heldP S0.out (ba _ _))
      have QA16 := Lib.hid (show RowAt wA16 (w.heap.size + 1) 25 #[.slice none 0 0, .slice none 0 0] by rw [hA16]; exact Q0.out.alloc _)
      have XA16 := Lib.hid (show RowAt wA16 WD.heap.size 25 #[.slice none 0 0, .slice none 0 0] by rw [hA16]; exact RowAt.new _ _ _)
      have sA16 := Lib.hid (show w.heap.size + 2 ≤ wA16.heap.size by rw [hA16, World.size_alloc]; have := s0.out; omega)
      have xs := Lib.hid (show w.heap.size + 2 ≤ WD.heap.size from s0.out)
      go_simp
      rw [← hA16]
      clear hA16
      generalize WD.heap.size = bx at *
      refine hK.out _ _ ?_ (fun hH15 => ?_)
      · exact SA16.out
      clear hK K hH
      try simp only [Act.put, List.setIfInBounds_toArray, List.set_cons_zero, List.set_cons_succ]
      refine wpAnyH_ready (rs := [2]) (by kernel_rfl) (by simp) ?_
      refine AllReadyH.cons (o := { dst := some 13, op := Go.Op.call { callee := Go.Callee.value (Go.Operand.func 25), args := #[Go.Operand.tmp 12], argTypes := #[25] }, type := 3, pos := "remap.go:179", after := #[{ on := 1, ground := Go.Ground.data }], guard := none }) rfl (fun K hK => ?_) AllReadyH.nil
      · go_simp
        refine (HL.out _ SA16.out.2.2.1).mono ?_
        rintro eL18 wL18 ⟨rfl, bL18⟩
        try go_wp2_with fail
        have SL18 := Lib.hid (heldP SA16.out bL18)
        have QL18 := Lib.hid (QA16.out.keep bL18)
        have sL18 := Lib.hid (Nat.le_trans sA16.out bL18.size)
        have XL18 := Lib.hid (XA16.out.keep bL18)
        clear bL18
        refine hK.out _ _ ?_ (fun hH17 => ?_)
        · exact SL18.out
        clear hK K hH15
        try simp only [Act.put, List.setIfInBounds_toArray, List.set_cons_zero, List.set_cons_succ]
        refine wpAnyH_ready (rs := [3]) (by kernel_rfl) (by simp) ?_
        refine AllReadyH.cons (o := { dst := some 14, op := Go.Op.call { callee := Go.Callee.value (Go.Operand.func 71), args := #[Go.Operand.tmp 11, Go.Operand.const (Go.Value.int Go.IntKind.i64 0), Go.Operand.tmp 13], argTypes := #[25, 3, 3] }, type := 29, pos := "remap.go:179", after := #[{ on := 0, ground := Go.Ground.data }, { on := 2, ground := Go.Ground.data }, { on := 2, ground := Go.Ground.chain }], guard := none }) rfl (fun K hK => ?_) AllReadyH.nil
        · go_simp
          refine (HSl.out _ SL18.out.2.2.1).mono ?_
          rintro eC20 wC20 ⟨uC20, vC20, rfl, rC20, tC20, bC20⟩
          obtain ⟨NA, NN, NC, rfl, rfl⟩ := KRow.form rC20
          obtain ⟨RA, RN, RC, rfl, rfl⟩ := KRow.form tC20
          try go_wp2_with fail
          have SC20 := Lib.hid (heldP SL18.out bC20)
          have QC20 := Lib.hid (QL18.out.keep bC20)
          have RNC20 := Lib.hid (KRow.mono rC20 sL18.out)
          have RRC20 := Lib.hid (KRow.mono tC20 sL18.out)
          have sC20 := Lib.hid (Nat.le_trans sL18.out bC20.size)
          have XC20 := Lib.hid (XL18.out.keep bC20)
          clear bC20 rC20 tC20
          refine hK.out _ _ ?_ (fun hH19 => ?_)
          · exact SC20.out
          clear hK K hH17
          try simp only [Act.put, List.setIfInBounds_toArray, List.set_cons_zero, List.set_cons_succ]
          refine wpAnyH_take (i := 4) (oi := { dst := some 10, op := Go.Op.move (Go.Operand.tmp 14), type := 29, pos := "remap.go:179", after := #[{ on := 3, ground := Go.Ground.data }], guard := none }) (v := ?_) rfl ?_ ?_ ?_ ?_ (Or.inl ⟨?_, ?_⟩) hH19 ?_
          rotate_left
          · kernel_rfl
          · kernel_rfl
          · kernel_rfl
          · exact fun _ _ _ h => h
          · kernel_rfl
          · intro wS hSw
            try dsimp only at hSw
            go_simp
            try with_reducible rfl
          try simp only [Act.put, List.setIfInBounds_toArray, List.set_cons_zero, List.set_cons_succ]
          refine wpAnyH_take (i := 5) (oi := { dst := some 15, op := Go.Op.extract (Go.Operand.tmp 10) 0, type := 25, pos := "remap.go:179", after := #[{ on := 4, ground := Go.Ground.data }], guard := none }) (v := ?_) rfl ?_ ?_ ?_ ?_ (Or.inl ⟨?_, ?_⟩) hH19 ?_
          rotate_left
          · kernel_rfl
          · kernel_rfl
          · kernel_rfl
          · exact fun _ _ _ h => h
          · kernel_rfl
          · intro wS hSw
            try dsimp only at hSw
            go_simp
            try with_reducible rfl
          try simp only [Act.put, List.setIfInBounds_toArray, List.set_cons_zero, List.set_cons_succ]
          refine wpAnyH_take (i := 6) (oi := { dst := some 16, op := Go.Op.extract (Go.Operand.tmp 10) 1, type := 28, pos := "remap.go:179", after := #[{ on := 4, ground := Go.Ground.data }, { on := 8, ground := Go.Ground.gcOnly Go.Departure.lateStores }], guard := none }) (v := ?_) rfl ?_ ?_ ?_ ?_ (Or.inl ⟨?_, ?_⟩) hH19 ?_
          rotate_left
          · kernel_rfl
          · kernel_rfl
          · kernel_rfl
          · exact fun _ _ _ h => h
          · kernel_rfl
          · intro wS hSw
            try dsimp only at hSw
            go_simp
            try with_reducible rfl
          try simp only [Act.put, List.setIfInBounds_toArray, List.set_cons_zero, List.set_cons_succ]
          refine wpAnyH_ready (rs := [8]) (by kernel_rfl) (by simp) ?_
          refine AllReadyH.cons (o := { dst := none, op := Go.Op.store 25 (Go.Operand.tmp 3) (Go.Operand.tmp 15), type := 0, pos := "remap.go:179", after := #[{ on := 7, ground := Go.Ground.data }, { on := 5, ground := Go.Ground.data }, { on := 3, ground := Go.Ground.chain }, { on := 0, ground := Go.Ground.phase }, { on := 1, ground := Go.Ground.phase }, { on := 2, ground := Go.Ground.phase }, { on := 3, ground := Go.Ground.phase }, { on := 4, ground := Go.Ground.phase }, { on := 5, ground := Go.Ground.phase }, { on := 6, ground := Go.Ground.textOnly Go.Departure.lateStores }, { on := 7, ground := Go.Ground.phase }], guard := none }) rfl (fun K hK => ?_) AllReadyH.nil
          · refine step_store_at2 XC20.out #[.slice NA N.length NC, .slice RA (jn R).length RC] (.tmp 3) (.tmp 15) 25 rfl rfl rfl rfl (by kernel_rfl) rfl rfl ?_
            intro wT22 rT22 bT22 kT22
            have ST22 := Lib.hid (heldX SC20.out kT22 bT22 xs.out)
            have QT22 := Lib.hid (show RowAt wT22 (w.heap.size + 1) 25 #[.slice none 0 0, .slice none 0 0] from (kT22 (w.heap.size + 1) (by have := xs.out; omega)).trans QC20.out)
            have XT22 := Lib.hid rT22
            have RNT22 := Lib.hid (KRow.apart RNC20.out kT22 (KRow.off RNC20.out XC20.out (by decide)))
            have RRT22 := Lib.hid (KRow.apart RRC20.out kT22 (KRow.off RRC20.out XC20.out (by decide)))
            clear rT22 bT22 kT22
            refine hK.out _ _ ?_ (fun hH21 => ?_)
            · exact ST22.out
            clear hK K hH19
            try simp only [Act.put, List.setIfInBounds_toArray, List.set_cons_zero, List.set_cons_succ]
            refine wpAnyH_take (i := 9) (oi := { dst := some 4, op := Go.Op.assign (Go.Operand.tmp 16), type := 28, pos := "remap.go:179", after := #[{ on := 6, ground := Go.Ground.data }, { on := 8, ground := Go.Ground.chain }, { on := 0, ground := Go.Ground.phase }, { on := 1, ground := Go.Ground.phase }, { on := 2, ground := Go.Ground.phase }, { on := 3, ground := Go.Ground.phase }, { on := 4, ground := Go.Ground.phase }, { on := 5, ground := Go.Ground.phase }, { on := 6, ground := Go.Ground.phase }, { on := 7, ground := Go.Ground.phase }, { on := 8, ground := Go.Ground.phase }], guard := none }) (v := ?_) rfl ?_ ?_ ?_ ?_ (Or.inl ⟨?_, ?_⟩) hH21 ?_
            rotate_left
            · kernel_rfl
            · kernel_rfl
            · kernel_rfl
            · exact fun _ _ _ h => h
            · kernel_rfl
            · intro wS hSw
              try dsimp only at hSw
              go_simp
              try with_reducible rfl
            try simp only [Act.put, List.setIfInBounds_toArray, List.set_cons_zero, List.set_cons_succ]
            refine wpAnyH_done (by kernel_rfl) ?_ _
            have y0 : wT22.cell? ⟨bx, 0, none⟩ = some (.slice NA N.length NC) := XT22.out.cell 0
            have y1 : wT22.cell? ⟨bx, 1, none⟩ = some (.slice RA (jn R).length RC) := XT22.out.cell 1
            have k0 := QT22.out.cell 0
            have k1 := QT22.out.cell 1
            have z0 := QT22.out.frozen 0
            have z1 := QT22.out.frozen 1
            go_wp2
            have e0 := (two_set (v0 := .slice NA N.length NC) (v1 := .slice RA (jn R).length RC) k0 k1).1
            have e1 := (two_set (v0 := .slice NA N.length NC) (v1 := .slice RA (jn R).length RC) k0 k1).2
            refine bodyPost_ret (v := .agg #[.slice NA N.length NC, .slice RA (jn R).length RC]) (by simp [results, Try.results44, go_sem, e0, e1]) rfl ⟨_, _, rfl, fun B hB _ _ => ⟨KRow.mono (KRow.set2 RNT22.out (Nat.lt_succ_self _) _ _) (by omega), KRow.mono (KRow.set2 RRT22.out (Nat.lt_succ_self _) _ _) (by omega)⟩, KRow.name (KRow.set2 RNT22.out (Nat.lt_succ_self _) _ _), KRow.arg rnC_size (KRow.set2 RRT22.out (Nat.lt_succ_self _) _ _), Below.setCell (Below.setCell ST22.out.2.2.1 (Nat.le_succ _) _) (Nat.le_succ _) _⟩
end Go.Proofs.Ytbahijhhcibfaaa

namespace Go.Proofs.Ytbahijhhcibfaaa
open Go Go.RowKit Go.Joins
set_option linter.unusedVariables false
set_option linter.unusedSimpArgs false

theorem grown_row {α : Type} {enc : α → Array Value} {T : TypeId} (w : World) (n G : Nat) (z : Value) (hz : z.cells.size = 1) (hG : n ≤ G) (hm : G ≤ maxLen) (X : Array Value) (hX : X = (([] : List Value).toArray ++ Builtin.zeroCells z.cells (0 + n - 0) ++ Builtin.zeroCells z.cells (G - (0 + n)))) :
    KRow enc 1 T (w.drew.alloc (.cells X T)) w.heap.size (.slice (some ⟨w.heap.size, 0, none⟩) 0 G) [] := by
  refine ⟨rfl, Or.inr ⟨w.heap.size, G, X, rfl, Nat.le_refl _, ?_, Nat.zero_le _, hm, ?_, rfl⟩⟩
  · rw [heap_alloc]; exact if_pos rfl
  · subst hX
    simp only [Array.size_append, size_zeroCells, hz, List.size_toArray, List.length_nil]
    omega

theorem growN_any (n : Nat) (w : World) (hn : n ≤ 65536) :
    Calls Try.prog 68 #[.slice none 0 0, .int .i64 n] w fun e w' => ∃ v : Value, e = .returned v ∧ KRow nmC 1 9 w' w.heap.size v [] ∧ Below w.heap.size w w' := by
  rcases Nat.eq_zero_or_pos n with h0 | h0
  · subst h0
    refine (Any8.slices_Grow_room Try.growN none 0 0 0 w (Nat.le_refl _) (by omega) (by omega) (by omega)).mono ?_
    rintro e w' ⟨rfl, rfl⟩
    exact ⟨_, rfl, KRow.nil _ _, Below.refl _ _⟩
  · obtain ⟨i0, hi0, hz0, hz1, hz2⟩ := info_parts name_info
    have hzs : ((.string ⟨#[]⟩) : Value).cells.size = 1 := rfl
    refine (Any8.slices_Grow_grow Try.growN i0 (.string ⟨#[]⟩) hi0 hz0 (by rw [hz1]; omega) none 0 0 n [] w (Nat.le_refl _) (by omega) (by rw [hz2]; omega) (by omega) (by simp) (fun _ => rfl) (fun a h => by cases h)).mono ?_
    rintro e w' ⟨rfl, rfl⟩
    refine ⟨_, rfl, grown_row w n _ (.string ⟨#[]⟩) hzs (Nat.le_trans (by omega) (grownCap_ge w (0 + n) 0 _)) (grownCap_le_maxLen w (0 + n) 0 _ (by unfold maxLen; omega)) _ rfl, ?_⟩
    exact (Below.refl _ _).drew.alloc (Nat.le_refl _) _

set_option maxRecDepth 100000 in
set_option maxHeartbeats 4000000 in
theorem concatN_rows (X Y : List ByteArray) (vX vY : Value) (g : Nat) (w : World) (h0 : w.cell? ⟨g, 0, none⟩ = some vX) (h1 : w.cell? ⟨g, 1, none⟩ = some vY) (hg : g < w.heap.size) (hX : KArg nmC 1 w vX X) (hY : KArg nmC 1 w vY Y) (hx : X.length ≤ 4096) (hy : Y.length ≤ 4096) :
    Calls Try.prog 39 #[.slice (some ⟨g, 0, none⟩) 2 2] w fun e w' => ∃ v : Value, e = .returned v ∧ KRow nmC 1 9 w' w.heap.size v (X ++ Y) ∧ Below w.heap.size w w' := by
  have HX := Lib.hid hX
  have HY := Lib.hid hY
  obtain ⟨A1, c1, rfl⟩ := hX.form
  obtain ⟨A2, c2, rfl⟩ := hY.form
  have H0 := Lib.hid h0
  have H1 := Lib.hid h1
  have HG := Lib.hid hg
  obtain ⟨p, hp⟩ : ∃ p, p = X.length := ⟨_, rfl⟩
  obtain ⟨q, hq⟩ : ∃ q, q = Y.length := ⟨_, rfl⟩
  rw [← hp] at h0 hx HX H0
  rw [← hq] at h1 hy HY H1
  have HP := Lib.hid hp
  have HQ := Lib.hid hq
  clear hp hq hX hY hg
  have e1 := IntWalk.i64_in (0 + (p : Int)) (by omega)
  have e2 := IntWalk.i64_in ((p : Int) + q) (by omega)
  have d1 : ¬ ((p : Int) < 0) := by omega
  have d2 : ¬ ((p : Int) + q < 0) := by omega
  have HGr := fun w' => growN_any (p + q) w' (by omega)
  simp only [Int.natCast_add] at HGr
  have HGr := Lib.hid HGr
  clear h0 h1
  go_enter Try.func39, Try.ntmps39
  go_wp2
  go_loop [3, 11] (fun s i => (s = .int .i64 0 ∧ i = .int .i64 0) ∨ (s = .int .i64 p ∧ i = .int .i64 1) ∨ (s = .int .i64 ((p : Int) + q) ∧ i = .int .i64 2)) (fun s i => 2 - (intOf i).toNat)
  case atStart => exact Or.inl ⟨rfl, rfl⟩
  case round =>
    rcases hrel with ⟨rfl, rfl⟩ | ⟨rfl, rfl⟩ | ⟨rfl, rfl⟩
    · have f0 := H0.out
      go_wp2
      go_round
      case rel => exact Or.inr (Or.inl ⟨by go_num, rfl⟩)
      case measure => simp [intOf]
    · have f0 := H1.out
      go_wp2
      go_round
      case rel => exact Or.inr (Or.inr ⟨by go_num, rfl⟩)
      case measure => simp [intOf]
    · go_wp2_with (first
        | (go_at_call 68; go_must (refine (HGr.out _).mono ?_; rintro e5 w5 ⟨v5, rfl, r5, b5⟩; obtain ⟨UA, UN, UC, rfl, rfl⟩ := KRow.form r5; have R5 := Lib.hid r5; have B5 := Lib.hid b5; clear r5 b5)))
      go_loopw [6, 27] (fun v i wr => ∃ Z : List ByteArray, Hid (KRow nmC 1 9 wr w.heap.size v Z) ∧ Hid (Below w.heap.size w wr) ∧ ((i = .int .i64 0 ∧ Hid (Z = [])) ∨ (i = .int .i64 1 ∧ Hid (Z = X)) ∨ (i = .int .i64 2 ∧ Hid (Z = X ++ Y)))) (fun v i wr => 2 - (intOf i).toNat)
      case atStart => exact ⟨[], R5, B5, Or.inl ⟨rfl, Lib.hid rfl⟩⟩
      case round =>
        obtain ⟨Z, HR, HB, hc⟩ := hrel
        have f0 := (HB.out.cell (p := ⟨g, 0, none⟩) HG.out).trans H0.out
        have f1 := (HB.out.cell (p := ⟨g, 1, none⟩) HG.out).trans H1.out
        have KX := Lib.hid (HX.out.keep HB.out)
        have KY := Lib.hid (HY.out.keep HB.out)
        obtain ⟨VA, VN, VC, rfl, hVN⟩ := KRow.form HR.out
        clear hVN
        rcases hc with ⟨rfl, HZ⟩ | ⟨rfl, HZ⟩ | ⟨rfl, HZ⟩
        · go_wp2_with (first
            | (at_builtin; go_must (refine wpList_append_arg Try.underlying22 name_info rfl (by omega) nmC_size nmC_one rfl _ _ rfl rfl rfl HR.out KX.out HB.out.size (by have := HZ.out; have := HP.out; subst Z; simp only [List.length_nil]; omega) (by have := HZ.out; have := HP.out; subst Z; simp only [List.length_nil]; omega) ?_; intro v6 w6 r6 b6; have R6 := Lib.hid (show KRow nmC 1 9 w6 w.heap.size v6 X by have e := HZ.out; rw [e, List.nil_append] at r6; exact r6); have B6 := Lib.hid (HB.out.trans b6); clear r6 b6)))
          go_roundw
          case rel => exact ⟨X, R6, B6, Or.inr (Or.inl ⟨rfl, Lib.hid rfl⟩)⟩
          case measure => simp [intOf]
        · go_wp2_with (first
            | (at_builtin; go_must (refine wpList_append_arg Try.underlying22 name_info rfl (by omega) nmC_size nmC_one rfl _ _ rfl rfl rfl HR.out KY.out HB.out.size (by have := HZ.out; have := HP.out; have := HQ.out; subst Z; omega) (by have := HZ.out; have := HP.out; have := HQ.out; subst Z; omega) ?_; intro v6 w6 r6 b6; have R6 := Lib.hid (show KRow nmC 1 9 w6 w.heap.size v6 (X ++ Y) by have e := HZ.out; rw [e] at r6; exact r6); have B6 := Lib.hid (HB.out.trans b6); clear r6 b6)))
          go_roundw
          case rel => exact ⟨X ++ Y, R6, B6, Or.inr (Or.inr ⟨rfl, Lib.hid rfl⟩)⟩
          case measure => simp [intOf]
        · go_wp2
          go_returns
          exact ⟨_, rfl, by have e := HZ.out; have r := HR.out; rw [e] at r; exact r, HB.out⟩

theorem growW_any (n : Nat) (w : World) (hn : n ≤ 65536) :
    Calls Try.prog 69 #[.slice none 0 0, .int .i64 n] w fun e w' => ∃ v : Value, e = .returned v ∧ KRow slC 1 23 w' w.heap.size v [] ∧ Below w.heap.size w w' := by
  rcases Nat.eq_zero_or_pos n with h0 | h0
  · subst h0
    refine (Any8.slices_Grow_room Try.growW none 0 0 0 w (Nat.le_refl _) (by omega) (by omega) (by omega)).mono ?_
    rintro e w' ⟨rfl, rfl⟩
    exact ⟨_, rfl, KRow.nil _ _, Below.refl _ _⟩
  · obtain ⟨i0, hi0, hz0, hz1, hz2⟩ := info_parts sl_info
    have hzs : ((.slice none 0 0) : Value).cells.size = 1 := rfl
    refine (Any8.slices_Grow_grow Try.growW i0 (.slice none 0 0) hi0 hz0 (by rw [hz1]; omega) none 0 0 n [] w (Nat.le_refl _) (by omega) (by rw [hz2]; omega) (by omega) (by simp) (fun _ => rfl) (fun a h => by cases h)).mono ?_
    rintro e w' ⟨rfl, rfl⟩
    refine ⟨_, rfl, grown_row w n _ (.slice none 0 0) hzs (Nat.le_trans (by omega) (grownCap_ge w (0 + n) 0 _)) (grownCap_le_maxLen w (0 + n) 0 _ (by unfold maxLen; omega)) _ rfl, ?_⟩
    exact (Below.refl _ _).drew.alloc (Nat.le_refl _) _

set_option maxRecDepth 100000 in
set_option maxHeartbeats 4000000 in
theorem concatW_rows (X Y : List Sl) (vX vY : Value) (g : Nat) (w : World) (h0 : w.cell? ⟨g, 0, none⟩ = some vX) (h1 : w.cell? ⟨g, 1, none⟩ = some vY) (hg : g < w.heap.size) (hX : KArg slC 1 w vX X) (hY : KArg slC 1 w vY Y) (hx : X.length ≤ 4096) (hy : Y.length ≤ 4096) :
    Calls Try.prog 41 #[.slice (some ⟨g, 0, none⟩) 2 2] w fun e w' => ∃ v : Value, e = .returned v ∧ KRow slC 1 23 w' w.heap.size v (X ++ Y) ∧ Below w.heap.size w w' := by
  have HX := Lib.hid hX
  have HY := Lib.hid hY
  obtain ⟨A1, c1, rfl⟩ := hX.form
  obtain ⟨A2, c2, rfl⟩ := hY.form
  have H0 := Lib.hid h0
  have H1 := Lib.hid h1
  have HG := Lib.hid hg
  obtain ⟨p, hp⟩ : ∃ p, p = X.length := ⟨_, rfl⟩
  obtain ⟨q, hq⟩ : ∃ q, q = Y.length := ⟨_, rfl⟩
  rw [← hp] at h0 hx HX H0
  rw [← hq] at h1 hy HY H1
  have HP := Lib.hid hp
  have HQ := Lib.hid hq
  clear hp hq hX hY hg
  have e1 := IntWalk.i64_in (0 + (p : Int)) (by omega)
  have e2 := IntWalk.i64_in ((p : Int) + q) (by omega)
  have d1 : ¬ ((p : Int) < 0) := by omega
  have d2 : ¬ ((p : Int) + q < 0) := by omega
  have HGr := fun w' => growW_any (p + q) w' (by omega)
  simp only [Int.natCast_add] at HGr
  have HGr := Lib.hid HGr
  clear h0 h1
  go_enter Try.func41, Try.ntmps41
  go_wp2
  go_loop [3, 11] (fun s i => (s = .int .i64 0 ∧ i = .int .i64 0) ∨ (s = .int .i64 p ∧ i = .int .i64 1) ∨ (s = .int .i64 ((p : Int) + q) ∧ i = .int .i64 2)) (fun s i => 2 - (intOf i).toNat)
  case atStart => exact Or.inl ⟨rfl, rfl⟩
  case round =>
    rcases hrel with ⟨rfl, rfl⟩ | ⟨rfl, rfl⟩ | ⟨rfl, rfl⟩
    · have f0 := H0.out
      go_wp2
      go_round
      case rel => exact Or.inr (Or.inl ⟨by go_num, rfl⟩)
      case measure => simp [intOf]
    · have f0 := H1.out
      go_wp2
      go_round
      case rel => exact Or.inr (Or.inr ⟨by go_num, rfl⟩)
      case measure => simp [intOf]
    · go_wp2_with (first
        | (go_at_call 69; go_must (refine (HGr.out _).mono ?_; rintro e5 w5 ⟨v5, rfl, r5, b5⟩; obtain ⟨UA, UN, UC, rfl, rfl⟩ := KRow.form r5; have R5 := Lib.hid r5; have B5 := Lib.hid b5; clear r5 b5)))
      go_loopw [6, 27] (fun v i wr => ∃ Z : List Sl, Hid (KRow slC 1 23 wr w.heap.size v Z) ∧ Hid (Below w.heap.size w wr) ∧ ((i = .int .i64 0 ∧ Hid (Z = [])) ∨ (i = .int .i64 1 ∧ Hid (Z = X)) ∨ (i = .int .i64 2 ∧ Hid (Z = X ++ Y)))) (fun v i wr => 2 - (intOf i).toNat)
      case atStart => exact ⟨[], R5, B5, Or.inl ⟨rfl, Lib.hid rfl⟩⟩
      case round =>
        obtain ⟨Z, HR, HB, hc⟩ := hrel
        have f0 := (HB.out.cell (p := ⟨g, 0, none⟩) HG.out).trans H0.out
        have f1 := (HB.out.cell (p := ⟨g, 1, none⟩) HG.out).trans H1.out
        have KX := Lib.hid (HX.out.keep HB.out)
        have KY := Lib.hid (HY.out.keep HB.out)
        obtain ⟨VA, VN, VC, rfl, hVN⟩ := KRow.form HR.out
        clear hVN
        rcases hc with ⟨rfl, HZ⟩ | ⟨rfl, HZ⟩ | ⟨rfl, HZ⟩
        · go_wp2_with (first
            | (at_builtin; go_must (refine wpList_append_arg Try.underlying51 sl_info rfl (by omega) slC_size slC_one rfl _ _ rfl rfl rfl HR.out KX.out HB.out.size (by have := HZ.out; have := HP.out; subst Z; simp only [List.length_nil]; omega) (by have := HZ.out; have := HP.out; subst Z; simp only [List.length_nil]; omega) ?_; intro v6 w6 r6 b6; have R6 := Lib.hid (show KRow slC 1 23 w6 w.heap.size v6 X by have e := HZ.out; rw [e, List.nil_append] at r6; exact r6); have B6 := Lib.hid (HB.out.trans b6); clear r6 b6)))
          go_roundw
          case rel => exact ⟨X, R6, B6, Or.inr (Or.inl ⟨rfl, Lib.hid rfl⟩)⟩
          case measure => simp [intOf]
        · go_wp2_with (first
            | (at_builtin; go_must (refine wpList_append_arg Try.underlying51 sl_info rfl (by omega) slC_size slC_one rfl _ _ rfl rfl rfl HR.out KY.out HB.out.size (by have := HZ.out; have := HP.out; have := HQ.out; subst Z; omega) (by have := HZ.out; have := HP.out; have := HQ.out; subst Z; omega) ?_; intro v6 w6 r6 b6; have R6 := Lib.hid (show KRow slC 1 23 w6 w.heap.size v6 (X ++ Y) by have e := HZ.out; rw [e] at r6; exact r6); have B6 := Lib.hid (HB.out.trans b6); clear r6 b6)))
          go_roundw
          case rel => exact ⟨X ++ Y, R6, B6, Or.inr (Or.inr ⟨rfl, Lib.hid rfl⟩)⟩
          case measure => simp [intOf]
        · go_wp2
          go_returns
          exact ⟨_, rfl, by have e := HZ.out; have r := HR.out; rw [e] at r; exact r, HB.out⟩

theorem concatW_any (ws us : List (List Rn)) (vX vY : Value) (g : Nat) (w : World) (h0 : w.cell? ⟨g, 0, none⟩ = some vX) (h1 : w.cell? ⟨g, 1, none⟩ = some vY) (hg : g < w.heap.size) (hX : WvArg w vX ws) (hY : WvArg w vY us) (hx : ws.length ≤ 4096) (hy : us.length ≤ 4096) :
    Calls Try.prog 41 #[.slice (some ⟨g, 0, none⟩) 2 2] w fun e w' => ∃ v : Value, e = .returned v ∧ WvArg w' v (ws ++ us) ∧ Below w.heap.size w w' := by
  obtain ⟨S, s1, s2, s3⟩ := hX
  obtain ⟨U, u1, u2, u3⟩ := hY
  refine (concatW_rows S U vX vY g w h0 h1 hg s1 u1 (by omega) (by omega)).mono ?_
  rintro e w' ⟨v, rfl, r, b⟩
  refine ⟨v, rfl, ⟨S ++ U, KRow.arg slC_size r, by simp [s2, u2], fun i h h' => ?_⟩, b⟩
  by_cases hi : i < ws.length
  · rw [List.getElem_append_left hi, List.getElem_append_left (by omega)]
    exact (s3 i hi (by omega)).keep b
  · rw [List.getElem_append_right (by omega), List.getElem_append_right (by omega)]
    simp only [s2]
    exact (u3 (i - ws.length) (by simp only [List.length_append] at h; omega) (by simp only [List.length_append] at h; omega)).keep b
theorem concatN_any (A B : List ByteArray) (vX vY : Value) (g : Nat) (w : World) (h0 : w.cell? ⟨g, 0, none⟩ = some vX) (h1 : w.cell? ⟨g, 1, none⟩ = some vY) (hg : g < w.heap.size) (hX : NmArg w vX A) (hY : NmArg w vY B) (hx : A.length ≤ 4096) (hy : B.length ≤ 4096) :
    Calls Try.prog 39 #[.slice (some ⟨g, 0, none⟩) 2 2] w fun e w' => ∃ v : Value, e = .returned v ∧ NmRow w' w.heap.size v (A ++ B) ∧ Below w.heap.size w w' := concatN_rows A B vX vY g w h0 h1 hg hX.1 hY.1 hx hy
end Go.Proofs.Ytbahijhhcibfaaa

namespace Go.Proofs.Ytbahijhhcibfaaa
open Go Go.RowKit Go.Joins
set_option linter.unusedVariables false
set_option linter.unusedSimpArgs false

theorem rn_nil (w : World) : RnArg w (.slice none 0 0) [] := KRow.arg (T := 48) rnC_size (KRow.nil w 0)
theorem nm_nil (w : World) : NmArg w (.slice none 0 0) [] := KRow.name (KRow.nil w 0)
set_option maxRecDepth 100000 in
set_option maxHeartbeats 8000000 in
theorem select_any (N : List ByteArray) (R : List Rn) (M : List ByteArray) (vN vR vM : Value) (w : World) (hN : NmArg w vN N) (hs : szs N) (hR : RnArg w vR R) (hn : R.length ≤ 16000) (hM : NmArg w vM M) (hsM : szs M) (hm : M.length ≤ 4096) (hnn : N.length ≤ 4096) :
    Calls Try.prog 12 #[.agg #[vN, vR], vM] w fun e w' => ∃ v1 v2 : Value, e = .returned (.tuple #[.agg #[v1, v2], .int .i64 (seE N R M)]) ∧ NmArg w' v1 (seN N R M) ∧ RnArg w' v2 (seR N R M) ∧ Below w.heap.size w w' := by
  have HK := Lib.hid (fun w' (hb : Below w.heap.size w w') => check_any N R vN vR w' (hN.keep hb) hs (hR.keep hb) (by omega))
  have HS := Lib.hid (fun w' (hb : Below w.heap.size w w') => checkSelected_any N M vN vM w' (hN.keep hb) (hM.keep hb) hsM (by omega) (by omega))
  have HW := Lib.hid (fun w' (hb : Below w.heap.size w w') => waves_any N R M vN vR vM w' (hN.keep hb) hs (hR.keep hb) (by omega) (hM.keep hb) (by omega))
  have HB := Lib.hid (fun ws V w' (hb : Below w.heap.size w w') hW hsl => build_any M ws vM V w' (hM.keep hb) hsM hW hsl)
  obtain ⟨A1, c1, rfl, _⟩ := hN.form
  obtain ⟨A2, c2, rfl⟩ := hR.form
  obtain ⟨A3, c3, rfl, _⟩ := hM.form
  have B0 := Lib.hid ((ba w (.cells #[.slice A1 N.length c1, .slice A2 R.length c2] 25)).alloc (ba w _).size (.cells #[.slice none 0 0, .slice none 0 0] 25))
  have P0 := Lib.hid ((RowAt.new w 25 #[.slice A1 N.length c1, .slice A2 R.length c2]).alloc (.cells #[.slice none 0 0, .slice none 0 0] 25))
  have Q0' := RowAt.new (w.alloc (.cells #[.slice A1 N.length c1, .slice A2 R.length c2] 25)) 25 #[.slice none 0 0, .slice none 0 0]
  rw [World.size_alloc] at Q0'
  have Q0 := Lib.hid Q0'
  clear Q0' hN hR hM hs hsM
  by_cases hz : ckC N R = 0
  · by_cases hy : ckS N M = 0
    · have he : seE N R M = 0 := by rw [se_s hz]; exact hy
      obtain ⟨q1, q2, q3⟩ := se_build he
      have hM16 : M.length ≤ 16 := (ckN_ok (ckS_ok (ckC_ok hz).2.1 hy).1).2.1
      have q4 : ((M.length : Int)) * (R.length : Int) ≤ 16 * 16000 := Int.mul_le_mul (by omega) (by omega) (by omega) (by omega)
      have HBB := Lib.hid (show ∀ V w', Below w.heap.size w w' → WvArg w' V (wvs N R M) → Calls Try.prog 28 #[.slice A3 M.length c3, V] w' fun e w'' => ∃ v1 v2 : Value, e = .returned (.tuple #[.agg #[v1, v2], .int .i64 0]) ∧ NmRow w'' w'.heap.size v1 (seN N R M) ∧ RnRow w'' w'.heap.size v2 (seR N R M) ∧ Below w'.heap.size w' w'' by
        intro V w' hb hW
        refine (HB.out _ V w' hb hW (fun _ _ => by omega)).mono ?_
        rintro e w'' ⟨v1, v2, N', out, rfl, hBd, b⟩
        rw [q1]
        obtain ⟨x1, x2, x3, _, _⟩ := hBd
        obtain ⟨y1, y2⟩ := x3 q1
        refine ⟨v1, v2, rfl, ?_, ?_, b⟩
        · rw [seN_0 he, ← y1]; exact x1
        · rw [← q3 out y2]; exact x2)
      have HE := Lib.hid he
      rw [hz] at HK
      rw [hy] at HS
      clear hz hy he q1 q2 q3 q4 HB hM16
      have g0 := P0.out.cell 0
      have g1 := P0.out.cell 1
      go_enter Try.func12, Try.ntmps12
      go_wp2_with (first
        | (go_at_call 24; go_must (refine (HK.out _ B0.out).mono ?_; rintro e1 w1 ⟨rfl, b1⟩; have B1 := Lib.hid (B0.out.trans (b1.mono B0.out.size)); have P1 := Lib.hid (P0.out.keep b1); have Q1 := Lib.hid (Q0.out.keep b1); have g0 := P1.out.cell 0; have g1 := P1.out.cell 1; clear b1))
        | (go_at_call 27; go_must (refine (HS.out _ B1.out).mono ?_; rintro e2 w2 ⟨rfl, b2⟩; have B2 := Lib.hid (B1.out.trans (b2.mono B1.out.size)); have P2 := Lib.hid (P1.out.keep b2); have Q2 := Lib.hid (Q1.out.keep b2); have g0 := P2.out.cell 0; have g1 := P2.out.cell 1; clear b2))
        | (go_at_call 29; go_must (refine (HW.out _ B2.out).mono ?_; rintro e3 w3 ⟨v3, rfl, r3, b3⟩; have R3 := Lib.hid r3.arg; have B3 := Lib.hid (B2.out.trans (b3.mono B2.out.size)); have P3 := Lib.hid (P2.out.keep b3); have Q3 := Lib.hid (Q2.out.keep b3); clear r3 b3 g0 g1))
        | (go_at_call 28; go_must (refine (HBB.out _ _ B3.out R3.out).mono ?_; rintro e4 w4 ⟨v1, v2, rfl, r1, r2, b4⟩; obtain ⟨UA, UN, UC, rfl, hUN⟩ := KRow.form r1; obtain ⟨VA, VN, VC, rfl, hVN⟩ := KRow.form r2; clear hUN hVN; have s3 : w.heap.size + 2 ≤ w3.heap.size := Q3.out.lt; have R4 := Lib.hid (KRow.mono r1 s3); have R5 := Lib.hid (KRow.mono r2 s3); have B4 := Lib.hid (B3.out.trans (b4.mono B3.out.size)); have Q4 := Lib.hid (Q3.out.keep b4); have k0 := Q4.out.cell 0; have k1 := Q4.out.cell 1; have z0 := Q4.out.frozen 0; have z1 := Q4.out.frozen 1; clear r1 r2 b4)))
      have e0 := (two_set (v0 := .slice UA UN UC) (v1 := .slice VA VN VC) k0 k1).1
      have e1 := (two_set (v0 := .slice UA UN UC) (v1 := .slice VA VN VC) k0 k1).2
      refine bodyPost_ret (v := .tuple #[.agg #[.slice UA UN UC, .slice VA VN VC], .int .i64 0]) (by simp [results, Try.results12, go_sem, e0, e1]) rfl ⟨_, _, by rw [HE.out], KRow.name (KRow.set2 R4.out (Nat.lt_succ_self _) _ _), KRow.arg rnC_size (KRow.set2 R5.out (Nat.lt_succ_self _) _ _), Below.setCell (Below.setCell B4.out (Nat.le_succ _) _) (Nat.le_succ _) _⟩
    · have he : seE N R M = ckS N M := se_s hz
      have hne : ¬ seE N R M = 0 := by rw [he]; exact hy
      have HN0 := Lib.hid (seN_no hne)
      have HR0 := Lib.hid (seR_no hne)
      have HE := Lib.hid he
      have hyz : (ckS N M == 0) = false := by simpa using hy
      rw [hz] at HK
      clear hz he hne HB HW
      generalize ckS N M = r at *
      clear hy
      have g0 := P0.out.cell 0
      have g1 := P0.out.cell 1
      go_enter Try.func12, Try.ntmps12
      go_wp2_with (first
        | (go_at_call 24; go_must (refine (HK.out _ B0.out).mono ?_; rintro e1 w1 ⟨rfl, b1⟩; have B1 := Lib.hid (B0.out.trans (b1.mono B0.out.size)); have P1 := Lib.hid (P0.out.keep b1); have Q1 := Lib.hid (Q0.out.keep b1); have g0 := P1.out.cell 0; have g1 := P1.out.cell 1; clear b1))
        | (go_at_call 27; go_must (refine (HS.out _ B1.out).mono ?_; rintro e2 w2 ⟨rfl, b2⟩; have B2 := Lib.hid (B1.out.trans (b2.mono B1.out.size)); have Q2 := Lib.hid (Q1.out.keep b2); have k0 := Q2.out.cell 0; have k1 := Q2.out.cell 1; have z0 := Q2.out.frozen 0; have z1 := Q2.out.frozen 1; clear b2)))
      have e0 := (two_set (v0 := .slice none 0 0) (v1 := .slice none 0 0) k0 k1).1
      have e1 := (two_set (v0 := .slice none 0 0) (v1 := .slice none 0 0) k0 k1).2
      refine bodyPost_ret (v := .tuple #[.agg #[.slice none 0 0, .slice none 0 0], .int .i64 r]) (by simp [results, Try.results12, go_sem, e0, e1]) rfl ⟨_, _, by rw [HE.out], by rw [HN0.out]; exact nm_nil _, by rw [HR0.out]; exact rn_nil _, Below.setCell (Below.setCell B2.out (Nat.le_succ _) _) (Nat.le_succ _) _⟩
  · have he : seE N R M = ckC N R := se_c hz
    have hne : ¬ seE N R M = 0 := by rw [he]; exact hz
    have HN0 := Lib.hid (seN_no hne)
    have HR0 := Lib.hid (seR_no hne)
    have HE := Lib.hid he
    have hyz : (ckC N R == 0) = false := by simpa using hz
    clear he hne HB HW HS
    generalize ckC N R = r at *
    clear hz
    have g0 := P0.out.cell 0
    have g1 := P0.out.cell 1
    go_enter Try.func12, Try.ntmps12
    go_wp2_with (first
      | (go_at_call 24; go_must (refine (HK.out _ B0.out).mono ?_; rintro e1 w1 ⟨rfl, b1⟩; have B1 := Lib.hid (B0.out.trans (b1.mono B0.out.size)); have Q1 := Lib.hid (Q0.out.keep b1); have k0 := Q1.out.cell 0; have k1 := Q1.out.cell 1; have z0 := Q1.out.frozen 0; have z1 := Q1.out.frozen 1; clear b1)))
    have e0 := (two_set (v0 := .slice none 0 0) (v1 := .slice none 0 0) k0 k1).1
    have e1 := (two_set (v0 := .slice none 0 0) (v1 := .slice none 0 0) k0 k1).2
    refine bodyPost_ret (v := .tuple #[.agg #[.slice none 0 0, .slice none 0 0], .int .i64 r]) (by simp [results, Try.results12, go_sem, e0, e1]) rfl ⟨_, _, by rw [HE.out], by rw [HN0.out]; exact nm_nil _, by rw [HR0.out]; exact rn_nil _, Below.setCell (Below.setCell B1.out (Nat.le_succ _) _) (Nat.le_succ _) _⟩
end Go.Proofs.Ytbahijhhcibfaaa

namespace Go.Proofs.Ytbahijhhcibfaaa
open Go Go.RowKit Go.Joins
set_option linter.unusedVariables false
set_option linter.unusedSimpArgs false

theorem heldB {w W W' : World} {b : Nat} {x0 x1 : Value} (h : W.cell? ⟨b, 0, none⟩ = some x0 ∧ W.cell? ⟨b, 1, none⟩ = some x1 ∧ Below w.heap.size w W ∧ b < W.heap.size) (hb : Below W.heap.size W W') : W'.cell? ⟨b, 0, none⟩ = some x0 ∧ W'.cell? ⟨b, 1, none⟩ = some x1 ∧ Below w.heap.size w W' ∧ b < W'.heap.size := held2 h hb
set_option maxRecDepth 100000 in
set_option maxHeartbeats 8000000 in
theorem rename_any (N : List ByteArray) (R : List Rn) (o s : ByteArray) (vN vR : Value) (w : World) (hN : NmArg w vN N) (hs : szs N) (hR : RnArg w vR R) (hn : R.length ≤ 16000) (hnn : N.length ≤ 4096) (hsz : s.size ≤ 140737488351232) :
    Calls Try.prog 15 #[.agg #[vN, vR], .string o, .string s] w fun e w' => ∃ v1 v2 : Value, e = .returned (.tuple #[.agg #[v1, v2], .int .i64 (rnE N R o s)]) ∧ NmArg w' v1 (rnN N R o s) ∧ RnArg w' v2 (rnR N R o s) ∧ Below w.heap.size w w' := by
  have HK := Lib.hid (fun w' (hb : Below w.heap.size w w') => check_any N R vN vR w' (hN.keep hb) hs (hR.keep hb) (by omega))
  have HI := Lib.hid (fun w' (hb : Below w.heap.size w w') => index_any N vN o w' (hN.keep hb) (by omega))
  have HNm := Lib.hid (fun w' => show Calls Try.prog 34 #[.string s] w' fun e w'' => e = .returned (.bool (nmB s)) ∧ Below w'.heap.size w' w'' from name_any s w' (by omega))
  have HCp' := fun (h : ckC N R = 0) w' (hb : Below w.heap.size w w') => copiedC_any N R vN vR w' (hN.keep hb) (hR.keep hb) (by omega) (fun j hj => nm_small (ckC_ok h).2.2.2.2.1 j hj) (by omega)
  have HCl := Lib.hid (fun w' => clone_any s w' hsz)
  obtain ⟨A1, c1, rfl, _⟩ := hN.form
  obtain ⟨A2, c2, rfl⟩ := hR.form
  have B0 := Lib.hid ((ba w (.cells #[.slice A1 N.length c1, .slice A2 R.length c2] 25)).alloc (ba w _).size (.cells #[.slice none 0 0, .slice none 0 0] 25))
  have P0 := Lib.hid ((RowAt.new w 25 #[.slice A1 N.length c1, .slice A2 R.length c2]).alloc (.cells #[.slice none 0 0, .slice none 0 0] 25))
  have Q0' := RowAt.new (w.alloc (.cells #[.slice A1 N.length c1, .slice A2 R.length c2] 25)) 25 #[.slice none 0 0, .slice none 0 0]
  rw [World.size_alloc] at Q0'
  have Q0 := Lib.hid Q0'
  clear Q0' hN hR
  have g0 := P0.out.cell 0
  have g1 := P0.out.cell 1
  by_cases hz : ckC N R = 0
  · have hck := ckC_ok hz
    have hn0 := hck.2.2.1
    have HCp := Lib.hid (HCp' hz)
    rw [hz] at HK
    clear HCp'
    by_cases hi : ix N o < 0
    · have he := rn_8 (s := s) hz hi
      have hne : ¬ rnE N R o s = 0 := by rw [he]; exact by decide
      have HN0 := Lib.hid (rnN_no hne)
      have HR0 := Lib.hid (rnR_no hne)
      have HE := Lib.hid he
      clear hne he
      clear hz hck HCp HCl HNm
      generalize ix N o = i at *
      go_enter Try.func15, Try.ntmps15
      go_wp2_with (first
        | (go_at_call 24; go_must (refine (HK.out _ B0.out).mono ?_; rintro e1 w1 ⟨rfl, b1⟩; have B1 := Lib.hid (B0.out.trans (b1.mono B0.out.size)); have P1 := Lib.hid (P0.out.keep b1); have Q1 := Lib.hid (Q0.out.keep b1); have g0 := P1.out.cell 0; have g1 := P1.out.cell 1; have k0 := Q1.out.cell 0; have k1 := Q1.out.cell 1; have z0 := Q1.out.frozen 0; have z1 := Q1.out.frozen 1; clear b1))
        | (go_at_call 33; go_must (refine (HI.out _ B1.out).mono ?_; rintro e2 w2 ⟨rfl, rfl⟩)))
      have e0 := (two_set (v0 := .slice none 0 0) (v1 := .slice none 0 0) k0 k1).1
      have e1 := (two_set (v0 := .slice none 0 0) (v1 := .slice none 0 0) k0 k1).2
      refine bodyPost_ret (v := .tuple #[.agg #[.slice none 0 0, .slice none 0 0], .int .i64 8]) (by simp [results, Try.results15, go_sem, e0, e1]) rfl ⟨_, _, by rw [HE.out], by rw [HN0.out]; exact nm_nil _, by rw [HR0.out]; exact rn_nil _, Below.setCell (Below.setCell B1.out (Nat.le_succ _) _) (Nat.le_succ _) _⟩
    · cases hnm : nmB s with
      | false =>
        have he := rn_4 hz hi hnm
        have hne : ¬ rnE N R o s = 0 := by rw [he]; exact by decide
        have HN0 := Lib.hid (rnN_no hne)
        have HR0 := Lib.hid (rnR_no hne)
        have HE := Lib.hid he
        clear hne he
        rw [hnm] at HNm
        have hi' : ¬ ix N o < 0 := hi
        clear hz hck HCp HCl hi
        generalize ix N o = i at *
        go_enter Try.func15, Try.ntmps15
        go_wp2_with (first
          | (go_at_call 24; go_must (refine (HK.out _ B0.out).mono ?_; rintro e1 w1 ⟨rfl, b1⟩; have B1 := Lib.hid (B0.out.trans (b1.mono B0.out.size)); have P1 := Lib.hid (P0.out.keep b1); have Q1 := Lib.hid (Q0.out.keep b1); have g0 := P1.out.cell 0; have g1 := P1.out.cell 1; have k0 := Q1.out.cell 0; have k1 := Q1.out.cell 1; have z0 := Q1.out.frozen 0; have z1 := Q1.out.frozen 1; clear b1))
          | (go_at_call 33; go_must (refine (HI.out _ B1.out).mono ?_; rintro e2 w2 ⟨rfl, rfl⟩))
          | (go_at_call 34; go_must (refine (HNm.out _).mono ?_; rintro e3 w3 ⟨rfl, b3⟩; have B3 := Lib.hid (B1.out.trans (b3.mono B1.out.size)); have P3 := Lib.hid (P1.out.keep b3); have QQ := Lib.hid (Q1.out.keep b3); have g0 := P3.out.cell 0; have g1 := P3.out.cell 1; have k0 := QQ.out.cell 0; have k1 := QQ.out.cell 1; have z0 := QQ.out.frozen 0; have z1 := QQ.out.frozen 1; clear b3)))
        have e0 := (two_set (v0 := .slice none 0 0) (v1 := .slice none 0 0) k0 k1).1
        have e1 := (two_set (v0 := .slice none 0 0) (v1 := .slice none 0 0) k0 k1).2
        refine bodyPost_ret (v := .tuple #[.agg #[.slice none 0 0, .slice none 0 0], .int .i64 4]) (by simp [results, Try.results15, go_sem, e0, e1]) rfl ⟨_, _, by rw [HE.out], by rw [HN0.out]; exact nm_nil _, by rw [HR0.out]; exact rn_nil _, Below.setCell (Below.setCell B3.out (Nat.le_succ _) _) (Nat.le_succ _) _⟩
      | true =>
        rw [hnm] at HNm
        obtain ⟨j, hj, ej, _⟩ := ix_at (show 0 ≤ ix N o by omega)
        have HTW := Lib.hid (rn_twice (s := s) hck.2.1 (show 0 ≤ ix N o by omega))
        have eN : ixN N o = j := by unfold ixN; rw [ej]; rfl
        rw [eN] at HTW
        have HSet := Lib.hid (show szs (N.set j s) from fun x hx => by
          rcases List.mem_or_eq_of_mem_set hx with h | h
          · exact hs x h
          · subst h; omega)
        have HAny := Lib.hid (fun V w' (h : NmArg w' V (N.set j s)) => anyTwice_any (N.set j s) V w' h HSet.out (by rw [List.length_set]; omega))
        have hjn : (j : Int) < (N.length : Int) := by omega
        by_cases hd : 0 ≤ ix N s ∧ ix N s ≠ ix N o
        · have he := rn_9 hz hi hnm hd
          have hne : ¬ rnE N R o s = 0 := by rw [he]; exact by decide
          have HN0 := Lib.hid (rnN_no hne)
          have HR0 := Lib.hid (rnR_no hne)
          have HE := Lib.hid he
          clear hne he
          have hD : dpT (N.set j s) (N.set j s).length = true := by rw [HTW.out]; exact decide_eq_true hd
          rw [hD] at HAny
          rw [ej] at HI
          clear hz hck hd hi hnm HTW ej hD eN
          go_enter Try.func15, Try.ntmps15
          go_wp2_with (first
            | (go_at_call 24; go_must (refine (HK.out _ B0.out).mono ?_; rintro e1 w1 ⟨rfl, b1⟩; have B1 := Lib.hid (B0.out.trans (b1.mono B0.out.size)); have P1 := Lib.hid (P0.out.keep b1); have Q1 := Lib.hid (Q0.out.keep b1); have g0 := P1.out.cell 0; have g1 := P1.out.cell 1; have k0 := Q1.out.cell 0; have k1 := Q1.out.cell 1; have z0 := Q1.out.frozen 0; have z1 := Q1.out.frozen 1; clear b1))
            | (go_at_call 33; go_must (refine (HI.out _ B1.out).mono ?_; rintro e2 w2 ⟨rfl, rfl⟩))
            | (go_at_call 34; go_must (refine (HNm.out _).mono ?_; rintro e3 w3 ⟨rfl, b3⟩; have B3 := Lib.hid (B1.out.trans (b3.mono B1.out.size)); have P3 := Lib.hid (P1.out.keep b3); have QQ := Lib.hid (Q1.out.keep b3); have g0 := P3.out.cell 0; have g1 := P3.out.cell 1; have k0 := QQ.out.cell 0; have k1 := QQ.out.cell 1; have z0 := QQ.out.frozen 0; have z1 := QQ.out.frozen 1; clear b3))
            | (go_at_call 35; go_must (refine (HCp.out _ B3.out).mono ?_; rintro e4 w4 ⟨v1, v2, rfl, r1, r2, b4⟩; obtain ⟨g, UC, rfl⟩ := KRow.full r1 hn0; obtain ⟨VA, VN, VC, rfl, rfl⟩ := KRow.form r2; have B4 := Lib.hid (B3.out.trans (b4.mono B3.out.size)); have Q4 := Lib.hid (QQ.out.keep b4); have s4 := QQ.out.lt; have R1 := Lib.hid (KRow.mono r1 (show w.heap.size + 2 ≤ _ from s4)); have R2 := Lib.hid (KRow.mono r2 (show w.heap.size + 2 ≤ _ from s4)); clear r1 r2 b4 g0 g1 k0 k1 z0 z1; have X4 := Lib.hid (RowAt.new w4 25 #[.slice (some ⟨g, 0, none⟩) N.length UC, .slice VA R.length VC]); have x0 := X4.out.cell 0; have x1 := X4.out.cell 1)))
          obtain ⟨W4, hW4⟩ : ∃ W4, W4 = w4.alloc (.cells #[.slice (some ⟨g, 0, none⟩) N.length UC, .slice VA R.length VC] 25) := ⟨_, rfl⟩
          rw [← hW4]
          rw [← hW4] at X4
          have BW := Lib.hid (show Below w.heap.size w W4 by rw [hW4]; exact B4.out.alloc B4.out.size _)
          have QW := Lib.hid (show RowAt W4 (w.heap.size + 1) 25 #[.slice none 0 0, .slice none 0 0] by rw [hW4]; exact Q4.out.alloc _)
          have R1W := Lib.hid (show NmRow W4 (w.heap.size + 2) (.slice (some ⟨g, 0, none⟩) N.length UC) N by rw [hW4]; exact KRow.alloc R1.out _)
          have R2W := Lib.hid (show RnRow W4 (w.heap.size + 2) (.slice VA R.length VC) R by rw [hW4]; exact KRow.alloc R2.out _)
          clear hW4 x0 x1 B4 Q4 R1 R2
          generalize w4.heap.size = bx at *
          have S0 := Lib.hid (show W4.drew.cell? ⟨bx, 0, none⟩ = some (.slice (some ⟨g, 0, none⟩) N.length UC) ∧ W4.drew.cell? ⟨bx, 1, none⟩ = some (.slice VA R.length VC) ∧ Below w.heap.size w W4.drew ∧ bx < W4.drew.heap.size from ⟨X4.out.cell 0, X4.out.cell 1, BW.out.drew, X4.out.lt⟩)
          have Q3 := Lib.hid (show RowAt W4.drew (w.heap.size + 1) 25 #[.slice none 0 0, .slice none 0 0] from QW.out)
          have X3 := Lib.hid (show RowAt W4.drew bx 25 #[.slice (some ⟨g, 0, none⟩) N.length UC, .slice VA R.length VC] from X4.out)
          have R13 := Lib.hid (show NmRow W4.drew (w.heap.size + 2) (.slice (some ⟨g, 0, none⟩) N.length UC) N from R1W.out)
          have R23 := Lib.hid (show RnRow W4.drew (w.heap.size + 2) (.slice VA R.length VC) R from R2W.out)
          clear X4 BW QW R1W R2W
          refine wp_region_held_drew (S := fun w' => w'.cell? ⟨bx, 0, none⟩ = some (.slice (some ⟨g, 0, none⟩) N.length UC) ∧ w'.cell? ⟨bx, 1, none⟩ = some (.slice VA R.length VC) ∧ Below w.heap.size w w' ∧ bx < w'.heap.size) (by kernel_rfl) ?_ (fun hH => ?_)
          · exact S0.out
          generalize W4.drew = WD at *
          refine wpAnyH_take (i := 0) (oi := { dst := some 30, op := Go.Op.fieldAddr 25 (Go.Operand.tmp 10) 0, type := 0, pos := "remap.go:38", after := #[], guard := none }) (v := ?_) rfl ?_ ?_ ?_ ?_ (Or.inl ⟨?_, ?_⟩) hH ?_
          rotate_left
          · kernel_rfl
          · kernel_rfl
          · kernel_rfl
          · exact fun _ _ _ h => h
          · kernel_rfl
          · intro wS hSw
            try dsimp only at hSw
            go_simp
            try with_reducible rfl
          try simp only [Act.put, List.setIfInBounds_toArray, List.set_cons_zero, List.set_cons_succ]
          refine wpAnyH_take (i := 1) (oi := { dst := some 31, op := Go.Op.load 22 (Go.Operand.tmp 30), type := 22, pos := "remap.go:38", after := #[{ on := 0, ground := Go.Ground.data }], guard := none }) (v := ?_) rfl ?_ ?_ ?_ ?_ (Or.inl ⟨?_, ?_⟩) hH ?_
          rotate_left
          · kernel_rfl
          · kernel_rfl
          · kernel_rfl
          · exact fun _ _ _ h => h
          · kernel_rfl
          · intro wS hSw
            try dsimp only at hSw
            go_simp
            try with_reducible rfl
          try simp only [Act.put, List.setIfInBounds_toArray, List.set_cons_zero, List.set_cons_succ]
          refine wpAnyH_take (i := 2) (oi := { dst := some 32, op := Go.Op.move (Go.Operand.tmp 9), type := 3, pos := "remap.go:38", after := #[], guard := none }) (v := ?_) rfl ?_ ?_ ?_ ?_ (Or.inl ⟨?_, ?_⟩) hH ?_
          rotate_left
          · kernel_rfl
          · kernel_rfl
          · kernel_rfl
          · exact fun _ _ _ h => h
          · kernel_rfl
          · intro wS hSw
            try dsimp only at hSw
            go_simp
            try with_reducible rfl
          try simp only [Act.put, List.setIfInBounds_toArray, List.set_cons_zero, List.set_cons_succ]
          refine wpAnyH_take (i := 3) (oi := { dst := some 33, op := Go.Op.move (Go.Operand.tmp 2), type := 9, pos := "remap.go:38", after := #[], guard := none }) (v := ?_) rfl ?_ ?_ ?_ ?_ (Or.inl ⟨?_, ?_⟩) hH ?_
          rotate_left
          · kernel_rfl
          · kernel_rfl
          · kernel_rfl
          · exact fun _ _ _ h => h
          · kernel_rfl
          · intro wS hSw
            try dsimp only at hSw
            go_simp
            try with_reducible rfl
          try simp only [Act.put, List.setIfInBounds_toArray, List.set_cons_zero, List.set_cons_succ]
          refine wpAnyH_ready (rs := [4]) (by kernel_rfl) (by simp) ?_
          refine AllReadyH.cons (o := { dst := some 34, op := Go.Op.call { callee := Go.Callee.value (Go.Operand.func 36), args := #[Go.Operand.tmp 33], argTypes := #[9] }, type := 9, pos := "remap.go:38", after := #[{ on := 3, ground := Go.Ground.data }], guard := none }) rfl (fun K hK => ?_) AllReadyH.nil
          · go_simp
            refine (HCl.out _).mono ?_
            rintro e5 w5 ⟨rfl, b5⟩
            try go_wp2_with fail
            have S5 := Lib.hid (heldB S0.out b5)
            have Q5 := Lib.hid (Q3.out.keep b5)
            have X5 := Lib.hid (X3.out.keep b5)
            have R15 := Lib.hid (KRow.keep R13.out b5)
            have R25 := Lib.hid (KRow.keep R23.out b5)
            have x0 := (NmRow.one R15.out j hj).1
            have z0 := (NmRow.one R15.out j hj).2
            clear b5
            refine hK.out _ _ ?_ (fun hH1 => ?_)
            · exact S5.out
            clear hK K hH
            try simp only [Act.put, List.setIfInBounds_toArray, List.set_cons_zero, List.set_cons_succ]
            refine wpAnyH_take (i := 5) (oi := { dst := some 35, op := Go.Op.indexAddr 22 (Go.Operand.tmp 31) (Go.Operand.tmp 32), type := 0, pos := "remap.go:38", after := #[{ on := 1, ground := Go.Ground.data }, { on := 2, ground := Go.Ground.data }, { on := 0, ground := Go.Ground.phase }, { on := 1, ground := Go.Ground.phase }, { on := 2, ground := Go.Ground.phase }, { on := 3, ground := Go.Ground.phase }, { on := 4, ground := Go.Ground.phase }], guard := none }) (v := ?_) rfl ?_ ?_ ?_ ?_ (Or.inl ⟨?_, ?_⟩) hH1 ?_
            rotate_left
            · kernel_rfl
            · kernel_rfl
            · kernel_rfl
            · exact fun _ _ _ h => h
            · kernel_rfl
            · intro wS hSw
              try dsimp only at hSw
              go_simp
              try with_reducible rfl
            try simp only [Act.put, List.setIfInBounds_toArray, List.set_cons_zero, List.set_cons_succ]
            refine wpAnyH_ready (rs := [6]) (by kernel_rfl) (by simp) ?_
            refine AllReadyH.cons (o := { dst := none, op := Go.Op.store 9 (Go.Operand.tmp 35) (Go.Operand.tmp 34), type := 0, pos := "remap.go:38", after := #[{ on := 5, ground := Go.Ground.data }, { on := 4, ground := Go.Ground.data }, { on := 4, ground := Go.Ground.chain }, { on := 0, ground := Go.Ground.phase }, { on := 1, ground := Go.Ground.phase }, { on := 2, ground := Go.Ground.phase }, { on := 3, ground := Go.Ground.phase }, { on := 4, ground := Go.Ground.phase }], guard := none }) rfl (fun K hK => ?_) AllReadyH.nil
            · go_simp
              have gx : ¬ g = bx := fun e => KRow.off R15.out X5.out (by decide) (by rw [e]; rfl)
              have gs := (KRow.len R15.out).2.2.1
              obtain ⟨w6, h6⟩ : ∃ w6, w6 = w5.setCell ⟨g, j, none⟩ (.string s) := ⟨_, rfl⟩
              try rw [← h6]
              have S6 := Lib.hid (show w6.cell? ⟨bx, 0, none⟩ = some (.slice (some ⟨g, 0, none⟩) N.length UC) ∧ w6.cell? ⟨bx, 1, none⟩ = some (.slice VA R.length VC) ∧ Below w.heap.size w w6 ∧ bx < w6.heap.size by rw [h6]; exact ⟨(X5.out.other _ _ gx).cell 0, (X5.out.other _ _ gx).cell 1, Below.setCell S5.out.2.2.1 (show w.heap.size ≤ g by omega) _, by rw [World.size_setCell]; exact S5.out.2.2.2⟩)
              have X6 := Lib.hid (show RowAt w6 bx 25 #[.slice (some ⟨g, 0, none⟩) N.length UC, .slice VA R.length VC] by rw [h6]; exact X5.out.other _ _ gx)
              have Q6 := Lib.hid (show RowAt w6 (w.heap.size + 1) 25 #[.slice none 0 0, .slice none 0 0] by rw [h6]; exact Q5.out.other _ _ (show g ≠ w.heap.size + 1 by omega))
              have R16 := Lib.hid (show NmRow w6 (w.heap.size + 2) (.slice (some ⟨g, 0, none⟩) N.length UC) (N.set j s) by rw [h6]; exact NmRow.set R15.out j hj s)
              have R26 := Lib.hid (show RnRow w6 (w.heap.size + 2) (.slice VA R.length VC) R by rw [h6]; exact KRow.apart (b := g) R25.out (fun q hq => heap_setCell_other _ _ _ q hq) (fun e => names_apart R25.out R15.out g rfl e.symm))
              clear h6
              refine hK.out _ _ ?_ (fun hH2 => ?_)
              · exact S6.out
              clear hK K hH1
              try simp only [Act.put, List.setIfInBounds_toArray, List.set_cons_zero, List.set_cons_succ]
              refine wpAnyH_done (by kernel_rfl) ?_ _
              have g0 := X6.out.cell 0
              have g1 := X6.out.cell 1
              clear x0 z0 gx
              go_wp2_with (first
                | (go_at_call 37; go_must (refine (HAny.out _ _ (KRow.name R16.out)).mono ?_; rintro e7 w7 ⟨rfl, b7⟩; have B7 := Lib.hid (S6.out.2.2.1.trans (b7.mono S6.out.2.2.1.size)); have Q7 := Lib.hid (Q6.out.keep b7); have X7 := Lib.hid (X6.out.keep b7); have R17 := Lib.hid (KRow.keep R16.out b7); have R27 := Lib.hid (KRow.keep R26.out b7); have g0 := X7.out.cell 0; have g1 := X7.out.cell 1; have k0 := Q7.out.cell 0; have k1 := Q7.out.cell 1; have z0 := Q7.out.frozen 0; have z1 := Q7.out.frozen 1; clear b7)))
              have e0 := (two_set (v0 := .slice none 0 0) (v1 := .slice none 0 0) k0 k1).1
              have e1 := (two_set (v0 := .slice none 0 0) (v1 := .slice none 0 0) k0 k1).2
              refine bodyPost_ret (v := .tuple #[.agg #[.slice none 0 0, .slice none 0 0], .int .i64 9]) (by simp [results, Try.results15, go_sem, e0, e1]) rfl ⟨_, _, by rw [HE.out], by rw [HN0.out]; exact nm_nil _, by rw [HR0.out]; exact rn_nil _, Below.setCell (Below.setCell B7.out (Nat.le_succ _) _) (Nat.le_succ _) _⟩
        · have he := rn_0 hz hi hnm hd
          have HN0 := Lib.hid (show rnN N R o s = N.set j s by rw [rnN_0 he, eN])
          have HR0 := Lib.hid (rnR_0 he)
          have HE := Lib.hid he
          have hD : dpT (N.set j s) (N.set j s).length = false := by rw [HTW.out]; exact decide_eq_false hd
          rw [hD] at HAny
          rw [ej] at HI
          clear hz hck hd hi hnm HTW ej hD eN he
          go_enter Try.func15, Try.ntmps15
          go_wp2_with (first
            | (go_at_call 24; go_must (refine (HK.out _ B0.out).mono ?_; rintro e1 w1 ⟨rfl, b1⟩; have B1 := Lib.hid (B0.out.trans (b1.mono B0.out.size)); have P1 := Lib.hid (P0.out.keep b1); have Q1 := Lib.hid (Q0.out.keep b1); have g0 := P1.out.cell 0; have g1 := P1.out.cell 1; have k0 := Q1.out.cell 0; have k1 := Q1.out.cell 1; have z0 := Q1.out.frozen 0; have z1 := Q1.out.frozen 1; clear b1))
            | (go_at_call 33; go_must (refine (HI.out _ B1.out).mono ?_; rintro e2 w2 ⟨rfl, rfl⟩))
            | (go_at_call 34; go_must (refine (HNm.out _).mono ?_; rintro e3 w3 ⟨rfl, b3⟩; have B3 := Lib.hid (B1.out.trans (b3.mono B1.out.size)); have P3 := Lib.hid (P1.out.keep b3); have QQ := Lib.hid (Q1.out.keep b3); have g0 := P3.out.cell 0; have g1 := P3.out.cell 1; have k0 := QQ.out.cell 0; have k1 := QQ.out.cell 1; have z0 := QQ.out.frozen 0; have z1 := QQ.out.frozen 1; clear b3))
            | (go_at_call 35; go_must (refine (HCp.out _ B3.out).mono ?_; rintro e4 w4 ⟨v1, v2, rfl, r1, r2, b4⟩; obtain ⟨g, UC, rfl⟩ := KRow.full r1 hn0; obtain ⟨VA, VN, VC, rfl, rfl⟩ := KRow.form r2; have B4 := Lib.hid (B3.out.trans (b4.mono B3.out.size)); have Q4 := Lib.hid (QQ.out.keep b4); have s4 := QQ.out.lt; have R1 := Lib.hid (KRow.mono r1 (show w.heap.size + 2 ≤ _ from s4)); have R2 := Lib.hid (KRow.mono r2 (show w.heap.size + 2 ≤ _ from s4)); clear r1 r2 b4 g0 g1 k0 k1 z0 z1; have X4 := Lib.hid (RowAt.new w4 25 #[.slice (some ⟨g, 0, none⟩) N.length UC, .slice VA R.length VC]); have x0 := X4.out.cell 0; have x1 := X4.out.cell 1)))
          obtain ⟨W4, hW4⟩ : ∃ W4, W4 = w4.alloc (.cells #[.slice (some ⟨g, 0, none⟩) N.length UC, .slice VA R.length VC] 25) := ⟨_, rfl⟩
          rw [← hW4]
          rw [← hW4] at X4
          have BW := Lib.hid (show Below w.heap.size w W4 by rw [hW4]; exact B4.out.alloc B4.out.size _)
          have QW := Lib.hid (show RowAt W4 (w.heap.size + 1) 25 #[.slice none 0 0, .slice none 0 0] by rw [hW4]; exact Q4.out.alloc _)
          have R1W := Lib.hid (show NmRow W4 (w.heap.size + 2) (.slice (some ⟨g, 0, none⟩) N.length UC) N by rw [hW4]; exact KRow.alloc R1.out _)
          have R2W := Lib.hid (show RnRow W4 (w.heap.size + 2) (.slice VA R.length VC) R by rw [hW4]; exact KRow.alloc R2.out _)
          clear hW4 x0 x1 B4 Q4 R1 R2
          generalize w4.heap.size = bx at *
          have S0 := Lib.hid (show W4.drew.cell? ⟨bx, 0, none⟩ = some (.slice (some ⟨g, 0, none⟩) N.length UC) ∧ W4.drew.cell? ⟨bx, 1, none⟩ = some (.slice VA R.length VC) ∧ Below w.heap.size w W4.drew ∧ bx < W4.drew.heap.size from ⟨X4.out.cell 0, X4.out.cell 1, BW.out.drew, X4.out.lt⟩)
          have Q3 := Lib.hid (show RowAt W4.drew (w.heap.size + 1) 25 #[.slice none 0 0, .slice none 0 0] from QW.out)
          have X3 := Lib.hid (show RowAt W4.drew bx 25 #[.slice (some ⟨g, 0, none⟩) N.length UC, .slice VA R.length VC] from X4.out)
          have R13 := Lib.hid (show NmRow W4.drew (w.heap.size + 2) (.slice (some ⟨g, 0, none⟩) N.length UC) N from R1W.out)
          have R23 := Lib.hid (show RnRow W4.drew (w.heap.size + 2) (.slice VA R.length VC) R from R2W.out)
          clear X4 BW QW R1W R2W
          refine wp_region_held_drew (S := fun w' => w'.cell? ⟨bx, 0, none⟩ = some (.slice (some ⟨g, 0, none⟩) N.length UC) ∧ w'.cell? ⟨bx, 1, none⟩ = some (.slice VA R.length VC) ∧ Below w.heap.size w w' ∧ bx < w'.heap.size) (by kernel_rfl) ?_ (fun hH => ?_)
          · exact S0.out
          generalize W4.drew = WD at *
          refine wpAnyH_take (i := 0) (oi := { dst := some 30, op := Go.Op.fieldAddr 25 (Go.Operand.tmp 10) 0, type := 0, pos := "remap.go:38", after := #[], guard := none }) (v := ?_) rfl ?_ ?_ ?_ ?_ (Or.inl ⟨?_, ?_⟩) hH ?_
          rotate_left
          · kernel_rfl
          · kernel_rfl
          · kernel_rfl
          · exact fun _ _ _ h => h
          · kernel_rfl
          · intro wS hSw
            try dsimp only at hSw
            go_simp
            try with_reducible rfl
          try simp only [Act.put, List.setIfInBounds_toArray, List.set_cons_zero, List.set_cons_succ]
          refine wpAnyH_take (i := 1) (oi := { dst := some 31, op := Go.Op.load 22 (Go.Operand.tmp 30), type := 22, pos := "remap.go:38", after := #[{ on := 0, ground := Go.Ground.data }], guard := none }) (v := ?_) rfl ?_ ?_ ?_ ?_ (Or.inl ⟨?_, ?_⟩) hH ?_
          rotate_left
          · kernel_rfl
          · kernel_rfl
          · kernel_rfl
          · exact fun _ _ _ h => h
          · kernel_rfl
          · intro wS hSw
            try dsimp only at hSw
            go_simp
            try with_reducible rfl
          try simp only [Act.put, List.setIfInBounds_toArray, List.set_cons_zero, List.set_cons_succ]
          refine wpAnyH_take (i := 2) (oi := { dst := some 32, op := Go.Op.move (Go.Operand.tmp 9), type := 3, pos := "remap.go:38", after := #[], guard := none }) (v := ?_) rfl ?_ ?_ ?_ ?_ (Or.inl ⟨?_, ?_⟩) hH ?_
          rotate_left
          · kernel_rfl
          · kernel_rfl
          · kernel_rfl
          · exact fun _ _ _ h => h
          · kernel_rfl
          · intro wS hSw
            try dsimp only at hSw
            go_simp
            try with_reducible rfl
          try simp only [Act.put, List.setIfInBounds_toArray, List.set_cons_zero, List.set_cons_succ]
          refine wpAnyH_take (i := 3) (oi := { dst := some 33, op := Go.Op.move (Go.Operand.tmp 2), type := 9, pos := "remap.go:38", after := #[], guard := none }) (v := ?_) rfl ?_ ?_ ?_ ?_ (Or.inl ⟨?_, ?_⟩) hH ?_
          rotate_left
          · kernel_rfl
          · kernel_rfl
          · kernel_rfl
          · exact fun _ _ _ h => h
          · kernel_rfl
          · intro wS hSw
            try dsimp only at hSw
            go_simp
            try with_reducible rfl
          try simp only [Act.put, List.setIfInBounds_toArray, List.set_cons_zero, List.set_cons_succ]
          refine wpAnyH_ready (rs := [4]) (by kernel_rfl) (by simp) ?_
          refine AllReadyH.cons (o := { dst := some 34, op := Go.Op.call { callee := Go.Callee.value (Go.Operand.func 36), args := #[Go.Operand.tmp 33], argTypes := #[9] }, type := 9, pos := "remap.go:38", after := #[{ on := 3, ground := Go.Ground.data }], guard := none }) rfl (fun K hK => ?_) AllReadyH.nil
          · go_simp
            refine (HCl.out _).mono ?_
            rintro e5 w5 ⟨rfl, b5⟩
            try go_wp2_with fail
            have S5 := Lib.hid (heldB S0.out b5)
            have Q5 := Lib.hid (Q3.out.keep b5)
            have X5 := Lib.hid (X3.out.keep b5)
            have R15 := Lib.hid (KRow.keep R13.out b5)
            have R25 := Lib.hid (KRow.keep R23.out b5)
            have x0 := (NmRow.one R15.out j hj).1
            have z0 := (NmRow.one R15.out j hj).2
            clear b5
            refine hK.out _ _ ?_ (fun hH3 => ?_)
            · exact S5.out
            clear hK K hH
            try simp only [Act.put, List.setIfInBounds_toArray, List.set_cons_zero, List.set_cons_succ]
            refine wpAnyH_take (i := 5) (oi := { dst := some 35, op := Go.Op.indexAddr 22 (Go.Operand.tmp 31) (Go.Operand.tmp 32), type := 0, pos := "remap.go:38", after := #[{ on := 1, ground := Go.Ground.data }, { on := 2, ground := Go.Ground.data }, { on := 0, ground := Go.Ground.phase }, { on := 1, ground := Go.Ground.phase }, { on := 2, ground := Go.Ground.phase }, { on := 3, ground := Go.Ground.phase }, { on := 4, ground := Go.Ground.phase }], guard := none }) (v := ?_) rfl ?_ ?_ ?_ ?_ (Or.inl ⟨?_, ?_⟩) hH3 ?_
            rotate_left
            · kernel_rfl
            · kernel_rfl
            · kernel_rfl
            · exact fun _ _ _ h => h
            · kernel_rfl
            · intro wS hSw
              try dsimp only at hSw
              go_simp
              try with_reducible rfl
            try simp only [Act.put, List.setIfInBounds_toArray, List.set_cons_zero, List.set_cons_succ]
            refine wpAnyH_ready (rs := [6]) (by kernel_rfl) (by simp) ?_
            refine AllReadyH.cons (o := { dst := none, op := Go.Op.store 9 (Go.Operand.tmp 35) (Go.Operand.tmp 34), type := 0, pos := "remap.go:38", after := #[{ on := 5, ground := Go.Ground.data }, { on := 4, ground := Go.Ground.data }, { on := 4, ground := Go.Ground.chain }, { on := 0, ground := Go.Ground.phase }, { on := 1, ground := Go.Ground.phase }, { on := 2, ground := Go.Ground.phase }, { on := 3, ground := Go.Ground.phase }, { on := 4, ground := Go.Ground.phase }], guard := none }) rfl (fun K hK => ?_) AllReadyH.nil
            · go_simp
              have gx : ¬ g = bx := fun e => KRow.off R15.out X5.out (by decide) (by rw [e]; rfl)
              have gs := (KRow.len R15.out).2.2.1
              obtain ⟨w6, h6⟩ : ∃ w6, w6 = w5.setCell ⟨g, j, none⟩ (.string s) := ⟨_, rfl⟩
              try rw [← h6]
              have S6 := Lib.hid (show w6.cell? ⟨bx, 0, none⟩ = some (.slice (some ⟨g, 0, none⟩) N.length UC) ∧ w6.cell? ⟨bx, 1, none⟩ = some (.slice VA R.length VC) ∧ Below w.heap.size w w6 ∧ bx < w6.heap.size by rw [h6]; exact ⟨(X5.out.other _ _ gx).cell 0, (X5.out.other _ _ gx).cell 1, Below.setCell S5.out.2.2.1 (show w.heap.size ≤ g by omega) _, by rw [World.size_setCell]; exact S5.out.2.2.2⟩)
              have X6 := Lib.hid (show RowAt w6 bx 25 #[.slice (some ⟨g, 0, none⟩) N.length UC, .slice VA R.length VC] by rw [h6]; exact X5.out.other _ _ gx)
              have Q6 := Lib.hid (show RowAt w6 (w.heap.size + 1) 25 #[.slice none 0 0, .slice none 0 0] by rw [h6]; exact Q5.out.other _ _ (show g ≠ w.heap.size + 1 by omega))
              have R16 := Lib.hid (show NmRow w6 (w.heap.size + 2) (.slice (some ⟨g, 0, none⟩) N.length UC) (N.set j s) by rw [h6]; exact NmRow.set R15.out j hj s)
              have R26 := Lib.hid (show RnRow w6 (w.heap.size + 2) (.slice VA R.length VC) R by rw [h6]; exact KRow.apart (b := g) R25.out (fun q hq => heap_setCell_other _ _ _ q hq) (fun e => names_apart R25.out R15.out g rfl e.symm))
              clear h6
              refine hK.out _ _ ?_ (fun hH4 => ?_)
              · exact S6.out
              clear hK K hH3
              try simp only [Act.put, List.setIfInBounds_toArray, List.set_cons_zero, List.set_cons_succ]
              refine wpAnyH_done (by kernel_rfl) ?_ _
              have g0 := X6.out.cell 0
              have g1 := X6.out.cell 1
              clear x0 z0 gx
              go_wp2_with (first
                | (go_at_call 37; go_must (refine (HAny.out _ _ (KRow.name R16.out)).mono ?_; rintro e7 w7 ⟨rfl, b7⟩; have B7 := Lib.hid (S6.out.2.2.1.trans (b7.mono S6.out.2.2.1.size)); have Q7 := Lib.hid (Q6.out.keep b7); have X7 := Lib.hid (X6.out.keep b7); have R17 := Lib.hid (KRow.keep R16.out b7); have R27 := Lib.hid (KRow.keep R26.out b7); have g0 := X7.out.cell 0; have g1 := X7.out.cell 1; have k0 := Q7.out.cell 0; have k1 := Q7.out.cell 1; have z0 := Q7.out.frozen 0; have z1 := Q7.out.frozen 1; clear b7)))
              have e0 := (two_set (v0 := .slice (some ⟨g, 0, none⟩) N.length UC) (v1 := .slice VA R.length VC) k0 k1).1
              have e1 := (two_set (v0 := .slice (some ⟨g, 0, none⟩) N.length UC) (v1 := .slice VA R.length VC) k0 k1).2
              refine bodyPost_ret (v := .tuple #[.agg #[.slice (some ⟨g, 0, none⟩) N.length UC, .slice VA R.length VC], .int .i64 0]) (by simp [results, Try.results15, go_sem, e0, e1]) rfl ⟨_, _, by rw [HE.out], by rw [HN0.out]; exact KRow.name (KRow.set2 R17.out (Nat.lt_succ_self _) _ _), by rw [HR0.out]; exact KRow.arg rnC_size (KRow.set2 R27.out (Nat.lt_succ_self _) _ _), Below.setCell (Below.setCell B7.out (Nat.le_succ _) _) (Nat.le_succ _) _⟩
  · have he := rn_c (o := o) (s := s) hz
    have hne : ¬ rnE N R o s = 0 := by rw [he]; exact hz
    have HN0 := Lib.hid (rnN_no hne)
    have HR0 := Lib.hid (rnR_no hne)
    have HE := Lib.hid he
    clear hne he
    have hyz : (ckC N R == 0) = false := by simpa using hz
    clear HCp' HI HNm HCl
    generalize ckC N R = r at *
    clear hz
    go_enter Try.func15, Try.ntmps15
    go_wp2_with (first
      | (go_at_call 24; go_must (refine (HK.out _ B0.out).mono ?_; rintro e1 w1 ⟨rfl, b1⟩; have B1 := Lib.hid (B0.out.trans (b1.mono B0.out.size)); have P1 := Lib.hid (P0.out.keep b1); have Q1 := Lib.hid (Q0.out.keep b1); have g0 := P1.out.cell 0; have g1 := P1.out.cell 1; have k0 := Q1.out.cell 0; have k1 := Q1.out.cell 1; have z0 := Q1.out.frozen 0; have z1 := Q1.out.frozen 1; clear b1)))
    have e0 := (two_set (v0 := .slice none 0 0) (v1 := .slice none 0 0) k0 k1).1
    have e1 := (two_set (v0 := .slice none 0 0) (v1 := .slice none 0 0) k0 k1).2
    refine bodyPost_ret (v := .tuple #[.agg #[.slice none 0 0, .slice none 0 0], .int .i64 r]) (by simp [results, Try.results15, go_sem, e0, e1]) rfl ⟨_, _, by rw [HE.out], by rw [HN0.out]; exact nm_nil _, by rw [HR0.out]; exact rn_nil _, Below.setCell (Below.setCell B1.out (Nat.le_succ _) _) (Nat.le_succ _) _⟩
end Go.Proofs.Ytbahijhhcibfaaa

namespace Go.Proofs.Ytbahijhhcibfaaa
open Go Go.RowKit Go.Joins
set_option linter.unusedVariables false
set_option linter.unusedSimpArgs false

set_option maxRecDepth 100000 in
set_option maxHeartbeats 8000000 in
theorem delay_any (N : List ByteArray) (R : List Rn) (b : Int) (vN vR : Value) (w : World) (hN : NmArg w vN N) (hs : szs N) (hR : RnArg w vR R) (hn : R.length ≤ 16000) (hnn : N.length ≤ 4096) (hb1 : b ≤ 9223372036854775807) :
    Calls Try.prog 19 #[.agg #[vN, vR], .int .i64 b] w fun e w' => ∃ v1 v2 : Value, e = .returned (.tuple #[.agg #[v1, v2], .int .i64 (dlE N R b)]) ∧ NmArg w' v1 (dlN N R b) ∧ RnArg w' v2 (dlR N R b) ∧ Below w.heap.size w w' := by
  have HK := Lib.hid (fun w' (hb : Below w.heap.size w w') => check_any N R vN vR w' (hN.keep hb) hs (hR.keep hb) (by omega))
  have HL := Lib.hid (fun w' (hb : Below w.heap.size w w') => longC_any N R vN vR w' (hN.keep hb) hs (hR.keep hb) (by omega))
  have HCp' := fun (h : ckC N R = 0) w' (hb : Below w.heap.size w w') => copiedC_any N R vN vR w' (hN.keep hb) (hR.keep hb) (by omega) (fun j hj => nm_small (ckC_ok h).2.2.2.2.1 j hj) (by omega)
  obtain ⟨A1, c1, rfl, _⟩ := hN.form
  obtain ⟨A2, c2, rfl⟩ := hR.form
  have B0 := Lib.hid ((ba w (.cells #[.slice A1 N.length c1, .slice A2 R.length c2] 25)).alloc (ba w _).size (.cells #[.slice none 0 0, .slice none 0 0] 25))
  have P0 := Lib.hid ((RowAt.new w 25 #[.slice A1 N.length c1, .slice A2 R.length c2]).alloc (.cells #[.slice none 0 0, .slice none 0 0] 25))
  have Q0' := RowAt.new (w.alloc (.cells #[.slice A1 N.length c1, .slice A2 R.length c2] 25)) 25 #[.slice none 0 0, .slice none 0 0]
  rw [World.size_alloc] at Q0'
  have Q0 := Lib.hid Q0'
  clear Q0' hN hR
  have g0 := P0.out.cell 0
  have g1 := P0.out.cell 1
  by_cases hz : ckC N R = 0
  · have hck := ckC_ok hz
    have hrg := vr_range hck.2.2.2.2.2
    have HCp := Lib.hid (HCp' hz)
    rw [lgC_yes hz] at HL
    by_cases hbad : b < 0 ∨ 1099511627776 - lg R < b ∨ (0 < b ∧ R.length = 0)
    · have he := dl_2 hz hbad
      have hne : ¬ dlE N R b = 0 := by rw [he]; exact by decide
      have HN0 := Lib.hid (dlN_no hne)
      have HR0 := Lib.hid (dlR_no hne)
      have HE := Lib.hid he
      clear hne he
      have hw := IntWalk.i64_in (1099511627776 - lg R) (by omega)
      rw [hz] at HK
      clear HCp' HCp hck hz
      generalize lg R = S at *
      by_cases d1 : b < 0
      · clear hbad hw
        go_enter Try.func19, Try.ntmps19
        go_wp2_with (first
          | (go_at_call 24; go_must (refine (HK.out _ B0.out).mono ?_; rintro e1 w1 ⟨rfl, b1⟩; have B1 := Lib.hid (B0.out.trans (b1.mono B0.out.size)); have P1 := Lib.hid (P0.out.keep b1); have Q1 := Lib.hid (Q0.out.keep b1); have g0 := P1.out.cell 0; have g1 := P1.out.cell 1; have k0 := Q1.out.cell 0; have k1 := Q1.out.cell 1; have z0 := Q1.out.frozen 0; have z1 := Q1.out.frozen 1; clear b1)))
        have e0 := (two_set (v0 := .slice none 0 0) (v1 := .slice none 0 0) k0 k1).1
        have e1 := (two_set (v0 := .slice none 0 0) (v1 := .slice none 0 0) k0 k1).2
        refine bodyPost_ret (v := .tuple #[.agg #[.slice none 0 0, .slice none 0 0], .int .i64 2]) (by simp [results, Try.results19, go_sem, e0, e1]) rfl ⟨_, _, by rw [HE.out], by rw [HN0.out]; exact nm_nil _, by rw [HR0.out]; exact rn_nil _, Below.setCell (Below.setCell B1.out (Nat.le_succ _) _) (Nat.le_succ _) _⟩
      by_cases d2 : 1099511627776 - S < b
      · have d1' : decide (b < 0) = false := decide_eq_false d1
        have d2' : decide (1099511627776 - S < b) = true := decide_eq_true d2
        clear hbad
        go_enter Try.func19, Try.ntmps19
        go_wp2_with (first
          | (go_at_call 24; go_must (refine (HK.out _ B0.out).mono ?_; rintro e1 w1 ⟨rfl, b1⟩; have B1 := Lib.hid (B0.out.trans (b1.mono B0.out.size)); have P1 := Lib.hid (P0.out.keep b1); have Q1 := Lib.hid (Q0.out.keep b1); have g0 := P1.out.cell 0; have g1 := P1.out.cell 1; have k0 := Q1.out.cell 0; have k1 := Q1.out.cell 1; have z0 := Q1.out.frozen 0; have z1 := Q1.out.frozen 1; clear b1))
          | (go_at_call 25; go_must (refine (HL.out _ B1.out).mono ?_; rintro e2 w2 ⟨rfl, b2⟩; have B2 := Lib.hid (B1.out.trans (b2.mono B1.out.size)); have P2 := Lib.hid (P1.out.keep b2); have Q2 := Lib.hid (Q1.out.keep b2); have g0 := P2.out.cell 0; have g1 := P2.out.cell 1; have k0 := Q2.out.cell 0; have k1 := Q2.out.cell 1; have z0 := Q2.out.frozen 0; have z1 := Q2.out.frozen 1; clear b2)))
        have e0 := (two_set (v0 := .slice none 0 0) (v1 := .slice none 0 0) k0 k1).1
        have e1 := (two_set (v0 := .slice none 0 0) (v1 := .slice none 0 0) k0 k1).2
        refine bodyPost_ret (v := .tuple #[.agg #[.slice none 0 0, .slice none 0 0], .int .i64 2]) (by simp [results, Try.results19, go_sem, e0, e1]) rfl ⟨_, _, by rw [HE.out], by rw [HN0.out]; exact nm_nil _, by rw [HR0.out]; exact rn_nil _, Below.setCell (Below.setCell B2.out (Nat.le_succ _) _) (Nat.le_succ _) _⟩
      · have d1' : decide (b < 0) = false := decide_eq_false d1
        have d2' : decide (1099511627776 - S < b) = false := decide_eq_false d2
        have d3 : 0 < b := by omega
        have d3' : decide (0 < b) = true := decide_eq_true d3
        have e00 : R = [] := List.eq_nil_of_length_eq_zero (by omega)
        subst e00
        have d4 : (((([] : List Rn).length : Nat) : Int) == 0) = true := rfl
        clear hbad
        go_enter Try.func19, Try.ntmps19
        go_wp2_with (first
          | (go_at_call 24; go_must (refine (HK.out _ B0.out).mono ?_; rintro e1 w1 ⟨rfl, b1⟩; have B1 := Lib.hid (B0.out.trans (b1.mono B0.out.size)); have P1 := Lib.hid (P0.out.keep b1); have Q1 := Lib.hid (Q0.out.keep b1); have g0 := P1.out.cell 0; have g1 := P1.out.cell 1; have k0 := Q1.out.cell 0; have k1 := Q1.out.cell 1; have z0 := Q1.out.frozen 0; have z1 := Q1.out.frozen 1; clear b1))
          | (go_at_call 25; go_must (refine (HL.out _ B1.out).mono ?_; rintro e2 w2 ⟨rfl, b2⟩; have B2 := Lib.hid (B1.out.trans (b2.mono B1.out.size)); have P2 := Lib.hid (P1.out.keep b2); have Q2 := Lib.hid (Q1.out.keep b2); have g0 := P2.out.cell 0; have g1 := P2.out.cell 1; have k0 := Q2.out.cell 0; have k1 := Q2.out.cell 1; have z0 := Q2.out.frozen 0; have z1 := Q2.out.frozen 1; clear b2)))
        have e0 := (two_set (v0 := .slice none 0 0) (v1 := .slice none 0 0) k0 k1).1
        have e1 := (two_set (v0 := .slice none 0 0) (v1 := .slice none 0 0) k0 k1).2
        refine bodyPost_ret (v := .tuple #[.agg #[.slice none 0 0, .slice none 0 0], .int .i64 2]) (by simp [results, Try.results19, go_sem, e0, e1]) rfl ⟨_, _, by rw [HE.out], by rw [HN0.out]; exact nm_nil _, by rw [HR0.out]; exact rn_nil _, Below.setCell (Below.setCell B2.out (Nat.le_succ _) _) (Nat.le_succ _) _⟩
    · have he := dl_0 hz hbad
      obtain ⟨q1, q2, q3⟩ := ckC_dl he
      have HN0 := Lib.hid (dlN_0 he)
      have HR0 := Lib.hid (dlR_0 he)
      have HE := Lib.hid he
      have hw := IntWalk.i64_in (1099511627776 - lg R) (by omega)
      have HCln := Lib.hid (fun V U w' (h1 : NmArg w' V N) (h2 : RnArg w' U (dl R b)) => clean12_any N (dl R b) V U w' h1 hs h2 q1)
      rw [hz] at HK
      have d1 : ¬ b < 0 := by omega
      have d2 : ¬ 1099511627776 - lg R < b := by omega
      have d1' : decide (b < 0) = false := decide_eq_false d1
      have d2' : decide (1099511627776 - lg R < b) = false := decide_eq_false d2
      by_cases d3 : 0 < b
      · have d3' : decide (0 < b) = true := decide_eq_true d3
        have hR0 : 0 < R.length := by omega
        have d4 : ((R.length : Int) == 0) = false := by rw [beq_eq_false_iff_ne]; omega
        obtain ⟨x, hx⟩ : ∃ x, x = R[0] := ⟨_, rfl⟩
        have hel := el_range hck.2.2.2.2.2 0 hR0
        rw [← hx] at hel
        have HA := Lib.hid hx.symm
        have hw3 := IntWalk.i64_in (x.2 + b) (by omega)
        have HX := Lib.hid (show R.set 0 (x.1, x.2 + b) = dl R b by
          cases R with
          | nil => simp at hR0
          | cons r l => simp at hx; subst hx; rfl)
        clear hz hck hbad he q1 q2 q3 HCp' hrg hx
        generalize lg R = S at *
        go_enter Try.func19, Try.ntmps19
        go_wp2_with (first
          | (go_at_call 24; go_must (refine (HK.out _ B0.out).mono ?_; rintro e1 w1 ⟨rfl, b1⟩; have B1 := Lib.hid (B0.out.trans (b1.mono B0.out.size)); have P1 := Lib.hid (P0.out.keep b1); have Q1 := Lib.hid (Q0.out.keep b1); have g0 := P1.out.cell 0; have g1 := P1.out.cell 1; have k0 := Q1.out.cell 0; have k1 := Q1.out.cell 1; have z0 := Q1.out.frozen 0; have z1 := Q1.out.frozen 1; clear b1))
          | (go_at_call 25; go_must (refine (HL.out _ B1.out).mono ?_; rintro e2 w2 ⟨rfl, b2⟩; have B2 := Lib.hid (B1.out.trans (b2.mono B1.out.size)); have P2 := Lib.hid (P1.out.keep b2); have Q2 := Lib.hid (Q1.out.keep b2); have g0 := P2.out.cell 0; have g1 := P2.out.cell 1; have k0 := Q2.out.cell 0; have k1 := Q2.out.cell 1; have z0 := Q2.out.frozen 0; have z1 := Q2.out.frozen 1; clear b2))
          | (go_at_call 35; go_must (refine (HCp.out _ B2.out).mono ?_; rintro e3 w3 ⟨v1, v2, rfl, r1, r2, b3⟩; obtain ⟨UA, UN, UC, rfl, rfl⟩ := KRow.form r1; obtain ⟨g, VC, rfl⟩ := KRow.full r2 hR0; have B3 := Lib.hid (B2.out.trans (b3.mono B2.out.size)); have Q3 := Lib.hid (Q2.out.keep b3); have s2 : w.heap.size + 2 ≤ w2.heap.size := Q2.out.lt; clear g0 g1 k0 k1 z0 z1; have hgl := (KRow.mono r2 s2).len; have X3 := Lib.hid (RowAt.new w3 25 #[.slice UA N.length UC, .slice (some ⟨g, 0, none⟩) R.length VC]); have y4 := KRow.alloc r2 (.cells #[.slice UA N.length UC, .slice (some ⟨g, 0, none⟩) R.length VC] 25); have y1 := KRow.cell rnC_size y4 0 hR0 1 (by omega); have y0 := KRow.frozen y4 (0 * 2 + 1); rw [HA.out, show (rnC x)[1]? = some (Value.int .i64 x.2) from rfl] at y1; simp only [Nat.zero_mul, Nat.zero_add] at y1 y0; clear y4; have RS := KRow.cellSet rnC_size (KRow.mono r2 s2) 0 1 hR0 (by omega) (.int .i64 (x.2 + b)) (x.1, x.2 + b) (by rw [HA.out]; rfl); simp only [Nat.zero_mul, Nat.zero_add] at RS; have R2 := Lib.hid (KRow.alloc RS (.cells #[.slice UA N.length UC, .slice (some ⟨g, 0, none⟩) R.length VC] 25)); rw [HX.out] at R2; have R1 := Lib.hid (KRow.alloc (KRow.kept (KRow.mono r1 s2) (fun q _ hne => heap_setCell_other w3 ⟨g, 1, none⟩ (.int .i64 (x.2 + b)) q (fun e => hne (by rw [e]; rfl))) (names_apart r2 r1)) (.cells #[.slice UA N.length UC, .slice (some ⟨g, 0, none⟩) R.length VC] 25)); have Q4 := Lib.hid ((Q3.out.other ⟨g, 1, none⟩ (.int .i64 (x.2 + b)) (by show ¬ g = w.heap.size + 1; omega)).alloc (.cells #[.slice UA N.length UC, .slice (some ⟨g, 0, none⟩) R.length VC] 25)); have B4 := Lib.hid ((Below.setCell B3.out (show w.heap.size ≤ (⟨g, 1, none⟩ : Addr).block by show w.heap.size ≤ g; omega) (.int .i64 (x.2 + b))).alloc (Nat.le_trans B3.out.size (by rw [World.size_setCell]; exact Nat.le_refl _)) (.cells #[.slice UA N.length UC, .slice (some ⟨g, 0, none⟩) R.length VC] 25)); have X4 := Lib.hid (X3.out.other ⟨g, 1, none⟩ (.int .i64 (x.2 + b)) (by show ¬ g = w3.heap.size; omega)); have x0 := X3.out.cell 0; have x1 := X3.out.cell 1; have x2 := X4.out.cell 0; have x3 := X4.out.cell 1; clear r1 r2 b3 RS))
          | (go_at_call 44; go_must (refine (HCln.out _ _ _ (KRow.name R1.out) (KRow.arg rnC_size R2.out)).mono ?_; rintro e5 w5 ⟨v1, v2, rfl, hr, _, _, b5⟩; have hB4 := B4.out.size; obtain ⟨r1, r2⟩ := hr (w.heap.size + 2) Q4.out.lt R1.out R2.out; obtain ⟨SA, SN, SC, rfl, rfl⟩ := KRow.form r1; obtain ⟨TA, TN, TC, rfl, hTN⟩ := KRow.form r2; clear hTN hr; have B5 := Lib.hid (B4.out.trans (b5.mono hB4)); have R5 := Lib.hid r1; have R6 := Lib.hid r2; have Q5 := Lib.hid (Q4.out.keep b5); have k0 := Q5.out.cell 0; have k1 := Q5.out.cell 1; have z0 := Q5.out.frozen 0; have z1 := Q5.out.frozen 1; clear r1 r2 b5)))
        have e0 := (two_set (v0 := .slice SA N.length SC) (v1 := .slice TA TN TC) k0 k1).1
        have e1 := (two_set (v0 := .slice SA N.length SC) (v1 := .slice TA TN TC) k0 k1).2
        refine bodyPost_ret (v := .tuple #[.agg #[.slice SA N.length SC, .slice TA TN TC], .int .i64 0]) (by simp [results, Try.results19, go_sem, e0, e1]) rfl ⟨_, _, by rw [HE.out], by rw [HN0.out]; exact KRow.name (KRow.set2 R5.out (Nat.lt_succ_self _) _ _), by rw [HR0.out]; exact KRow.arg rnC_size (KRow.set2 R6.out (Nat.lt_succ_self _) _ _), Below.setCell (Below.setCell B5.out (Nat.le_succ _) _) (Nat.le_succ _) _⟩
      · have d3' : decide (0 < b) = false := decide_eq_false d3
        have hb0 : b = 0 := by omega
        subst hb0
        rw [dl_zero] at HR0 HCln
        clear hz hck hbad he q1 q2 q3 HCp' hrg
        generalize lg R = S at *
        go_enter Try.func19, Try.ntmps19
        go_wp2_with (first
          | (go_at_call 24; go_must (refine (HK.out _ B0.out).mono ?_; rintro e1 w1 ⟨rfl, b1⟩; have B1 := Lib.hid (B0.out.trans (b1.mono B0.out.size)); have P1 := Lib.hid (P0.out.keep b1); have Q1 := Lib.hid (Q0.out.keep b1); have g0 := P1.out.cell 0; have g1 := P1.out.cell 1; have k0 := Q1.out.cell 0; have k1 := Q1.out.cell 1; have z0 := Q1.out.frozen 0; have z1 := Q1.out.frozen 1; clear b1))
          | (go_at_call 25; go_must (refine (HL.out _ B1.out).mono ?_; rintro e2 w2 ⟨rfl, b2⟩; have B2 := Lib.hid (B1.out.trans (b2.mono B1.out.size)); have P2 := Lib.hid (P1.out.keep b2); have Q2 := Lib.hid (Q1.out.keep b2); have g0 := P2.out.cell 0; have g1 := P2.out.cell 1; have k0 := Q2.out.cell 0; have k1 := Q2.out.cell 1; have z0 := Q2.out.frozen 0; have z1 := Q2.out.frozen 1; clear b2))
          | (go_at_call 35; go_must (refine (HCp.out _ B2.out).mono ?_; rintro e3 w3 ⟨v1, v2, rfl, r1, r2, b3⟩; obtain ⟨UA, UN, UC, rfl, rfl⟩ := KRow.form r1; obtain ⟨VA, VN, VC, rfl, rfl⟩ := KRow.form r2; have B3 := Lib.hid (B2.out.trans (b3.mono B2.out.size)); have Q3 := Lib.hid (Q2.out.keep b3); have s2 : w.heap.size + 2 ≤ w2.heap.size := Q2.out.lt; clear g0 g1 k0 k1 z0 z1; have X3 := Lib.hid (RowAt.new w3 25 #[.slice UA N.length UC, .slice VA R.length VC]); have R1 := Lib.hid (KRow.alloc (KRow.mono r1 s2) (.cells #[.slice UA N.length UC, .slice VA R.length VC] 25)); have R2 := Lib.hid (KRow.alloc (KRow.mono r2 s2) (.cells #[.slice UA N.length UC, .slice VA R.length VC] 25)); have Q4 := Lib.hid (Q3.out.alloc (.cells #[.slice UA N.length UC, .slice VA R.length VC] 25)); have B4 := Lib.hid (B3.out.alloc B3.out.size (.cells #[.slice UA N.length UC, .slice VA R.length VC] 25)); have x0 := X3.out.cell 0; have x1 := X3.out.cell 1; clear r1 r2 b3))
          | (go_at_call 44; go_must (refine (HCln.out _ _ _ (KRow.name R1.out) (KRow.arg rnC_size R2.out)).mono ?_; rintro e5 w5 ⟨v1, v2, rfl, hr, _, _, b5⟩; have hB4 := B4.out.size; obtain ⟨r1, r2⟩ := hr (w.heap.size + 2) Q4.out.lt R1.out R2.out; obtain ⟨SA, SN, SC, rfl, rfl⟩ := KRow.form r1; obtain ⟨TA, TN, TC, rfl, hTN⟩ := KRow.form r2; clear hTN hr; have B5 := Lib.hid (B4.out.trans (b5.mono hB4)); have R5 := Lib.hid r1; have R6 := Lib.hid r2; have Q5 := Lib.hid (Q4.out.keep b5); have k0 := Q5.out.cell 0; have k1 := Q5.out.cell 1; have z0 := Q5.out.frozen 0; have z1 := Q5.out.frozen 1; clear r1 r2 b5)))
        have e0 := (two_set (v0 := .slice SA N.length SC) (v1 := .slice TA TN TC) k0 k1).1
        have e1 := (two_set (v0 := .slice SA N.length SC) (v1 := .slice TA TN TC) k0 k1).2
        refine bodyPost_ret (v := .tuple #[.agg #[.slice SA N.length SC, .slice TA TN TC], .int .i64 0]) (by simp [results, Try.results19, go_sem, e0, e1]) rfl ⟨_, _, by rw [HE.out], by rw [HN0.out]; exact KRow.name (KRow.set2 R5.out (Nat.lt_succ_self _) _ _), by rw [HR0.out]; exact KRow.arg rnC_size (KRow.set2 R6.out (Nat.lt_succ_self _) _ _), Below.setCell (Below.setCell B5.out (Nat.le_succ _) _) (Nat.le_succ _) _⟩
  · have he := dl_c (b := b) hz
    have hne : ¬ dlE N R b = 0 := by rw [he]; exact hz
    have HN0 := Lib.hid (dlN_no hne)
    have HR0 := Lib.hid (dlR_no hne)
    have HE := Lib.hid he
    clear hne he
    have hyz : (ckC N R == 0) = false := by simpa using hz
    clear HCp' HL
    generalize ckC N R = r at *
    clear hz
    go_enter Try.func19, Try.ntmps19
    go_wp2_with (first
      | (go_at_call 24; go_must (refine (HK.out _ B0.out).mono ?_; rintro e1 w1 ⟨rfl, b1⟩; have B1 := Lib.hid (B0.out.trans (b1.mono B0.out.size)); have P1 := Lib.hid (P0.out.keep b1); have Q1 := Lib.hid (Q0.out.keep b1); have g0 := P1.out.cell 0; have g1 := P1.out.cell 1; have k0 := Q1.out.cell 0; have k1 := Q1.out.cell 1; have z0 := Q1.out.frozen 0; have z1 := Q1.out.frozen 1; clear b1)))
    have e0 := (two_set (v0 := .slice none 0 0) (v1 := .slice none 0 0) k0 k1).1
    have e1 := (two_set (v0 := .slice none 0 0) (v1 := .slice none 0 0) k0 k1).2
    refine bodyPost_ret (v := .tuple #[.agg #[.slice none 0 0, .slice none 0 0], .int .i64 r]) (by simp [results, Try.results19, go_sem, e0, e1]) rfl ⟨_, _, by rw [HE.out], by rw [HN0.out]; exact nm_nil _, by rw [HR0.out]; exact rn_nil _, Below.setCell (Below.setCell B1.out (Nat.le_succ _) _) (Nat.le_succ _) _⟩
end Go.Proofs.Ytbahijhhcibfaaa

namespace Go.Proofs.Ytbahijhhcibfaaa
open Go Go.RowKit Go.Joins
set_option linter.unusedVariables false
set_option linter.unusedSimpArgs false

def sxE (N : List ByteArray) (R : List Rn) (n d : Int) : Int := if ckC N R ≠ 0 then ckC N R else if Sr.validB n d = false ∨ n < 1 then 1 else if 4294967296 < lg R ∨ 1099511627776 < fs n d (lg R) then 3 else 0
def sxN (N : List ByteArray) (R : List Rn) (n d : Int) : List ByteArray := if sxE N R n d = 0 then N else []
def sxR (N : List ByteArray) (R : List Rn) (n d : Int) : List Rn := if sxE N R n d = 0 then jn (scr (fs n d) 0 R) else []
theorem sx_c {N : List ByteArray} {R : List Rn} {n d : Int} (h : ¬ ckC N R = 0) : sxE N R n d = ckC N R := by unfold sxE; rw [if_pos h]
theorem sx_1 {N : List ByteArray} {R : List Rn} {n d : Int} (h : ckC N R = 0) (h1 : Sr.validB n d = false ∨ n < 1) : sxE N R n d = 1 := by unfold sxE; rw [if_neg (fun x => x h), if_pos h1]
theorem sx_3 {N : List ByteArray} {R : List Rn} {n d : Int} (h : ckC N R = 0) (h1 : ¬ (Sr.validB n d = false ∨ n < 1)) (h3 : 4294967296 < lg R ∨ 1099511627776 < fs n d (lg R)) : sxE N R n d = 3 := by unfold sxE; rw [if_neg (fun x => x h), if_neg h1, if_pos h3]
theorem sx_0 {N : List ByteArray} {R : List Rn} {n d : Int} (h : ckC N R = 0) (h1 : ¬ (Sr.validB n d = false ∨ n < 1)) (h3 : ¬ (4294967296 < lg R ∨ 1099511627776 < fs n d (lg R))) : sxE N R n d = 0 := by unfold sxE; rw [if_neg (fun x => x h), if_neg h1, if_neg h3]
theorem sx_ok {N : List ByteArray} {R : List Rn} {n d : Int} (h : sxE N R n d = 0) : ckC N R = 0 ∧ Sr.validB n d = true ∧ 1 ≤ n ∧ lg R ≤ 4294967296 ∧ fs n d (lg R) ≤ 1099511627776 := by
  unfold sxE at h
  split at h
  · rename_i h1; exact absurd h h1
  · rename_i h1
    split at h
    · omega
    · rename_i h2
      split at h
      · omega
      · rename_i h3
        refine ⟨by simpa using h1, ?_, by omega, by omega, by omega⟩
        cases hv : Sr.validB n d
        · exact absurd (Or.inl hv) h2
        · rfl
theorem sxN_0 {N : List ByteArray} {R : List Rn} {n d : Int} (h : sxE N R n d = 0) : sxN N R n d = N := by unfold sxN; rw [if_pos h]
theorem sxN_no {N : List ByteArray} {R : List Rn} {n d : Int} (h : ¬ sxE N R n d = 0) : sxN N R n d = [] := by unfold sxN; rw [if_neg h]
theorem sxR_0 {N : List ByteArray} {R : List Rn} {n d : Int} (h : sxE N R n d = 0) : sxR N R n d = jn (scr (fs n d) 0 R) := by unfold sxR; rw [if_pos h]
theorem sxR_no {N : List ByteArray} {R : List Rn} {n d : Int} (h : ¬ sxE N R n d = 0) : sxR N R n d = [] := by unfold sxR; rw [if_neg h]
theorem sx_good {N : List ByteArray} {R : List Rn} {n d : Int} (h : sxE N R n d = 0) : ckC N (scr (fs n d) 0 R) = 0 ∧ ckC N (jn (scr (fs n d) 0 R)) = 0 ∧ lg (scr (fs n d) 0 R) = fs n d (lg R) := by
  obtain ⟨h1, h2, h3, h4, h5⟩ := sx_ok h
  have hv := Sr.valid_bd h2
  exact ckC_scr h1 (fs_mono (by omega) (by omega)) (fs_zero n d) h5
theorem heldS {w W W' : World} {b : Nat} {x0 x1 y0 y1 : Value} (h : W.cell? ⟨b, 0, none⟩ = some x0 ∧ W.cell? ⟨b, 1, none⟩ = some x1 ∧ W.cell? ⟨b + 1, 0, none⟩ = some y0 ∧ W.cell? ⟨b + 1, 1, none⟩ = some y1 ∧ Below w.heap.size w W ∧ b + 2 < W.heap.size) (hb : Below W.heap.size W W') :
    W'.cell? ⟨b, 0, none⟩ = some x0 ∧ W'.cell? ⟨b, 1, none⟩ = some x1 ∧ W'.cell? ⟨b + 1, 0, none⟩ = some y0 ∧ W'.cell? ⟨b + 1, 1, none⟩ = some y1 ∧ Below w.heap.size w W' ∧ b + 2 < W'.heap.size := by
  obtain ⟨h0, h1, h2, h3, h4, h5⟩ := h
  have := hb.size
  have c := (bcell hb).1
  exact ⟨(c _ _ (by omega)).trans h0, (c _ _ (by omega)).trans h1, (c _ _ (by omega)).trans h2, (c _ _ (by omega)).trans h3, h4.trans (hb.mono h4.size), by omega⟩

set_option maxRecDepth 100000 in
set_option maxHeartbeats 8000000 in
theorem scale12_any (N : List ByteArray) (R : List Rn) (n d : Int) (vN vR : Value) (w : World) (hN : NmArg w vN N) (hs : szs N) (hR : RnArg w vR R) (hn : R.length ≤ 16000) (hnn : N.length ≤ 4096) (hn0 : -9223372036854775808 ≤ n) (hn1 : n ≤ 9223372036854775807) (hd0 : -9223372036854775808 ≤ d) (hd1 : d ≤ 9223372036854775807) :
    Calls Try.prog 21 #[.agg #[vN, vR], .agg #[.int .i64 n, .int .i64 d]] w fun e w' => ∃ v1 v2 : Value, e = .returned (.tuple #[.agg #[v1, v2], .int .i64 (sxE N R n d)]) ∧ NmArg w' v1 (sxN N R n d) ∧ RnArg w' v2 (sxR N R n d) ∧ Below w.heap.size w w' := by
  have HK := Lib.hid (fun w' (hb : Below w.heap.size w w') => check_any N R vN vR w' (hN.keep hb) hs (hR.keep hb) (by omega))
  have HL := Lib.hid (fun w' (hb : Below w.heap.size w w') => longC_any N R vN vR w' (hN.keep hb) hs (hR.keep hb) (by omega))
  have HV := Lib.hid (fun w' => Sr.valid_any n d w' hn0 hn1 hd0 hd1)
  have HCp' := fun (h : ckC N R = 0) w' (hb : Below w.heap.size w w') => copiedC_any N R vN vR w' (hN.keep hb) (hR.keep hb) (by omega) (fun j hj => nm_small (ckC_ok h).2.2.2.2.1 j hj) (by omega)
  have HSR' := fun h0 h1 h2 h3 h4 w' (hb : Below w.heap.size w w') => scaledRuns_any (mk N.length) R vR n d w' (hR.keep hb) (by omega) h0 h1 h2 h3 h4
  obtain ⟨A1, c1, rfl, _⟩ := hN.form
  obtain ⟨A2, c2, rfl⟩ := hR.form
  have e1s : (w.alloc (.cells #[.slice A1 N.length c1, .slice A2 R.length c2] 25)).heap.size = w.heap.size + 1 := World.size_alloc _ _
  have e2s : ((w.alloc (.cells #[.slice A1 N.length c1, .slice A2 R.length c2] 25)).alloc (.cells #[.int .i64 n, .int .i64 d] 37)).heap.size = w.heap.size + 2 := by rw [World.size_alloc, e1s]
  have B0 := Lib.hid (((ba w (.cells #[.slice A1 N.length c1, .slice A2 R.length c2] 25)).alloc (ba w _).size (.cells #[.int .i64 n, .int .i64 d] 37)).alloc (by rw [e2s]; omega) (.cells #[.slice none 0 0, .slice none 0 0] 25))
  have P0 := Lib.hid (((RowAt.new w 25 #[.slice A1 N.length c1, .slice A2 R.length c2]).alloc (.cells #[.int .i64 n, .int .i64 d] 37)).alloc (.cells #[.slice none 0 0, .slice none 0 0] 25))
  have T0' := (RowAt.new (w.alloc (.cells #[.slice A1 N.length c1, .slice A2 R.length c2] 25)) 37 #[.int .i64 n, .int .i64 d]).alloc (.cells #[.slice none 0 0, .slice none 0 0] 25)
  have Q0' := RowAt.new ((w.alloc (.cells #[.slice A1 N.length c1, .slice A2 R.length c2] 25)).alloc (.cells #[.int .i64 n, .int .i64 d] 37)) 25 #[.slice none 0 0, .slice none 0 0]
  rw [e2s] at Q0'
  rw [e1s] at T0'
  have Q0 := Lib.hid Q0'
  have T0 := Lib.hid T0'
  clear Q0' T0' e1s e2s hN hR
  have g0 := P0.out.cell 0
  have g1 := P0.out.cell 1
  have t0 := T0.out.cell 0
  have t1 := T0.out.cell 1
  have k0 := Q0.out.cell 0
  have k1 := Q0.out.cell 1
  have z0 := Q0.out.frozen 0
  have z1 := Q0.out.frozen 1
  by_cases hz : ckC N R = 0
  · have hck := ckC_ok hz
    have hrg := vr_range hck.2.2.2.2.2
    have HCp := Lib.hid (HCp' hz)
    have HSR2 := HSR' hck.2.2.2.2.2
    rw [lgC_yes hz] at HL
    cases hv : Sr.validB n d with
    | false =>
      have he := sx_1 (R := R) (n := n) (d := d) hz (Or.inl hv)
      have hne : ¬ sxE N R n d = 0 := by rw [he]; exact by decide
      have HN0 := Lib.hid (sxN_no hne)
      have HR0 := Lib.hid (sxR_no hne)
      have HE := Lib.hid he
      clear hne he
      rw [hz] at HK
      rw [hv] at HV
      clear HCp' HSR' HSR2 HCp hck hz HL hrg
      go_enter Try.func21, Try.ntmps21
      go_wp2_with (first
        | (go_at_call 24; go_must (refine (HK.out _ B0.out).mono ?_; rintro e1 w1 ⟨rfl, b1⟩; have BA := Lib.hid (B0.out.trans (b1.mono B0.out.size)); have PA := Lib.hid (P0.out.keep b1); have TA := Lib.hid (T0.out.keep b1); have QA := Lib.hid (Q0.out.keep b1); clear g0 g1 t0 t1 k0 k1 z0 z1; have g0 := PA.out.cell 0; have g1 := PA.out.cell 1; have t0 := TA.out.cell 0; have t1 := TA.out.cell 1; have k0 := QA.out.cell 0; have k1 := QA.out.cell 1; have z0 := QA.out.frozen 0; have z1 := QA.out.frozen 1; clear b1))
        | (go_at_call 45; go_must (refine (HV.out _).mono ?_; rintro e2 wv ⟨rfl, b2⟩; have B1 := Lib.hid (BA.out.trans (b2.mono BA.out.size)); have P1 := Lib.hid (PA.out.keep b2); have T1 := Lib.hid (TA.out.keep b2); have Q1 := Lib.hid (QA.out.keep b2); clear g0 g1 t0 t1 k0 k1 z0 z1; have g0 := P1.out.cell 0; have g1 := P1.out.cell 1; have t0 := T1.out.cell 0; have t1 := T1.out.cell 1; have k0 := Q1.out.cell 0; have k1 := Q1.out.cell 1; have z0 := Q1.out.frozen 0; have z1 := Q1.out.frozen 1; clear b2)))
      have e0 := (two_set (v0 := .slice none 0 0) (v1 := .slice none 0 0) k0 k1).1
      have e1 := (two_set (v0 := .slice none 0 0) (v1 := .slice none 0 0) k0 k1).2
      refine bodyPost_ret (v := .tuple #[.agg #[.slice none 0 0, .slice none 0 0], .int .i64 1]) (by simp [results, Try.results21, go_sem, e0, e1]) rfl ⟨_, _, by rw [HE.out], by rw [HN0.out]; exact nm_nil _, by rw [HR0.out]; exact rn_nil _, Below.setCell (Below.setCell B1.out (by show w.heap.size ≤ w.heap.size + 2; omega) _) (by show w.heap.size ≤ w.heap.size + 2; omega) _⟩
    | true =>
      have hvb := Sr.valid_bd hv
      by_cases h1 : n < 1
      · have he := sx_1 (R := R) (d := d) hz (Or.inr h1)
        have hne : ¬ sxE N R n d = 0 := by rw [he]; exact by decide
        have HN0 := Lib.hid (sxN_no hne)
        have HR0 := Lib.hid (sxR_no hne)
        have HE := Lib.hid he
        clear hne he
        rw [hz] at HK
        rw [hv] at HV
        have d1 : n ≤ 0 := by omega
        have d1' : decide (n ≤ 0) = true := decide_eq_true d1
        clear HCp' HSR' HSR2 HCp hck hz HL hrg
        go_enter Try.func21, Try.ntmps21
        go_wp2_with (first
          | (go_at_call 24; go_must (refine (HK.out _ B0.out).mono ?_; rintro e1 w1 ⟨rfl, b1⟩; have BA := Lib.hid (B0.out.trans (b1.mono B0.out.size)); have PA := Lib.hid (P0.out.keep b1); have TA := Lib.hid (T0.out.keep b1); have QA := Lib.hid (Q0.out.keep b1); clear g0 g1 t0 t1 k0 k1 z0 z1; have g0 := PA.out.cell 0; have g1 := PA.out.cell 1; have t0 := TA.out.cell 0; have t1 := TA.out.cell 1; have k0 := QA.out.cell 0; have k1 := QA.out.cell 1; have z0 := QA.out.frozen 0; have z1 := QA.out.frozen 1; clear b1))
          | (go_at_call 45; go_must (refine (HV.out _).mono ?_; rintro e2 wv ⟨rfl, b2⟩; have B1 := Lib.hid (BA.out.trans (b2.mono BA.out.size)); have P1 := Lib.hid (PA.out.keep b2); have T1 := Lib.hid (TA.out.keep b2); have Q1 := Lib.hid (QA.out.keep b2); clear g0 g1 t0 t1 k0 k1 z0 z1; have g0 := P1.out.cell 0; have g1 := P1.out.cell 1; have t0 := T1.out.cell 0; have t1 := T1.out.cell 1; have k0 := Q1.out.cell 0; have k1 := Q1.out.cell 1; have z0 := Q1.out.frozen 0; have z1 := Q1.out.frozen 1; clear b2)))
        have e0 := (two_set (v0 := .slice none 0 0) (v1 := .slice none 0 0) k0 k1).1
        have e1 := (two_set (v0 := .slice none 0 0) (v1 := .slice none 0 0) k0 k1).2
        refine bodyPost_ret (v := .tuple #[.agg #[.slice none 0 0, .slice none 0 0], .int .i64 1]) (by simp [results, Try.results21, go_sem, e0, e1]) rfl ⟨_, _, by rw [HE.out], by rw [HN0.out]; exact nm_nil _, by rw [HR0.out]; exact rn_nil _, Below.setCell (Below.setCell B1.out (by show w.heap.size ≤ w.heap.size + 2; omega) _) (by show w.heap.size ≤ w.heap.size + 2; omega) _⟩
      · have d1 : ¬ n ≤ 0 := by omega
        have d1' : decide (n ≤ 0) = false := decide_eq_false d1
        have hor : ¬ (Sr.validB n d = false ∨ n < 1) := by rw [hv]; rintro (h | h); exact absurd h (by decide); exact h1 h
        have hSc := fun w' => Sr.sc_any n d (lg R) w' hn0 hn1 hd0 hd1 (by omega) (by omega)
        rw [hv] at hSc
        by_cases h2 : 4294967296 < lg R
        · have he := sx_3 hz hor (Or.inl h2)
          have hne : ¬ sxE N R n d = 0 := by rw [he]; exact by decide
          have HN0 := Lib.hid (sxN_no hne)
          have HR0 := Lib.hid (sxR_no hne)
          have HE := Lib.hid he
          clear hne he
          have HSc := Lib.hid (show ∀ w', Calls Try.prog 46 #[.agg #[.int .i64 n, .int .i64 d], .int .i64 (lg R)] w' fun e w'' => e = .returned (.tuple #[.int .i64 0, .int .i64 3]) ∧ Below w'.heap.size w' w'' by
            intro w'
            have := hSc w'
            simp only [Sr.scV, Sr.scE] at this
            rw [if_pos (Or.inr h2), if_pos (Or.inr h2)] at this
            exact this)
          rw [hz] at HK
          rw [hv] at HV
          clear HCp' HSR' HSR2 HCp hck hz hor hSc hrg h2
          generalize lg R = G at *
          go_enter Try.func21, Try.ntmps21
          go_wp2_with (first
            | (go_at_call 24; go_must (refine (HK.out _ B0.out).mono ?_; rintro e1 w1 ⟨rfl, b1⟩; have BA := Lib.hid (B0.out.trans (b1.mono B0.out.size)); have PA := Lib.hid (P0.out.keep b1); have TA := Lib.hid (T0.out.keep b1); have QA := Lib.hid (Q0.out.keep b1); clear g0 g1 t0 t1 k0 k1 z0 z1; have g0 := PA.out.cell 0; have g1 := PA.out.cell 1; have t0 := TA.out.cell 0; have t1 := TA.out.cell 1; have k0 := QA.out.cell 0; have k1 := QA.out.cell 1; have z0 := QA.out.frozen 0; have z1 := QA.out.frozen 1; clear b1))
            | (go_at_call 45; go_must (refine (HV.out _).mono ?_; rintro e2 wv ⟨rfl, b2⟩; have B1 := Lib.hid (BA.out.trans (b2.mono BA.out.size)); have P1 := Lib.hid (PA.out.keep b2); have T1 := Lib.hid (TA.out.keep b2); have Q1 := Lib.hid (QA.out.keep b2); clear g0 g1 t0 t1 k0 k1 z0 z1; have g0 := P1.out.cell 0; have g1 := P1.out.cell 1; have t0 := T1.out.cell 0; have t1 := T1.out.cell 1; have k0 := Q1.out.cell 0; have k1 := Q1.out.cell 1; have z0 := Q1.out.frozen 0; have z1 := Q1.out.frozen 1; clear b2)))
          generalize hW1 : wv = WX at *
          clear hW1
          have S0 := Lib.hid (show WX.drew.cell? ⟨w.heap.size, 0, none⟩ = some (.slice A1 N.length c1) ∧ WX.drew.cell? ⟨w.heap.size, 1, none⟩ = some (.slice A2 R.length c2) ∧ WX.drew.cell? ⟨w.heap.size + 1, 0, none⟩ = some (.int .i64 n) ∧ WX.drew.cell? ⟨w.heap.size + 1, 1, none⟩ = some (.int .i64 d) ∧ Below w.heap.size w WX.drew ∧ w.heap.size + 2 < WX.drew.heap.size from ⟨P1.out.cell 0, P1.out.cell 1, T1.out.cell 0, T1.out.cell 1, B1.out.drew, Q1.out.lt⟩)
          have P1d := P1
          have T1d := T1
          have Q1d := Q1
          clear P1 T1 Q1 g0 g1 t0 t1 k0 k1 z0 z1
          have P1 := Lib.hid (show RowAt WX.drew _ _ _ from P1d.out)
          have T1 := Lib.hid (show RowAt WX.drew _ _ _ from T1d.out)
          have Q1 := Lib.hid (show RowAt WX.drew _ _ _ from Q1d.out)
          clear P1d T1d Q1d
          refine wp_region_held_drew (S := fun w' => w'.cell? ⟨w.heap.size, 0, none⟩ = some (.slice A1 N.length c1) ∧ w'.cell? ⟨w.heap.size, 1, none⟩ = some (.slice A2 R.length c2) ∧ w'.cell? ⟨w.heap.size + 1, 0, none⟩ = some (.int .i64 n) ∧ w'.cell? ⟨w.heap.size + 1, 1, none⟩ = some (.int .i64 d) ∧ Below w.heap.size w w' ∧ w.heap.size + 2 < w'.heap.size) (by kernel_rfl) ?_ (fun hH => ?_)
          · exact S0.out
          generalize WX.drew = WD at *
          refine wpAnyH_take (i := 0) (oi := { dst := some 26, op := Go.Op.load 37 (Go.Operand.tmp 3), type := 37, pos := "remap.go:89", after := #[], guard := none }) (v := ?_) rfl ?_ ?_ ?_ ?_ (Or.inl ⟨?_, ?_⟩) hH ?_
          rotate_left
          · kernel_rfl
          · kernel_rfl
          · kernel_rfl
          · exact fun _ _ _ h => h
          · kernel_rfl
          · intro wS hSw
            try dsimp only at hSw
            go_simp
            try with_reducible rfl
          try simp only [Act.put, List.setIfInBounds_toArray, List.set_cons_zero, List.set_cons_succ]
          refine wpAnyH_take (i := 1) (oi := { dst := some 27, op := Go.Op.load 25 (Go.Operand.tmp 2), type := 25, pos := "remap.go:89", after := #[], guard := none }) (v := ?_) rfl ?_ ?_ ?_ ?_ (Or.inl ⟨?_, ?_⟩) hH ?_
          rotate_left
          · kernel_rfl
          · kernel_rfl
          · kernel_rfl
          · exact fun _ _ _ h => h
          · kernel_rfl
          · intro wS hSw
            try dsimp only at hSw
            go_simp
            try with_reducible rfl
          try simp only [Act.put, List.setIfInBounds_toArray, List.set_cons_zero, List.set_cons_succ]
          refine wpAnyH_ready (rs := [2]) (by kernel_rfl) (by simp) ?_
          refine AllReadyH.cons (o := { dst := some 28, op := Go.Op.call { callee := Go.Callee.value (Go.Operand.func 25), args := #[Go.Operand.tmp 27], argTypes := #[25] }, type := 3, pos := "remap.go:89", after := #[{ on := 1, ground := Go.Ground.data }], guard := none }) rfl (fun K hK => ?_) AllReadyH.nil
          · go_simp
            refine (HL.out _ S0.out.2.2.2.2.1).mono ?_
            rintro e2 w2 ⟨rfl, b2⟩
            try go_wp2_with fail
            have S2 := Lib.hid (heldS S0.out b2)
            have P2 := Lib.hid (P1.out.keep b2)
            have T2 := Lib.hid (T1.out.keep b2)
            have Q2 := Lib.hid (Q1.out.keep b2)
            clear b2
            refine hK.out _ _ ?_ (fun hH1 => ?_)
            · exact S2.out
            clear hK K hH
            try simp only [Act.put, List.setIfInBounds_toArray, List.set_cons_zero, List.set_cons_succ]
            refine wpAnyH_ready (rs := [3]) (by kernel_rfl) (by simp) ?_
            refine AllReadyH.cons (o := { dst := some 29, op := Go.Op.call { callee := Go.Callee.value (Go.Operand.func 46), args := #[Go.Operand.tmp 26, Go.Operand.tmp 28], argTypes := #[37, 3] }, type := 64, pos := "remap.go:89", after := #[{ on := 0, ground := Go.Ground.data }, { on := 2, ground := Go.Ground.data }, { on := 2, ground := Go.Ground.chain }], guard := none }) rfl (fun K hK => ?_) AllReadyH.nil
            · go_simp
              refine (HSc.out _).mono ?_
              rintro e3 w3 ⟨rfl, b3⟩
              try go_wp2_with fail
              have S3 := Lib.hid (heldS S2.out b3)
              have P3 := Lib.hid (P2.out.keep b3)
              have T3 := Lib.hid (T2.out.keep b3)
              have Q3 := Lib.hid (Q2.out.keep b3)
              have B3 := Lib.hid S3.out.2.2.2.2.1
              clear b3
              refine hK.out _ _ ?_ (fun hH2 => ?_)
              · exact S3.out
              clear hK K hH1
              try simp only [Act.put, List.setIfInBounds_toArray, List.set_cons_zero, List.set_cons_succ]
              refine wpAnyH_take (i := 4) (oi := { dst := some 25, op := Go.Op.move (Go.Operand.tmp 29), type := 64, pos := "remap.go:89", after := #[{ on := 3, ground := Go.Ground.data }], guard := none }) (v := ?_) rfl ?_ ?_ ?_ ?_ (Or.inl ⟨?_, ?_⟩) hH2 ?_
              rotate_left
              · kernel_rfl
              · kernel_rfl
              · kernel_rfl
              · exact fun _ _ _ h => h
              · kernel_rfl
              · intro wS hSw
                try dsimp only at hSw
                go_simp
                try with_reducible rfl
              try simp only [Act.put, List.setIfInBounds_toArray, List.set_cons_zero, List.set_cons_succ]
              refine wpAnyH_take (i := 5) (oi := { dst := some 30, op := Go.Op.extract (Go.Operand.tmp 25) 0, type := 3, pos := "remap.go:89", after := #[{ on := 4, ground := Go.Ground.data }], guard := none }) (v := ?_) rfl ?_ ?_ ?_ ?_ (Or.inl ⟨?_, ?_⟩) hH2 ?_
              rotate_left
              · kernel_rfl
              · kernel_rfl
              · kernel_rfl
              · exact fun _ _ _ h => h
              · kernel_rfl
              · intro wS hSw
                try dsimp only at hSw
                go_simp
                try with_reducible rfl
              try simp only [Act.put, List.setIfInBounds_toArray, List.set_cons_zero, List.set_cons_succ]
              refine wpAnyH_take (i := 6) (oi := { dst := some 31, op := Go.Op.extract (Go.Operand.tmp 25) 1, type := 28, pos := "remap.go:89", after := #[{ on := 4, ground := Go.Ground.data }, { on := 7, ground := Go.Ground.gcOnly Go.Departure.lateStores }], guard := none }) (v := ?_) rfl ?_ ?_ ?_ ?_ (Or.inl ⟨?_, ?_⟩) hH2 ?_
              rotate_left
              · kernel_rfl
              · kernel_rfl
              · kernel_rfl
              · exact fun _ _ _ h => h
              · kernel_rfl
              · intro wS hSw
                try dsimp only at hSw
                go_simp
                try with_reducible rfl
              try simp only [Act.put, List.setIfInBounds_toArray, List.set_cons_zero, List.set_cons_succ]
              refine wpAnyH_take (i := 7) (oi := { dst := some 7, op := Go.Op.assign (Go.Operand.tmp 30), type := 3, pos := "remap.go:89", after := #[{ on := 5, ground := Go.Ground.data }, { on := 3, ground := Go.Ground.chain }, { on := 0, ground := Go.Ground.phase }, { on := 1, ground := Go.Ground.phase }, { on := 2, ground := Go.Ground.phase }, { on := 3, ground := Go.Ground.phase }, { on := 4, ground := Go.Ground.phase }, { on := 5, ground := Go.Ground.phase }, { on := 6, ground := Go.Ground.textOnly Go.Departure.lateStores }], guard := none }) (v := ?_) rfl ?_ ?_ ?_ ?_ (Or.inl ⟨?_, ?_⟩) hH2 ?_
              rotate_left
              · kernel_rfl
              · kernel_rfl
              · kernel_rfl
              · exact fun _ _ _ h => h
              · kernel_rfl
              · intro wS hSw
                try dsimp only at hSw
                go_simp
                try with_reducible rfl
              try simp only [Act.put, List.setIfInBounds_toArray, List.set_cons_zero, List.set_cons_succ]
              refine wpAnyH_take (i := 8) (oi := { dst := some 8, op := Go.Op.assign (Go.Operand.tmp 31), type := 28, pos := "remap.go:89", after := #[{ on := 6, ground := Go.Ground.data }, { on := 7, ground := Go.Ground.chain }, { on := 0, ground := Go.Ground.phase }, { on := 1, ground := Go.Ground.phase }, { on := 2, ground := Go.Ground.phase }, { on := 3, ground := Go.Ground.phase }, { on := 4, ground := Go.Ground.phase }, { on := 5, ground := Go.Ground.phase }, { on := 6, ground := Go.Ground.phase }, { on := 7, ground := Go.Ground.phase }], guard := none }) (v := ?_) rfl ?_ ?_ ?_ ?_ (Or.inl ⟨?_, ?_⟩) hH2 ?_
              rotate_left
              · kernel_rfl
              · kernel_rfl
              · kernel_rfl
              · exact fun _ _ _ h => h
              · kernel_rfl
              · intro wS hSw
                try dsimp only at hSw
                go_simp
                try with_reducible rfl
              try simp only [Act.put, List.setIfInBounds_toArray, List.set_cons_zero, List.set_cons_succ]
              refine wpAnyH_done (by kernel_rfl) ?_ _
              clear S0 S2 S3
              have g0 := P3.out.cell 0
              have g1 := P3.out.cell 1
              have t0 := T3.out.cell 0
              have t1 := T3.out.cell 1
              have k0 := Q3.out.cell 0
              have k1 := Q3.out.cell 1
              have z0 := Q3.out.frozen 0
              have z1 := Q3.out.frozen 1
              go_wp2
              have e0 := (two_set (v0 := .slice none 0 0) (v1 := .slice none 0 0) k0 k1).1
              have e1 := (two_set (v0 := .slice none 0 0) (v1 := .slice none 0 0) k0 k1).2
              refine bodyPost_ret (v := .tuple #[.agg #[.slice none 0 0, .slice none 0 0], .int .i64 3]) (by simp [results, Try.results21, go_sem, e0, e1]) rfl ⟨_, _, by rw [HE.out], by rw [HN0.out]; exact nm_nil _, by rw [HR0.out]; exact rn_nil _, Below.setCell (Below.setCell B3.out (by show w.heap.size ≤ w.heap.size + 2; omega) _) (by show w.heap.size ≤ w.heap.size + 2; omega) _⟩
        · have HSc := Lib.hid (show ∀ w', Calls Try.prog 46 #[.agg #[.int .i64 n, .int .i64 d], .int .i64 (lg R)] w' fun e w'' => e = .returned (.tuple #[.int .i64 (fs n d (lg R)), .int .i64 0]) ∧ Below w'.heap.size w' w'' by
            intro w'
            have := hSc w'
            simp only [Sr.scV, Sr.scE] at this
            rw [if_neg (by omega), if_neg (by omega)] at this
            exact this)
          by_cases h3 : 1099511627776 < fs n d (lg R)
          · have he := sx_3 hz hor (Or.inr h3)
            have hne : ¬ sxE N R n d = 0 := by rw [he]; exact by decide
            have HN0 := Lib.hid (sxN_no hne)
            have HR0 := Lib.hid (sxR_no hne)
            have HE := Lib.hid he
            clear hne he
            rw [hz] at HK
            rw [hv] at HV
            clear HCp' HSR' HSR2 HCp hck hz hor hSc hrg h2
            generalize fs n d (lg R) = F at *
            generalize lg R = G at *
            have d3 : decide (1099511627776 < F) = true := decide_eq_true h3
            go_enter Try.func21, Try.ntmps21
            go_wp2_with (first
              | (go_at_call 24; go_must (refine (HK.out _ B0.out).mono ?_; rintro e1 w1 ⟨rfl, b1⟩; have BA := Lib.hid (B0.out.trans (b1.mono B0.out.size)); have PA := Lib.hid (P0.out.keep b1); have TA := Lib.hid (T0.out.keep b1); have QA := Lib.hid (Q0.out.keep b1); clear g0 g1 t0 t1 k0 k1 z0 z1; have g0 := PA.out.cell 0; have g1 := PA.out.cell 1; have t0 := TA.out.cell 0; have t1 := TA.out.cell 1; have k0 := QA.out.cell 0; have k1 := QA.out.cell 1; have z0 := QA.out.frozen 0; have z1 := QA.out.frozen 1; clear b1))
              | (go_at_call 45; go_must (refine (HV.out _).mono ?_; rintro e2 wv ⟨rfl, b2⟩; have B1 := Lib.hid (BA.out.trans (b2.mono BA.out.size)); have P1 := Lib.hid (PA.out.keep b2); have T1 := Lib.hid (TA.out.keep b2); have Q1 := Lib.hid (QA.out.keep b2); clear g0 g1 t0 t1 k0 k1 z0 z1; have g0 := P1.out.cell 0; have g1 := P1.out.cell 1; have t0 := T1.out.cell 0; have t1 := T1.out.cell 1; have k0 := Q1.out.cell 0; have k1 := Q1.out.cell 1; have z0 := Q1.out.frozen 0; have z1 := Q1.out.frozen 1; clear b2)))
            generalize hW1 : wv = WX at *
            clear hW1
            have S0 := Lib.hid (show WX.drew.cell? ⟨w.heap.size, 0, none⟩ = some (.slice A1 N.length c1) ∧ WX.drew.cell? ⟨w.heap.size, 1, none⟩ = some (.slice A2 R.length c2) ∧ WX.drew.cell? ⟨w.heap.size + 1, 0, none⟩ = some (.int .i64 n) ∧ WX.drew.cell? ⟨w.heap.size + 1, 1, none⟩ = some (.int .i64 d) ∧ Below w.heap.size w WX.drew ∧ w.heap.size + 2 < WX.drew.heap.size from ⟨P1.out.cell 0, P1.out.cell 1, T1.out.cell 0, T1.out.cell 1, B1.out.drew, Q1.out.lt⟩)
            have P1d := P1
            have T1d := T1
            have Q1d := Q1
            clear P1 T1 Q1 g0 g1 t0 t1 k0 k1 z0 z1
            have P1 := Lib.hid (show RowAt WX.drew _ _ _ from P1d.out)
            have T1 := Lib.hid (show RowAt WX.drew _ _ _ from T1d.out)
            have Q1 := Lib.hid (show RowAt WX.drew _ _ _ from Q1d.out)
            clear P1d T1d Q1d
            refine wp_region_held_drew (S := fun w' => w'.cell? ⟨w.heap.size, 0, none⟩ = some (.slice A1 N.length c1) ∧ w'.cell? ⟨w.heap.size, 1, none⟩ = some (.slice A2 R.length c2) ∧ w'.cell? ⟨w.heap.size + 1, 0, none⟩ = some (.int .i64 n) ∧ w'.cell? ⟨w.heap.size + 1, 1, none⟩ = some (.int .i64 d) ∧ Below w.heap.size w w' ∧ w.heap.size + 2 < w'.heap.size) (by kernel_rfl) ?_ (fun hH => ?_)
            · exact S0.out
            generalize WX.drew = WD at *
            refine wpAnyH_take (i := 0) (oi := { dst := some 26, op := Go.Op.load 37 (Go.Operand.tmp 3), type := 37, pos := "remap.go:89", after := #[], guard := none }) (v := ?_) rfl ?_ ?_ ?_ ?_ (Or.inl ⟨?_, ?_⟩) hH ?_
            rotate_left
            · kernel_rfl
            · kernel_rfl
            · kernel_rfl
            · exact fun _ _ _ h => h
            · kernel_rfl
            · intro wS hSw
              try dsimp only at hSw
              go_simp
              try with_reducible rfl
            try simp only [Act.put, List.setIfInBounds_toArray, List.set_cons_zero, List.set_cons_succ]
            refine wpAnyH_take (i := 1) (oi := { dst := some 27, op := Go.Op.load 25 (Go.Operand.tmp 2), type := 25, pos := "remap.go:89", after := #[], guard := none }) (v := ?_) rfl ?_ ?_ ?_ ?_ (Or.inl ⟨?_, ?_⟩) hH ?_
            rotate_left
            · kernel_rfl
            · kernel_rfl
            · kernel_rfl
            · exact fun _ _ _ h => h
            · kernel_rfl
            · intro wS hSw
              try dsimp only at hSw
              go_simp
              try with_reducible rfl
            try simp only [Act.put, List.setIfInBounds_toArray, List.set_cons_zero, List.set_cons_succ]
            refine wpAnyH_ready (rs := [2]) (by kernel_rfl) (by simp) ?_
            refine AllReadyH.cons (o := { dst := some 28, op := Go.Op.call { callee := Go.Callee.value (Go.Operand.func 25), args := #[Go.Operand.tmp 27], argTypes := #[25] }, type := 3, pos := "remap.go:89", after := #[{ on := 1, ground := Go.Ground.data }], guard := none }) rfl (fun K hK => ?_) AllReadyH.nil
            · go_simp
              refine (HL.out _ S0.out.2.2.2.2.1).mono ?_
              rintro e2 w2 ⟨rfl, b2⟩
              try go_wp2_with fail
              have S2 := Lib.hid (heldS S0.out b2)
              have P2 := Lib.hid (P1.out.keep b2)
              have T2 := Lib.hid (T1.out.keep b2)
              have Q2 := Lib.hid (Q1.out.keep b2)
              clear b2
              refine hK.out _ _ ?_ (fun hH3 => ?_)
              · exact S2.out
              clear hK K hH
              try simp only [Act.put, List.setIfInBounds_toArray, List.set_cons_zero, List.set_cons_succ]
              refine wpAnyH_ready (rs := [3]) (by kernel_rfl) (by simp) ?_
              refine AllReadyH.cons (o := { dst := some 29, op := Go.Op.call { callee := Go.Callee.value (Go.Operand.func 46), args := #[Go.Operand.tmp 26, Go.Operand.tmp 28], argTypes := #[37, 3] }, type := 64, pos := "remap.go:89", after := #[{ on := 0, ground := Go.Ground.data }, { on := 2, ground := Go.Ground.data }, { on := 2, ground := Go.Ground.chain }], guard := none }) rfl (fun K hK => ?_) AllReadyH.nil
              · go_simp
                refine (HSc.out _).mono ?_
                rintro e3 w3 ⟨rfl, b3⟩
                try go_wp2_with fail
                have S3 := Lib.hid (heldS S2.out b3)
                have P3 := Lib.hid (P2.out.keep b3)
                have T3 := Lib.hid (T2.out.keep b3)
                have Q3 := Lib.hid (Q2.out.keep b3)
                have B3 := Lib.hid S3.out.2.2.2.2.1
                clear b3
                refine hK.out _ _ ?_ (fun hH4 => ?_)
                · exact S3.out
                clear hK K hH3
                try simp only [Act.put, List.setIfInBounds_toArray, List.set_cons_zero, List.set_cons_succ]
                refine wpAnyH_take (i := 4) (oi := { dst := some 25, op := Go.Op.move (Go.Operand.tmp 29), type := 64, pos := "remap.go:89", after := #[{ on := 3, ground := Go.Ground.data }], guard := none }) (v := ?_) rfl ?_ ?_ ?_ ?_ (Or.inl ⟨?_, ?_⟩) hH4 ?_
                rotate_left
                · kernel_rfl
                · kernel_rfl
                · kernel_rfl
                · exact fun _ _ _ h => h
                · kernel_rfl
                · intro wS hSw
                  try dsimp only at hSw
                  go_simp
                  try with_reducible rfl
                try simp only [Act.put, List.setIfInBounds_toArray, List.set_cons_zero, List.set_cons_succ]
                refine wpAnyH_take (i := 5) (oi := { dst := some 30, op := Go.Op.extract (Go.Operand.tmp 25) 0, type := 3, pos := "remap.go:89", after := #[{ on := 4, ground := Go.Ground.data }], guard := none }) (v := ?_) rfl ?_ ?_ ?_ ?_ (Or.inl ⟨?_, ?_⟩) hH4 ?_
                rotate_left
                · kernel_rfl
                · kernel_rfl
                · kernel_rfl
                · exact fun _ _ _ h => h
                · kernel_rfl
                · intro wS hSw
                  try dsimp only at hSw
                  go_simp
                  try with_reducible rfl
                try simp only [Act.put, List.setIfInBounds_toArray, List.set_cons_zero, List.set_cons_succ]
                refine wpAnyH_take (i := 6) (oi := { dst := some 31, op := Go.Op.extract (Go.Operand.tmp 25) 1, type := 28, pos := "remap.go:89", after := #[{ on := 4, ground := Go.Ground.data }, { on := 7, ground := Go.Ground.gcOnly Go.Departure.lateStores }], guard := none }) (v := ?_) rfl ?_ ?_ ?_ ?_ (Or.inl ⟨?_, ?_⟩) hH4 ?_
                rotate_left
                · kernel_rfl
                · kernel_rfl
                · kernel_rfl
                · exact fun _ _ _ h => h
                · kernel_rfl
                · intro wS hSw
                  try dsimp only at hSw
                  go_simp
                  try with_reducible rfl
                try simp only [Act.put, List.setIfInBounds_toArray, List.set_cons_zero, List.set_cons_succ]
                refine wpAnyH_take (i := 7) (oi := { dst := some 7, op := Go.Op.assign (Go.Operand.tmp 30), type := 3, pos := "remap.go:89", after := #[{ on := 5, ground := Go.Ground.data }, { on := 3, ground := Go.Ground.chain }, { on := 0, ground := Go.Ground.phase }, { on := 1, ground := Go.Ground.phase }, { on := 2, ground := Go.Ground.phase }, { on := 3, ground := Go.Ground.phase }, { on := 4, ground := Go.Ground.phase }, { on := 5, ground := Go.Ground.phase }, { on := 6, ground := Go.Ground.textOnly Go.Departure.lateStores }], guard := none }) (v := ?_) rfl ?_ ?_ ?_ ?_ (Or.inl ⟨?_, ?_⟩) hH4 ?_
                rotate_left
                · kernel_rfl
                · kernel_rfl
                · kernel_rfl
                · exact fun _ _ _ h => h
                · kernel_rfl
                · intro wS hSw
                  try dsimp only at hSw
                  go_simp
                  try with_reducible rfl
                try simp only [Act.put, List.setIfInBounds_toArray, List.set_cons_zero, List.set_cons_succ]
                refine wpAnyH_take (i := 8) (oi := { dst := some 8, op := Go.Op.assign (Go.Operand.tmp 31), type := 28, pos := "remap.go:89", after := #[{ on := 6, ground := Go.Ground.data }, { on := 7, ground := Go.Ground.chain }, { on := 0, ground := Go.Ground.phase }, { on := 1, ground := Go.Ground.phase }, { on := 2, ground := Go.Ground.phase }, { on := 3, ground := Go.Ground.phase }, { on := 4, ground := Go.Ground.phase }, { on := 5, ground := Go.Ground.phase }, { on := 6, ground := Go.Ground.phase }, { on := 7, ground := Go.Ground.phase }], guard := none }) (v := ?_) rfl ?_ ?_ ?_ ?_ (Or.inl ⟨?_, ?_⟩) hH4 ?_
                rotate_left
                · kernel_rfl
                · kernel_rfl
                · kernel_rfl
                · exact fun _ _ _ h => h
                · kernel_rfl
                · intro wS hSw
                  try dsimp only at hSw
                  go_simp
                  try with_reducible rfl
                try simp only [Act.put, List.setIfInBounds_toArray, List.set_cons_zero, List.set_cons_succ]
                refine wpAnyH_done (by kernel_rfl) ?_ _
                clear S0 S2 S3
                have g0 := P3.out.cell 0
                have g1 := P3.out.cell 1
                have t0 := T3.out.cell 0
                have t1 := T3.out.cell 1
                have k0 := Q3.out.cell 0
                have k1 := Q3.out.cell 1
                have z0 := Q3.out.frozen 0
                have z1 := Q3.out.frozen 1
                go_wp2
                have e0 := (two_set (v0 := .slice none 0 0) (v1 := .slice none 0 0) k0 k1).1
                have e1 := (two_set (v0 := .slice none 0 0) (v1 := .slice none 0 0) k0 k1).2
                refine bodyPost_ret (v := .tuple #[.agg #[.slice none 0 0, .slice none 0 0], .int .i64 3]) (by simp [results, Try.results21, go_sem, e0, e1]) rfl ⟨_, _, by rw [HE.out], by rw [HN0.out]; exact nm_nil _, by rw [HR0.out]; exact rn_nil _, Below.setCell (Below.setCell B3.out (by show w.heap.size ≤ w.heap.size + 2; omega) _) (by show w.heap.size ≤ w.heap.size + 2; omega) _⟩
          · have he := sx_0 hz hor (by rintro (h | h); exact h2 h; exact h3 h)
            obtain ⟨q1, q2, q3⟩ := sx_good he
            have HN0 := Lib.hid (sxN_0 he)
            have HR0 := Lib.hid (sxR_0 he)
            have HE := Lib.hid he
            have HCln := Lib.hid (fun V U w' (h1 : NmArg w' V N) (h2 : RnArg w' U (scr (fs n d) 0 R)) => clean12_any N (scr (fs n d) 0 R) V U w' h1 hs h2 q1)
            have HSR := Lib.hid (HSR2 hv (by omega) (by omega) (by omega))
            rw [hz] at HK
            rw [hv] at HV
            clear HCp' HSR' HSR2 hck hz hor hSc hrg h2 he q1 q2 q3
            generalize hF : fs n d (lg R) = F at *
            clear hF
            generalize lg R = G at *
            have d3 : decide (1099511627776 < F) = false := decide_eq_false h3
            go_enter Try.func21, Try.ntmps21
            go_wp2_with (first
              | (go_at_call 24; go_must (refine (HK.out _ B0.out).mono ?_; rintro e1 w1 ⟨rfl, b1⟩; have BA := Lib.hid (B0.out.trans (b1.mono B0.out.size)); have PA := Lib.hid (P0.out.keep b1); have TA := Lib.hid (T0.out.keep b1); have QA := Lib.hid (Q0.out.keep b1); clear g0 g1 t0 t1 k0 k1 z0 z1; have g0 := PA.out.cell 0; have g1 := PA.out.cell 1; have t0 := TA.out.cell 0; have t1 := TA.out.cell 1; have k0 := QA.out.cell 0; have k1 := QA.out.cell 1; have z0 := QA.out.frozen 0; have z1 := QA.out.frozen 1; clear b1))
              | (go_at_call 45; go_must (refine (HV.out _).mono ?_; rintro e2 wv ⟨rfl, b2⟩; have B1 := Lib.hid (BA.out.trans (b2.mono BA.out.size)); have P1 := Lib.hid (PA.out.keep b2); have T1 := Lib.hid (TA.out.keep b2); have Q1 := Lib.hid (QA.out.keep b2); clear g0 g1 t0 t1 k0 k1 z0 z1; have g0 := P1.out.cell 0; have g1 := P1.out.cell 1; have t0 := T1.out.cell 0; have t1 := T1.out.cell 1; have k0 := Q1.out.cell 0; have k1 := Q1.out.cell 1; have z0 := Q1.out.frozen 0; have z1 := Q1.out.frozen 1; clear b2)))
            generalize hW1 : wv = WX at *
            clear hW1
            have S0 := Lib.hid (show WX.drew.cell? ⟨w.heap.size, 0, none⟩ = some (.slice A1 N.length c1) ∧ WX.drew.cell? ⟨w.heap.size, 1, none⟩ = some (.slice A2 R.length c2) ∧ WX.drew.cell? ⟨w.heap.size + 1, 0, none⟩ = some (.int .i64 n) ∧ WX.drew.cell? ⟨w.heap.size + 1, 1, none⟩ = some (.int .i64 d) ∧ Below w.heap.size w WX.drew ∧ w.heap.size + 2 < WX.drew.heap.size from ⟨P1.out.cell 0, P1.out.cell 1, T1.out.cell 0, T1.out.cell 1, B1.out.drew, Q1.out.lt⟩)
            have P1d := P1
            have T1d := T1
            have Q1d := Q1
            clear P1 T1 Q1 g0 g1 t0 t1 k0 k1 z0 z1
            have P1 := Lib.hid (show RowAt WX.drew _ _ _ from P1d.out)
            have T1 := Lib.hid (show RowAt WX.drew _ _ _ from T1d.out)
            have Q1 := Lib.hid (show RowAt WX.drew _ _ _ from Q1d.out)
            clear P1d T1d Q1d
            refine wp_region_held_drew (S := fun w' => w'.cell? ⟨w.heap.size, 0, none⟩ = some (.slice A1 N.length c1) ∧ w'.cell? ⟨w.heap.size, 1, none⟩ = some (.slice A2 R.length c2) ∧ w'.cell? ⟨w.heap.size + 1, 0, none⟩ = some (.int .i64 n) ∧ w'.cell? ⟨w.heap.size + 1, 1, none⟩ = some (.int .i64 d) ∧ Below w.heap.size w w' ∧ w.heap.size + 2 < w'.heap.size) (by kernel_rfl) ?_ (fun hH => ?_)
            · exact S0.out
            generalize WX.drew = WD at *
            refine wpAnyH_take (i := 0) (oi := { dst := some 26, op := Go.Op.load 37 (Go.Operand.tmp 3), type := 37, pos := "remap.go:89", after := #[], guard := none }) (v := ?_) rfl ?_ ?_ ?_ ?_ (Or.inl ⟨?_, ?_⟩) hH ?_
            rotate_left
            · kernel_rfl
            · kernel_rfl
            · kernel_rfl
            · exact fun _ _ _ h => h
            · kernel_rfl
            · intro wS hSw
              try dsimp only at hSw
              go_simp
              try with_reducible rfl
            try simp only [Act.put, List.setIfInBounds_toArray, List.set_cons_zero, List.set_cons_succ]
            refine wpAnyH_take (i := 1) (oi := { dst := some 27, op := Go.Op.load 25 (Go.Operand.tmp 2), type := 25, pos := "remap.go:89", after := #[], guard := none }) (v := ?_) rfl ?_ ?_ ?_ ?_ (Or.inl ⟨?_, ?_⟩) hH ?_
            rotate_left
            · kernel_rfl
            · kernel_rfl
            · kernel_rfl
            · exact fun _ _ _ h => h
            · kernel_rfl
            · intro wS hSw
              try dsimp only at hSw
              go_simp
              try with_reducible rfl
            try simp only [Act.put, List.setIfInBounds_toArray, List.set_cons_zero, List.set_cons_succ]
            refine wpAnyH_ready (rs := [2]) (by kernel_rfl) (by simp) ?_
            refine AllReadyH.cons (o := { dst := some 28, op := Go.Op.call { callee := Go.Callee.value (Go.Operand.func 25), args := #[Go.Operand.tmp 27], argTypes := #[25] }, type := 3, pos := "remap.go:89", after := #[{ on := 1, ground := Go.Ground.data }], guard := none }) rfl (fun K hK => ?_) AllReadyH.nil
            · go_simp
              refine (HL.out _ S0.out.2.2.2.2.1).mono ?_
              rintro e2 w2 ⟨rfl, b2⟩
              try go_wp2_with fail
              have S2 := Lib.hid (heldS S0.out b2)
              have P2 := Lib.hid (P1.out.keep b2)
              have T2 := Lib.hid (T1.out.keep b2)
              have Q2 := Lib.hid (Q1.out.keep b2)
              clear b2
              refine hK.out _ _ ?_ (fun hH5 => ?_)
              · exact S2.out
              clear hK K hH
              try simp only [Act.put, List.setIfInBounds_toArray, List.set_cons_zero, List.set_cons_succ]
              refine wpAnyH_ready (rs := [3]) (by kernel_rfl) (by simp) ?_
              refine AllReadyH.cons (o := { dst := some 29, op := Go.Op.call { callee := Go.Callee.value (Go.Operand.func 46), args := #[Go.Operand.tmp 26, Go.Operand.tmp 28], argTypes := #[37, 3] }, type := 64, pos := "remap.go:89", after := #[{ on := 0, ground := Go.Ground.data }, { on := 2, ground := Go.Ground.data }, { on := 2, ground := Go.Ground.chain }], guard := none }) rfl (fun K hK => ?_) AllReadyH.nil
              · go_simp
                refine (HSc.out _).mono ?_
                rintro e3 w3 ⟨rfl, b3⟩
                try go_wp2_with fail
                have S3 := Lib.hid (heldS S2.out b3)
                have P3 := Lib.hid (P2.out.keep b3)
                have T3 := Lib.hid (T2.out.keep b3)
                have Q3 := Lib.hid (Q2.out.keep b3)
                have B3 := Lib.hid S3.out.2.2.2.2.1
                clear b3
                refine hK.out _ _ ?_ (fun hH6 => ?_)
                · exact S3.out
                clear hK K hH5
                try simp only [Act.put, List.setIfInBounds_toArray, List.set_cons_zero, List.set_cons_succ]
                refine wpAnyH_take (i := 4) (oi := { dst := some 25, op := Go.Op.move (Go.Operand.tmp 29), type := 64, pos := "remap.go:89", after := #[{ on := 3, ground := Go.Ground.data }], guard := none }) (v := ?_) rfl ?_ ?_ ?_ ?_ (Or.inl ⟨?_, ?_⟩) hH6 ?_
                rotate_left
                · kernel_rfl
                · kernel_rfl
                · kernel_rfl
                · exact fun _ _ _ h => h
                · kernel_rfl
                · intro wS hSw
                  try dsimp only at hSw
                  go_simp
                  try with_reducible rfl
                try simp only [Act.put, List.setIfInBounds_toArray, List.set_cons_zero, List.set_cons_succ]
                refine wpAnyH_take (i := 5) (oi := { dst := some 30, op := Go.Op.extract (Go.Operand.tmp 25) 0, type := 3, pos := "remap.go:89", after := #[{ on := 4, ground := Go.Ground.data }], guard := none }) (v := ?_) rfl ?_ ?_ ?_ ?_ (Or.inl ⟨?_, ?_⟩) hH6 ?_
                rotate_left
                · kernel_rfl
                · kernel_rfl
                · kernel_rfl
                · exact fun _ _ _ h => h
                · kernel_rfl
                · intro wS hSw
                  try dsimp only at hSw
                  go_simp
                  try with_reducible rfl
                try simp only [Act.put, List.setIfInBounds_toArray, List.set_cons_zero, List.set_cons_succ]
                refine wpAnyH_take (i := 6) (oi := { dst := some 31, op := Go.Op.extract (Go.Operand.tmp 25) 1, type := 28, pos := "remap.go:89", after := #[{ on := 4, ground := Go.Ground.data }, { on := 7, ground := Go.Ground.gcOnly Go.Departure.lateStores }], guard := none }) (v := ?_) rfl ?_ ?_ ?_ ?_ (Or.inl ⟨?_, ?_⟩) hH6 ?_
                rotate_left
                · kernel_rfl
                · kernel_rfl
                · kernel_rfl
                · exact fun _ _ _ h => h
                · kernel_rfl
                · intro wS hSw
                  try dsimp only at hSw
                  go_simp
                  try with_reducible rfl
                try simp only [Act.put, List.setIfInBounds_toArray, List.set_cons_zero, List.set_cons_succ]
                refine wpAnyH_take (i := 7) (oi := { dst := some 7, op := Go.Op.assign (Go.Operand.tmp 30), type := 3, pos := "remap.go:89", after := #[{ on := 5, ground := Go.Ground.data }, { on := 3, ground := Go.Ground.chain }, { on := 0, ground := Go.Ground.phase }, { on := 1, ground := Go.Ground.phase }, { on := 2, ground := Go.Ground.phase }, { on := 3, ground := Go.Ground.phase }, { on := 4, ground := Go.Ground.phase }, { on := 5, ground := Go.Ground.phase }, { on := 6, ground := Go.Ground.textOnly Go.Departure.lateStores }], guard := none }) (v := ?_) rfl ?_ ?_ ?_ ?_ (Or.inl ⟨?_, ?_⟩) hH6 ?_
                rotate_left
                · kernel_rfl
                · kernel_rfl
                · kernel_rfl
                · exact fun _ _ _ h => h
                · kernel_rfl
                · intro wS hSw
                  try dsimp only at hSw
                  go_simp
                  try with_reducible rfl
                try simp only [Act.put, List.setIfInBounds_toArray, List.set_cons_zero, List.set_cons_succ]
                refine wpAnyH_take (i := 8) (oi := { dst := some 8, op := Go.Op.assign (Go.Operand.tmp 31), type := 28, pos := "remap.go:89", after := #[{ on := 6, ground := Go.Ground.data }, { on := 7, ground := Go.Ground.chain }, { on := 0, ground := Go.Ground.phase }, { on := 1, ground := Go.Ground.phase }, { on := 2, ground := Go.Ground.phase }, { on := 3, ground := Go.Ground.phase }, { on := 4, ground := Go.Ground.phase }, { on := 5, ground := Go.Ground.phase }, { on := 6, ground := Go.Ground.phase }, { on := 7, ground := Go.Ground.phase }], guard := none }) (v := ?_) rfl ?_ ?_ ?_ ?_ (Or.inl ⟨?_, ?_⟩) hH6 ?_
                rotate_left
                · kernel_rfl
                · kernel_rfl
                · kernel_rfl
                · exact fun _ _ _ h => h
                · kernel_rfl
                · intro wS hSw
                  try dsimp only at hSw
                  go_simp
                  try with_reducible rfl
                try simp only [Act.put, List.setIfInBounds_toArray, List.set_cons_zero, List.set_cons_succ]
                refine wpAnyH_done (by kernel_rfl) ?_ _
                clear S0 S2 S3
                have g0 := P3.out.cell 0
                have g1 := P3.out.cell 1
                have t0 := T3.out.cell 0
                have t1 := T3.out.cell 1
                have k0 := Q3.out.cell 0
                have k1 := Q3.out.cell 1
                have z0 := Q3.out.frozen 0
                have z1 := Q3.out.frozen 1
                go_wp2_with (first
                  | (go_at_call 35; go_must (refine (HCp.out _ B3.out).mono ?_; rintro e4 w4 ⟨v1, v2, rfl, r1, r2, b4⟩; obtain ⟨UA, UN, UC, rfl, rfl⟩ := KRow.form r1; obtain ⟨VA, VN, VC, rfl, rfl⟩ := KRow.form r2; have B4 := Lib.hid (B3.out.trans (b4.mono B3.out.size)); have Q4 := Lib.hid (Q3.out.keep b4); have P4 := Lib.hid (P3.out.keep b4); have T4 := Lib.hid (T3.out.keep b4); have s3 : w.heap.size + 3 ≤ w3.heap.size := Q3.out.lt; clear g0 g1 t0 t1 k0 k1 z0 z1; have X5 := Lib.hid (RowAt.new w4 25 #[.slice UA N.length UC, .slice VA R.length VC]); have R1 := Lib.hid (KRow.alloc (KRow.mono r1 s3) (.cells #[.slice UA N.length UC, .slice VA R.length VC] 25)); have Q5 := Lib.hid (Q4.out.alloc (.cells #[.slice UA N.length UC, .slice VA R.length VC] 25)); have P5 := Lib.hid (P4.out.alloc (.cells #[.slice UA N.length UC, .slice VA R.length VC] 25)); have T5 := Lib.hid (T4.out.alloc (.cells #[.slice UA N.length UC, .slice VA R.length VC] 25)); have B5 := Lib.hid (B4.out.alloc B4.out.size (.cells #[.slice UA N.length UC, .slice VA R.length VC] 25)); have x0 := X5.out.cell 0; have x1 := X5.out.cell 1; have g0 := P5.out.cell 0; have g1 := P5.out.cell 1; have t0 := T5.out.cell 0; have t1 := T5.out.cell 1; have hs5 := Q5.out.lt; clear r1 r2 b4))
                  | (go_at_call 47; go_must (refine (HSR.out _ B5.out).mono ?_; rintro e6 w6 ⟨v6, rfl, r6, b6⟩; obtain ⟨SA, SN, SC, rfl, rfl⟩ := KRow.form r6; have B6 := Lib.hid (B5.out.trans (b6.mono B5.out.size)); have X6 := Lib.hid (X5.out.keep b6); have Q6 := Lib.hid (Q5.out.keep b6); have R16 := Lib.hid (KRow.keep R1.out b6); have R26 := Lib.hid (KRow.mono r6 hs5); have q1 : w6.cell? ⟨w4.heap.size, 1, none⟩ = some (.slice VA R.length VC) := X6.out.cell 1; have q2 := X6.out.frozen 1; clear x0 x1 g0 g1 t0 t1; have hx4 : w.heap.size + 3 ≤ w4.heap.size := Q4.out.lt; have X7 := Lib.hid (X6.out.set 1 (.slice SA (scr (fs n d) 0 R).length SC)); have Q7 := Lib.hid (Q6.out.other ⟨w4.heap.size, 1, none⟩ (.slice SA (scr (fs n d) 0 R).length SC) (by show w4.heap.size ≠ w.heap.size + 2; omega)); have R17 := Lib.hid (KRow.apart (b := w4.heap.size) R16.out (fun q hq => heap_setCell_other w6 ⟨w4.heap.size, 1, none⟩ (.slice SA (scr (fs n d) 0 R).length SC) q hq) (KRow.off R16.out X6.out (by decide))); have R27 := Lib.hid (KRow.apart (b := w4.heap.size) R26.out (fun q hq => heap_setCell_other w6 ⟨w4.heap.size, 1, none⟩ (.slice SA (scr (fs n d) 0 R).length SC) q hq) (KRow.off R26.out X6.out (by decide))); have B7 := Lib.hid (Below.setCell B6.out (show w.heap.size ≤ (⟨w4.heap.size, 1, none⟩ : Addr).block by show w.heap.size ≤ w4.heap.size; omega) (.slice SA (scr (fs n d) 0 R).length SC)); have y0 : (w6.setCell ⟨w4.heap.size, 1, none⟩ (.slice SA (scr (fs n d) 0 R).length SC)).cell? ⟨w4.heap.size, 0, none⟩ = some (.slice UA N.length UC) := X7.out.cell 0; have y1 : (w6.setCell ⟨w4.heap.size, 1, none⟩ (.slice SA (scr (fs n d) 0 R).length SC)).cell? ⟨w4.heap.size, 1, none⟩ = some (.slice SA (scr (fs n d) 0 R).length SC) := X7.out.cell 1; clear r6 b6))
                  | (go_at_call 44; go_must (refine (HCln.out _ _ _ (KRow.name R17.out) (KRow.arg rnC_size R27.out)).mono ?_; rintro e8 w8 ⟨v1, v2, rfl, hr, _, _, b8⟩; have hB7 := B7.out.size; obtain ⟨r1, r2⟩ := hr (w.heap.size + 3) Q7.out.lt R17.out R27.out; obtain ⟨EA, EN, EC, rfl, rfl⟩ := KRow.form r1; obtain ⟨FA, FN, FC, rfl, hFN⟩ := KRow.form r2; clear hFN hr; have B8 := Lib.hid (B7.out.trans (b8.mono hB7)); have R5 := Lib.hid r1; have R6 := Lib.hid r2; have Q8 := Lib.hid (Q7.out.keep b8); have k0 := Q8.out.cell 0; have k1 := Q8.out.cell 1; have z0 := Q8.out.frozen 0; have z1 := Q8.out.frozen 1; clear r1 r2 b8)))
                have e0 := (two_set (v0 := .slice EA N.length EC) (v1 := .slice FA FN FC) k0 k1).1
                have e1 := (two_set (v0 := .slice EA N.length EC) (v1 := .slice FA FN FC) k0 k1).2
                refine bodyPost_ret (v := .tuple #[.agg #[.slice EA N.length EC, .slice FA FN FC], .int .i64 0]) (by simp [results, Try.results21, go_sem, e0, e1]) rfl ⟨_, _, by rw [HE.out], by rw [HN0.out]; exact KRow.name (KRow.set2 R5.out (Nat.lt_succ_self _) _ _), by rw [HR0.out]; exact KRow.arg rnC_size (KRow.set2 R6.out (Nat.lt_succ_self _) _ _), Below.setCell (Below.setCell B8.out (by show w.heap.size ≤ w.heap.size + 2; omega) _) (by show w.heap.size ≤ w.heap.size + 2; omega) _⟩
  · have he := sx_c (n := n) (d := d) hz
    have hne : ¬ sxE N R n d = 0 := by rw [he]; exact hz
    have HN0 := Lib.hid (sxN_no hne)
    have HR0 := Lib.hid (sxR_no hne)
    have HE := Lib.hid he
    clear hne he
    have hyz : (ckC N R == 0) = false := by simpa using hz
    clear HCp' HL HSR'
    generalize ckC N R = r at *
    clear hz
    go_enter Try.func21, Try.ntmps21
    go_wp2_with (first
      | (go_at_call 24; go_must (refine (HK.out _ B0.out).mono ?_; rintro e1 w1 ⟨rfl, b1⟩; have BA := Lib.hid (B0.out.trans (b1.mono B0.out.size)); have PA := Lib.hid (P0.out.keep b1); have TA := Lib.hid (T0.out.keep b1); have QA := Lib.hid (Q0.out.keep b1); clear g0 g1 t0 t1 k0 k1 z0 z1; have g0 := PA.out.cell 0; have g1 := PA.out.cell 1; have t0 := TA.out.cell 0; have t1 := TA.out.cell 1; have k0 := QA.out.cell 0; have k1 := QA.out.cell 1; have z0 := QA.out.frozen 0; have z1 := QA.out.frozen 1; clear b1)))
    have e0 := (two_set (v0 := .slice none 0 0) (v1 := .slice none 0 0) k0 k1).1
    have e1 := (two_set (v0 := .slice none 0 0) (v1 := .slice none 0 0) k0 k1).2
    refine bodyPost_ret (v := .tuple #[.agg #[.slice none 0 0, .slice none 0 0], .int .i64 r]) (by simp [results, Try.results21, go_sem, e0, e1]) rfl ⟨_, _, by rw [HE.out], by rw [HN0.out]; exact nm_nil _, by rw [HR0.out]; exact rn_nil _, Below.setCell (Below.setCell BA.out (by show w.heap.size ≤ w.heap.size + 2; omega) _) (by show w.heap.size ≤ w.heap.size + 2; omega) _⟩
end Go.Proofs.Ytbahijhhcibfaaa
