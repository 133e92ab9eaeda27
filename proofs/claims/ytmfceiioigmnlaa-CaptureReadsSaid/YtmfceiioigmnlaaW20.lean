/-
  Slice (both).
-/
import Derived.Test.YtmfceiioigmnlaaW9
import Derived.Test.YtmfceiioigmnlaaW17
import Derived.Deep.RegionHeld3
namespace Go.Proofs.Ytmfceiioigmnlaa
open Go Go.RowKit Go.Joins
set_option linter.unusedVariables false
set_option linter.unusedSimpArgs false

def slE (N : List ByteArray) (R : List Rn) (f t : Int) : Int := if ckC N R ≠ 0 then ckC N R else if f < 0 ∨ t ≤ f ∨ lg R < t then 2 else 0
theorem slE_n {N : List ByteArray} {R : List Rn} {f t : Int} (h : ¬ ckC N R = 0) : slE N R f t = ckC N R := by unfold slE; rw [if_pos h]
theorem slE_2 {N : List ByteArray} {R : List Rn} {f t : Int} (h : ckC N R = 0) (h1 : f < 0 ∨ t ≤ f ∨ lg R < t) : slE N R f t = 2 := by unfold slE; rw [if_neg (fun x => x h), if_pos h1]
theorem slE_0 {N : List ByteArray} {R : List Rn} {f t : Int} (h : ckC N R = 0) (h1 : ¬ (f < 0 ∨ t ≤ f ∨ lg R < t)) : slE N R f t = 0 := by unfold slE; rw [if_neg (fun x => x h), if_neg h1]
def slN (N : List ByteArray) (R : List Rn) (f t : Int) : List ByteArray := if slE N R f t = 0 then N else []
def slR (N : List ByteArray) (R : List Rn) (f t : Int) : List Rn := if slE N R f t = 0 then prt R f t else []
theorem slN_0 {N : List ByteArray} {R : List Rn} {f t : Int} (h : slE N R f t = 0) : slN N R f t = N ∧ slR N R f t = prt R f t := by unfold slN slR; rw [if_pos h, if_pos h]; exact ⟨rfl, rfl⟩
theorem slN_n {N : List ByteArray} {R : List Rn} {f t : Int} (h : ¬ slE N R f t = 0) : slN N R f t = [] ∧ slR N R f t = [] := by unfold slN slR; rw [if_neg h, if_neg h]; exact ⟨rfl, rfl⟩

/-- Two cells of an old block, behind calls and a store into the next one. -/
theorem heldP {w W W' : World} {b : Nat} {x0 x1 : Value} (h : W.cell? ⟨b, 0, none⟩ = some x0 ∧ W.cell? ⟨b, 1, none⟩ = some x1 ∧ Below w.heap.size w W ∧ b < W.heap.size) (hb : Below W.heap.size W W') : W'.cell? ⟨b, 0, none⟩ = some x0 ∧ W'.cell? ⟨b, 1, none⟩ = some x1 ∧ Below w.heap.size w W' ∧ b < W'.heap.size := held2 h hb
theorem heldPS {w W : World} {b : Nat} {x0 x1 : Value} (h : W.cell? ⟨b, 0, none⟩ = some x0 ∧ W.cell? ⟨b, 1, none⟩ = some x1 ∧ Below w.heap.size w W ∧ b < W.heap.size) (hw : w.heap.size ≤ b + 1) (u v : Value) :
    ((W.setCell ⟨b + 1, 0, none⟩ u).setCell ⟨b + 1, 1, none⟩ v).cell? ⟨b, 0, none⟩ = some x0 ∧ ((W.setCell ⟨b + 1, 0, none⟩ u).setCell ⟨b + 1, 1, none⟩ v).cell? ⟨b, 1, none⟩ = some x1 ∧ Below w.heap.size w ((W.setCell ⟨b + 1, 0, none⟩ u).setCell ⟨b + 1, 1, none⟩ v) ∧ b < ((W.setCell ⟨b + 1, 0, none⟩ u).setCell ⟨b + 1, 1, none⟩ v).heap.size := by
  obtain ⟨h0, h1, h2, h3⟩ := h
  have e : ∀ (X : World) (i j : Nat) (y : Value), (X.setCell ⟨b + 1, i, none⟩ y).cell? ⟨b, j, none⟩ = X.cell? ⟨b, j, none⟩ := fun X i j y => World.cell?_setCell_other _ _ _ _ (fun e => by have := congrArg Addr.block e; simp only at this; omega)
  refine ⟨by rw [e, e]; exact h0, by rw [e, e]; exact h1, Below.setCell (Below.setCell h2 hw _) hw _, by rw [World.size_setCell, World.size_setCell]; exact h3⟩

theorem step_store_at2 {P : Program} {ops : Array Oper} {o : Oper} {a : Act} {w : World} {K : Act → World → Prop} {Q : Exit → Act → World → Prop} {E : Prop} {b : Nat} {T : TypeId} {old : Array Value} (h : RowAt w b T old)
    (cells : Array Value) (x y : Operand) (ty : TypeId) (hgd : o.guard = none) (ho : o.op = .store ty x y) (hx : a.eval x = .pointer (some ⟨b, 0, none⟩)) (hy : a.eval y = .agg cells)
    (hi : (P.info? ty).map (·.size) = some cells.size) (hold : old.size = cells.size) (h1 : cells.toList.all (·.oneCell') = true)
    (hk : ∀ w', RowAt w' b T cells → Below b w w' → (∀ k, k ≠ b → w'.heap[k]? = w.heap[k]?) → K (a.put o.dst undef) w') : if Region.wanted o (yielded ops a.tmps) = true then Oper.wp P o a w K Q else E := by
  have hw : Region.wanted o (yielded ops a.tmps) = true := by simp [Region.wanted, hgd]
  rw [if_pos hw]
  exact wp_store_row ty x y ho b cells hx hy T old h hi hold (by simpa using h1) (hk _ (setRow_heap w b old cells T (0, 0) h) (below_setRow (Below.refl _ _) (Nat.le_refl _) cells) (fun k hk => setRow_other w b cells k hk))
theorem heldQ {w W W' : World} {b : Nat} {x0 x1 : Value} (h : W.cell? ⟨b, 0, none⟩ = some x0 ∧ W.cell? ⟨b, 1, none⟩ = some x1 ∧ Below w.heap.size w W ∧ b < W.heap.size) (hk : ∀ k, k ≠ b + 1 → W'.heap[k]? = W.heap[k]?) (hb : Below (b + 1) W W') (hw : w.heap.size ≤ b + 1 := by omega) :
    W'.cell? ⟨b, 0, none⟩ = some x0 ∧ W'.cell? ⟨b, 1, none⟩ = some x1 ∧ Below w.heap.size w W' ∧ b < W'.heap.size := by
  obtain ⟨h0, h1, h2, h3⟩ := h
  have := hb.size
  exact ⟨(World.cell?_of_block (hk b (by omega))).trans h0, (World.cell?_of_block (hk b (by omega))).trans h1, h2.trans (hb.mono hw), by omega⟩

set_option maxRecDepth 20000 in
set_option maxHeartbeats 8000000 in
theorem slice_any (N : List ByteArray) (R : List Rn) (vN vR : Value) (F T : Int) (w : World) (hN : NmArg w vN N) (hs : szs N) (hR : RnArg w vR R) (hn : R.length ≤ 1099511627776) :
    Calls Try.prog 20 #[.agg #[vN, vR], .int .i64 F, .int .i64 T] w fun e w' => ∃ v1 v2 : Value, e = .returned (.tuple #[.agg #[v1, v2], .int .i64 (slE N R F T)]) ∧ NmRow w' w.heap.size v1 (slN N R F T) ∧ RnRow w' w.heap.size v2 (slR N R F T) ∧ Below w.heap.size w w' := by
  have HK := Lib.hid (fun w' (hb : Below w.heap.size w w') => check_any N R vN vR w' (hN.keep hb) hs (hR.keep hb) hn)
  have HL := Lib.hid (fun h w' (hb : Below w.heap.size w w') => long_any (mk N.length) R vR w' (hR.keep hb) hn (ckC_ok h).2.2.2.2.2)
  have HP := Lib.hid (fun h w' (hb : Below w.heap.size w w') h1 h2 h3 h4 => part_any (mk N.length) R vR F T w' (hR.keep hb) (ckC_ok h).1 (ckC_ok h).2.2.2.2.2 h1 h2 h3 h4)
  have HCp := Lib.hid (fun w' (hb : Below w.heap.size w w') h1 h2 => copied_any N vN w' (hN.keep hb) h1 h2)
  obtain ⟨A1, c1, rfl, hA1, hA1'⟩ := hN.form
  obtain ⟨A2, c2, rfl⟩ := hR.form
  clear hA1' hN hR hA1 hs
  have B0 := Lib.hid ((ba w (.cells #[.slice A1 N.length c1, .slice A2 R.length c2] 25)).alloc (ba w _).size (.cells #[.slice none 0 0, .slice none 0 0] 25))
  have P0 := Lib.hid ((RowAt.new w 25 #[.slice A1 N.length c1, .slice A2 R.length c2]).alloc (.cells #[.slice none 0 0, .slice none 0 0] 25))
  have Q0' := RowAt.new (w.alloc (.cells #[.slice A1 N.length c1, .slice A2 R.length c2] 25)) 25 #[.slice none 0 0, .slice none 0 0]
  rw [World.size_alloc] at Q0'
  have Q0 := Lib.hid Q0'
  clear Q0'
  by_cases hz : ckC N R = 0
  · have hck := ckC_ok hz
    have HL2 := Lib.hid (HL.out hz)
    have HP2 := Lib.hid (HP.out hz)
    have HCp2 := Lib.hid (fun w' hb => HCp.out w' hb (by omega) (fun j h => nm_small hck.2.2.2.2.1 j h))
    have hrg := vr_range hck.2.2.2.2.2
    have E2 := Lib.hid (fun h => slE_2 (f := F) (t := T) hz h); have E0 := Lib.hid (fun h => slE_0 (f := F) (t := T) hz h)
    rw [hz] at HK
    clear hz HL HP HCp hck
    by_cases hbad : F < 0 ∨ T ≤ F ∨ lg R < T
    · have he := E2.out hbad
      have hs := slN_n (N := N) (R := R) (f := F) (t := T) (by rw [he]; decide)
      have HE := Lib.hid he; have HS1 := Lib.hid hs.1; have HS2 := Lib.hid hs.2
      clear he hs E0 E2 HP2 HCp2
      generalize lg R = S at *
      by_cases d1 : F < 0
      · clear hbad
        go_enter Try.func20, Try.ntmps20
        go_wp2_with (first
          | (go_at_call 14; go_must (refine (HK.out _ B0.out).mono ?_; rintro e1 w1 ⟨rfl, b1⟩; have B1 := Lib.hid (B0.out.trans (b1.mono B0.out.size)); have P1 := Lib.hid (P0.out.keep b1); have Q1 := Lib.hid (Q0.out.keep b1); have g0 := P1.out.cell 0; have g1 := P1.out.cell 1; have k0 := Q1.out.cell 0; have k1 := Q1.out.cell 1; have z0 := Q1.out.frozen 0; have z1 := Q1.out.frozen 1; clear b1)))
        have e0 : ((w1.setCell ⟨w.heap.size + 1, 0, none⟩ (.slice none 0 0)).setCell ⟨w.heap.size + 1, 1, none⟩ (.slice none 0 0)).cell? ⟨w.heap.size + 1, 0, none⟩ = some (.slice none 0 0) := (two_set k0 k1).1
        have e1 : ((w1.setCell ⟨w.heap.size + 1, 0, none⟩ (.slice none 0 0)).setCell ⟨w.heap.size + 1, 1, none⟩ (.slice none 0 0)).cell? ⟨w.heap.size + 1, 1, none⟩ = some (.slice none 0 0) := (two_set k0 k1).2
        refine bodyPost_ret (v := .tuple #[.agg #[.slice none 0 0, .slice none 0 0], .int .i64 2]) (by simp [results, Try.results20, go_sem, e0, e1]) rfl ⟨_, _, by rw [HE.out], by rw [HS1.out]; exact KRow.nil _ _, by rw [HS2.out]; exact KRow.nil _ _, Below.setCell (Below.setCell B1.out (Nat.le_succ _) _) (Nat.le_succ _) _⟩
      by_cases d2 : T ≤ F
      · have d1' : decide (T ≤ F) = true := decide_eq_true d2
        clear hbad
        go_enter Try.func20, Try.ntmps20
        go_wp2_with (first
          | (go_at_call 14; go_must (refine (HK.out _ B0.out).mono ?_; rintro e1 w1 ⟨rfl, b1⟩; have B1 := Lib.hid (B0.out.trans (b1.mono B0.out.size)); have P1 := Lib.hid (P0.out.keep b1); have Q1 := Lib.hid (Q0.out.keep b1); have g0 := P1.out.cell 0; have g1 := P1.out.cell 1; have k0 := Q1.out.cell 0; have k1 := Q1.out.cell 1; have z0 := Q1.out.frozen 0; have z1 := Q1.out.frozen 1; clear b1)))
        have e0 : ((w1.setCell ⟨w.heap.size + 1, 0, none⟩ (.slice none 0 0)).setCell ⟨w.heap.size + 1, 1, none⟩ (.slice none 0 0)).cell? ⟨w.heap.size + 1, 0, none⟩ = some (.slice none 0 0) := (two_set k0 k1).1
        have e1 : ((w1.setCell ⟨w.heap.size + 1, 0, none⟩ (.slice none 0 0)).setCell ⟨w.heap.size + 1, 1, none⟩ (.slice none 0 0)).cell? ⟨w.heap.size + 1, 1, none⟩ = some (.slice none 0 0) := (two_set k0 k1).2
        refine bodyPost_ret (v := .tuple #[.agg #[.slice none 0 0, .slice none 0 0], .int .i64 2]) (by simp [results, Try.results20, go_sem, e0, e1]) rfl ⟨_, _, by rw [HE.out], by rw [HS1.out]; exact KRow.nil _ _, by rw [HS2.out]; exact KRow.nil _ _, Below.setCell (Below.setCell B1.out (Nat.le_succ _) _) (Nat.le_succ _) _⟩
      · have d1' : decide (T ≤ F) = false := decide_eq_false d2
        have d3 : S < T := by omega
        clear hbad
        go_enter Try.func20, Try.ntmps20
        go_wp2_with (first
          | (go_at_call 14; go_must (refine (HK.out _ B0.out).mono ?_; rintro e1 w1 ⟨rfl, b1⟩; have B1 := Lib.hid (B0.out.trans (b1.mono B0.out.size)); have P1 := Lib.hid (P0.out.keep b1); have Q1 := Lib.hid (Q0.out.keep b1); have g0 := P1.out.cell 0; have g1 := P1.out.cell 1; clear b1))
          | (go_at_call 36; go_must (refine (HL2.out _ B1.out).mono ?_; rintro e2 w2 ⟨rfl, b2⟩; have B2 := Lib.hid (B1.out.trans (b2.mono B1.out.size)); have Q2 := Lib.hid (Q1.out.keep b2); have k0 := Q2.out.cell 0; have k1 := Q2.out.cell 1; have z0 := Q2.out.frozen 0; have z1 := Q2.out.frozen 1; clear b2)))
        have e0 : ((w2.setCell ⟨w.heap.size + 1, 0, none⟩ (.slice none 0 0)).setCell ⟨w.heap.size + 1, 1, none⟩ (.slice none 0 0)).cell? ⟨w.heap.size + 1, 0, none⟩ = some (.slice none 0 0) := (two_set k0 k1).1
        have e1 : ((w2.setCell ⟨w.heap.size + 1, 0, none⟩ (.slice none 0 0)).setCell ⟨w.heap.size + 1, 1, none⟩ (.slice none 0 0)).cell? ⟨w.heap.size + 1, 1, none⟩ = some (.slice none 0 0) := (two_set k0 k1).2
        refine bodyPost_ret (v := .tuple #[.agg #[.slice none 0 0, .slice none 0 0], .int .i64 2]) (by simp [results, Try.results20, go_sem, e0, e1]) rfl ⟨_, _, by rw [HE.out], by rw [HS1.out]; exact KRow.nil _ _, by rw [HS2.out]; exact KRow.nil _ _, Below.setCell (Below.setCell B2.out (Nat.le_succ _) _) (Nat.le_succ _) _⟩
    · have he := E0.out hbad
      have hs := slN_0 (N := N) (R := R) (f := F) (t := T) he
      have HE := Lib.hid he; have HS1 := Lib.hid hs.1; have HS2 := Lib.hid hs.2
      have HP3 := Lib.hid (fun w' hb => HP2.out w' hb (by omega) (by omega) (by omega) (by omega))
      clear he hs E0 E2 HP2
      generalize lg R = S at *
      have d0 : ¬ F < 0 := by omega
      have d1 : decide (T ≤ F) = false := decide_eq_false (by omega)
      have d3 : ¬ S < T := by omega
      clear hbad
      go_enter Try.func20, Try.ntmps20
      go_wp2_with (first
        | (go_at_call 14; go_must (refine (HK.out _ B0.out).mono ?_; rintro e1 w1 ⟨rfl, b1⟩; have B1 := Lib.hid (B0.out.trans (b1.mono B0.out.size)); have P1 := Lib.hid (P0.out.keep b1); have Q1 := Lib.hid (Q0.out.keep b1); have g0 := P1.out.cell 0; have g1 := P1.out.cell 1; clear b1))
        | (go_at_call 36; go_must (refine (HL2.out _ B1.out).mono ?_; rintro e2 w2 ⟨rfl, b2⟩; have B2 := Lib.hid (B1.out.trans (b2.mono B1.out.size)); have P2 := Lib.hid (P1.out.keep b2); have Q2 := Lib.hid (Q1.out.keep b2); clear b2 g0 g1)))
      have S0 := Lib.hid (show w2.drew.cell? ⟨w.heap.size, 0, none⟩ = some (.slice A1 N.length c1) ∧ w2.drew.cell? ⟨w.heap.size, 1, none⟩ = some (.slice A2 R.length c2) ∧ Below w.heap.size w w2.drew ∧ w.heap.size < w2.drew.heap.size from ⟨P2.out.cell 0, P2.out.cell 1, B2.out.drew, P2.out.lt⟩)
      have q2 := Lib.hid (show RowAt w2.drew (w.heap.size + 1) 25 #[.slice none 0 0, .slice none 0 0] from Q2.out)
      have s2 := Lib.hid (show w.heap.size + 2 ≤ w2.drew.heap.size from Q2.out.lt)
      have HCX := Lib.hid (fun w' (h : w'.cell? ⟨w.heap.size, 0, none⟩ = some (.slice A1 N.length c1) ∧ w'.cell? ⟨w.heap.size, 1, none⟩ = some (.slice A2 R.length c2) ∧ Below w.heap.size w w' ∧ w.heap.size < w'.heap.size) => HCp2.out w' h.2.2.1)
      have HPX := Lib.hid (fun w' (h : w'.cell? ⟨w.heap.size, 0, none⟩ = some (.slice A1 N.length c1) ∧ w'.cell? ⟨w.heap.size, 1, none⟩ = some (.slice A2 R.length c2) ∧ Below w.heap.size w w' ∧ w.heap.size < w'.heap.size) => HP3.out w' h.2.2.1)
      refine wp_region_held_drew (S := fun w' => w'.cell? ⟨w.heap.size, 0, none⟩ = some (.slice A1 N.length c1) ∧ w'.cell? ⟨w.heap.size, 1, none⟩ = some (.slice A2 R.length c2) ∧ Below w.heap.size w w' ∧ w.heap.size < w'.heap.size) (by kernel_rfl) ?_ (fun hH => ?_)
      · exact S0.out
      refine wpAnyH_take (i := 0) (oi := { dst := some 30, op := Go.Op.fieldAddr 25 (Go.Operand.tmp 3) 0, type := 0, pos := "capture.go:108", after := #[], guard := none }) (v := ?_) rfl ?_ ?_ ?_ ?_ (Or.inl ⟨?_, ?_⟩) hH ?_
      rotate_left
      · kernel_rfl
      · kernel_rfl
      · kernel_rfl
      · exact fun _ _ _ h => h
      · kernel_rfl
      · intro wS hSw
        try dsimp only at hSw
        go_simp
        try with_reducible rfl
      try simp only [Act.put, List.setIfInBounds_toArray, List.set_cons_zero, List.set_cons_succ]
      refine wpAnyH_take (i := 1) (oi := { dst := some 31, op := Go.Op.load 22 (Go.Operand.tmp 30), type := 22, pos := "capture.go:108", after := #[{ on := 0, ground := Go.Ground.data }], guard := none }) (v := ?_) rfl ?_ ?_ ?_ ?_ (Or.inl ⟨?_, ?_⟩) hH ?_
      rotate_left
      · kernel_rfl
      · kernel_rfl
      · kernel_rfl
      · exact fun _ _ _ h => h
      · kernel_rfl
      · intro wS hSw
        try dsimp only at hSw
        go_simp
        try with_reducible rfl
      try simp only [Act.put, List.setIfInBounds_toArray, List.set_cons_zero, List.set_cons_succ]
      refine wpAnyH_take (i := 3) (oi := { dst := some 33, op := Go.Op.fieldAddr 25 (Go.Operand.tmp 3) 1, type := 0, pos := "capture.go:108", after := #[], guard := none }) (v := ?_) rfl ?_ ?_ ?_ ?_ (Or.inl ⟨?_, ?_⟩) hH ?_
      rotate_left
      · kernel_rfl
      · kernel_rfl
      · kernel_rfl
      · exact fun _ _ _ h => h
      · kernel_rfl
      · intro wS hSw
        try dsimp only at hSw
        go_simp
        try with_reducible rfl
      try simp only [Act.put, List.setIfInBounds_toArray, List.set_cons_zero, List.set_cons_succ]
      refine wpAnyH_take (i := 4) (oi := { dst := some 34, op := Go.Op.load 23 (Go.Operand.tmp 33), type := 23, pos := "capture.go:108", after := #[{ on := 3, ground := Go.Ground.data }], guard := none }) (v := ?_) rfl ?_ ?_ ?_ ?_ (Or.inl ⟨?_, ?_⟩) hH ?_
      rotate_left
      · kernel_rfl
      · kernel_rfl
      · kernel_rfl
      · exact fun _ _ _ h => h
      · kernel_rfl
      · intro wS hSw
        try dsimp only at hSw
        go_simp
        try with_reducible rfl
      try simp only [Act.put, List.setIfInBounds_toArray, List.set_cons_zero, List.set_cons_succ]
      refine wpAnyH_take (i := 5) (oi := { dst := some 35, op := Go.Op.move (Go.Operand.tmp 1), type := 3, pos := "capture.go:108", after := #[], guard := none }) (v := ?_) rfl ?_ ?_ ?_ ?_ (Or.inl ⟨?_, ?_⟩) hH ?_
      rotate_left
      · kernel_rfl
      · kernel_rfl
      · kernel_rfl
      · exact fun _ _ _ h => h
      · kernel_rfl
      · intro wS hSw
        try dsimp only at hSw
        go_simp
        try with_reducible rfl
      try simp only [Act.put, List.setIfInBounds_toArray, List.set_cons_zero, List.set_cons_succ]
      refine wpAnyH_take (i := 6) (oi := { dst := some 36, op := Go.Op.move (Go.Operand.tmp 2), type := 3, pos := "capture.go:108", after := #[], guard := none }) (v := ?_) rfl ?_ ?_ ?_ ?_ (Or.inl ⟨?_, ?_⟩) hH ?_
      rotate_left
      · kernel_rfl
      · kernel_rfl
      · kernel_rfl
      · exact fun _ _ _ h => h
      · kernel_rfl
      · intro wS hSw
        try dsimp only at hSw
        go_simp
        try with_reducible rfl
      try simp only [Act.put, List.setIfInBounds_toArray, List.set_cons_zero, List.set_cons_succ]
      refine wpAnyH_ready (rs := [2]) (by kernel_rfl) (by simp) ?_
      refine AllReadyH.cons (o := { dst := some 32, op := Go.Op.call { callee := Go.Callee.value (Go.Operand.func 42), args := #[Go.Operand.tmp 31], argTypes := #[22] }, type := 22, pos := "capture.go:108", after := #[{ on := 1, ground := Go.Ground.data }], guard := none }) rfl (fun K hK => ?_) AllReadyH.nil
      go_simp
      refine (HCX.out _ S0.out).mono ?_
      rintro e5 w5 ⟨v5, rfl, r5, b5⟩
      obtain ⟨NA, NN, NC, rfl, rfl⟩ := KRow.form r5
      try go_wp2_with fail
      have h5 := Lib.hid (heldP S0.out b5)
      have q5 := Lib.hid (q2.out.keep b5)
      have R5 := Lib.hid (KRow.mono r5 s2.out)
      have s5 := Lib.hid (Nat.le_trans s2.out b5.size)
      refine hK.out _ _ ?_ (fun hH1 => ?_)
      · exact h5.out
      clear hK K hH r5 b5
      try simp only [Act.put, List.setIfInBounds_toArray, List.set_cons_zero, List.set_cons_succ]
      refine wpAnyH_ready (rs := [7]) (by kernel_rfl) (by simp) ?_
      refine AllReadyH.cons (o := { dst := some 37, op := Go.Op.call { callee := Go.Callee.value (Go.Operand.func 43), args := #[Go.Operand.tmp 34, Go.Operand.tmp 35, Go.Operand.tmp 36], argTypes := #[23, 3, 3] }, type := 23, pos := "capture.go:108", after := #[{ on := 4, ground := Go.Ground.data }, { on := 5, ground := Go.Ground.data }, { on := 6, ground := Go.Ground.data }, { on := 2, ground := Go.Ground.chain }], guard := none }) rfl (fun K hK => ?_) AllReadyH.nil
      go_simp
      refine (HPX.out _ h5.out).mono ?_
      rintro e6 w6 ⟨v6, rfl, r6, b6⟩
      obtain ⟨RA, RN, RC, rfl, rfl⟩ := KRow.form r6
      try go_wp2_with fail
      have h6 := Lib.hid (heldP h5.out b6)
      have q6 := Lib.hid (q5.out.keep b6)
      have R5' := Lib.hid (KRow.keep R5.out b6)
      have R6 := Lib.hid (KRow.mono r6 s5.out)
      refine hK.out _ _ ?_ (fun hH2 => ?_)
      · exact h6.out
      clear hK K hH1 r6 b6
      try simp only [Act.put, List.setIfInBounds_toArray, List.set_cons_zero, List.set_cons_succ]
      refine wpAnyH_take (i := 8) (oi := { dst := some 38, op := Go.Op.build 25 #[(0, Go.Operand.tmp 32), (1, Go.Operand.tmp 37)], type := 25, pos := "capture.go:108", after := #[{ on := 2, ground := Go.Ground.data }, { on := 7, ground := Go.Ground.data }], guard := none }) (v := ?_) rfl ?_ ?_ ?_ ?_ (Or.inl ⟨?_, ?_⟩) hH2 ?_
      rotate_left
      · kernel_rfl
      · kernel_rfl
      · kernel_rfl
      · exact fun _ _ _ h => h
      · kernel_rfl
      · intro wS hSw
        try dsimp only at hSw
        go_simp
        try with_reducible rfl
      try simp only [Act.put, List.setIfInBounds_toArray, List.set_cons_zero, List.set_cons_succ]
      refine wpAnyH_ready (rs := [9]) (by kernel_rfl) (by simp) ?_
      refine AllReadyH.cons (o := { dst := none, op := Go.Op.store 25 (Go.Operand.tmp 6) (Go.Operand.tmp 38), type := 0, pos := "capture.go:108", after := #[{ on := 8, ground := Go.Ground.data }, { on := 7, ground := Go.Ground.chain }, { on := 0, ground := Go.Ground.phase }, { on := 1, ground := Go.Ground.phase }, { on := 2, ground := Go.Ground.phase }, { on := 3, ground := Go.Ground.phase }, { on := 4, ground := Go.Ground.phase }, { on := 5, ground := Go.Ground.phase }, { on := 6, ground := Go.Ground.phase }, { on := 7, ground := Go.Ground.phase }, { on := 8, ground := Go.Ground.phase }], guard := none }) rfl (fun K hK => ?_) AllReadyH.nil
      refine step_store_at2 q6.out #[.slice NA N.length NC, .slice RA (prt R F T).length RC] (.tmp 6) (.tmp 38) 25 rfl rfl rfl rfl (by kernel_rfl) rfl rfl ?_
      intro w8 r8 b8 k8
      have h8 := Lib.hid (heldQ h6.out k8 b8)
      refine hK.out _ _ ?_ (fun hH3 => ?_)
      · exact h8.out
      have X8 := Lib.hid r8
      have N8 := Lib.hid (KRow.others R5'.out k8 (Nat.lt_succ_self _))
      have P8 := Lib.hid (KRow.others R6.out k8 (Nat.lt_succ_self _))
      clear hK K hH2 r8 b8 k8
      try simp only [Act.put, List.setIfInBounds_toArray, List.set_cons_zero, List.set_cons_succ]
      refine wpAnyH_take (i := 10) (oi := { dst := some 7, op := Go.Op.assign (Go.Operand.const (Go.Value.int Go.IntKind.i64 0)), type := 30, pos := "capture.go:108", after := #[{ on := 9, ground := Go.Ground.chain }, { on := 0, ground := Go.Ground.phase }, { on := 1, ground := Go.Ground.phase }, { on := 2, ground := Go.Ground.phase }, { on := 3, ground := Go.Ground.phase }, { on := 4, ground := Go.Ground.phase }, { on := 5, ground := Go.Ground.phase }, { on := 6, ground := Go.Ground.phase }, { on := 7, ground := Go.Ground.phase }, { on := 8, ground := Go.Ground.phase }, { on := 9, ground := Go.Ground.phase }], guard := none }) (v := ?_) rfl ?_ ?_ ?_ ?_ (Or.inl ⟨?_, ?_⟩) hH3 ?_
      rotate_left
      · kernel_rfl
      · kernel_rfl
      · kernel_rfl
      · exact fun _ _ _ h => h
      · kernel_rfl
      · intro wS hSw
        try dsimp only at hSw
        go_simp
        try with_reducible rfl
      try simp only [Act.put, List.setIfInBounds_toArray, List.set_cons_zero, List.set_cons_succ]
      refine wpAnyH_done (by kernel_rfl) ?_ _
      have e0 : w8.cell? ⟨w.heap.size + 1, 0, none⟩ = some (.slice NA N.length NC) := X8.out.cell 0
      have e1 : w8.cell? ⟨w.heap.size + 1, 1, none⟩ = some (.slice RA (prt R F T).length RC) := X8.out.cell 1
      go_wp2
      refine bodyPost_ret (v := .tuple #[.agg #[.slice NA N.length NC, .slice RA (prt R F T).length RC], .int .i64 0]) (by simp [results, Try.results20, go_sem, e0, e1]) rfl ⟨_, _, by rw [HE.out], by rw [HS1.out]; exact N8.out.mono (Nat.le_trans (Nat.le_succ _) (Nat.le_succ _)), by rw [HS2.out]; exact P8.out.mono (Nat.le_trans (Nat.le_succ _) (Nat.le_succ _)), h8.out.2.2.1⟩
  · have he := slE_n (f := F) (t := T) hz
    have hs := slN_n (N := N) (R := R) (f := F) (t := T) (by rw [he]; exact hz)
    have HE := Lib.hid he; have HS1 := Lib.hid hs.1; have HS2 := Lib.hid hs.2
    have hz' : (ckC N R == 0) = false := by simpa using hz
    clear hz he hs HL HP HCp
    generalize ckC N R = r at *
    go_enter Try.func20, Try.ntmps20
    go_wp2_with (first
      | (go_at_call 14; go_must (refine (HK.out _ B0.out).mono ?_; rintro e1 w1 ⟨rfl, b1⟩; have B1 := Lib.hid (B0.out.trans (b1.mono B0.out.size)); have Q1 := Lib.hid (Q0.out.keep b1); have k0 := Q1.out.cell 0; have k1 := Q1.out.cell 1; have z0 := Q1.out.frozen 0; have z1 := Q1.out.frozen 1; clear b1)))
    have e0 : ((w1.setCell ⟨w.heap.size + 1, 0, none⟩ (.slice none 0 0)).setCell ⟨w.heap.size + 1, 1, none⟩ (.slice none 0 0)).cell? ⟨w.heap.size + 1, 0, none⟩ = some (.slice none 0 0) := (two_set k0 k1).1
    have e1 : ((w1.setCell ⟨w.heap.size + 1, 0, none⟩ (.slice none 0 0)).setCell ⟨w.heap.size + 1, 1, none⟩ (.slice none 0 0)).cell? ⟨w.heap.size + 1, 1, none⟩ = some (.slice none 0 0) := (two_set k0 k1).2
    refine bodyPost_ret (v := .tuple #[.agg #[.slice none 0 0, .slice none 0 0], .int .i64 r]) (by simp [results, Try.results20, go_sem, e0, e1]) rfl ⟨_, _, by rw [HE.out], by rw [HS1.out]; exact KRow.nil _ _, by rw [HS2.out]; exact KRow.nil _ _, Below.setCell (Below.setCell B1.out (Nat.le_succ _) _) (Nat.le_succ _) _⟩

end Go.Proofs.Ytmfceiioigmnlaa
