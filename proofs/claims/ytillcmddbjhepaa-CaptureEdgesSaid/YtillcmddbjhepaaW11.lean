/-
  changes, Edges (both).
-/
import Derived.Test.YtillcmddbjhepaaW10
import Derived.Test.YtillcmddbjhepaaM3
import Derived.Test.YtillcmddbjhepaaK3
namespace Go.Proofs.Ytillcmddbjhepaa
open Go Go.RowKit Go.Joins
set_option linter.unusedVariables false
set_option linter.unusedSimpArgs false

def edE (s : Ed) : Array Value := #[.int .i64 s.1, .int .i64 s.2.1, .int .i64 s.2.2]
theorem edE_size (s : Ed) : (edE s).size = 3 := rfl
theorem edE_one (s : Ed) : (edE s).toList.all (·.oneCell') = true := rfl
abbrev EdRow (w : World) (B : Nat) (v : Value) (l : List Ed) : Prop := KRow edE 3 36 w B v l
abbrev EdArg (w : World) (v : Value) (l : List Ed) : Prop := KArg edE 3 w v l
theorem edge_info : (Try.prog.info? 36).map (fun i => (i.zero, i.size, i.bytes)) = some (some (.agg #[.int .i64 0, .int .i64 0, .int .i64 0]), 3, 24) := by kernel_rfl
theorem wpList_append_ed {w : World} {ops : Array Oper} {rest : List Oper} {o : Oper} {a : Act} {Q : Exit → Act → World → Prop} (hgd : o.guard = none) (s x : Operand)
    (ho : o.op = .call { callee := .builtin .append, args := #[s, x], argTypes := #[33, 33] })
    {B c : Nat} {v : Value} {l : List Ed} {g : Nat} {X Y Z : Int} {ya : Array Value} (hya : ya = #[.int .i64 X, .int .i64 Y, .int .i64 Z]) (hs : a.eval s = v) (hx : a.eval x = .slice (some ⟨g, 0, none⟩) 1 c) (hg : g = w.heap.size) (hf : EdRow w B v l) (hB : B ≤ w.heap.size) (hn : l.length + 1 ≤ 4398046511104)
    (h : ∀ v' w', EdRow w' B v' (l ++ [(X, Y, Z)]) → Below B w w' → (∀ k, k < w.heap.size → some k ≠ v.ownBlock → w'.heap[k]? = w.heap[k]?) → wpList Try.prog ops Q rest (a.put o.dst v') w') : wpList Try.prog ops Q (o :: rest) a (w.alloc (.cells ya 36)) :=
  wpList_append_k2 (P := Try.prog) Try.underlying33 edge_info rfl (by omega) edE_size hgd s x ho (X, Y, Z) hya hs hx hg hf hB (by subst hya; rfl) (by omega) (by omega) h

set_option maxRecDepth 20000 in
set_option maxHeartbeats 8000000 in
theorem changes_any (a a' b b' t : Int) (n : Nat) (w : World) (ha0 : 0 ≤ a) (ha1 : a ≤ 65535) (hb0 : 0 ≤ b) (hb1 : b ≤ 65535) (hn : n ≤ 16) :
    Calls Try.prog 14 #[.agg #[.int .i64 a, .int .i64 a'], .agg #[.int .i64 b, .int .i64 b'], .int .i64 t, .int .i64 n] w fun e w' => ∃ v : Value, e = .returned v ∧ EdRow w' w.heap.size v (cg a b t 0 n) ∧ Below w.heap.size w w' := by
  have HLa := Lib.hid (fun k w hk => levelOf_any a a' k w ha0 (by omega) hk)
  have HLb := Lib.hid (fun k w hk => levelOf_any b b' k w hb0 (by omega) hk)
  have hn' : (n : Int) ≤ 16 := by omega
  have G0 := (RowAt.new w 41 #[.int .i64 a, .int .i64 a'])
  have B1 := ba w (.cells #[.int .i64 a, .int .i64 a'] 41)
  have G1 := G0.alloc (.cells #[.int .i64 b, .int .i64 b'] 41)
  have G2 := RowAt.new (w.alloc (.cells #[.int .i64 a, .int .i64 a'] 41)) 41 #[.int .i64 b, .int .i64 b']
  have B2 := B1.alloc (B1.size) (.cells #[.int .i64 b, .int .i64 b'] 41)
  rw [World.size_alloc] at G2
  have HG1 := Lib.hid G1; have HG2 := Lib.hid G2; have HB2 := Lib.hid B2
  clear G0 G1 G2 B1 B2
  go_enter Try.func14, Try.ntmps14
  go_wp2
  go_loopw [13, 9] (fun i v wr => ∃ (k : Nat) (E : List Ed), k ≤ n ∧ i = .int .i64 k ∧ E.length ≤ k ∧ Hid (E ++ cg a b t k (n - k) = cg a b t 0 n) ∧ Hid (EdRow wr (w.heap.size + 2) v E) ∧ Hid (RowAt wr w.heap.size 41 #[.int .i64 a, .int .i64 a']) ∧ Hid (RowAt wr (w.heap.size + 1) 41 #[.int .i64 b, .int .i64 b']) ∧ Hid (Below w.heap.size w wr)) (fun i _ _ => n - (intOf i).toNat)
  case atStart => exact ⟨0, [], Nat.zero_le _, rfl, Nat.le_refl _, Lib.hid rfl, Lib.hid (KRow.nil _ _), HG1, HG2, HB2⟩
  case round =>
    obtain ⟨k, E, hk, rfl, hEl, HE, HR, H1, H2, HB⟩ := hrel
    have hb := HB.out
    by_cases hkn : k < n
    · have f0 := H1.out.cell 0
      have f1 := H1.out.cell 1
      have f2 := H2.out.cell 0
      have f3 := H2.out.cell 1
      have hsz := H2.out.lt
      have HLa2 := Lib.hid (fun w => HLa.out k w (by omega)); have HLb2 := Lib.hid (fun w => HLb.out k w (by omega))
      have hE := HE.out
      rw [show n - k = (n - (k + 1)) + 1 by omega, cg_succ] at hE
      have h01 := bt_01 b k
      obtain ⟨UA, UN, UC, rfl, hUN⟩ := HR.out.form
      clear hUN
      have HLT := Lib.hid (HR.out.lt)
      have HBs := Lib.hid (show w.heap.size + 2 ≤ wr.heap.size by omega)
      by_cases hab : bt a k = bt b k
      · rw [if_pos hab, List.nil_append] at hE
        have HE2 := Lib.hid hE
        rw [hab] at HLa2
        clear hE hab
        generalize bt b k = x at *
        clear h01
        go_wp2_with (first
          | (go_at_call_of 20 (Value.agg #[.int .i64 b, .int .i64 b']); go_must (refine (HLb2.out _).mono ?_; rintro e5 w5 ⟨rfl, b5⟩; have q1 := H1.out.keep b5; have q2 := H2.out.keep b5; have c0 := q1.cell 0; have c1 := q1.cell 1; have r5 := KRow.keep HR.out b5; have B5 := HB.out.trans (b5.mono HB.out.size); clear b5))
          | (go_at_call_of 20 (Value.agg #[.int .i64 a, .int .i64 a']); go_must (refine (HLa2.out _).mono ?_; rintro e6 w6 ⟨rfl, b6⟩; have q3 := Lib.hid (q1.keep b6); have q4 := Lib.hid (q2.keep b6); have r6 := Lib.hid (KRow.keep r5 b6); have B6 := Lib.hid (B5.trans (b6.mono B5.size)); clear b6)))
        go_roundw
        case rel => exact ⟨k + 1, E, by omega, by go_num, by omega, HE2, r6, q3, q4, B6⟩
        case measure => simp [intOf]; omega
      · rw [if_neg hab, ← List.append_assoc] at hE
        have HE2 := Lib.hid hE
        have hne : (bt b k == bt a k) = false := by simpa using fun e => hab e.symm
        clear hE hab
        generalize bt b k = x at *
        generalize bt a k = y at *
        clear h01
        go_wp2_with (first
          | (go_at_call_of 20 (Value.agg #[.int .i64 b, .int .i64 b']); go_must (refine (HLb2.out _).mono ?_; rintro e5 w5 ⟨rfl, b5⟩; have q1 := H1.out.keep b5; have q2 := H2.out.keep b5; have c0 := q1.cell 0; have c1 := q1.cell 1; have r5 := KRow.keep HR.out b5; have B5 := HB.out.trans (b5.mono HB.out.size); have s5 := Nat.le_trans HBs.out b5.size; clear b5))
          | (go_at_call_of 20 (Value.agg #[.int .i64 a, .int .i64 a']); go_must (refine (HLa2.out _).mono ?_; rintro e6 w6 ⟨rfl, b6⟩; have q3 := Lib.hid (q1.keep b6); have q4 := Lib.hid (q2.keep b6); have r6 := Lib.hid (KRow.keep r5 b6); have B6 := Lib.hid (B5.trans (b6.mono B5.size)); have s6 := Lib.hid (Nat.le_trans s5 b6.size); clear b6 r5 B5 c0 c1 q1 q2))
          | (at_builtin; go_must (refine wpList_append_ed rfl _ _ rfl rfl rfl rfl rfl r6.out s6.out (by show E.length + 1 ≤ _; omega) ?_; intro v7 w7 r7 b7 k7)))
        have R7 := Lib.hid r7
        have Q3 := Lib.hid (q3.out.below b7 (show w.heap.size < w.heap.size + 2 by omega))
        have Q4 := Lib.hid (q4.out.below b7 (show w.heap.size + 1 < w.heap.size + 2 by omega))
        have B7 := Lib.hid (B6.out.trans (b7.mono (show w.heap.size ≤ w.heap.size + 2 by omega)))
        clear r7 b7 k7
        go_wp2
        go_roundw
        case rel => exact ⟨k + 1, E ++ [(t, (k : Int), x)], by omega, by go_num, (by rw [List.length_append]; exact Nat.succ_le_succ hEl), HE2, R7, Q3, Q4, B7⟩
        case measure => simp [intOf]; omega
    · obtain rfl : k = n := by omega
      have hE := HE.out
      rw [Nat.sub_self] at hE
      have hE2 : E = cg a b t 0 k := by rw [← hE]; exact (List.append_nil E).symm
      rw [hE2] at HR
      clear hE hE2 HE
      go_wp2
      go_returns
      exact ⟨_, rfl, HR.out.mono (show w.heap.size ≤ w.heap.size + 2 by omega), hb⟩

/-- Six cells of three old blocks, behind what only makes memory. -/
theorem heldE {w W W' : World} {b c g p : Nat} {x0 x1 y0 y1 z0 z1 : Value} (h : W.cell? ⟨b, 0, none⟩ = some x0 ∧ W.cell? ⟨b, 1, none⟩ = some x1 ∧ W.cell? ⟨c, 0, none⟩ = some y0 ∧ W.cell? ⟨c, 1, none⟩ = some y1 ∧ W.cell? ⟨g, p, none⟩ = some z0 ∧ W.cell? ⟨g, p + 1, none⟩ = some z1 ∧ Below w.heap.size w W ∧ b < W.heap.size ∧ c < W.heap.size ∧ g < W.heap.size) (hb : Below W.heap.size W W') :
    W'.cell? ⟨b, 0, none⟩ = some x0 ∧ W'.cell? ⟨b, 1, none⟩ = some x1 ∧ W'.cell? ⟨c, 0, none⟩ = some y0 ∧ W'.cell? ⟨c, 1, none⟩ = some y1 ∧ W'.cell? ⟨g, p, none⟩ = some z0 ∧ W'.cell? ⟨g, p + 1, none⟩ = some z1 ∧ Below w.heap.size w W' ∧ b < W'.heap.size ∧ c < W'.heap.size ∧ g < W'.heap.size := by
  obtain ⟨h0, h1, h2, h3, h4, h5, h6, l1, l2, l3⟩ := h
  have := hb.size
  exact ⟨(hb.cell (p := ⟨b, 0, none⟩) l1).trans h0, (hb.cell (p := ⟨b, 1, none⟩) l1).trans h1, (hb.cell (p := ⟨c, 0, none⟩) l2).trans h2, (hb.cell (p := ⟨c, 1, none⟩) l2).trans h3, (hb.cell (p := ⟨g, p, none⟩) l3).trans h4, (hb.cell (p := ⟨g, p + 1, none⟩) l3).trans h5, h6.trans (hb.mono h6.size), by omega, by omega, by omega⟩
theorem heldE_new {w wr : World} {b g p : Nat} {T : TypeId} {u0 u1 x0 x1 z0 z1 : Value} (q0 : wr.cell? ⟨b, 0, none⟩ = some u0) (q1 : wr.cell? ⟨b, 1, none⟩ = some u1) (f0 : wr.cell? ⟨g, p, none⟩ = some z0) (f1 : wr.cell? ⟨g, p + 1, none⟩ = some z1) (hB : Below w.heap.size w (wr.alloc (.cells #[x0, x1] T))) (hb : b < wr.heap.size) (hg : g < wr.heap.size) :
    (wr.alloc (.cells #[x0, x1] T)).drew.cell? ⟨b, 0, none⟩ = some u0 ∧ (wr.alloc (.cells #[x0, x1] T)).drew.cell? ⟨b, 1, none⟩ = some u1 ∧ (wr.alloc (.cells #[x0, x1] T)).drew.cell? ⟨wr.heap.size, 0, none⟩ = some x0 ∧ (wr.alloc (.cells #[x0, x1] T)).drew.cell? ⟨wr.heap.size, 1, none⟩ = some x1 ∧ (wr.alloc (.cells #[x0, x1] T)).drew.cell? ⟨g, p, none⟩ = some z0 ∧ (wr.alloc (.cells #[x0, x1] T)).drew.cell? ⟨g, p + 1, none⟩ = some z1 ∧ Below w.heap.size w (wr.alloc (.cells #[x0, x1] T)).drew ∧ b < (wr.alloc (.cells #[x0, x1] T)).drew.heap.size ∧ wr.heap.size < (wr.alloc (.cells #[x0, x1] T)).drew.heap.size ∧ g < (wr.alloc (.cells #[x0, x1] T)).drew.heap.size := by
  have h := ba wr (.cells #[x0, x1] T)
  have hs : (wr.alloc (.cells #[x0, x1] T)).drew.heap.size = wr.heap.size + 1 := World.size_alloc _ _
  exact ⟨(h.cell (p := ⟨b, 0, none⟩) hb).trans q0, (h.cell (p := ⟨b, 1, none⟩) hb).trans q1, (RowAt.new wr T #[x0, x1]).cell 0, (RowAt.new wr T #[x0, x1]).cell 1, (h.cell (p := ⟨g, p, none⟩) hg).trans f0, (h.cell (p := ⟨g, p + 1, none⟩) hg).trans f1, hB.drew, by omega, by omega, by omega⟩
theorem heldEk {w W W' : World} {b c g p : Nat} {v x0 x1 y0 y1 z0 z1 : Value} (h : W.cell? ⟨b, 0, none⟩ = some x0 ∧ W.cell? ⟨b, 1, none⟩ = some x1 ∧ W.cell? ⟨c, 0, none⟩ = some y0 ∧ W.cell? ⟨c, 1, none⟩ = some y1 ∧ W.cell? ⟨g, p, none⟩ = some z0 ∧ W.cell? ⟨g, p + 1, none⟩ = some z1 ∧ Below w.heap.size w W ∧ b < W.heap.size ∧ c < W.heap.size ∧ g < W.heap.size) (hb : Below w.heap.size W W') (hk : ∀ k, k < W.heap.size → some k ≠ v.ownBlock → W'.heap[k]? = W.heap[k]?) (hv : some b ≠ v.ownBlock ∧ some c ≠ v.ownBlock ∧ some g ≠ v.ownBlock) :
    W'.cell? ⟨b, 0, none⟩ = some x0 ∧ W'.cell? ⟨b, 1, none⟩ = some x1 ∧ W'.cell? ⟨c, 0, none⟩ = some y0 ∧ W'.cell? ⟨c, 1, none⟩ = some y1 ∧ W'.cell? ⟨g, p, none⟩ = some z0 ∧ W'.cell? ⟨g, p + 1, none⟩ = some z1 ∧ Below w.heap.size w W' ∧ b < W'.heap.size ∧ c < W'.heap.size ∧ g < W'.heap.size := by
  obtain ⟨h0, h1, h2, h3, h4, h5, h6, l1, l2, l3⟩ := h
  obtain ⟨v1, v2, v3⟩ := hv
  have := hb.size
  exact ⟨(kept_at hk ⟨b, 0, none⟩ l1 v1).trans h0, (kept_at hk ⟨b, 1, none⟩ l1 v1).trans h1, (kept_at hk ⟨c, 0, none⟩ l2 v2).trans h2, (kept_at hk ⟨c, 1, none⟩ l2 v2).trans h3, (kept_at hk ⟨g, p, none⟩ l3 v3).trans h4, (kept_at hk ⟨g, p + 1, none⟩ l3 v3).trans h5, h6.trans hb, by omega, by omega, by omega⟩

set_option maxRecDepth 20000 in
set_option maxHeartbeats 8000000 in
theorem edges_any (N : List ByteArray) (R : List Rn) (vN vR : Value) (w : World) (hN : NmArg w vN N) (hs : szs N) (hR : RnArg w vR R) (hn : R.length ≤ 1099511627776) :
    Calls Try.prog 9 #[.agg #[vN, vR]] w fun e w' => ∃ v : Value, e = .returned v ∧ EdRow w' w.heap.size v (edC N R) ∧ Below w.heap.size w w' := by
  have HK := Lib.hid (fun w' (hb : Below w.heap.size w w') => check_any N R vN vR w' (hN.keep hb) hs (hR.keep hb) hn)
  obtain ⟨A1, c1, rfl, hA1, hA1'⟩ := hN.form
  obtain ⟨A2, c2, rfl, hA⟩ := hR
  have HA := Lib.hid hA
  clear hA1' hN hA1 hs hA
  have B0 := Lib.hid (ba w (.cells #[.slice A1 N.length c1, .slice A2 R.length c2] 25))
  by_cases hz : ckC N R = 0
  · obtain ⟨hn2, _, hl0, hl16, _, hv⟩ := ckC_ok hz
    have HV := Lib.hid hv
    have hmk := mk_range hl16
    rw [hz] at HK
    rw [edC_yes hz]
    clear hz hv
    go_enter Try.func9, Try.ntmps9
    go_wp2_with (first
      | (go_at_call 6; go_must (refine (HK.out _ B0.out).mono ?_; rintro e1 w1 ⟨rfl, b1⟩; have B1 := Lib.hid (B0.out.trans (b1.mono B0.out.size)); obtain ⟨g0, g1⟩ := box_two b1; clear b1)))
    have hbox : w.heap.size < w1.heap.size := World.block_lt_of_cell? w1 _ g0
    go_loopw [13, 4, 3] (fun i s v wr => ∃ (j : Nat) (E : List Ed), j ≤ R.length ∧ i = .int .i64 j ∧ s = .int .i64 (lg (R.take j)) ∧ E.length ≤ 16 * j ∧ Hid (E ++ rs N.length R j = edg N.length R) ∧ Hid (EdRow wr (w.heap.size + 1) v E) ∧ Hid (Below (w.heap.size + 1) w1 wr) ∧ Hid (Below w.heap.size w wr)) (fun i _ _ _ => R.length - (intOf i).toNat)
    case atStart => exact ⟨0, [], Nat.zero_le _, rfl, rfl, by simp, Lib.hid rfl, Lib.hid (KRow.nil _ _), Lib.hid (Below.refl _ _), B1⟩
    case round =>
      obtain ⟨j, E, hj, rfl, rfl, hEl, HE, HR, HC, HB⟩ := hrel
      have hb := HB.out
      have q0 : wr.cell? ⟨w.heap.size, 0, none⟩ = some (.slice A1 N.length c1) := (HC.out.cell (p := ⟨w.heap.size, 0, none⟩) (Nat.lt_succ_self _)).trans g0
      have q1 : wr.cell? ⟨w.heap.size, 1, none⟩ = some (.slice A2 R.length c2) := (HC.out.cell (p := ⟨w.heap.size, 1, none⟩) (Nat.lt_succ_self _)).trans g1
      have hCs := HC.out.size
      by_cases hjl : j < R.length
      · obtain ⟨g, o, rfl, hg, hc⟩ := HA.out (by omega)
        obtain ⟨a0, a1⟩ := arg_two hc j hjl
        have f0 := (hb.cell (p := ⟨g, o + j * 2, none⟩) hg).trans a0
        have f1 := (hb.cell (p := ⟨g, o + j * 2 + 1, none⟩) hg).trans a1
        have hx := el_range HV.out j hjl
        have hr := lg_take_range HV.out j
        have hr2 := lg_take_range HV.out (j + 1)
        have htk := lg_take R j hjl
        rw [htk] at hr2
        have HT := Lib.hid htk
        have HB2 := Lib.hid (show Below w.heap.size w (wr.alloc (.cells #[.int .i64 R[j].1, .int .i64 R[j].2] 41)) from hb.alloc hb.size _)
        have HC2 := Lib.hid (show Below (w.heap.size + 1) w1 (wr.alloc (.cells #[.int .i64 R[j].1, .int .i64 R[j].2] 41)) from HC.out.alloc (Nat.le_trans hbox hCs) _)
        have HR2 := Lib.hid (show EdRow (wr.alloc (.cells #[.int .i64 R[j].1, .int .i64 R[j].2] 41)) (w.heap.size + 1) _ E from HR.out.alloc _)
        rcases Nat.eq_zero_or_pos j with hj0 | hj0
        · subst hj0
          have HE2 : Hid (E ++ rs N.length R 1 = edg N.length R) := Lib.hid (by rw [rs_one hjl, ← rs_zero]; exact HE.out)
          clear a0 a1 hc htk
          generalize R[0].1 = x0 at *
          generalize R[0].2 = x1 at *
          generalize lg (R.take 0) = S at *
          simp only [Nat.zero_mul, Nat.add_zero] at f0 f1
          have z : ((0 : Nat) : Int) = 0 := rfl
          rw [z]
          clear z
          go_wp2
          go_roundw
          case rel => exact ⟨1, E, hjl, rfl, val_int (by rw [HT.out]), by omega, HE2, HR2, HC2, HB2⟩
          case measure => simp [intOf]; omega
        · obtain ⟨i, rfl⟩ : ∃ i, j = i + 1 := ⟨j - 1, by omega⟩
          obtain ⟨a2, a3⟩ := arg_two hc i (by omega)
          have f2 := (hb.cell (p := ⟨g, o + i * 2, none⟩) hg).trans a2
          have f3 := (hb.cell (p := ⟨g, o + i * 2 + 1, none⟩) hg).trans a3
          have hy := el_range HV.out i (by omega)
          have hE := HE.out
          rw [rs_step hjl, ← List.append_assoc] at hE
          have HE2 := Lib.hid hE
          have hcl := cg_len R[i].1 R[i + 1].1 (lg (R.take (i + 1))) 0 N.length
          have CC := Lib.hid (fun w' => changes_any R[i].1 R[i].2 R[i + 1].1 R[i + 1].2 (lg (R.take (i + 1))) N.length w' hy.1.1 (by omega) hx.1.1 (by omega) hl16)
          have hne := HR.out.lt
          obtain ⟨UA, UN, UC, rfl, hUN⟩ := HR.out.form
          clear hUN
          have hv : some w.heap.size ≠ (Value.slice UA UN UC).ownBlock ∧ some wr.heap.size ≠ (Value.slice UA UN UC).ownBlock ∧ some g ≠ (Value.slice UA UN UC).ownBlock := by
            refine ⟨fun e => ?_, fun e => ?_, fun e => ?_⟩
            · have := hne _ e.symm; omega
            · have := hne _ e.symm; omega
            · have := hne _ e.symm; omega
          have HVn := Lib.hid hv
          have hlc : (cg R[i].1 R[i + 1].1 (lg (R.take (i + 1))) 0 N.length).length ≤ 16 := by omega
          have hbw : wr.heap.size < (wr.alloc (.cells #[.int .i64 R[i + 1].1, .int .i64 R[i + 1].2] 41)).heap.size := by rw [World.size_alloc]; omega
          have hwr0 : w.heap.size < wr.heap.size := Nat.lt_of_lt_of_le hbox hCs
          have hgr0 : g < wr.heap.size := Nat.lt_trans hg hwr0
          have SF := Lib.hid (heldE_new (T := 41) (x0 := .int .i64 R[i + 1].1) (x1 := .int .i64 R[i + 1].2) q0 q1 f2 f3 HB2.out hwr0 hgr0)
          have RD := Lib.hid (show EdRow ((wr.alloc (.cells #[.int .i64 R[i + 1].1, .int .i64 R[i + 1].2] 41)).drew) (w.heap.size + 1) (.slice UA UN UC) E from KRow.drewN HR2.out 1)
          have CD := Lib.hid (show Below (w.heap.size + 1) w1 ((wr.alloc (.cells #[.int .i64 R[i + 1].1, .int .i64 R[i + 1].2] 41)).drew) from HC2.out.drew)
          clear a0 a1 a2 a3 hc htk hE hcl hne hv hbw
          generalize R[i + 1].1 = x0 at *
          generalize R[i + 1].2 = x1 at *
          generalize R[i].1 = y0 at *
          generalize R[i].2 = y1 at *
          generalize lg (R.take (i + 1)) = S at *
          generalize cg y0 x0 S 0 N.length = G at *
          have v1 : IntKind.i64.wrap (i : Int) = i := IntWalk.i64_in _ (by omega)
          have hlt1 : (i : Int) < R.length := by omega
          go_wp2
          have SF0 := SF.out
          clear q0 q1 f0 f1 f2 f3 g0 g1
          go_region_held3 (fun w' => w'.cell? ⟨w.heap.size, 0, none⟩ = some (.slice A1 N.length c1) ∧ w'.cell? ⟨w.heap.size, 1, none⟩ = some (.slice (some ⟨g, o, none⟩) R.length c2) ∧ w'.cell? ⟨wr.heap.size, 0, none⟩ = some (.int .i64 x0) ∧ w'.cell? ⟨wr.heap.size, 1, none⟩ = some (.int .i64 x1) ∧ w'.cell? ⟨g, o + i * 2, none⟩ = some (.int .i64 y0) ∧ w'.cell? ⟨g, o + i * 2 + 1, none⟩ = some (.int .i64 y1) ∧ Below w.heap.size w w' ∧ w.heap.size < w'.heap.size ∧ wr.heap.size < w'.heap.size ∧ g < w'.heap.size) (first | assumption | go_keep)
            (first
              | (go_at_call 14; refine (CC.out _).mono ?_; rintro e5 w5 ⟨v5, rfl, r5, b5⟩; have h5 := heldE SF.out b5; have R5 := Lib.hid (KRow.keep RD.out b5); have C5 := Lib.hid (CD.out.trans (b5.mono (Nat.le_trans hbox CD.out.size))); have K5 := Lib.hid (KRow.arg edE_size r5); have S5 := Nat.le_trans hbox C5.out.size)
              | (refine step_append_arg (enc := edE) Try.underlying33 edge_info rfl (by omega) edE_size edE_one (by rfl) (.tmp 20) (.tmp 32) (by rfl) (by rfl) (by rfl) R5.out K5.out S5 (by omega) (by omega) ?_; intro v6 w6 r6 b6 k6; have h6 := heldEk h5 (b6.mono (Nat.le_succ _)) k6 HVn.out)
              | fail)
          rename_i hh
          have B6 := Lib.hid hh.2.2.2.2.2.2.1
          have R6 := Lib.hid r6
          have C6 := Lib.hid (C5.out.trans b6)
          have hs1 := hh.2.2.1
          have hs2 := hh.2.2.2.1
          clear hh h5 h6 r6 b6 k6 b5 SF0
          go_wp2
          go_roundw
          case rel => exact ⟨i + 2, E ++ G, by omega, by go_num, val_int (by rw [HT.out]), by rw [List.length_append]; omega, HE2, R6, C6, B6⟩
          case measure => simp [intOf]; omega
      · have hE : E = edg N.length R := by
          rcases Nat.eq_zero_or_pos j with h0 | h0
          · subst h0
            have h1 : R = [] := List.eq_nil_of_length_eq_zero (by omega)
            have h2 := HE.out
            rw [h1] at h2 ⊢
            rw [← h2]
            exact (List.append_nil E).symm
          · have h2 := HE.out
            rw [rs_end (by omega) h0, List.append_nil] at h2
            exact h2
        rw [hE] at HR
        clear hE
        go_wp2
        go_returns
        exact ⟨_, rfl, HR.out.mono (Nat.le_succ _), hb⟩
  · have hz' : (ckC N R == 0) = false := by simpa using hz
    rw [edC_no hz]
    clear hz HA
    generalize ckC N R = r at *
    go_enter Try.func9, Try.ntmps9
    go_wp2_with (first
      | (go_at_call 6; go_must (refine (HK.out _ B0.out).mono ?_; rintro e1 w1 ⟨rfl, b1⟩; have B1 := Lib.hid (B0.out.trans (b1.mono B0.out.size)); clear b1)))
    go_returns
    exact ⟨_, rfl, KRow.nil _ _, B1.out⟩

end Go.Proofs.Ytillcmddbjhepaa
