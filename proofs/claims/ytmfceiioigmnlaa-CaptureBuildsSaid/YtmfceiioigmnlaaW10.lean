/-
  Channel (both).
-/
import Derived.Test.YtmfceiioigmnlaaW8
import Derived.Deep.RegionHeld3
namespace Go.Proofs.Ytmfceiioigmnlaa
open Go Go.RowKit Go.Joins
set_option linter.unusedVariables false
set_option linter.unusedSimpArgs false

def chR (N : List ByteArray) (R : List Rn) (s : ByteArray) : List Rn × Int := if ckC N R ≠ 0 then ([], ckC N R) else if ix N s < 0 then ([], 8) else (chn R (ix N s).toNat, 0)
theorem chR_n {N : List ByteArray} {R : List Rn} {s : ByteArray} (h : ¬ ckC N R = 0) : chR N R s = ([], ckC N R) := by unfold chR; rw [if_pos h]
theorem chR_8 {N : List ByteArray} {R : List Rn} {s : ByteArray} (h : ckC N R = 0) (h1 : ix N s < 0) : chR N R s = ([], 8) := by unfold chR; rw [if_neg (fun x => x h), if_pos h1]
theorem chR_0 {N : List ByteArray} {R : List Rn} {s : ByteArray} (h : ckC N R = 0) (h1 : ¬ ix N s < 0) : chR N R s = (chn R (ix N s).toNat, 0) := by unfold chR; rw [if_neg (fun x => x h), if_neg h1]
theorem ix_range (l : List ByteArray) (s : ByteArray) : ix l s = -1 ∨ (0 ≤ ix l s ∧ ix l s < l.length) := by
  have := ixF_range l s 0
  unfold ix
  omega
/-- Two cells of a block, behind what only makes memory. -/
theorem held2 {w W W' : World} {b : Nat} {x0 x1 : Value} (h : W.cell? ⟨b, 0, none⟩ = some x0 ∧ W.cell? ⟨b, 1, none⟩ = some x1 ∧ Below w.heap.size w W ∧ b < W.heap.size) (hb : Below W.heap.size W W') : W'.cell? ⟨b, 0, none⟩ = some x0 ∧ W'.cell? ⟨b, 1, none⟩ = some x1 ∧ Below w.heap.size w W' ∧ b < W'.heap.size := by
  obtain ⟨h0, h1, h2, h3⟩ := h
  have := hb.size
  exact ⟨(hb.cell (p := ⟨b, 0, none⟩) h3).trans h0, (hb.cell (p := ⟨b, 1, none⟩) h3).trans h1, h2.trans (hb.mono h2.size), by omega⟩
/-- The same, behind what changes one other block besides. -/
theorem held2k {w W W' : World} {b : Nat} {v : Value} {x0 x1 : Value} (h : W.cell? ⟨b, 0, none⟩ = some x0 ∧ W.cell? ⟨b, 1, none⟩ = some x1 ∧ Below w.heap.size w W ∧ b < W.heap.size) (hb : Below w.heap.size W W') (hk : ∀ k, k < W.heap.size → some k ≠ v.ownBlock → W'.heap[k]? = W.heap[k]?) (hv : some b ≠ v.ownBlock) : W'.cell? ⟨b, 0, none⟩ = some x0 ∧ W'.cell? ⟨b, 1, none⟩ = some x1 ∧ Below w.heap.size w W' ∧ b < W'.heap.size := by
  obtain ⟨h0, h1, h2, h3⟩ := h
  have := hb.size
  exact ⟨(kept_at hk ⟨b, 0, none⟩ h3 hv).trans h0, (kept_at hk ⟨b, 1, none⟩ h3 hv).trans h1, h2.trans hb, by omega⟩

set_option maxRecDepth 20000 in
set_option maxHeartbeats 8000000 in
theorem channel_any (N : List ByteArray) (R : List Rn) (vN vR : Value) (s : ByteArray) (w : World) (hN : NmArg w vN N) (hs : szs N) (hR : RnArg w vR R) (hn : R.length ≤ 1099511627776) :
    Calls Try.prog 18 #[.agg #[vN, vR], .string s] w fun e w' => ∃ v : Value, e = .returned (.tuple #[v, .int .i64 (chR N R s).2]) ∧ RnRow w' w.heap.size v (chR N R s).1 ∧ Below w.heap.size w w' := by
  have HK := Lib.hid (fun w' (hb : Below w.heap.size w w') => check_any N R vN vR w' (hN.keep hb) hs (hR.keep hb) hn)
  have HI := Lib.hid (fun w' (hb : Below w.heap.size w w') h => index_any N vN s w' (hN.keep hb) h)
  obtain ⟨A1, c1, rfl, hA1, hA1'⟩ := hN.form
  obtain ⟨A2, c2, rfl, hA⟩ := hR
  have HA := Lib.hid hA
  clear hA1' hN hA1 hs hA
  have B0 := Lib.hid (ba w (.cells #[.slice A1 N.length c1, .slice A2 R.length c2] 25))
  by_cases hz : ckC N R = 0
  · obtain ⟨hn2, _, hl0, hl16, _, hv⟩ := ckC_ok hz
    have HV := Lib.hid hv
    have HPS := Lib.hid ((vr_iff _ R 0 (by omega)).1 hv).2.1
    have HI2 := Lib.hid (fun w' hb => HI.out w' hb (by omega))
    have H8 := Lib.hid (chR_8 (s := s) hz); have H0 := Lib.hid (chR_0 (s := s) hz)
    have hmk := mk_range hl16
    rw [hz] at HK
    clear hz HI hv
    have hix := ix_range N s
    generalize chR N R s = q at *
    generalize ix N s = r at *
    by_cases hr : r < 0
    · have hq := H8.out hr
      subst hq
      clear hix
      go_enter Try.func18, Try.ntmps18
      go_wp2_with (first
        | (go_at_call 14; go_must (refine (HK.out _ B0.out).mono ?_; rintro e1 w1 ⟨rfl, b1⟩; have B1 := Lib.hid (B0.out.trans (b1.mono B0.out.size)); obtain ⟨g0, g1⟩ := box_two b1; clear b1))
        | (go_at_call 37; go_must (refine (HI2.out _ B1.out).mono ?_; rintro e2 w2 ⟨rfl, rfl⟩)))
      go_returns
      exact ⟨_, rfl, KRow.nil _ _, B1.out⟩
    · have hq := H0.out hr
      subst hq
      obtain ⟨k, rfl⟩ : ∃ k : Nat, r = k := ⟨r.toNat, by omega⟩
      have hk : k ≤ 15 := by omega
      rw [Int.toNat_natCast]
      have HLv := Lib.hid (fun x y w h0 h1 => levelOf_any x y k w h0 h1 hk)
      clear hix hr H8 H0
      go_enter Try.func18, Try.ntmps18
      go_wp2_with (first
        | (go_at_call 14; go_must (refine (HK.out _ B0.out).mono ?_; rintro e1 w1 ⟨rfl, b1⟩; have B1 := Lib.hid (B0.out.trans (b1.mono B0.out.size)); obtain ⟨g0, g1⟩ := box_two b1; clear b1))
        | (go_at_call 37; go_must (refine (HI2.out _ B1.out).mono ?_; rintro e2 w2 ⟨rfl, rfl⟩)))
      go_loopw [25, 8] (fun i v wr => ∃ j : Nat, j ≤ R.length ∧ i = .int .i64 j ∧ Hid (RnRow wr w.heap.size v (chn (R.take j) k)) ∧ Hid (Below w.heap.size w wr)) (fun i _ _ => R.length - (intOf i).toNat)
      case atStart => exact ⟨0, Nat.zero_le _, rfl, Lib.hid (KRow.nil _ _), B1⟩
      case round =>
        obtain ⟨j, hj, rfl, HR, HB⟩ := hrel
        have hb := HB.out
        by_cases hjl : j < R.length
        · obtain ⟨g, o, rfl, hg, hc⟩ := HA.out (by omega)
          obtain ⟨a0, a1⟩ := arg_two hc j hjl
          have f0 := (hb.cell (p := ⟨g, o + j * 2, none⟩) hg).trans a0
          have f1 := (hb.cell (p := ⟨g, o + j * 2 + 1, none⟩) hg).trans a1
          have hx := el_range HV.out j hjl
          have hr2 := lg_take_range HV.out (j + 1)
          have HST : Hid (chn (R.take (j + 1)) k = pt (chn (R.take j) k) (bt R[j].1 k, R[j].2)) := Lib.hid (chn_take R k j hjl)
          have hl : lg (chn (R.take j) k) + R[j].2 ≤ 1099511627776 := by
            rw [chn_lg]
            have := lg_take R j hjl
            omega
          have hlen := chn_len (R.take j) k
          rw [List.length_take] at hlen
          have CL : Hid (∀ V X w', RnRow w' w.heap.size V (chn (R.take j) k) → w.heap.size ≤ w'.heap.size → Calls Try.prog 38 #[V, .int .i64 X, .int .i64 R[j].2] w' fun e w'' => ∃ v : Value, e = .returned v ∧ RnRow w'' w.heap.size v (pt (chn (R.take j) k) (X, R[j].2)) ∧ Below w.heap.size w' w'' ∧ (∀ k, k < w'.heap.size → some k ≠ V.ownBlock → w''.heap[k]? = w'.heap[k]?)) := Lib.hid (fun V X w' h1 h2 => lengthened_any2 _ w.heap.size V X _ w' h1 h2 (chn_ps (ps_take HPS.out j) k) (by omega) hl (by omega))
          have HB2 := Lib.hid (show Below w.heap.size w (wr.alloc (.cells #[.int .i64 R[j].1, .int .i64 R[j].2] 49)) from hb.alloc hb.size _)
          have HR2 := Lib.hid (show RnRow (wr.alloc (.cells #[.int .i64 R[j].1, .int .i64 R[j].2] 49)) w.heap.size _ (chn (R.take j) k) from HR.out.alloc _)
          have HLv2 := Lib.hid (fun w' => HLv.out R[j].1 R[j].2 w' hx.1.1 (by omega))
          have G0 := (RowAt.new wr 49 #[.int .i64 R[j].1, .int .i64 R[j].2]).cell 0
          have G1 := (RowAt.new wr 49 #[.int .i64 R[j].1, .int .i64 R[j].2]).cell 1
          have hne := Lib.hid (fun q hq => (HR.out.lt q hq).2)
          clear a0 a1 hc hl hlen hr2
          generalize R[j].1 = x0 at *
          generalize R[j].2 = x1 at *
          generalize chn (R.take j) k = E at *
          obtain ⟨_, hx1, hx2⟩ := hx
          obtain ⟨UA, UN, UC, rfl, hUN⟩ := HR.out.form
          clear hUN
          have hne2 := Lib.hid (show some wr.heap.size ≠ (Value.slice UA UN UC).ownBlock from fun e => absurd (hne.out _ e.symm) (by omega))
          go_wp2
          have S0 : ((wr.alloc (.cells #[.int .i64 x0, .int .i64 x1] 49)).drew).cell? ⟨wr.heap.size, 0, none⟩ = some (.int .i64 x0) ∧ ((wr.alloc (.cells #[.int .i64 x0, .int .i64 x1] 49)).drew).cell? ⟨wr.heap.size, 1, none⟩ = some (.int .i64 x1) ∧ Below w.heap.size w ((wr.alloc (.cells #[.int .i64 x0, .int .i64 x1] 49)).drew) ∧ wr.heap.size < ((wr.alloc (.cells #[.int .i64 x0, .int .i64 x1] 49)).drew).heap.size := ⟨G0, G1, HB2.out.drew, by show wr.heap.size < (wr.alloc _).heap.size; rw [World.size_alloc]; omega⟩
          have R0 : Hid (RnRow ((wr.alloc (.cells #[.int .i64 x0, .int .i64 x1] 49)).drew) w.heap.size (.slice UA UN UC) E) := Lib.hid (HR2.out.drewN 1)
          clear G0 G1 f0 f1
          go_region_held3 (fun w' => w'.cell? ⟨wr.heap.size, 0, none⟩ = some (.int .i64 x0) ∧ w'.cell? ⟨wr.heap.size, 1, none⟩ = some (.int .i64 x1) ∧ Below w.heap.size w w' ∧ wr.heap.size < w'.heap.size) (first | assumption | go_keep)
            (first
              | (go_at_call 39; refine (HLv2.out _).mono ?_; rintro e5 w5 ⟨rfl, b5⟩; have h5 := held2 (by assumption) b5; have r5 := Lib.hid (KRow.keep R0.out b5))
              | (go_at_call 38; refine (CL.out _ _ _ r5.out h5.2.2.1.size).mono ?_; rintro e6 w6 ⟨v6, rfl, r6, b6, k6⟩; have h6 := held2k h5 b6 k6 hne2.out)
              | fail)
          clear h5 h6 S0
          have HR6 := Lib.hid (show RnRow w6 w.heap.size v6 (chn (R.take (j + 1)) k) from by rw [HST.out]; exact r6)
          rename_i hh
          have HB6 := Lib.hid hh.2.2.1
          clear hh r6 b6 k6 b5
          go_wp2
          go_roundw
          case rel => exact ⟨j + 1, by omega, val_int (by omega), HR6, HB6⟩
          case measure => simp [intOf]; omega
        · have he : R.take j = R := List.take_of_length_le (by omega)
          rw [he] at HR
          clear he
          go_wp2
          go_returns
          exact ⟨_, rfl, HR.out, hb⟩
  · have hq := chR_n (s := s) hz
    have hz' : (ckC N R == 0) = false := by simpa using hz
    rw [hq]
    clear hz hq HI HA
    generalize ckC N R = r at *
    go_enter Try.func18, Try.ntmps18
    go_wp2_with (first
      | (go_at_call 14; go_must (refine (HK.out _ B0.out).mono ?_; rintro e1 w1 ⟨rfl, b1⟩; have B1 := Lib.hid (B0.out.trans (b1.mono B0.out.size)); clear b1)))
    go_returns
    exact ⟨_, rfl, KRow.nil _ _, B1.out⟩

set_option maxRecDepth 20000 in
set_option maxHeartbeats 8000000 in
theorem rchannel_any (N : List ByteArray) (R : List Rn) (vN vR : Value) (s : ByteArray) (w : World) (hN : NmArg w vN N) (hs : szs N) (hR : RnArg w vR R) (hn : R.length ≤ 1099511627776) :
    Calls Try.prog 19 #[.agg #[vN, vR], .string s] w fun e w' => ∃ v : Value, e = .returned (.tuple #[v, .int .i64 (chR N R s).2]) ∧ RnRow w' w.heap.size v (chR N R s).1 ∧ Below w.heap.size w w' := by
  have HK := Lib.hid (fun w' (hb : Below w.heap.size w w') => rcheck_any N R vN vR w' (hN.keep hb) hs (hR.keep hb) hn)
  have HI := Lib.hid (fun w' (hb : Below w.heap.size w w') h => place_any N vN s w' (hN.keep hb) h)
  obtain ⟨A1, c1, rfl, hA1, hA1'⟩ := hN.form
  obtain ⟨A2, c2, rfl, hA⟩ := hR
  have HA := Lib.hid hA
  clear hA1' hN hA1 hs hA
  have B0 := Lib.hid (ba w (.cells #[.slice A1 N.length c1, .slice A2 R.length c2] 25))
  by_cases hz : ckC N R = 0
  · obtain ⟨hn2, _, hl0, hl16, _, hv⟩ := ckC_ok hz
    have HV := Lib.hid hv
    have HPS := Lib.hid ((vr_iff _ R 0 (by omega)).1 hv).2.1
    have HI2 := Lib.hid (fun w' hb => HI.out w' hb (by omega))
    have H8 := Lib.hid (chR_8 (s := s) hz); have H0 := Lib.hid (chR_0 (s := s) hz)
    have hmk := mk_range hl16
    rw [hz] at HK
    clear hz HI hv
    have hix := ix_range N s
    generalize chR N R s = q at *
    generalize ix N s = r at *
    by_cases hr : r < 0
    · have hq := H8.out hr
      subst hq
      clear hix
      go_enter Try.func19, Try.ntmps19
      go_wp2_with (first
        | (go_at_call 15; go_must (refine (HK.out _ B0.out).mono ?_; rintro e1 w1 ⟨rfl, b1⟩; have B1 := Lib.hid (B0.out.trans (b1.mono B0.out.size)); obtain ⟨g0, g1⟩ := box_two b1; clear b1))
        | (go_at_call 40; go_must (refine (HI2.out _ B1.out).mono ?_; rintro e2 w2 ⟨rfl, rfl⟩)))
      go_returns
      exact ⟨_, rfl, KRow.nil _ _, B1.out⟩
    · have hq := H0.out hr
      subst hq
      obtain ⟨k, rfl⟩ : ∃ k : Nat, r = k := ⟨r.toNat, by omega⟩
      have hk : k ≤ 15 := by omega
      rw [Int.toNat_natCast]
      clear hix hr H8 H0
      go_enter Try.func19, Try.ntmps19
      go_wp2_with (first
        | (go_at_call 15; go_must (refine (HK.out _ B0.out).mono ?_; rintro e1 w1 ⟨rfl, b1⟩; have B1 := Lib.hid (B0.out.trans (b1.mono B0.out.size)); obtain ⟨g0, g1⟩ := box_two b1; clear b1))
        | (go_at_call 40; go_must (refine (HI2.out _ B1.out).mono ?_; rintro e2 w2 ⟨rfl, rfl⟩)))
      have hbox : w.heap.size < w1.heap.size := World.block_lt_of_cell? w1 _ g0
      go_loopw [9, 8] (fun i v wr => ∃ j : Nat, j ≤ R.length ∧ i = .int .i64 j ∧ Hid (RnRow wr (w.heap.size + 1) v (chn (R.take j) k)) ∧ Hid (Below (w.heap.size + 1) w1 wr) ∧ Hid (Below w.heap.size w wr)) (fun i _ _ => R.length - (intOf i).toNat)
      case atStart => exact ⟨0, Nat.zero_le _, rfl, Lib.hid (KRow.lit (T := 49) rnC_size w1 _ (by omega) [] #[] rfl 0 rfl (by decide)), Lib.hid ((ba w1 _).mono (by omega)), Lib.hid (B1.out.trans ((ba w1 _).mono (by omega)))⟩
      case round =>
        obtain ⟨j, hj, rfl, HR, HC, HB⟩ := hrel
        have hb := HB.out
        have q1 : wr.cell? ⟨w.heap.size, 1, none⟩ = some (.slice A2 R.length c2) := (HC.out.cell (p := ⟨w.heap.size, 1, none⟩) (Nat.lt_succ_self _)).trans g1
        have hCs := HC.out.size
        by_cases hjl : j < R.length
        · obtain ⟨g, o, rfl, hg, hc⟩ := HA.out (by omega)
          obtain ⟨a0, a1⟩ := arg_two hc j hjl
          have f0 := (hb.cell (p := ⟨g, o + j * 2, none⟩) hg).trans a0
          have f1 := (hb.cell (p := ⟨g, o + j * 2 + 1, none⟩) hg).trans a1
          have hx := el_range HV.out j hjl
          have hr2 := lg_take_range HV.out (j + 1)
          have HST : Hid (chn (R.take (j + 1)) k = pt (chn (R.take j) k) (bt R[j].1 k, R[j].2)) := Lib.hid (chn_take R k j hjl)
          have hl : lg (chn (R.take j) k) + R[j].2 ≤ 1099511627776 := by
            rw [chn_lg]
            have := lg_take R j hjl
            omega
          have hlen := chn_len (R.take j) k
          rw [List.length_take] at hlen
          have hbt := shr_and2 R[j].1 k hx.1.1 (by omega)
          obtain ⟨UA, UN, UC, rfl, hUN⟩ := HR.out.form
          clear hUN
          have CL : Hid (∀ X w', X = bt R[j].1 k → RnRow w' (w.heap.size + 1) (.slice UA UN UC) (chn (R.take j) k) → w.heap.size + 1 ≤ w'.heap.size → Calls Try.prog 41 #[.slice UA UN UC, .agg #[.int .i64 X, .int .i64 R[j].2]] w' fun e w'' => ∃ v : Value, e = .returned v ∧ RnRow w'' (w.heap.size + 1) v (pt (chn (R.take j) k) (bt R[j].1 k, R[j].2)) ∧ Below (w.heap.size + 1) w' w'') := Lib.hid (fun X w' e h1 h2 => by subst e; exact put_any _ _ _ _ _ w' h1 h2 (chn_ps (ps_take HPS.out j) k) hx.2.1 hl (by omega))
          have HBT := Lib.hid hbt
          clear a0 a1 hc hl hlen hr2 hbt
          generalize R[j].1 = x0 at *
          generalize R[j].2 = x1 at *
          obtain ⟨_, hx1, hx2⟩ := hx
          go_wp2
          go_still_tail 17, (by kernel_rfl)
          change wpList _ _ _ _ _ wr.drew
          have RD := Lib.hid (KRow.drewN HR.out 1)
          have CD := Lib.hid (show Below (w.heap.size + 1) w1 wr.drew from HC.out.drew)
          have BD := Lib.hid (show Below w.heap.size w wr.drew from hb.drew)
          have SD : w.heap.size + 1 ≤ wr.drew.heap.size := Nat.le_trans hbox hCs
          change Hid (RnRow wr.drew _ _ _) at RD
          generalize wr.drew = W at *
          go_wp2_with (first
            | (go_at_call 41; go_must (refine (CL.out _ _ ?hX RD.out SD).mono ?_; (case hX => (first | rfl | exact HBT.out)); rintro e5 w5 ⟨v5, rfl, r5, b5⟩; have R5 := Lib.hid r5; have C5 := Lib.hid (CD.out.trans b5); have B5 := Lib.hid (BD.out.trans (b5.mono (Nat.le_succ _))); clear r5 b5)))
          go_roundw
          case rel => exact ⟨j + 1, by omega, val_int (by omega), Lib.hid (by rw [HST.out]; exact R5.out), C5, B5⟩
          case measure => simp [intOf]; omega
        · have he : R.take j = R := List.take_of_length_le (by omega)
          rw [he] at HR
          clear he
          go_wp2
          go_returns
          exact ⟨_, rfl, HR.out.mono (Nat.le_succ _), hb⟩
  · have hq := chR_n (s := s) hz
    have hz' : (ckC N R == 0) = false := by simpa using hz
    rw [hq]
    clear hz hq HI HA
    generalize ckC N R = r at *
    go_enter Try.func19, Try.ntmps19
    go_wp2_with (first
      | (go_at_call 15; go_must (refine (HK.out _ B0.out).mono ?_; rintro e1 w1 ⟨rfl, b1⟩; have B1 := Lib.hid (B0.out.trans (b1.mono B0.out.size)); clear b1)))
    go_returns
    exact ⟨_, rfl, KRow.nil _ _, B1.out⟩

end Go.Proofs.Ytmfceiioigmnlaa
