/-
  The walks of the specification's cut, Slice, Join and FromEdges.
-/
import Derived.Test.YtpingfcmgffboaaW7
import Derived.Test.YtpingfcmgffboaaW6
namespace Go.Proofs.Ytpingfcmgffboaa
open Go Go.RowKit Go.Joins
set_option linter.unusedVariables false
set_option linter.unusedSimpArgs false

/-- A tick that is not before 0 and not after the end. -/
def ct (a L : Int) : Int := if a < 0 then 0 else if L < a then L else a
theorem ct_range (a L : Int) (h : 0 ≤ L) : 0 ≤ ct a L ∧ ct a L ≤ L := by
  unfold ct; split
  · omega
  · split <;> omega
theorem s1_ct (S F T L : Int) (r : Rn) (h0 : 0 ≤ S) (h1 : 1 ≤ r.2) (hL : S + r.2 ≤ L) (lo hi : Int) (e1 : lo = max S (ct F L)) (e2 : hi = min (S + r.2) (ct T L)) :
    (lo < hi → s1 S r F T = [(r.1, hi - lo)]) ∧ (¬ lo < hi → s1 S r F T = []) := by
  have key : (lo < hi ↔ max S F < min (S + r.2) T) ∧ (lo < hi → min (S + r.2) T - max S F = hi - lo) := by
    subst e1 e2
    unfold ct
    by_cases c1 : F < 0 <;> by_cases c2 : L < F <;> by_cases c3 : T < 0 <;> by_cases c4 : L < T <;> simp only [c1, c2, c3, c4, if_true, if_false] <;> first | omega | (simp; done)
  constructor
  · intro h
    rw [s1_yes (key.1.1 h), key.2 h]
  · intro h
    exact s1_no (fun x => h (key.1.2 x))
theorem lg_take_le {l : List Rn} (h : gd l) (j : Nat) : lg (l.take j) ≤ lg l := by
  have := gd_nonneg (gd_drop h j)
  have := lg_split l j
  omega

set_option maxHeartbeats 1000000 in
theorem cut_any (a L : Int) (w : World) : Calls Try.prog 38 #[.int .i64 a, .int .i64 L] w fun e w' => e = .returned (.int .i64 (ct a L)) ∧ w = w' := by
  by_cases h1 : a < 0
  · have H := Lib.hid (show ct a L = 0 by unfold ct; rw [if_pos h1])
    go_enter Try.func38, Try.ntmps38
    go_wp2
    go_returns
    exact ⟨ret_int H.out.symm, rfl⟩
  by_cases h2 : L < a
  · have H := Lib.hid (show ct a L = L by unfold ct; rw [if_neg h1, if_pos h2])
    go_enter Try.func38, Try.ntmps38
    go_wp2
    go_returns
    exact ⟨ret_int H.out.symm, rfl⟩
  have H := Lib.hid (show ct a L = a by unfold ct; rw [if_neg h1, if_neg h2])
  go_enter Try.func38, Try.ntmps38
  go_wp2
  go_returns
  exact ⟨ret_int H.out.symm, rfl⟩

set_option maxRecDepth 100000 in
set_option maxHeartbeats 8000000 in
theorem refSlice_any (l : List Rn) (V : Value) (F T : Int) (w : World) (hT : RnArg w V l) : Calls Try.prog 28 #[V, .int .i64 F, .int .i64 T] w fun e w' => ∃ v : Value, e = .returned v ∧ RnRow w' w.heap.size v (slV l F T) ∧ Below w.heap.size w w' := by
  have CV := Lib.hid (fun w' h => refValid_any l V w' h)
  have CL := Lib.hid (refLong_any l V w hT)
  have CC := Lib.hid cut_any
  have HT := Lib.hid (fun w' (hb : Below w.heap.size w w') => hT.keep hb)
  have hrF := ct_range F (lgV l) (lgV_range l).1
  have hrT := ct_range T (lgV l) (lgV_range l).1
  have hrL := lgV_range l
  obtain ⟨A, c, rfl, hA⟩ := hT
  have HA := Lib.hid hA
  clear hA
  cases hv : vl l with
  | false =>
    have HL := Lib.hid (slV_no (l := l) (f := F) (t := T) (by rw [hv]; exact Bool.false_ne_true))
    rw [hv] at CV
    clear hv
    generalize lgV l = L at *
    go_enter Try.func28, Try.ntmps28
    go_wp2_with (first
      | (go_at_call 21; go_must (refine CL.out.mono ?_; rintro e1 w1 ⟨rfl, rfl⟩))
      | (go_at_call 38; go_must (refine (CC.out _ _ _).mono ?_; rintro e2 w2 ⟨rfl, rfl⟩))
      | (go_at_call 20; go_must (refine (CV.out _ (HT.out _ (ba w _))).mono ?_; rintro e1 w1 ⟨rfl, rfl⟩)))
    go_returns
    exact ⟨_, rfl, by rw [HL.out]; exact KRow.lit rnC_size w w.heap.size (Nat.le_refl _) [] #[] rfl 0 rfl (by simp), ba w _⟩
  | true =>
    have HL := Lib.hid (slV_yes (f := F) (t := T) hv)
    have HK := Lib.hid hv
    have hn := ((vl_iff l).1 hv).1
    have HG := Lib.hid ((vl_iff l).1 hv).2.1
    have HLL := Lib.hid (lgV_yes hv)
    have HS := Lib.hid (fun j => Nat.le_trans (sl_len (l.take j) 0 F T) (show (l.take j).length ≤ 262144 by rw [List.length_take]; omega))
    have HP := Lib.hid (fun j (hj : j < l.length) => s1_ct (lg (l.take j)) F T (lgV l) (l[j].1, l[j].2) (lg_take_range hv j).1 (el_range hv j hj).2.1 (by rw [lgV_yes hv]; have := lg_take_le ((vl_iff l).1 hv).2.1 (j + 1); rw [lg_take l j hj] at this; exact this))
    rw [hv] at CV
    clear hv
    generalize lgV l = L at *
    obtain ⟨a, hfa⟩ : ∃ a, ct F L = a := ⟨_, rfl⟩
    obtain ⟨b, htb⟩ : ∃ b, ct T L = b := ⟨_, rfl⟩
    have CF := Lib.hid (fun w => by have := CC.out F L w; rw [hfa] at this; exact this)
    have CT := Lib.hid (fun w => by have := CC.out T L w; rw [htb] at this; exact this)
    have HP2 : Hid (∀ j (hj : j < l.length) (lo hi : Int), lo = max (lg (l.take j)) a → hi = min (lg (l.take j) + l[j].2) b → (lo < hi → s1 (lg (l.take j)) (l[j].1, l[j].2) F T = [(l[j].1, hi - lo)]) ∧ (¬ lo < hi → s1 (lg (l.take j)) (l[j].1, l[j].2) F T = [])) := Lib.hid (fun j hj lo hi e1 e2 => HP.out j hj lo hi (by rw [hfa]; exact e1) (by rw [htb]; exact e2))
    rw [hfa] at hrF
    rw [htb] at hrT
    clear hfa htb HP CC
    go_enter Try.func28, Try.ntmps28
    go_wp2_with (first
      | (go_at_call 21; go_must (refine CL.out.mono ?_; rintro e1 w1 ⟨rfl, rfl⟩))
      | (go_at_call_of 38 (Value.int .i64 F); (with_reducible refine (CF.out _).mono ?_); rintro e2 w2 ⟨rfl, rfl⟩)
      | (go_at_call_of 38 (Value.int .i64 T); (with_reducible refine (CT.out _).mono ?_); rintro e2 w2 ⟨rfl, rfl⟩)
      | (go_at_call 20; go_must (refine (CV.out _ (HT.out _ (ba w _))).mono ?_; rintro e1 w1 ⟨rfl, rfl⟩)))
    go_loopw [12, 10, 11] (fun i r s wr => ∃ j : Nat, j ≤ l.length ∧ i = .int .i64 j ∧ s = .int .i64 (lg (l.take j)) ∧ Hid (RnRow wr w.heap.size r (sl 0 (l.take j) F T)) ∧ Hid (Below w.heap.size w wr)) (fun i _ _ _ => l.length - (intOf i).toNat)
    case atStart => exact ⟨0, Nat.zero_le _, rfl, rfl, Lib.hid (KRow.lit rnC_size w w.heap.size (Nat.le_refl _) [] #[] rfl 0 rfl (by simp)), Lib.hid (ba w _)⟩
    case round =>
      obtain ⟨j, hj, rfl, rfl, HR, HB⟩ := hrel
      have hb := HB.out
      by_cases hjl : j < l.length
      · obtain ⟨g, o, rfl, hg, hc⟩ := HA.out (by omega)
        obtain ⟨a0, a1⟩ := arg_two hc j hjl
        have f0 := (hb.cell (p := ⟨g, o + j * 2, none⟩) hg).trans a0
        have f1 := (hb.cell (p := ⟨g, o + j * 2 + 1, none⟩) hg).trans a1
        have hr := lg_take_range HK.out j
        have hx := el_range HK.out j hjl
        have htk := Lib.hid (lg_take l j hjl)
        have hst : sl 0 (l.take (j + 1)) F T = sl 0 (l.take j) F T ++ s1 (lg (l.take j)) (l[j].1, l[j].2) F T := sl_take l j hjl F T
        have hp := HP2.out j hjl
        have hsl := HS.out j
        clear a0 a1 hc HP2
        generalize l[j].1 = x0 at *
        generalize l[j].2 = x1 at *
        generalize lg (l.take j) = S at *
        generalize sl 0 (l.take j) F T = E at *
        obtain ⟨_, hx1, hx2⟩ := hx
        have hS1 : ∀ lo hi : Int, lo = max S a → hi = min (S + x1) b → (lo < hi → Hid (sl 0 (l.take (j + 1)) F T = E ++ [(x0, hi - lo)])) ∧ (¬ lo < hi → Hid (sl 0 (l.take (j + 1)) F T = E)) := by
          intro lo hi e1 e2
          refine ⟨fun h => Lib.hid ?_, fun h => Lib.hid ?_⟩
          · rw [hst, (hp lo hi e1 e2).1 (by omega)]
          · rw [hst, (hp lo hi e1 e2).2 (by omega), List.append_nil]
        clear hst hp
        obtain ⟨UA, UN, UC, rfl, hUN⟩ := HR.out.form
        clear hUN
        by_cases hF : S < a
        · by_cases hT : b < S + x1
          · obtain ⟨hy, hz⟩ := hS1 a b (by omega) (by omega)
            clear hS1
            by_cases hlt : a < b
            · have HST := hy hlt
              clear hy hz
              go_wp2_with (first
                | (at_builtin; go_must (refine wpList_append_rn rfl _ _ rfl rfl rfl rfl rfl HR.out hb.size (by omega) ?_; intro v5 w5 R5 b5)))
              go_roundw
              case rel => exact ⟨j + 1, by omega, val_int (by omega), val_int (by rw [htk.out]), Lib.hid (by rw [HST.out]; exact R5), Lib.hid (hb.trans b5)⟩
              case measure => simp [intOf]; omega
            · have HST := hz hlt
              clear hy hz
              go_wp2
              go_roundw
              case rel => exact ⟨j + 1, by omega, val_int (by omega), val_int (by rw [htk.out]), Lib.hid (by rw [HST.out]; exact HR.out), HB⟩
              case measure => simp [intOf]; omega
          · obtain ⟨hy, hz⟩ := hS1 a (S + x1) (by omega) (by omega)
            clear hS1
            by_cases hlt : a < (S + x1)
            · have HST := hy hlt
              clear hy hz
              go_wp2_with (first
                | (at_builtin; go_must (refine wpList_append_rn rfl _ _ rfl rfl rfl rfl rfl HR.out hb.size (by omega) ?_; intro v5 w5 R5 b5)))
              go_roundw
              case rel => exact ⟨j + 1, by omega, val_int (by omega), val_int (by rw [htk.out]), Lib.hid (by rw [HST.out]; exact R5), Lib.hid (hb.trans b5)⟩
              case measure => simp [intOf]; omega
            · have HST := hz hlt
              clear hy hz
              go_wp2
              go_roundw
              case rel => exact ⟨j + 1, by omega, val_int (by omega), val_int (by rw [htk.out]), Lib.hid (by rw [HST.out]; exact HR.out), HB⟩
              case measure => simp [intOf]; omega
        · by_cases hT : b < S + x1
          · obtain ⟨hy, hz⟩ := hS1 S b (by omega) (by omega)
            clear hS1
            by_cases hlt : S < b
            · have HST := hy hlt
              clear hy hz
              go_wp2_with (first
                | (at_builtin; go_must (refine wpList_append_rn rfl _ _ rfl rfl rfl rfl rfl HR.out hb.size (by omega) ?_; intro v5 w5 R5 b5)))
              go_roundw
              case rel => exact ⟨j + 1, by omega, val_int (by omega), val_int (by rw [htk.out]), Lib.hid (by rw [HST.out]; exact R5), Lib.hid (hb.trans b5)⟩
              case measure => simp [intOf]; omega
            · have HST := hz hlt
              clear hy hz
              go_wp2
              go_roundw
              case rel => exact ⟨j + 1, by omega, val_int (by omega), val_int (by rw [htk.out]), Lib.hid (by rw [HST.out]; exact HR.out), HB⟩
              case measure => simp [intOf]; omega
          · obtain ⟨hy, hz⟩ := hS1 S (S + x1) (by omega) (by omega)
            clear hS1
            by_cases hlt : S < (S + x1)
            · have HST := hy hlt
              clear hy hz
              go_wp2_with (first
                | (at_builtin; go_must (refine wpList_append_rn rfl _ _ rfl rfl rfl rfl rfl HR.out hb.size (by omega) ?_; intro v5 w5 R5 b5)))
              go_roundw
              case rel => exact ⟨j + 1, by omega, val_int (by omega), val_int (by rw [htk.out]), Lib.hid (by rw [HST.out]; exact R5), Lib.hid (hb.trans b5)⟩
              case measure => simp [intOf]; omega
            · exact absurd hlt (by omega)
      · have he : l.take j = l := List.take_of_length_le (by omega)
        rw [he] at HR
        clear he
        go_wp2
        go_returns
        exact ⟨_, rfl, by rw [HL.out]; exact HR.out, hb⟩

set_option maxRecDepth 100000 in
set_option maxHeartbeats 8000000 in
theorem refJoin_any (a b : List Rn) (V U : Value) (w : World) (hT : RnArg w V a) (hU : RnArg w U b) : Calls Try.prog 30 #[V, U] w (RnRes (jnR a b) w) := by
  have CA := Lib.hid (refValid_any a V w hT)
  have CB := Lib.hid (refValid_any b U w hU)
  have LA := Lib.hid (refLong_any a V w hT)
  have LB := Lib.hid (refLong_any b U w hU)
  have HT := Lib.hid (fun w' (hb : Below w.heap.size w w') => hT.keep hb)
  have HU := Lib.hid (fun w' (hb : Below w.heap.size w w') => hU.keep hb)
  obtain ⟨A, c, rfl, hA⟩ := hT
  obtain ⟨D, d, rfl, hD⟩ := hU
  clear hA hD
  cases hva : vl a with
  | false =>
    have HL := Lib.hid (jnR_1 (a := a) (b := b) (by rw [hva]; exact fun h => Bool.false_ne_true h.1))
    rw [hva] at CA
    clear hva
    go_enter Try.func30, Try.ntmps30
    go_wp2_with (first
      | (go_at_call 20; go_must (refine CA.out.mono ?_; rintro e1 w1 ⟨rfl, rfl⟩)))
    go_returns
    exact RnRes.no HL.out (Below.refl _ _)
  | true =>
  cases hvb : vl b with
  | false =>
    have HL := Lib.hid (jnR_1 (a := a) (b := b) (by rw [hvb]; exact fun h => Bool.false_ne_true h.2))
    rw [hva] at CA
    rw [hvb] at CB
    clear hva hvb
    go_enter Try.func30, Try.ntmps30
    go_wp2_with (first
      | (go_at_call 20; first | ((with_reducible refine CA.out.mono ?_); rintro e1 w1 ⟨rfl, rfl⟩) | ((with_reducible refine CB.out.mono ?_); rintro e2 w2 ⟨rfl, rfl⟩)))
    go_returns
    exact RnRes.no HL.out (Below.refl _ _)
  | true =>
  have hv := And.intro hva hvb
  have H6 := Lib.hid (fun h => jnR_6 hv h)
  have H2 := Lib.hid (fun h6 h => jnR_2 hv h6 h)
  have H0 := Lib.hid (fun h6 h => jnR_0 hv h6 h)
  have VA := Lib.hid ((vl_iff a).1 hva)
  have VB := Lib.hid ((vl_iff b).1 hvb)
  have hna := VA.out.1
  have hnb := VB.out.1
  have hla := lgV_range a
  have hlb := lgV_range b
  have hlga := Lib.hid (lgV_yes hva)
  have hlgb := Lib.hid (lgV_yes hvb)
  rw [hva] at CA
  rw [hvb] at CB
  clear hva hvb hv
  by_cases h6 : 262144 < a.length + b.length
  · have HL := Lib.hid (H6.out h6)
    have h6' : (262144 : Int) < a.length + b.length := by omega
    clear h6
    go_enter Try.func30, Try.ntmps30
    go_wp2_with (first
      | (go_at_call 20; first | ((with_reducible refine CA.out.mono ?_); rintro e1 w1 ⟨rfl, rfl⟩) | ((with_reducible refine CB.out.mono ?_); rintro e2 w2 ⟨rfl, rfl⟩)))
    go_returns
    exact RnRes.no HL.out (Below.refl _ _)
  have h6' : ¬ (262144 : Int) < a.length + b.length := by omega
  have HZ := Lib.hid (show 1099511627776 < lgV a + lgV b → jnR a b = ([], 2) from fun h => H2.out h6 h)
  have HJ := Lib.hid (show ¬ 1099511627776 < lgV a + lgV b → jnR a b = (jn (a ++ b), 0) from fun h => H0.out h6 h)
  have HVJ : Hid (lgV a + lgV b ≤ 1099511627776 → vl (a ++ b) = true) := Lib.hid fun h => (vl_iff _).2 ⟨by rw [List.length_append]; omega, by rw [gd_append]; exact ⟨VA.out.2.1, VB.out.2.1⟩, by rw [lg_append, ← hlga.out, ← hlgb.out]; exact h⟩
  clear H2 H0
  generalize lgV a = GA at *
  generalize lgV b = GB at *
  by_cases h2 : 1099511627776 < GA + GB
  · have HL := Lib.hid (HZ.out h2)
    go_enter Try.func30, Try.ntmps30
    go_wp2_with (first
      | (go_at_call 20; first | ((with_reducible refine CA.out.mono ?_); rintro e1 w1 ⟨rfl, rfl⟩) | ((with_reducible refine CB.out.mono ?_); rintro e2 w2 ⟨rfl, rfl⟩))
      | (go_at_call 21; first | ((with_reducible refine LA.out.mono ?_); rintro e1 w1 ⟨rfl, rfl⟩) | ((with_reducible refine LB.out.mono ?_); rintro e2 w2 ⟨rfl, rfl⟩)))
    go_returns
    exact RnRes.no HL.out (Below.refl _ _)
  have HL := Lib.hid (HJ.out h2)
  have HVV := Lib.hid (HVJ.out (by omega))
  have C3 := Lib.hid (fun V w' h => refJoined_any (a ++ b) V w' h HVV.out)
  clear h6 HZ HJ HVJ
  go_enter Try.func30, Try.ntmps30
  go_wp2_with (first
    | (go_at_call 20; first | ((with_reducible refine CA.out.mono ?_); rintro e1 w1 ⟨rfl, rfl⟩) | ((with_reducible refine CB.out.mono ?_); rintro e2 w2 ⟨rfl, rfl⟩))
    | (go_at_call 21; first | ((with_reducible refine LA.out.mono ?_); rintro e1 w1 ⟨rfl, rfl⟩) | ((with_reducible refine LB.out.mono ?_); rintro e2 w2 ⟨rfl, rfl⟩))
    | (at_make; go_must (refine wpList_room_k (n := a.length + b.length) (enc := rnC) Try.underlying22 run_info rfl _ _ rfl rfl rfl (by simp) (by omega) (by omega) (Nat.le_refl _) ?_; intro w5 R5 b5; have R6 := Lib.hid R5; have B5 := Lib.hid b5; clear R5 b5))
    | (at_builtin; go_must (first
        | (refine wpList_append_arg (o := ⟨some 35, _, _, _, _, _⟩) Try.underlying22 run_info rfl (by omega) rnC_size rnC_one rfl (.tmp 33) (.tmp 34) rfl rfl rfl R6.out (HT.out _ B5.out) B5.out.size (by simp; omega) (by simp; omega) ?_; intro v6 w6 R7 b6; have R8 := Lib.hid R7; have B6 := Lib.hid (B5.out.trans b6); clear R7 b6; obtain ⟨UA, UN, UC, rfl, hUN⟩ := R8.out.form; clear hUN)
        | (refine wpList_append_arg (o := ⟨some 38, _, _, _, _, _⟩) Try.underlying22 run_info rfl (by omega) rnC_size rnC_one rfl (.tmp 36) (.tmp 37) rfl rfl rfl R8.out (HU.out _ B6.out) B6.out.size (by simp; omega) (by simp; omega) ?_; intro v7 w7 R9 b7; have RA := Lib.hid (KRow.arg rnC_size R9); have B7 := Lib.hid (B6.out.trans b7); clear R9 b7; rw [List.nil_append] at RA)))
    | (go_at_call 37; go_must (refine (C3.out _ _ RA.out).mono ?_; rintro e8 w8 ⟨v8, rfl, r8, b8⟩)))
  go_returns
  exact RnRes.yes HL.out (r8.mono B7.out.size) (B7.out.trans (b8.mono B7.out.size))


set_option maxRecDepth 100000 in
set_option maxHeartbeats 8000000 in
theorem refFrom_any (v : Int) (q : List Int) (V : Value) (n : Int) (w : World) (hT : InArg w V q) : Calls Try.prog 31 #[.int .i64 v, V, .int .i64 n] w (RnRes (feR v q n) w) := by
  obtain ⟨A, c, rfl, hA⟩ := hT
  have HA := Lib.hid hA
  clear hA
  by_cases hv : ¬ (v = 0 ∨ v = 1)
  · have HL := Lib.hid (feR_1 (n := n) (q := q) hv)
    have e0 : (v != 0) = true := by simp; omega
    have e1 : (v != 1) = true := by simp; omega
    clear hv HA
    go_enter Try.func31, Try.ntmps31
    go_wp2
    go_returns
    exact RnRes.no HL.out (Below.refl _ _)
  replace hv := Decidable.not_not.1 hv
  have HVV := Lib.hid hv
  have hv0 : 0 ≤ v := by omega
  have hv1 : v ≤ 1 := by omega
  have e0 : (v != 0) = false ∨ ((v != 0) = true ∧ (v != 1) = false) := by
    rcases hv with rfl | rfl
    · exact .inl rfl
    · exact .inr ⟨rfl, rfl⟩
  by_cases hn : n < 0
  · have HL := Lib.hid (feR_2 (q := q) hv (.inl hn))
    have d1 : decide (n < 0) = true := decide_eq_true hn
    clear hv HA
    rcases e0 with e0 | ⟨e0, e1⟩
    all_goals
      go_enter Try.func31, Try.ntmps31
      go_wp2
      go_returns
      exact RnRes.no HL.out (Below.refl _ _)
  have d1 : decide (n < 0) = false := decide_eq_false hn
  by_cases hn2 : 1099511627776 < n
  · have HL := Lib.hid (feR_2 (q := q) hv (.inr hn2))
    have d2 : decide (1099511627776 < n) = true := decide_eq_true hn2
    clear hv HA
    rcases e0 with e0 | ⟨e0, e1⟩
    all_goals
      go_enter Try.func31, Try.ntmps31
      go_wp2
      go_returns
      exact RnRes.no HL.out (Below.refl _ _)
  have d2 : decide (1099511627776 < n) = false := decide_eq_false hn2
  have hrg : ¬ (n < 0 ∨ 1099511627776 < n) := by omega
  by_cases hq : 262144 ≤ q.length
  · have HL := Lib.hid (feR_6 hv hrg hq)
    have hq' : (262144 : Int) ≤ q.length := by omega
    have d3 : decide ((262144 : Int) ≤ q.length) = true := decide_eq_true hq'
    clear hv HA hrg
    rcases e0 with e0 | ⟨e0, e1⟩
    all_goals
      go_enter Try.func31, Try.ntmps31
      go_wp2
      go_returns
      exact RnRes.no HL.out (Below.refl _ _)
  have hq' : ¬ (262144 : Int) ≤ q.length := by omega
  have d3 : decide ((262144 : Int) ≤ q.length) = false := decide_eq_false hq'
  have H7 := Lib.hid (fun h => feR_7 hv hrg hq h)
  have H0 := Lib.hid (fun h => feR_0 hv hrg hq h)
  clear hv hrg
  rcases e0 with e0 | ⟨e0, e1⟩
  all_goals
    go_enter Try.func31, Try.ntmps31
    go_wp2
    go_loop [9, 8] (fun i s => ∃ j : Nat, j ≤ q.length ∧ i = .int .i64 j ∧ s = .int .i64 (le' 0 (q.take j)) ∧ Hid (oe 0 (q.take j) n = true)) (fun i _ => q.length - (intOf i).toNat)
    case atStart => exact ⟨0, Nat.zero_le _, rfl, rfl, Lib.hid rfl⟩
    case round =>
      obtain ⟨j, hj, rfl, rfl, HO⟩ := hrel
      by_cases hjl : j < q.length
      · obtain ⟨g, o, rfl, hg, hc⟩ := HA.out (by omega)
        have f0 := arg_int hc j hjl
        have hot := oe_take hjl HO.out
        have hbd := Lib.hid (fun h => H7.out (oe_bad (q := q) (j := j + 1) h))
        have hlt1 := Lib.hid (le_take (q := q) hjl 0)
        clear hc
        obtain ⟨x0, hx0⟩ : ∃ x, q[j] = x := ⟨_, rfl⟩
        rw [hx0] at f0 hot hlt1
        clear hx0
        generalize le' 0 (q.take j) = S at *
        by_cases c1 : x0 ≤ S
        · have d4 : decide (x0 ≤ S) = true := decide_eq_true c1
          have HL := Lib.hid (hbd.out (by rw [hot, decide_eq_false (by omega)]; rfl))
          clear hot
          go_wp2
          go_returns
          exact RnRes.no HL.out (Below.refl _ _)
        have d4 : decide (x0 ≤ S) = false := decide_eq_false c1
        by_cases c2 : n ≤ x0
        · have d5 : decide (n ≤ x0) = true := decide_eq_true c2
          have HL := Lib.hid (hbd.out (by rw [hot, decide_eq_false (show ¬ x0 < n by omega), Bool.and_false]))
          clear hot
          go_wp2
          go_returns
          exact RnRes.no HL.out (Below.refl _ _)
        have d5 : decide (n ≤ x0) = false := decide_eq_false c2
        have HO2 := Lib.hid (show oe 0 (q.take (j + 1)) n = true by rw [hot, decide_eq_true (by omega), decide_eq_true (by omega)]; rfl)
        clear hot
        go_wp2
        go_round
        case rel => exact ⟨j + 1, by omega, val_int (by omega), val_int hlt1.out.symm, HO2⟩
        case measure => simp [intOf]; omega
      · have he : q.take j = q := List.take_of_length_le (by omega)
        have HOO := Lib.hid (show oe 0 q n = true by rw [← he]; exact HO.out)
        have HL := Lib.hid (H0.out HOO.out)
        clear he HO
        go_wp2
        go_loopw [12, 10, 11, 8] (fun i r x s wr => ∃ j : Nat, j ≤ q.length ∧ i = .int .i64 j ∧ x = .int .i64 (lv v (q.take j)) ∧ s = .int .i64 (le' 0 (q.take j)) ∧ Hid (RnRow wr w.heap.size r (fp v 0 (q.take j))) ∧ Hid (Below w.heap.size w wr)) (fun i _ _ _ _ => q.length - (intOf i).toNat)
        case atStart => exact ⟨0, Nat.zero_le _, rfl, rfl, rfl, Lib.hid (KRow.lit rnC_size w w.heap.size (Nat.le_refl _) [] #[] rfl 0 rfl (by simp)), Lib.hid (ba w _)⟩
        case round =>
          obtain ⟨k, hk, rfl, rfl, rfl, HR, HB⟩ := hrel
          have hb := HB.out
          have hoe : oe 0 (q.take k) n = true := oe_append (q.take k) (q.drop k) 0 n (by rw [List.take_append_drop]; exact HOO.out)
          have hlr := le_range (q.take k) 0 n hoe (by omega)
          have hlv := lv_one (q.take k) v HVV.out
          have hfl := fp_len (q.take k) v 0
          have hfl2 : (fp v 0 (q.take k)).length ≤ 262144 := by rw [hfl, List.length_take]; omega
          clear hfl
          by_cases hkl : k < q.length
          · obtain ⟨g, o, rfl, hg, hc⟩ := HA.out (by omega)
            have a0 := arg_int hc k hkl
            have f0 := (hb.cell (p := ⟨g, o + k, none⟩) hg).trans a0
            have hoe1 : oe 0 (q.take (k + 1)) n = true := oe_append (q.take (k + 1)) (q.drop (k + 1)) 0 n (by rw [List.take_append_drop]; exact HOO.out)
            have hot := oe_take hkl hoe
            rw [hoe1] at hot
            have hlt1 := Lib.hid (le_take (q := q) hkl 0)
            have hlt2 := Lib.hid (lv_take (q := q) hkl v)
            have hlt3 := Lib.hid (fp_take (q := q) hkl v)
            obtain ⟨x0, hx0⟩ : ∃ x, q[k] = x := ⟨_, rfl⟩
            rw [hx0] at f0 hot hlt1 hlt3
            have hot2 := hot.symm
            rw [Bool.and_eq_true, decide_eq_true_eq, decide_eq_true_eq] at hot2
            clear a0 hc hx0 hoe hoe1 hot
            generalize le' 0 (q.take k) = S at *
            generalize lv v (q.take k) = L at *
            generalize fp v 0 (q.take k) = E at *
            have hL0 : 0 ≤ L := by omega
            have hL1 : L ≤ 1 := by omega
            clear hlv
            obtain ⟨UA, UN, UC, rfl, hUN⟩ := HR.out.form
            clear hUN
            go_wp2_with (first
              | (at_builtin; go_must (refine wpList_append_rn rfl _ _ rfl rfl rfl rfl rfl HR.out hb.size (by omega) ?_; intro v5 w5 R5 b5; have m5 := (b5.cell (p := ⟨g, o + k, none⟩) hg).trans f0)))
            go_roundw
            case rel => exact ⟨k + 1, by omega, val_int (by omega), val_int hlt2.out.symm, val_int hlt1.out.symm, Lib.hid (by rw [hlt3.out]; exact R5), Lib.hid (hb.trans b5)⟩
            case measure => simp [intOf]; omega
          · have he : q.take k = q := List.take_of_length_le (by omega)
            have HF := Lib.hid (show fe v 0 q n = fp v 0 (q.take k) ++ (if le' 0 (q.take k) < n then [(lv v (q.take k), n - le' 0 (q.take k))] else []) by rw [he]; rfl)
            clear he hoe
            generalize le' 0 (q.take k) = S at *
            generalize lv v (q.take k) = L at *
            generalize fp v 0 (q.take k) = E at *
            by_cases c1 : S < n
            · have HG := Lib.hid (show fe v 0 q n = E ++ [(L, n - S)] by rw [HF.out, if_pos c1])
              obtain ⟨UA, UN, UC, rfl, hUN⟩ := HR.out.form
              clear hUN hlv HF
              go_wp2_with (first
                | (at_builtin; go_must (refine wpList_append_rn rfl _ _ rfl rfl rfl rfl rfl HR.out hb.size (by omega) ?_; intro v5 w5 R5 b5)))
              go_returns
              exact RnRes.yes HL.out (by rw [HG.out]; exact R5) (hb.trans b5)
            · have HG := Lib.hid (show fe v 0 q n = E by rw [HF.out, if_neg c1, List.append_nil])
              clear hlv HF
              go_wp2
              go_returns
              exact RnRes.yes HL.out (by rw [HG.out]; exact HR.out) hb

end Go.Proofs.Ytpingfcmgffboaa
