/-
  The specification's Insert.
-/
import Derived.Test.YtemmljngglnccaaT6
import Derived.Test.YtemmljngglnccaaW8
import Derived.Test.YtemmljngglnccaaW7
namespace Go.Proofs.Ytemmljngglnccaa
open Go Go.RowKit Go.Joins
set_option linter.unusedVariables false
set_option linter.unusedSimpArgs false

set_option maxRecDepth 100000 in
set_option maxHeartbeats 8000000 in
theorem refInsert_any (l : List Rn) (a t : Int) (V : Value) (w : World) (hT : RnArg w V l) (ha : a ≤ 9223372036854775807) (ht : t ≤ 9223372036854775807) (hlen : l.length ≤ 80000) :
    Calls Try.prog 21 #[V, .int .i64 a, .int .i64 t] w (RnRes (inR l a t) w) := by
  have HV := Lib.hid (refValid_any l V w hT)
  cases hv : vl l with
  | false =>
    rw [hv] at HV
    have HX := Lib.hid (inR_1 (l := l) (a := a) (t := t) (by rw [hv]; decide))
    obtain ⟨A, c, rfl⟩ := hT.form
    clear hT hv
    generalize inR l a t = RR at *
    go_enter Try.func21, Try.ntmps21
    go_wp2_with (first
      | (go_at_call 22; go_must (refine HV.out.mono ?_; rintro e0 w0 ⟨rfl, rfl⟩)))
    go_returns
    exact RnRes.no HX.out (Below.refl _ _)
  | true =>
  rw [hv] at HV
  have HLo := Lib.hid (refLong_any l V w hT)
  rw [lgV_yes hv] at HLo
  have hG := (vl_iff _).1 hv
  have hG0 := gd_nonneg hG.2.1
  have hG1 := hG.2.2
  have HS1 := Lib.hid (fun w' (hb : Below w.heap.size w w') => refSlice_any l V 0 a w' (hT.keep hb))
  have HS2 := Lib.hid (fun w' (hb : Below w.heap.size w w') => refSlice_any l V a (a + t) w' (hT.keep hb))
  have HS3 := Lib.hid (fun w' (hb : Below w.heap.size w w') => refSlice_any l V (a + t) (lg l) w' (hT.keep hb))
  rw [slV_yes hv] at HS1 HS2 HS3
  have hs2 : vl (sl 0 l a (a + t)) = true := by have := slV_vl l a (a + t); rwa [slV_yes hv] at this
  have HIv := Lib.hid (fun V W (h : RnArg W V (sl 0 l a (a + t))) => by have := refInvert_any (sl 0 l a (a + t)) V W h; rw [ivV_yes hs2] at this; exact this)
  have hX2 := inR_2 (l := l) (a := a) (t := t) hv
  have hX0 := inR_0 (l := l) (a := a) (t := t) hv
  have hol := out_len l a t
  have hog := fun h0 h1 h2 => out_good (l := l) (a := a) (t := t) hG.2.1 h0 h1 h2
  have hjl := jn_len (outW l a t)
  have hl1 := sl_len l 0 0 a
  have hl2 := sl_len l 0 a (a + t)
  have hl3 := sl_len l 0 (a + t) (lg l)
  have hO : outW l a t = sl 0 l 0 a ++ iv (sl 0 l a (a + t)) ++ sl 0 l (a + t) (lg l) := rfl
  have hil := iv_len (sl 0 l a (a + t))
  obtain ⟨A, c, rfl⟩ := hT.form
  clear hT hv hs2
  generalize inR l a t = RR at *
  generalize outW l a t = O at *
  generalize lg l = G at *
  generalize sl 0 l 0 a = S1 at *
  generalize iv (sl 0 l a (a + t)) = I2 at *
  generalize sl 0 l a (a + t) = S2 at *
  generalize sl 0 l (a + t) G = S3 at *
  by_cases c1 : a < 0
  · have HX := Lib.hid (hX2 (by omega))
    clear hX2 hX0 hog hG hO
    go_enter Try.func21, Try.ntmps21
    go_wp2_with (first
      | (go_at_call 22; go_must (refine HV.out.mono ?_; rintro e0 w0 ⟨rfl, rfl⟩))
      | (go_at_call 39; go_must (refine HLo.out.mono ?_; rintro e1 w1 ⟨rfl, rfl⟩)))
    go_returns
    exact RnRes.no HX.out (Below.refl _ _)
  by_cases c2 : G < a
  · by_cases c3 : t < 1
    · have HX := Lib.hid (hX2 (by omega))
      clear hX2 hX0 hog hG hO
      go_enter Try.func21, Try.ntmps21
      go_wp2_with (first
        | (go_at_call 22; go_must (refine HV.out.mono ?_; rintro e0 w0 ⟨rfl, rfl⟩))
        | (go_at_call 39; go_must (refine HLo.out.mono ?_; rintro e1 w1 ⟨rfl, rfl⟩)))
      go_returns
      exact RnRes.no HX.out (Below.refl _ _)
    have HX := Lib.hid (hX2 (by omega))
    clear hX2 hX0 hog hG hO
    go_enter Try.func21, Try.ntmps21
    go_wp2_with (first
      | (go_at_call 22; go_must (refine HV.out.mono ?_; rintro e0 w0 ⟨rfl, rfl⟩))
      | (go_at_call 39; go_must (refine HLo.out.mono ?_; rintro e1 w1 ⟨rfl, rfl⟩)))
    go_returns
    exact RnRes.no HX.out (Below.refl _ _)
  by_cases c3 : t < 1
  · have HX := Lib.hid (hX2 (by omega))
    clear hX2 hX0 hog hG hO
    go_enter Try.func21, Try.ntmps21
    go_wp2_with (first
      | (go_at_call 22; go_must (refine HV.out.mono ?_; rintro e0 w0 ⟨rfl, rfl⟩))
      | (go_at_call 39; go_must (refine HLo.out.mono ?_; rintro e1 w1 ⟨rfl, rfl⟩)))
    go_returns
    exact RnRes.no HX.out (Below.refl _ _)
  have w1' := IntWalk.i64_in (G - a) (by omega)
  by_cases c4 : G - a < t
  · have HX := Lib.hid (hX2 (by omega))
    clear hX2 hX0 hog hG hO
    go_enter Try.func21, Try.ntmps21
    go_wp2_with (first
      | (go_at_call 22; go_must (refine HV.out.mono ?_; rintro e0 w0 ⟨rfl, rfl⟩))
      | (go_at_call 39; go_must (refine HLo.out.mono ?_; rintro e1 w1 ⟨rfl, rfl⟩)))
    go_returns
    exact RnRes.no HX.out (Below.refl _ _)
  have HL := Lib.hid (hX0 (by omega) (by omega))
  obtain ⟨o1, o2, _⟩ := hog (by omega) (by omega) (by omega)
  have HV2 := Lib.hid (show vl O = true from (vl_iff _).2 ⟨by omega, o1, by omega⟩)
  have HG := Lib.hid o1
  have HLN := Lib.hid (show S1.length + I2.length + S3.length ≤ 262144 by omega)
  have h1 : O.length ≤ 262144 := by omega
  have HO := Lib.hid hO
  have w2' := IntWalk.i64_in (a + t) (by omega)
  have K0 := Lib.hid (KRow.lit (T := 48) rnC_size w w.heap.size (Nat.le_refl _) [] #[] rfl 0 rfl (by decide))
  have B0 := Lib.hid (ba w (.cells #[] 48))
  clear hX2 hX0 hog hG hO o1 o2 hol hjl hl1 hl2 hl3 hil
  go_enter Try.func21, Try.ntmps21
  go_wp2_with (first
    | (go_at_call 22; go_must (refine HV.out.mono ?_; rintro e0 w0 ⟨rfl, rfl⟩))
    | (go_at_call 39; go_must (refine HLo.out.mono ?_; rintro e1 w1 ⟨rfl, rfl⟩))
    | (go_at_call 40; go_must (first
        | ((with_reducible refine (HS1.out _ B0.out).mono ?_); rintro e2 w2 ⟨v2, rfl, r, b⟩; obtain ⟨A2, N2, C2, rfl, hN2⟩ := KRow.form r; clear hN2; have AR1 := Lib.hid (KRow.arg rnC_size r); have K1 := Lib.hid (K0.out.keep b); have B1 := Lib.hid (B0.out.trans (b.mono B0.out.size)); clear r b)
        | ((with_reducible refine (HS2.out _ B2.out).mono ?_); rintro e4 w4 ⟨v4, rfl, r, b⟩; obtain ⟨A4, N4, C4, rfl, hN4⟩ := KRow.form r; clear hN4; have AR2 := Lib.hid (KRow.arg rnC_size r); have R2 := Lib.hid (R1.out.keep b); have B3 := Lib.hid (B2.out.trans (b.mono B2.out.size)); clear r b)
        | ((with_reducible refine (HS3.out _ B5.out).mono ?_); rintro e8 w8 ⟨v8, rfl, r, b⟩; obtain ⟨A8, N8, C8, rfl, hN8⟩ := KRow.form r; clear hN8; have AR4 := Lib.hid (KRow.arg rnC_size r); have R5 := Lib.hid (R4.out.keep b); have B6 := Lib.hid (B5.out.trans (b.mono B5.out.size)); clear r b)))
    | (go_at_call 41; go_must ((refine (HIv.out _ _ AR2.out).mono ?_); rintro e5 w5 ⟨v5, rfl, r, b⟩; obtain ⟨A5, N5, C5, rfl, hN5⟩ := KRow.form r; clear hN5; have AR3 := Lib.hid (KRow.arg rnC_size r); have R3 := Lib.hid (R2.out.keep b); have B4 := Lib.hid (B3.out.trans (b.mono B3.out.size)); clear r b))
    | (at_builtin; go_must (first
        | (refine wpList_append_arg (o := ⟨some 40, _, _, _, _, _⟩) Try.underlying22 run_info rfl (by omega) rnC_size rnC_one rfl (.tmp 36) (.tmp 39) rfl rfl rfl K1.out AR1.out B1.out.size (by simp only [List.length_append, List.length_nil, List.length_cons]; have := HLN.out; omega) (by simp only [List.length_append, List.length_nil, List.length_cons]; have := HLN.out; omega) ?_; intro v3 w3 r b; obtain ⟨A3, N3, C3, rfl, hN3⟩ := KRow.form r; clear hN3; have R1 := Lib.hid r; have B2 := Lib.hid (B1.out.trans b); clear r b)
        | (refine wpList_append_arg (o := ⟨some 49, _, _, _, _, _⟩) Try.underlying22 run_info rfl (by omega) rnC_size rnC_one rfl (.tmp 41) (.tmp 48) rfl rfl rfl R3.out AR3.out B4.out.size (by simp only [List.length_append, List.length_nil, List.length_cons]; have := HLN.out; omega) (by simp only [List.length_append, List.length_nil, List.length_cons]; have := HLN.out; omega) ?_; intro v6 w6 r b; obtain ⟨A6, N6, C6, rfl, hN6⟩ := KRow.form r; clear hN6; have R4 := Lib.hid r; have B5 := Lib.hid (B4.out.trans b); clear r b)
        | (refine wpList_append_arg (o := ⟨some 57, _, _, _, _, _⟩) Try.underlying22 run_info rfl (by omega) rnC_size rnC_one rfl (.tmp 50) (.tmp 56) rfl rfl rfl R5.out AR4.out B6.out.size (by simp only [List.length_append, List.length_nil, List.length_cons]; have := HLN.out; omega) (by simp only [List.length_append, List.length_nil, List.length_cons]; have := HLN.out; omega) ?_; intro v7 w7 r b; obtain ⟨A7, N7, C7, rfl, hN7⟩ := KRow.form r; clear hN7; have R6 := Lib.hid r; have B7 := Lib.hid (B6.out.trans b); clear r b))))
  have HA0 := KRow.arg rnC_size R6.out
  rw [List.nil_append, ← HO.out] at HA0
  have HR1 := Lib.hid (show RnRow (w7.alloc (.cells #[] 48)) w7.heap.size (.slice (some ⟨w7.heap.size, 0, none⟩) 0 0) (jn (O.take 0)) from KRow.lit (T := 48) rnC_size w7 w7.heap.size (Nat.le_refl _) [] #[] rfl 0 rfl (by decide))
  have HB1 := Lib.hid (ba w7 (.cells #[] 48))
  obtain ⟨A9, c9, e9, hA⟩ := HA0
  obtain ⟨rfl, rfl, rfl⟩ := Value.slice.inj e9
  have HA := Lib.hid hA
  have HV := HV2
  clear hA e9 R6 R5 R4 R3 R2 R1 K0 K1 AR1 AR2 AR3 AR4 HS1 HS2 HS3 HIv HV2 HLo HO
  go_loopw [11, 10] (fun i r wr => ∃ j : Nat, j ≤ O.length ∧ i = .int .i64 j ∧ Hid (RnRow wr w7.heap.size r (jn (O.take j))) ∧ Hid (Below w7.heap.size w7 wr)) (fun i _ _ => O.length - (intOf i).toNat)
  case atStart => exact ⟨0, Nat.zero_le _, rfl, HR1, HB1⟩
  case round =>
    obtain ⟨j, hj, rfl, HR, HB⟩ := hrel
    have hb := HB.out
    by_cases hjl : j < O.length
    · obtain ⟨g, o, rfl, hg, hc⟩ := HA.out (by omega)
      obtain ⟨a0, a1⟩ := arg_two hc j hjl
      have f0 := (hb.cell (p := ⟨g, o + j * 2, none⟩) hg).trans a0
      have f1 := (hb.cell (p := ⟨g, o + j * 2 + 1, none⟩) hg).trans a1
      have hx := el_range HV.out j hjl
      have htk := jn_take O j hjl
      have hM : lg (jn (O.take (j + 1))) ≤ 1099511627776 := by rw [jn_lg]; exact (lg_take_range HV.out (j + 1)).2
      have hgJ := jn_gd (gd_take HG.out j)
      have hjlen : (jn (O.take j)).length ≤ j := Nat.le_trans (jn_len _) (by rw [List.length_take]; omega)
      clear a0 a1 hc
      have hjl2 : (O[j].1, O[j].2) = O[j] := rfl
      rw [← hjl2] at htk
      have HJ : ∀ J, jn (O.take j) = J → Hid (jn (O.take (j + 1)) = pt J (O[j].1, O[j].2)) := fun J h => Lib.hid (by rw [← h]; exact htk)
      clear hjl2 htk
      generalize O[j].1 = x0 at *
      generalize O[j].2 = x1 at *
      obtain ⟨hx0, hx1, hx2⟩ := hx
      rcases nil_or_snoc (jn (O.take j)) with hJ | ⟨q, y, hJ⟩
      · have HP := Lib.hid (show jn (O.take (j + 1)) = [(x0, x1)] by rw [(HJ _ hJ).out]; rfl)
        rw [hJ] at HR
        obtain ⟨UA, UN, UC, rfl, hUN⟩ := HR.out.form
        obtain rfl : UN = 0 := hUN
        clear HJ hM hgJ hJ hjlen
        go_wp2
        go_quiet (fail)
        go_wp2_with (first
          | (at_builtin; go_must (refine wpList_append_rn rfl _ _ rfl rfl rfl rfl rfl (HR.out.drewN _) (le_drewN hb.size _) (by simp) ?_; intro v5 w5 R5 b5)))
        go_roundw
        case rel => exact ⟨j + 1, by omega, val_int (by omega), Lib.hid (by rw [HP.out]; exact R5), Lib.hid (by repeat' (first | with_reducible exact Below.refl _ _ | with_reducible exact Nat.le_refl _ | with_reducible assumption | with_reducible refine below_drewN ?_ _ | with_reducible refine Below.drew ?_ | with_reducible refine Below.trans ?_ (Below.mono (by assumption) ?_) | with_reducible refine Below.alloc ?_ ?_ _ | with_reducible refine Below.setCell ?_ ?_ _ | with_reducible refine le_setCell ?_ _ _ | with_reducible refine le_alloc ?_ _ | with_reducible refine le_drewN ?_ _ | with_reducible refine le_drew ?_ | with_reducible refine Nat.le_trans ?_ (Below.size (by assumption)) | (simp only [World.size_alloc, World.size_setCell]; omega)))⟩
        case measure => simp [intOf]; omega
      · obtain ⟨y0, y1⟩ := y
        rw [hJ] at HR hjlen
        obtain ⟨G, C, rfl⟩ := HR.out.full (by simp)
        have hK : (q ++ [(y0, y1)]).length = q.length + 1 := by simp
        have HR0 := HR
        rw [hK] at HR hjlen
        obtain ⟨c0, c1, z0, z1⟩ := RnRow.two HR.out q.length (by simp)
        simp only [List.getElem_concat_length] at c0 c1
        rw [hJ, gd_append] at hgJ
        have hy := hgJ.2 (y0, y1) (by simp)
        have ho := gd_nonneg hgJ.1
        have hp := (HJ _ hJ).out
        rw [pt_snoc] at hp
        have hG := HR.out.len
        have hG1 := hG.2.2.1
        have HX := Lib.hid (RnRow.set1 HR.out q.length (by simp) y0 (y1 + x1) (by simp))
        have hset : (q ++ [(y0, y1)]).set q.length (y0, y1 + x1) = q ++ [(y0, y1 + x1)] := by simp
        rw [hset] at HX
        clear hgJ HJ hG hK hset hJ
        obtain ⟨hy0, hy1⟩ := hy
        simp only at hy0 hy1
        by_cases hxy : y0 = x0
        · rw [if_pos hxy] at hp
          simp only at hp
          rw [hp, lg_append, lg_one] at hM
          simp only at hM
          have HP := Lib.hid hp
          have hsum : y1 + x1 ≤ 1099511627776 := by omega
          subst hxy
          clear hM hp ho
          have v1 : IntKind.i64.wrap (q.length : Int) = q.length := IntWalk.i64_in _ (by omega)
          have v2 : IntKind.i64.wrap (y1 + x1) = y1 + x1 := IntWalk.i64_in _ (by omega)
          go_wp2
          go_quiet (fail)
          have HBW := Lib.hid (below_drewN HB.out nq)
          have e0 : (wr.drewN nq).cell? ⟨G, q.length * 2, none⟩ = some (.int .i64 y0) := c0
          have e1 : (wr.drewN nq).cell? ⟨G, q.length * 2 + 1, none⟩ = some (.int .i64 y1) := c1
          have e2 : (wr.drewN nq).frozen? ⟨G, q.length * 2 + 1, none⟩ = false := z1
          have e3 : (wr.drewN nq).cell? ⟨g, o + j * 2, none⟩ = some (.int .i64 y0) := f0
          have e4 : (wr.drewN nq).cell? ⟨g, o + j * 2 + 1, none⟩ = some (.int .i64 x1) := f1
          have HXW : Hid (RnRow ((wr.drewN nq).drew.setCell ⟨G, q.length * 2 + 1, none⟩ (.int .i64 (y1 + x1))) w7.heap.size (.slice (some ⟨G, 0, none⟩) (q.length + 1) C) (q ++ [(y0, y1 + x1)])) := Lib.hid HX.out
          clear c0 c1 z0 z1 f0 f1 hb HX HR HB
          generalize wr.drewN nq = W at *
          have hi1 : (q.length : Int) < (q.length : Int) + 1 := by omega
          go_wp2
          go_still_tail 15, (by kernel_rfl)
          change wpList _ _ _ _ _ W.drew
          have e0 : W.drew.cell? ⟨G, q.length * 2, none⟩ = some (.int .i64 y0) := e0
          have e1 : W.drew.cell? ⟨G, q.length * 2 + 1, none⟩ = some (.int .i64 y1) := e1
          have e2 : W.drew.frozen? ⟨G, q.length * 2 + 1, none⟩ = false := e2
          have HBD := Lib.hid (Below.drew HBW.out)
          generalize W.drew = w2 at *
          go_wp2
          go_roundw
          case rel => exact ⟨j + 1, by omega, val_int (by omega), Lib.hid (by rw [HP.out]; exact HXW.out), Lib.hid (Below.setCell HBD.out hG1 _)⟩
          case measure => simp [intOf]; omega
        · rw [if_neg hxy] at hp
          have HP := Lib.hid hp
          have hne : (y0 == x0) = false := by simpa using hxy
          have hqn := Lib.hid (show (q ++ [(y0, y1)]).length + 1 ≤ 4398046511104 by rw [List.length_append]; simp only [List.length_cons, List.length_nil]; omega)
          clear hM hp ho HX hxy
          have v1 : IntKind.i64.wrap (q.length : Int) = q.length := IntWalk.i64_in _ (by omega)
          go_wp2
          go_quiet (fail)
          go_wp2_with (first
            | (at_builtin; go_must (refine wpList_append_rn (l := q ++ [(y0, y1)]) rfl _ _ rfl rfl rfl rfl rfl (by first | exact HR0.out.drewN _ | exact HR.out.drewN _) (le_drewN (Below.size HB.out) _) hqn.out ?_; intro v5 w5 R5 b5)))
          go_roundw
          case rel => exact ⟨j + 1, by omega, val_int (by omega), Lib.hid (by rw [HP.out]; exact R5), Lib.hid (by repeat' (first | with_reducible exact Below.refl _ _ | with_reducible exact Nat.le_refl _ | with_reducible assumption | with_reducible refine below_drewN ?_ _ | with_reducible refine Below.drew ?_ | with_reducible refine Below.trans ?_ (Below.mono (by assumption) ?_) | with_reducible refine Below.alloc ?_ ?_ _ | with_reducible refine Below.setCell ?_ ?_ _ | with_reducible refine le_setCell ?_ _ _ | with_reducible refine le_alloc ?_ _ | with_reducible refine le_drewN ?_ _ | with_reducible refine le_drew ?_ | with_reducible refine Nat.le_trans ?_ (Below.size (by assumption)) | (simp only [World.size_alloc, World.size_setCell]; omega)))⟩
          case measure => simp [intOf]; omega
    · have he : O.take j = O := List.take_of_length_le (by omega)
      rw [he] at HR
      clear he
      obtain ⟨UA, UN, UC, rfl, hUN⟩ := HR.out.form
      have hn : UN ≤ 262144 := by have := jn_len O; omega
      have hn' : ¬ (262144 : Int) < (UN : Int) := by omega
      clear hUN hn
      go_wp2
      go_returns
      exact RnRes.yes HL.out (HR.out.mono B7.out.size) (B7.out.trans (hb.mono B7.out.size))

end Go.Proofs.Ytemmljngglnccaa
