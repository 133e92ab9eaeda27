/-
  The walks of the specification's cut, Slice, Join and FromEdges.
-/
import Derived.Test.YtemmljngglnccaaW7
import Derived.Test.YtemmljngglnccaaW6
namespace Go.Proofs.Ytemmljngglnccaa
open Go Go.RowKit Go.Joins
set_option linter.unusedVariables false
set_option linter.unusedSimpArgs false

/-- A tick that is not before 0 and not after the end. -/
def ct (a L : Int) : Int := if a < 0 then 0 else if L < a then L else a
theorem ct_range (a L : Int) (h : 0 ≤ L) : 0 ≤ ct a L ∧ ct a L ≤ L := by
  unfold ct; split
  · omega
  · split <;> omega
theorem s1_ct (S F T L : Int) (r : Rn) (h0 : 0 ≤ S) (h1 : 1 ≤ r.2) (hL : S + r.2 ≤ L) (lo hi : Int) (e1 : lo = max S (ct F L)) (e2 : hi = min (S + r.2) (ct T L)) :
    (lo < hi → s1 S r F T = [(r.1, hi - lo)]) ∧ (¬ lo < hi → s1 S r F T = []) := by
  have key : (lo < hi ↔ max S F < min (S + r.2) T) ∧ (lo < hi → min (S + r.2) T - max S F = hi - lo) := by
    subst e1 e2
    unfold ct
    by_cases c1 : F < 0 <;> by_cases c2 : L < F <;> by_cases c3 : T < 0 <;> by_cases c4 : L < T <;> simp only [c1, c2, c3, c4, if_true, if_false] <;> first | omega | (simp; done)
  constructor
  · intro h
    rw [s1_yes (key.1.1 h), key.2 h]
  · intro h
    exact s1_no (fun x => h (key.1.2 x))
theorem lg_take_le {l : List Rn} (h : gd l) (j : Nat) : lg (l.take j) ≤ lg l := by
  have := gd_nonneg (gd_drop h j)
  have := lg_split l j
  omega

set_option maxHeartbeats 1000000 in
theorem cut_any (a L : Int) (w : World) : Calls Try.prog 64 #[.int .i64 a, .int .i64 L] w fun e w' => e = .returned (.int .i64 (ct a L)) ∧ w = w' := by
  by_cases h1 : a < 0
  · have H := Lib.hid (show ct a L = 0 by unfold ct; rw [if_pos h1])
    go_enter Try.func64, Try.ntmps64
    go_wp2
    go_returns
    exact ⟨ret_int H.out.symm, rfl⟩
  by_cases h2 : L < a
  · have H := Lib.hid (show ct a L = L by unfold ct; rw [if_neg h1, if_pos h2])
    go_enter Try.func64, Try.ntmps64
    go_wp2
    go_returns
    exact ⟨ret_int H.out.symm, rfl⟩
  have H := Lib.hid (show ct a L = a by unfold ct; rw [if_neg h1, if_neg h2])
  go_enter Try.func64, Try.ntmps64
  go_wp2
  go_returns
  exact ⟨ret_int H.out.symm, rfl⟩

set_option maxRecDepth 100000 in
set_option maxHeartbeats 8000000 in
theorem refSlice_any (l : List Rn) (V : Value) (F T : Int) (w : World) (hT : RnArg w V l) : Calls Try.prog 40 #[V, .int .i64 F, .int .i64 T] w fun e w' => ∃ v : Value, e = .returned v ∧ RnRow w' w.heap.size v (slV l F T) ∧ Below w.heap.size w w' := by
  have CV := Lib.hid (fun w' h => refValid_any l V w' h)
  have CL := Lib.hid (refLong_any l V w hT)
  have CC := Lib.hid cut_any
  have HT := Lib.hid (fun w' (hb : Below w.heap.size w w') => hT.keep hb)
  have hrF := ct_range F (lgV l) (lgV_range l).1
  have hrT := ct_range T (lgV l) (lgV_range l).1
  have hrL := lgV_range l
  obtain ⟨A, c, rfl, hA⟩ := hT
  have HA := Lib.hid hA
  clear hA
  cases hv : vl l with
  | false =>
    have HL := Lib.hid (slV_no (l := l) (f := F) (t := T) (by rw [hv]; exact Bool.false_ne_true))
    rw [hv] at CV
    clear hv
    generalize lgV l = L at *
    go_enter Try.func40, Try.ntmps40
    go_wp2_with (first
      | (go_at_call 39; go_must (refine CL.out.mono ?_; rintro e1 w1 ⟨rfl, rfl⟩))
      | (go_at_call 64; go_must (refine (CC.out _ _ _).mono ?_; rintro e2 w2 ⟨rfl, rfl⟩))
      | (go_at_call 22; go_must (refine (CV.out _ (HT.out _ (ba w _))).mono ?_; rintro e1 w1 ⟨rfl, rfl⟩)))
    go_returns
    exact ⟨_, rfl, by rw [HL.out]; exact KRow.lit rnC_size w w.heap.size (Nat.le_refl _) [] #[] rfl 0 rfl (by simp), ba w _⟩
  | true =>
    have HL := Lib.hid (slV_yes (f := F) (t := T) hv)
    have HK := Lib.hid hv
    have hn := ((vl_iff l).1 hv).1
    have HG := Lib.hid ((vl_iff l).1 hv).2.1
    have HLL := Lib.hid (lgV_yes hv)
    have HS := Lib.hid (fun j => Nat.le_trans (sl_len (l.take j) 0 F T) (show (l.take j).length ≤ 262144 by rw [List.length_take]; omega))
    have HP := Lib.hid (fun j (hj : j < l.length) => s1_ct (lg (l.take j)) F T (lgV l) (l[j].1, l[j].2) (lg_take_range hv j).1 (el_range hv j hj).2.1 (by rw [lgV_yes hv]; have := lg_take_le ((vl_iff l).1 hv).2.1 (j + 1); rw [lg_take l j hj] at this; exact this))
    rw [hv] at CV
    clear hv
    generalize lgV l = L at *
    obtain ⟨a, hfa⟩ : ∃ a, ct F L = a := ⟨_, rfl⟩
    obtain ⟨b, htb⟩ : ∃ b, ct T L = b := ⟨_, rfl⟩
    have CF := Lib.hid (fun w => by have := CC.out F L w; rw [hfa] at this; exact this)
    have CT := Lib.hid (fun w => by have := CC.out T L w; rw [htb] at this; exact this)
    have HP2 : Hid (∀ j (hj : j < l.length) (lo hi : Int), lo = max (lg (l.take j)) a → hi = min (lg (l.take j) + l[j].2) b → (lo < hi → s1 (lg (l.take j)) (l[j].1, l[j].2) F T = [(l[j].1, hi - lo)]) ∧ (¬ lo < hi → s1 (lg (l.take j)) (l[j].1, l[j].2) F T = [])) := Lib.hid (fun j hj lo hi e1 e2 => HP.out j hj lo hi (by rw [hfa]; exact e1) (by rw [htb]; exact e2))
    rw [hfa] at hrF
    rw [htb] at hrT
    clear hfa htb HP CC
    go_enter Try.func40, Try.ntmps40
    go_wp2_with (first
      | (go_at_call 39; go_must (refine CL.out.mono ?_; rintro e1 w1 ⟨rfl, rfl⟩))
      | (go_at_call_of 64 (Value.int .i64 F); (with_reducible refine (CF.out _).mono ?_); rintro e2 w2 ⟨rfl, rfl⟩)
      | (go_at_call_of 64 (Value.int .i64 T); (with_reducible refine (CT.out _).mono ?_); rintro e2 w2 ⟨rfl, rfl⟩)
      | (go_at_call 22; go_must (refine (CV.out _ (HT.out _ (ba w _))).mono ?_; rintro e1 w1 ⟨rfl, rfl⟩)))
    go_loopw [12, 10, 11] (fun i r s wr => ∃ j : Nat, j ≤ l.length ∧ i = .int .i64 j ∧ s = .int .i64 (lg (l.take j)) ∧ Hid (RnRow wr w.heap.size r (sl 0 (l.take j) F T)) ∧ Hid (Below w.heap.size w wr)) (fun i _ _ _ => l.length - (intOf i).toNat)
    case atStart => exact ⟨0, Nat.zero_le _, rfl, rfl, Lib.hid (KRow.lit rnC_size w w.heap.size (Nat.le_refl _) [] #[] rfl 0 rfl (by simp)), Lib.hid (ba w _)⟩
    case round =>
      obtain ⟨j, hj, rfl, rfl, HR, HB⟩ := hrel
      have hb := HB.out
      by_cases hjl : j < l.length
      · obtain ⟨g, o, rfl, hg, hc⟩ := HA.out (by omega)
        obtain ⟨a0, a1⟩ := arg_two hc j hjl
        have f0 := (hb.cell (p := ⟨g, o + j * 2, none⟩) hg).trans a0
        have f1 := (hb.cell (p := ⟨g, o + j * 2 + 1, none⟩) hg).trans a1
        have hr := lg_take_range HK.out j
        have hx := el_range HK.out j hjl
        have htk := Lib.hid (lg_take l j hjl)
        have hst : sl 0 (l.take (j + 1)) F T = sl 0 (l.take j) F T ++ s1 (lg (l.take j)) (l[j].1, l[j].2) F T := sl_take l j hjl F T
        have hp := HP2.out j hjl
        have hsl := HS.out j
        clear a0 a1 hc HP2
        generalize l[j].1 = x0 at *
        generalize l[j].2 = x1 at *
        generalize lg (l.take j) = S at *
        generalize sl 0 (l.take j) F T = E at *
        obtain ⟨_, hx1, hx2⟩ := hx
        have hS1 : ∀ lo hi : Int, lo = max S a → hi = min (S + x1) b → (lo < hi → Hid (sl 0 (l.take (j + 1)) F T = E ++ [(x0, hi - lo)])) ∧ (¬ lo < hi → Hid (sl 0 (l.take (j + 1)) F T = E)) := by
          intro lo hi e1 e2
          refine ⟨fun h => Lib.hid ?_, fun h => Lib.hid ?_⟩
          · rw [hst, (hp lo hi e1 e2).1 (by omega)]
          · rw [hst, (hp lo hi e1 e2).2 (by omega), List.append_nil]
        clear hst hp
        obtain ⟨UA, UN, UC, rfl, hUN⟩ := HR.out.form
        clear hUN
        by_cases hF : S < a
        · by_cases hT : b < S + x1
          · obtain ⟨hy, hz⟩ := hS1 a b (by omega) (by omega)
            clear hS1
            by_cases hlt : a < b
            · have HST := hy hlt
              clear hy hz
              go_wp2_with (first
                | (at_builtin; go_must (refine wpList_append_rn rfl _ _ rfl rfl rfl rfl rfl HR.out hb.size (by omega) ?_; intro v5 w5 R5 b5)))
              go_roundw
              case rel => exact ⟨j + 1, by omega, val_int (by omega), val_int (by rw [htk.out]), Lib.hid (by rw [HST.out]; exact R5), Lib.hid (hb.trans b5)⟩
              case measure => simp [intOf]; omega
            · have HST := hz hlt
              clear hy hz
              go_wp2
              go_roundw
              case rel => exact ⟨j + 1, by omega, val_int (by omega), val_int (by rw [htk.out]), Lib.hid (by rw [HST.out]; exact HR.out), HB⟩
              case measure => simp [intOf]; omega
          · obtain ⟨hy, hz⟩ := hS1 a (S + x1) (by omega) (by omega)
            clear hS1
            by_cases hlt : a < (S + x1)
            · have HST := hy hlt
              clear hy hz
              go_wp2_with (first
                | (at_builtin; go_must (refine wpList_append_rn rfl _ _ rfl rfl rfl rfl rfl HR.out hb.size (by omega) ?_; intro v5 w5 R5 b5)))
              go_roundw
              case rel => exact ⟨j + 1, by omega, val_int (by omega), val_int (by rw [htk.out]), Lib.hid (by rw [HST.out]; exact R5), Lib.hid (hb.trans b5)⟩
              case measure => simp [intOf]; omega
            · have HST := hz hlt
              clear hy hz
              go_wp2
              go_roundw
              case rel => exact ⟨j + 1, by omega, val_int (by omega), val_int (by rw [htk.out]), Lib.hid (by rw [HST.out]; exact HR.out), HB⟩
              case measure => simp [intOf]; omega
        · by_cases hT : b < S + x1
          · obtain ⟨hy, hz⟩ := hS1 S b (by omega) (by omega)
            clear hS1
            by_cases hlt : S < b
            · have HST := hy hlt
              clear hy hz
              go_wp2_with (first
                | (at_builtin; go_must (refine wpList_append_rn rfl _ _ rfl rfl rfl rfl rfl HR.out hb.size (by omega) ?_; intro v5 w5 R5 b5)))
              go_roundw
              case rel => exact ⟨j + 1, by omega, val_int (by omega), val_int (by rw [htk.out]), Lib.hid (by rw [HST.out]; exact R5), Lib.hid (hb.trans b5)⟩
              case measure => simp [intOf]; omega
            · have HST := hz hlt
              clear hy hz
              go_wp2
              go_roundw
              case rel => exact ⟨j + 1, by omega, val_int (by omega), val_int (by rw [htk.out]), Lib.hid (by rw [HST.out]; exact HR.out), HB⟩
              case measure => simp [intOf]; omega
          · obtain ⟨hy, hz⟩ := hS1 S (S + x1) (by omega) (by omega)
            clear hS1
            by_cases hlt : S < (S + x1)
            · have HST := hy hlt
              clear hy hz
              go_wp2_with (first
                | (at_builtin; go_must (refine wpList_append_rn rfl _ _ rfl rfl rfl rfl rfl HR.out hb.size (by omega) ?_; intro v5 w5 R5 b5)))
              go_roundw
              case rel => exact ⟨j + 1, by omega, val_int (by omega), val_int (by rw [htk.out]), Lib.hid (by rw [HST.out]; exact R5), Lib.hid (hb.trans b5)⟩
              case measure => simp [intOf]; omega
            · exact absurd hlt (by omega)
      · have he : l.take j = l := List.take_of_length_le (by omega)
        rw [he] at HR
        clear he
        go_wp2
        go_returns
        exact ⟨_, rfl, by rw [HL.out]; exact HR.out, hb⟩

end Go.Proofs.Ytemmljngglnccaa
