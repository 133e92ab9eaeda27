/-
  The walks of the specification's joined, Clean, Edges and Invert.
-/
import Derived.Test.YtmbeaagpjpphhaaZ10
import Derived.Test.YtmbeaagpjpphhaaZ09
import Derived.Deep.RegionHeld3
namespace Go.Proofs.Ytmbeaagpjpphhaa
namespace Sw
open Go Go.RowKit Go.Joins
set_option linter.unusedVariables false
set_option linter.unusedSimpArgs false

set_option maxRecDepth 20000 in
set_option maxHeartbeats 4000000 in
theorem refInvert_any (l : List Rn) (V : Value) (w : World) (hT : RnArg w V l) : Calls Try.prog 52 #[V] w fun e w' => ∃ v : Value, e = .returned v ∧ RnRow w' w.heap.size v (ivV l) ∧ Below w.heap.size w w' := by
  have CV := Lib.hid (fun w' h => refValid_any l V w' h)
  have HT := Lib.hid (fun w' (hb : Below w.heap.size w w') => hT.keep hb)
  obtain ⟨A, c, rfl, hA⟩ := hT
  have HA := Lib.hid hA
  clear hA
  cases hv : vl l with
  | false =>
    have HL := Lib.hid (ivV_no (l := l) (by rw [hv]; exact Bool.false_ne_true))
    rw [hv] at CV
    clear hv
    go_enter Try.func52, Try.ntmps52
    go_wp2_with (first
      | (go_at_call 89; go_must (refine (CV.out _ (HT.out _ (ba w _))).mono ?_; rintro e1 w1 ⟨rfl, rfl⟩)))
    go_returns
    exact ⟨_, rfl, by rw [HL.out]; exact KRow.lit rnC_size w w.heap.size (Nat.le_refl _) [] #[] rfl 0 rfl (by simp), ba w _⟩
  | true =>
    have HL := Lib.hid (ivV_yes hv)
    have HK := Lib.hid hv
    have hn := ((vl_iff l).1 hv).1
    rw [hv] at CV
    clear hv
    go_enter Try.func52, Try.ntmps52
    go_wp2_with (first
      | (go_at_call 89; go_must (refine (CV.out _ (HT.out _ (ba w _))).mono ?_; rintro e1 w1 ⟨rfl, rfl⟩)))
    go_loopw [4, 3] (fun i r wr => ∃ j : Nat, j ≤ l.length ∧ i = .int .i64 j ∧ Hid (RnRow wr w.heap.size r (iv (l.take j))) ∧ Hid (Below w.heap.size w wr)) (fun i _ _ => l.length - (intOf i).toNat)
    case atStart => exact ⟨0, Nat.zero_le _, rfl, Lib.hid (KRow.lit rnC_size w w.heap.size (Nat.le_refl _) [] #[] rfl 0 rfl (by simp)), Lib.hid (ba w _)⟩
    case round =>
      obtain ⟨j, hj, rfl, HR, HB⟩ := hrel
      have hb := HB.out
      by_cases hjl : j < l.length
      · obtain ⟨g, o, rfl, hg, hc⟩ := HA.out (by omega)
        obtain ⟨a0, a1⟩ := arg_two hc j hjl
        have hx := el_range HK.out j hjl
        have hiv := iv_take l j hjl
        have hlen : (iv (l.take j)).length ≤ 262144 := by rw [iv_len, List.length_take]; omega
        clear hc
        have HIV : Hid (iv (l.take (j + 1)) = iv (l.take j) ++ [(1 - l[j].1, l[j].2)]) := Lib.hid hiv
        clear hiv
        generalize l[j].1 = x0 at *
        generalize l[j].2 = x1 at *
        generalize iv (l.take j) = E at *
        obtain ⟨hx0, hx1, hx2⟩ := hx
        have HS := Lib.hid (fun w' (hb : Below w.heap.size w w') => And.intro ((hb.cell (p := ⟨g, o + j * 2, none⟩) hg).trans a0) (And.intro ((hb.cell (p := ⟨g, o + j * 2 + 1, none⟩) hg).trans a1) hb))
        clear a0 a1
        have hM1 : E.length + 1 ≤ 140737488355328 := by omega
        have hM2 : (E.length + 1) * 16 ≤ 140737488355328 := by omega
        have v1 : IntKind.i64.wrap (1 - x0) = 1 - x0 := IntWalk.i64_in _ (by omega)
        have hi0 : (0 : Int) ≤ (j : Int) := by omega
        have hi1 : (j : Int) < l.length := by omega
        obtain ⟨UA, UN, UC, rfl, hUN⟩ := HR.out.form
        clear hUN hlen
        have HRd := Lib.hid (show RnRow wr.drew w.heap.size (.slice UA UN UC) E from HR.out)
        have hdr := Lib.hid (show Below w.heap.size w wr.drew from hb.drew)
        go_wp2
        go_region_held3 (fun w' => w'.cell? ⟨g, o + j * 2, none⟩ = some (.int .i64 x0) ∧ w'.cell? ⟨g, o + j * 2 + 1, none⟩ = some (.int .i64 x1) ∧ Below w.heap.size w w') (first | exact HS.out _ hdr.out | assumption | exact HS.out _ (hdr.out.alloc hdr.out.size _) | go_keep)
          ((refine step_append_ks (P := Try.prog) Try.underlying27 run_info rfl (by decide) rnC_size (by rfl) (.tmp 16) (.tmp 29) (by rfl) (by rfl) (by rfl) (by rfl) HRd.out hdr.out.size [(1 - x0, x1)] (by rfl) (by decide) (by rfl) (by rfl) hM1 hM2 ?_; intro v3 w3 r3 b3; have hw3 := HS.out w3 (hdr.out.trans b3)))
        all_goals
          go_wp2
          go_roundw
          case rel => exact ⟨j + 1, by omega, val_int (by omega), Lib.hid (by rw [HIV.out]; exact r3), Lib.hid (hdr.out.trans b3)⟩
          case measure => simp [intOf]; omega
      · have he : l.take j = l := List.take_of_length_le (by omega)
        rw [he] at HR
        clear he
        go_wp2
        go_returns
        exact ⟨_, rfl, by rw [HL.out]; exact HR.out, hb⟩

end Sw
end Go.Proofs.Ytmbeaagpjpphhaa
