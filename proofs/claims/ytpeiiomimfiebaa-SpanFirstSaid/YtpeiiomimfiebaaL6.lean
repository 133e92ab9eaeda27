/-
  The walk of the statement SpanFirst.
-/
import Derived.Test.YtpeiiomimfiebaaW3
import Derived.Test.YtpeiiomimfiebaaW12
namespace Go.Proofs.Ytpeiiomimfiebaa
open Go Go.RowKit Go.Joins
set_option linter.unusedVariables false
set_option linter.unusedSimpArgs false

theorem hd_cases (x y t : Int) : (hd (x, y) t = true ∧ vl (x, y) = true ∧ x ≤ t ∧ t < y) ∨ (hd (x, y) t = false ∧ (vl (x, y) = false ∨ (vl (x, y) = true ∧ ¬ x ≤ t) ∨ (vl (x, y) = true ∧ x ≤ t ∧ ¬ t < y))) := by
  unfold hd
  simp only
  cases vl (x, y) <;> by_cases h1 : x ≤ t <;> by_cases h2 : t < y <;> simp [h1, h2]

set_option maxRecDepth 20000 in
set_option maxHeartbeats 4000000 in
theorem law_first (l : List Sp) (v : Value) (t : Int) (w : World) (hT : SpArg w v l) : Calls Try.prog 8 #[v, .int .i64 t] w fun e w' => e = .returned (.bool true) ∧ Below w.heap.size w w' := by
  have HT := Lib.hid (fun W (hb : Below w.heap.size w W) => KArg.keep hT hb)
  by_cases hn : 500 < l.length
  · obtain ⟨A, c, rfl, hA⟩ := hT
    clear hA HT
    have hn' : (500 : Int) < l.length := by omega
    go_enter Try.func8, Try.ntmps8
    go_wp2_with (first
      | (go_at_call 9; go_must (refine (lives_any _).mono ?_; rintro e1 w1 ⟨rfl, b1⟩)))
    go_returns
    exact ⟨rfl, b1⟩
  · obtain ⟨hb1, hb2⟩ := fnd_bounds l t
    have C1 := Lib.hid (fun W h => find_any l v t W h (by omega))
    have CV := Lib.hid valid_xy
    have HF := Lib.hid (fnd_at l t); have HN := Lib.hid (fnd_none l t)
    generalize fnd l t = k at *
    obtain ⟨A, c, rfl, hA⟩ := hT
    have HA := Lib.hid hA
    have hn' : (l.length : Int) ≤ 500 := by omega
    clear hA
    go_enter Try.func8, Try.ntmps8
    go_wp2_with (first
      | (go_at_call 9; go_must (refine (lives_any _).mono ?_; rintro e1 w1 ⟨rfl, b1⟩))
      | (go_at_call 23; go_must (refine (C1.out _ (HT.out _ b1)).mono ?_; rintro e2 w2 ⟨rfl, b2⟩; have B2 := Lib.hid (b1.trans (b2.mono b1.size)))))
    go_loopw [6] (fun x wr => ∃ j : Nat, j ≤ l.length ∧ x = .int .i64 j ∧ Hid (Below w.heap.size w wr) ∧ Hid (∀ i (hi : i < l.length), i < j → hd l[i] t = false)) (fun x _ => l.length - (intOf x).toNat)
    case atStart => exact ⟨0, Nat.zero_le _, rfl, B2, Lib.hid (fun k hk h => absurd h (by omega))⟩
    case round =>
      obtain ⟨j, hj, rfl, HB, HR⟩ := hrel
      have hb := HB.out
      by_cases hjl : j < l.length
      · obtain ⟨g, o, rfl, hg, hc⟩ := HA.out (by omega)
        obtain ⟨a0, a1⟩ := arg_two hc j hjl
        have f0 := (hb.cell (p := ⟨g, o + j * 2, none⟩) hg).trans a0
        have f1 := (hb.cell (p := ⟨g, o + j * 2 + 1, none⟩) hg).trans a1
        clear a0 a1 hc
        have hcs := hd_cases l[j].1 l[j].2 t
        have hT1 : hd l[j] t = true → k = j := fun h => HF.out j hjl (fun i hi h => HR.out i hi h) h
        have hT2 : hd l[j] t = false → Hid (∀ i (hi : i < l.length), i < j + 1 → hd l[i] t = false) := fun h i hi hij => by
          by_cases e : i = j
          · subst e; exact h
          · exact HR.out i hi (by omega)
        have hT1' : hd (l[j].1, l[j].2) t = true → k = j := hT1
        have hT2' : hd (l[j].1, l[j].2) t = false → Hid (∀ i (hi : i < l.length), i < j + 1 → hd l[i] t = false) := hT2
        clear hT1 hT2
        generalize l[j].1 = x0 at *
        generalize l[j].2 = x1 at *
        have k0 : (wr.alloc (.cells #[.int .i64 x0, .int .i64 x1] 23)).cell? ⟨g, o + j * 2, none⟩ = some (.int .i64 x0) := ((ba wr _).cell (p := ⟨g, o + j * 2, none⟩) (Nat.lt_of_lt_of_le hg hb.size)).trans f0
        have k1 : (wr.alloc (.cells #[.int .i64 x0, .int .i64 x1] 23)).cell? ⟨g, o + j * 2 + 1, none⟩ = some (.int .i64 x1) := ((ba wr _).cell (p := ⟨g, o + j * 2 + 1, none⟩) (Nat.lt_of_lt_of_le hg hb.size)).trans f1
        rcases hcs with ⟨h1, h2, h3, h4⟩ | ⟨h1, h2⟩
        · have e := hT1' h1
          clear hT1' hT2' h1 HF HN HR
          subst e
          go_wp2_with (first
            | (go_at_call 12; go_must (refine (CV.out _ _ _).mono ?_; rintro e1 w3 ⟨rfl, rfl⟩)))
          go_returns
          exact ⟨by first | rfl | simp, (by repeat' (first | with_reducible exact Below.refl _ _ | with_reducible exact Nat.le_refl _ | with_reducible assumption | with_reducible refine below_drewN ?_ _ | with_reducible refine Below.drew ?_ | with_reducible refine Below.trans ?_ (Below.mono (by assumption) ?_) | with_reducible refine Below.alloc ?_ ?_ _ | with_reducible refine Below.setCell ?_ ?_ _ | with_reducible refine le_setCell ?_ _ _ | with_reducible refine le_alloc ?_ _ | with_reducible refine le_drewN ?_ _ | with_reducible refine le_drew ?_ | with_reducible refine Nat.le_trans ?_ (Below.size (by assumption)) | (simp only [World.size_alloc, World.size_setCell]; omega)))⟩
        · have hR2 := hT2' h1
          clear hT1' hT2' h1
          rcases h2 with h2 | ⟨h2, h3⟩ | ⟨h2, h3, h4⟩
          all_goals
            go_wp2_with (first
              | (go_at_call 12; go_must (refine (CV.out _ _ _).mono ?_; rintro e1 w3 ⟨rfl, rfl⟩)))
            go_roundw
            case rel => exact ⟨j + 1, by omega, val_int (by omega), Lib.hid (by repeat' (first | with_reducible exact Below.refl _ _ | with_reducible exact Nat.le_refl _ | with_reducible assumption | with_reducible refine below_drewN ?_ _ | with_reducible refine Below.drew ?_ | with_reducible refine Below.trans ?_ (Below.mono (by assumption) ?_) | with_reducible refine Below.alloc ?_ ?_ _ | with_reducible refine Below.setCell ?_ ?_ _ | with_reducible refine le_setCell ?_ _ _ | with_reducible refine le_alloc ?_ _ | with_reducible refine le_drewN ?_ _ | with_reducible refine le_drew ?_ | with_reducible refine Nat.le_trans ?_ (Below.size (by assumption)) | (simp only [World.size_alloc, World.size_setCell]; omega))), hR2⟩
            case measure => simp [intOf]; omega
      · have e := HN.out (fun i hi => HR.out i hi (by omega))
        subst e
        go_wp2
        go_returns
        exact ⟨rfl, hb⟩

end Go.Proofs.Ytpeiiomimfiebaa
