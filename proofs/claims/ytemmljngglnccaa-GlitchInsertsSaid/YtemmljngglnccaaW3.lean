/-
  The walks of At (the program's and the specification's).
-/
import Derived.Test.YtemmljngglnccaaW2
namespace Go.Proofs.Ytemmljngglnccaa
open Go Go.RowKit Go.Joins
set_option linter.unusedVariables false
set_option linter.unusedSimpArgs false

/-- A level and whether there is one. -/
def atR (p : Int × Bool) : Value := .tuple #[.int .i64 p.1, .bool p.2]
theorem atR_eq {p : Int × Bool} {a : Int} {b : Bool} (h : p = (a, b)) : Ending.returned (.tuple #[.int .i64 a, .bool b]) = .returned (atR p) := by subst h; rfl

set_option maxRecDepth 20000 in
set_option maxHeartbeats 4000000 in
theorem at_any (l : List Rn) (V : Value) (k : Int) (w : World) (hT : RnArg w V l) (hk1 : k ≤ 9223372036854775807) : Calls Try.prog 35 #[V, .int .i64 k] w fun e w' => e = .returned (atR (atV l k)) ∧ Below w.heap.size w w' := by
  have CV := Lib.hid (valid_any l V w hT)
  obtain ⟨A, c, rfl, hA⟩ := hT
  have HA := Lib.hid hA
  clear hA
  by_cases hk : k < 0
  · have HL := Lib.hid (atV_no (l := l) (k := k) (by omega))
    clear HA
    go_enter Try.func35, Try.ntmps35
    go_wp2
    go_returns
    exact ⟨atR_eq HL.out, Below.refl _ _⟩
  cases hv : vl l with
  | false =>
    have HL := Lib.hid (atV_no (l := l) (k := k) (by rw [hv]; exact fun h => Bool.false_ne_true h.1))
    rw [hv] at CV
    clear hv HA
    go_enter Try.func35, Try.ntmps35
    go_wp2_with (first
      | (go_at_call 23; go_must (refine CV.out.mono ?_; rintro e1 w1 ⟨rfl, b1⟩)))
    go_returns
    exact ⟨atR_eq HL.out, b1⟩
  | true =>
    have HL := Lib.hid (atV_yes hv (show 0 ≤ k by omega))
    have HK := Lib.hid hv
    have hn := ((vl_iff l).1 hv).1
    rw [hv] at CV
    clear hv
    go_enter Try.func35, Try.ntmps35
    go_wp2_with (first
      | (go_at_call 23; go_must (refine CV.out.mono ?_; rintro e1 w1 ⟨rfl, b1⟩; have B1 := Lib.hid b1; clear b1)))
    go_loopw [17, 1] (fun i s wr => ∃ (j : Nat) (q : Int), j ≤ l.length ∧ i = .int .i64 j ∧ s = .int .i64 q ∧ 0 ≤ q ∧ q ≤ 9223372036854775807 ∧ Hid (atv l k = atv (l.drop j) q) ∧ Hid (Below w.heap.size w wr)) (fun i _ _ => l.length - (intOf i).toNat)
    case atStart => exact ⟨0, k, Nat.zero_le _, rfl, rfl, by omega, hk1, Lib.hid rfl, B1⟩
    case round =>
      obtain ⟨j, q, hj, rfl, rfl, hq0, hq1, HE, HB⟩ := hrel
      have hb := HB.out
      by_cases hjl : j < l.length
      · obtain ⟨g, o, rfl, hg, hc⟩ := HA.out (by omega)
        obtain ⟨a0, a1⟩ := arg_two hc j hjl
        have f0 := (hb.cell (p := ⟨g, o + j * 2, none⟩) hg).trans a0
        have f1 := (hb.cell (p := ⟨g, o + j * 2 + 1, none⟩) hg).trans a1
        have hx := el_range HK.out j hjl
        have hd := HE.out.trans (atv_drop hjl q)
        clear a0 a1 hc
        have HB2 := Lib.hid (show Below w.heap.size w (wr.alloc (.cells #[.int .i64 l[j].1, .int .i64 l[j].2] 48)) from hb.alloc hb.size _)
        generalize l[j].1 = x0 at *
        generalize l[j].2 = x1 at *
        obtain ⟨_, hx1, hx2⟩ := hx
        by_cases hlt : q < x1
        · rw [if_pos hlt] at hd
          have HD := Lib.hid (HL.out.trans hd)
          clear hd
          go_wp2
          go_returns
          exact ⟨atR_eq HD.out, HB2.out⟩
        · rw [if_neg hlt] at hd
          have HD := Lib.hid hd
          clear hd
          go_wp2
          go_roundw
          case rel => exact ⟨j + 1, q - x1, by omega, val_int (by omega), rfl, by omega, by omega, HD, HB2⟩
          case measure => simp [intOf]; omega
      · have he : l.drop j = [] := List.drop_eq_nil_of_le (by omega)
        have HD := Lib.hid (HL.out.trans HE.out)
        rw [he] at HD
        clear he
        go_wp2
        go_returns
        exact ⟨atR_eq HD.out, hb⟩

end Go.Proofs.Ytemmljngglnccaa
