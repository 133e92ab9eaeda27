/-
  The walks of the specification's cut, Join, Gaps and Total.
-/
import Derived.Test.YtpeiiomimfiebaaW8
import Derived.Test.YtpeiiomimfiebaaW6
import Derived.Deep.QuietTactic
import Derived.BigQuiet
namespace Go.Proofs.Ytpeiiomimfiebaa
open Go Go.RowKit Go.Joins
set_option linter.unusedVariables false
set_option linter.unusedSimpArgs false

/-- The last element's second number stored anew. -/
theorem SpRow.setTo {w : World} {B G c K : Nat} {o : List Sp} {y0 y1 e : Int} (h : SpRow w B (.slice (some ⟨G, 0, none⟩) (K + 1) c) (o ++ [(y0, y1)])) (hK : o.length = K) :
    SpRow (w.setCell ⟨G, K * 2 + 1, none⟩ (.int .i64 e)) B (.slice (some ⟨G, 0, none⟩) (K + 1) c) (o ++ [(y0, e)]) := by
  subst hK
  have h0 : w.ownsRow B 23 2 (.slice (some ⟨G, 0, none⟩) (o.length + 1) c) (o.length + 1) (kCs spC (o ++ [(y0, y1)])) := by
    have := h
    unfold SpRow KRow at this
    rwa [show (o ++ [(y0, y1)]).length = o.length + 1 by simp] at this
  have h1 := (World.ownsRow.stored h0 (o.length * 2 + 1) (.int .i64 e)).1
  unfold SpRow KRow
  rw [show (o ++ [(y0, e)]).length = o.length + 1 by simp]
  have e1 : (kCs spC (o ++ [(y0, y1)])).set (o.length * 2 + 1) (.int .i64 e) = kCs spC (o ++ [(y0, e)]) := by
    rw [kCs_snoc, kCs_snoc, List.set_append_right _ _ (by rw [kCs_len spC_size]; omega), kCs_len spC_size, show o.length * 2 + 1 - o.length * 2 = 1 by omega]
    rfl
  rw [← e1]
  exact h1
/-- The two cells of the last element. -/
theorem SpRow.last {w : World} {B G c K : Nat} {o : List Sp} {y0 y1 : Int} (h : SpRow w B (.slice (some ⟨G, 0, none⟩) (K + 1) c) (o ++ [(y0, y1)])) (hK : o.length = K) :
    w.cell? ⟨G, K * 2, none⟩ = some (.int .i64 y0) ∧ w.cell? ⟨G, K * 2 + 1, none⟩ = some (.int .i64 y1) ∧ w.frozen? ⟨G, K * 2 + 1, none⟩ = false := by
  subst hK
  obtain ⟨a, b, c, d⟩ := SpRow.two h o.length (by simp)
  simp only [List.getElem_concat_length] at a b
  exact ⟨a, b, d⟩

theorem wpList_append_xy {w : World} {ops : Array Oper} {rest : List Oper} {o : Oper} {a : Act} {Q : Exit → Act → World → Prop} (hgd : o.guard = none) (s x : Operand)
    (ho : o.op = .call { callee := .builtin .append, args := #[s, x], argTypes := #[29, 29] })
    {B c : Nat} {v : Value} {l : List Sp} {g : Nat} {X Y : Int} {ya : Array Value} (hya : ya = #[.int .i64 X, .int .i64 Y]) (hs : a.eval s = v) (hx : a.eval x = .slice (some ⟨g, 0, none⟩) 1 c) (hg : g = w.heap.size) (hf : SpRow w B v l) (hB : B ≤ w.heap.size) (hn : l.length + 1 ≤ 4398046511104)
    (h : ∀ v' w', SpRow w' B v' (l ++ [(X, Y)]) → Below B w w' → wpList Try.prog ops Q rest (a.put o.dst v') w') : wpList Try.prog ops Q (o :: rest) a (w.alloc (.cells ya 23)) :=
  wpList_append_sp hgd s x ho (X, Y) hya hs hx hg hf hB hn h

set_option maxRecDepth 20000 in
set_option maxHeartbeats 8000000 in
theorem cut_any (l : List Sp) (V : Value) (F T : Int) (c : Bool) (w : World) (hT : SpArg w V l) (hn : l.length ≤ 4294967296) (h0 : 0 ≤ F) (hFT : F ≤ T) (hM : T ≤ 1099511627776) :
    Calls Try.prog 28 #[V, .int .i64 F, .int .i64 T, .bool c] w fun e w' => ∃ (v : Value) (out : List Sp), e = .returned v ∧ SpRow w' w.heap.size v out ∧ CI l F c T out ∧ Below w.heap.size w w' := by
  have HT := Lib.hid (fun W (hb : Below w.heap.size w W) => KArg.keep hT hb)
  have C1 := Lib.hid (fun t W h => next_any l V t W h hn)
  have C2 := Lib.hid (fun t W h => refFind_any l V t W h hn)
  have HS := Lib.hid (fun a out (h : CI l F c a out) (hf : F ≤ a) (ht : a < T) => h.step T h0 hf ht)
  clear hT
  go_enter Try.func28, Try.ntmps28
  go_wp2
  go_loopw [10, 9] (fun x r wr => ∃ (a : Int) (out : List Sp), F ≤ a ∧ a ≤ T ∧ x = .int .i64 a ∧ Hid (SpRow wr w.heap.size r out) ∧ Hid (CI l F c a out) ∧ Hid (Below w.heap.size w wr)) (fun x _ _ => (T - intOf x).toNat)
  case atStart => exact ⟨F, [], Int.le_refl _, hFT, rfl, Lib.hid (KRow.lit spC_size w w.heap.size (Nat.le_refl _) [] #[] rfl 0 rfl (by simp)), Lib.hid (CI.start l F c), Lib.hid (ba w _)⟩
  case round =>
    obtain ⟨a, out, hFa, haT, rfl, HR, HCI, HB⟩ := hrel
    have hb := HB.out
    by_cases hlt : a < T
    · have hst := HS.out a out HCI.out hFa hlt
      have hen := en_bounds l a T (by omega) hlt
      have hnb := nx_bounds l a (by omega)
      have hlen := HCI.out.2.2.2
      have hl2 : out.length + 1 ≤ 1099511627777 := by omega
      have K1 := C1.out a wr (HT.out wr hb)
      have K2 := fun W (h : Below w.heap.size w W) => C2.out a W (HT.out W h)
      have hfc := fnd_cov l a
      have hfb := (fnd_bounds l a).1
      obtain ⟨E, hE⟩ : ∃ E, en l a T = E := ⟨_, rfl⟩
      have hcase : (nx l a < 0 ∧ E = T) ∨ (¬ nx l a < 0 ∧ T < nx l a ∧ E = T) ∨ (¬ nx l a < 0 ∧ ¬ T < nx l a ∧ E = nx l a) := by
        rw [← hE]; unfold en
        by_cases p1 : nx l a < 0 <;> by_cases p2 : T < nx l a <;> simp [p1, p2]
      rw [hE] at hst hen
      have KC1 := Lib.hid K1; have KC2 := Lib.hid K2
      clear K1 K2 hE C1 C2 HS HCI hlen
      generalize nx l a = n at *
      generalize fnd l a = fi at *
      generalize cov l a = cv at *
      have hnF : -1 ≤ n ∧ n ≤ 1099511627776 := hnb
      clear hnb
      have hfi : (cv = true → 0 ≤ fi) ∧ (cv = false → fi < 0) := by
        constructor
        · intro h; rw [h] at hfc; simpa using hfc
        · intro h; rw [h] at hfc; simpa using hfc
      clear hfc
      by_cases hcc : cv = c
      · -- a part more
        rw [if_pos hcc] at hst
        have hfi2 : (c = true → 0 ≤ fi) ∧ (c = false → fi < 0) := by rw [← hcc]; exact hfi
        clear hfi hcc
        rcases nil_or_snoc out with rfl | ⟨o, ⟨y0, y1⟩, rfl⟩
        · rw [ad_nil] at hst
          have HST := Lib.hid hst
          clear hst hl2
          obtain ⟨UA, UN, UC, rfl, hUN⟩ := HR.out.form
          obtain rfl : UN = 0 := hUN
          cases c <;> (first | (have hf2 := hfi2.2 rfl) | (have hf2 := hfi2.1 rfl)) <;> clear hfi2 <;> rcases hcase with ⟨i1, rfl⟩ | ⟨i1, i2, rfl⟩ | ⟨i1, i2, rfl⟩
          all_goals
            go_wp2_with (first
              | (go_at_call 34; go_must (refine KC1.out.mono ?_; rintro e1 w1 ⟨rfl, b1⟩; have R1 := Lib.hid (HR.out.keep b1); have B1 := Lib.hid (hb.trans (b1.mono hb.size))))
              | (go_at_call 24; go_must (refine (KC2.out _ B1.out).mono ?_; rintro e2 w2 ⟨rfl, b2⟩; have R2 := Lib.hid (R1.out.keep b2); have B2 := Lib.hid (B1.out.trans (b2.mono B1.out.size))))
              | (at_builtin; go_must (refine wpList_append_xy rfl _ _ rfl rfl rfl rfl rfl R2.out B2.out.size (by simp) ?_; intro v5 w5 R5 b5)))
            all_goals first | (exfalso; have hz := ‹(!decide (0 ≤ fi)) = false›; simp only [Bool.not_eq_false', decide_eq_true_eq] at hz; omega) | skip
            go_roundw
            case rel => exact ⟨_, _, by omega, by omega, rfl, Lib.hid R5, HST, Lib.hid (B2.out.trans b5)⟩
            case measure => simp only [intOf]; omega
        · rw [ad_snoc] at hst
          obtain ⟨G, C, rfl⟩ := HR.out.full (by simp)
          have hK : (o ++ [(y0, y1)]).length = o.length + 1 := by simp
          rw [hK] at HR hl2
          generalize hKK : o.length = K at *
          by_cases hy : y1 = a
          · rw [if_pos hy] at hst
            subst hy
            have HST := Lib.hid hst
            have HKK := Lib.hid hKK
            have hG := Lib.hid (HR.out.lt G rfl).1
            clear hst
            cases c <;> (first | (have hf2 := hfi2.2 rfl) | (have hf2 := hfi2.1 rfl)) <;> clear hfi2 <;> rcases hcase with ⟨i1, rfl⟩ | ⟨i1, i2, rfl⟩ | ⟨i1, i2, rfl⟩
            all_goals
              go_wp2_with (first
                | (go_at_call 34; go_must (refine KC1.out.mono ?_; rintro e1 w1 ⟨rfl, b1⟩; have R1 := Lib.hid (HR.out.keep b1); have B1 := Lib.hid (hb.trans (b1.mono hb.size))))
                | (go_at_call 24; go_must (refine (KC2.out _ B1.out).mono ?_; rintro e2 w2 ⟨rfl, b2⟩; have R2 := Lib.hid (R1.out.keep b2); have B2 := Lib.hid (B1.out.trans (b2.mono B1.out.size)); obtain ⟨t0, t1, z1⟩ := SpRow.last R2.out HKK.out)))
              all_goals first | (exfalso; have hz := ‹(!decide (0 ≤ fi)) = false›; simp only [Bool.not_eq_false', decide_eq_true_eq] at hz; omega) | skip
              go_roundw
              case rel => exact ⟨_, _, by omega, by omega, rfl, Lib.hid (SpRow.setTo R2.out HKK.out), HST, Lib.hid (Below.setCell B2.out hG.out _)⟩
              case measure => simp only [intOf]; omega
          · rw [if_neg hy] at hst
            have HST := Lib.hid hst
            have HKK := Lib.hid hKK
            clear hst
            cases c <;> (first | (have hf2 := hfi2.2 rfl) | (have hf2 := hfi2.1 rfl)) <;> clear hfi2 <;> rcases hcase with ⟨i1, rfl⟩ | ⟨i1, i2, rfl⟩ | ⟨i1, i2, rfl⟩
            all_goals
              go_wp2_with (first
                | (go_at_call 34; go_must (refine KC1.out.mono ?_; rintro e1 w1 ⟨rfl, b1⟩; have R1 := Lib.hid (HR.out.keep b1); have B1 := Lib.hid (hb.trans (b1.mono hb.size))))
                | (go_at_call 24; go_must (refine (KC2.out _ B1.out).mono ?_; rintro e2 w2 ⟨rfl, b2⟩; have R2 := Lib.hid (R1.out.keep b2); have B2 := Lib.hid (B1.out.trans (b2.mono B1.out.size)); obtain ⟨t0, t1, z1⟩ := SpRow.last R2.out HKK.out))
                | (at_builtin; go_must (refine wpList_append_xy rfl _ _ rfl rfl rfl rfl rfl R2.out B2.out.size (by omega) ?_; intro v5 w5 R5 b5)))
              all_goals first | (exfalso; have hz := ‹(!decide (0 ≤ fi)) = false›; simp only [Bool.not_eq_false', decide_eq_true_eq] at hz; omega) | skip
              go_roundw
              case rel => exact ⟨_, _, by omega, by omega, rfl, Lib.hid R5, HST, Lib.hid (B2.out.trans b5)⟩
              case measure => simp only [intOf]; omega
      · rw [if_neg hcc] at hst
        have HST := Lib.hid hst
        clear hst
        cases c <;> cases cv <;> first | (exact absurd rfl hcc) | skip
        all_goals
          (first | (have hf2 := hfi.1 rfl) | (have hf2 := hfi.2 rfl))
          clear hfi
          rcases hcase with ⟨i1, rfl⟩ | ⟨i1, i2, rfl⟩ | ⟨i1, i2, rfl⟩
          all_goals
            go_wp2_with (first
              | (go_at_call 34; go_must (refine KC1.out.mono ?_; rintro e1 w1 ⟨rfl, b1⟩; have R1 := Lib.hid (HR.out.keep b1); have B1 := Lib.hid (hb.trans (b1.mono hb.size))))
              | (go_at_call 24; go_must (refine (KC2.out _ B1.out).mono ?_; rintro e2 w2 ⟨rfl, b2⟩; have R2 := Lib.hid (R1.out.keep b2); have B2 := Lib.hid (B1.out.trans (b2.mono B1.out.size)))))
            all_goals first | (exfalso; have hz := ‹(!decide (0 ≤ fi)) = false›; simp only [Bool.not_eq_false', decide_eq_true_eq] at hz; omega) | skip
            go_roundw
            case rel => exact ⟨_, _, by omega, by omega, rfl, R2, HST, B2⟩
            case measure => simp only [intOf]; omega
    · obtain rfl : a = T := by omega
      go_wp2
      go_returns
      first
        | exact ⟨_, out, rfl, HR.out, HCI.out, hb⟩
        | exact ⟨_, rfl, out, HR.out, HCI.out, hb⟩

end Go.Proofs.Ytpeiiomimfiebaa
