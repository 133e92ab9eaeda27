/-
  The walk of Gaps.
-/
import Derived.Test.YtpeiiomimfiebaaW6
import Derived.Deep.QuietTactic
import Derived.BigQuiet
namespace Go.Proofs.Ytpeiiomimfiebaa
open Go Go.RowKit Go.Joins
set_option linter.unusedVariables false
set_option linter.unusedSimpArgs false

theorem gp_take (all : Sp) (js : List Sp) (j : Nat) (hj : j < js.length) (f : Int) : gp all f (js.take (j + 1)) = gp all f (js.take j) ++ (if (cm (lastTo f (js.take j), js[j].1) all).2 then [(cm (lastTo f (js.take j), js[j].1) all).1] else []) ∧ lastTo f (js.take (j + 1)) = js[j].2 := by
  rw [List.take_succ_eq_append_getElem hj]
  exact gp_snoc all (js.take j) f js[j]

/-- A span appended; of old blocks, the row's own alone may have changed. -/
theorem wpList_append_sp2 {w : World} {ops : Array Oper} {rest : List Oper} {o : Oper} {a : Act} {Q : Exit → Act → World → Prop} (hgd : o.guard = none) (s x : Operand)
    (ho : o.op = .call { callee := .builtin .append, args := #[s, x], argTypes := #[29, 29] })
    {B c : Nat} {v : Value} {l : List Sp} {g : Nat} (t : Sp) {ya : Array Value} (hya : ya = spC t) (hs : a.eval s = v) (hx : a.eval x = .slice (some ⟨g, 0, none⟩) 1 c) (hg : g = w.heap.size) (hf : SpRow w B v l) (hB : B ≤ w.heap.size) (hn : l.length + 1 ≤ 4398046511104)
    (h : ∀ v' w', SpRow w' B v' (l ++ [t]) → Below B w w' → (∀ k, k < w.heap.size → some k ≠ v.ownBlock → w'.heap[k]? = w.heap[k]?) → wpList Try.prog ops Q rest (a.put o.dst v') w') : wpList Try.prog ops Q (o :: rest) a (w.alloc (.cells ya 23)) :=
  wpList_append_k2 (P := Try.prog) Try.underlying29 span_info rfl (by omega) spC_size hgd s x ho t hya hs hx hg hf hB (by subst hya; rfl) (by omega) (by omega) h

set_option maxRecDepth 20000 in
set_option maxHeartbeats 4000000 in
theorem gaps_any (l : List Sp) (V : Value) (u z : Int) (w : World) (hT : SpArg w V l) (hn : l.length ≤ 4294967296) :
    Calls Try.prog 19 #[V, .agg #[.int .i64 u, .int .i64 z]] w fun e w' => ∃ v : Value, e = .returned v ∧ SpRow w' w.heap.size v (ga l (u, z)) ∧ Below w.heap.size w w' := by
  have C1 := Lib.hid (fun w hT => join_any l V w hT hn)
  have CC := Lib.hid common_xy
  have hlen := un_length l
  obtain ⟨JS, hJS, hJl⟩ : ∃ JS, un l ++ [((1099511627776 : Int), (0 : Int))] = JS ∧ JS.length ≤ l.length + 1 := ⟨_, rfl, by simp; omega⟩
  have hga : ga l (u, z) = gp (u, z) 0 JS := by unfold ga; rw [hJS]
  have HJ := Lib.hid hJS
  have HG := Lib.hid hga
  have HT := Lib.hid hT
  have HS := Lib.hid (fun j => Nat.le_trans (gp_length (u, z) (JS.take j) 0) (show (JS.take j).length ≤ JS.length by rw [List.length_take]; omega))
  have c0 := (RowAt.new w 23 #[.int .i64 u, .int .i64 z]).cell 0
  have c1 := (RowAt.new w 23 #[.int .i64 u, .int .i64 z]).cell 1
  have HC0 := Lib.hid c0; have HC1 := Lib.hid c1
  clear hJS hga hT c0 c1
  go_enter Try.func19, Try.ntmps19
  go_wp2_with (first
    | (go_at_call 17; go_must (refine (C1.out _ (HT.out.keep (ba w _))).mono ?_; rintro e1 w1 ⟨U, rfl, r1, b1⟩; obtain ⟨UA, UN, UC, rfl, hUN⟩ := r1.form; clear hUN; have R1 := Lib.hid r1; have B1 := Lib.hid b1; clear r1 b1))
    | (at_builtin; go_must (refine wpList_append_sp2 rfl _ _ rfl (1099511627776, 0) rfl rfl rfl rfl R1.out B1.out.size (by omega) ?_; intro v5 w5 R5 b5 n5; have b6 := Lib.hid (show Below w.heap.size w w5 from (ba w _).trans ((B1.out.trans b5).mono (by rw [World.size_alloc]; omega))); have e0 := Lib.hid (((B1.out.trans b5).cell (p := ⟨w.heap.size, 0, none⟩) (by rw [World.size_alloc]; show w.heap.size < _; omega)).trans HC0.out); have e1 := Lib.hid (((B1.out.trans b5).cell (p := ⟨w.heap.size, 1, none⟩) (by rw [World.size_alloc]; show w.heap.size < _; omega)).trans HC1.out); have q5 := KRow.arg spC_size R5; have l5 := Lib.hid (show w.heap.size < w5.heap.size from Nat.lt_of_lt_of_le (by rw [World.size_alloc]; omega) (B1.out.trans b5).size); rw [HJ.out] at q5; obtain ⟨A, c, rfl, hA⟩ := q5; have HA := Lib.hid hA; clear hA R5 b5 n5)))
  go_loopw [17, 5, 6] (fun i r f wr => ∃ j : Nat, j ≤ JS.length ∧ i = .int .i64 j ∧ f = .int .i64 (lastTo 0 (JS.take j)) ∧ Hid (SpRow wr w5.heap.size r (gp (u, z) 0 (JS.take j))) ∧ Hid (Below w5.heap.size w5 wr)) (fun i _ _ _ => JS.length - (intOf i).toNat)
  case atStart => exact ⟨0, Nat.zero_le _, rfl, rfl, Lib.hid (KRow.nil _ _), Lib.hid (Below.refl _ _)⟩
  case round =>
    obtain ⟨j, hj, rfl, rfl, HR, HB⟩ := hrel
    have hb := HB.out
    by_cases hjl : j < JS.length
    · obtain ⟨g, o, rfl, hg, hc⟩ := HA.out (by omega)
      obtain ⟨a0, a1⟩ := arg_two hc j hjl
      have f0 := (hb.cell (p := ⟨g, o + j * 2, none⟩) hg).trans a0
      have f1 := (hb.cell (p := ⟨g, o + j * 2 + 1, none⟩) hg).trans a1
      have e2 := (hb.cell (p := ⟨w.heap.size, 0, none⟩) l5.out).trans e0.out
      have e3 := (hb.cell (p := ⟨w.heap.size, 1, none⟩) l5.out).trans e1.out
      clear a0 a1 hc
      obtain ⟨ht, hl⟩ := gp_take (u, z) JS j hjl 0
      have hfl := HS.out j
      have hfs : Hid (Below w.heap.size w wr) := b6.out.trans (hb.mono b6.out.size)
      generalize JS[j].1 = x0 at *
      generalize JS[j].2 = x1 at *
      generalize lastTo 0 (JS.take j) = f at *
      generalize gp (u, z) 0 (JS.take j) = F at *
      have C2 := fun w => CC.out f x0 u z w
      generalize cm (f, x0) (u, z) = r at *
      obtain ⟨⟨p, q⟩, ok⟩ := r
      unfold prV spV spC at C2
      simp only at C2 ht
      have H2 := Lib.hid C2
      have HL := Lib.hid hl
      clear C2 hl CC C1
      have hwl : w.heap.size < wr.heap.size := Nat.lt_of_lt_of_le l5.out hb.size
      have k2 : (wr.alloc (.cells #[.int .i64 x0, .int .i64 x1] 23)).cell? ⟨w.heap.size, 0, none⟩ = some (.int .i64 u) := ((ba wr _).cell (p := ⟨w.heap.size, 0, none⟩) hwl).trans e2
      have k3 : (wr.alloc (.cells #[.int .i64 x0, .int .i64 x1] 23)).cell? ⟨w.heap.size, 1, none⟩ = some (.int .i64 z) := ((ba wr _).cell (p := ⟨w.heap.size, 1, none⟩) hwl).trans e3
      cases ok with
      | false =>
        simp only [Bool.false_eq_true, if_false, List.append_nil] at ht
        have HT2 := Lib.hid ht
        clear ht
        go_wp2_with (first
          | (go_at_call 10; go_must (refine (H2.out _).mono ?_; rintro e7 w7 ⟨rfl, b7⟩; have m0 : (w7.alloc (.cells #[.int .i64 p, .int .i64 q] 23)).cell? ⟨wr.heap.size, 1, none⟩ = some (.int .i64 x1) := ((ba w7 _).cell (p := ⟨wr.heap.size, 1, none⟩) (Nat.lt_of_lt_of_le (by rw [World.size_alloc]; show wr.heap.size < _; omega) b7.size)).trans ((b7.cell (p := ⟨wr.heap.size, 1, none⟩) (by rw [World.size_alloc]; show wr.heap.size < _; omega)).trans ((RowAt.new wr 23 #[.int .i64 x0, .int .i64 x1]).cell 1)))))
        go_roundw
        case rel => exact ⟨j + 1, by omega, val_int (by omega), val_int HL.out.symm, Lib.hid (by rw [HT2.out]; exact ((HR.out.alloc _).keep b7).alloc _), Lib.hid (hb.trans (((ba wr (.cells #[.int .i64 x0, .int .i64 x1] 23)).mono hb.size).trans ((b7.mono (Nat.le_trans hb.size (ba wr (.cells #[.int .i64 x0, .int .i64 x1] 23)).size)).trans ((ba w7 (.cells #[.int .i64 p, .int .i64 q] 23)).mono (Nat.le_trans hb.size (Nat.le_trans (ba wr (.cells #[.int .i64 x0, .int .i64 x1] 23)).size b7.size))))))⟩
        case measure => simp [intOf]; omega
      | true =>
        simp only [if_true] at ht
        have HT2 := Lib.hid ht
        clear ht
        obtain ⟨UA, UN, UC, rfl, hUN⟩ := HR.out.form
        clear hUN
        go_wp2_with (first
          | (go_at_call 10; go_must (refine (H2.out _).mono ?_; rintro e7 w7 ⟨rfl, b7⟩; have m0 : (w7.alloc (.cells #[.int .i64 p, .int .i64 q] 23)).cell? ⟨wr.heap.size, 1, none⟩ = some (.int .i64 x1) := ((ba w7 _).cell (p := ⟨wr.heap.size, 1, none⟩) (Nat.lt_of_lt_of_le (by rw [World.size_alloc]; show wr.heap.size < _; omega) b7.size)).trans ((b7.cell (p := ⟨wr.heap.size, 1, none⟩) (by rw [World.size_alloc]; show wr.heap.size < _; omega)).trans ((RowAt.new wr 23 #[.int .i64 x0, .int .i64 x1]).cell 1)); have R7 := Lib.hid (show SpRow (w7.alloc (.cells #[.int .i64 p, .int .i64 q] 23)) _ _ _ from ((HR.out.alloc _).keep b7).alloc _); have B7 := Lib.hid (hb.trans (((ba wr (.cells #[.int .i64 x0, .int .i64 x1] 23)).mono hb.size).trans ((b7.mono (Nat.le_trans hb.size (ba wr (.cells #[.int .i64 x0, .int .i64 x1] 23)).size)).trans ((ba w7 (.cells #[.int .i64 p, .int .i64 q] 23)).mono (Nat.le_trans hb.size (Nat.le_trans (ba wr (.cells #[.int .i64 x0, .int .i64 x1] 23)).size b7.size)))))); have l7 := Lib.hid (show wr.heap.size < (w7.alloc (.cells #[.int .i64 p, .int .i64 q] 23)).heap.size from Nat.lt_of_lt_of_le (by rw [World.size_alloc]; omega) (Nat.le_trans b7.size (ba w7 _).size))))
          | (at_builtin; go_must (refine wpList_append_sp2 rfl _ _ rfl (p, q) rfl rfl rfl (World.size_alloc _ _).symm R7.out B7.out.size (by omega) ?_; intro v8 w8 R8 b8 n8; have m8 : w8.cell? ⟨wr.heap.size, 1, none⟩ = some (.int .i64 x1) := (kept_at n8 ⟨wr.heap.size, 1, none⟩ l7.out (fun e => by have := (HR.out.lt _ e.symm).2; exact absurd this (Nat.lt_irrefl _))).trans m0)))
        go_roundw
        case rel => exact ⟨j + 1, by omega, val_int (by omega), val_int HL.out.symm, Lib.hid (by rw [HT2.out]; exact R8), Lib.hid (B7.out.trans b8)⟩
        case measure => simp [intOf]; omega
    · have he : JS.take j = JS := List.take_of_length_le (by omega)
      rw [he] at HR
      go_wp2
      go_returns
      exact ⟨_, rfl, by rw [HG.out]; exact HR.out.mono (Nat.le_of_lt l5.out), b6.out.trans (hb.mono b6.out.size)⟩

end Go.Proofs.Ytpeiiomimfiebaa
