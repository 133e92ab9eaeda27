/-
  The walk of the program's Merge.
-/
import Derived.Test.YtcodoakfomddfaaT1
import Derived.Test.YtcodoakfomddfaaK2
namespace Go.Proofs.Ytcodoakfomddfaa
open Go Go.RowKit Go.Joins
set_option linter.unusedVariables false
set_option linter.unusedSimpArgs false

theorem evC_mk (k f t v a : Int) (s : ByteArray) (u : Int) : evA k f t v a s u = evC ⟨k, f, t, v, a, s.data.toList, u⟩ := by unfold evC; simp only [bytes_of]
theorem wpList_append_ev2 {w : World} {ops : Array Oper} {rest : List Oper} {o : Oper} {ac : Act} {Q : Exit → Act → World → Prop} (hgd : o.guard = none) (p x : Operand)
    (ho : o.op = .call { callee := .builtin .append, args := #[p, x], argTypes := #[26, 26] })
    {B c : Nat} {V : Value} {l : List Ev} {g : Nat} {k f t v a : Int} {s : ByteArray} {u : Int} {ya : Array Value} (hya : ya = evA k f t v a s u) (hs : ac.eval p = V) (hx : ac.eval x = .slice (some ⟨g, 0, none⟩) 1 c) (hg : g = w.heap.size) (hf : EvRow w B V l) (hB : B ≤ w.heap.size) (hn : l.length ≤ 2199023255550)
    (h : ∀ v' w', EvRow w' B v' (l ++ [⟨k, f, t, v, a, s.data.toList, u⟩]) → Below B w w' → (∀ k, k < w.heap.size → some k ≠ V.ownBlock → w'.heap[k]? = w.heap[k]?) → wpList Try.prog ops Q rest (ac.put o.dst v') w') : wpList Try.prog ops Q (o :: rest) ac (w.alloc (.cells ya 48)) :=
  wpList_append_k2 (P := Try.prog) Try.underlying26 ev_info rfl (by omega) evC_size hgd p x ho ⟨k, f, t, v, a, s.data.toList, u⟩ (hya.trans (evC_mk k f t v a s u)) hs hx hg hf hB (by subst hya; rfl) (by omega) (by omega) h

/-- The events joined: one more. -/
def mgs (o : List Ev) (e : Ev) : List Ev := match o.getLast? with
  | none => [e]
  | some m => if tcE m e = true then o.dropLast ++ [{ m with t := e.t }] else o ++ [e]
def mg (l : List Ev) : List Ev := l.foldl mgs []
theorem mgs_nil (e : Ev) : mgs [] e = [e] := rfl
theorem mgs_snoc (o : List Ev) (m e : Ev) : mgs (o ++ [m]) e = if tcE m e = true then o ++ [{ m with t := e.t }] else o ++ [m] ++ [e] := by simp [mgs]
theorem mg_take {l : List Ev} {j : Nat} (hj : j < l.length) : mg (l.take (j + 1)) = mgs (mg (l.take j)) l[j] := by
  unfold mg
  rw [List.take_succ_eq_append_getElem hj, List.foldl_append]
  rfl
theorem ev_nil_or_snoc (l : List Ev) : l = [] ∨ ∃ o x, l = o ++ [x] := by
  cases h : l.reverse with
  | nil => exact .inl (by simpa using h)
  | cons a r => exact .inr ⟨r.reverse, a, by have := congrArg List.reverse h; simpa using this⟩
theorem mgs_len (o : List Ev) (e : Ev) : (mgs o e).length ≤ o.length + 1 := by
  rcases ev_nil_or_snoc o with rfl | ⟨o, m, rfl⟩
  · simp [mgs_nil]
  · rw [mgs_snoc]; split <;> simp
theorem mg_len (l : List Ev) : ∀ j, j ≤ l.length → (mg (l.take j)).length ≤ j
  | 0, _ => by simp [mg]
  | j + 1, h => by
    rw [mg_take (by omega)]
    have := mgs_len (mg (l.take j)) l[j]
    have := mg_len l j (by omega)
    omega
/-- The cells of the last element of a row. -/
theorem row_seven {w : World} {B g n c : Nat} {o : List Ev} {m : Ev} (h : EvRow w B (.slice (some ⟨g, 0, none⟩) n c) (o ++ [m])) :
    w.cell? ⟨g, o.length * 7, none⟩ = some (.int .i64 m.k) ∧ w.cell? ⟨g, o.length * 7 + 1, none⟩ = some (.int .i64 m.f) ∧ w.cell? ⟨g, o.length * 7 + 2, none⟩ = some (.int .i64 m.t) ∧ w.cell? ⟨g, o.length * 7 + 3, none⟩ = some (.int .i64 m.v) ∧ w.cell? ⟨g, o.length * 7 + 4, none⟩ = some (.int .i64 m.a) ∧ w.cell? ⟨g, o.length * 7 + 5, none⟩ = some (.string ⟨m.d.toArray⟩) ∧ w.cell? ⟨g, o.length * 7 + 6, none⟩ = some (.int .i64 m.u) := by
  have e : (o ++ [m])[o.length]'(by simp) = m := by simp
  have H := fun i hi => h.cell evC_size o.length (by simp) i hi
  rw [e] at H
  exact ⟨H 0 (by omega), H 1 (by omega), H 2 (by omega), H 3 (by omega), H 4 (by omega), H 5 (by omega), H 6 (by omega)⟩
theorem row_to {w : World} {B g n c : Nat} {o : List Ev} {m : Ev} (h : EvRow w B (.slice (some ⟨g, 0, none⟩) n c) (o ++ [m])) (t : Int) :
    EvRow (w.setCell ⟨g, o.length * 7 + 2, none⟩ (.int .i64 t)) B (.slice (some ⟨g, 0, none⟩) n c) (o ++ [{ m with t := t }]) := by
  have e : (o ++ [m])[o.length]'(by simp) = m := by simp
  have := KRow.cellSet evC_size h o.length 2 (by simp) (by omega) (.int .i64 t) { m with t := t } (by rw [e]; rfl)
  rw [show (o ++ [m]).set o.length { m with t := t } = o ++ [{ m with t := t }] by simp] at this
  exact this
theorem held_mrg {W0 w w' : World} {b g p : Nat} {x0 x1 x2 x3 x4 : Int} {x5 : ByteArray} {x6 : Int} {y0 y1 y2 y3 y4 : Int} {y5 : ByteArray} {y6 : Int} (h : w.cell? ⟨b, 0, none⟩ = some (.int .i64 x0) ∧ w.cell? ⟨b, 1, none⟩ = some (.int .i64 x1) ∧ w.cell? ⟨b, 2, none⟩ = some (.int .i64 x2) ∧ w.cell? ⟨b, 3, none⟩ = some (.int .i64 x3) ∧ w.cell? ⟨b, 4, none⟩ = some (.int .i64 x4) ∧ w.cell? ⟨b, 5, none⟩ = some (.string x5) ∧ w.cell? ⟨b, 6, none⟩ = some (.int .i64 x6) ∧ w.cell? ⟨g, p, none⟩ = some (.int .i64 y0) ∧ w.cell? ⟨g, p + 1, none⟩ = some (.int .i64 y1) ∧ w.cell? ⟨g, p + 2, none⟩ = some (.int .i64 y2) ∧ w.cell? ⟨g, p + 3, none⟩ = some (.int .i64 y3) ∧ w.cell? ⟨g, p + 4, none⟩ = some (.int .i64 y4) ∧ w.cell? ⟨g, p + 5, none⟩ = some (.string y5) ∧ w.cell? ⟨g, p + 6, none⟩ = some (.int .i64 y6) ∧ Below W0.heap.size W0 w ∧ b < w.heap.size ∧ g < w.heap.size) (hb : Below w.heap.size w w') : w'.cell? ⟨b, 0, none⟩ = some (.int .i64 x0) ∧ w'.cell? ⟨b, 1, none⟩ = some (.int .i64 x1) ∧ w'.cell? ⟨b, 2, none⟩ = some (.int .i64 x2) ∧ w'.cell? ⟨b, 3, none⟩ = some (.int .i64 x3) ∧ w'.cell? ⟨b, 4, none⟩ = some (.int .i64 x4) ∧ w'.cell? ⟨b, 5, none⟩ = some (.string x5) ∧ w'.cell? ⟨b, 6, none⟩ = some (.int .i64 x6) ∧ w'.cell? ⟨g, p, none⟩ = some (.int .i64 y0) ∧ w'.cell? ⟨g, p + 1, none⟩ = some (.int .i64 y1) ∧ w'.cell? ⟨g, p + 2, none⟩ = some (.int .i64 y2) ∧ w'.cell? ⟨g, p + 3, none⟩ = some (.int .i64 y3) ∧ w'.cell? ⟨g, p + 4, none⟩ = some (.int .i64 y4) ∧ w'.cell? ⟨g, p + 5, none⟩ = some (.string y5) ∧ w'.cell? ⟨g, p + 6, none⟩ = some (.int .i64 y6) ∧ Below W0.heap.size W0 w' ∧ b < w'.heap.size ∧ g < w'.heap.size := by
  obtain ⟨a0, a1, a2, a3, a4, a5, a6, b0, b1, b2, b3, b4, b5, b6, hB, l1, l2⟩ := h
  have hs := hb.size
  exact ⟨(hb.cell l1).trans a0, (hb.cell l1).trans a1, (hb.cell l1).trans a2, (hb.cell l1).trans a3, (hb.cell l1).trans a4, (hb.cell l1).trans a5, (hb.cell l1).trans a6, (hb.cell l2).trans b0, (hb.cell l2).trans b1, (hb.cell l2).trans b2, (hb.cell l2).trans b3, (hb.cell l2).trans b4, (hb.cell l2).trans b5, (hb.cell l2).trans b6, hB.trans (hb.mono hB.size), by omega, by omega⟩

set_option maxRecDepth 20000 in
set_option maxHeartbeats 8000000 in
theorem merge_any (l : List Ev) (V : Value) (w : World) (hT : EvArg w V l) (hn : l.length ≤ 2199023255550) : Calls Try.prog 13 #[V] w fun e w' => ∃ v : Value, e = .returned v ∧ EvRow w' w.heap.size v (mg l) ∧ Below w.heap.size w w' := by
  have CI := Lib.hid (fun k f t v a s u k' f' t' v' a' s' u' W => touch_xy k f t v a s u k' f' t' v' a' s' u' W)
  obtain ⟨A0, c0, rfl, hA0⟩ := hT
  have HA := Lib.hid hA0
  clear hA0
  go_enter Try.func13, Try.ntmps13
  go_wp2
  go_loopw [9, 3] (fun i r wr => ∃ (j : Nat), j ≤ l.length ∧ i = .int .i64 j ∧ Hid (EvRow wr w.heap.size r (mg (l.take j))) ∧ Hid (Below w.heap.size w wr)) (fun i _ _ => l.length - (intOf i).toNat)
  case atStart => exact ⟨0, Nat.zero_le _, rfl, Lib.hid (KRow.nil _ _), Lib.hid (Below.refl _ _)⟩
  case round =>
    obtain ⟨j, hj, rfl, HR, HB⟩ := hrel
    have hb := HB.out
    by_cases hjl : j < l.length
    · obtain ⟨g, o, rfl, hg, hc⟩ := HA.out (by omega)
      obtain ⟨a0, a1, a2, a3, a4, a5, a6⟩ := arg_seven hc j hjl
      have f0 := (hb.cell (p := ⟨g, o + j * 7, none⟩) hg).trans a0
      have f1 := (hb.cell (p := ⟨g, o + j * 7 + 1, none⟩) hg).trans a1
      have f2 := (hb.cell (p := ⟨g, o + j * 7 + 2, none⟩) hg).trans a2
      have f3 := (hb.cell (p := ⟨g, o + j * 7 + 3, none⟩) hg).trans a3
      have f4 := (hb.cell (p := ⟨g, o + j * 7 + 4, none⟩) hg).trans a4
      have f5 := (hb.cell (p := ⟨g, o + j * 7 + 5, none⟩) hg).trans a5
      have f6 := (hb.cell (p := ⟨g, o + j * 7 + 6, none⟩) hg).trans a6
      have HM := Lib.hid (mg_take hjl)
      have hml := mg_len l j hj
      have hev : Hid (l[j] = ⟨l[j].k, l[j].f, l[j].t, l[j].v, l[j].a, (⟨l[j].d.toArray⟩ : ByteArray).data.toList, l[j].u⟩) := Lib.hid rfl
      clear a0 a1 a2 a3 a4 a5 a6 hc
      obtain ⟨W0, b0, eW0, eb0, HS⟩ := seven_at wr l[j].k l[j].f l[j].t l[j].v l[j].a ⟨l[j].d.toArray⟩ l[j].u 48
      generalize (⟨l[j].d.toArray⟩ : ByteArray) = x5 at *
      generalize l[j].k = x0 at *
      generalize l[j].f = x1 at *
      generalize l[j].t = x2 at *
      generalize l[j].v = x3 at *
      generalize l[j].a = x4 at *
      generalize l[j].u = x6 at *
      have EW := Lib.hid eW0; have EB := Lib.hid eb0
      have HRW : Hid (∀ v, EvRow wr w.heap.size v (mg (l.take j)) → EvRow W0 w.heap.size v (mg (l.take j))) := Lib.hid fun v h => by subst eW0; exact h.alloc _
      have HWB : Hid (Below wr.heap.size wr W0) := Lib.hid HS.2.2.2.2.2.2.2.1
      have hs := Lib.hid HS
      clear HS eW0 eb0
      generalize mg (l.take j) = Z at *
      rcases ev_nil_or_snoc Z with rfl | ⟨q, m, rfl⟩
      · have HM' : Hid (mg (l.take (j + 1)) = [] ++ [⟨x0, x1, x2, x3, x4, x5.data.toList, x6⟩]) := Lib.hid (by rw [HM.out, mgs_nil, hev.out]; rfl)
        clear HM hev
        obtain ⟨UA, UN, UC, rfl, hUN⟩ := HR.out.form
        obtain rfl : UN = 0 := hUN
        have hk0 : decide ((0 : Int) ≤ -1) = false := by decide
        have HR1 := Lib.hid (HRW.out _ HR.out)
        clear HRW
        go_wp2
        rw [← EW.out, ← EB.out]
        clear EW EB
        go_quiet (fail)
        have hs1 := held_one hs.out (Go.below_drewN (Below.refl _ _) nq)
        have HR2 := Lib.hid (HR1.out.drewN nq)
        generalize W0.drewN nq = W1 at *
        obtain ⟨d0, d1, d2, d3, d4, d5, d6, B1, l1⟩ := hs1
        have hle : w.heap.size ≤ W1.heap.size := Nat.le_trans hb.size B1.size
        go_wp2_with (first
          | (at_builtin; go_must (refine wpList_append_ev2 rfl _ _ rfl rfl rfl rfl (by simp only [World.size_alloc]) HR2.out hle (by simp) ?_; intro v5 w5 R5 b5 n5)))
        go_roundw
        case rel => exact ⟨j + 1, by omega, val_int (by omega), Lib.hid (by rw [HM'.out]; exact R5), Lib.hid (hb.trans ((B1.mono hb.size).trans b5))⟩
        case measure => simp [intOf]; omega
      · have hlen : (q ++ [m]).length = q.length + 1 := by simp
        obtain ⟨g2, c2, rfl⟩ := HR.out.full (by omega)
        obtain ⟨hN, hNc, hBg, hgw⟩ := HR.out.len
        have HR1 := Lib.hid (HRW.out _ HR.out)
        have hm7 := row_seven HR1.out
        have hsz0 := HWB.out.size
        have HT := Lib.hid (fun (W : World) (h : EvRow W w.heap.size (.slice (some ⟨g2, 0, none⟩) (q ++ [m]).length c2) (q ++ [m])) t => row_to h t)
        have htc : tcE m ⟨x0, x1, x2, x3, x4, x5.data.toList, x6⟩ = (plF m.k m.a ⟨m.d.toArray⟩ m.u && (plF x0 x4 x5 x6 && (m.v == x3 && m.t == x1))) := by unfold tcE plE; simp only [bytes_of]
        have HM1 := HM.out
        rw [mgs_snoc, hev.out, htc] at HM1
        have CIq : Hid (∀ W, Calls Try.prog 31 #[.agg (evA m.k m.f m.t m.v m.a ⟨m.d.toArray⟩ m.u), .agg (evA x0 x1 x2 x3 x4 x5 x6)] W fun e w' => e = .returned (.bool (plF m.k m.a ⟨m.d.toArray⟩ m.u && (plF x0 x4 x5 x6 && (m.v == x3 && m.t == x1)))) ∧ Below W.heap.size W w') := Lib.hid fun W => CI.out _ _ _ _ _ _ _ _ _ _ _ _ _ _ W
        generalize (plF m.k m.a ⟨m.d.toArray⟩ m.u && (plF x0 x4 x5 x6 && (m.v == x3 && m.t == x1))) = tt at HM1 CIq
        have HM2 := Lib.hid HM1
        have hk0 : decide ((0 : Int) ≤ (q.length : Int)) = true := decide_eq_true (by omega)
        have hs0 := Lib.hid (And.intro hm7 (And.intro hs.out (show g2 < W0.heap.size by omega)))
        rw [hlen] at hml hN hNc HR HR1 HT
        clear HM1 HM hev htc CI hm7 HRW
        rw [hlen]
        generalize q.length = K at *
        have hs2 : W0.cell? ⟨b0, 0, none⟩ = some (.int .i64 x0) ∧ W0.cell? ⟨b0, 1, none⟩ = some (.int .i64 x1) ∧ W0.cell? ⟨b0, 2, none⟩ = some (.int .i64 x2) ∧ W0.cell? ⟨b0, 3, none⟩ = some (.int .i64 x3) ∧ W0.cell? ⟨b0, 4, none⟩ = some (.int .i64 x4) ∧ W0.cell? ⟨b0, 5, none⟩ = some (.string x5) ∧ W0.cell? ⟨b0, 6, none⟩ = some (.int .i64 x6) ∧ W0.cell? ⟨g2, K * 7, none⟩ = some (.int .i64 m.k) ∧ W0.cell? ⟨g2, K * 7 + 1, none⟩ = some (.int .i64 m.f) ∧ W0.cell? ⟨g2, K * 7 + 2, none⟩ = some (.int .i64 m.t) ∧ W0.cell? ⟨g2, K * 7 + 3, none⟩ = some (.int .i64 m.v) ∧ W0.cell? ⟨g2, K * 7 + 4, none⟩ = some (.int .i64 m.a) ∧ W0.cell? ⟨g2, K * 7 + 5, none⟩ = some (.string ⟨m.d.toArray⟩) ∧ W0.cell? ⟨g2, K * 7 + 6, none⟩ = some (.int .i64 m.u) ∧ Below W0.heap.size W0 W0 ∧ b0 < W0.heap.size ∧ g2 < W0.heap.size := by
          obtain ⟨⟨e0, e1, e2, e3, e4, e5, e6⟩, ⟨d0, d1, d2, d3, d4, d5, d6, B1, l1⟩, l2⟩ := hs0.out
          exact ⟨d0, d1, d2, d3, d4, d5, d6, e0, e1, e2, e3, e4, e5, e6, Below.refl _ _, l1, l2⟩
        have hs3 := Lib.hid hs2
        clear hs2 hs0 hs
        go_wp2
        rw [← EW.out, ← EB.out]
        clear EW EB
        have hk1 : (0 : Int) ≤ (K : Int) := by omega
        have hk2 : (K : Int) < (K : Int) + 1 := by omega
        go_region_held3 (fun w' => w'.cell? ⟨b0, 0, none⟩ = some (.int .i64 x0) ∧ w'.cell? ⟨b0, 1, none⟩ = some (.int .i64 x1) ∧ w'.cell? ⟨b0, 2, none⟩ = some (.int .i64 x2) ∧ w'.cell? ⟨b0, 3, none⟩ = some (.int .i64 x3) ∧ w'.cell? ⟨b0, 4, none⟩ = some (.int .i64 x4) ∧ w'.cell? ⟨b0, 5, none⟩ = some (.string x5) ∧ w'.cell? ⟨b0, 6, none⟩ = some (.int .i64 x6) ∧ w'.cell? ⟨g2, K * 7, none⟩ = some (.int .i64 m.k) ∧ w'.cell? ⟨g2, K * 7 + 1, none⟩ = some (.int .i64 m.f) ∧ w'.cell? ⟨g2, K * 7 + 2, none⟩ = some (.int .i64 m.t) ∧ w'.cell? ⟨g2, K * 7 + 3, none⟩ = some (.int .i64 m.v) ∧ w'.cell? ⟨g2, K * 7 + 4, none⟩ = some (.int .i64 m.a) ∧ w'.cell? ⟨g2, K * 7 + 5, none⟩ = some (.string ⟨m.d.toArray⟩) ∧ w'.cell? ⟨g2, K * 7 + 6, none⟩ = some (.int .i64 m.u) ∧ Below W0.heap.size W0 w' ∧ b0 < w'.heap.size ∧ g2 < w'.heap.size) (first | assumption | exact held_mrg hs3.out (Below.refl _ _).drew | exact held_mrg (by assumption) (Below.refl _ _).drew | fail)
          (first | (go_at_call 31; refine (CIq.out _).mono ?_; rintro e5 w5 ⟨rfl, b5⟩; have h5 := held_mrg (by assumption) b5))
        rename_i hS9
        obtain ⟨d0, d1, d2, d3, d4, d5, d6, e0, e1, e2, e3, e4, e5, e6, B9, l1, l2⟩ := hS9
        have HR9 := Lib.hid (HR1.out.keep B9)
        have z2 := HR9.out.frozen (K * 7 + 2)
        have hbw := Lib.hid (hb.trans ((HWB.out.mono hb.size).trans (B9.mono (Nat.le_trans hb.size hsz0))))
        have hle9 := hbw.out.size
        cases tt
        · have HM3 : Hid (mg (l.take (j + 1)) = q ++ [m] ++ [⟨x0, x1, x2, x3, x4, x5.data.toList, x6⟩]) := Lib.hid (by rw [HM2.out]; rfl)
          go_wp2_with (first
            | (at_builtin; go_must (refine wpList_append_ev2 rfl _ _ rfl rfl rfl rfl (by simp only [World.size_alloc]) HR9.out hle9 (by rw [hlen]; omega) ?_; intro v5 w5 R5 b5 n5)))
          go_roundw
          case rel => exact ⟨j + 1, by omega, val_int (by omega), Lib.hid (by rw [HM3.out]; exact R5), Lib.hid (hbw.out.trans b5)⟩
          case measure => simp [intOf]; omega
        · have HM3 : Hid (mg (l.take (j + 1)) = q ++ [{ m with t := x2 }]) := Lib.hid (by rw [HM2.out]; rfl)
          go_wp2
          go_roundw
          case rel => exact ⟨j + 1, by omega, val_int (by omega), Lib.hid (by rw [HM3.out]; exact HT.out _ HR9.out x2), Lib.hid (hbw.out.setCell hBg _)⟩
          case measure => simp [intOf]; omega
    · have he : l.take j = l := List.take_of_length_le (by omega)
      rw [he] at HR
      clear he
      go_wp2
      go_returns
      exact ⟨_, rfl, HR.out, hb⟩

end Go.Proofs.Ytcodoakfomddfaa
