/-
  An event appended; the walks of Clip, the program's and the specification's.
-/
import Derived.Test.YtiimdkamgehioaaDoorA6
namespace Go.Proofs.YtiimdkamgehioaaDoor
open Go Go.RowKit Go.Joins
set_option linter.unusedVariables false
set_option linter.unusedSimpArgs false

theorem evC_mk (k f t v a : Int) (s : ByteArray) (u : Int) : evA k f t v a s u = evC ⟨k, f, t, v, a, s.data.toList, u⟩ := by unfold evC; simp only [bytes_of]
/-- An event appended, out of its literal. -/
theorem wpList_append_ev {w : World} {ops : Array Oper} {rest : List Oper} {o : Oper} {ac : Act} {Q : Exit → Act → World → Prop} (hgd : o.guard = none) (p x : Operand)
    (ho : o.op = .call { callee := .builtin .append, args := #[p, x], argTypes := #[28, 28] })
    {B c : Nat} {V : Value} {l : List Ev} {g : Nat} {k f t v a : Int} {s : ByteArray} {u : Int} {ya : Array Value} (hya : ya = evA k f t v a s u) (hs : ac.eval p = V) (hx : ac.eval x = .slice (some ⟨g, 0, none⟩) 1 c) (hg : g = w.heap.size) (hf : EvRow w B V l) (hB : B ≤ w.heap.size) (hn : l.length + 1 ≤ 2199023255552)
    (h : ∀ v' w', EvRow w' B v' (l ++ [⟨k, f, t, v, a, s.data.toList, u⟩]) → Below B w w' → wpList Tryd.prog ops Q rest (ac.put o.dst v') w') : wpList Tryd.prog ops Q (o :: rest) ac (w.alloc (.cells ya 23)) :=
  wpList_append_k (P := Tryd.prog) Tryd.underlying28 ev_info rfl (by omega) evC_size hgd p x ho ⟨k, f, t, v, a, s.data.toList, u⟩ (hya.trans (evC_mk k f t v a s u)) hs hx hg hf hB (by subst hya; rfl) (by omega) (by omega) h

/-- The events inside. -/
def clE (l : List Ev) (F T : Int) : List Ev := l.filter fun e => decide (F ≤ e.f) && decide (e.t ≤ T)
theorem clE_snoc (l : List Ev) (e : Ev) (F T : Int) : clE (l ++ [e]) F T = if (decide (F ≤ e.f) && decide (e.t ≤ T)) = true then clE l F T ++ [e] else clE l F T := by
  unfold clE
  rw [List.filter_append, List.filter_cons, List.filter_nil]
  cases (decide (F ≤ e.f) && decide (e.t ≤ T)) <;> simp
theorem clE_len (l : List Ev) (F T : Int) : (clE l F T).length ≤ l.length := List.length_filter_le _ _
theorem clE_nil (F T : Int) : clE [] F T = [] := rfl

set_option maxRecDepth 20000 in
set_option maxHeartbeats 4000000 in
theorem clip_any (l : List Ev) (V : Value) (F T : Int) (w : World) (h1 : EvArg w V l) (hl : l.length ≤ 1000) :
    Calls Tryd.prog 21 #[V, .agg #[.int .i64 F, .int .i64 T]] w fun e w' => ∃ v, e = .returned v ∧ EvRow w' w.heap.size v (clE l F T) ∧ Below w.heap.size w w' := by
  obtain ⟨A1, c1, rfl, h1⟩ := h1
  have hl' : (l.length : Int) ≤ 1000 := by omega
  have H1 := Lib.hid h1
  clear h1
  have hbox := RowAt.new w 30 #[.int .i64 F, .int .i64 T]
  have B0 : Below w.heap.size w (w.alloc (.cells #[.int .i64 F, .int .i64 T] 30)) := ba _ _
  have hsz : (w.alloc (.cells #[.int .i64 F, .int .i64 T] 30)).heap.size = w.heap.size + 1 := World.size_alloc _ _
  have hq0 : (w.alloc (.cells #[.int .i64 F, .int .i64 T] 30)).cell? ⟨w.heap.size, 0, none⟩ = some (.int .i64 F) := hbox.cell 0
  have hq1 : (w.alloc (.cells #[.int .i64 F, .int .i64 T] 30)).cell? ⟨w.heap.size, 1, none⟩ = some (.int .i64 T) := hbox.cell 1
  have HQ := Lib.hid (And.intro hq0 hq1)
  clear hq0 hq1 hbox
  have hW : ∃ W, W = w.alloc (.cells #[.int .i64 F, .int .i64 T] 30) := ⟨_, rfl⟩
  obtain ⟨W, eW⟩ := hW
  rw [← eW] at B0 hsz HQ
  have HB0 := Lib.hid B0
  have HSZ := Lib.hid hsz
  go_enter Tryd.func21, Tryd.ntmps21
  go_wp2
  rw [← eW]
  clear eW B0 hsz
  go_loopw [10, 5] (fun x r wr => ∃ (k : Nat), k ≤ l.length ∧ x = .int .i64 k ∧ Hid (EvRow wr W.heap.size r (clE (l.take k) F T)) ∧ Hid (Below W.heap.size W wr)) (fun x _ _ => l.length - (intOf x).toNat)
  case atStart => exact ⟨0, by omega, rfl, Lib.hid (KRow.nil _ _), Lib.hid (Below.refl _ _)⟩
  case round =>
    obtain ⟨k, hk, rfl, HR, HB⟩ := hrel
    have hb := HB.out
    by_cases hlt : k < l.length
    · obtain ⟨g1, o1, rfl, hg1, hc1⟩ := H1.out (by omega)
      have hbb : Below w.heap.size w wr := HB0.out.trans (hb.mono HB0.out.size)
      have H2 : ∀ j (hj : j < l.length) i, i < 7 → wr.cell? ⟨g1, o1 + j * 7 + i, none⟩ = (evC l[j])[i]? := fun j hj i hi => (hbb.cell (p := ⟨g1, o1 + j * 7 + i, none⟩) hg1).trans (hc1 j hj i hi)
      obtain ⟨a0, a1, a2, a3, a4, a5, a6⟩ := arg_seven H2 k hlt
      have q0 := (hb.cell (p := ⟨w.heap.size, 0, none⟩) (by have := HSZ.out; show w.heap.size < _; omega)).trans HQ.out.1
      have q1 := (hb.cell (p := ⟨w.heap.size, 1, none⟩) (by have := HSZ.out; show w.heap.size < _; omega)).trans HQ.out.2
      have hst : clE (l.take (k + 1)) F T = if (decide (F ≤ l[k].f) && decide (l[k].t ≤ T)) = true then clE (l.take k) F T ++ [⟨l[k].k, l[k].f, l[k].t, l[k].v, l[k].a, (⟨l[k].d.toArray⟩ : ByteArray).data.toList, l[k].u⟩] else clE (l.take k) F T := by
        rw [List.take_succ_eq_append_getElem hlt, clE_snoc]
      have hlen : (clE (l.take k) F T).length ≤ 1000 := Nat.le_trans (clE_len _ _ _) (by rw [List.length_take]; omega)
      have q0' : ∀ o, (wr.alloc o).cell? ⟨w.heap.size, 0, none⟩ = some (.int .i64 F) := fun o => ((ba wr o).cell (p := ⟨w.heap.size, 0, none⟩) (by have := HSZ.out; have := hb.size; show w.heap.size < _; omega)).trans q0
      have q1' : ∀ o, (wr.alloc o).cell? ⟨w.heap.size, 1, none⟩ = some (.int .i64 T) := fun o => ((ba wr o).cell (p := ⟨w.heap.size, 1, none⟩) (by have := HSZ.out; have := hb.size; show w.heap.size < _; omega)).trans q1
      clear hc1 H2 hbb
      generalize (⟨l[k].d.toArray⟩ : ByteArray) = x5 at *
      generalize l[k].k = x0 at *
      generalize l[k].f = x1 at *
      generalize l[k].t = x2 at *
      generalize l[k].v = x3 at *
      generalize l[k].a = x4 at *
      generalize l[k].u = x6 at *
      have HL := Lib.hid hlen
      clear hlen
      by_cases i1 : F ≤ x1 <;> by_cases i2 : x2 ≤ T
      all_goals
        simp only [i1, i2, decide_true, decide_false, Bool.and_self, Bool.and_false, Bool.false_and, Bool.true_and, if_true, if_false, Bool.false_eq_true] at hst
        have HST := Lib.hid hst
        clear hst
        first | (have d1 := decide_eq_false i1) | (have d1 := decide_eq_true i1)
        first | (have d2 := decide_eq_false i2) | (have d2 := decide_eq_true i2)
        go_wp2_with (first
          | (at_builtin; go_must (refine wpList_append_ev rfl _ _ rfl rfl rfl rfl (by first | rfl | simp only [World.size_alloc]) ((HR.out.alloc _)) (le_alloc hb.size _) (by have := HL.out; omega) ?_; intro v5 w5 R5 b5; have B5 := Lib.hid (((hb.alloc hb.size _).trans b5)))))
        go_roundw
        case rel => exact ⟨k + 1, by omega, by go_num, by first | exact Lib.hid (by rw [HST.out]; exact R5) | exact Lib.hid (by rw [HST.out]; exact (HR.out.alloc _)), by first | exact B5 | exact Lib.hid (by repeat' (first | with_reducible exact Below.refl _ _ | with_reducible exact Nat.le_refl _ | with_reducible assumption | with_reducible refine below_drewN ?_ _ | with_reducible refine Below.drew ?_ | with_reducible refine Below.trans ?_ (Below.mono (by assumption) ?_) | with_reducible refine Below.alloc ?_ ?_ _ | with_reducible refine Below.setCell ?_ ?_ _ | with_reducible refine le_setCell ?_ _ _ | with_reducible refine le_alloc ?_ _ | with_reducible refine le_drewN ?_ _ | with_reducible refine le_drew ?_ | with_reducible refine Nat.le_trans ?_ (Below.size (by assumption)) | (simp only [World.size_alloc, World.size_setCell]; omega)))⟩
        case measure => simp [intOf]; omega
    · have he : l.take k = l := List.take_of_length_le (by omega)
      rw [he] at HR
      go_wp2
      go_returns
      exact ⟨_, rfl, HR.out.mono HB0.out.size, HB0.out.trans (hb.mono HB0.out.size)⟩

set_option maxRecDepth 20000 in
set_option maxHeartbeats 4000000 in
theorem refClip_any (l : List Ev) (V : Value) (F T : Int) (w : World) (h1 : EvArg w V l) (hl : l.length ≤ 1000) :
    Calls Tryd.prog 22 #[V, .agg #[.int .i64 F, .int .i64 T]] w fun e w' => ∃ v, e = .returned v ∧ EvRow w' w.heap.size v (clE l F T) ∧ Below w.heap.size w w' := by
  obtain ⟨A1, c1, rfl, h1⟩ := h1
  have hl' : (l.length : Int) ≤ 1000 := by omega
  have H1 := Lib.hid h1
  clear h1
  have hbox := RowAt.new w 30 #[.int .i64 F, .int .i64 T]
  have B0 : Below w.heap.size w (w.alloc (.cells #[.int .i64 F, .int .i64 T] 30)) := ba _ _
  have hsz : (w.alloc (.cells #[.int .i64 F, .int .i64 T] 30)).heap.size = w.heap.size + 1 := World.size_alloc _ _
  have hq0 : (w.alloc (.cells #[.int .i64 F, .int .i64 T] 30)).cell? ⟨w.heap.size, 0, none⟩ = some (.int .i64 F) := hbox.cell 0
  have hq1 : (w.alloc (.cells #[.int .i64 F, .int .i64 T] 30)).cell? ⟨w.heap.size, 1, none⟩ = some (.int .i64 T) := hbox.cell 1
  have HQ := Lib.hid (And.intro hq0 hq1)
  clear hq0 hq1 hbox
  have hW : ∃ W, W = w.alloc (.cells #[.int .i64 F, .int .i64 T] 30) := ⟨_, rfl⟩
  obtain ⟨W, eW⟩ := hW
  rw [← eW] at B0 hsz HQ
  have HB0 := Lib.hid B0
  have HSZ := Lib.hid hsz
  go_enter Tryd.func22, Tryd.ntmps22
  go_wp2
  rw [← eW]
  clear eW B0 hsz
  go_loopw [6, 5] (fun x r wr => ∃ (k : Nat), k ≤ l.length ∧ x = .int .i64 k ∧ Hid (EvRow wr W.heap.size r (clE (l.take k) F T)) ∧ Hid (Below W.heap.size W wr)) (fun x _ _ => l.length - (intOf x).toNat)
  case atStart => exact ⟨0, by omega, rfl, Lib.hid (by rw [← HSZ.out]; exact KRow.lit evC_size W W.heap.size (Nat.le_refl _) [] #[] rfl 0 rfl (by simp)), Lib.hid (ba W _)⟩
  case round =>
    obtain ⟨k, hk, rfl, HR, HB⟩ := hrel
    have hb := HB.out
    by_cases hlt : k < l.length
    · obtain ⟨g1, o1, rfl, hg1, hc1⟩ := H1.out (by omega)
      have hbb : Below w.heap.size w wr := HB0.out.trans (hb.mono HB0.out.size)
      have H2 : ∀ j (hj : j < l.length) i, i < 7 → wr.cell? ⟨g1, o1 + j * 7 + i, none⟩ = (evC l[j])[i]? := fun j hj i hi => (hbb.cell (p := ⟨g1, o1 + j * 7 + i, none⟩) hg1).trans (hc1 j hj i hi)
      obtain ⟨a0, a1, a2, a3, a4, a5, a6⟩ := arg_seven H2 k hlt
      have q0 := (hb.cell (p := ⟨w.heap.size, 0, none⟩) (by have := HSZ.out; show w.heap.size < _; omega)).trans HQ.out.1
      have q1 := (hb.cell (p := ⟨w.heap.size, 1, none⟩) (by have := HSZ.out; show w.heap.size < _; omega)).trans HQ.out.2
      have hst : clE (l.take (k + 1)) F T = if (decide (F ≤ l[k].f) && decide (l[k].t ≤ T)) = true then clE (l.take k) F T ++ [⟨l[k].k, l[k].f, l[k].t, l[k].v, l[k].a, (⟨l[k].d.toArray⟩ : ByteArray).data.toList, l[k].u⟩] else clE (l.take k) F T := by
        rw [List.take_succ_eq_append_getElem hlt, clE_snoc]
      have hlen : (clE (l.take k) F T).length ≤ 1000 := Nat.le_trans (clE_len _ _ _) (by rw [List.length_take]; omega)
      have q0' : ∀ o, (wr.alloc o).cell? ⟨w.heap.size, 0, none⟩ = some (.int .i64 F) := fun o => ((ba wr o).cell (p := ⟨w.heap.size, 0, none⟩) (by have := HSZ.out; have := hb.size; show w.heap.size < _; omega)).trans q0
      have q1' : ∀ o, (wr.alloc o).cell? ⟨w.heap.size, 1, none⟩ = some (.int .i64 T) := fun o => ((ba wr o).cell (p := ⟨w.heap.size, 1, none⟩) (by have := HSZ.out; have := hb.size; show w.heap.size < _; omega)).trans q1
      clear hc1 H2 hbb
      generalize (⟨l[k].d.toArray⟩ : ByteArray) = x5 at *
      generalize l[k].k = x0 at *
      generalize l[k].f = x1 at *
      generalize l[k].t = x2 at *
      generalize l[k].v = x3 at *
      generalize l[k].a = x4 at *
      generalize l[k].u = x6 at *
      have HL := Lib.hid hlen
      clear hlen
      by_cases i1 : F ≤ x1 <;> by_cases i2 : x2 ≤ T
      all_goals
        simp only [i1, i2, decide_true, decide_false, Bool.and_self, Bool.and_false, Bool.false_and, Bool.true_and, if_true, if_false, Bool.false_eq_true] at hst
        have HST := Lib.hid hst
        clear hst
        first | (have d1 := decide_eq_false i1) | (have d1 := decide_eq_true i1)
        first | (have d2 := decide_eq_false i2) | (have d2 := decide_eq_true i2)
        go_wp2
        go_quiet (fail)
        go_wp2_with (first
          | (at_builtin; go_must (refine wpList_append_ev rfl _ _ rfl rfl rfl rfl (by first | rfl | simp only [World.size_alloc]) ((HR.out.drewN _)) (le_drewN hb.size _) (by have := HL.out; omega) ?_; intro v5 w5 R5 b5; have B5 := Lib.hid (((hb.trans (Go.below_drewN (Below.refl _ _) _)).trans b5)))))
        go_roundw
        case rel => exact ⟨k + 1, by omega, by go_num, by first | exact Lib.hid (by rw [HST.out]; exact R5) | exact Lib.hid (by rw [HST.out]; exact (HR.out.drewN _)), by first | exact B5 | exact Lib.hid (by repeat' (first | with_reducible exact Below.refl _ _ | with_reducible exact Nat.le_refl _ | with_reducible assumption | with_reducible refine below_drewN ?_ _ | with_reducible refine Below.drew ?_ | with_reducible refine Below.trans ?_ (Below.mono (by assumption) ?_) | with_reducible refine Below.alloc ?_ ?_ _ | with_reducible refine Below.setCell ?_ ?_ _ | with_reducible refine le_setCell ?_ _ _ | with_reducible refine le_alloc ?_ _ | with_reducible refine le_drewN ?_ _ | with_reducible refine le_drew ?_ | with_reducible refine Nat.le_trans ?_ (Below.size (by assumption)) | (simp only [World.size_alloc, World.size_setCell]; omega)))⟩
        case measure => simp [intOf]; omega
    · have he : l.take k = l := List.take_of_length_le (by omega)
      rw [he] at HR
      go_wp2
      go_returns
      exact ⟨_, rfl, HR.out.mono HB0.out.size, HB0.out.trans (hb.mono HB0.out.size)⟩

end Go.Proofs.YtiimdkamgehioaaDoor
