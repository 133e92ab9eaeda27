/-
  The walks of the specification's insert, Sort and Ordered.
-/
import Derived.Test.YtddphdohjceonaaGreatDoorA16
import Derived.Test.YtddphdohjceonaaGreatDoorA7
namespace Go.Proofs.YtddphdohjceonaaGreatDoor
open Go Go.RowKit Go.Joins
set_option linter.unusedVariables false
set_option linter.unusedSimpArgs false

theorem held_in {w W W' : World} {b g1 o1 k : Nat} {x0 x1 x2 x3 x4 x6 y0 y1 y2 y3 y4 y6 : Int} {x5 y5 : ByteArray} (h : W.cell? ⟨b, 0, none⟩ = some (.int .i64 x0) ∧ W.cell? ⟨b, 1, none⟩ = some (.int .i64 x1) ∧ W.cell? ⟨b, 2, none⟩ = some (.int .i64 x2) ∧ W.cell? ⟨b, 3, none⟩ = some (.int .i64 x3) ∧ W.cell? ⟨b, 4, none⟩ = some (.int .i64 x4) ∧ W.cell? ⟨b, 5, none⟩ = some (.string x5) ∧ W.cell? ⟨b, 6, none⟩ = some (.int .i64 x6) ∧ W.cell? ⟨g1, o1 + k * 7, none⟩ = some (.int .i64 y0) ∧ W.cell? ⟨g1, o1 + k * 7 + 1, none⟩ = some (.int .i64 y1) ∧ W.cell? ⟨g1, o1 + k * 7 + 2, none⟩ = some (.int .i64 y2) ∧ W.cell? ⟨g1, o1 + k * 7 + 3, none⟩ = some (.int .i64 y3) ∧ W.cell? ⟨g1, o1 + k * 7 + 4, none⟩ = some (.int .i64 y4) ∧ W.cell? ⟨g1, o1 + k * 7 + 5, none⟩ = some (.string y5) ∧ W.cell? ⟨g1, o1 + k * 7 + 6, none⟩ = some (.int .i64 y6) ∧ Below w.heap.size w W ∧ b < W.heap.size ∧ g1 < W.heap.size) (hb : Below W.heap.size W W') : W'.cell? ⟨b, 0, none⟩ = some (.int .i64 x0) ∧ W'.cell? ⟨b, 1, none⟩ = some (.int .i64 x1) ∧ W'.cell? ⟨b, 2, none⟩ = some (.int .i64 x2) ∧ W'.cell? ⟨b, 3, none⟩ = some (.int .i64 x3) ∧ W'.cell? ⟨b, 4, none⟩ = some (.int .i64 x4) ∧ W'.cell? ⟨b, 5, none⟩ = some (.string x5) ∧ W'.cell? ⟨b, 6, none⟩ = some (.int .i64 x6) ∧ W'.cell? ⟨g1, o1 + k * 7, none⟩ = some (.int .i64 y0) ∧ W'.cell? ⟨g1, o1 + k * 7 + 1, none⟩ = some (.int .i64 y1) ∧ W'.cell? ⟨g1, o1 + k * 7 + 2, none⟩ = some (.int .i64 y2) ∧ W'.cell? ⟨g1, o1 + k * 7 + 3, none⟩ = some (.int .i64 y3) ∧ W'.cell? ⟨g1, o1 + k * 7 + 4, none⟩ = some (.int .i64 y4) ∧ W'.cell? ⟨g1, o1 + k * 7 + 5, none⟩ = some (.string y5) ∧ W'.cell? ⟨g1, o1 + k * 7 + 6, none⟩ = some (.int .i64 y6) ∧ Below w.heap.size w W' ∧ b < W'.heap.size ∧ g1 < W'.heap.size := by
  obtain ⟨a0, a1, a2, a3, a4, a5, a6, b0, b1, b2, b3, b4, b5, b6, hB, l1, l2⟩ := h
  have hs := hb.size
  exact ⟨(hb.cell l1).trans a0, (hb.cell l1).trans a1, (hb.cell l1).trans a2, (hb.cell l1).trans a3, (hb.cell l1).trans a4, (hb.cell l1).trans a5, (hb.cell l1).trans a6, (hb.cell l2).trans b0, (hb.cell l2).trans b1, (hb.cell l2).trans b2, (hb.cell l2).trans b3, (hb.cell l2).trans b4, (hb.cell l2).trans b5, (hb.cell l2).trans b6, hB.trans (hb.mono hB.size), by omega, by omega⟩
theorem held_od {w W W' : World} {g1 o1 m : Nat} {x0 x1 x2 x3 x4 x6 y0 y1 y2 y3 y4 y6 : Int} {x5 y5 : ByteArray} (h : W.cell? ⟨g1, o1 + (m + 1) * 7, none⟩ = some (.int .i64 x0) ∧ W.cell? ⟨g1, o1 + (m + 1) * 7 + 1, none⟩ = some (.int .i64 x1) ∧ W.cell? ⟨g1, o1 + (m + 1) * 7 + 2, none⟩ = some (.int .i64 x2) ∧ W.cell? ⟨g1, o1 + (m + 1) * 7 + 3, none⟩ = some (.int .i64 x3) ∧ W.cell? ⟨g1, o1 + (m + 1) * 7 + 4, none⟩ = some (.int .i64 x4) ∧ W.cell? ⟨g1, o1 + (m + 1) * 7 + 5, none⟩ = some (.string x5) ∧ W.cell? ⟨g1, o1 + (m + 1) * 7 + 6, none⟩ = some (.int .i64 x6) ∧ W.cell? ⟨g1, o1 + m * 7, none⟩ = some (.int .i64 y0) ∧ W.cell? ⟨g1, o1 + m * 7 + 1, none⟩ = some (.int .i64 y1) ∧ W.cell? ⟨g1, o1 + m * 7 + 2, none⟩ = some (.int .i64 y2) ∧ W.cell? ⟨g1, o1 + m * 7 + 3, none⟩ = some (.int .i64 y3) ∧ W.cell? ⟨g1, o1 + m * 7 + 4, none⟩ = some (.int .i64 y4) ∧ W.cell? ⟨g1, o1 + m * 7 + 5, none⟩ = some (.string y5) ∧ W.cell? ⟨g1, o1 + m * 7 + 6, none⟩ = some (.int .i64 y6) ∧ Below w.heap.size w W ∧ g1 < W.heap.size) (hb : Below W.heap.size W W') : W'.cell? ⟨g1, o1 + (m + 1) * 7, none⟩ = some (.int .i64 x0) ∧ W'.cell? ⟨g1, o1 + (m + 1) * 7 + 1, none⟩ = some (.int .i64 x1) ∧ W'.cell? ⟨g1, o1 + (m + 1) * 7 + 2, none⟩ = some (.int .i64 x2) ∧ W'.cell? ⟨g1, o1 + (m + 1) * 7 + 3, none⟩ = some (.int .i64 x3) ∧ W'.cell? ⟨g1, o1 + (m + 1) * 7 + 4, none⟩ = some (.int .i64 x4) ∧ W'.cell? ⟨g1, o1 + (m + 1) * 7 + 5, none⟩ = some (.string x5) ∧ W'.cell? ⟨g1, o1 + (m + 1) * 7 + 6, none⟩ = some (.int .i64 x6) ∧ W'.cell? ⟨g1, o1 + m * 7, none⟩ = some (.int .i64 y0) ∧ W'.cell? ⟨g1, o1 + m * 7 + 1, none⟩ = some (.int .i64 y1) ∧ W'.cell? ⟨g1, o1 + m * 7 + 2, none⟩ = some (.int .i64 y2) ∧ W'.cell? ⟨g1, o1 + m * 7 + 3, none⟩ = some (.int .i64 y3) ∧ W'.cell? ⟨g1, o1 + m * 7 + 4, none⟩ = some (.int .i64 y4) ∧ W'.cell? ⟨g1, o1 + m * 7 + 5, none⟩ = some (.string y5) ∧ W'.cell? ⟨g1, o1 + m * 7 + 6, none⟩ = some (.int .i64 y6) ∧ Below w.heap.size w W' ∧ g1 < W'.heap.size := by
  obtain ⟨a0, a1, a2, a3, a4, a5, a6, b0, b1, b2, b3, b4, b5, b6, hB, l1⟩ := h
  have hs := hb.size
  exact ⟨(hb.cell l1).trans a0, (hb.cell l1).trans a1, (hb.cell l1).trans a2, (hb.cell l1).trans a3, (hb.cell l1).trans a4, (hb.cell l1).trans a5, (hb.cell l1).trans a6, (hb.cell l1).trans b0, (hb.cell l1).trans b1, (hb.cell l1).trans b2, (hb.cell l1).trans b3, (hb.cell l1).trans b4, (hb.cell l1).trans b5, (hb.cell l1).trans b6, hB.trans (hb.mono hB.size), by omega⟩

/-- What is still to come of an insertion. -/
def rs (e : Ev) (d : Bool) (l : List Ev) : List Ev := if d = true then l else insE e l
theorem rs_true (e a : Ev) (r o : List Ev) : o ++ rs e true (a :: r) = (o ++ [a]) ++ rs e true r := by simp [rs]
theorem rs_less {e a : Ev} (h : lE e a = true) (r o : List Ev) : o ++ rs e false (a :: r) = ((o ++ [e]) ++ [a]) ++ rs e true r := by simp [rs, insE, h]
theorem rs_more {e a : Ev} (h : lE e a = false) (r o : List Ev) : o ++ rs e false (a :: r) = (o ++ [a]) ++ rs e false r := by simp [rs, insE, h]

set_option maxRecDepth 20000 in
set_option maxHeartbeats 8000000 in
theorem insert_any (l : List Ev) (V : Value) (e : Ev) (w : World) (h1 : EvArg w V l) (hl : l.length ≤ 1000) :
    Calls Tryz.prog 21 #[V, .agg (evC e)] w fun e' w' => ∃ v, e' = .returned v ∧ EvRow w' w.heap.size v (insE e l) ∧ Below w.heap.size w w' := by
  obtain ⟨A1, c1, rfl, h1⟩ := h1
  have hl' : (l.length : Int) ≤ 1000 := by omega
  have H1 := Lib.hid h1
  clear h1
  have HLs : Hid (∀ k (h : k < l.length) W, Calls Tryz.prog 23 #[.agg (evA e.k e.f e.t e.v e.a ⟨e.d.toArray⟩ e.u), .agg (evA l[k].k l[k].f l[k].t l[k].v l[k].a ⟨l[k].d.toArray⟩ l[k].u)] W fun e' w' => e' = .returned (.bool (lE e l[k])) ∧ Below W.heap.size W w') := Lib.hid (fun k h W => refLess_xy e.k e.f e.t e.v e.a ⟨e.d.toArray⟩ e.u l[k].k l[k].f l[k].t l[k].v l[k].a ⟨l[k].d.toArray⟩ l[k].u W)
  have HE0 : Hid (insE e l = [] ++ rs e false l) := Lib.hid (by simp [rs])
  have HEE : Hid ((⟨e.k, e.f, e.t, e.v, e.a, (⟨e.d.toArray⟩ : ByteArray).data.toList, e.u⟩ : Ev) = e) := Lib.hid rfl
  have RB := RowAt.new w 28 (evC e)
  have RB : RowAt (w.alloc (.cells (evC e) 28)) w.heap.size 28 (evA e.k e.f e.t e.v e.a ⟨e.d.toArray⟩ e.u) := RB
  have B0 : Below w.heap.size w (w.alloc (.cells (evC e) 28)) := ba _ _
  have hsz : (w.alloc (.cells (evC e) 28)).heap.size = w.heap.size + 1 := World.size_alloc _ _
  have hW : ∃ W, W = w.alloc (.cells (evC e) 28) := ⟨_, rfl⟩
  obtain ⟨W, eW⟩ := hW
  rw [← eW] at RB B0 hsz
  have HRB := Lib.hid RB; have HB0 := Lib.hid B0; have HSZ := Lib.hid hsz
  clear RB B0
  generalize hI : insE e l = I at HE0 ⊢
  clear hI
  have eW2 : W = w.alloc (.cells (evA e.k e.f e.t e.v e.a ⟨e.d.toArray⟩ e.u) 28) := eW
  rw [show evC e = evA e.k e.f e.t e.v e.a ⟨e.d.toArray⟩ e.u from rfl] at *
  generalize (⟨e.d.toArray⟩ : ByteArray) = x5 at *; generalize e.k = x0 at *; generalize e.f = x1 at *; generalize e.t = x2 at *; generalize e.v = x3 at *; generalize e.a = x4 at *; generalize e.u = x6 at *
  go_enter Tryz.func21, Tryz.ntmps21
  go_wp2
  rw [← eW2, ← hsz]
  clear eW eW2 hsz
  go_loopw [7, 5, 6] (fun x r d wr => ∃ (k : Nat) (o : List Ev) (db : Bool), k ≤ l.length ∧ x = .int .i64 k ∧ d = .bool db ∧ (o.length ≤ k + 1 ∧ (db = false → o.length ≤ k)) ∧ Hid (I = o ++ rs e db (l.drop k)) ∧ Hid (EvRow wr W.heap.size r o) ∧ Hid (Below W.heap.size W wr)) (fun x _ _ _ => l.length - (intOf x).toNat)
  case atStart => exact ⟨0, [], false, by omega, rfl, rfl, ⟨by simp, by simp⟩, HE0, Lib.hid (KRow.lit evC_size W W.heap.size (Nat.le_refl _) [] #[] rfl 0 rfl (by simp)), Lib.hid (ba W _)⟩
  case round =>
    obtain ⟨k, o, db, hk, rfl, rfl, ⟨hol, hol2⟩, HI, HR, HB⟩ := hrel
    have hb := HB.out
    by_cases hlt : k < l.length
    · obtain ⟨g1, o1, rfl, hg1, hc1⟩ := H1.out (by omega)
      have hbb : Below w.heap.size w wr := HB0.out.trans (hb.mono HB0.out.size)
      have hgW : g1 < W.heap.size := Nat.lt_of_lt_of_le hg1 HB0.out.size
      have hbW : w.heap.size < W.heap.size := by have := HSZ.out; omega
      have H2 : ∀ j (hj : j < l.length) i, i < 7 → wr.cell? ⟨g1, o1 + j * 7 + i, none⟩ = (evC l[j])[i]? := fun j hj i hi => (hbb.cell (p := ⟨g1, o1 + j * 7 + i, none⟩) hg1).trans (hc1 j hj i hi)
      obtain ⟨b0, b1, b2, b3, b4, b5, b6⟩ := arg_seven H2 k hlt
      have RB := HRB.out.below hb hbW
      have HLk := HLs.out k hlt
      have hdr : l.drop k = l[k] :: l.drop (k + 1) := List.drop_eq_getElem_cons hlt
      have HDR := Lib.hid hdr
      clear hc1 H2 hbb
      have HLL : Hid ((⟨l[k].k, l[k].f, l[k].t, l[k].v, l[k].a, (⟨l[k].d.toArray⟩ : ByteArray).data.toList, l[k].u⟩ : Ev) = l[k]) := Lib.hid rfl
      cases db with
      | true =>
        clear hol2
        have HI1 : Hid (I = (o ++ [l[k]]) ++ rs e true (l.drop (k + 1))) := Lib.hid (by rw [HI.out, HDR.out, rs_true])
        rw [← HLL.out] at HI1
        clear HI HLk HLs hdr HDR HLL
        generalize (⟨l[k].d.toArray⟩ : ByteArray) = y5 at *; generalize l[k].k = y0 at *; generalize l[k].f = y1 at *; generalize l[k].t = y2 at *; generalize l[k].v = y3 at *; generalize l[k].a = y4 at *; generalize l[k].u = y6 at *
        go_wp2
        go_quiet (fail)
        go_wp2_with (first
          | (at_builtin; go_must (refine wpList_append_ev rfl _ _ rfl rfl rfl rfl rfl (HR.out.drewN _) (le_drewN hb.size _) (by omega) ?_; intro v5 w5 R5 b5; have B5 := Lib.hid ((hb.trans (Go.below_drewN (Below.refl _ _) _)).trans b5))))
        go_roundw
        case rel => exact ⟨k + 1, _, true, by omega, by go_num, rfl, ⟨by simp; omega, by simp⟩, HI1, Lib.hid R5, B5⟩
        case measure => simp [intOf]; omega
      | false =>
        have HO2 := Lib.hid (hol2 rfl)
        clear hol2
        cases hless : lE e l[k] with
        | false =>
          have HI1 : Hid (I = (o ++ [l[k]]) ++ rs e false (l.drop (k + 1))) := Lib.hid (by rw [HI.out, HDR.out, rs_more hless])
          rw [← HLL.out] at HI1
          rw [hless] at HLk
          have HLH := Lib.hid HLk
          clear HI HLk HLs hdr HDR HLL hless
          generalize (⟨l[k].d.toArray⟩ : ByteArray) = y5 at *; generalize l[k].k = y0 at *; generalize l[k].f = y1 at *; generalize l[k].t = y2 at *; generalize l[k].v = y3 at *; generalize l[k].a = y4 at *; generalize l[k].u = y6 at *
          have HS := Lib.hid (show wr.cell? ⟨w.heap.size, 0, none⟩ = some (.int .i64 x0) ∧ wr.cell? ⟨w.heap.size, 1, none⟩ = some (.int .i64 x1) ∧ wr.cell? ⟨w.heap.size, 2, none⟩ = some (.int .i64 x2) ∧ wr.cell? ⟨w.heap.size, 3, none⟩ = some (.int .i64 x3) ∧ wr.cell? ⟨w.heap.size, 4, none⟩ = some (.int .i64 x4) ∧ wr.cell? ⟨w.heap.size, 5, none⟩ = some (.string x5) ∧ wr.cell? ⟨w.heap.size, 6, none⟩ = some (.int .i64 x6) ∧ wr.cell? ⟨g1, o1 + k * 7, none⟩ = some (.int .i64 y0) ∧ wr.cell? ⟨g1, o1 + k * 7 + 1, none⟩ = some (.int .i64 y1) ∧ wr.cell? ⟨g1, o1 + k * 7 + 2, none⟩ = some (.int .i64 y2) ∧ wr.cell? ⟨g1, o1 + k * 7 + 3, none⟩ = some (.int .i64 y3) ∧ wr.cell? ⟨g1, o1 + k * 7 + 4, none⟩ = some (.int .i64 y4) ∧ wr.cell? ⟨g1, o1 + k * 7 + 5, none⟩ = some (.string y5) ∧ wr.cell? ⟨g1, o1 + k * 7 + 6, none⟩ = some (.int .i64 y6) ∧ Below wr.heap.size wr wr ∧ w.heap.size < wr.heap.size ∧ g1 < wr.heap.size from ⟨RB.cell 0, RB.cell 1, RB.cell 2, RB.cell 3, RB.cell 4, RB.cell 5, RB.cell 6, b0, b1, b2, b3, b4, b5, b6, Below.refl _ _, RB.lt, Nat.lt_of_lt_of_le hgW hb.size⟩)
          clear b0 b1 b2 b3 b4 b5 b6 RB
          go_wp2
          go_region_held3 (fun w' => w'.cell? ⟨w.heap.size, 0, none⟩ = some (.int .i64 x0) ∧ w'.cell? ⟨w.heap.size, 1, none⟩ = some (.int .i64 x1) ∧ w'.cell? ⟨w.heap.size, 2, none⟩ = some (.int .i64 x2) ∧ w'.cell? ⟨w.heap.size, 3, none⟩ = some (.int .i64 x3) ∧ w'.cell? ⟨w.heap.size, 4, none⟩ = some (.int .i64 x4) ∧ w'.cell? ⟨w.heap.size, 5, none⟩ = some (.string x5) ∧ w'.cell? ⟨w.heap.size, 6, none⟩ = some (.int .i64 x6) ∧ w'.cell? ⟨g1, o1 + k * 7, none⟩ = some (.int .i64 y0) ∧ w'.cell? ⟨g1, o1 + k * 7 + 1, none⟩ = some (.int .i64 y1) ∧ w'.cell? ⟨g1, o1 + k * 7 + 2, none⟩ = some (.int .i64 y2) ∧ w'.cell? ⟨g1, o1 + k * 7 + 3, none⟩ = some (.int .i64 y3) ∧ w'.cell? ⟨g1, o1 + k * 7 + 4, none⟩ = some (.int .i64 y4) ∧ w'.cell? ⟨g1, o1 + k * 7 + 5, none⟩ = some (.string y5) ∧ w'.cell? ⟨g1, o1 + k * 7 + 6, none⟩ = some (.int .i64 y6) ∧ Below wr.heap.size wr w' ∧ w.heap.size < w'.heap.size ∧ g1 < w'.heap.size) (first | assumption | exact held_in HS.out (Below.refl _ _).drew | exact held_in (by assumption) (Below.refl _ _).drew | fail)
            (first | (go_at_call 23; refine (HLH.out _).mono ?_; rintro e1 w1 ⟨rfl, b1⟩; have h1 := held_in (by assumption) b1) | fail)
          rename_i hS9
          obtain ⟨c0, c1, c2, c3, c4, c5, c6, d0, d1, d2, d3, d4, d5, d6, hB9, l9, g9⟩ := hS9
          have R9 := Lib.hid (HR.out.keep hB9)
          have B9 := Lib.hid (hb.trans (hB9.mono hb.size))
          clear hB9
          go_wp2_with (first
            | (at_builtin; go_must (refine wpList_append_ev rfl _ _ rfl rfl rfl rfl rfl R9.out B9.out.size (by omega) ?_; intro v5 w5 R5 b5; have B5 := Lib.hid (B9.out.trans b5))))
          go_roundw
          case rel => exact ⟨k + 1, _, false, by omega, by go_num, rfl, ⟨by simp; omega, fun _ => by have := HO2.out; simp; omega⟩, HI1, Lib.hid R5, B5⟩
          case measure => simp [intOf]; omega
        | true =>
          have HI1 : Hid (I = ((o ++ [e]) ++ [l[k]]) ++ rs e true (l.drop (k + 1))) := Lib.hid (by rw [HI.out, HDR.out, rs_less hless])
          rw [← HLL.out, ← HEE.out] at HI1
          rw [hless] at HLk
          have HLH := Lib.hid HLk
          clear HI HLk HLs hdr HDR HLL hless
          generalize (⟨l[k].d.toArray⟩ : ByteArray) = y5 at *; generalize l[k].k = y0 at *; generalize l[k].f = y1 at *; generalize l[k].t = y2 at *; generalize l[k].v = y3 at *; generalize l[k].a = y4 at *; generalize l[k].u = y6 at *
          have HS := Lib.hid (show wr.cell? ⟨w.heap.size, 0, none⟩ = some (.int .i64 x0) ∧ wr.cell? ⟨w.heap.size, 1, none⟩ = some (.int .i64 x1) ∧ wr.cell? ⟨w.heap.size, 2, none⟩ = some (.int .i64 x2) ∧ wr.cell? ⟨w.heap.size, 3, none⟩ = some (.int .i64 x3) ∧ wr.cell? ⟨w.heap.size, 4, none⟩ = some (.int .i64 x4) ∧ wr.cell? ⟨w.heap.size, 5, none⟩ = some (.string x5) ∧ wr.cell? ⟨w.heap.size, 6, none⟩ = some (.int .i64 x6) ∧ wr.cell? ⟨g1, o1 + k * 7, none⟩ = some (.int .i64 y0) ∧ wr.cell? ⟨g1, o1 + k * 7 + 1, none⟩ = some (.int .i64 y1) ∧ wr.cell? ⟨g1, o1 + k * 7 + 2, none⟩ = some (.int .i64 y2) ∧ wr.cell? ⟨g1, o1 + k * 7 + 3, none⟩ = some (.int .i64 y3) ∧ wr.cell? ⟨g1, o1 + k * 7 + 4, none⟩ = some (.int .i64 y4) ∧ wr.cell? ⟨g1, o1 + k * 7 + 5, none⟩ = some (.string y5) ∧ wr.cell? ⟨g1, o1 + k * 7 + 6, none⟩ = some (.int .i64 y6) ∧ Below wr.heap.size wr wr ∧ w.heap.size < wr.heap.size ∧ g1 < wr.heap.size from ⟨RB.cell 0, RB.cell 1, RB.cell 2, RB.cell 3, RB.cell 4, RB.cell 5, RB.cell 6, b0, b1, b2, b3, b4, b5, b6, Below.refl _ _, RB.lt, Nat.lt_of_lt_of_le hgW hb.size⟩)
          clear b0 b1 b2 b3 b4 b5 b6 RB
          go_wp2
          go_region_held3 (fun w' => w'.cell? ⟨w.heap.size, 0, none⟩ = some (.int .i64 x0) ∧ w'.cell? ⟨w.heap.size, 1, none⟩ = some (.int .i64 x1) ∧ w'.cell? ⟨w.heap.size, 2, none⟩ = some (.int .i64 x2) ∧ w'.cell? ⟨w.heap.size, 3, none⟩ = some (.int .i64 x3) ∧ w'.cell? ⟨w.heap.size, 4, none⟩ = some (.int .i64 x4) ∧ w'.cell? ⟨w.heap.size, 5, none⟩ = some (.string x5) ∧ w'.cell? ⟨w.heap.size, 6, none⟩ = some (.int .i64 x6) ∧ w'.cell? ⟨g1, o1 + k * 7, none⟩ = some (.int .i64 y0) ∧ w'.cell? ⟨g1, o1 + k * 7 + 1, none⟩ = some (.int .i64 y1) ∧ w'.cell? ⟨g1, o1 + k * 7 + 2, none⟩ = some (.int .i64 y2) ∧ w'.cell? ⟨g1, o1 + k * 7 + 3, none⟩ = some (.int .i64 y3) ∧ w'.cell? ⟨g1, o1 + k * 7 + 4, none⟩ = some (.int .i64 y4) ∧ w'.cell? ⟨g1, o1 + k * 7 + 5, none⟩ = some (.string y5) ∧ w'.cell? ⟨g1, o1 + k * 7 + 6, none⟩ = some (.int .i64 y6) ∧ Below wr.heap.size wr w' ∧ w.heap.size < w'.heap.size ∧ g1 < w'.heap.size) (first | assumption | exact held_in HS.out (Below.refl _ _).drew | exact held_in (by assumption) (Below.refl _ _).drew | fail)
            (first | (go_at_call 23; refine (HLH.out _).mono ?_; rintro e1 w1 ⟨rfl, b1⟩; have h1 := held_in (by assumption) b1) | fail)
          rename_i hS9
          obtain ⟨c0, c1, c2, c3, c4, c5, c6, d0, d1, d2, d3, d4, d5, d6, hB9, l9, g9⟩ := hS9
          have R9 := Lib.hid (HR.out.keep hB9)
          have B9 := Lib.hid (hb.trans (hB9.mono hb.size))
          clear hB9
          go_wp2_with (first
            | (at_builtin; refine wpList_append_ev rfl _ _ rfl rfl rfl rfl rfl R55.out B55.out.size (by simp; omega) ?_; intro v6 w6 R6 b6; have B6 := Lib.hid (B55.out.trans b6))
            | (at_builtin; go_must (refine wpList_append_ev rfl _ _ rfl rfl rfl rfl rfl R9.out B9.out.size (by omega) ?_; intro v5 w5 R5 b5; have f0 := (b5.cell (p := ⟨g1, o1 + k * 7, none⟩) hgW).trans d0; have f1 := (b5.cell (p := ⟨g1, o1 + k * 7 + 1, none⟩) hgW).trans d1; have f2 := (b5.cell (p := ⟨g1, o1 + k * 7 + 2, none⟩) hgW).trans d2; have f3 := (b5.cell (p := ⟨g1, o1 + k * 7 + 3, none⟩) hgW).trans d3; have f4 := (b5.cell (p := ⟨g1, o1 + k * 7 + 4, none⟩) hgW).trans d4; have f5 := (b5.cell (p := ⟨g1, o1 + k * 7 + 5, none⟩) hgW).trans d5; have f6 := (b5.cell (p := ⟨g1, o1 + k * 7 + 6, none⟩) hgW).trans d6; have R55 := Lib.hid R5; have B55 := Lib.hid (B9.out.trans b5); clear R5 b5)))
          go_roundw
          case rel => exact ⟨k + 1, _, true, by omega, by go_num, rfl, ⟨by have := HO2.out; simp; omega, by simp⟩, HI1, Lib.hid R6, B6⟩
          case measure => simp [intOf]; omega
    · have hd0 : l.drop k = [] := List.drop_eq_nil_of_le (by omega)
      have hbW : w.heap.size < W.heap.size := by have := HSZ.out; omega
      have RB := HRB.out.below hb hbW
      cases db with
      | true =>
        have hI2 : I = o := by rw [HI.out, hd0]; simp [rs]
        subst hI2
        go_wp2
        go_returns
        exact ⟨_, rfl, HR.out.mono (Nat.le_of_lt hbW), HB0.out.trans (hb.mono HB0.out.size)⟩
      | false =>
        have hI2 : I = o ++ [e] := by rw [HI.out, hd0]; simp [rs, insE]
        rw [← HEE.out] at hI2
        subst hI2
        have c0 : wr.cell? ⟨w.heap.size, 0, none⟩ = some (.int .i64 x0) := RB.cell 0
        have c1 : wr.cell? ⟨w.heap.size, 1, none⟩ = some (.int .i64 x1) := RB.cell 1
        have c2 : wr.cell? ⟨w.heap.size, 2, none⟩ = some (.int .i64 x2) := RB.cell 2
        have c3 : wr.cell? ⟨w.heap.size, 3, none⟩ = some (.int .i64 x3) := RB.cell 3
        have c4 : wr.cell? ⟨w.heap.size, 4, none⟩ = some (.int .i64 x4) := RB.cell 4
        have c5 : wr.cell? ⟨w.heap.size, 5, none⟩ = some (.string x5) := RB.cell 5
        have c6 : wr.cell? ⟨w.heap.size, 6, none⟩ = some (.int .i64 x6) := RB.cell 6
        clear RB HI
        go_wp2_with (first
          | (at_builtin; go_must (refine wpList_append_ev rfl _ _ rfl rfl rfl rfl rfl HR.out hb.size (by omega) ?_; intro v5 w5 R5 b5)))
        go_returns
        exact ⟨_, rfl, R5.mono (Nat.le_of_lt hbW), HB0.out.trans ((hb.trans b5).mono HB0.out.size)⟩

set_option maxRecDepth 20000 in
set_option maxHeartbeats 4000000 in
theorem refSort_any (l : List Ev) (V : Value) (w : World) (h1 : EvArg w V l) (hl : l.length ≤ 1000) :
    Calls Tryz.prog 8 #[V] w fun e' w' => ∃ v, e' = .returned v ∧ EvRow w' w.heap.size v (soE l) ∧ Below w.heap.size w w' := by
  obtain ⟨A1, c1, rfl, h1⟩ := h1
  have hl' : (l.length : Int) ≤ 1000 := by omega
  have H1 := Lib.hid h1
  clear h1
  go_enter Tryz.func8, Tryz.ntmps8
  go_wp2
  go_loopw [4, 3] (fun x r wr => ∃ (k : Nat), k ≤ l.length ∧ x = .int .i64 k ∧ Hid (EvRow wr w.heap.size r (soE (l.take k))) ∧ Hid (Below w.heap.size w wr)) (fun x _ _ => l.length - (intOf x).toNat)
  case atStart => exact ⟨0, by omega, rfl, Lib.hid (KRow.lit evC_size w w.heap.size (Nat.le_refl _) [] #[] rfl 0 rfl (by simp)), Lib.hid (ba w _)⟩
  case round =>
    obtain ⟨k, hk, rfl, HR, HB⟩ := hrel
    have hb := HB.out
    by_cases hlt : k < l.length
    · obtain ⟨g1, o1, rfl, hg1, hc1⟩ := H1.out (by omega)
      have H2 : ∀ j (hj : j < l.length) i, i < 7 → wr.cell? ⟨g1, o1 + j * 7 + i, none⟩ = (evC l[j])[i]? := fun j hj i hi => (hb.cell (p := ⟨g1, o1 + j * 7 + i, none⟩) hg1).trans (hc1 j hj i hi)
      obtain ⟨b0, b1, b2, b3, b4, b5, b6⟩ := arg_seven H2 k hlt
      have hlen : (soE (l.take k)).length ≤ 1000 := by rw [(soE_all (l.take k)).1.length_eq, List.length_take]; omega
      have hst : soE (l.take (k + 1)) = insE l[k] (soE (l.take k)) := by rw [List.take_succ_eq_append_getElem hlt, soE_snoc]
      have HST := Lib.hid hst
      have CI : Hid (∀ V (h : EvArg wr V (soE (l.take k))), Calls Tryz.prog 21 #[V, .agg (evA l[k].k l[k].f l[k].t l[k].v l[k].a ⟨l[k].d.toArray⟩ l[k].u)] wr fun e' w' => ∃ v, e' = .returned v ∧ EvRow w' wr.heap.size v (insE l[k] (soE (l.take k))) ∧ Below wr.heap.size wr w') := Lib.hid (fun V h => insert_any (soE (l.take k)) V l[k] wr h hlen)
      have CI := CI.out
      have HK := CI _ (KRow.arg evC_size HR.out)
      have KI := Lib.hid HK
      clear hc1 H2 hst hlen CI HK
      generalize insE l[k] (soE (l.take k)) = NX at *
      generalize (⟨l[k].d.toArray⟩ : ByteArray) = y5 at *; generalize l[k].k = y0 at *; generalize l[k].f = y1 at *; generalize l[k].t = y2 at *; generalize l[k].v = y3 at *; generalize l[k].a = y4 at *; generalize l[k].u = y6 at *
      go_wp2_with (first
        | (go_at_call 21; go_must (refine KI.out.mono ?_; rintro e1 w1 ⟨v, rfl, r1, b1⟩; have R1 := Lib.hid (r1.mono hb.size); have B1 := Lib.hid (hb.trans (b1.mono hb.size)))))
      go_roundw
      case rel => exact ⟨k + 1, by omega, by go_num, Lib.hid (by rw [HST.out]; exact R1.out), B1⟩
      case measure => simp [intOf]; omega
    · have he : l.take k = l := List.take_of_length_le (by omega)
      rw [he] at HR
      go_wp2
      go_returns
      exact ⟨_, rfl, HR.out, hb⟩

set_option maxRecDepth 20000 in
set_option maxHeartbeats 4000000 in
theorem refOrdered_any (l : List Ev) (V : Value) (w : World) (h1 : EvArg w V l) (hl : l.length ≤ 1000) :
    Calls Tryz.prog 10 #[V] w fun e' w' => e' = .returned (.bool (oB l)) ∧ Below w.heap.size w w' := by
  obtain ⟨A1, c1, rfl, h1⟩ := h1
  have hl' : (l.length : Int) ≤ 1000 := by omega
  have H1 := Lib.hid h1
  have HF := Lib.hid (fun m h hl => oB_false (l := l) (m := m) h hl)
  have HT := Lib.hid (fun h => oB_true (l := l) h)
  clear h1
  generalize oB l = R at *
  go_enter Tryz.func10, Tryz.ntmps10
  go_wp2
  go_loopw [3] (fun x wr => ∃ (m : Nat), m ≤ l.length ∧ x = .int .i64 ((m : Int) + 1) ∧ Hid (∀ j (hj : j + 1 < l.length), j < m → lE l[j + 1] l[j] = false) ∧ Hid (Below w.heap.size w wr)) (fun x _ => l.length + 1 - (intOf x).toNat)
  case atStart => exact ⟨0, by omega, rfl, Lib.hid (fun m hm h => by omega), Lib.hid (Below.refl _ _)⟩
  case round =>
    obtain ⟨m, hk, rfl, HZ, HB⟩ := hrel
    have hb := HB.out
    by_cases hm : m + 1 < l.length
    · have hm1 : (m : Int) + 1 < l.length := by omega
      have hm2 : (m : Int) < l.length := by omega
      have hi0 : (0 : Int) ≤ (m : Int) := by omega
      have hi1 : (0 : Int) < (m : Int) + 1 := by omega
      have hi3 : (0 : Int) ≤ (m : Int) + 1 := by omega
      have hi4 : ((m : Int) + 1).toNat = m + 1 := by omega
      have hw1 : IntKind.i64.wrap ((m : Int) + 1 - 1) = (m : Int) := by rw [Int.add_sub_cancel]; exact IntWalk.i64_in _ (by omega)
      have hw2 : IntKind.i64.wrap (m : Int) = (m : Int) := IntWalk.i64_in _ (by omega)
      obtain ⟨g1, o1, rfl, hg1, hc1⟩ := H1.out (by omega)
      have H2 : ∀ j (hj : j < l.length) i, i < 7 → wr.cell? ⟨g1, o1 + j * 7 + i, none⟩ = (evC l[j])[i]? := fun j hj i hi => (hb.cell (p := ⟨g1, o1 + j * 7 + i, none⟩) hg1).trans (hc1 j hj i hi)
      obtain ⟨a0, a1, a2, a3, a4, a5, a6⟩ := arg_seven H2 (m + 1) hm
      obtain ⟨b0, b1, b2, b3, b4, b5, b6⟩ := arg_seven H2 m (by omega)
      have hgr : g1 < wr.heap.size := Nat.lt_of_lt_of_le hg1 hb.size
      have CC := fun W => refLess_xy l[m + 1].k l[m + 1].f l[m + 1].t l[m + 1].v l[m + 1].a ⟨l[m + 1].d.toArray⟩ l[m + 1].u l[m].k l[m].f l[m].t l[m].v l[m].a ⟨l[m].d.toArray⟩ l[m].u W
      have hcc : lE ⟨l[m + 1].k, l[m + 1].f, l[m + 1].t, l[m + 1].v, l[m + 1].a, (⟨l[m + 1].d.toArray⟩ : ByteArray).data.toList, l[m + 1].u⟩ ⟨l[m].k, l[m].f, l[m].t, l[m].v, l[m].a, (⟨l[m].d.toArray⟩ : ByteArray).data.toList, l[m].u⟩ = lE l[m + 1] l[m] := rfl
      rw [hcc] at CC
      have HC := Lib.hid CC
      have HFm := Lib.hid (HF.out m hm)
      have HZm := Lib.hid (fun (h : lE l[m + 1] l[m] = false) (j : Nat) (hj : j + 1 < l.length) (hkj : j < m + 1) => (by
        by_cases e : j = m
        · subst e; exact h
        · exact HZ.out j hj (by omega) : lE l[j + 1] l[j] = false))
      clear hc1 H2 CC hcc HZ HF
      generalize hlt : lE l[m + 1] l[m] = L at *
      clear hlt
      generalize (⟨l[m + 1].d.toArray⟩ : ByteArray) = x5 at *; generalize l[m + 1].k = x0 at *; generalize l[m + 1].f = x1 at *; generalize l[m + 1].t = x2 at *; generalize l[m + 1].v = x3 at *; generalize l[m + 1].a = x4 at *; generalize l[m + 1].u = x6 at *
      generalize (⟨l[m].d.toArray⟩ : ByteArray) = y5 at *; generalize l[m].k = y0 at *; generalize l[m].f = y1 at *; generalize l[m].t = y2 at *; generalize l[m].v = y3 at *; generalize l[m].a = y4 at *; generalize l[m].u = y6 at *
      have HS := Lib.hid (show wr.cell? ⟨g1, o1 + (m + 1) * 7, none⟩ = some (.int .i64 x0) ∧ wr.cell? ⟨g1, o1 + (m + 1) * 7 + 1, none⟩ = some (.int .i64 x1) ∧ wr.cell? ⟨g1, o1 + (m + 1) * 7 + 2, none⟩ = some (.int .i64 x2) ∧ wr.cell? ⟨g1, o1 + (m + 1) * 7 + 3, none⟩ = some (.int .i64 x3) ∧ wr.cell? ⟨g1, o1 + (m + 1) * 7 + 4, none⟩ = some (.int .i64 x4) ∧ wr.cell? ⟨g1, o1 + (m + 1) * 7 + 5, none⟩ = some (.string x5) ∧ wr.cell? ⟨g1, o1 + (m + 1) * 7 + 6, none⟩ = some (.int .i64 x6) ∧ wr.cell? ⟨g1, o1 + m * 7, none⟩ = some (.int .i64 y0) ∧ wr.cell? ⟨g1, o1 + m * 7 + 1, none⟩ = some (.int .i64 y1) ∧ wr.cell? ⟨g1, o1 + m * 7 + 2, none⟩ = some (.int .i64 y2) ∧ wr.cell? ⟨g1, o1 + m * 7 + 3, none⟩ = some (.int .i64 y3) ∧ wr.cell? ⟨g1, o1 + m * 7 + 4, none⟩ = some (.int .i64 y4) ∧ wr.cell? ⟨g1, o1 + m * 7 + 5, none⟩ = some (.string y5) ∧ wr.cell? ⟨g1, o1 + m * 7 + 6, none⟩ = some (.int .i64 y6) ∧ Below w.heap.size w wr ∧ g1 < wr.heap.size from ⟨a0, a1, a2, a3, a4, a5, a6, b0, b1, b2, b3, b4, b5, b6, hb, hgr⟩)
      clear a0 a1 a2 a3 a4 a5 a6 b0 b1 b2 b3 b4 b5 b6
      go_wp2
      go_region_held3 (fun w' => w'.cell? ⟨g1, o1 + (m + 1) * 7, none⟩ = some (.int .i64 x0) ∧ w'.cell? ⟨g1, o1 + (m + 1) * 7 + 1, none⟩ = some (.int .i64 x1) ∧ w'.cell? ⟨g1, o1 + (m + 1) * 7 + 2, none⟩ = some (.int .i64 x2) ∧ w'.cell? ⟨g1, o1 + (m + 1) * 7 + 3, none⟩ = some (.int .i64 x3) ∧ w'.cell? ⟨g1, o1 + (m + 1) * 7 + 4, none⟩ = some (.int .i64 x4) ∧ w'.cell? ⟨g1, o1 + (m + 1) * 7 + 5, none⟩ = some (.string x5) ∧ w'.cell? ⟨g1, o1 + (m + 1) * 7 + 6, none⟩ = some (.int .i64 x6) ∧ w'.cell? ⟨g1, o1 + m * 7, none⟩ = some (.int .i64 y0) ∧ w'.cell? ⟨g1, o1 + m * 7 + 1, none⟩ = some (.int .i64 y1) ∧ w'.cell? ⟨g1, o1 + m * 7 + 2, none⟩ = some (.int .i64 y2) ∧ w'.cell? ⟨g1, o1 + m * 7 + 3, none⟩ = some (.int .i64 y3) ∧ w'.cell? ⟨g1, o1 + m * 7 + 4, none⟩ = some (.int .i64 y4) ∧ w'.cell? ⟨g1, o1 + m * 7 + 5, none⟩ = some (.string y5) ∧ w'.cell? ⟨g1, o1 + m * 7 + 6, none⟩ = some (.int .i64 y6) ∧ Below w.heap.size w w' ∧ g1 < w'.heap.size) (first | assumption | exact held_od HS.out (Below.refl _ _).drew | exact held_od (by assumption) (Below.refl _ _).drew | fail)
        (first | (go_at_call 23; refine (HC.out _).mono ?_; rintro e1 w1 ⟨rfl, b1⟩; have h1 := held_od (by assumption) b1) | fail)
      rename_i hS1
      have HB1 := Lib.hid hS1.2.2.2.2.2.2.2.2.2.2.2.2.2.2.1
      clear hS1 HS
      cases L
      · go_wp2
        go_roundw
        case rel => exact ⟨m + 1, by omega, by go_num, Lib.hid (HZm.out rfl), HB1⟩
        case measure => simp [intOf]; omega
      · obtain rfl := HFm.out rfl
        go_wp2
        go_returns
        exact ⟨rfl, HB1.out⟩
    · have hR : R = true := HT.out fun j hj => HZ.out j hj (by omega)
      subst hR
      go_wp2
      go_returns
      exact ⟨rfl, hb⟩

end Go.Proofs.YtddphdohjceonaaGreatDoor
