/-
  Items; the walks of CheckBits, checkItem, CheckItems, and of the specification's wrong.
-/
import Derived.Test.YtfbclbolkojjeaaN2
import Derived.Test.YtfbclbolkojjeaaSbW1
namespace Go.Proofs.Ytfbclbolkojjeaa
open Go Go.RowKit Go.Joins
set_option linter.unusedVariables false
set_option linter.unusedSimpArgs false

structure It where
  g : Int
  v : Int
  x : Int
  d : ByteArray
  u : Int
instance : Inhabited It := ⟨⟨0, 0, 0, ⟨#[]⟩, 0⟩⟩
abbrev itA (g v x : Int) (d : ByteArray) (u : Int) : Array Value := #[.int .i64 g, .int .i64 v, .int .i64 x, .string d, .int .i64 u]
def itC (e : It) : Array Value := itA e.g e.v e.x e.d e.u
theorem itC_size (e : It) : (itC e).size = 5 := rfl
theorem it_one (x : It) : (itC x).toList.all (·.oneCell') = true := rfl
abbrev ItRow (w : World) (B : Nat) (v : Value) (l : List It) : Prop := KRow itC 5 32 w B v l
abbrev ItArg (w : World) (v : Value) (l : List It) : Prop := KArg itC 5 w v l
theorem it_info : (Try.prog.info? 32).map (fun i => (i.zero, i.size, i.bytes)) = some (some (.agg #[.int .i64 0, .int .i64 0, .int .i64 0, .string ⟨#[]⟩, .int .i64 0]), 5, 48) := by kernel_rfl
theorem arg_five {w : World} {g o : Nat} {l : List It} (h : ∀ j (hj : j < l.length) i, i < 5 → w.cell? ⟨g, o + j * 5 + i, none⟩ = (itC l[j])[i]?) (j : Nat) (hj : j < l.length) :
    w.cell? ⟨g, o + j * 5, none⟩ = some (.int .i64 l[j].g) ∧ w.cell? ⟨g, o + j * 5 + 1, none⟩ = some (.int .i64 l[j].v) ∧ w.cell? ⟨g, o + j * 5 + 2, none⟩ = some (.int .i64 l[j].x) ∧ w.cell? ⟨g, o + j * 5 + 3, none⟩ = some (.string l[j].d) ∧ w.cell? ⟨g, o + j * 5 + 4, none⟩ = some (.int .i64 l[j].u) :=
  ⟨h j hj 0 (by omega), h j hj 1 (by omega), h j hj 2 (by omega), h j hj 3 (by omega), h j hj 4 (by omega)⟩

/-- The error of an item that should be bits and nothing else. -/
def cbE (v x : Int) (ok : Bool) (u : Int) : Int := if ok = false then 4 else if v = 0 ∧ x = 0 ∧ u = 0 then 0 else 1
def ciE (M g v x : Int) (n : Nat) (ok : Bool) (u : Int) : Int := if g < 0 ∨ M < g then 1 else if 4096 < n then 6 else cbE v x ok u
def ciT (M : Int) (e : It) : Int := ciE M e.g e.v e.x e.d.size (Sb.okB e.d.data.toList) e.u
def cfE (M : Int) : List It → Int
  | [] => 0
  | e :: r => if ciT M e = 0 then cfE M r else ciT M e
/-- The error of items. -/
def clE (M : Int) (l : List It) : Int := if 1024 < l.length then 6 else cfE M l

set_option maxRecDepth 20000 in
set_option maxHeartbeats 2000000 in
theorem checkBits_xy (g v x : Int) (d : ByteArray) (u : Int) (w : World) (hd : d.size ≤ 140737488351232) : Calls Try.prog 51 #[.agg (itA g v x d u)] w fun e w' => e = .returned (.int .i64 (cbE v x (Sb.okB d.data.toList) u)) ∧ Below w.heap.size w w' := by
  have HV := Lib.hid (fun W => Sb.valid_any d W hd)
  have HE : Hid (cbE v x (Sb.okB d.data.toList) u = if Sb.okB d.data.toList = false then 4 else if v = 0 ∧ x = 0 ∧ u = 0 then 0 else 1) := Lib.hid rfl
  generalize cbE v x (Sb.okB d.data.toList) u = E at *
  generalize Sb.okB d.data.toList = q at *
  go_enter Try.func51, Try.ntmps51
  go_wp2_with (go_at_call 74; go_must (refine (HV.out _).mono ?_; rintro e1 w1 ⟨rfl, rfl⟩))
  all_goals
    go_returns
    refine ⟨ret_int ?_, by (repeat' (first | with_reducible exact Below.refl _ _ | with_reducible exact Nat.le_refl _ | with_reducible assumption | with_reducible refine below_drewN ?_ _ | with_reducible refine Below.drew ?_ | with_reducible refine Below.trans ?_ (Below.mono (by assumption) ?_) | with_reducible refine Below.alloc ?_ ?_ _ | with_reducible refine Below.setCell ?_ ?_ _ | with_reducible refine le_setCell ?_ _ _ | with_reducible refine le_alloc ?_ _ | with_reducible refine le_drewN ?_ _ | with_reducible refine le_drew ?_ | with_reducible refine Nat.le_trans ?_ (Below.size (by assumption)) | (simp only [World.size_alloc, World.size_setCell]; omega) | omega))⟩
    rw [HE.out]
    try simp only [decide_eq_true_eq, decide_eq_false_iff_not, beq_iff_eq, Bool.not_eq_true, bne_iff_ne, ne_eq] at *
    first | (simp_all; done) | (clear HV HE; simp_all; omega) | trace_state

set_option maxRecDepth 20000 in
set_option maxHeartbeats 2000000 in
theorem checkItem_xy (M g v x : Int) (d : ByteArray) (u : Int) (w : World) (hd : d.size ≤ 140737488351232) : Calls Try.prog 73 #[.agg (itA g v x d u), .int .i64 M, .func (.func 51) #[] #[]] w fun e w' => e = .returned (.int .i64 (ciE M g v x d.size (Sb.okB d.data.toList) u)) ∧ Below w.heap.size w w' := by
  have HV := Lib.hid (fun W => checkBits_xy g v x d u W hd)
  have HE : Hid (ciE M g v x d.size (Sb.okB d.data.toList) u = if g < 0 ∨ M < g then 1 else if 4096 < d.size then 6 else cbE v x (Sb.okB d.data.toList) u) := Lib.hid rfl
  generalize ciE M g v x d.size (Sb.okB d.data.toList) u = E at *
  generalize cbE v x (Sb.okB d.data.toList) u = q at *
  have hd' : (d.size : Int) ≤ 140737488351232 := by omega
  go_enter Try.func73, Try.ntmps73
  go_wp2_with (go_at_call 51; go_must (refine (HV.out _).mono ?_; rintro e1 w1 ⟨rfl, b1⟩))
  all_goals
    go_returns
    refine ⟨ret_int ?_, by (repeat' (first | with_reducible exact Below.refl _ _ | with_reducible exact Nat.le_refl _ | with_reducible assumption | with_reducible refine below_drewN ?_ _ | with_reducible refine Below.drew ?_ | with_reducible refine Below.trans ?_ (Below.mono (by assumption) ?_) | with_reducible refine Below.alloc ?_ ?_ _ | with_reducible refine Below.setCell ?_ ?_ _ | with_reducible refine le_setCell ?_ _ _ | with_reducible refine le_alloc ?_ _ | with_reducible refine le_drewN ?_ _ | with_reducible refine le_drew ?_ | with_reducible refine Nat.le_trans ?_ (Below.size (by assumption)) | (simp only [World.size_alloc, World.size_setCell]; omega) | omega))⟩
    rw [HE.out]
    try simp only [decide_eq_true_eq, decide_eq_false_iff_not, beq_iff_eq, Bool.not_eq_true, bne_iff_ne, ne_eq] at *
    first | (rw [if_pos (by omega)]; done) | (rw [if_neg (by omega), if_pos (by omega)]; done) | (rw [if_neg (by omega), if_neg (by omega)]; done) | trace_state

set_option maxRecDepth 20000 in
set_option maxHeartbeats 2000000 in
theorem wrong_xy (g v x : Int) (d : ByteArray) (u : Int) (w : World) (hd : d.size ≤ 140737488351232) : Calls Try.prog 72 #[.agg (itA g v x d u)] w fun e w' => e = .returned (.int .i64 (ciE 1048576 g v x d.size (Sb.okB d.data.toList) u)) ∧ Below w.heap.size w w' := by
  have HV := Lib.hid (fun W => Sb.rvalid_any d W hd)
  have HE : Hid (ciE 1048576 g v x d.size (Sb.okB d.data.toList) u = if g < 0 ∨ 1048576 < g then 1 else if 4096 < d.size then 6 else if Sb.okB d.data.toList = false then 4 else if v = 0 ∧ x = 0 ∧ u = 0 then 0 else 1) := Lib.hid rfl
  generalize ciE 1048576 g v x d.size (Sb.okB d.data.toList) u = E at *
  generalize Sb.okB d.data.toList = q at *
  have hd' : (d.size : Int) ≤ 140737488351232 := by omega
  go_enter Try.func72, Try.ntmps72
  go_wp2_with (go_at_call 88; go_must (refine (HV.out _).mono ?_; rintro e1 w1 ⟨rfl, rfl⟩))
  all_goals
    go_returns
    refine ⟨ret_int ?_, by (repeat' (first | with_reducible exact Below.refl _ _ | with_reducible exact Nat.le_refl _ | with_reducible assumption | with_reducible refine below_drewN ?_ _ | with_reducible refine Below.drew ?_ | with_reducible refine Below.trans ?_ (Below.mono (by assumption) ?_) | with_reducible refine Below.alloc ?_ ?_ _ | with_reducible refine Below.setCell ?_ ?_ _ | with_reducible refine le_setCell ?_ _ _ | with_reducible refine le_alloc ?_ _ | with_reducible refine le_drewN ?_ _ | with_reducible refine le_drew ?_ | with_reducible refine Nat.le_trans ?_ (Below.size (by assumption)) | (simp only [World.size_alloc, World.size_setCell]; omega) | omega))⟩
    rw [HE.out]
    try simp only [decide_eq_true_eq, decide_eq_false_iff_not, beq_iff_eq, Bool.not_eq_true, bne_iff_ne, ne_eq] at *
    first | (rw [if_pos (by omega)]; done) | (rw [if_neg (by omega), if_pos (by omega)]; done) | (rw [if_neg (by omega), if_neg (by omega)]; simp_all; done) | (rw [if_neg (by omega), if_neg (by omega)]; clear HV HE; simp_all; omega) | trace_state

theorem cfE_at {M : Int} {l : List It} {j : Nat} (hj : j < l.length) (h : cfE M l = cfE M (l.drop j)) : cfE M l = if ciT M l[j] = 0 then cfE M (l.drop (j + 1)) else ciT M l[j] := by
  rw [h, List.drop_eq_getElem_cons hj]
  rfl
set_option maxRecDepth 20000 in
set_option maxHeartbeats 2000000 in
theorem checkItems_any (M : Int) (l : List It) (V : Value) (w : World) (hT : ItArg w V l) (hl : l.length ≤ 140737488351232) (hd : ∀ j (h : j < l.length), l[j].d.size ≤ 140737488351232) : Calls Try.prog 50 #[V, .int .i64 M, .func (.func 51) #[] #[]] w fun e w' => e = .returned (.int .i64 (clE M l)) ∧ Below w.heap.size w w' := by
  have HE : Hid (clE M l = if 1024 < l.length then 6 else cfE M l) := Lib.hid rfl
  generalize clE M l = E at *
  obtain ⟨A, c, rfl, hA⟩ := hT
  have HA := Lib.hid hA; have HD := Lib.hid hd
  clear hA hd
  have hl' : (l.length : Int) ≤ 140737488351232 := by omega
  by_cases hb : 1024 < l.length
  · have hb' : (1024 : Int) < l.length := by omega
    obtain rfl : E = 6 := by rw [HE.out, if_pos hb]
    go_enter Try.func50, Try.ntmps50
    go_wp2
    go_returns
    exact ⟨rfl, Below.refl _ _⟩
  have hb' : ¬ (1024 : Int) < l.length := by omega
  replace HE : Hid (E = cfE M l) := Lib.hid (by rw [HE.out, if_neg hb])
  go_enter Try.func50, Try.ntmps50
  go_wp2
  go_loopw [15] (fun i wr => ∃ (j : Nat), j ≤ l.length ∧ i = .int .i64 j ∧ Hid (cfE M l = cfE M (l.drop j)) ∧ Hid (Below w.heap.size w wr)) (fun i _ => l.length - (intOf i).toNat)
  case atStart => exact ⟨0, Nat.zero_le _, rfl, Lib.hid rfl, Lib.hid (Below.refl _ _)⟩
  case round =>
    obtain ⟨j, hj, rfl, HC, HB⟩ := hrel
    have hb := HB.out
    by_cases hjl : j < l.length
    · obtain ⟨g, o, rfl, hg, hc⟩ := HA.out (by omega)
      obtain ⟨a0, a1, a2, a3, a4⟩ := arg_five hc j hjl
      have f0 := (hb.cell (p := ⟨g, o + j * 5, none⟩) hg).trans a0
      have f1 := (hb.cell (p := ⟨g, o + j * 5 + 1, none⟩) hg).trans a1
      have f2 := (hb.cell (p := ⟨g, o + j * 5 + 2, none⟩) hg).trans a2
      have f3 := (hb.cell (p := ⟨g, o + j * 5 + 3, none⟩) hg).trans a3
      have f4 := (hb.cell (p := ⟨g, o + j * 5 + 4, none⟩) hg).trans a4
      have HF := Lib.hid (cfE_at hjl HC.out)
      have CI : Hid (∀ W, Calls Try.prog 73 #[.agg (itA l[j].g l[j].v l[j].x l[j].d l[j].u), .int .i64 M, .func (.func 51) #[] #[]] W fun e w' => e = .returned (.int .i64 (ciT M l[j])) ∧ Below W.heap.size W w') := Lib.hid fun W => checkItem_xy M l[j].g l[j].v l[j].x l[j].d l[j].u W (HD.out j hjl)
      clear a0 a1 a2 a3 a4 hc
      generalize ciT M l[j] = C at *
      generalize l[j].g = x0 at *
      generalize l[j].v = x1 at *
      generalize l[j].x = x2 at *
      generalize l[j].d = x3 at *
      generalize l[j].u = x4 at *
      by_cases hC : C = 0
      · subst hC
        replace HF : Hid (cfE M l = cfE M (l.drop (j + 1))) := Lib.hid (by rw [HF.out, if_pos rfl])
        go_wp2_with (go_at_call 73; go_must (refine (CI.out _).mono ?_; rintro e1 w1 ⟨rfl, b1⟩; have B1 := Lib.hid (hb.trans (((ba wr _).trans (b1.mono (by rw [World.size_alloc]; omega))).mono hb.size))))
        go_roundw
        case rel => exact ⟨j + 1, by omega, val_int (by omega), HF, B1⟩
        case measure => simp [intOf]; omega
      · have hC' : (C == 0) = false := by simpa using hC
        obtain rfl : E = C := by rw [HE.out, HF.out, if_neg hC]
        clear HE HF hC
        go_wp2_with (go_at_call 73; go_must (refine (CI.out _).mono ?_; rintro e1 w1 ⟨rfl, b1⟩; have B1 := Lib.hid (hb.trans (((ba wr _).trans (b1.mono (by rw [World.size_alloc]; omega))).mono hb.size))))
        go_returns
        exact ⟨rfl, B1.out⟩
    · have hdz : l.drop j = [] := List.drop_of_length_le (by omega)
      obtain rfl : E = 0 := by rw [HE.out, HC.out, hdz]; rfl
      clear HE HC hdz
      go_wp2
      go_returns
      exact ⟨rfl, hb⟩

end Go.Proofs.Ytfbclbolkojjeaa
