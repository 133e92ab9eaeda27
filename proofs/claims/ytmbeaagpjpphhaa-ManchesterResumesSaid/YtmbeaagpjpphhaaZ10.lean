/-
  The walks of copied, joined and Clean (the program's).
  The walks of Edges, Slice and Invert (the program's).
-/
import Derived.Test.YtmbeaagpjpphhaaZ09
import Derived.StillTailTactics
namespace Go.Proofs.Ytmbeaagpjpphhaa
namespace Sw
open Go Go.RowKit Go.Joins
set_option linter.unusedVariables false
set_option linter.unusedSimpArgs false

/-- What the row holds while it is joined in place. -/
def Ji (X l : List Rn) (j : Nat) : Prop := X.length = l.length ∧ X.take (jn (l.take j)).length = jn (l.take j) ∧ X.drop j = l.drop j ∧ (jn (l.take j)).length ≤ j
theorem Ji.start (l : List Rn) : Ji l l 0 := ⟨rfl, rfl, rfl, Nat.le_refl _⟩
theorem Ji.at {X l : List Rn} {j : Nat} (h : Ji X l j) (hj : j < l.length) (hx : j < X.length) : X[j] = l[j] := by
  have h1 := h.2.2.1
  rw [List.drop_eq_getElem_cons hj, List.drop_eq_getElem_cons hx] at h1
  injection h1
theorem Ji.el {X l : List Rn} {j i : Nat} (h : Ji X l j) (hi : i < (jn (l.take j)).length) (hx : i < X.length) : X[i] = (jn (l.take j))[i] := by
  have h1 := h.2.1
  have h2 : (X.take (jn (l.take j)).length)[i]'(by rw [List.length_take]; omega) = X[i] := List.getElem_take
  rw [← h2]
  congr 1
theorem Ji.push {X l : List Rn} {j : Nat} (h : Ji X l j) (hj : j < l.length) (r : Rn) (hp : jn (l.take (j + 1)) = jn (l.take j) ++ [r]) : Ji (X.set (jn (l.take j)).length r) l (j + 1) := by
  obtain ⟨h1, h2, h3, h4⟩ := h
  refine ⟨by rw [List.length_set]; exact h1, ?_, ?_, by rw [hp, List.length_append]; simp; exact h4⟩
  · rw [hp, List.length_append, List.length_singleton, List.take_succ_eq_append_getElem (by rw [List.length_set]; omega), List.take_set_of_le (Nat.le_refl _), h2, List.getElem_set_self]
  · rw [List.drop_set_of_lt (by omega), ← List.drop_drop, h3, List.drop_drop]
theorem Ji.last {X l : List Rn} {j : Nat} (h : Ji X l j) (hj : j < l.length) (o : List Rn) (y z : Rn) (hJ : jn (l.take j) = o ++ [y]) (hp : jn (l.take (j + 1)) = o ++ [z]) : Ji (X.set o.length z) l (j + 1) := by
  obtain ⟨h1, h2, h3, h4⟩ := h
  have hl : (jn (l.take j)).length = o.length + 1 := by rw [hJ]; simp
  refine ⟨by rw [List.length_set]; exact h1, ?_, ?_, by rw [hp, List.length_append]; simp; omega⟩
  · rw [hl, hJ] at h2
    have h5 : X.take o.length = o := by
      have := congrArg (List.take o.length) h2
      rw [List.take_take, Nat.min_eq_left (by omega)] at this
      simpa using this
    rw [hp, List.length_append, List.length_singleton, List.take_succ_eq_append_getElem (by rw [List.length_set]; omega), List.take_set_of_le (Nat.le_refl _), h5, List.getElem_set_self]
  · rw [List.drop_set_of_lt (by omega), ← List.drop_drop, h3, List.drop_drop]
theorem Ji.done {X l : List Rn} (h : Ji X l l.length) : X.take (jn l).length = jn l ∧ (jn l).length ≤ X.length := by
  obtain ⟨h1, h2, h3, h4⟩ := h
  rw [List.take_length] at h2 h4
  exact ⟨h2, by omega⟩
/-- A whole run stored into a row. -/
theorem RnRow.set {w : World} {B g n c : Nat} {l : List Rn} (h : RnRow w B (.slice (some ⟨g, 0, none⟩) n c) l) (j : Nat) (hj : j < l.length) (x y : Int) :
    RnRow ((w.setCell ⟨g, j * 2, none⟩ (.int .i64 x)).setCell ⟨g, j * 2 + 1, none⟩ (.int .i64 y)) B (.slice (some ⟨g, 0, none⟩) n c) (l.set j (x, y)) := by
  have h1 := KRow.cellSet rnC_size h j 0 hj (by omega) (.int .i64 x) (x, l[j].2) rfl
  have h2 := KRow.cellSet rnC_size h1 j 1 (by rw [List.length_set]; exact hj) (by omega) (.int .i64 y) (x, y) (by rw [List.getElem_set_self]; rfl)
  rw [List.set_set] at h2
  exact h2
theorem RnRow.set1 {w : World} {B g n c : Nat} {l : List Rn} (h : RnRow w B (.slice (some ⟨g, 0, none⟩) n c) l) (j : Nat) (hj : j < l.length) (x y : Int) (hx : l[j].1 = x) :
    RnRow (w.setCell ⟨g, j * 2 + 1, none⟩ (.int .i64 y)) B (.slice (some ⟨g, 0, none⟩) n c) (l.set j (x, y)) :=
  KRow.cellSet rnC_size h j 1 hj (by omega) (.int .i64 y) (x, y) (by subst hx; rfl)
/-- The two cells of an element of a row. -/
theorem RnRow.two {w : World} {B g n c : Nat} {l : List Rn} (h : RnRow w B (.slice (some ⟨g, 0, none⟩) n c) l) (j : Nat) (hj : j < l.length) : w.cell? ⟨g, j * 2, none⟩ = some (.int .i64 l[j].1) ∧ w.cell? ⟨g, j * 2 + 1, none⟩ = some (.int .i64 l[j].2) ∧ w.frozen? ⟨g, j * 2, none⟩ = false ∧ w.frozen? ⟨g, j * 2 + 1, none⟩ = false :=
  ⟨h.cell rnC_size j hj 0 (by omega), h.cell rnC_size j hj 1 (by omega), h.frozen _, h.frozen _⟩
theorem RnRow.some2 {w : World} {B g n c : Nat} {l : List Rn} (h : RnRow w B (.slice (some ⟨g, 0, none⟩) n c) l) (j : Nat) (hj : j < l.length) : ∃ u0 u1 : Int, w.cell? ⟨g, j * 2, none⟩ = some (.int .i64 u0) ∧ w.cell? ⟨g, j * 2 + 1, none⟩ = some (.int .i64 u1) ∧ w.frozen? ⟨g, j * 2, none⟩ = false ∧ w.frozen? ⟨g, j * 2 + 1, none⟩ = false :=
  ⟨_, _, h.two j hj⟩

set_option maxRecDepth 20000 in
set_option maxHeartbeats 4000000 in
theorem copied_any (l : List Rn) (V : Value) (w : World) (hT : RnArg w V l) (hn : l.length ≤ 262144) : Calls Try.prog 119 #[V] w fun e w' => ∃ g c : Nat, e = .returned (.slice (some ⟨g, 0, none⟩) l.length c) ∧ RnRow w' w.heap.size (.slice (some ⟨g, 0, none⟩) l.length c) l ∧ Below w.heap.size w w' := by
  have HT := Lib.hid (fun w' (hb : Below w.heap.size w w') => hT.keep hb)
  obtain ⟨A, c, rfl, hA⟩ := hT
  clear hA
  have hX := Lib.hid (show (List.replicate l.length ((0, 0) : Rn)).take 0 ++ l ++ (List.replicate l.length ((0, 0) : Rn)).drop (0 + l.length) = l by simp)
  have hR := Lib.hid (show 0 + l.length ≤ (List.replicate l.length ((0, 0) : Rn)).length by simp)
  go_enter Try.func119, Try.ntmps119
  go_wp2_with (first
    | (at_make; go_must (refine wpList_make_k (enc := rnC) Try.underlying27 run_info ((0, 0) : Rn) rfl rfl rfl _ _ rfl rfl rfl rfl rfl (by omega) (by omega) (Nat.le_refl _) ?_; intro w1 R1 b1))
    | (refine wpList_copy_k (o := ⟨some 9, _, _, _, _, _⟩) Try.underlying27 run_size (by omega) rnC_size rnC_one rfl _ _ rfl rfl rfl R1 (HT.out _ b1) (Nat.le_refl _) hR.out (fun _ => rfl) ?_; intro w2 R2 b2; rw [hX.out] at R2))
  go_returns
  exact ⟨_, _, rfl, R2, b1.trans b2⟩

end Sw
end Go.Proofs.Ytmbeaagpjpphhaa

namespace Go.Proofs.Ytmbeaagpjpphhaa
namespace Sw
open Go Go.RowKit Go.Joins
set_option linter.unusedVariables false
set_option linter.unusedSimpArgs false

theorem s1_yes {b : Int} {r : Rn} {f t : Int} (h : max b f < min (b + r.2) t) : s1 b r f t = [(r.1, min (b + r.2) t - max b f)] := by unfold s1; rw [if_pos h]
theorem s1_no {b : Int} {r : Rn} {f t : Int} (h : ¬ max b f < min (b + r.2) t) : s1 b r f t = [] := by unfold s1; rw [if_neg h]

set_option maxRecDepth 20000 in
set_option maxHeartbeats 4000000 in
theorem invert_any (l : List Rn) (V : Value) (w : World) (hT : RnArg w V l) : Calls Try.prog 109 #[V] w fun e w' => ∃ v : Value, e = .returned v ∧ RnRow w' w.heap.size v (ivV l) ∧ Below w.heap.size w w' := by
  have CV := Lib.hid (valid_any l V w hT)
  have HT := Lib.hid (fun w' (hb : Below w.heap.size w w') => hT.keep hb)
  obtain ⟨A, c, rfl, hA⟩ := hT
  clear hA
  cases hv : vl l with
  | false =>
    have HL := Lib.hid (ivV_no (l := l) (by rw [hv]; exact Bool.false_ne_true))
    rw [hv] at CV
    clear hv HT
    go_enter Try.func109, Try.ntmps109
    go_wp2_with (first
      | (go_at_call 118; go_must (refine CV.out.mono ?_; rintro e1 w1 ⟨rfl, b1⟩)))
    go_returns
    exact ⟨_, rfl, by rw [HL.out]; exact KRow.nil _ _, b1⟩
  | true =>
    have HL := Lib.hid (ivV_yes hv)
    have HK := Lib.hid hv
    have hn := ((vl_iff l).1 hv).1
    have C2 := Lib.hid (fun w' h => copied_any l (.slice A l.length c) w' h hn)
    have C3 := Lib.hid other_any
    rw [hv] at CV
    clear hv
    go_enter Try.func109, Try.ntmps109
    go_wp2_with (first
      | (go_at_call 118; go_must (refine CV.out.mono ?_; rintro e1 w1 ⟨rfl, b1⟩; have B1 := Lib.hid b1; clear b1))
      | (go_at_call 119; go_must (refine (C2.out _ (HT.out _ B1.out)).mono ?_; rintro e2 w2 ⟨g2, c2, rfl, r2, b2⟩; have R2 := Lib.hid r2; have B2 := Lib.hid b2; clear r2 b2)))
    have hg2 := R2.out.len
    have HG := Lib.hid hg2
    clear hg2
    go_loopw [12] (fun i wr => ∃ j : Nat, j ≤ l.length ∧ i = .int .i64 j ∧ Hid (RnRow wr w1.heap.size (.slice (some ⟨g2, 0, none⟩) l.length c2) (iv (l.take j) ++ l.drop j)) ∧ Hid (Below w.heap.size w wr)) (fun i _ => l.length - (intOf i).toNat)
    case atStart => exact ⟨0, Nat.zero_le _, rfl, R2, Lib.hid (B1.out.trans (B2.out.mono B1.out.size))⟩
    case round =>
      obtain ⟨j, hj, rfl, HR, HB⟩ := hrel
      by_cases hjl : j < l.length
      · have hlen : (iv (l.take j)).length = j := by rw [iv_len, List.length_take]; omega
        have hX : j < (iv (l.take j) ++ l.drop j).length := by rw [List.length_append, hlen, List.length_drop]; omega
        obtain ⟨a0, a1, z0, z1⟩ := RnRow.two HR.out j hX
        have hE : (iv (l.take j) ++ l.drop j)[j] = l[j] := by
          rw [List.getElem_append_right (by omega), List.getElem_drop]
          congr 1
          omega
        have hx := el_range HK.out j hjl
        have hS : (iv (l.take j) ++ l.drop j).set j (1 - l[j].1, l[j].2) = iv (l.take (j + 1)) ++ l.drop (j + 1) := by
          rw [iv_take l j hjl, List.set_append_right _ _ (by omega), hlen, Nat.sub_self, List.drop_eq_getElem_cons hjl, List.set_cons_zero, List.append_assoc]
          rfl
        have HR3 := Lib.hid (KRow.cellSet rnC_size HR.out j 0 hX (by omega) (.int .i64 (1 - l[j].1)) (1 - l[j].1, l[j].2) (by rw [hE]; rfl))
        rw [hS] at HR3
        rw [hE] at a0 a1
        clear hlen hX hE hS z1 a1
        have HB3 := fun u => Lib.hid (Below.setCell (p := ⟨g2, j * 2, none⟩) HB.out (Nat.le_trans B1.out.size HG.out.2.2.1) u)
        generalize l[j].1 = x0 at *
        generalize l[j].2 = x1 at *
        go_wp2_with (first
          | (go_at_call 120; go_must (refine (C3.out _ _ hx.1).mono ?_; rintro e5 w5 ⟨rfl, rfl⟩)))
        go_roundw
        case rel => exact ⟨j + 1, by omega, val_int (by omega), HR3, HB3 _⟩
        case measure => simp [intOf]; omega
      · have he : l.take j = l := List.take_of_length_le (by omega)
        have hd : l.drop j = [] := List.drop_eq_nil_of_le (by omega)
        rw [he, hd, List.append_nil] at HR
        clear he hd
        go_wp2
        go_returns
        exact ⟨_, rfl, by rw [HL.out]; exact HR.out.mono B1.out.size, HB.out⟩

end Sw
end Go.Proofs.Ytmbeaagpjpphhaa
