/-
  The walk of the program's Line.
-/
import Derived.Test.YtiimdkamgehioaaDoorN0
import Derived.Test.YtiimdkamgehioaaDoorA8
import Derived.Test.YtiimdkamgehioaaDoorW8
import Derived.Test.YtiimdkamgehioaaDoorB2
import Derived.Lib.ItoaLen
namespace Go.Proofs.YtiimdkamgehioaaDoor
open Go Go.RowKit Go.Joins
set_option linter.unusedVariables false
set_option linter.unusedSimpArgs false

theorem itoa_len (n : Int) (h0 : -9223372036854775808 ≤ n) (h1 : n ≤ 9223372036854775807) : (Lib.itoa n).length ≤ 21 := Lib.itoa_length_le n h0 h1
def lnV (e : Ev) : Value := if vE e = true then .tuple #[.string ⟨(ln7 e).toArray⟩, .int .i64 0] else .tuple #[.string ⟨#[]⟩, .int .i64 1]
theorem join_line (e : Ev) : Lib.join ([(⟨(nm7 e.k).toArray⟩ : ByteArray), ⟨(Lib.itoa e.f).toArray⟩, ⟨(Lib.itoa e.t).toArray⟩, ⟨(Lib.itoa e.v).toArray⟩, ⟨(Lib.itoa e.a).toArray⟩, ⟨(Lib.itoa e.u).toArray⟩, ⟨(qt e.d).toArray⟩].map (·.data.toList)) (⟨#[32]⟩ : ByteArray).data.toList = ln7 e := by
  simp only [List.map_cons, List.map_nil, toList_mk]
  rw [Lib.join_cons]
  unfold Lib.joinTail ln7
  simp


theorem ln7_len (e : Ev) (h : vE e = true) : (ln7 e).length ≤ 100000 := by
  have hb := of_decide_eq_true h
  have h1 := itoa_len e.f (by omega) (by omega)
  have h2 := itoa_len e.t (by omega) (by omega)
  have h3 := itoa_len e.v (by omega) (by omega)
  have h4 := itoa_len e.a (by omega) (by omega)
  have h5 := itoa_len e.u (by omega) (by omega)
  have h6 := (qtB_len e.d).2
  have h7 := qt_len e.d
  have h8 : (nm7 e.k).length ≤ 7 := by unfold nm7; (repeat' split) <;> simp
  unfold ln7
  simp only [List.length_append, List.length_cons]
  omega

/-! Rows of strings that may be kept beside others. -/
def stC (s : ByteArray) : Array Value := #[.string s]
theorem stC_size (s : ByteArray) : (stC s).size = 1 := rfl
abbrev StRow (w : World) (B : Nat) (v : Value) (l : List ByteArray) : Prop := KRow stC 1 9 w B v l
theorem wpList_append_st {w : World} {ops : Array Oper} {rest : List Oper} {o : Oper} {ac : Act} {Q : Exit → Act → World → Prop} (hgd : o.guard = none) (p x : Operand)
    (ho : o.op = .call { callee := .builtin .append, args := #[p, x], argTypes := #[50, 50] })
    {B c : Nat} {V : Value} {l : List ByteArray} {g : Nat} {k : ByteArray} {ya : Array Value} (hya : ya = #[.string k]) (hs : ac.eval p = V) (hx : ac.eval x = .slice (some ⟨g, 0, none⟩) 1 c) (hg : g = w.heap.size) (hf : StRow w B V l) (hB : B ≤ w.heap.size) (hn : l.length + 1 ≤ 2199023255552)
    (h : ∀ v' w', StRow w' B v' (l ++ [k]) → Below B w w' → (∀ k, k < w.heap.size → some k ≠ V.ownBlock → w'.heap[k]? = w.heap[k]?) → wpList Tryd.prog ops Q rest (ac.put o.dst v') w') : wpList Tryd.prog ops Q (o :: rest) ac (w.alloc (.cells ya 9)) :=
  wpList_append_k2 (P := Tryd.prog) Tryd.underlying50 string_info rfl (by omega) stC_size hgd p x ho k hya hs hx hg hf hB (by subst hya; rfl) (by omega) (by omega) h
/-- A row of strings is not a row of numbers. -/
theorem apart {w : World} {B b : Nat} {v : Value} {l : List ByteArray} {x : Int} {cs : Array Value} (h : StRow w B v l) (hl : 0 < l.length) (hr : RowAt w b 3 cs) (h0 : cs[0]? = some (.int .i64 x)) : some b ≠ v.ownBlock := by
  intro e
  obtain ⟨g, c, rfl⟩ := h.full hl
  have c0 := h.cell stC_size 0 hl 0 (by omega)
  have : g = b := by simp [Value.ownBlock] at e; omega
  subst this
  have c1 := hr.cell 0
  rw [h0] at c1
  rw [show (0 * 1 + 0) = 0 from rfl] at c0
  rw [c1] at c0
  cases c0

theorem StRow.cap {w : World} {B G n C : Nat} {l : List ByteArray} (h : StRow w B (.slice (some ⟨G, 0, none⟩) n C) l) : n = l.length ∧ l.length ≤ C := by
  obtain ⟨_, h | ⟨g, cap, cur, hv, _, _, hc, _⟩⟩ := h
  · cases h.1
  · simp only [Value.slice.injEq, Option.some.injEq] at hv
    obtain ⟨_, rfl, rfl⟩ := hv
    exact ⟨rfl, hc⟩
theorem join_row {w : World} {B G C : Nat} {l : List ByteArray} {r : List UInt8} (h : StRow w B (.slice (some ⟨G, 0, none⟩) l.length C) l) (hl : l.length ≤ 1000) (hj : Lib.join (l.map (·.data.toList)) (⟨#[32]⟩ : ByteArray).data.toList = r) (hr : r.length ≤ 100000) :
    Calls Tryd.prog 34 #[.slice (some ⟨G, 0, none⟩) l.length C, .string ⟨#[32]⟩] w fun e w' => e = .returned (.string ⟨r.toArray⟩) ∧ Below w.heap.size w w' := by
  have h2 := Tryd.strings_Join G 0 C l ⟨#[32]⟩ w (fun j x hx => by
    obtain ⟨hj1, hj2⟩ := List.getElem?_eq_some_iff.1 hx
    have := h.cell stC_size j hj1 0 (by omega)
    rw [Nat.mul_one, Nat.add_zero, hj2] at this
    rw [Nat.zero_add]
    exact this) (h.lt G rfl).2 (by omega) h.cap.2 (by rw [hj]; omega)
  rw [hj] at h2
  exact h2

set_option maxRecDepth 20000 in
set_option maxHeartbeats 8000000 in
theorem line_xy (k f t v a : Int) (s : ByteArray) (u : Int) (w : World) (hs : s.size ≤ 140737488351232) (hE : Env w) :
    Calls Tryd.prog 23 #[.agg (evA k f t v a s u)] w fun e w' => e = .returned (lnV ⟨k, f, t, v, a, s.data.toList, u⟩) ∧ Below w.heap.size w w' := by
  have C1 := fun W => valid_xy k f t v a s u W hs
  rw [vE_VeP] at C1
  cases hv : vE ⟨k, f, t, v, a, s.data.toList, u⟩ with
  | false =>
    have HV : Hid (lnV ⟨k, f, t, v, a, s.data.toList, u⟩ = .tuple #[.string ⟨#[]⟩, .int .i64 1]) := Lib.hid (by unfold lnV; rw [hv]; rfl)
    rw [hv] at C1
    have H1 := Lib.hid C1
    clear C1 hv hE
    go_enter Tryd.func23, Tryd.ntmps23
    go_wp2_with (go_at_call 11; go_must (refine (H1.out _).mono ?_; rintro e1 w1 ⟨rfl, rfl⟩))
    go_returns
    exact ⟨HV.out.symm ▸ rfl, (by repeat' (first | with_reducible exact Below.refl _ _ | with_reducible exact Nat.le_refl _ | with_reducible assumption | with_reducible refine below_drewN ?_ _ | with_reducible refine Below.drew ?_ | with_reducible refine Below.trans ?_ (Below.mono (by assumption) ?_) | with_reducible refine Below.alloc ?_ ?_ _ | with_reducible refine Below.setCell ?_ ?_ _ | with_reducible refine le_setCell ?_ _ _ | with_reducible refine le_alloc ?_ _ | with_reducible refine le_drewN ?_ _ | with_reducible refine le_drew ?_ | with_reducible refine Nat.le_trans ?_ (Below.size (by assumption)) | (simp only [World.size_alloc, World.size_setCell]; omega)))⟩
  | true =>
    have hb := of_decide_eq_true hv
    simp only at hb
    have hlen := Lib.hid (ln7_len _ hv)
    have HV : Hid (lnV ⟨k, f, t, v, a, s.data.toList, u⟩ = .tuple #[.string ⟨(ln7 ⟨k, f, t, v, a, s.data.toList, u⟩).toArray⟩, .int .i64 0]) := Lib.hid (by unfold lnV; rw [hv]; rfl)
    have HJ := Lib.hid (join_line ⟨k, f, t, v, a, s.data.toList, u⟩)
    simp only at HJ
    rw [hv] at C1
    have H1 := Lib.hid C1
    obtain ⟨n, rfl⟩ : ∃ n : Nat, k = (n : Int) + 1 := ⟨(k - 1).toNat, by omega⟩
    have hn8 : n < 8 := by omega
    have hname := name_at hE n hn8
    have IT := fun (x : Int) (W : World) (h : Env W) (h0 : -9223372036854775808 ≤ x) (h1 : x ≤ 9223372036854775807) => itoa_any x W h0 h1 h
    have hq : s.data.toList.length ≤ 4096 := by omega
    rw [← size_len] at hq
    have HQ := Lib.hid (fun W => quote_any s W (by omega))
    have c0 : ∀ o o', ((w.alloc o).alloc o').cell? ⟨0, n, none⟩ = some (.string ⟨(nm7 ((n : Int) + 1)).toArray⟩) := fun o o' => name_at ((hE.below (ba w o)).below (ba _ o')) n hn8
    have hbd : (0 ≤ f ∧ f ≤ 1099511627776) ∧ (0 ≤ t ∧ t ≤ 1099511627776) ∧ (-9007199254740992 ≤ v ∧ v ≤ 9007199254740992) ∧ (-9007199254740992 ≤ a ∧ a ≤ 9007199254740992) ∧ (0 ≤ u ∧ u ≤ 12) := by omega
    have HBD := Lib.hid hbd
    have HE := Lib.hid hE; have HIT := Lib.hid IT
    clear hb hv C1 hname IT hq hE hbd
    generalize (⟨(nm7 ((n : Int) + 1)).toArray⟩ : ByteArray) = nb at *
    generalize (⟨(qt s.data.toList).toArray⟩ : ByteArray) = qb at *
    generalize ln7 ⟨(n : Int) + 1, f, t, v, a, s.data.toList, u⟩ = LL at *
    go_enter Tryd.func23, Tryd.ntmps23
    go_wp2_with (go_at_call 11; go_must (refine (H1.out _).mono ?_; rintro e1 w1 ⟨rfl, rfl⟩))
    obtain ⟨W3, b2, b3, e3, eb2, eb3, R3, I3, X3, E3, B3, lb2, lb3⟩ : ∃ (W3 : World) (b2 b3 : Nat), W3 = (((w.alloc (.cells (evA ((n : Int) + 1) f t v a s u) 23)).alloc (.cells (evA ((n : Int) + 1) f t v a s u) 23)).alloc (.cells #[.string nb] 9)).alloc (.cells #[.int .i64 f, .int .i64 t, .int .i64 v, .int .i64 a, .int .i64 u] 3) ∧ b2 = w.heap.size + 1 + 1 ∧ b3 = w.heap.size + 1 + 1 + 1 ∧ StRow W3 b2 (.slice (some ⟨b2, 0, none⟩) 1 1) [nb] ∧ RowAt W3 b3 3 #[.int .i64 f, .int .i64 t, .int .i64 v, .int .i64 a, .int .i64 u] ∧ W3.cell? ⟨w.heap.size, 5, none⟩ = some (.string s) ∧ Env W3 ∧ Below w.heap.size w W3 ∧ w.heap.size < b2 ∧ w.heap.size < W3.heap.size := by
      refine ⟨_, _, _, rfl, rfl, rfl, ?_, ?_, ?_, ?_, ?_, by omega, ?_⟩
      · have h := KRow.lit (enc := stC) (T := 9) stC_size ((w.alloc (.cells (evA ((n : Int) + 1) f t v a s u) 23)).alloc (.cells (evA ((n : Int) + 1) f t v a s u) 23)) (w.heap.size + 1 + 1) (by rw [World.size_alloc, World.size_alloc]; exact Nat.le_refl _) [nb] #[.string nb] rfl 1 rfl (by simp)
        rw [World.size_alloc, World.size_alloc] at h
        exact h.alloc _
      · exact RowAt.at (by rw [World.size_alloc, World.size_alloc, World.size_alloc])
      · exact ((((RowAt.new w 23 (evA ((n : Int) + 1) f t v a s u)).alloc _).alloc _).alloc _).cell 5
      · exact (((HE.out.below (ba _ _)).below (ba _ _)).below (ba _ _)).below (ba _ _)
      · exact (by repeat' (first | with_reducible exact Below.refl _ _ | with_reducible exact Nat.le_refl _ | with_reducible assumption | with_reducible refine below_drewN ?_ _ | with_reducible refine Below.drew ?_ | with_reducible refine Below.trans ?_ (Below.mono (by assumption) ?_) | with_reducible refine Below.alloc ?_ ?_ _ | with_reducible refine Below.setCell ?_ ?_ _ | with_reducible refine le_setCell ?_ _ _ | with_reducible refine le_alloc ?_ _ | with_reducible refine le_drewN ?_ _ | with_reducible refine le_drew ?_ | with_reducible refine Nat.le_trans ?_ (Below.size (by assumption)) | (simp only [World.size_alloc, World.size_setCell]; omega)))
      · simp only [World.size_alloc]; omega
    rw [← e3, ← eb3, ← eb2]
    clear e3 eb2 eb3 c0 H1
    have HX3 := Lib.hid X3; have HE3 := Lib.hid E3; have HB3 := Lib.hid B3; have LB2 := Lib.hid lb2
    have hb2 := (R3.lt b2 rfl).2
    clear X3 E3 B3 lb2
    go_loopw [28, 4] (fun x r wr => ∃ (i : Nat) (ws : List ByteArray), i ≤ 5 ∧ x = .int .i64 i ∧ Hid (ws = nb :: ([f, t, v, a, u].take i).map fun n => (⟨(Lib.itoa n).toArray⟩ : ByteArray)) ∧ Hid (StRow wr b2 r ws) ∧ Hid (RowAt wr b3 3 #[.int .i64 f, .int .i64 t, .int .i64 v, .int .i64 a, .int .i64 u]) ∧ Hid (Below b2 W3 wr)) (fun x _ _ => 5 - (intOf x).toNat)
    case atStart => exact ⟨0, [nb], by omega, rfl, Lib.hid rfl, Lib.hid R3, Lib.hid I3, Lib.hid (Below.refl _ _)⟩
    case round =>
      obtain ⟨i, ws, hi, rfl, HW, HR, HI, HB⟩ := hrel
      have hb := HB.out
      have hwl : ws.length = i + 1 := by rw [HW.out]; simp; omega
      have HBB : Hid (Below w.heap.size w wr) := Lib.hid (HB3.out.trans (hb.mono (Nat.le_of_lt LB2.out)))
      have HEW : Hid (Env wr) := Lib.hid (HE.out.below HBB.out)
      have hap := Lib.hid (apart HR.out (by omega) HI.out rfl)
      by_cases hlt : i < 5
      · obtain ⟨x, hx, hxm⟩ : ∃ x : Int, [f, t, v, a, u][i]? = some x ∧ (-9223372036854775808 ≤ x ∧ x ≤ 9223372036854775807) := by
          have hbd := HBD.out
          have h5 : i = 0 ∨ i = 1 ∨ i = 2 ∨ i = 3 ∨ i = 4 := by omega
          rcases h5 with rfl | rfl | rfl | rfl | rfl <;> exact ⟨_, rfl, by omega, by omega⟩
        have a0 : wr.cell? ⟨b3, i, none⟩ = some (.int .i64 x) := by
          rw [HI.out.cell i]
          have h5 : i = 0 ∨ i = 1 ∨ i = 2 ∨ i = 3 ∨ i = 4 := by omega
          rcases h5 with rfl | rfl | rfl | rfl | rfl <;> (simp at hx; subst hx; rfl)
        have HN : Hid (ws ++ [(⟨(Lib.itoa x).toArray⟩ : ByteArray)] = nb :: ([f, t, v, a, u].take (i + 1)).map fun n => (⟨(Lib.itoa n).toArray⟩ : ByteArray)) := Lib.hid (by
          rw [HW.out, List.take_add_one, hx]
          simp)
        have HC := Lib.hid (fun W h => HIT.out x W h hxm.1 hxm.2)
        clear hx hxm HW
        generalize (⟨(Lib.itoa x).toArray⟩ : ByteArray) = xb at *
        go_wp2_with (first
          | (go_at_call 32; go_must (refine (HC.out _ HEW.out).mono ?_; rintro e1 w1 ⟨rfl, b1⟩; have R1 := Lib.hid (HR.out.keep b1); have I1 := Lib.hid (HI.out.keep b1); have B1 := Lib.hid (hb.trans (b1.mono (Nat.le_trans (Nat.le_of_lt hb2) hb.size))); clear b1))
          | (at_builtin; go_must (refine wpList_append_st rfl _ _ rfl rfl rfl rfl rfl R1.out (Nat.le_trans (Nat.le_of_lt hb2) B1.out.size) (by omega) ?_; intro v5 w5 R5 b5 n5; have I5 : Hid (RowAt w5 b3 3 #[.int .i64 f, .int .i64 t, .int .i64 v, .int .i64 a, .int .i64 u]) := Lib.hid ((n5 b3 I1.out.lt hap.out).trans I1.out); have B5 := Lib.hid (B1.out.trans b5); have R55 := Lib.hid R5; clear R5 b5 n5)))
        go_roundw
        case rel => exact ⟨i + 1, ws ++ [xb], by omega, by go_num, HN, R55, I5, B5⟩
        case measure => simp [intOf]; omega
      · have h5 : i = 5 := by omega
        subst h5
        have HW2 : ws = [nb, ⟨(Lib.itoa f).toArray⟩, ⟨(Lib.itoa t).toArray⟩, ⟨(Lib.itoa v).toArray⟩, ⟨(Lib.itoa a).toArray⟩, ⟨(Lib.itoa u).toArray⟩] := HW.out
        have hjl := HJ.out
        have HJ2 : Hid (Lib.join ((ws ++ [qb]).map (·.data.toList)) (⟨#[32]⟩ : ByteArray).data.toList = LL) := Lib.hid (by rw [HW2]; exact HJ.out)
        have x5 := (hb.cell (p := ⟨w.heap.size, 5, none⟩) LB2.out).trans HX3.out
        clear HW HW2 hjl
        have hwl2 : (ws ++ [qb]).length = 7 := by rw [List.length_append, hwl]; rfl
        have CJ := Lib.hid (fun (W : World) (G C : Nat) (h : StRow W b2 (.slice (some ⟨G, 0, none⟩) (ws ++ [qb]).length C) (ws ++ [qb])) => join_row h (by omega) HJ2.out hlen.out)
        rw [hwl2] at CJ
        have hwl3 := Lib.hid hwl2
        clear hwl2 HJ HJ2 hlen HIT HBD HX3
        go_wp2_with (first
          | (go_at_call 33; go_must (refine (HQ.out _).mono ?_; rintro e1 w1 ⟨rfl, b1⟩; have R1 := Lib.hid (HR.out.keep b1); have B1 := Lib.hid (hb.trans (b1.mono (Nat.le_trans (Nat.le_of_lt hb2) hb.size))); clear b1))
          | (at_builtin; go_must (refine wpList_append_st rfl _ _ rfl rfl rfl rfl rfl R1.out (Nat.le_trans (Nat.le_of_lt hb2) B1.out.size) (by omega) ?_; intro v5 w5 R5 b5 n5; have B5 := Lib.hid (HB3.out.trans ((B1.out.trans b5).mono (Nat.le_of_lt LB2.out))); obtain ⟨G, C, rfl⟩ := R5.full (by simp); rw [hwl3.out] at R5; have R55 := Lib.hid R5; clear R5 b5 n5))
          | (go_at_call 34; go_must (refine (CJ.out _ G C R55.out).mono ?_; rintro e9 w9 ⟨rfl, b9⟩)))
        go_returns
        exact ⟨HV.out.symm ▸ rfl, B5.out.trans (b9.mono B5.out.size)⟩

end Go.Proofs.YtiimdkamgehioaaDoor
