/-
  Layer 17: the law of the round trip.
-/
import Derived.Test.YtpooolijghbkbaaW4
namespace Go.Proofs.Ytpooolijghbkbaa
open Go Go.RowKit Go.Joins
open Sw (Rn RnRow RnArg rnC lg)
set_option linter.unusedVariables false
set_option linter.unusedSimpArgs false

/-- What is found of an item. -/
def FoundH : Prop := ∀ (m P F Q : List Ev) (e : It) (V : Value) (W : World), m = P ++ (F ++ Q) → okEv e F → OkT e → EvArg W V m → m.length ≤ 1099511627776 →
  Calls Try.prog 50 #[V, .int .i64 (P.length : Nat), .agg (itA e.g e.v e.x e.d e.u)] W fun r w' => r = .returned (.int .i64 (F.length : Nat)) ∧ Below W.heap.size W w'

theorem okEv_len {e : It} {L : List Ev} (h : okEv e L) (ho : OkT e) : L.length ≤ 4097 := by
  have := h.1
  have hd := ho.d
  have hx := ho.x
  split at this
  · rename_i h5; have := hx h5; omega
  · omega
theorem flat_len (F : Nat → List Ev) (n : Nat) (h : ∀ j, j < n → (F j).length ≤ 4097) : ((List.range n).flatMap F).length ≤ 4097 * n := by
  induction n with
  | zero => simp
  | succ n ih =>
    have := ih fun j hj => h j (by omega)
    have := h n (by omega)
    rw [List.range_succ, List.flatMap_append, List.length_append]
    simp only [List.flatMap_cons, List.flatMap_nil, List.append_nil]
    omega
theorem flat_split (F : Nat → List Ev) (j : Nat) : ∀ n, j < n → ∃ Q, (List.range n).flatMap F = (List.range j).flatMap F ++ (F j ++ Q) := by
  intro n
  induction n with
  | zero => intro h; omega
  | succ n ih =>
    intro h
    rw [List.range_succ, List.flatMap_append]
    simp only [List.flatMap_cons, List.flatMap_nil, List.append_nil]
    by_cases hj : j = n
    · subst hj; exact ⟨[], by rw [List.append_nil]⟩
    · obtain ⟨Q, hQ⟩ := ih (by omega)
      exact ⟨Q ++ F n, by rw [hQ]; simp only [List.append_assoc]⟩
theorem flat_succ (F : Nat → List Ev) (j : Nat) : ((List.range (j + 1)).flatMap F).length = ((List.range j).flatMap F).length + (F j).length := by
  rw [List.range_succ, List.flatMap_append, List.length_append]
  simp only [List.flatMap_cons, List.flatMap_nil, List.append_nil]

set_option maxRecDepth 20000 in
set_option maxHeartbeats 8000000 in
theorem law_round17_of (HFnd : FoundH) (N D : Int) (z : Bool) (l : List It) (V : Value) (w : World) (hN0 : -9223372036854775808 ≤ N) (hN1 : N ≤ 9223372036854775807) (hD0 : -9223372036854775808 ≤ D) (hD1 : D ≤ 9223372036854775807) (hT : ItArg w V l) (hl : l.length ≤ 140737488351232) (hd : ∀ j (h : j < l.length), l[j].d.size ≤ 140737488351232) :
    Calls Try.prog 12 #[.agg (manA N D z), V] w fun e w' => e = .returned (.bool true) ∧ Below w.heap.size w w' := by
  have CX := Lib.hid (fun W (hb : Below w.heap.size w W) => expect17_any N D z l V W hN0 hN1 hD0 hD1 (hT.keep hb) hl hd)
  have CE := Lib.hid (fun W (hb : Below w.heap.size w W) => encode17_any N D z l V W hN0 hN1 hD0 hD1 (hT.keep hb) hl hd)
  have CA := Lib.hid awake17_any
  have HE := Lib.hid (fun h : menE N D l = 0 => menR_ok z h)
  have HM := Lib.hid (show meL N D z l = if menE N D l = 0 then ((epL N D l l.length).foldl (fS N D) CR.zero).o else [] by
    by_cases h : menE N D l = 0
    · rw [if_pos h]; exact me_fold z h
    · unfold meL; rw [if_neg h, if_neg h])
  generalize menE N D l = E at *
  generalize menR N D z l = MR at *
  generalize meL N D z l = ML at *
  obtain ⟨W, b, eW, eb, lb, r3, B0⟩ : ∃ W b2, W = w.alloc (.cells (manA N D z) 59) ∧ b2 = w.heap.size ∧ b2 < W.heap.size ∧ RowAt W b2 59 (manA N D z) ∧ Below w.heap.size w W := ⟨_, _, rfl, rfl, by rw [World.size_alloc]; omega, RowAt.new w _ _, ba _ _⟩
  obtain ⟨c0, c1, c2⟩ := row3 r3
  have H3 := Lib.hid r3
  have HB0 := Lib.hid B0
  obtain ⟨A, c, rfl, hA⟩ := hT
  have HA := Lib.hid hA
  clear hA r3 B0 hd
  by_cases hE : E = 0
  · subst hE
    obtain ⟨hBt, hk, hm, _, _, _⟩ := HE.out rfl
    obtain ⟨hl1, hO⟩ := ml_ok hm
    obtain ⟨F, f1, f2, _⟩ := items_fold hBt hO l.length (Nat.le_refl _)
    have hML : ML = (List.range l.length).flatMap F := by rw [HM.out, if_pos rfl, f2]
    have hF : ∀ j, j < l.length → (F j).length ≤ 4097 := fun j hj => okEv_len (f1 j hj hj) (hO j hj)
    have hlen := flat_len F l.length hF
    obtain ⟨pre, hpre⟩ : ∃ pre : Nat → Nat, pre = fun j => ((List.range j).flatMap F).length := ⟨_, rfl⟩
    have p0 : pre 0 = 0 := by rw [hpre]; rfl
    have ps : ∀ j, pre (j + 1) = pre j + (F j).length := fun j => by rw [hpre]; exact flat_succ F j
    have pl : ∀ j, j ≤ l.length → pre j ≤ 4097 * j := fun j hj => by rw [hpre]; exact flat_len F j fun i hi => hF i (by omega)
    have pm : pre l.length = ML.length := by rw [hpre, hML]
    have HFd := Lib.hid (fun j (hj : j < l.length) V W (h : EvArg W V ML) => by
      obtain ⟨Q, hQ⟩ := flat_split F j l.length hj
      have := HFnd ML _ (F j) Q l[j] V W (by rw [hML]; exact hQ) (f1 j hj hj) (hO j hj) h (by rw [hML]; omega)
      rw [show ((List.range j).flatMap F).length = pre j from by rw [hpre]] at this
      exact this)
    have HPS := Lib.hid ps; have HPL := Lib.hid pl; have HPM := Lib.hid pm; have HP0 := Lib.hid p0; have HFL := Lib.hid hF
    clear hpre ps pl pm p0 hML hlen f1 f2 hO hBt hk hm HE HM HFnd hF hl
    go_enter Try.func12, Try.ntmps12
    go_wp2_with (first
      | (rw [← eW, ← eb]; clear eW eb; go_at_call 39; go_must (refine (CX.out _ HB0.out).mono ?_; rintro e1 w1 ⟨V1, rfl, v1, b1⟩; obtain ⟨A1, M1, C1, rfl, hM1⟩ := v1.form; have R1 := Lib.hid v1; have B1 := Lib.hid (HB0.out.trans (b1.mono HB0.out.size)); obtain ⟨c0, c1, c2⟩ := row3 (H3.out.keep b1); have m1 := (H3.out.keep b1).lt; have H3 := Lib.hid (H3.out.keep b1)))
      | (go_at_call 38; go_must (refine (CE.out _ B1.out).mono ?_; rintro e2 w2 ⟨V2, rfl, v2, b2⟩; obtain ⟨A2, M2, C2, rfl, hM2⟩ := v2.form; have R1 := Lib.hid (R1.out.keep b2); have B2 := Lib.hid (B1.out.trans (b2.mono B1.out.size)))))
    obtain rfl : M1 = ML.length := hM1
    clear c0 c1 c2 m1 v1 v2 b1 hM2 CX CE
    go_loopw [9, 10] (fun a i wr => ∃ (j : Nat), j ≤ l.length ∧ a = .int .i64 (pre j : Nat) ∧ i = .int .i64 j ∧ Hid (Below w.heap.size w wr) ∧ Hid (Below w2.heap.size w2 wr)) (fun _ i _ => l.length - (intOf i).toNat)
    case atStart => exact ⟨0, Nat.zero_le _, by rw [HP0.out]; rfl, rfl, B2, Lib.hid (Below.refl _ _)⟩
    case round =>
      obtain ⟨j, hj, rfl, rfl, HB, HW⟩ := hrel
      have hb := HB.out
      by_cases hjl : j < l.length
      · obtain ⟨g, o, rfl, hg, hc⟩ := HA.out (by omega)
        obtain ⟨a0, a1, a2, a3, a4⟩ := arg_five hc j hjl
        have f0 := (hb.cell (p := ⟨g, o + j * 5, none⟩) hg).trans a0
        have f1 := (hb.cell (p := ⟨g, o + j * 5 + 1, none⟩) hg).trans a1
        have f2 := (hb.cell (p := ⟨g, o + j * 5 + 2, none⟩) hg).trans a2
        have f3 := (hb.cell (p := ⟨g, o + j * 5 + 3, none⟩) hg).trans a3
        have f4 := (hb.cell (p := ⟨g, o + j * 5 + 4, none⟩) hg).trans a4
        have CF := Lib.hid (HFd.out j hjl (.slice A1 ML.length C1) wr ((R1.out.keep HW.out).arg evC_size))
        have q1 := HPS.out j
        have q2 := HPL.out j hj
        have q3 := HFL.out j hjl
        have hl2 : (l.length : Int) ≤ 1024 := by omega
        clear a0 a1 a2 a3 a4 hc
        generalize l[j].g = x0 at *
        generalize l[j].v = x1 at *
        generalize l[j].x = x2 at *
        generalize l[j].d = x3 at *
        generalize l[j].u = x4 at *
        generalize (F j).length = n at *
        generalize hp : pre j = p at *
        have hw : IntKind.i64.wrap ((p : Int) + n) = ((pre (j + 1) : Nat) : Int) := by rw [IntWalk.i64_in _ (by omega), q1]; omega
        go_wp2_with (go_at_call 50; go_must (refine CF.out.mono ?_; rintro e4 w4 ⟨rfl, b4⟩; have B4 := Lib.hid (hb.trans (b4.mono hb.size)); have W4 := Lib.hid (HW.out.trans (b4.mono HW.out.size))))
        go_roundw
        case rel => exact ⟨j + 1, by omega, val_int (by omega), val_int (by omega), B4, W4⟩
        case measure => simp [intOf]; omega
      · obtain rfl : j = l.length := by omega
        rw [HPM.out]
        go_wp2_with (go_at_call 36; go_must (refine (CA.out _).mono ?_; rintro e3 w3 ⟨rfl, b3⟩; have B3 := Lib.hid (hb.trans (b3.mono hb.size))))
        go_returns
        exact ⟨rfl, B3.out⟩
  · have hE' : (E == 0) = false := by simpa using hE
    obtain rfl : ML = [] := by rw [HM.out, if_neg hE]
    clear HE HM hE HFnd
    go_enter Try.func12, Try.ntmps12
    go_wp2_with (first
      | (rw [← eW, ← eb]; clear eW eb; go_at_call 39; go_must (refine (CX.out _ HB0.out).mono ?_; rintro e1 w1 ⟨V1, rfl, v1, b1⟩; obtain ⟨A1, M1, C1, rfl, hM1⟩ := v1.form; obtain rfl : M1 = 0 := hM1; have B1 := Lib.hid (HB0.out.trans (b1.mono HB0.out.size)); obtain ⟨c0, c1, c2⟩ := row3 (H3.out.keep b1); have m1 := (H3.out.keep b1).lt))
      | (go_at_call 38; go_must (refine (CE.out _ B1.out).mono ?_; rintro e2 w2 ⟨V2, rfl, v2, b2⟩; obtain ⟨A2, M2, C2, rfl, hM2⟩ := v2.form; have B2 := Lib.hid (B1.out.trans (b2.mono B1.out.size))))
      | (go_at_call 36; go_must (refine (CA.out _).mono ?_; rintro e3 w3 ⟨rfl, b3⟩; have B3 := Lib.hid (B2.out.trans (b3.mono B2.out.size)))))
    go_returns
    exact ⟨rfl, B3.out⟩

theorem getD_at (d : ByteArray) (i : Nat) (h : i < d.size) : d.data.toList.getD i 0 = d[i] := by
  have h' : i < d.data.toList.length := by rw [Array.length_toList]; exact h
  rw [List.getD, List.getElem?_eq_getElem h', Option.getD_some, Array.getElem_toList]
  rfl
theorem found_holds : FoundH := by
  intro m P F Q e V W hm hF ho hT hl
  obtain ⟨g1, g2, g3⟩ := hF
  have ml : m.length = P.length + (F.length + Q.length) := by rw [hm]; simp
  have place : ∀ i x, F[i]? = some x → ∀ h : P.length + i < m.length, m[P.length + i] = x := by
    intro i x hx h
    have hi : i < F.length := by
      rcases Nat.lt_or_ge i F.length with h | h
      · exact h
      · rw [List.getElem?_eq_none h] at hx; cases hx
    have : m[P.length + i]? = some x := by rw [hm, List.getElem?_append_right (by omega), Nat.add_sub_cancel_left, List.getElem?_append_left hi]; exact hx
    exact Option.some.inj ((List.getElem?_eq_getElem h).symm.trans this)
  have hds := ho.d
  rcases ho.u with hu | hu
  · have h5 : ¬ e.u = 5 := by omega
    have hlen : F.length = e.d.size := by rw [g1, if_neg h5]
    have hn : nbI e = e.d.size := by unfold nbI; rw [if_neg h5]
    rw [hu, hlen]
    refine found_none m P.length e.g e.v e.x e.d V W hT (by omega) (by omega) (by omega) ?_
    intro i hi h
    obtain ⟨x, x1, x2, x3, x4, x5⟩ := g2 i (by omega)
    rw [getD_at e.d i hi] at x3
    rw [place i x x1 h]
    exact ⟨x2, x3, x4, x5⟩
  · obtain ⟨y0, y1⟩ := ho.x hu
    have hlen : F.length = e.x.toNat + 1 := by rw [g1, if_pos hu]
    have hn : nbI e = e.x.toNat := by unfold nbI; rw [if_pos hu]
    have hc := found_code m P.length e.g e.v e.x.toNat e.d V W hT (by omega) (by omega) (by omega) (by omega) ?_ ?_
    · rw [Int.toNat_of_nonneg y0] at hc
      rw [hu, hlen]
      exact hc
    · intro i hi h hin
      obtain ⟨x, x1, x2, x3, x4, x5⟩ := g2 i (by omega)
      rw [getD_at e.d i hi] at x3
      rw [place i x x1 h]
      exact ⟨x2, x3, x4, x5⟩
    · intro h
      obtain ⟨x, x1, x2, x3, x4⟩ := g3 hu
      rw [place _ x x1 h]
      exact ⟨x2, x3, x4⟩

theorem law_round17 (N D : Int) (z : Bool) (l : List It) (V : Value) (w : World) (hN0 : -9223372036854775808 ≤ N) (hN1 : N ≤ 9223372036854775807) (hD0 : -9223372036854775808 ≤ D) (hD1 : D ≤ 9223372036854775807) (hT : ItArg w V l) (hl : l.length ≤ 140737488351232) (hd : ∀ j (h : j < l.length), l[j].d.size ≤ 140737488351232) :
    Calls Try.prog 12 #[.agg (manA N D z), V] w fun e w' => e = .returned (.bool true) ∧ Below w.heap.size w w' :=
  law_round17_of found_holds N D z l V w hN0 hN1 hD0 hD1 hT hl hd

end Go.Proofs.Ytpooolijghbkbaa
