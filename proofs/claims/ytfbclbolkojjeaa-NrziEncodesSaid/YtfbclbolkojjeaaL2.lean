/-
  The walk of the statement NrziEncodes.
-/
import Derived.Test.YtfbclbolkojjeaaNB
namespace Go.Proofs.Ytfbclbolkojjeaa
open Go Go.RowKit Go.Joins
set_option linter.unusedVariables false
set_option linter.unusedSimpArgs false

/-! Two items compared. -/
def eqI (g v x : Int) (d : ByteArray) (u : Int) (g' v' x' : Int) (d' : ByteArray) (u' : Int) : Bool := g == g' && (v == v' && (x == x' && (d.data.toList == d'.data.toList && u == u')))
set_option maxRecDepth 20000 in
set_option maxHeartbeats 1000000 in
theorem eqFields_it (n : Nat) (g v x : Int) (d : ByteArray) (u : Int) (g' v' x' : Int) (d' : ByteArray) (u' : Int) (w : World) :
    (Op.eqFields (n + 1) (itA g v x d u) (itA g' v' x' d' u') (Try.prog.fieldsOf 32).toList).run Try.prog w = .ok (eqI g v x d u g' v' x' d' u') w := by
  unfold Program.fieldsOf
  rw [Try.underlying32]
  simp only
  unfold eqI
  go_simp
  rw [ByteArray.toList_eq, ByteArray.toList_eq]
  by_cases h0 : g = g'
  case neg => simp [h0]
  by_cases h1 : v = v'
  case neg => simp [h1]
  by_cases h2 : x = x'
  case neg => simp [h2]
  by_cases h5 : d.data.toList = d'.data.toList
  case neg => simp only [h5, if_false, if_true, *]; have h5' : ¬ d.data = d'.data := fun e => h5 (by rw [e]); simp [h5']
  by_cases h6 : u = u'
  case neg => simp [h6]
  have h5' : d.data = d'.data := Array.toList_inj.1 h5
  simp [h0, h1, h2, h5', h6]
theorem neq_it (g v x : Int) (d : ByteArray) (u : Int) (g' v' x' : Int) (d' : ByteArray) (u' : Int) (w : World) :
    (binOp .neq 32 (.agg (itA g v x d u)) (.agg (itA g' v' x' d' u'))).run Try.prog w = .ok (.bool (!eqI g v x d u g' v' x' d' u')) w := by
  have hst : Try.prog.underlying 32 = some (.struct (Try.prog.fieldsOf 32)) := by unfold Program.fieldsOf; rw [Try.underlying32]
  rw [run_neq_struct, run_equalIn_agg w 9999 _ _ _ hst (by kernel_rfl), eqFields_it]; rfl
theorem eqI_refl (g v x : Int) (d : ByteArray) (u : Int) : eqI g v x d u g v x d u = true := by unfold eqI; simp

theorem nrziCheck_any (z : Bool) (w : World) : Calls Try.prog 46 #[.agg #[.bool z]] w fun e w' => e = .returned (.int .i64 0) ∧ Below w.heap.size w w' := by
  go_enter Try.func46, Try.ntmps46
  go_wp2
  go_returns
  exact ⟨rfl, by (repeat' (first | with_reducible exact Below.refl _ _ | with_reducible exact Nat.le_refl _ | with_reducible assumption | with_reducible refine below_drewN ?_ _ | with_reducible refine Below.drew ?_ | with_reducible refine Below.trans ?_ (Below.mono (by assumption) ?_) | with_reducible refine Below.alloc ?_ ?_ _ | with_reducible refine Below.setCell ?_ ?_ _ | with_reducible refine le_setCell ?_ _ _ | with_reducible refine le_alloc ?_ _ | with_reducible refine le_drewN ?_ _ | with_reducible refine le_drew ?_ | with_reducible refine Nat.le_trans ?_ (Below.size (by assumption)) | (simp only [World.size_alloc, World.size_setCell]; omega) | omega))⟩

theorem enL_len (z : Bool) (l : List It) : (enL z l).length ≤ l.length := by
  unfold enL
  split
  · rw [codI_len]; exact Nat.le_refl _
  · simp

set_option maxRecDepth 100000 in
set_option maxHeartbeats 8000000 in
theorem law_encodes (z : Bool) (l : List It) (V : Value) (w : World) (hT : ItArg w V l) (hl : l.length ≤ 140737488351232) (hd : ∀ j (h : j < l.length), l[j].d.size ≤ 140737488351232) :
    Calls Try.prog 10 #[.agg #[.bool z], V] w fun e w' => e = .returned (.bool true) ∧ Below w.heap.size w w' := by
  have CT := Lib.hid (fun W (hb : Below w.heap.size w W) => tiny_any l V W (hT.keep hb) hl hd)
  have C1 := Lib.hid (fun W (hb : Below w.heap.size w W) => encode_any z l V W (hT.keep hb) hl hd)
  have C2 := Lib.hid (fun W (hb : Below w.heap.size w W) => refEncode_any z l V W (hT.keep hb) hl hd)
  have CC := Lib.hid (fun W => nrziCheck_any z W)
  have CA := Lib.hid awake_any
  obtain ⟨A, c, rfl⟩ := hT.form
  obtain ⟨W, b2, eW, e2, l2, r2, B0⟩ := one_box w z
  have z0 := r2.get1
  have HB0 := Lib.hid B0; have H2 := Lib.hid r2
  have hML := enL_len z l
  have hTY := tyL_iff l
  clear hT B0 r2 hd
  generalize enL z l = M at *
  generalize clE 1048576 l = E at *
  have hE : (E == E) = true := by simp
  cases ht : tyL l
  · rw [ht] at CT
    clear ht hTY
    go_enter Try.func10, Try.ntmps10
    go_wp2_with (first
      | (rw [← eW, ← e2]; clear eW e2; go_at_call 43; go_must (refine (CT.out _ HB0.out).mono ?_; rintro e1 w1 ⟨rfl, rfl⟩))
      | (go_at_call 33; go_must (refine (CA.out _).mono ?_; rintro e9 w9 ⟨rfl, b9⟩; have B9 := Lib.hid (HB0.out.trans (b9.mono HB0.out.size)))))
    go_returns
    exact ⟨rfl, B9.out⟩
  · have hl20 := (hTY.1 ht).1
    rw [ht] at CT
    clear ht hTY
    have hm' : (M.length : Int) ≤ 20 := by omega
    go_enter Try.func10, Try.ntmps10
    go_wp2_with (first
      | (rw [← eW, ← e2]; clear eW e2; go_at_call 43; go_must (refine (CT.out _ HB0.out).mono ?_; rintro e1 w1 ⟨rfl, rfl⟩))
      | (go_at_call 44; go_must (refine (C1.out _ HB0.out).mono ?_; rintro e3 w3 ⟨v3, rfl, r3, b3⟩; obtain ⟨UA, UN, UC, rfl, hUN⟩ := r3.form; subst hUN; have R3 := Lib.hid (r3.arg itC_size); have H3 := Lib.hid (H2.out.keep b3); clear z0; have z0 := H3.out.get1; have B3 := Lib.hid (HB0.out.trans (b3.mono HB0.out.size)); clear r3 b3))
      | (go_at_call 45; go_must (refine (C2.out _ B3.out).mono ?_; rintro e4 w4 ⟨v4, rfl, r4, b4⟩; obtain ⟨VA, VN, VC, rfl, hVN⟩ := r4.form; subst hVN; have R4 := Lib.hid (r4.arg itC_size); have R3' := Lib.hid (R3.out.keep b4); have H4 := Lib.hid (H3.out.keep b4); clear z0; have z0 := H4.out.get1; have B4 := Lib.hid (B3.out.trans (b4.mono B3.out.size)); clear r4 b4))
      | (go_at_call 46; go_must (refine (CC.out _).mono ?_; rintro e5 w5 ⟨rfl, b5⟩; have R5 := Lib.hid (R3'.out.keep b5); have R6 := Lib.hid (R4.out.keep b5); have B5 := Lib.hid (B4.out.trans (b5.mono B4.out.size)); clear b5)))
    clear C1 C2 CC CT z0 R3 R3' R4 H2 H3 H4 HB0 B3 B4
    go_loopw [9] (fun i wr => ∃ (k m : Nat), k ≤ M.length ∧ i = .int .i64 k ∧ wr = w5.drewN m) (fun i _ => M.length - (intOf i).toNat)
    case atStart => exact ⟨0, 0, Nat.zero_le _, rfl, rfl⟩
    case round =>
      obtain ⟨k, m, hk, rfl, rfl⟩ := hrel
      by_cases hlt : k < M.length
      · obtain ⟨A1, c1, e1, h1⟩ := R5.out
        obtain ⟨A2, c2, e2, h2⟩ := R6.out
        obtain ⟨g1, o1, rfl, hg1, hc1⟩ := h1 (by omega)
        obtain ⟨g2, o2, rfl, hg2, hc2⟩ := h2 (by omega)
        simp only [Value.slice.injEq] at e1 e2
        obtain ⟨rfl, _, rfl⟩ := e1
        obtain ⟨rfl, _, rfl⟩ := e2
        obtain ⟨a0, a1, a2, a3, a4⟩ := arg_five hc1 k hlt
        obtain ⟨b0, b1, b2', b3, b4⟩ := arg_five hc2 k hlt
        have Q := fun W => neq_it M[k].g M[k].v M[k].x M[k].d M[k].u M[k].g M[k].v M[k].x M[k].d M[k].u W
        rw [eqI_refl] at Q
        clear hc1 hc2 h1 h2
        generalize M[k].g = x0 at *
        generalize M[k].v = x1 at *
        generalize M[k].x = x2 at *
        generalize M[k].d = x3 at *
        generalize M[k].u = x4 at *
        go_wp2
        go_quiet (fail)
        go_wp2
        go_roundw
        case rel => exact ⟨k + 1, m + nq, by omega, val_int (by omega), rfl⟩
        case measure => simp [intOf]; omega
      · go_wp2_with (go_at_call 33; go_must (refine (CA.out _).mono ?_; rintro e9 w9 ⟨rfl, b9⟩; have B9 := Lib.hid ((Go.below_drewN B5.out m).trans (b9.mono B5.out.size))))
        go_returns
        exact ⟨rfl, B9.out⟩

end Go.Proofs.Ytfbclbolkojjeaa
