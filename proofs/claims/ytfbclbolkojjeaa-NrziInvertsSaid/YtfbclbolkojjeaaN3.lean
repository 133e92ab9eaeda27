/-
  Layer 16: the walk of the program's Decode (a generic one, called with Step and End).
-/
import Derived.Test.YtfbclbolkojjeaaN2
import Derived.Test.YtfbclbolkojjeaaK3
namespace Go.Proofs.Ytfbclbolkojjeaa
open Go Go.RowKit Go.Joins
set_option linter.unusedVariables false
set_option linter.unusedSimpArgs false

theorem nzS_parts (z : Bool) (q p : Int) (o : List Ev) (e : Ev) : nzS z ⟨q, p, o⟩ e = ⟨(nzS z ⟨q, p, []⟩ e).q, (nzS z ⟨q, p, []⟩ e).p, o ++ (nzS z ⟨q, p, []⟩ e).o⟩ := by
  unfold nzS
  by_cases h : AcE q e <;> simp [h]
theorem nzS_one (z : Bool) (q p : Int) (e : Ev) : (nzS z ⟨q, p, []⟩ e).o.length ≤ 1 := by
  unfold nzS
  by_cases h : AcE q e <;> simp [h]
theorem ev_one (x : Ev) : (evC x).toList.all (·.oneCell') = true := rfl
theorem EvArg.none (w : World) : EvArg w (.slice none 0 0) [] := ⟨_, _, rfl, fun h => absurd h (by simp)⟩

theorem two_boxes (w : World) (z : Bool) (S : Array Value) : ∃ W b5 b6, W = (w.alloc (.cells #[.bool z] 59)).alloc (.cells S 39) ∧ b6 = w.heap.size + 1 ∧ b5 = w.heap.size ∧ (b5 < b6 ∧ b6 < W.heap.size ∧ w.heap.size ≤ b5) ∧ RowAt W b5 59 #[.bool z] ∧ RowAt W b6 39 S ∧ Below w.heap.size w W := by
  refine ⟨_, _, _, rfl, rfl, rfl, by simp only [World.size_alloc]; omega, (RowAt.new w _ _).alloc _, RowAt.at (by simp only [World.size_alloc]), by (repeat' (first | with_reducible exact Below.refl _ _ | with_reducible exact Nat.le_refl _ | with_reducible assumption | with_reducible refine below_drewN ?_ _ | with_reducible refine Below.drew ?_ | with_reducible refine Below.trans ?_ (Below.mono (by assumption) ?_) | with_reducible refine Below.alloc ?_ ?_ _ | with_reducible refine Below.setCell ?_ ?_ _ | with_reducible refine le_setCell ?_ _ _ | with_reducible refine le_alloc ?_ _ | with_reducible refine le_drewN ?_ _ | with_reducible refine le_drew ?_ | with_reducible refine Nat.le_trans ?_ (Below.size (by assumption)) | (simp only [World.size_alloc, World.size_setCell]; omega) | omega))⟩

theorem cell_held {w W W' : World} {b : Nat} {x : Value} (h : W.cell? ⟨b, 0, none⟩ = some x ∧ b < W.heap.size ∧ Below w.heap.size w W) (hb : Below W.heap.size W W') : W'.cell? ⟨b, 0, none⟩ = some x ∧ b < W'.heap.size ∧ Below w.heap.size w W' :=
  ⟨(hb.cell (p := ⟨b, 0, none⟩) h.2.1).trans h.1, Nat.lt_of_lt_of_le h.2.1 hb.size, h.2.2.trans (hb.mono h.2.2.size)⟩

set_option maxRecDepth 20000 in
set_option maxHeartbeats 8000000 in
theorem decodeG_any (z : Bool) (l : List Ev) (V : Value) (w : World) (hT : EvArg w V l) (hl : l.length ≤ 1099511627776) (hd : ∀ j (h : j < l.length), l[j].d.length ≤ 140737488351232) :
    Calls Try.prog 70 #[.agg #[.bool z], .agg (stP 0 1), V, .func (.func 36) #[] #[], .func (.func 39) #[] #[]] w fun e w' => ∃ v, e = .returned v ∧ EvRow w' w.heap.size v (nzR z l).o ∧ Below w.heap.size w w' := by
  have CS := Lib.hid (fun q p e W h => step_any z q p e W h)
  have CE := Lib.hid (fun q p W => end_any z q p W)
  have HD := Lib.hid hd
  obtain ⟨A, c, rfl, hA⟩ := hT
  have HA := Lib.hid hA
  have hl' : (l.length : Int) ≤ 1099511627776 := by omega
  obtain ⟨W, b5, b6, eW, e6, e5, ⟨l5, l6, l0⟩, r5, r6, B0⟩ := two_boxes w z (stP 0 1)
  have HB0 := Lib.hid B0; have H5 := Lib.hid r5; have H6 := Lib.hid r6
  have hL := nzR_len z l
  clear hA hd r5 r6 B0
  go_enter Try.func70, Try.ntmps70
  go_wp2
  rw [← eW, ← e6, ← e5]
  clear eW e6 e5
  go_loopw [18, 11] (fun i r wr => ∃ (j : Nat) (q p : Int) (o : List Ev), j ≤ l.length ∧ i = .int .i64 j ∧ Hid (nzR z (l.take j) = ⟨q, p, o⟩) ∧ Hid (EvRow wr W.heap.size r o) ∧ Hid (RowAt wr b5 59 #[.bool z]) ∧ Hid (RowAt wr b6 39 (stP q p)) ∧ Hid (Below w.heap.size w wr) ∧ W.heap.size ≤ wr.heap.size) (fun i _ _ => l.length - (intOf i).toNat)
  case atStart => exact ⟨0, 0, 1, [], Nat.zero_le _, rfl, Lib.hid rfl, Lib.hid (KRow.nil _ _), H5, H6, HB0, Nat.le_refl _⟩
  case round =>
    obtain ⟨j, q, p, o, hj, rfl, HQ, HR, HZ, HS, HB, hW⟩ := hrel
    have hb := HB.out
    have ho : o.length ≤ j := by have := nzR_len z (l.take j); rw [HQ.out, List.length_take] at this; simp only at this; omega
    obtain ⟨⟨g0, g1, g2, g3, g4, g5, g6, g7⟩, g8⟩ := row8 HS.out
    have z0 := HZ.out.get1
    have m5 : b5 < wr.heap.size := by omega
    have m6 : b6 < wr.heap.size := by omega
    clear g8
    by_cases hjl : j < l.length
    · obtain ⟨g, o', rfl, hg, hc⟩ := HA.out (by omega)
      obtain ⟨a0, a1, a2, a3, a4, a5, a6⟩ := arg_seven hc j hjl
      have f0 := (hb.cell (p := ⟨g, o' + j * 7, none⟩) hg).trans a0
      have f1 := (hb.cell (p := ⟨g, o' + j * 7 + 1, none⟩) hg).trans a1
      have f2 := (hb.cell (p := ⟨g, o' + j * 7 + 2, none⟩) hg).trans a2
      have f3 := (hb.cell (p := ⟨g, o' + j * 7 + 3, none⟩) hg).trans a3
      have f4 := (hb.cell (p := ⟨g, o' + j * 7 + 4, none⟩) hg).trans a4
      have f5 := (hb.cell (p := ⟨g, o' + j * 7 + 5, none⟩) hg).trans a5
      have f6 := (hb.cell (p := ⟨g, o' + j * 7 + 6, none⟩) hg).trans a6
      have HN : Hid (nzR z (l.take (j + 1)) = nzS z ⟨q, p, o⟩ l[j]) := Lib.hid (by rw [nzR_snoc z hjl, HQ.out])
      have HP := Lib.hid (HN.out.trans (nzS_parts z q p o l[j]))
      have CSj : Hid (∀ W, Calls Try.prog 36 #[.agg #[.bool z], .agg (stP q p), .agg (evA l[j].k l[j].f l[j].t l[j].v l[j].a ⟨l[j].d.toArray⟩ l[j].u)] W fun r w' => ∃ V, r = .returned (.tuple #[.agg (stP (nzS z ⟨q, p, []⟩ l[j]).q (nzS z ⟨q, p, []⟩ l[j]).p), V]) ∧ EvRow w' W.heap.size V (nzS z ⟨q, p, []⟩ l[j]).o ∧ Below W.heap.size W w') := Lib.hid fun W => CS.out q p l[j] W (HD.out j hjl)
      have hone := nzS_one z q p l[j]
      clear a0 a1 a2 a3 a4 a5 a6 hc HN HQ
      generalize (nzS z ⟨q, p, []⟩ l[j]).q = q' at *
      generalize (nzS z ⟨q, p, []⟩ l[j]).p = p' at *
      generalize (nzS z ⟨q, p, []⟩ l[j]).o = x' at *
      generalize (⟨l[j].d.toArray⟩ : ByteArray) = x5 at *
      generalize l[j].k = x0 at *
      generalize l[j].f = x1 at *
      generalize l[j].t = x2 at *
      generalize l[j].v = x3 at *
      generalize l[j].a = x4 at *
      generalize l[j].u = x6 at *
      obtain ⟨RA, RN, RC, rfl, hRN⟩ := HR.out.form
      clear hRN
      go_wp2_with (first
        | (go_at_call 36; go_must (refine (CSj.out _).mono ?_; rintro e1 w1 ⟨V1, rfl, v1, b1⟩; obtain ⟨VA, VN, VC, rfl, hVN⟩ := v1.form; clear hVN; have k1 := (ba wr _).trans (b1.mono (by rw [World.size_alloc]; omega)); have V1 := Lib.hid v1; have B1 := Lib.hid (hb.trans (k1.mono hb.size)); have R1 := Lib.hid (HR.out.keep k1); have Z1 := Lib.hid ((HZ.out.keep k1).alloc (.cells (stP q' p') 39)); have S1 := Lib.hid ((HS.out.keep k1).alloc (.cells (stP q' p') 39)); have s1 := k1.size))
        | (refine wpList_store_kp S1.out (stP q' p') (.tmp 6) (.tmp 30) 39 rfl rfl rfl rfl (by kernel_rfl) rfl rfl ?_; intro w3 r3 k3; have R3 := Lib.hid ((R1.out.alloc _).kp k3 (fun g hg hx => by have := R1.out.lt g hg; simp only [List.mem_singleton] at hx; omega)); have V3 := Lib.hid ((((V1.out.alloc _).kp k3 (fun g hg hx => by have := V1.out.lt g hg; rw [World.size_alloc] at this; simp only [List.mem_singleton] at hx; omega)).arg evC_size)); have Z3 := Lib.hid (k3.row Z1.out (by simp only [List.mem_singleton]; omega)); have S3 := Lib.hid r3; have B3 := Lib.hid ((B1.out.alloc B1.out.size _).trans (k3.below (by simp only [List.mem_singleton]; intro k hk; omega) (by rw [World.size_alloc]; exact Nat.le_trans B1.out.size (Nat.le_succ _)))); have s3 := k3.size; rw [World.size_alloc] at s3; clear r3 k3)
        | (at_builtin; go_must (refine wpList_append_arg Try.underlying36 ev_info rfl (by omega) evC_size ev_one rfl _ _ rfl rfl rfl R3.out V3.out (by omega) (by omega) (by omega) ?_; intro v4 w4 r4 b4; have R4 := Lib.hid r4; have B4 := Lib.hid b4; clear r4 b4)))
      go_roundw
      case rel => exact ⟨j + 1, q', p', o ++ x', by omega, val_int (by omega), HP, R4, Lib.hid (Z3.out.below B4.out (by omega)), Lib.hid (S3.out.below B4.out l6), Lib.hid (B3.out.trans (B4.out.mono HB0.out.size)), by have := B4.out.size; omega⟩
      case measure => simp [intOf]; omega
    · have he : l.take j = l := List.take_of_length_le (by omega)
      rw [he] at HQ
      have HO : Hid ((nzR z l).o = o) := Lib.hid (by rw [HQ.out])
      obtain ⟨RA, RN, RC, rfl, hRN⟩ := HR.out.form
      clear hRN he HQ
      go_wp2_with (first
        | (go_at_call 39; go_must (refine (CE.out _ _ _).mono ?_; rintro e1 w1 ⟨rfl, b1⟩; have R1 := Lib.hid (HR.out.keep b1); have B1 := Lib.hid (hb.trans (b1.mono hb.size)); have s1 := b1.size))
        | (at_builtin; go_must (refine wpList_append_arg Try.underlying36 ev_info rfl (by omega) evC_size ev_one rfl _ _ rfl rfl rfl R1.out (EvArg.none _) (by omega) (by simp only [List.length_nil]; omega) (by simp only [List.length_nil]; omega) ?_; intro v4 w4 r4 b4; rw [List.append_nil] at r4; have R4 := Lib.hid r4; have B4 := Lib.hid b4; clear r4 b4)))
      go_returns
      exact ⟨_, rfl, by rw [HO.out]; exact R4.out.mono HB0.out.size, B1.out.trans (B4.out.mono HB0.out.size)⟩

set_option maxRecDepth 20000 in
set_option maxHeartbeats 8000000 in
theorem decode_any (z : Bool) (l : List Ev) (V : Value) (w : World) (hT : EvArg w V l) (hl : l.length ≤ 1099511627776) (hd : ∀ j (h : j < l.length), l[j].d.length ≤ 140737488351232) :
    Calls Try.prog 41 #[.agg #[.bool z], V] w fun e w' => ∃ v, e = .returned v ∧ EvRow w' w.heap.size v (nzR z l).o ∧ Below w.heap.size w w' := by
  have CS := Lib.hid (fun W => start_any z W)
  have CD := Lib.hid (fun W (hb : Below w.heap.size w W) => decodeG_any z l V W (hT.keep hb) hl hd)
  obtain ⟨A, c, rfl, hA⟩ := hT
  have h1 := RowAt.new w 59 #[.bool z]
  have c0 := Lib.hid h1.get1
  have hb0 := Lib.hid (ba w (.cells #[.bool z] 59))
  have l0 := h1.lt
  clear hA h1
  obtain ⟨W, eW⟩ : ∃ W, W = w.alloc (.cells #[.bool z] 59) := ⟨_, rfl⟩
  obtain ⟨b, eb⟩ : ∃ b, b = w.heap.size := ⟨_, rfl⟩
  rw [← eW] at c0 hb0 l0
  rw [← eb] at c0 l0
  go_enter Try.func41, Try.ntmps41
  go_wp2
  rw [← eW, ← eb]
  clear eW eb
  have h0 : W.cell? ⟨b, 0, none⟩ = some (.bool z) := c0.out
  go_region_held3 (fun w' => w'.cell? ⟨b, 0, none⟩ = some (.bool z) ∧ b < w'.heap.size ∧ Below w.heap.size w w') (first | assumption | exact ⟨c0.out, l0, hb0.out⟩ | exact ⟨c0.out, l0, hb0.out.drew⟩ | fail)
    (first
      | (go_at_call 34; refine (CS.out _).mono ?_; rintro e5 w5 ⟨rfl, b5⟩; have h5 := cell_held (by assumption) b5)
      | (go_at_call 70; refine (CD.out _ (And.right (And.right (by assumption : _ ∧ b < _ ∧ Below w.heap.size w _)))).mono ?_; rintro e6 w6 ⟨v6, rfl, r6, b6⟩; have h6 := cell_held (by assumption) b6))
  have hr6 := Lib.hid (r6.mono h5.2.2.size)
  have hb6 := Lib.hid h6.2.2
  go_wp2
  go_returns
  exact ⟨_, rfl, hr6.out, hb6.out⟩

end Go.Proofs.Ytfbclbolkojjeaa
