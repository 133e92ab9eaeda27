/-
  The walk of each with the machine's step.
-/
import Derived.Test.YtmbeaagpjpphhaaZ20
namespace Go.Proofs.Ytmbeaagpjpphhaa
open Go Go.RowKit Go.Joins
set_option linter.unusedVariables false
set_option linter.unusedSimpArgs false

set_option maxRecDepth 20000 in
set_option maxHeartbeats 8000000 in
theorem each_any (b : Nat) (N D : Int) (l : List Ev) (V : Value) (w0 w : World) (h : Bt N D) (hT : EvArg w0 V l) (hb0 : Below w0.heap.size w0 w) (hlb : w0.heap.size ≤ b) (hm : MacAt w b N D 0 0 0 0) (hl : l.length ≤ 1099511627776) (hd : ∀ j (h : j < l.length), l[j].d.length ≤ 140737488351232) :
    Calls Try.prog 67 #[V, .func (.func 62) #[.pointer (some ⟨b, 0, none⟩)] #[]] w fun e w' => ∃ v, e = .returned v ∧ EvRow w' w.heap.size v (smR N D l).o ∧ MacAt w' b N D (smR N D l).ph (smR N D l).e (smR N D l).fr (smR N D l).pv ∧ Kp [b] w w' := by
  have CS := Lib.hid (fun m e W h1 h2 h3 => mstep_any b N D m e W h h1 h2 h3)
  have HRc := Lib.hid (fun l => rcM_all h l)
  have HD := Lib.hid hd
  obtain ⟨A, c, rfl, hA⟩ := hT
  have HA := Lib.hid hA
  have hl' : (l.length : Int) ≤ 1099511627776 := by omega
  have HM := Lib.hid hm
  have HW0 := Lib.hid hb0
  have lb := RowAt.lt hm
  have sz0 := hb0.size
  clear hA hd hm hb0
  go_enter Try.func67, Try.ntmps67
  go_wp2
  go_loopw [10, 5] (fun i r wr => ∃ (j : Nat) (m : MS), j ≤ l.length ∧ i = .int .i64 j ∧ Hid (smR N D (l.take j) = m) ∧ Hid (EvRow wr w.heap.size r m.o) ∧ Hid (MacAt wr b N D m.ph m.e m.fr m.pv) ∧ Hid (Kp [b] w wr) ∧ w.heap.size ≤ wr.heap.size) (fun i _ _ => l.length - (intOf i).toNat)
  case atStart => exact ⟨0, _, Nat.zero_le _, rfl, Lib.hid rfl, Lib.hid (KRow.nil _ _), HM, Lib.hid (Kp.refl _ _), Nat.le_refl _⟩
  case round =>
    obtain ⟨j, m, hj, rfl, HQ, HR, HMr, HK, hW⟩ := hrel
    have hk := HK.out
    have hrc : Hid (RcM m) := Lib.hid (by rw [← HQ.out]; exact HRc.out _)
    have ho : (m.o.length : Int) ≤ 1099511627776 := by
      rcases hrc.out with ⟨_, h2, _⟩ | ⟨_, _, _, h4, h5, _⟩
      · rw [h2]; simp
      · omega
    have lb' : b < wr.heap.size := by omega
    by_cases hjl : j < l.length
    · obtain ⟨g, o', rfl, hg, hc⟩ := HA.out (by omega)
      obtain ⟨a0, a1, a2, a3, a4, a5, a6⟩ := arg_seven hc j hjl
      have hcell : ∀ i, wr.cell? ⟨g, i, none⟩ = w0.cell? ⟨g, i, none⟩ := fun i => (hk.cell (p := ⟨g, i, none⟩) (Nat.lt_of_lt_of_le hg sz0) (by simp only [List.mem_singleton]; omega)).trans (HW0.out.cell (p := ⟨g, i, none⟩) hg)
      have f0 := (hcell (o' + j * 7)).trans a0
      have f1 := (hcell (o' + j * 7 + 1)).trans a1
      have f2 := (hcell (o' + j * 7 + 2)).trans a2
      have f3 := (hcell (o' + j * 7 + 3)).trans a3
      have f4 := (hcell (o' + j * 7 + 4)).trans a4
      have f5 := (hcell (o' + j * 7 + 5)).trans a5
      have f6 := (hcell (o' + j * 7 + 6)).trans a6
      have HP : Hid (smR N D (l.take (j + 1)) = ⟨(smS N D ⟨m.ph, m.e, m.fr, m.pv, []⟩ l[j]).ph, (smS N D ⟨m.ph, m.e, m.fr, m.pv, []⟩ l[j]).e, (smS N D ⟨m.ph, m.e, m.fr, m.pv, []⟩ l[j]).fr, (smS N D ⟨m.ph, m.e, m.fr, m.pv, []⟩ l[j]).pv, m.o ++ (smS N D ⟨m.ph, m.e, m.fr, m.pv, []⟩ l[j]).o⟩) := Lib.hid (by rw [smR_snoc N D hjl, HQ.out]; exact smS_parts N D m l[j])
      have CSj : Hid (∀ W, MacAt W b N D m.ph m.e m.fr m.pv → Calls Try.prog 62 #[.pointer (some ⟨b, 0, none⟩), .agg (evA l[j].k l[j].f l[j].t l[j].v l[j].a ⟨l[j].d.toArray⟩ l[j].u)] W fun r w' => ∃ V, r = .returned V ∧ EvRow w' W.heap.size V (smS N D ⟨m.ph, m.e, m.fr, m.pv, []⟩ l[j]).o ∧ MacAt w' b N D (smS N D ⟨m.ph, m.e, m.fr, m.pv, []⟩ l[j]).ph (smS N D ⟨m.ph, m.e, m.fr, m.pv, []⟩ l[j]).e (smS N D ⟨m.ph, m.e, m.fr, m.pv, []⟩ l[j]).fr (smS N D ⟨m.ph, m.e, m.fr, m.pv, []⟩ l[j]).pv ∧ Kp [b] W w') := Lib.hid fun W hW => CS.out m l[j] W hrc.out hW (HD.out j hjl)
      have hnx : (((smS N D ⟨m.ph, m.e, m.fr, m.pv, []⟩ l[j]).o.length : Nat) : Int) + m.o.length ≤ 1099511627776 := by
        have := HRc.out (l.take (j + 1))
        rw [HP.out] at this
        rcases this with ⟨_, h2, _⟩ | ⟨_, _, _, h4, h5, _⟩
        · simp only at h2; have h3 := congrArg List.length h2; rw [List.length_append, List.length_nil] at h3; omega
        · simp only [List.length_append] at h4 h5; omega
      clear a0 a1 a2 a3 a4 a5 a6 hc HQ hcell
      generalize (smS N D ⟨m.ph, m.e, m.fr, m.pv, []⟩ l[j]).ph = y1 at *
      generalize (smS N D ⟨m.ph, m.e, m.fr, m.pv, []⟩ l[j]).e = y2 at *
      generalize (smS N D ⟨m.ph, m.e, m.fr, m.pv, []⟩ l[j]).fr = y3 at *
      generalize (smS N D ⟨m.ph, m.e, m.fr, m.pv, []⟩ l[j]).pv = y4 at *
      generalize (smS N D ⟨m.ph, m.e, m.fr, m.pv, []⟩ l[j]).o = x' at *
      generalize (⟨l[j].d.toArray⟩ : ByteArray) = x5 at *
      generalize l[j].k = x0 at *
      generalize l[j].f = x1 at *
      generalize l[j].t = x2 at *
      generalize l[j].v = x3 at *
      generalize l[j].a = x4 at *
      generalize l[j].u = x6 at *
      obtain ⟨RA, RN, RC, rfl, hRN⟩ := HR.out.form
      clear hRN
      go_wp2_with (first
        | (go_at_call 62; go_must (refine (CSj.out _ (RowAt.alloc HMr.out _)).mono ?_; rintro e1 w1 ⟨V1, rfl, v1, m1, k1⟩; obtain ⟨VA, VN, VC, rfl, hVN⟩ := v1.form; clear hVN; have V1 := Lib.hid (v1.arg evC_size); have M1 := Lib.hid m1; have hk1 := ((Kp.of_below (X := [b]) (ba wr _)).trans k1); have K1 := Lib.hid (hk.trans hk1); have R1 := Lib.hid (HR.out.kp hk1 (fun g hg hx => by have := HR.out.lt g hg; simp only [List.mem_singleton] at hx; omega)); have s1 := hk1.size; clear v1 m1 k1 hk1))
        | (at_builtin; go_must (refine wpList_append_arg Try.underlying36 ev_info rfl (by omega) evC_size ev_one rfl _ _ rfl rfl rfl R1.out V1.out (by omega) (by omega) (by omega) ?_; intro v4 w4 r4 b4; have R4 := Lib.hid r4; have B4 := Lib.hid b4; clear r4 b4)))
      go_roundw
      case rel => exact ⟨j + 1, ⟨y1, y2, y3, y4, m.o ++ x'⟩, by omega, val_int (by omega), HP, R4, Lib.hid (RowAt.below M1.out B4.out lb), Lib.hid (K1.out.then_old B4.out), by have := B4.out.size; omega⟩
      case measure => simp [intOf]; omega
    · have he : l.take j = l := List.take_of_length_le (by omega)
      rw [he] at HQ
      obtain ⟨RA, RN, RC, rfl, hRN⟩ := HR.out.form
      clear hRN he
      go_wp2
      go_returns
      rw [HQ.out]
      exact ⟨_, rfl, HR.out, HMr.out, hk⟩

end Go.Proofs.Ytmbeaagpjpphhaa
