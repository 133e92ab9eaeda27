/-
  The walk of the machine's bit.
  The walk of the machine's change and bits.
  The walk of the machine's accepts.
-/
import Derived.Test.YtmbeaagpjpphhaaZ18
import Derived.Deep.Cut
import Derived.Deep.RegionHeld3
import Derived.Test.YtmbeaagpjpphhaaZ17
namespace Go.Proofs.Ytmbeaagpjpphhaa
open Go Go.RowKit Go.Joins
set_option linter.unusedVariables false
set_option linter.unusedSimpArgs false

set_option maxRecDepth 20000 in
set_option maxHeartbeats 20000000 in
theorem bit_any (b : Nat) (N D ph at' fr pv k : Int) (w : World) (h : Bt N D) (hm : MacAt w b N D ph at' fr pv) (hf0 : 0 ≤ fr) (hf1 : fr ≤ 1099511627776) (h0 : 0 ≤ k) (h1 : k ≤ 549755813888) :
    Calls Try.prog 115 #[.pointer (some ⟨b, 0, none⟩), .int .i64 k] w fun e w' => e = .returned (evV (bitE N D fr pv k (decide (ph = 2)))) ∧ Below w.heap.size w w' := by
  have HS : Hid (∀ q W, 0 ≤ q → q ≤ 1099511627776 → Calls Try.prog 58 #[rat N D, .int .i64 q] W fun e w' => e = .returned (.int .i64 (bdI N D q)) ∧ Below W.heap.size W w') := Lib.hid fun q W q0 q1 => boundary_any N D q W h q0 q1
  have z1 := (scale_ok h h0 (by omega)).1
  have z2 := (bd_next h k)
  have z3 : 0 ≤ bdI N D k := sc_nn h.d1 h0 (by have := h.d1; have := h.n1; omega)
  obtain ⟨z4, z5⟩ := z2
  have q1 : IntKind.i64.wrap (k + 1) = k + 1 := IntWalk.i64_in _ (by omega)
  have q2 : IntKind.i64.wrap (fr + bdI N D k) = fr + bdI N D k := IntWalk.i64_in _ (by omega)
  have q3 : IntKind.i64.wrap (fr + bdI N D (k + 1)) = fr + bdI N D (k + 1) := IntWalk.i64_in _ (by omega)
  obtain ⟨a0, a1, a2, a3, a4, a8, al⟩ := hm.cells
  have hr0 := RowAt.new w 44 #[.int .i64 0, .int .i64 0, .int .i64 0, .int .i64 0, .int .i64 0, .string ⟨#[]⟩, .int .i64 0]
  have hb0 := ba w (.cells #[.int .i64 0, .int .i64 0, .int .i64 0, .int .i64 0, .int .i64 0, .string ⟨#[]⟩, .int .i64 0] 44)
  obtain ⟨W, eW⟩ : ∃ W, W = w.alloc (.cells #[.int .i64 0, .int .i64 0, .int .i64 0, .int .i64 0, .int .i64 0, .string ⟨#[]⟩, .int .i64 0] 44) := ⟨_, rfl⟩
  obtain ⟨b4, eb⟩ : ∃ b4, b4 = w.heap.size := ⟨_, rfl⟩
  rw [← eW] at hr0 hb0
  rw [← eb] at hr0
  obtain ⟨c0, c1, c2, c4, c8, cl, _⟩ := held_mac (And.intro a0 (And.intro a1 (And.intro a2 (And.intro a4 (And.intro a8 (And.intro al (Below.refl w.heap.size w))))))) hb0
  have hs := Lib.hid (And.intro c0 (And.intro c1 (And.intro c2 (And.intro c4 (And.intro c8 (And.intro cl (Below.refl W.heap.size W)))))))
  clear c0 c1 c2 c4 c8 cl
  have HR0 := Lib.hid hr0
  have hb4 : b ≠ b4 := by omega
  have hlt4 := hr0.lt
  clear a0 a1 a2 a3 a4 a8 hr0 hm
  go_enter Try.func115, Try.ntmps115
  go_upto_region 1 with (fail)
  rw [← eW, ← eb]
  have sz0 := hb0.size
  have sz4 : w.heap.size ≤ b4 := Nat.le_of_eq eb.symm
  clear eW eb
  have u1 : b < W.heap.size := by omega
  have v1 : W.heap.size ≤ W.heap.size := Nat.le_refl _
  have u0 : b < W.drew.heap.size := u1
  have v0 : W.heap.size ≤ W.drew.heap.size := Nat.le_refl _
  go_cut [5] from 6 (fun p wc => ∃ q, p = .pointer (some ⟨q, 0, none⟩) ∧ q ≠ b4 ∧ w.heap.size ≤ q ∧ Hid (RowAt wc q 44 #[.int .i64 2, .int .i64 (fr + bdI N D k), .int .i64 (min (fr + bdI N D (k + 1)) 1099511627776), .int .i64 pv, .int .i64 0, .string ⟨#[]⟩, .int .i64 0]) ∧ Hid (RowAt wc b4 44 #[.int .i64 0, .int .i64 0, .int .i64 0, .int .i64 0, .int .i64 0, .string ⟨#[]⟩, .int .i64 0]) ∧ Hid (wc.cell? ⟨b, 2, none⟩ = some (.int .i64 ph)) ∧ Hid (Below w.heap.size w wc) ∧ b < wc.heap.size)
  case first =>
    go_region_held3 (fun w' => w'.cell? ⟨b, 0, none⟩ = some (.int .i64 N) ∧ w'.cell? ⟨b, 1, none⟩ = some (.int .i64 D) ∧ w'.cell? ⟨b, 2, none⟩ = some (.int .i64 ph) ∧ w'.cell? ⟨b, 4, none⟩ = some (.int .i64 fr) ∧ w'.cell? ⟨b, 8, none⟩ = some (.int .i64 pv) ∧ b < w'.heap.size ∧ Below W.heap.size W w') (first | with_reducible assumption | (refine heldMset ?_ (by with_reducible assumption) (by with_reducible assumption); refine heldMset ?_ (by with_reducible assumption) (by with_reducible assumption); refine heldMset ?_ (by with_reducible assumption) (by with_reducible assumption); refine heldMset ?_ (by with_reducible assumption) (by with_reducible assumption); refine heldMset ?_ (by with_reducible assumption) (by with_reducible assumption); refine heldMset ?_ (by with_reducible assumption) (by with_reducible assumption); refine heldMset ?_ (by with_reducible assumption) (by with_reducible assumption); with_reducible assumption) | with_reducible exact held_mac hs.out (Below.refl _ _).drew | with_reducible exact held_mac (by with_reducible assumption) (ba _ _) | fail)
      (first
        | (go_at_call 58; refine (HS.out _ _ (by omega) (by omega)).mono ?_; rintro e5 w5 ⟨rfl, b5⟩; have h5 := held_mac (by with_reducible assumption) b5; have u5 := h5.2.2.2.2.2.1; have v5 := h5.2.2.2.2.2.2.size; (try (have r5 := (show RowAt _ _ 44 #[.int .i64 0, .int .i64 0, .int .i64 0, .int .i64 0, .int .i64 0, .string ⟨#[]⟩, .int .i64 0] from RowAt.keep (by first | with_reducible exact RowAt.new _ _ _ | with_reducible exact RowAt.drew1 (RowAt.new _ _ _) | with_reducible assumption) b5); (try simp only [show W.drew.heap = W.heap from rfl] at r5); obtain ⟨⟨g0, g1, g2, g3, g4, g5, g6⟩, g7⟩ := row_seven' r5))))

    all_goals
      rename_i hS9
      have hX := hS9.2.2.2.2.2.2
      have hp9 := hS9.2.2.1
      have hbz := hS9.2.2.2.2.2.1
      first
      | have R9 := set7 (x0 := .int .i64 2) (x1 := .int .i64 (fr + bdI N D k)) (x2 := .int .i64 (min (fr + bdI N D (k + 1)) 1099511627776)) (x3 := .int .i64 pv) (x4 := .int .i64 0) (x5 := .string ⟨#[]⟩) (x6 := .int .i64 0) (by with_reducible assumption)
      | have R9 := new_of hX
      have R8 := Lib.hid (HR0.out.below hX hlt4)
      have hw9 := Lib.hid (hb0.trans (hX.mono hb0.size))
      have hq4 := ne_of_row R9 hlt4 (by with_reducible assumption)
      have R9' := Lib.hid R9
      have hp9' := Lib.hid hp9
      have hq5 := Nat.le_of_lt (Nat.lt_of_le_of_ne (Nat.le_of_lt_succ (by have := R9.lt; omega)) hq4.symm)
      clear hX hS9 R9 hp9
      go_wp2
      go_meet
      case rel => exact ⟨_, rfl, hq4, by omega, R9', R8, hp9', hw9, hbz⟩
  case rest =>
    obtain ⟨w0, hw0⟩ : ∃ x, x = wc := ⟨_, rfl⟩
    subst hw0
    obtain ⟨q, rfl, hq4, hq5, HQ, HR, HP, HB, hbs⟩ := hcut
    have hp0 := HP.out
    have lq := HQ.out.lt
    have lr := HR.out.lt
    obtain ⟨⟨j0, j1, j2, j3, j4, j5, j6⟩, j7⟩ := row_seven' HQ.out
    by_cases hp : ph = 2
    · subst hp
      have hq6 := HQ.out.set 6 (.int .i64 6)
      have hr6 := Lib.hid (RowAt.other HR.out ⟨q, 6, none⟩ (.int .i64 6) hq4)
      obtain ⟨⟨i0, i1, i2, i3, i4, i5, i6⟩, i7⟩ := row_seven' hq6
      go_wp2_with (first | (refine wpList_store_at hr6.out (Nat.le_refl _) #[.int .i64 2, .int .i64 (fr + bdI N D k), .int .i64 (min (fr + bdI N D (k + 1)) 1099511627776), .int .i64 pv, .int .i64 0, .string ⟨#[]⟩, .int .i64 6] (.tmp 4) (.tmp 45) 44 rfl rfl rfl rfl (by kernel_rfl) rfl rfl ?_; intro w9 r9 b9; obtain ⟨⟨p0, p1, p2, p3, p4, p5, p6⟩, p7⟩ := row_seven' r9))
      (try simp only [Exit.inBlock, Exit.then]); refine bodyPost_ret (by simp [results, Try.results115, go_sem, p0, p1, p2, p3, p4, p5, p6]; try rfl) rfl ?_
      exact ⟨by first | rfl | (unfold evV evC bitE; simp), ((HB.out).setCell hq5 _).trans (b9.mono sz4)⟩
    · go_wp2_with (first | (refine wpList_store_at HR.out (Nat.le_refl _) #[.int .i64 2, .int .i64 (fr + bdI N D k), .int .i64 (min (fr + bdI N D (k + 1)) 1099511627776), .int .i64 pv, .int .i64 0, .string ⟨#[]⟩, .int .i64 0] (.tmp 4) (.tmp 45) 44 rfl rfl rfl rfl (by kernel_rfl) rfl rfl ?_; intro w9 r9 b9; obtain ⟨⟨p0, p1, p2, p3, p4, p5, p6⟩, p7⟩ := row_seven' r9))
      (try simp only [Exit.inBlock, Exit.then]); refine bodyPost_ret (by simp [results, Try.results115, go_sem, p0, p1, p2, p3, p4, p5, p6]; try rfl) rfl ?_
      exact ⟨by first | rfl | (unfold evV evC bitE; simp [hp]), (HB.out).trans (b9.mono sz4)⟩

end Go.Proofs.Ytmbeaagpjpphhaa

namespace Go.Proofs.Ytmbeaagpjpphhaa
open Go Go.RowKit Go.Joins
set_option linter.unusedVariables false
set_option linter.unusedSimpArgs false

theorem MacAt.six {w : World} {b : Nat} {N D ph at' fr pv : Int} (h : MacAt w b N D ph at' fr pv) : (w.cell? ⟨b, 0, none⟩ = some (.int .i64 N) ∧ w.cell? ⟨b, 1, none⟩ = some (.int .i64 D) ∧ w.cell? ⟨b, 2, none⟩ = some (.int .i64 ph) ∧ w.cell? ⟨b, 3, none⟩ = some (.int .i64 at') ∧ w.cell? ⟨b, 4, none⟩ = some (.int .i64 fr) ∧ w.cell? ⟨b, 8, none⟩ = some (.int .i64 pv)) ∧ (∀ j, w.frozen? ⟨b, j, none⟩ = false) ∧ b < w.heap.size := ⟨⟨h.cell 0, h.cell 1, h.cell 2, h.cell 3, h.cell 4, h.cell 8⟩, fun j => h.frozen j, h.lt⟩
theorem Kp.set1 {b : Nat} {w w' : World} (h : Kp [b] w w') (j : Nat) (v : Value) : Kp [b] w (w'.setCell ⟨b, j, none⟩ v) := h.setCell (p := ⟨b, j, none⟩) (.inl (List.mem_singleton.2 rfl)) v
theorem held_six {w0 w w' : World} {b : Nat} {N D ph at' fr pv : Int} (h : w.cell? ⟨b, 0, none⟩ = some (.int .i64 N) ∧ w.cell? ⟨b, 1, none⟩ = some (.int .i64 D) ∧ w.cell? ⟨b, 2, none⟩ = some (.int .i64 ph) ∧ w.cell? ⟨b, 3, none⟩ = some (.int .i64 at') ∧ w.cell? ⟨b, 4, none⟩ = some (.int .i64 fr) ∧ w.cell? ⟨b, 8, none⟩ = some (.int .i64 pv) ∧ b < w.heap.size ∧ Below w0.heap.size w0 w) (hb : Below w.heap.size w w') : w'.cell? ⟨b, 0, none⟩ = some (.int .i64 N) ∧ w'.cell? ⟨b, 1, none⟩ = some (.int .i64 D) ∧ w'.cell? ⟨b, 2, none⟩ = some (.int .i64 ph) ∧ w'.cell? ⟨b, 3, none⟩ = some (.int .i64 at') ∧ w'.cell? ⟨b, 4, none⟩ = some (.int .i64 fr) ∧ w'.cell? ⟨b, 8, none⟩ = some (.int .i64 pv) ∧ b < w'.heap.size ∧ Below w0.heap.size w0 w' := by
  obtain ⟨a0, a1, a2, a3, a4, a8, l, B⟩ := h
  have hs := hb.size
  exact ⟨(hb.cell l).trans a0, (hb.cell l).trans a1, (hb.cell l).trans a2, (hb.cell l).trans a3, (hb.cell l).trans a4, (hb.cell l).trans a8, by omega, B.trans (hb.mono B.size)⟩

set_option maxRecDepth 20000 in
set_option maxHeartbeats 4000000 in
theorem change_any (b : Nat) (N D ph at' fr pv at2 : Int) (w : World) (h : Bt N D) (hm : MacAt w b N D ph at' fr pv) (h0 : 0 ≤ at2 - fr) (h1 : at2 - fr ≤ 1099511627776) (hf0 : 0 ≤ fr) :
    Calls Try.prog 99 #[.pointer (some ⟨b, 0, none⟩), .int .i64 at2] w fun e w' => e = .returned (.tuple #[]) ∧ MacAt w' b N D (if irrB N D (at2 - fr) then 2 else ph) at' at2 pv ∧ Kp [b] w w' := by
  have HI : Hid (∀ W, Calls Try.prog 113 #[rat N D, .int .i64 (at2 - fr)] W fun e w' => e = .returned (.bool (irrB N D (at2 - fr))) ∧ Below W.heap.size W w') := Lib.hid fun W => irr_any N D _ W h h0 h1
  have HM := Lib.hid hm
  have q1 : IntKind.i64.wrap (at2 - fr) = at2 - fr := IntWalk.i64_in _ (by omega)
  obtain ⟨⟨a0, a1, a2, a3, a4, a8⟩, hz, al⟩ := hm.six
  have hs := Lib.hid (And.intro a0 (And.intro a1 (And.intro a2 (And.intro a3 (And.intro a4 (And.intro a8 (And.intro al (Below.refl w.heap.size w))))))))
  have u0 : b < w.drew.heap.size := al
  clear hm hz
  generalize irrB N D (at2 - fr) = I at *
  cases I
  · go_enter Try.func99, Try.ntmps99
    go_wp2
    go_region_held3 (fun w' => w'.cell? ⟨b, 0, none⟩ = some (.int .i64 N) ∧ w'.cell? ⟨b, 1, none⟩ = some (.int .i64 D) ∧ w'.cell? ⟨b, 2, none⟩ = some (.int .i64 ph) ∧ w'.cell? ⟨b, 3, none⟩ = some (.int .i64 at') ∧ w'.cell? ⟨b, 4, none⟩ = some (.int .i64 fr) ∧ w'.cell? ⟨b, 8, none⟩ = some (.int .i64 pv) ∧ b < w'.heap.size ∧ Below w.heap.size w w') (first | with_reducible assumption | with_reducible exact hs.out | with_reducible exact held_six hs.out (Below.refl _ _).drew | fail)
      (first
        | (go_at_call 113; refine (HI.out _).mono ?_; rintro e5 w5 ⟨rfl, b5⟩; have h5 := held_six (by with_reducible assumption) b5))
    have HK := Lib.hid h5.2.2.2.2.2.2.2
    have hm5 : MacAt w5 b N D ph at' fr pv := HM.out.keep HK.out
    have H5 := Lib.hid hm5
    obtain ⟨⟨c0, c1, c2, c3, c4, c8⟩, cz, cl⟩ := hm5.six
    clear hm5 h5 b5
    go_wp2
    go_returns
    exact ⟨rfl, by simpa using H5.out.set 4 (.int .i64 at2), (Kp.of_below HK.out).set1 4 _⟩
  · go_enter Try.func99, Try.ntmps99
    go_wp2
    go_region_held3 (fun w' => w'.cell? ⟨b, 0, none⟩ = some (.int .i64 N) ∧ w'.cell? ⟨b, 1, none⟩ = some (.int .i64 D) ∧ w'.cell? ⟨b, 2, none⟩ = some (.int .i64 ph) ∧ w'.cell? ⟨b, 3, none⟩ = some (.int .i64 at') ∧ w'.cell? ⟨b, 4, none⟩ = some (.int .i64 fr) ∧ w'.cell? ⟨b, 8, none⟩ = some (.int .i64 pv) ∧ b < w'.heap.size ∧ Below w.heap.size w w') (first | with_reducible assumption | with_reducible exact hs.out | with_reducible exact held_six hs.out (Below.refl _ _).drew | fail)
      (first
        | (go_at_call 113; refine (HI.out _).mono ?_; rintro e5 w5 ⟨rfl, b5⟩; have h5 := held_six (by with_reducible assumption) b5))
    have HK := Lib.hid h5.2.2.2.2.2.2.2
    have hm5 : MacAt w5 b N D ph at' fr pv := HM.out.keep HK.out
    have H5 := Lib.hid hm5
    obtain ⟨⟨c0, c1, c2, c3, c4, c8⟩, cz, cl⟩ := hm5.six
    clear hm5 h5 b5
    go_wp2
    go_returns
    exact ⟨rfl, by simpa using (H5.out.set 2 (.int .i64 2)).set 4 (.int .i64 at2), ((Kp.of_below HK.out).set1 2 _).set1 4 _⟩

theorem bits_num {N D : Int} (h : Bt N D) {d k : Int} (h0 : 0 ≤ k) (hk : k < cnt N D d) (hd : d ≤ 1099511627776) : smI N D k < d ∧ k ≤ 274877906944 := by
  have a := (cnt_iff h d k).2 hk
  have b := sm_mono h h0
  have c := sm_zero h
  omega

set_option maxRecDepth 20000 in
set_option maxHeartbeats 8000000 in
theorem bits_any (b : Nat) (N D ph at' fr pv f : Int) (w : World) (h : Bt N D) (hm : MacAt w b N D ph at' fr pv) (hf0 : 0 ≤ fr) (hf1 : fr ≤ f) (hf2 : f ≤ at') (hf3 : at' ≤ 1099511627776) :
    Calls Try.prog 100 #[.pointer (some ⟨b, 0, none⟩), .int .i64 f] w fun e w' => ∃ v, e = .returned v ∧ EvRow w' w.heap.size v (bitsE N D fr pv (decide (ph = 2)) (cnt N D (f - fr)) (cnt N D (at' - fr) - cnt N D (f - fr)).toNat) ∧ MacAt w' b N D (if cnt N D (f - fr) < cnt N D (at' - fr) then 1 else ph) at' fr pv ∧ Kp [b] w w' := by
  have HC : Hid (∀ W, Calls Try.prog 114 #[rat N D, .int .i64 (f - fr)] W fun e w' => e = .returned (.int .i64 (cnt N D (f - fr))) ∧ Below W.heap.size W w') := Lib.hid fun W => samples_any N D _ W h (by omega) (by omega)
  have HS : Hid (∀ q W, 0 ≤ q → q ≤ 1099511627776 → Calls Try.prog 106 #[rat N D, .int .i64 q] W fun e w' => e = .returned (.int .i64 (smI N D q)) ∧ Below W.heap.size W w') := Lib.hid fun q W q0 q1 => sample_any N D q W h q0 q1
  have HBt := Lib.hid h
  have c0 := cnt_nn h (show (0 : Int) ≤ f - fr by omega)
  have c1 := cnt_grow h (show f - fr ≤ at' - fr by omega)
  have c2 := cnt_le h (show (0 : Int) ≤ at' - fr by omega)
  have HN : Hid (∀ k : Int, 0 ≤ k → k < cnt N D (at' - fr) → smI N D k < at' - fr ∧ k ≤ 274877906944) := Lib.hid fun k h0 hk => bits_num h h0 hk (by omega)
  have HQ : Hid (∀ k : Int, 0 ≤ k → ¬ k < cnt N D (at' - fr) → ¬ smI N D k < at' - fr) := Lib.hid fun k h0 hk hh => hk ((cnt_iff h _ k).1 hh)
  generalize cnt N D (at' - fr) = K1 at *
  generalize cnt N D (f - fr) = K0 at *
  obtain ⟨n, hn⟩ : ∃ n : Nat, K1 = K0 + n := ⟨(K1 - K0).toNat, by omega⟩
  subst hn
  rw [show (K0 + (n : Int) - K0).toNat = n by omega]
  have hn' : (n : Int) ≤ 1099511627776 := by omega
  have HM := Lib.hid hm
  have q1 : IntKind.i64.wrap (f - fr) = f - fr := IntWalk.i64_in _ (by omega)
  obtain ⟨⟨a0, a1, a2, a3, a4, a8⟩, hz, al⟩ := hm.six
  have hs := Lib.hid (And.intro a0 (And.intro a1 (And.intro a2 (And.intro a3 (And.intro a4 (And.intro a8 (And.intro al (Below.refl w.heap.size w))))))))
  have u0 : b < w.drew.heap.size := al
  clear hm hz h
  go_enter Try.func100, Try.ntmps100
  go_wp2
  go_region_held3 (fun w' => w'.cell? ⟨b, 0, none⟩ = some (.int .i64 N) ∧ w'.cell? ⟨b, 1, none⟩ = some (.int .i64 D) ∧ w'.cell? ⟨b, 2, none⟩ = some (.int .i64 ph) ∧ w'.cell? ⟨b, 3, none⟩ = some (.int .i64 at') ∧ w'.cell? ⟨b, 4, none⟩ = some (.int .i64 fr) ∧ w'.cell? ⟨b, 8, none⟩ = some (.int .i64 pv) ∧ b < w'.heap.size ∧ Below w.heap.size w w') (first | with_reducible assumption | with_reducible exact hs.out | with_reducible exact held_six hs.out (Below.refl _ _).drew | fail)
    (first
      | (go_at_call 114; refine (HC.out _).mono ?_; rintro e5 w5 ⟨rfl, b5⟩; have h5 := held_six (by with_reducible assumption) b5))
  have HK := Lib.hid h5.2.2.2.2.2.2.2
  have hm5 : MacAt w5 b N D ph at' fr pv := HM.out.keep HK.out
  have H5 := Lib.hid hm5
  have sz5 := HK.out.size
  clear hm5 h5 b5 a0 a1 a2 a3 a4 a8 hs
  go_wp2
  go_loopw [6, 5] (fun i r wr => ∃ (j : Nat) (PH : Int), j ≤ n ∧ i = .int .i64 (K0 + j) ∧ Hid (PH = if 0 < j then 1 else ph) ∧ Hid (EvRow wr w.heap.size r (bitsE N D fr pv (decide (ph = 2)) K0 j)) ∧ Hid (MacAt wr b N D PH at' fr pv) ∧ Hid (Kp [b] w wr) ∧ w.heap.size ≤ wr.heap.size) (fun i _ _ => n - (intOf i - K0).toNat)
  case atStart => exact ⟨0, ph, Nat.zero_le _, by simp, Lib.hid rfl, Lib.hid (KRow.nil _ _), H5, Lib.hid (Kp.of_below HK.out), sz5⟩
  case round =>
    obtain ⟨j, PH, hj, rfl, HP, HR, HMr, HKr, hsz⟩ := hrel
    clear HK H5
    obtain ⟨⟨a0, a1, a2, a3, a4, a8⟩, hz, al'⟩ := MacAt.six HMr.out
    have hs := Lib.hid (And.intro a0 (And.intro a1 (And.intro a2 (And.intro a3 (And.intro a4 (And.intro a8 (And.intro al' (Below.refl wr.heap.size wr))))))))
    have u1 : b < wr.drew.heap.size := al'
    have k0 : 0 ≤ K0 + (j : Int) := by omega
    have HSj : Hid (∀ W, Calls Try.prog 106 #[rat N D, .int .i64 (K0 + j)] W fun e w' => e = .returned (.int .i64 (smI N D (K0 + j))) ∧ Below W.heap.size W w') := Lib.hid fun W => HS.out _ W k0 (by omega)
    have t0 := (scale_ok HBt.out k0 (by omega)).2
    have t1 : 0 ≤ smI N D (K0 + j) := by have := sm_mono HBt.out k0; have := sm_zero HBt.out; omega
    obtain ⟨RA, RN, RC, rfl, hRN⟩ := HR.out.form
    clear hRN hz
    by_cases hjn : j < n
    · obtain ⟨t2, t3⟩ := HN.out (K0 + j) k0 (by omega)
      have HBc : Hid (∀ W, MacAt W b N D PH at' fr pv → Calls Try.prog 115 #[.pointer (some ⟨b, 0, none⟩), .int .i64 (K0 + j)] W fun e w' => e = .returned (evV (bitE N D fr pv (K0 + j) (decide (PH = 2)))) ∧ Below W.heap.size W w') := Lib.hid fun W hW => bit_any b N D PH at' fr pv (K0 + j) W HBt.out hW hf0 (by omega) k0 (by omega)
      have HX : Hid (bitsE N D fr pv (decide (ph = 2)) K0 (j + 1) = bitsE N D fr pv (decide (ph = 2)) K0 j ++ [bitE N D fr pv (K0 + j) (decide (PH = 2))]) := Lib.hid (by
        rw [bitsE_snoc, HP.out]
        rcases Nat.eq_zero_or_pos j with rfl | hj0
        · simp
        · simp [hj0, Nat.ne_of_gt hj0])
      have hlen := bitsE_len N D fr pv (decide (ph = 2)) K0 j
      generalize smI N D (K0 + j) = S at *
      have q2 : IntKind.i64.wrap (fr + S) = fr + S := IntWalk.i64_in _ (by omega)
      have t4 : fr + S < at' := by omega
      generalize bitE N D fr pv (K0 + j) (decide (PH = 2)) = E at *
      obtain ⟨E0, E1, E2, E3, E4, E5, E6⟩ := E
      have HBd : Hid (∀ W, MacAt W b N D PH at' fr pv → Calls Try.prog 115 #[.pointer (some ⟨b, 0, none⟩), .int .i64 (K0 + j)] W fun e w' => e = .returned (.agg #[.int .i64 E0, .int .i64 E1, .int .i64 E2, .int .i64 E3, .int .i64 E4, .string ⟨E5.toArray⟩, .int .i64 E6]) ∧ Below W.heap.size W w') := Lib.hid fun W hW => HBc.out W hW
      clear HBc
      go_wp2
      go_region_held3 (fun w' => w'.cell? ⟨b, 0, none⟩ = some (.int .i64 N) ∧ w'.cell? ⟨b, 1, none⟩ = some (.int .i64 D) ∧ w'.cell? ⟨b, 2, none⟩ = some (.int .i64 PH) ∧ w'.cell? ⟨b, 3, none⟩ = some (.int .i64 at') ∧ w'.cell? ⟨b, 4, none⟩ = some (.int .i64 fr) ∧ w'.cell? ⟨b, 8, none⟩ = some (.int .i64 pv) ∧ b < w'.heap.size ∧ Below wr.heap.size wr w') (first | with_reducible assumption | with_reducible exact hs.out | with_reducible exact held_six hs.out (Below.refl _ _).drew | fail)
      (first
        | (go_at_call 106; refine (HSj.out _).mono ?_; rintro e5 w5 ⟨rfl, b5⟩; have h5 := held_six (by with_reducible assumption) b5))

      have HK5 := Lib.hid h5.2.2.2.2.2.2.2
      have hM5 : MacAt _ b N D PH at' fr pv := HMr.out.keep HK5.out
      have HKr5 := Lib.hid (HKr.out.then_below HK5.out)
      have HR5 := Lib.hid (HR.out.keep HK5.out)
      have s5 := HK5.out.size
      have HM5 := Lib.hid hM5
      obtain ⟨_, _, al5⟩ := hM5.six
      clear hM5 h5 b5 a0 a1 a2 a3 a4 a8 hs HR HMr
      go_wp2_with (first
        | (go_at_call 115; go_must (refine (HBd.out _ HM5.out).mono ?_; rintro e6 w6 ⟨rfl, b6⟩; have R6 := Lib.hid (HR5.out.keep b6); have M6 := Lib.hid (HM5.out.keep b6); have K6 := Lib.hid (HKr5.out.then_below b6); have s6 := b6.size))
        | (at_builtin; go_must (refine wpList_append_k Try.underlying36 ev_info rfl (by omega) evC_size rfl _ _ rfl (⟨E0, E1, E2, E3, E4, E5, E6⟩ : Ev) rfl rfl rfl rfl R6.out (by omega) rfl (by omega) (by omega) ?_; intro v4 w4 r4 b4; have HB4 := Lib.hid b4; have R4 := Lib.hid r4; clear r4; have hM4 : MacAt w4 b N D PH at' fr pv := M6.out.below HB4.out al; have M4 := Lib.hid hM4; have K4 := Lib.hid (K6.out.then_old HB4.out); have s4 := HB4.out.size; obtain ⟨⟨f0, f1, f2, f3, f4, f8⟩, fz, fl⟩ := hM4.six; clear hM4 b4)))
      go_roundw
      case rel => exact ⟨j + 1, 1, by omega, val_int (by omega), Lib.hid (by simp), Lib.hid (by rw [HX.out]; exact R4.out.kp ((Kp.refl [b] _).set1 2 _) (fun g hg hx => by have := R4.out.lt g hg; simp only [List.mem_singleton] at hx; omega)), Lib.hid (by simpa using M4.out.set 2 (.int .i64 1)), Lib.hid (K4.out.set1 2 _), by rw [World.size_setCell]; omega⟩
      case measure => simp [intOf]; omega
    · have hj' : j = n := by omega
      have t4 := HQ.out (K0 + j) k0 (by omega)
      generalize smI N D (K0 + j) = S at *
      have q2 : IntKind.i64.wrap (fr + S) = fr + S := IntWalk.i64_in _ (by omega)
      have T5 : Hid (¬ fr + S < at') := Lib.hid (by omega)
      clear t4 hj' hn' c1 c2
      go_wp2
      go_region_held3 (fun w' => w'.cell? ⟨b, 0, none⟩ = some (.int .i64 N) ∧ w'.cell? ⟨b, 1, none⟩ = some (.int .i64 D) ∧ w'.cell? ⟨b, 2, none⟩ = some (.int .i64 PH) ∧ w'.cell? ⟨b, 3, none⟩ = some (.int .i64 at') ∧ w'.cell? ⟨b, 4, none⟩ = some (.int .i64 fr) ∧ w'.cell? ⟨b, 8, none⟩ = some (.int .i64 pv) ∧ b < w'.heap.size ∧ Below wr.heap.size wr w') (first | with_reducible assumption | with_reducible exact hs.out | with_reducible exact held_six hs.out (Below.refl _ _).drew | fail)
      (first
        | (go_at_call 106; refine (HSj.out _).mono ?_; rintro e5 w5 ⟨rfl, b5⟩; have h5 := held_six (by with_reducible assumption) b5))
      have HK5 := Lib.hid h5.2.2.2.2.2.2.2
      have HM5 := Lib.hid (HMr.out.keep HK5.out)
      have HKr5 := Lib.hid (HKr.out.then_below HK5.out)
      have HR5 := Lib.hid (HR.out.keep HK5.out)
      clear h5 b5 a0 a1 a2 a3 a4 a8 hs HR HMr
      have t5 := T5.out
      go_wp2
      all_goals
        go_returns
        obtain rfl : j = n := by omega
        refine ⟨_, rfl, HR5.out, ?_, HKr5.out⟩
        have hp := HP.out
        by_cases hz0 : 0 < j
        · rw [if_pos hz0] at hp; subst hp; first | exact HM5.out | (rw [if_pos (by omega)]; exact HM5.out) | (exfalso; omega)
        · rw [if_neg hz0] at hp; subst hp; first | exact HM5.out | (rw [if_neg (by omega)]; exact HM5.out) | (exfalso; omega)

end Go.Proofs.Ytmbeaagpjpphhaa

namespace Go.Proofs.Ytmbeaagpjpphhaa
open Go Go.RowKit Go.Joins
set_option linter.unusedVariables false
set_option linter.unusedSimpArgs false

theorem held_ac {X W w : World} {b p : Nat} {at' fr k f t v a u : Int} {s : ByteArray} (h : (W.cell? ⟨b, 3, none⟩ = some (.int .i64 at') ∧ W.cell? ⟨b, 4, none⟩ = some (.int .i64 fr)) ∧ (W.cell? ⟨p, 0, none⟩ = some (.int .i64 k) ∧ W.cell? ⟨p, 1, none⟩ = some (.int .i64 f) ∧ W.cell? ⟨p, 2, none⟩ = some (.int .i64 t) ∧ W.cell? ⟨p, 3, none⟩ = some (.int .i64 v) ∧ W.cell? ⟨p, 4, none⟩ = some (.int .i64 a) ∧ W.cell? ⟨p, 5, none⟩ = some (.string s) ∧ W.cell? ⟨p, 6, none⟩ = some (.int .i64 u)) ∧ b < W.heap.size ∧ p < W.heap.size ∧ Below X.heap.size X W) (hb : Below W.heap.size W w) : (w.cell? ⟨b, 3, none⟩ = some (.int .i64 at') ∧ w.cell? ⟨b, 4, none⟩ = some (.int .i64 fr)) ∧ (w.cell? ⟨p, 0, none⟩ = some (.int .i64 k) ∧ w.cell? ⟨p, 1, none⟩ = some (.int .i64 f) ∧ w.cell? ⟨p, 2, none⟩ = some (.int .i64 t) ∧ w.cell? ⟨p, 3, none⟩ = some (.int .i64 v) ∧ w.cell? ⟨p, 4, none⟩ = some (.int .i64 a) ∧ w.cell? ⟨p, 5, none⟩ = some (.string s) ∧ w.cell? ⟨p, 6, none⟩ = some (.int .i64 u)) ∧ b < w.heap.size ∧ p < w.heap.size ∧ Below X.heap.size X w := by
  obtain ⟨⟨a0, a1⟩, ⟨c0, c1, c2, c3, c4, c5, c6⟩, l0, l1, B⟩ := h
  have hs := hb.size
  exact ⟨⟨(hb.cell l0).trans a0, (hb.cell l0).trans a1⟩, ⟨(hb.cell l1).trans c0, (hb.cell l1).trans c1, (hb.cell l1).trans c2, (hb.cell l1).trans c3, (hb.cell l1).trans c4, (hb.cell l1).trans c5, (hb.cell l1).trans c6⟩, by omega, by omega, B.trans (hb.mono B.size)⟩

set_option maxRecDepth 20000 in
set_option maxHeartbeats 4000000 in
theorem accepts_any (b : Nat) (N D ph at' fr pv k f t v a : Int) (s : ByteArray) (u : Int) (w : World) (hm : MacAt w b N D ph at' fr pv) (hs : s.size ≤ 140737488351232) (hr : (ph = 0 ↔ at' = 0) ∧ 0 ≤ fr ∧ fr ≤ at') :
    Calls Try.prog 98 #[.pointer (some ⟨b, 0, none⟩), .agg (evA k f t v a s u)] w fun e w' => e = .returned (.bool (decide (AcL ph at' k f t v a s.size u))) ∧ Below w.heap.size w w' := by
  obtain ⟨hp, h0, h1⟩ := hr
  rw [show decide (AcL ph at' k f t v a s.size u) = decide (AcL at' at' k f t v a s.size u) from decide_eq_decide.2 (acL_ph hp k f t v a s.size u)]
  have HM := Lib.hid hm
  have HV := Lib.hid (fun W => acceptsLevel_any at' k f t v a s u W hs)
  generalize decide (AcL at' at' k f t v a s.size u) = q at *
  obtain ⟨W, p, eW, ep, lp, r0, B0⟩ := box7 w (evA k f t v a s u)
  have HB0 := Lib.hid B0
  obtain ⟨⟨c0, c1, c2, c3, c4, c5, c6⟩, c7⟩ := row7 r0
  have hmW := hm.keep B0
  obtain ⟨⟨a0, a1, a2, a3, a4, a8⟩, hz, al⟩ := MacAt.six hmW
  have e0 : decide (0 ≤ fr) = true := decide_eq_true h0
  have e1 : decide (fr ≤ at') = true := decide_eq_true h1
  have HS : Hid ((W.cell? ⟨b, 3, none⟩ = some (.int .i64 at') ∧ W.cell? ⟨b, 4, none⟩ = some (.int .i64 fr)) ∧ (W.cell? ⟨p, 0, none⟩ = some (.int .i64 k) ∧ W.cell? ⟨p, 1, none⟩ = some (.int .i64 f) ∧ W.cell? ⟨p, 2, none⟩ = some (.int .i64 t) ∧ W.cell? ⟨p, 3, none⟩ = some (.int .i64 v) ∧ W.cell? ⟨p, 4, none⟩ = some (.int .i64 a) ∧ W.cell? ⟨p, 5, none⟩ = some (.string s) ∧ W.cell? ⟨p, 6, none⟩ = some (.int .i64 u)) ∧ b < W.heap.size ∧ p < W.heap.size ∧ Below w.heap.size w W) := Lib.hid ⟨⟨a3, a4⟩, ⟨c0, c1, c2, c3, c4, c5, c6⟩, al, lp, B0⟩
  clear hm r0 B0 hz hmW h0 h1 hp c0 c1 c2 c3 c4 c5 c6 c7 a0 a1 a2 a3 a4 a8 al
  cases q
  · go_enter Try.func98, Try.ntmps98
    go_upto_region 1 with (fail)
    rw [← eW, ← ep]
    clear eW ep
    refine wp_region_held_drew (S := fun w' => (w'.cell? ⟨b, 3, none⟩ = some (.int .i64 at') ∧ w'.cell? ⟨b, 4, none⟩ = some (.int .i64 fr)) ∧ (w'.cell? ⟨p, 0, none⟩ = some (.int .i64 k) ∧ w'.cell? ⟨p, 1, none⟩ = some (.int .i64 f) ∧ w'.cell? ⟨p, 2, none⟩ = some (.int .i64 t) ∧ w'.cell? ⟨p, 3, none⟩ = some (.int .i64 v) ∧ w'.cell? ⟨p, 4, none⟩ = some (.int .i64 a) ∧ w'.cell? ⟨p, 5, none⟩ = some (.string s) ∧ w'.cell? ⟨p, 6, none⟩ = some (.int .i64 u)) ∧ b < w'.heap.size ∧ p < w'.heap.size ∧ Below w.heap.size w w') (by kernel_rfl) (held_ac HS.out (Below.refl _ _).drew) (fun hH => ?_)
    refine wpAnyH_take (i := 0) (oi := { dst := some 5, op := Op.move (Operand.tmp 0), type := 115, pos := "machine.go:42", after := #[], guard := none }) (v := ?_) rfl ?_ ?_ ?_ ?_ (Or.inl ⟨?_, ?_⟩) hH ?_
    rotate_left
    · kernel_rfl
    · kernel_rfl
    · kernel_rfl
    · exact fun _ _ _ h => h
    · kernel_rfl
    · intro wS hSw
      try dsimp only at hSw
      obtain ⟨⟨a3, a4⟩, ⟨c0, c1, c2, c3, c4, c5, c6⟩, al, pl, aB⟩ := hSw
      go_simp
      try with_reducible rfl
    try simp only [Act.put, List.setIfInBounds_toArray, List.set_cons_zero, List.set_cons_succ]
    refine wpAnyH_take (i := 1) (oi := { dst := some 6, op := Op.nilCheck (Operand.tmp 5), type := 0, pos := "machine.go:42", after := #[{ on := 0, ground := Ground.data }], guard := none }) (v := ?_) rfl ?_ ?_ ?_ ?_ (Or.inl ⟨?_, ?_⟩) hH ?_
    rotate_left
    · kernel_rfl
    · kernel_rfl
    · kernel_rfl
    · exact fun _ _ _ h => h
    · kernel_rfl
    · intro wS hSw
      try dsimp only at hSw
      obtain ⟨⟨a3, a4⟩, ⟨c0, c1, c2, c3, c4, c5, c6⟩, al, pl, aB⟩ := hSw
      go_simp
      try with_reducible rfl
    try simp only [Act.put, List.setIfInBounds_toArray, List.set_cons_zero, List.set_cons_succ]
    refine wpAnyH_take (i := 2) (oi := { dst := some 7, op := Op.fieldAddr 88 (Operand.tmp 6) 1, type := 0, pos := "machine.go:42", after := #[{ on := 1, ground := Ground.data }], guard := none }) (v := ?_) rfl ?_ ?_ ?_ ?_ (Or.inl ⟨?_, ?_⟩) hH ?_
    rotate_left
    · kernel_rfl
    · kernel_rfl
    · kernel_rfl
    · exact fun _ _ _ h => h
    · kernel_rfl
    · intro wS hSw
      try dsimp only at hSw
      obtain ⟨⟨a3, a4⟩, ⟨c0, c1, c2, c3, c4, c5, c6⟩, al, pl, aB⟩ := hSw
      go_simp
      try with_reducible rfl
    try simp only [Act.put, List.setIfInBounds_toArray, List.set_cons_zero, List.set_cons_succ]
    refine wpAnyH_take (i := 3) (oi := { dst := some 8, op := Op.fieldAddr 39 (Operand.tmp 7) 1, type := 0, pos := "machine.go:42", after := #[{ on := 2, ground := Ground.data }], guard := none }) (v := ?_) rfl ?_ ?_ ?_ ?_ (Or.inl ⟨?_, ?_⟩) hH ?_
    rotate_left
    · kernel_rfl
    · kernel_rfl
    · kernel_rfl
    · exact fun _ _ _ h => h
    · kernel_rfl
    · intro wS hSw
      try dsimp only at hSw
      obtain ⟨⟨a3, a4⟩, ⟨c0, c1, c2, c3, c4, c5, c6⟩, al, pl, aB⟩ := hSw
      go_simp
      try with_reducible rfl
    try simp only [Act.put, List.setIfInBounds_toArray, List.set_cons_zero, List.set_cons_succ]
    refine wpAnyH_take (i := 4) (oi := { dst := some 9, op := Op.load 3 (Operand.tmp 8), type := 3, pos := "machine.go:42", after := #[{ on := 3, ground := Ground.data }], guard := none }) (v := ?_) rfl ?_ ?_ ?_ ?_ (Or.inl ⟨?_, ?_⟩) hH ?_
    rotate_left
    · kernel_rfl
    · kernel_rfl
    · kernel_rfl
    · exact fun _ _ _ h => h
    · kernel_rfl
    · intro wS hSw
      try dsimp only at hSw
      obtain ⟨⟨a3, a4⟩, ⟨c0, c1, c2, c3, c4, c5, c6⟩, al, pl, aB⟩ := hSw
      go_simp
      try with_reducible rfl
    try simp only [Act.put, List.setIfInBounds_toArray, List.set_cons_zero, List.set_cons_succ]
    refine wpAnyH_take (i := 5) (oi := { dst := some 10, op := Op.load 44 (Operand.tmp 3), type := 44, pos := "machine.go:42", after := #[], guard := none }) (v := ?_) rfl ?_ ?_ ?_ ?_ (Or.inl ⟨?_, ?_⟩) hH ?_
    rotate_left
    · kernel_rfl
    · kernel_rfl
    · kernel_rfl
    · exact fun _ _ _ h => h
    · kernel_rfl
    · intro wS hSw
      try dsimp only at hSw
      obtain ⟨⟨a3, a4⟩, ⟨c0, c1, c2, c3, c4, c5, c6⟩, al, pl, aB⟩ := hSw
      go_simp
      try with_reducible rfl
    try simp only [Act.put, List.setIfInBounds_toArray, List.set_cons_zero, List.set_cons_succ]
    refine wpAnyH_ready (rs := [6]) (by kernel_rfl) (by simp) ?_
    refine AllReadyH.cons (o := { dst := some 11, op := Op.call { callee := Callee.value (Operand.func 75), args := #[Operand.tmp 9, Operand.const (Value.int IntKind.i64 1), Operand.tmp 10], argTypes := #[3, 3, 44] }, type := 4, pos := "machine.go:42", after := #[{ on := 4, ground := Ground.data }, { on := 5, ground := Ground.data }], guard := none }) rfl (fun K hK => ?_) ?_
    rotate_left
    · exact AllReadyH.nil
    rw [if_pos (by kernel_rfl)]
    go_simp
    go_at_call 75; refine (HV.out _).mono ?_; rintro e5 w5 ⟨rfl, b5⟩; have hS9 := held_ac (held_ac HS.out (Below.refl _ _).drew) b5
    refine hK.out _ _ hS9 (fun hH => ?_)
    try simp only [Act.put, List.setIfInBounds_toArray, List.set_cons_zero, List.set_cons_succ]
    refine wpAnyH_take (i := 7) (oi := { dst := some 12, op := Op.move (Operand.tmp 11), type := 4, pos := "machine.go:42", after := #[{ on := 6, ground := Ground.data }, { on := 6, ground := Ground.chain }], guard := none }) (v := ?_) rfl ?_ ?_ ?_ ?_ (Or.inl ⟨?_, ?_⟩) hH ?_
    rotate_left
    · kernel_rfl
    · kernel_rfl
    · kernel_rfl
    · exact fun _ _ _ h => h
    · kernel_rfl
    · intro wS hSw
      try dsimp only at hSw
      obtain ⟨⟨a3, a4⟩, ⟨c0, c1, c2, c3, c4, c5, c6⟩, al, pl, aB⟩ := hSw
      go_simp
      try with_reducible rfl
    try simp only [Act.put, List.setIfInBounds_toArray, List.set_cons_zero, List.set_cons_succ]
    refine wpAnyH_take (i := 8) (oi := { dst := some 13, op := Op.move (Operand.tmp 0), type := 115, pos := "machine.go:42", after := #[{ on := 7, ground := Ground.guard }], guard := some (7, true) }) (v := undef) rfl (by kernel_rfl) (by kernel_rfl) (by kernel_rfl) (fun _ _ _ h => h) (Or.inr ⟨by kernel_rfl, rfl⟩) hH ?_
    try simp only [Act.put, List.setIfInBounds_toArray, List.set_cons_zero, List.set_cons_succ]
    refine wpAnyH_take (i := 9) (oi := { dst := some 14, op := Op.nilCheck (Operand.tmp 13), type := 0, pos := "machine.go:42", after := #[{ on := 8, ground := Ground.data }, { on := 7, ground := Ground.guard }], guard := some (7, true) }) (v := undef) rfl (by kernel_rfl) (by kernel_rfl) (by kernel_rfl) (fun _ _ _ h => h) (Or.inr ⟨by kernel_rfl, rfl⟩) hH ?_
    try simp only [Act.put, List.setIfInBounds_toArray, List.set_cons_zero, List.set_cons_succ]
    refine wpAnyH_take (i := 10) (oi := { dst := some 15, op := Op.fieldAddr 88 (Operand.tmp 14) 1, type := 0, pos := "machine.go:42", after := #[{ on := 9, ground := Ground.data }, { on := 7, ground := Ground.guard }], guard := some (7, true) }) (v := undef) rfl (by kernel_rfl) (by kernel_rfl) (by kernel_rfl) (fun _ _ _ h => h) (Or.inr ⟨by kernel_rfl, rfl⟩) hH ?_
    try simp only [Act.put, List.setIfInBounds_toArray, List.set_cons_zero, List.set_cons_succ]
    refine wpAnyH_take (i := 11) (oi := { dst := some 16, op := Op.fieldAddr 39 (Operand.tmp 15) 2, type := 0, pos := "machine.go:42", after := #[{ on := 10, ground := Ground.data }, { on := 7, ground := Ground.guard }], guard := some (7, true) }) (v := undef) rfl (by kernel_rfl) (by kernel_rfl) (by kernel_rfl) (fun _ _ _ h => h) (Or.inr ⟨by kernel_rfl, rfl⟩) hH ?_
    try simp only [Act.put, List.setIfInBounds_toArray, List.set_cons_zero, List.set_cons_succ]
    refine wpAnyH_take (i := 12) (oi := { dst := some 17, op := Op.load 3 (Operand.tmp 16), type := 3, pos := "machine.go:42", after := #[{ on := 11, ground := Ground.data }, { on := 7, ground := Ground.guard }], guard := some (7, true) }) (v := undef) rfl (by kernel_rfl) (by kernel_rfl) (by kernel_rfl) (fun _ _ _ h => h) (Or.inr ⟨by kernel_rfl, rfl⟩) hH ?_
    try simp only [Act.put, List.setIfInBounds_toArray, List.set_cons_zero, List.set_cons_succ]
    refine wpAnyH_take (i := 13) (oi := { dst := some 18, op := Op.binOp BinOp.leq 3 (Operand.const (Value.int IntKind.i64 0)) (Operand.tmp 17) 3, type := 4, pos := "machine.go:42", after := #[{ on := 12, ground := Ground.data }, { on := 7, ground := Ground.guard }], guard := some (7, true) }) (v := undef) rfl (by kernel_rfl) (by kernel_rfl) (by kernel_rfl) (fun _ _ _ h => h) (Or.inr ⟨by kernel_rfl, rfl⟩) hH ?_
    try simp only [Act.put, List.setIfInBounds_toArray, List.set_cons_zero, List.set_cons_succ]
    refine wpAnyH_take (i := 14) (oi := { dst := some 19, op := Op.pick (Operand.tmp 12) (Operand.tmp 18) (Operand.const (Value.bool false)), type := 4, pos := "machine.go:42", after := #[{ on := 7, ground := Ground.data }, { on := 13, ground := Ground.data }], guard := none }) (v := ?_) rfl ?_ ?_ ?_ ?_ (Or.inl ⟨?_, ?_⟩) hH ?_
    rotate_left
    · kernel_rfl
    · kernel_rfl
    · kernel_rfl
    · exact fun _ _ _ h => h
    · kernel_rfl
    · intro wS hSw
      try dsimp only at hSw
      obtain ⟨⟨a3, a4⟩, ⟨c0, c1, c2, c3, c4, c5, c6⟩, al, pl, aB⟩ := hSw
      go_simp
      try with_reducible rfl
    try simp only [Act.put, List.setIfInBounds_toArray, List.set_cons_zero, List.set_cons_succ]
    refine wpAnyH_take (i := 15) (oi := { dst := some 20, op := Op.move (Operand.tmp 19), type := 4, pos := "machine.go:42", after := #[{ on := 14, ground := Ground.data }, { on := 7, ground := Ground.chain }], guard := none }) (v := ?_) rfl ?_ ?_ ?_ ?_ (Or.inl ⟨?_, ?_⟩) hH ?_
    rotate_left
    · kernel_rfl
    · kernel_rfl
    · kernel_rfl
    · exact fun _ _ _ h => h
    · kernel_rfl
    · intro wS hSw
      try dsimp only at hSw
      obtain ⟨⟨a3, a4⟩, ⟨c0, c1, c2, c3, c4, c5, c6⟩, al, pl, aB⟩ := hSw
      go_simp
      try with_reducible rfl
    try simp only [Act.put, List.setIfInBounds_toArray, List.set_cons_zero, List.set_cons_succ]
    refine wpAnyH_take (i := 16) (oi := { dst := some 21, op := Op.move (Operand.tmp 0), type := 115, pos := "machine.go:42", after := #[{ on := 15, ground := Ground.guard }], guard := some (15, true) }) (v := undef) rfl (by kernel_rfl) (by kernel_rfl) (by kernel_rfl) (fun _ _ _ h => h) (Or.inr ⟨by kernel_rfl, rfl⟩) hH ?_
    try simp only [Act.put, List.setIfInBounds_toArray, List.set_cons_zero, List.set_cons_succ]
    refine wpAnyH_take (i := 17) (oi := { dst := some 22, op := Op.nilCheck (Operand.tmp 21), type := 0, pos := "machine.go:42", after := #[{ on := 16, ground := Ground.data }, { on := 15, ground := Ground.guard }], guard := some (15, true) }) (v := undef) rfl (by kernel_rfl) (by kernel_rfl) (by kernel_rfl) (fun _ _ _ h => h) (Or.inr ⟨by kernel_rfl, rfl⟩) hH ?_
    try simp only [Act.put, List.setIfInBounds_toArray, List.set_cons_zero, List.set_cons_succ]
    refine wpAnyH_take (i := 18) (oi := { dst := some 23, op := Op.fieldAddr 88 (Operand.tmp 22) 1, type := 0, pos := "machine.go:42", after := #[{ on := 17, ground := Ground.data }, { on := 15, ground := Ground.guard }], guard := some (15, true) }) (v := undef) rfl (by kernel_rfl) (by kernel_rfl) (by kernel_rfl) (fun _ _ _ h => h) (Or.inr ⟨by kernel_rfl, rfl⟩) hH ?_
    try simp only [Act.put, List.setIfInBounds_toArray, List.set_cons_zero, List.set_cons_succ]
    refine wpAnyH_take (i := 19) (oi := { dst := some 24, op := Op.fieldAddr 39 (Operand.tmp 23) 2, type := 0, pos := "machine.go:42", after := #[{ on := 18, ground := Ground.data }, { on := 15, ground := Ground.guard }], guard := some (15, true) }) (v := undef) rfl (by kernel_rfl) (by kernel_rfl) (by kernel_rfl) (fun _ _ _ h => h) (Or.inr ⟨by kernel_rfl, rfl⟩) hH ?_
    try simp only [Act.put, List.setIfInBounds_toArray, List.set_cons_zero, List.set_cons_succ]
    refine wpAnyH_take (i := 20) (oi := { dst := some 25, op := Op.load 3 (Operand.tmp 24), type := 3, pos := "machine.go:42", after := #[{ on := 19, ground := Ground.data }, { on := 15, ground := Ground.guard }], guard := some (15, true) }) (v := undef) rfl (by kernel_rfl) (by kernel_rfl) (by kernel_rfl) (fun _ _ _ h => h) (Or.inr ⟨by kernel_rfl, rfl⟩) hH ?_
    try simp only [Act.put, List.setIfInBounds_toArray, List.set_cons_zero, List.set_cons_succ]
    refine wpAnyH_take (i := 21) (oi := { dst := some 26, op := Op.move (Operand.tmp 0), type := 115, pos := "machine.go:42", after := #[{ on := 15, ground := Ground.guard }], guard := some (15, true) }) (v := undef) rfl (by kernel_rfl) (by kernel_rfl) (by kernel_rfl) (fun _ _ _ h => h) (Or.inr ⟨by kernel_rfl, rfl⟩) hH ?_
    try simp only [Act.put, List.setIfInBounds_toArray, List.set_cons_zero, List.set_cons_succ]
    refine wpAnyH_take (i := 22) (oi := { dst := some 27, op := Op.nilCheck (Operand.tmp 26), type := 0, pos := "machine.go:42", after := #[{ on := 21, ground := Ground.data }, { on := 15, ground := Ground.guard }], guard := some (15, true) }) (v := undef) rfl (by kernel_rfl) (by kernel_rfl) (by kernel_rfl) (fun _ _ _ h => h) (Or.inr ⟨by kernel_rfl, rfl⟩) hH ?_
    try simp only [Act.put, List.setIfInBounds_toArray, List.set_cons_zero, List.set_cons_succ]
    refine wpAnyH_take (i := 23) (oi := { dst := some 28, op := Op.fieldAddr 88 (Operand.tmp 27) 1, type := 0, pos := "machine.go:42", after := #[{ on := 22, ground := Ground.data }, { on := 15, ground := Ground.guard }], guard := some (15, true) }) (v := undef) rfl (by kernel_rfl) (by kernel_rfl) (by kernel_rfl) (fun _ _ _ h => h) (Or.inr ⟨by kernel_rfl, rfl⟩) hH ?_
    try simp only [Act.put, List.setIfInBounds_toArray, List.set_cons_zero, List.set_cons_succ]
    refine wpAnyH_take (i := 24) (oi := { dst := some 29, op := Op.fieldAddr 39 (Operand.tmp 28) 1, type := 0, pos := "machine.go:42", after := #[{ on := 23, ground := Ground.data }, { on := 15, ground := Ground.guard }], guard := some (15, true) }) (v := undef) rfl (by kernel_rfl) (by kernel_rfl) (by kernel_rfl) (fun _ _ _ h => h) (Or.inr ⟨by kernel_rfl, rfl⟩) hH ?_
    try simp only [Act.put, List.setIfInBounds_toArray, List.set_cons_zero, List.set_cons_succ]
    refine wpAnyH_take (i := 25) (oi := { dst := some 30, op := Op.load 3 (Operand.tmp 29), type := 3, pos := "machine.go:42", after := #[{ on := 24, ground := Ground.data }, { on := 15, ground := Ground.guard }], guard := some (15, true) }) (v := undef) rfl (by kernel_rfl) (by kernel_rfl) (by kernel_rfl) (fun _ _ _ h => h) (Or.inr ⟨by kernel_rfl, rfl⟩) hH ?_
    try simp only [Act.put, List.setIfInBounds_toArray, List.set_cons_zero, List.set_cons_succ]
    refine wpAnyH_take (i := 26) (oi := { dst := some 31, op := Op.binOp BinOp.leq 3 (Operand.tmp 25) (Operand.tmp 30) 3, type := 4, pos := "machine.go:42", after := #[{ on := 20, ground := Ground.data }, { on := 25, ground := Ground.data }, { on := 15, ground := Ground.guard }], guard := some (15, true) }) (v := undef) rfl (by kernel_rfl) (by kernel_rfl) (by kernel_rfl) (fun _ _ _ h => h) (Or.inr ⟨by kernel_rfl, rfl⟩) hH ?_
    try simp only [Act.put, List.setIfInBounds_toArray, List.set_cons_zero, List.set_cons_succ]
    refine wpAnyH_take (i := 27) (oi := { dst := some 32, op := Op.pick (Operand.tmp 20) (Operand.tmp 31) (Operand.const (Value.bool false)), type := 4, pos := "machine.go:42", after := #[{ on := 15, ground := Ground.data }, { on := 26, ground := Ground.data }], guard := none }) (v := ?_) rfl ?_ ?_ ?_ ?_ (Or.inl ⟨?_, ?_⟩) hH ?_
    rotate_left
    · kernel_rfl
    · kernel_rfl
    · kernel_rfl
    · exact fun _ _ _ h => h
    · kernel_rfl
    · intro wS hSw
      try dsimp only at hSw
      obtain ⟨⟨a3, a4⟩, ⟨c0, c1, c2, c3, c4, c5, c6⟩, al, pl, aB⟩ := hSw
      go_simp
      try with_reducible rfl
    try simp only [Act.put, List.setIfInBounds_toArray, List.set_cons_zero, List.set_cons_succ]
    refine wpAnyH_take (i := 28) (oi := { dst := some 4, op := Op.assign (Operand.tmp 32), type := 4, pos := "machine.go:42", after := #[{ on := 27, ground := Ground.data }, { on := 15, ground := Ground.chain }, { on := 0, ground := Ground.phase }, { on := 1, ground := Ground.phase }, { on := 2, ground := Ground.phase }, { on := 3, ground := Ground.phase }, { on := 4, ground := Ground.phase }, { on := 5, ground := Ground.phase }, { on := 6, ground := Ground.phase }, { on := 7, ground := Ground.phase }, { on := 8, ground := Ground.phase }, { on := 9, ground := Ground.phase }, { on := 10, ground := Ground.phase }, { on := 11, ground := Ground.phase }, { on := 12, ground := Ground.phase }, { on := 13, ground := Ground.phase }, { on := 14, ground := Ground.phase }, { on := 15, ground := Ground.phase }, { on := 16, ground := Ground.phase }, { on := 17, ground := Ground.phase }, { on := 18, ground := Ground.phase }, { on := 19, ground := Ground.phase }, { on := 20, ground := Ground.phase }, { on := 21, ground := Ground.phase }, { on := 22, ground := Ground.phase }, { on := 23, ground := Ground.phase }, { on := 24, ground := Ground.phase }, { on := 25, ground := Ground.phase }, { on := 26, ground := Ground.phase }, { on := 27, ground := Ground.phase }], guard := none }) (v := ?_) rfl ?_ ?_ ?_ ?_ (Or.inl ⟨?_, ?_⟩) hH ?_
    rotate_left
    · kernel_rfl
    · kernel_rfl
    · kernel_rfl
    · exact fun _ _ _ h => h
    · kernel_rfl
    · intro wS hSw
      try dsimp only at hSw
      obtain ⟨⟨a3, a4⟩, ⟨c0, c1, c2, c3, c4, c5, c6⟩, al, pl, aB⟩ := hSw
      go_simp
      try with_reducible rfl
    try simp only [Act.put, List.setIfInBounds_toArray, List.set_cons_zero, List.set_cons_succ]
    refine wpAnyH_done (by kernel_rfl) ?_ _
    obtain ⟨⟨d3, d4⟩, ⟨g0, g1, g2, g3, g4, g5, g6⟩, dl, dp, dB⟩ := hH
    clear HS HV
    go_wp2
    go_returns
    exact ⟨rfl, dB⟩
  · go_enter Try.func98, Try.ntmps98
    go_upto_region 1 with (fail)
    rw [← eW, ← ep]
    clear eW ep
    go_region_held3 (fun w' => (w'.cell? ⟨b, 3, none⟩ = some (.int .i64 at') ∧ w'.cell? ⟨b, 4, none⟩ = some (.int .i64 fr)) ∧ (w'.cell? ⟨p, 0, none⟩ = some (.int .i64 k) ∧ w'.cell? ⟨p, 1, none⟩ = some (.int .i64 f) ∧ w'.cell? ⟨p, 2, none⟩ = some (.int .i64 t) ∧ w'.cell? ⟨p, 3, none⟩ = some (.int .i64 v) ∧ w'.cell? ⟨p, 4, none⟩ = some (.int .i64 a) ∧ w'.cell? ⟨p, 5, none⟩ = some (.string s) ∧ w'.cell? ⟨p, 6, none⟩ = some (.int .i64 u)) ∧ b < w'.heap.size ∧ p < w'.heap.size ∧ Below w.heap.size w w') (first | with_reducible assumption | with_reducible exact held_ac HS.out (Below.refl _ _).drew | fail)
      (first | (go_at_call 75; refine (HV.out _).mono ?_; rintro e5 w5 ⟨rfl, b5⟩; have h5 := held_ac (by with_reducible assumption) b5) | fail)
    all_goals
      rename_i hS9
      obtain ⟨⟨d3, d4⟩, ⟨g0, g1, g2, g3, g4, g5, g6⟩, dl, dp, dB⟩ := hS9
      clear HS HV
      go_wp2
      go_returns
      exact ⟨rfl, dB⟩

end Go.Proofs.Ytmbeaagpjpphhaa
