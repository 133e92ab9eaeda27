/-
  The walk of the statement LexRoundTrips.
-/
import Derived.Test.YtpeiiomimfiebaaDoorW17
import Derived.Test.YtpeiiomimfiebaaDoorM7
import Derived.BigQuiet
namespace Go.Proofs.YtpeiiomimfiebaaDoor
open Go Go.RowKit
set_option linter.unusedVariables false
set_option linter.unusedSimpArgs false

set_option maxRecDepth 200000 in
set_option maxHeartbeats 8000000 in
theorem law_round (l : List Tok) (V : Value) (w : World) (hT : TArg w V l) (hs : ∀ t ∈ l, t.t.length ≤ 140737488351232 ∧ -9223372036854775808 ≤ t.v ∧ t.v ≤ 9223372036854775807) (hn : l.length ≤ 140737488351232) (hE : Env w) :
    Calls Tryd.prog 3 #[V] w fun e w' => e = .returned (.bool true) ∧ Below w.heap.size w w' := by
  have C1 := fun w h hE => text_any l V w h hs hn hE
  have hcs := tx_cases l
  rcases hcs with ⟨he, he2⟩ | ⟨hall, hlen, htx⟩
  · rw [he] at C1
    obtain ⟨e, hee⟩ : ∃ e : Nat, (tx l).2 = e := ⟨_, rfl⟩
    rw [hee] at C1 he2
    have he0 : ((e : Int) != 0) = true := by rw [bne_iff_ne]; omega
    have H1 := Lib.hid C1
    clear C1 he hs he2 hee
    obtain ⟨A, c, rfl, hA⟩ := hT
    have hT := Lib.hid (show TArg w (.slice A l.length c) l from ⟨A, c, rfl, hA⟩)
    clear hA
    go_enter Tryd.func3, Tryd.ntmps3
    go_wp2_with (first
      | (go_at_call 5; go_must (refine (H1.out _ hT.out hE).mono ?_; rintro e1 w1 ⟨rfl, b1⟩))
      | (go_at_call 6; go_must (refine (awake_any _).mono ?_; rintro e5 w5 ⟨rfl, b5⟩; have s5 := b1.trans (b5.mono b1.size))))
    go_returns
    exact ⟨rfl, s5⟩
  · rw [htx] at C1
    obtain ⟨hans, htx2⟩ := tx_back l hall hlen
    have hbd := nrm_bounds l hall hs
    have hml : (l.map fun t => nrm t 1).length = l.length := List.length_map ..
    have hJs : (⟨(jn l).toArray⟩ : ByteArray).size = (jn l).length := size_mk _
    have C2 := fun w => tokens_any ⟨(jn l).toArray⟩ w (by omega)
    rw [show (⟨(jn l).toArray⟩ : ByteArray).data.toList = jn l from rfl, hans] at C2
    unfold anV at C2
    simp only at C1 C2
    have C3 := fun V w h hE => text_any (l.map fun t => nrm t 1) V w h hbd (by rw [hml]; exact hn) hE
    rw [htx2] at C3
    simp only at C3
    generalize jn l = J at *
    have hnI : (l.length : Int) ≤ 140737488351232 := by omega
    clear htx hans htx2 hbd hs hall hlen hJs
    obtain ⟨A, c, rfl, hA⟩ := hT
    have hT := Lib.hid (show TArg w (.slice A l.length c) l from ⟨A, c, rfl, hA⟩)
    rcases Nat.eq_zero_or_pos l.length with h0 | h0
    · obtain rfl : l = [] := List.length_eq_zero_iff.1 h0
      simp only [List.map_nil, List.length_nil] at C1 C2 C3 hT
      clear hml hnI hn h0
      have H1 := Lib.hid C1; have H2 := Lib.hid C2; have H3 := Lib.hid C3
      have HH := Lib.hid hE
      clear C1 C2 C3 hA hE
      go_enter Tryd.func3, Tryd.ntmps3
      go_wp2_with (first
        | (go_at_call 5; go_must (refine (H1.out _ hT.out HH.out).mono ?_; rintro e1 w1 ⟨rfl, b1⟩))
        | (go_at_call 7; go_must (refine (H2.out _).mono ?_; rintro e2 w2 ⟨V2, rfl, r2, bb2⟩; have q2 := Lib.hid r2.arg; obtain ⟨UA, UN, UC, rfl, hUN⟩ := r2.form; rw [List.length_nil] at hUN; subst hUN; have s2 := b1.trans (bb2.mono b1.size))))
      go_loopw [8] (fun x wr2 => x = .int .i64 0 ∧ wr2 = w2) (fun _ _ => 0)
      case atStart => exact ⟨(by first | rfl | trivial), (by first | rfl | trivial)⟩
      case round =>
        obtain ⟨rfl, rfl⟩ := hrel
        go_wp2_with (first
          | (go_at_call 5; go_must (refine (H3.out _ _ q2.out (HH.out.below s2)).mono ?_; rintro e3 w3 ⟨rfl, b3⟩; have s3 := s2.trans (b3.mono s2.size)))
          | (go_at_call 6; go_must (refine (awake_any _).mono ?_; rintro e5 w5 ⟨rfl, b5⟩; have s5 := s3.trans (b5.mono s3.size))))
        go_returns
        exact ⟨rfl, s5⟩
    · obtain ⟨g1, o, rfl, lg1, hc⟩ := hA h0
      have H1 := Lib.hid C1; have H2 := Lib.hid C2; have H3 := Lib.hid C3
      have HH := Lib.hid hE
      have HC := Lib.hid hc
      clear C1 C2 C3 hA hE hc
      go_enter Tryd.func3, Tryd.ntmps3
      go_wp2_with (first
        | (go_at_call 5; go_must (refine (H1.out _ hT.out HH.out).mono ?_; rintro e1 w1 ⟨rfl, b1⟩))
        | (go_at_call 7; go_must (refine (H2.out _).mono ?_; rintro e2 w2 ⟨V2, rfl, r2, bb2⟩; have q2 := Lib.hid r2.arg; obtain ⟨g2, c2, rfl⟩ := r2.full (by rw [hml]; exact h0); rw [hml] at q2 ⊢; have s2 := b1.trans (bb2.mono b1.size))))
      have F2 := Lib.hid (show ∀ j (hj : j < l.length), w2.cell? ⟨g2, j * 4, none⟩ = some (.int .i64 l[j].k) ∧ (¬ l[j].k = 2 → w2.cell? ⟨g2, j * 4 + 1, none⟩ = some (.string ⟨l[j].t.toArray⟩)) ∧ w2.cell? ⟨g2, j * 4 + 2, none⟩ = some (.int .i64 l[j].v) ∧ w2.cell? ⟨g2, j * 4 + 3, none⟩ = some (.int .i64 1) from fun j hj => by
        have := r2.four j (by rw [hml]; exact hj)
        rw [List.getElem_map] at this
        unfold nrm at this
        refine ⟨this.1, fun h => ?_, this.2.2.1, this.2.2.2⟩
        have h1 := this.2.1
        simp only [if_neg h] at h1
        exact h1)
      have lg2 : g2 < w2.heap.size := World.block_lt_of_cell? w2 _ (F2.out 0 h0).1
      have S2 := Lib.hid s2
      clear r2 bb2 s2 H1 H2 b1
      go_loopw [8] (fun x wr2 => ∃ i : Nat, i ≤ l.length ∧ x = .int .i64 i ∧ Hid (Below w2.heap.size w2 wr2)) (fun x _ => l.length - (intOf x).toNat)
      case atStart => exact ⟨0, by omega, rfl, Lib.hid (Below.refl _ _)⟩
      case round =>
        obtain ⟨i, hi, rfl, HB⟩ := hrel
        have S3 := S2.out.trans (HB.out.mono S2.out.size)
        by_cases hil : i < l.length
        · obtain ⟨m0, m1, m2, m3⟩ := F2.out i hil
          have a0 := HC.out i hil 0 (by omega)
          have a1 := HC.out i hil 1 (by omega)
          have a2 := HC.out i hil 2 (by omega)
          have q0 : wr.cell? ⟨g2, i * 4, none⟩ = _ := (HB.out.cell (p := ⟨g2, i * 4, none⟩) lg2).trans m0
          have q1 : ¬ l[i].k = 2 → wr.cell? ⟨g2, i * 4 + 1, none⟩ = _ := fun h => (HB.out.cell (p := ⟨g2, i * 4 + 1, none⟩) lg2).trans (m1 h)
          have q2' : wr.cell? ⟨g2, i * 4 + 2, none⟩ = _ := (HB.out.cell (p := ⟨g2, i * 4 + 2, none⟩) lg2).trans m2
          have q3 : wr.cell? ⟨g2, i * 4 + 3, none⟩ = _ := (HB.out.cell (p := ⟨g2, i * 4 + 3, none⟩) lg2).trans m3
          have f0 : wr.cell? ⟨g1, o + i * 4, none⟩ = some (.int .i64 l[i].k) := (S3.cell (p := ⟨g1, o + i * 4, none⟩) lg1).trans a0
          have f1 : wr.cell? ⟨g1, o + i * 4 + 1, none⟩ = some (.string ⟨l[i].t.toArray⟩) := (S3.cell (p := ⟨g1, o + i * 4 + 1, none⟩) lg1).trans a1
          have f2 : wr.cell? ⟨g1, o + i * 4 + 2, none⟩ = some (.int .i64 l[i].v) := (S3.cell (p := ⟨g1, o + i * 4 + 2, none⟩) lg1).trans a2
          clear m0 m1 m2 m3 a0 a1 a2 S3
          generalize l[i].k = x0 at *
          generalize l[i].t.toArray = x1 at *
          generalize l[i].v = x2 at *
          by_cases hk : x0 = 2
          · subst hk
            clear q1 f1
            go_wp2
            go_quiet (fail)
            go_wp2
            go_quiet (fail)
            go_wp2
            go_roundw
            case rel => exact ⟨i + 1, by omega, by go_num, Lib.hid (Go.below_drewN HB.out _)⟩
            case measure => simp [intOf]; omega
          · have q1' := q1 hk
            have hk2 : (x0 != 2) = true := by rw [bne_iff_ne]; exact hk
            clear q1 hk
            go_wp2
            go_quiet (fail)
            go_wp2
            go_quiet (fail)
            go_wp2
            go_roundw
            case rel => exact ⟨i + 1, by omega, by go_num, Lib.hid (Go.below_drewN HB.out _)⟩
            case measure => simp [intOf]; omega
        · have q3 := q2.out
          have q4 := Lib.hid (show TArg wr (.slice (some ⟨g2, 0, none⟩) l.length c2) (l.map fun t => nrm t 1) from by
            obtain ⟨A', c', e', h'⟩ := q3
            refine ⟨A', c', e', fun h => ?_⟩
            obtain ⟨g, o, e1, e2, e3⟩ := h' h
            exact ⟨g, o, e1, Nat.lt_of_lt_of_le e2 HB.out.size, fun j hj i hi => (HB.out.cell (p := ⟨g, o + j * 4 + i, none⟩) e2).trans (e3 j hj i hi)⟩)
          clear q3
          go_wp2_with (first
            | (go_at_call 5; go_must (refine (H3.out _ _ q4.out (HH.out.below S3)).mono ?_; rintro e3 w3 ⟨rfl, b3⟩; have s3 := S3.trans (b3.mono S3.size)))
            | (go_at_call 6; go_must (refine (awake_any _).mono ?_; rintro e5 w5 ⟨rfl, b5⟩; have s5 := s3.trans (b5.mono s3.size))))
          go_returns
          exact ⟨rfl, s5⟩

end Go.Proofs.YtpeiiomimfiebaaDoor
