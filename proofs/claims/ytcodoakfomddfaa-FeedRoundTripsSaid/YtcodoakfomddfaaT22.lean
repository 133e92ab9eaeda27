/-
  The walk of the program's Split.
-/
import Derived.Test.YtcodoakfomddfaaT21
namespace Go.Proofs.Ytcodoakfomddfaa
open Go Go.RowKit Go.Joins Go.Shelf
set_option linter.unusedVariables false
set_option linter.unusedSimpArgs false

attribute [local go_sem] Oper.semAt_some

set_option maxRecDepth 100000 in
set_option maxHeartbeats 8000000 in
theorem split_any (es : List Ev) (zs : List Int) (V A : Value) (w : World) (hE : EvArg w V es) (hA : TkArg w A zs) (hl : zs.length ≤ 1099511627776) (hn : es.length * (zs.length + 1) ≤ 1099511627775) :
    Calls Try.prog 15 #[V, A] w fun e w' => ∃ v, e = .returned v ∧ EvRow w' w.heap.size v (spl zs es) ∧ Below w.heap.size w w' := by
  have hes : es.length ≤ 1099511627775 := Nat.le_trans (Nat.le_mul_of_pos_right _ (by omega)) hn
  obtain ⟨EA, ec, rfl, hEA⟩ := hE
  have HE := Lib.hid hEA
  clear hEA
  obtain ⟨tA, tc, rfl, hTA⟩ := id hA
  clear hTA
  have HA := Lib.hid hA
  clear hA
  have hA1 : TkArg (w.alloc (.cells #[.slice tA zs.length tc] 35)) (.slice tA zs.length tc) zs := HA.out.keep (ba w _)
  have CS := Lib.hid (sorted_any w.heap.size (.slice tA zs.length tc) zs hl (w.alloc (.cells #[.slice tA zs.length tc] 35)) (by rw [World.size_alloc]; omega) ((Boxed.new w _ _).cell) hA1)
  clear hA1
  refine (callsIn_wide (n := 5)).1 ?_
  refine callsIn_of_wp_marks Try.func15 rfl trivial ?_ rfl
  simp only [Try.ntmps15, List.size_toArray, List.length_cons, List.length_nil, Nat.reduceAdd, Nat.reduceSub, Array.replicate_succ, Array.replicate_zero, List.push_toArray, List.append_toArray, List.nil_append, List.cons_append]
  gi_wp2_with (first
    | (refine ⟨trivial, ?_⟩; gi_at_call 35; go_must (refine (callsIn_wide.2 (values_any _ _ _ w)).mono ?_; rintro e w1 ⟨rfl, rfl⟩))
    | (refine ⟨trivial, ?_⟩; gi_at_call 34; go_must (refine (callsIn_wide.2 CS.out).mono ?_; rintro e w2 ⟨sv, rfl, hs2, hb2⟩; obtain ⟨SA, SN, SC, rfl, hSN⟩ := hs2.form; clear hSN; have HS2 := Lib.hid hs2; have HB2 := Lib.hid ((ba w (.cells #[.slice tA zs.length tc] 35)).trans (hb2.mono (ba w _).size)); clear hs2 hb2))
    | (refine ⟨trivial, ?_⟩; gi_at_call 33; go_must (refine (callsIn_wide.2 (compact_any _ zs _ w2 HS2.out hl)).mono ?_; rintro e w3 ⟨TV, rfl, ht3, hb3⟩; obtain ⟨TA, TN, TC, rfl, hTN⟩ := ht3.form; obtain rfl : TN = (tks zs).length := hTN; have HT3 := Lib.hid ht3; have HB3 := Lib.hid (HB2.out.trans (hb3.mono (ba w _).size)); clear ht3 hb3)))
  have bx0 := Boxed.new w3 26 (.slice none 0 0)
  have ht0 : TkRow (w3.alloc (.cells #[.slice none 0 0] 26)) w.heap.size (.slice TA (tks zs).length TC) (tks zs) := (HT3.out.alloc _).mono (ba w _).size
  have hb0 : Below w.heap.size w (w3.alloc (.cells #[.slice none 0 0] 26)) := HB3.out.alloc HB3.out.size _
  have hs0 : (w3.alloc (.cells #[.slice none 0 0] 26)).heap.size = w3.heap.size + 1 := World.size_alloc _ _
  have h60 := HB3.out.size
  have HTB := Lib.hid (fun g (e : (Value.slice TA (tks zs).length TC).ownBlock = some g) => (HT3.out.lt g e).2)
  clear HT3 HB3 HS2 HB2 CS
  generalize w3.alloc (.cells #[.slice none 0 0] 26) = W0 at *
  generalize w3.heap.size = B6 at *
  refine wpIn_loop (fun a' W => ∃ (ds : List Nat) (j : Nat) (v u8 u16 u17 u18 u19 u20 u21 u22 u23 u24 u25 u26 u27 u28 u29 u35 : Value), a' = { tmps := #[.slice EA es.length ec, .slice tA zs.length tc, undef, undef, .slice none 0 0, .slice TA (tks zs).length TC, .pointer (some ⟨B6, 0, none⟩), undef, u8, undef, .slice tA zs.length tc, .func (.func 50) #[] #[.pointer (some ⟨w.heap.size, 0, none⟩)], .slice SA SN SC, .slice TA (tks zs).length TC, .slice EA es.length ec, .int .i64 es.length, u16, u17, u18, u19, u20, u21, u22, u23, u24, u25, u26, u27, u28, u29, undef, undef, undef, undef, undef, u35, undef], defers := ds.map mkD } ∧ u16 = .int .i64 j ∧ j ≤ es.length ∧ Hid (Boxed W B6 26 v) ∧ Hid (EvRow W (B6 + 1) v (spl zs (es.take j))) ∧ Hid (TkRow W w.heap.size (.slice TA (tks zs).length TC) (tks zs)) ∧ Hid (Below w.heap.size w W) ∧ Hid (ds.Nodup ∧ ∀ D ∈ ds, B6 + 1 ≤ D ∧ W.heap[D]? = some (.deferred (some []))) ∧ (spl zs (es.take j)).length ≤ j * (zs.length + 1)) (fun a' _ => es.length - (intOf (a'.tmps.getD 16 undef)).toNat) ?start ?round
  case start => exact ⟨[], 0, _, _, _, _, _, _, _, _, _, _, _, _, _, _, _, _, _, rfl, rfl, Nat.zero_le _, Lib.hid bx0, Lib.hid (KRow.nil _ _), Lib.hid ht0, Lib.hid hb0, Lib.hid ⟨List.nodup_nil, fun D h => by cases h⟩, by simp [spl]⟩
  case round =>
    clear bx0 ht0 hb0 hs0
    rintro a' W ⟨ds, j, v, u8, u16, u17, u18, u19, u20, u21, u22, u23, u24, u25, u26, u27, u28, u29, u35, rfl, rfl, hj, HBX, HR, HTK, HB, HD, hlen⟩
    have hvc := HBX.out.cell
    by_cases hjl : j < es.length
    · obtain ⟨g, o, rfl, hg, hc⟩ := HE.out (by omega)
      obtain ⟨a0, a1, a2, a3, a4, a5, a6⟩ := arg_seven hc j hjl
      have hb := HB.out
      have f0 := (hb.cell (p := ⟨g, o + j * 7, none⟩) hg).trans a0
      have f1 := (hb.cell (p := ⟨g, o + j * 7 + 1, none⟩) hg).trans a1
      have f2 := (hb.cell (p := ⟨g, o + j * 7 + 2, none⟩) hg).trans a2
      have f3 := (hb.cell (p := ⟨g, o + j * 7 + 3, none⟩) hg).trans a3
      have f4 := (hb.cell (p := ⟨g, o + j * 7 + 4, none⟩) hg).trans a4
      have f5 := (hb.cell (p := ⟨g, o + j * 7 + 5, none⟩) hg).trans a5
      have f6 := (hb.cell (p := ⟨g, o + j * 7 + 6, none⟩) hg).trans a6
      have HM := Lib.hid (spl_take (l := zs) hjl)
      have hsl := spE_len zs es[j]
      have hll : (spl zs (es.take (j + 1))).length = (spl zs (es.take j)).length + (spE zs es[j]).length := by rw [HM.out, List.length_append]
      have hmul : (j + 1) * (zs.length + 1) ≤ es.length * (zs.length + 1) := Nat.mul_le_mul_right _ hjl
      have hmul2 : (j + 1) * (zs.length + 1) = j * (zs.length + 1) + (zs.length + 1) := by rw [Nat.add_mul, Nat.one_mul]
      have hlen2 : (spl zs (es.take (j + 1))).length ≤ (j + 1) * (zs.length + 1) := by omega
      have hlen3 : (spl zs (es.take j)).length + (zs.length + 1) ≤ 1099511627775 := by omega
      have hspe : Hid (spE zs es[j] = if plF es[j].k es[j].a ⟨es[j].d.toArray⟩ es[j].u = true then (pc zs es[j].f es[j].t).map (evP es[j].k es[j].v es[j].a ⟨es[j].d.toArray⟩ es[j].u) else [⟨es[j].k, es[j].f, es[j].t, es[j].v, es[j].a, (⟨es[j].d.toArray⟩ : ByteArray).data.toList, es[j].u⟩]) := Lib.hid rfl
      clear a0 a1 a2 a3 a4 a5 a6 hc hll hmul hmul2 hsl hlen
      generalize (⟨es[j].d.toArray⟩ : ByteArray) = x5 at *
      generalize es[j].k = x0 at *
      generalize es[j].f = x1 at *
      generalize es[j].t = x2 at *
      generalize es[j].v = x3 at *
      generalize es[j].a = x4 at *
      generalize es[j].u = x6 at *
      have HM2 : Hid (spl zs (es.take (j + 1)) = spl zs (es.take j) ++ if plF x0 x4 x5 x6 = true then (pc zs x1 x2).map (evP x0 x3 x4 x5 x6) else [⟨x0, x1, x2, x3, x4, x5.data.toList, x6⟩]) := Lib.hid (by rw [HM.out, hspe.out])
      clear HM hspe
      have CIq := Lib.hid (plain_xy x0 x1 x2 x3 x4 x5 x6 (W.alloc (.cells (evA x0 x1 x2 x3 x4 x5 x6) 48)))
      have RA0 := Lib.hid (RowAt.new W 48 (evA x0 x1 x2 x3 x4 x5 x6))
      have hb1 := ba W (.cells (evA x0 x1 x2 x3 x4 x5 x6) 48)
      have BX1 := Lib.hid (HBX.out.alloc (.cells (evA x0 x1 x2 x3 x4 x5 x6) 48))
      have HR1 := Lib.hid (HR.out.alloc (.cells (evA x0 x1 x2 x3 x4 x5 x6) 48))
      have h6W := HBX.out.lt
      obtain ⟨UA, UN, UC, rfl, hUN⟩ := HR.out.form
      have hrb : ∀ q, (Value.slice UA UN UC).ownBlock = some q → B6 + 1 ≤ q ∧ q < W.heap.size := HR.out.lt
      have HRB := Lib.hid hrb
      clear hrb hUN
      refine wpIn_wide.2 ?_
      by_cases hp : plF x0 x4 x5 x6 = true
      case neg =>
        have HM3 : Hid (spl zs (es.take (j + 1)) = spl zs (es.take j) ++ [⟨x0, x1, x2, x3, x4, x5.data.toList, x6⟩]) := Lib.hid (by rw [HM2.out, if_neg hp])
        rw [Bool.not_eq_true] at hp
        rw [hp] at CIq
        clear HM2
        go_wp2_with (first
          | (go_at_call 36; go_must (refine CIq.out.mono ?_; rintro e1 w1 ⟨rfl, b1⟩; have RA1 := RA0.out.keep b1; obtain ⟨d0, d1, d2, d3, d4, d5, d6, z1, z2⟩ := RA1.seven; have HR2 := Lib.hid (HR1.out.keep b1); have BX2 : Hid (Boxed w1 B6 26 (.slice UA UN UC)) := Lib.hid ((b1.block B6 BX1.out.lt).trans BX1.out); have hv1 := BX2.out.cell; have B1 := Lib.hid (hb.trans ((hb1.trans (b1.mono hb1.size)).mono hb.size)); have hle1 : B6 + 1 ≤ w1.heap.size := BX2.out.lt; have hW1 := b1.size))
          | (at_builtin; go_must (refine wpList_append_ev3 rfl _ _ rfl rfl rfl rfl (by simp only [World.size_alloc]) HR2.out hle1 (by omega) ?_; intro v5 w5 R5 b5 n5 l5; obtain ⟨A5, N5, C5, rfl, hN5⟩ := R5.form; clear hN5; have BX5 : Hid (Boxed w5 B6 26 (.slice UA UN UC)) := Lib.hid ((n5 B6 BX2.out.lt (fun e => by have := (HRB.out B6 e.symm).1; omega)).trans BX2.out); have hv5 := BX5.out.cell; have hz5 := BX5.out.frozen)))
        have hkeep : ∀ q, q < W.heap.size → q ≠ B6 → (Value.slice UA UN UC).ownBlock ≠ some q → (w5.setCell ⟨B6, 0, none⟩ (.slice A5 N5 C5)).heap[q]? = W.heap[q]? := fun q hq e1 e2 =>
          (Below.heap_setCell w5 ⟨B6, 0, none⟩ _ q e1).trans ((n5 q (by rw [World.size_alloc] at hW1; omega) (fun e => e2 e.symm)).trans ((b1.block q (by rw [World.size_alloc]; omega)).trans (Below.heap_alloc W _ q hq)))
        have hn6 : (Value.slice A5 N5 C5).ownBlock ≠ some B6 := fun e => by have := (R5.lt _ e).1; omega
        refine ⟨⟨ds, j + 1, .slice A5 N5 C5, _, _, _, _, _, _, _, _, _, _, _, _, _, _, _, _, rfl, val_int (by omega), by omega, Lib.hid (BX5.out.set _), Lib.hid (by rw [HM3.out]; exact R5.other ⟨B6, 0, none⟩ _ hn6), Lib.hid (krow_to HTK.out fun q e => ?_), Lib.hid (Below.setCell (p := ⟨B6, 0, none⟩) (B1.out.trans (b5.mono (by omega))) h60 _), Lib.hid ⟨HD.out.1, fun D hD => ?_⟩, hlen2⟩, by simp [intOf]; omega⟩
        · have hq := HTB.out q e
          exact hkeep q (by omega) (by omega) (fun e2 => by have := (HRB.out q e2).1; omega)
        · obtain ⟨h1, h2⟩ := HD.out.2 D hD
          refine ⟨h1, (hkeep D (Array.getElem?_eq_some_iff.1 h2).1 (by omega) (fun e2 => ?_)).trans h2⟩
          obtain ⟨cs, hcs⟩ := krow_own HR.out e2
          have := rowAt_cells hcs h2
          cases this
      have HM3 : Hid (spl zs (es.take (j + 1)) = spl zs (es.take j) ++ (pc zs x1 x2).map (evP x0 x3 x4 x5 x6)) := Lib.hid (by rw [HM2.out, if_pos hp])
      rw [hp] at CIq
      clear HM2
      go_wp2_with (first
        | (go_at_call 36; go_must (refine CIq.out.mono ?_; rintro e1 w1 ⟨rfl, b1⟩; have RA1 := RA0.out.keep b1; obtain ⟨d0, d1, d2, d3, d4, d5, d6, z1, z2⟩ := RA1.seven))
        | (go_at_call 37; go_must (refine (pieces_any x0 x1 x2 x3 x4 x5 x6 TA (tks zs).length TC w1).mono ?_; rintro e2 w2 ⟨rfl, rfl⟩)))
      have e1 : RowAt ((w1.alloc (.cells (evA x0 x1 x2 x3 x4 x5 x6) 48)).alloc (.cells #[.slice TA (tks zs).length TC] 35)) w1.heap.size 48 (evA x0 x1 x2 x3 x4 x5 x6) := (RowAt.new w1 _ _).alloc _
      have e2 : RowAt ((w1.alloc (.cells (evA x0 x1 x2 x3 x4 x5 x6) 48)).alloc (.cells #[.slice TA (tks zs).length TC] 35)) (w1.heap.size + 1) 35 #[.slice TA (tks zs).length TC] := RowAt.at (World.size_alloc _ _).symm
      have hsp : ((w1.alloc (.cells (evA x0 x1 x2 x3 x4 x5 x6) 48)).alloc (.cells #[.slice TA (tks zs).length TC] 35)).heap.size = w1.heap.size + 1 + 1 := by simp only [World.size_alloc]
      have hkp : ∀ q, q < W.heap.size → ((w1.alloc (.cells (evA x0 x1 x2 x3 x4 x5 x6) 48)).alloc (.cells #[.slice TA (tks zs).length TC] 35)).heap[q]? = W.heap[q]? := fun q hq => by
        have h1 := b1.size
        rw [World.size_alloc] at h1
        exact (Below.heap_alloc _ _ q (by rw [World.size_alloc]; omega)).trans ((Below.heap_alloc _ _ q (by omega)).trans ((b1.block q (by rw [World.size_alloc]; omega)).trans (Below.heap_alloc W _ q hq)))
      have hbp : Below w.heap.size w ((w1.alloc (.cells (evA x0 x1 x2 x3 x4 x5 x6) 48)).alloc (.cells #[.slice TA (tks zs).length TC] 35)) := by
        have h1 : Below w.heap.size w w1 := hb.trans ((hb1.trans (b1.mono hb1.size)).mono hb.size)
        exact (h1.alloc h1.size _).alloc (by rw [World.size_alloc]; have := h1.size; omega) _
      have hw1 : W.heap.size ≤ w1.heap.size := by have h1 := b1.size; rw [World.size_alloc] at h1; omega
      generalize (w1.alloc (.cells (evA x0 x1 x2 x3 x4 x5 x6) 48)).alloc (.cells #[.slice TA (tks zs).length TC] 35) = Wp at *
      have HSP := Lib.hid hsp
      clear hsp
      refine (wpIn_wide (n := 5)).1 ?_
      refine range_at rfl (enters_of Try.func52 (by kernel_rfl) rfl) fun fn rec hrec => ?_
      have HREC := Lib.hid hrec
      clear hrec
      have hol : ∀ q, q < Wp.heap.size → ((Wp.alloc (.deferred (some []))).alloc (.loop (rec .ready))).heap[q]? = Wp.heap[q]? := fun q hq => (Below.heap_alloc _ _ q (by rw [World.size_alloc]; omega)).trans (Below.heap_alloc _ _ q hq)
      have hD1 : ((Wp.alloc (.deferred (some []))).alloc (.loop (rec .ready))).heap[Wp.heap.size]? = some (.deferred (some [])) := (Below.heap_alloc _ _ _ (by rw [World.size_alloc]; omega)).trans (World.alloc_heap_new Wp _)
      have hL1 : ((Wp.alloc (.deferred (some []))).alloc (.loop (rec .ready))).heap[Wp.heap.size + 1]? = some (.loop (rec .ready)) := by have := World.alloc_heap_new (Wp.alloc (.deferred (some []))) (.loop (rec .ready)); rwa [World.size_alloc] at this
      have hb2 : Below w.heap.size w ((Wp.alloc (.deferred (some []))).alloc (.loop (rec .ready))) := (hbp.alloc hbp.size _).alloc (by rw [World.size_alloc]; have := hbp.size; omega) _
      generalize (Wp.alloc (.deferred (some []))).alloc (.loop (rec .ready)) = W1 at *
      have hk1 : ∀ q, q < W.heap.size → W1.heap[q]? = W.heap[q]? := fun q hq => (hol q (by rw [HSP.out]; omega)).trans (hkp q hq)
      have bxa : Boxed W1 B6 26 (.slice UA UN UC) := (hk1 B6 h6W).trans HBX.out
      have hra : EvRow W1 (B6 + 1) (.slice UA UN UC) (spl zs (es.take j)) := krow_to HR.out fun q e => hk1 q (HRB.out q e).2
      have hta : TkRow W1 w.heap.size (.slice TA (tks zs).length TC) (tks zs) := krow_to HTK.out fun q e => hk1 q (by have := HTB.out q e; omega)
      have hE1 : RowAt W1 w1.heap.size 48 (evA x0 x1 x2 x3 x4 x5 x6) := (hol _ (by rw [HSP.out]; omega)).trans e1
      have hT1 : RowAt W1 (w1.heap.size + 1) 35 #[.slice TA (tks zs).length TC] := (hol _ (by rw [HSP.out]; omega)).trans e2
      have hwW := hb.size
      have hSW : W.heap.size ≤ Wp.heap.size := by rw [HSP.out]; omega
      have hnu : ∀ u, Boxed W1 B6 26 u → ∀ q, u.ownBlock = some q → B6 + 1 ≤ q ∧ q < W.heap.size := fun u hu q e => by
        have := boxed_one hu bxa
        subst this
        exact HRB.out q e
      refine (pieces1_in 4 (by omega) (Wp.heap.size + 1) (w1.heap.size + 1) w1.heap.size w.heap.size zs (.slice TA (tks zs).length TC) x0 x1 x2 x3 x4 x5 x6 hl (spJ w (B6 + 1) B6 (spl zs (es.take j)) W1) (spS w B6) (sp_rnd w (B6 + 1) B6 _ W1 h60 (by omega)) ?hY W1 hT1 hE1
        ⟨by omega, by omega, ⟨_, _, hT1⟩, fun u hu e => by have := (hnu u hu _ e).2; omega⟩ ⟨by omega, by omega, ⟨_, _, hE1⟩, fun u hu e => by have := (hnu u hu _ e).2; omega⟩ hta
        (fun q e => ⟨(hta.lt q e).1, fun e3 => by have := HTB.out q e; omega, (krow_own hta e).imp fun cs h => ⟨_, h⟩, fun u hu e3 => by have := (hnu u hu _ e3).1; have := HTB.out q e; omega⟩)
        ⟨_, bxa, by rw [List.append_nil]; exact hra, fun b o h _ => h, hb2⟩).mono ?post
      case hY =>
        rintro pre f t Wr ⟨v, j1, j2, j3, j4⟩ hpre
        have hLr := j3 _ _ hL1 rfl
        have hrec := HREC.out
        clear HREC
        subst hrec
        refine round_at hLr rfl ?_
        gi_wp2
        obtain ⟨VA, VN, VC, rfl, hVN⟩ := j2.form
        clear hVN
        have hll := (Array.getElem?_eq_some_iff.1 hLr).1
        refine ⟨(Below.heap_alloc _ _ _ hll).trans hLr, fun W2 HW2 => ?_⟩
        have hW2 := HW2.out
        have hsp2 : W2.heap.size = Wr.heap.size + 1 := by rw [hW2, World.putObj_size, World.size_alloc]
        have hpl : ((spl zs (es.take j)) ++ pre).length ≤ 1099511627776 := by rw [List.length_append]; omega
        have hpp : RowAt W2 Wr.heap.size 48 (evA x0 f t x3 x4 x5 x6) := by
          rw [hW2]
          exact (World.putObj_heap_other (by omega)).trans (RowAt.new Wr _ _)
        clear hW2
        have PRE := Lib.hid (fun (w5 : World) v' hg hr ho => sp_round w (B6 + 1) B6 (Wp.heap.size + 1) (spl zs (es.take j)) pre (evP x0 x3 x4 x5 x6 (f, t)) W1 Wr W2 w5 _ _ (evA x0 f t x3 x4 x5 x6) (.slice VA VN VC) v' h60 (by omega) (by omega) hL1 j1 j2 j3 j4 HW2.out hg hr ho)
        obtain ⟨p0, p1, p2, p3, p4, p5, p6, _, _⟩ := hpp.seven
        have hvr : ∀ q, (Value.slice VA VN VC).ownBlock = some q → B6 + 1 ≤ q ∧ q < Wr.heap.size := j2.lt
        have hlr : (Value.slice VA VN VC).ownBlock ≠ some (Wp.heap.size + 1) := fun e => by
          obtain ⟨cs, hcs⟩ := krow_own j2 e
          have := rowAt_cells hcs hLr
          cases this
        have hk2 : ∀ q, q < Wr.heap.size → q ≠ Wp.heap.size + 1 → W2.heap[q]? = Wr.heap[q]? := fun q hq e => by
          rw [HW2.out]
          exact (World.putObj_heap_other e).trans (Below.heap_alloc Wr _ q hq)
        have BV2 : Hid (Boxed W2 B6 26 (.slice VA VN VC)) := Lib.hid ((hk2 B6 j1.lt (by omega)).trans j1)
        have RV2 : Hid (EvRow W2 (B6 + 1) (.slice VA VN VC) (spl zs (es.take j) ++ pre)) := Lib.hid (krow_to j2 fun q e => hk2 q (hvr q e).2 (fun e2 => hlr (by rw [e, e2])))
        have hv2 := BV2.out.cell
        have hle2 : B6 + 1 ≤ W2.heap.size := BV2.out.lt
        clear hk2 hlr hvr hpp hsp2 hll hLr
        gi_wp2_with (gi_at_builtin; go_must (refine wpListIn_append_ev rfl _ _ rfl rfl rfl rfl rfl RV2.out hle2 hpl ?_; intro v5 w5 R5 g5 l5; obtain ⟨_, _, b5, ll5, J5, K5⟩ := PRE.out w5 v5 g5 R5 l5; obtain ⟨A5, N5, C5, rfl, hN5⟩ := R5.form; clear hN5; have hv5 := b5.cell; have hz5 := b5.frozen; have LL := Lib.hid ll5; have JJ := Lib.hid J5; have KK := Lib.hid K5; clear ll5 J5 K5 b5))
        first | exact ⟨rfl, LL.out, rfl, JJ.out, KK.out⟩ | exact ⟨LL.out, JJ.out, KK.out⟩ | exact ⟨LL.out, rfl, JJ.out, KK.out⟩
      case post =>
        rintro e W9 ⟨hv, ⟨v9, k1, k2, k3, k4⟩, k5⟩
        refine ⟨hv, k3 _ _ hL1 rfl, ?_⟩
        go_wp2
        have hLw := k3 _ _ hL1 rfl
        have hDw := k3 _ _ hD1 rfl
        have hpo : ∀ q, q ≠ Wp.heap.size + 1 → (W9.putObj (Wp.heap.size + 1) (.loop (rec .exhausted))).heap[q]? = W9.heap[q]? := fun q e => World.putObj_heap_other e
        have hnl : v9.ownBlock ≠ some (Wp.heap.size + 1) := fun e => by
          obtain ⟨cs, hcs⟩ := krow_own k2 e
          have := rowAt_cells hcs hLw
          cases this
        refine ⟨⟨Wp.heap.size :: ds, j + 1, v9, _, _, ⟨⟨rfl, rfl⟩, rfl⟩, val_int (by omega), by omega, Lib.hid ((hpo B6 (by omega)).trans k1), Lib.hid (by rw [HM3.out]; exact krow_to k2 fun q e => hpo q (fun e2 => hnl (by rw [e, e2]))), Lib.hid (krow_to hta fun q e => (hpo q (by have := HTB.out q e; omega)).trans (k5 q e)), Lib.hid (k4.grown (grownBy_putObj' W9 _ _) k4.size (fun k e => by cases e; omega)), Lib.hid ⟨List.nodup_cons.2 ⟨fun hm => ?_, HD.out.1⟩, fun D hD => ?_⟩, hlen2⟩, by simp [intOf]; omega⟩
        · have := (Array.getElem?_eq_some_iff.1 (HD.out.2 _ hm).2).1
          omega
        · rcases List.mem_cons.1 hD with rfl | hD
          · exact ⟨by omega, (hpo _ (by omega)).trans hDw⟩
          · obtain ⟨h1, h2⟩ := HD.out.2 D hD
            have h3 := (Array.getElem?_eq_some_iff.1 h2).1
            exact ⟨h1, (hpo D (by omega)).trans (k3 D _ ((hk1 D h3).trans h2) rfl)⟩
    · have he : es.take j = es := List.take_of_length_le (by omega)
      rw [he] at HR
      clear he
      obtain ⟨RA, RN, RC, rfl, hRN⟩ := HR.out.form
      clear hRN
      have hjj : decide ((j : Int) < (es.length : Int)) = false := decide_eq_false (by omega)
      gi_wp2
      refine leaves_marks (B6 + 1) (fun W' => EvRow W' (B6 + 1) (.slice RA RN RC) (spl zs es) ∧ Below w.heap.size w W') (fun W' D h hB6 hD => ⟨krow_kept h.1 (grownBy_putObj' W' D _) (fun r e => by cases e; exact ⟨_, hD, rfl⟩), h.2.grown (grownBy_putObj' W' D _) h.2.size (fun k e => by cases e; omega)⟩) (fun W' h => ?_) ds W HD.out.1 HD.out.2 ⟨HR.out, HB.out⟩
      exact ⟨_, results_tmp rfl _ _ _, .slice RA RN RC, rfl, h.1.mono (by omega), h.2⟩

end Go.Proofs.Ytcodoakfomddfaa
