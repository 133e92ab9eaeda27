/-
  Layer 17: the law of the two conventions.
  Layer 17: the law of the two conventions, both for valid and for invalid configurations.
  Layer 17: the law of a level divided into two.
  Layer 17: the law of a level divided into two, for all arguments.
-/
import Derived.Test.YtmbeaagpjpphhaaZ28
import Derived.Test.YtmbeaagpjpphhaaZ29
import Derived.Test.YtmbeaagpjpphhaaZ09
import Derived.Test.YtmbeaagpjpphhaaZ12
import Derived.Test.YtmbeaagpjpphhaaZ23
import Derived.Deep.RegionHeld3
import Derived.Test.YtmbeaagpjpphhaaZ14
namespace Go.Proofs.Ytmbeaagpjpphhaa
open Go Go.RowKit Go.Joins
open Sw (Rn RnRow RnArg rnC lg)
set_option linter.unusedVariables false
set_option linter.unusedSimpArgs false

theorem heldI {W0 W w : World} {b3 b7 : Nat} {z : Bool} {N D : Int} (h : (W.cell? ⟨b3, 0, none⟩ = some (.int .i64 N) ∧ W.cell? ⟨b3, 1, none⟩ = some (.int .i64 D) ∧ W.cell? ⟨b3, 2, none⟩ = some (.bool z)) ∧ (W.cell? ⟨b7, 0, none⟩ = some (.int .i64 N) ∧ W.cell? ⟨b7, 1, none⟩ = some (.int .i64 D) ∧ W.cell? ⟨b7, 2, none⟩ = some (.bool (!z))) ∧ b3 < W.heap.size ∧ b7 < W.heap.size ∧ Below W0.heap.size W0 W) (hb : Below W.heap.size W w) : (w.cell? ⟨b3, 0, none⟩ = some (.int .i64 N) ∧ w.cell? ⟨b3, 1, none⟩ = some (.int .i64 D) ∧ w.cell? ⟨b3, 2, none⟩ = some (.bool z)) ∧ (w.cell? ⟨b7, 0, none⟩ = some (.int .i64 N) ∧ w.cell? ⟨b7, 1, none⟩ = some (.int .i64 D) ∧ w.cell? ⟨b7, 2, none⟩ = some (.bool (!z))) ∧ b3 < w.heap.size ∧ b7 < w.heap.size ∧ Below W0.heap.size W0 w := by
  obtain ⟨⟨a0, a1, a2⟩, ⟨c0, c1, c2⟩, l0, l1, B⟩ := h
  have hs := hb.size
  exact ⟨⟨(hb.cell l0).trans a0, (hb.cell l0).trans a1, (hb.cell l0).trans a2⟩, ⟨(hb.cell l1).trans c0, (hb.cell l1).trans c1, (hb.cell l1).trans c2⟩, by omega, by omega, B.trans (hb.mono B.size)⟩
theorem ilL_snoc {l : List Ev} {j : Nat} (hj : j < l.length) : (l.take (j + 1)).map ilE = (l.take j).map ilE ++ [ilE l[j]] := by
  rw [List.take_succ_eq_append_getElem hj, List.map_append]
  rfl
set_option maxRecDepth 20000 in
set_option maxHeartbeats 4000000 in
theorem law_inv17_of (N D : Int) (z : Bool) (l : List Ev) (items : List It) (V VI : Value) (w : World) (hT : EvArg w V l) (hTI : ItArg w VI items) (hl : l.length ≤ 2000) (LD : List Ev) (hLD : LD.length ≤ 1099511627776) (E : Int) (R : List Rn) (hv : Sw.ivV R = Sw.iv R) (hRl : R.length ≤ 1099511627776)
    (CD1 : ∀ V W, EvArg W V l → Calls Try.prog 42 #[.agg (manA N D z), V] W fun r w' => ∃ V', r = .returned V' ∧ EvRow w' W.heap.size V' LD ∧ Below W.heap.size W w')
    (CD2 : ∀ V W, EvArg W V (l.map ilE) → Calls Try.prog 42 #[.agg (manA N D (!z)), V] W fun r w' => ∃ V', r = .returned V' ∧ EvRow w' W.heap.size V' LD ∧ Below W.heap.size W w')
    (CE1 : ∀ W, ItArg W VI items → Calls Try.prog 38 #[.agg (manA N D z), VI] W fun e w' => ∃ V', e = .returned (.tuple #[V', .int .i64 E]) ∧ RnRow w' W.heap.size V' R ∧ Below W.heap.size W w')
    (CE2 : ∀ W, ItArg W VI items → Calls Try.prog 38 #[.agg (manA N D (!z)), VI] W fun e w' => ∃ V', e = .returned (.tuple #[V', .int .i64 E]) ∧ RnRow w' W.heap.size V' (Sw.iv R) ∧ Below W.heap.size W w') :
    Calls Try.prog 14 #[.agg (manA N D z), V, VI] w fun e w' => e = .returned (.bool true) ∧ Below w.heap.size w w' := by
  have C1 := Lib.hid CD1; have C2 := Lib.hid CD2; have C3 := Lib.hid CE1; have C4 := Lib.hid CE2
  have CA := Lib.hid awake17_any
  have HTI := Lib.hid (fun W (hb : Below w.heap.size w W) => hTI.keep hb)
  have HTE := Lib.hid (fun W (hb : Below w.heap.size w W) => hT.keep hb)
  obtain ⟨A, c, rfl, hA⟩ := hT
  have HA := Lib.hid hA
  obtain ⟨AI, cI, rfl, hAI⟩ := hTI
  have hl' : (l.length : Int) ≤ 2000 := by omega
  clear hA hAI CD1 CD2 CE1 CE2
  obtain ⟨X, b3, b7, eX, e3, e7, l37, l7, r3, r7, BX⟩ : ∃ X b3 b7, X = (w.alloc (.cells (manA N D z) 59)).alloc (.cells #[.int .i64 N, .int .i64 D, .bool !z] 59) ∧ b3 = w.heap.size ∧ b7 = w.heap.size + 1 ∧ b3 < b7 ∧ b7 < X.heap.size ∧ RowAt X b3 59 (manA N D z) ∧ RowAt X b7 59 (manA N D (!z)) ∧ Below w.heap.size w X := by
    refine ⟨_, _, _, rfl, rfl, rfl, by omega, by simp only [World.size_alloc]; omega, (RowAt.new w _ _).alloc _, RowAt.at (by simp only [World.size_alloc]), (ba w _).trans ((ba _ _).mono (by simp only [World.size_alloc]; omega))⟩
  have HX := Lib.hid BX; have H3 := Lib.hid r3; have H7 := Lib.hid r7
  clear BX r3 r7
  go_enter Try.func14, Try.ntmps14
  go_wp2_with (first
    | (rw [← eX, ← e7, ← e3]; clear eX e7 e3; at_make; go_must (refine wpList_room_k (n := l.length) (enc := evC) Try.underlying36 ev_info rfl _ _ rfl rfl rfl rfl (by omega) (by omega) (Nat.le_refl _) ?_; intro w1 r1 b1; have HR0 := Lib.hid r1; have HB0 := Lib.hid b1; clear r1 b1)))
  go_loopw [9, 8] (fun i r wr => ∃ (j : Nat), j ≤ l.length ∧ i = .int .i64 j ∧ Hid (EvRow wr X.heap.size r ((l.take j).map ilE)) ∧ Hid (Below X.heap.size X wr)) (fun i _ _ => l.length - (intOf i).toNat)
  case atStart => exact ⟨0, Nat.zero_le _, rfl, HR0, HB0⟩
  case round =>
    obtain ⟨j, hj, rfl, HR, HB⟩ := hrel
    have hb := HB.out
    have hw : Below w.heap.size w wr := HX.out.trans (hb.mono HX.out.size)
    by_cases hjl : j < l.length
    · obtain ⟨g, o, rfl, hg, hc⟩ := HA.out (by omega)
      obtain ⟨a0, a1, a2, a3, a4, a5, a6⟩ := arg_seven hc j hjl
      have f0 := (hw.cell (p := ⟨g, o + j * 7, none⟩) hg).trans a0
      have f1 := (hw.cell (p := ⟨g, o + j * 7 + 1, none⟩) hg).trans a1
      have f2 := (hw.cell (p := ⟨g, o + j * 7 + 2, none⟩) hg).trans a2
      have f3 := (hw.cell (p := ⟨g, o + j * 7 + 3, none⟩) hg).trans a3
      have f4 := (hw.cell (p := ⟨g, o + j * 7 + 4, none⟩) hg).trans a4
      have f5 := (hw.cell (p := ⟨g, o + j * 7 + 5, none⟩) hg).trans a5
      have f6 := (hw.cell (p := ⟨g, o + j * 7 + 6, none⟩) hg).trans a6
      have HS := Lib.hid (ilL_snoc hjl)
      have HE : Hid (ilE l[j] = if ilP l[j].k l[j].v = true then ⟨l[j].k, l[j].f, l[j].t, 1 - l[j].v, l[j].a, l[j].d, l[j].u⟩ else ⟨l[j].k, l[j].f, l[j].t, l[j].v, l[j].a, l[j].d, l[j].u⟩) := Lib.hid rfl
      have hlen : ((l.take j).map ilE).length = j := by rw [List.length_map, List.length_take]; omega
      clear a0 a1 a2 a3 a4 a5 a6 hc
      generalize ilE l[j] = ne at *
      generalize (l.take j).map ilE = L at *
      generalize l[j].d = xd at *
      generalize l[j].k = x0 at *
      generalize l[j].f = x1 at *
      generalize l[j].t = x2 at *
      generalize l[j].v = x3 at *
      generalize l[j].a = x4 at *
      generalize l[j].u = x6 at *
      obtain ⟨RA, RN, RC, rfl, hRN⟩ := HR.out.form
      clear hRN
      have hR1 := Lib.hid (fun o => HR.out.alloc o)
      have hB1 := Lib.hid (fun o => hb.alloc hb.size o)
      by_cases hp : ilP x0 x3 = true
      · obtain rfl : ne = ⟨x0, x1, x2, 1 - x3, x4, xd, x6⟩ := by rw [HE.out, if_pos hp]
        have hp1 : x0 = 1 := ((ilP_iff _ _).1 hp).1
        have hp2 : x3 = 0 ∨ x3 = 1 := ((ilP_iff _ _).1 hp).2
        subst hp1
        clear hp HE
        rcases hp2 with rfl | rfl
        · go_wp2_with (at_builtin; go_must (refine wpList_append_k (P := Try.prog) Try.underlying36 ev_info rfl (by omega) evC_size rfl _ _ rfl (⟨1, x1, x2, 1 - 0, x4, xd, x6⟩ : Ev) rfl rfl rfl (by simp only [World.size_alloc]) (hR1.out _) (by rw [World.size_alloc]; have := hb.size; omega) rfl (by omega) (by omega) ?_; intro v4 w4 r4 b4; have R4 := Lib.hid r4; have B4 := Lib.hid ((hB1.out _).trans b4); clear r4 b4))
          go_roundw
          case rel => exact ⟨j + 1, by omega, val_int (by omega), Lib.hid (by rw [HS.out]; exact R4.out), B4⟩
          case measure => simp [intOf]; omega
        · go_wp2_with (at_builtin; go_must (refine wpList_append_k (P := Try.prog) Try.underlying36 ev_info rfl (by omega) evC_size rfl _ _ rfl (⟨1, x1, x2, 1 - 1, x4, xd, x6⟩ : Ev) rfl rfl rfl (by simp only [World.size_alloc]) (hR1.out _) (by rw [World.size_alloc]; have := hb.size; omega) rfl (by omega) (by omega) ?_; intro v4 w4 r4 b4; have R4 := Lib.hid r4; have B4 := Lib.hid ((hB1.out _).trans b4); clear r4 b4))
          go_roundw
          case rel => exact ⟨j + 1, by omega, val_int (by omega), Lib.hid (by rw [HS.out]; exact R4.out), B4⟩
          case measure => simp [intOf]; omega
      · obtain rfl : ne = ⟨x0, x1, x2, x3, x4, xd, x6⟩ := by rw [HE.out, if_neg hp]
        have hq : ¬ (x0 = 1 ∧ (x3 = 0 ∨ x3 = 1)) := fun h => hp ((ilP_iff _ _).2 h)
        clear hp HE
        by_cases h2 : x0 = 1
        · subst h2
          have h3 : (x3 == 0) = false := by rw [beq_eq_false_iff_ne]; intro e; exact hq ⟨rfl, .inl e⟩
          have h4 : (x3 == 1) = false := by rw [beq_eq_false_iff_ne]; intro e; exact hq ⟨rfl, .inr e⟩
          clear hq
          go_wp2_with (at_builtin; go_must (refine wpList_append_k (P := Try.prog) Try.underlying36 ev_info rfl (by omega) evC_size rfl _ _ rfl (⟨1, x1, x2, x3, x4, xd, x6⟩ : Ev) rfl rfl rfl (by simp only [World.size_alloc]) (hR1.out _) (by rw [World.size_alloc]; have := hb.size; omega) rfl (by omega) (by omega) ?_; intro v4 w4 r4 b4; have R4 := Lib.hid r4; have B4 := Lib.hid ((hB1.out _).trans b4); clear r4 b4))
          go_roundw
          case rel => exact ⟨j + 1, by omega, val_int (by omega), Lib.hid (by rw [HS.out]; exact R4.out), B4⟩
          case measure => simp [intOf]; omega
        · have h3 : (x0 == 1) = false := by simpa using h2
          clear hq h2
          go_wp2_with (at_builtin; go_must (refine wpList_append_k (P := Try.prog) Try.underlying36 ev_info rfl (by omega) evC_size rfl _ _ rfl (⟨x0, x1, x2, x3, x4, xd, x6⟩ : Ev) rfl rfl rfl (by simp only [World.size_alloc]) (hR1.out _) (by rw [World.size_alloc]; have := hb.size; omega) rfl (by omega) (by omega) ?_; intro v4 w4 r4 b4; have R4 := Lib.hid r4; have B4 := Lib.hid ((hB1.out _).trans b4); clear r4 b4))
          go_roundw
          case rel => exact ⟨j + 1, by omega, val_int (by omega), Lib.hid (by rw [HS.out]; exact R4.out), B4⟩
          case measure => simp [intOf]; omega
    · have he : l.take j = l := List.take_of_length_le (by omega)
      rw [he] at HR
      obtain ⟨RA, RN, RC, rfl, hRN⟩ := HR.out.form
      clear hRN
      have Z3 := Lib.hid (H3.out.keep hb); have Z7 := Lib.hid (H7.out.keep hb)
      have m3 : b3 < wr.heap.size := Z3.out.lt
      have m7 : b7 < wr.heap.size := Z7.out.lt
      obtain ⟨z0, z1, z2⟩ := row3 Z3.out
      obtain ⟨y0, y1, y2⟩ := row3 Z7.out
      have hR2 : (Sw.iv R).length ≤ 1099511627776 := by unfold Sw.iv; rw [List.length_map]; exact hRl
      have CMR := Lib.hid (fun V V' W h1 h2 => Sw.same_any (Sw.iv R) V V' W h1 h2 hR2)
      have CM := Lib.hid (fun V V' W h1 h2 => same_any LD V V' W h1 h2 hLD)
      have CI := Lib.hid (fun V W h => by have := Sw.refInvert_any R V W h; rw [hv] at this; exact this)
      clear he hv hR2 HA
      generalize Sw.iv R = RI at *
      go_wp2_with (first
        | (go_at_call 38; first
            | (have tok := Q4.out; clear tok; go_must (refine (C4.out _ (HTI.out _ B4.out)).mono ?_; rintro e5 w5 ⟨V5, rfl, v5, k5⟩; obtain ⟨A5, M5, C5', rfl, hM5⟩ := v5.form; clear hM5; have Q5 := Lib.hid v5; have Q45 := Lib.hid (Q4.out.keep k5); have B5 := Lib.hid (B4.out.trans (k5.mono B4.out.size)); have Z35 := Lib.hid (Z34.out.keep k5); have Z75 := Lib.hid (Z74.out.keep k5); have HR5 := Lib.hid (HR4.out.keep k5); obtain ⟨z0, z1, z2⟩ := row3 Z35.out; obtain ⟨y0, y1, y2⟩ := row3 Z75.out; have m35 := Z35.out.lt; have m75 := Z75.out.lt))
            | (go_must (refine (C3.out _ (HTI.out _ hw)).mono ?_; rintro e4 w4 ⟨V4, rfl, v4, k4⟩; obtain ⟨A4, M4, C4', rfl, hM4⟩ := v4.form; clear hM4; have Q4 := Lib.hid v4; have B4 := Lib.hid (hw.trans (k4.mono hw.size)); have Z34 := Lib.hid (Z3.out.keep k4); have Z74 := Lib.hid (Z7.out.keep k4); have HR4 := Lib.hid (HR.out.keep k4); obtain ⟨z0, z1, z2⟩ := row3 Z34.out; obtain ⟨y0, y1, y2⟩ := row3 Z74.out; have m34 := Z34.out.lt; have m74 := Z74.out.lt))))
      have HS5 : Hid ((w5.cell? ⟨b3, 0, none⟩ = some (.int .i64 N) ∧ w5.cell? ⟨b3, 1, none⟩ = some (.int .i64 D) ∧ w5.cell? ⟨b3, 2, none⟩ = some (.bool z)) ∧ (w5.cell? ⟨b7, 0, none⟩ = some (.int .i64 N) ∧ w5.cell? ⟨b7, 1, none⟩ = some (.int .i64 D) ∧ w5.cell? ⟨b7, 2, none⟩ = some (.bool (!z))) ∧ b3 < w5.heap.size ∧ b7 < w5.heap.size ∧ Below w5.heap.size w5 w5) := Lib.hid ⟨row3 Z35.out, row3 Z75.out, m35, m75, Below.refl _ _⟩
      have HT5 := Lib.hid (fun W (hb : Below w5.heap.size w5 W) => HTE.out W (B5.out.trans (hb.mono B5.out.size)))
      have HM5 := Lib.hid (fun W (hb : Below w5.heap.size w5 W) => (HR5.out.keep hb).arg evC_size)
      have HQ4 := Lib.hid (fun W (hb : Below w5.heap.size w5 W) => (Q45.out.keep hb).arg Sw.rnC_size)
      have HQ5 := Lib.hid (fun W (hb : Below w5.heap.size w5 W) => (Q5.out.keep hb).arg Sw.rnC_size)
      clear v4 v5 k4 k5 HR HR4 HR5 Q4 Q45 Q5 Z3 Z7 Z34 Z74 Z35 Z75 HTI HTE C3 C4 H3 H7 HX HB hb hw B4 m3 m7 m34 m74
      go_region_held3 (fun w' => (w'.cell? ⟨b3, 0, none⟩ = some (.int .i64 N) ∧ w'.cell? ⟨b3, 1, none⟩ = some (.int .i64 D) ∧ w'.cell? ⟨b3, 2, none⟩ = some (.bool z)) ∧ (w'.cell? ⟨b7, 0, none⟩ = some (.int .i64 N) ∧ w'.cell? ⟨b7, 1, none⟩ = some (.int .i64 D) ∧ w'.cell? ⟨b7, 2, none⟩ = some (.bool (!z))) ∧ b3 < w'.heap.size ∧ b7 < w'.heap.size ∧ Below w5.heap.size w5 w') (first | with_reducible assumption | with_reducible exact heldI HS5.out (Below.refl _ _).drew | fail)
        (first
          | (go_at_call 42; first
              | (have tok := v6; clear tok; refine (C2.out _ _ (HM5.out _ (And.right (And.right (And.right (And.right (by with_reducible assumption))))))).mono ?_; rintro e7 w7 ⟨V7, rfl, v7, k7⟩; have h7 := heldI (by with_reducible assumption) k7; have A6' := KArg.keep (KRow.arg evC_size v6) k7)
              | (refine (C1.out _ _ (HT5.out _ (And.right (And.right (And.right (And.right (by with_reducible assumption))))))).mono ?_; rintro e6 w6 ⟨V6, rfl, v6, k6⟩; have h6 := heldI (by with_reducible assumption) k6))
          | (go_at_call 45; refine (CM.out _ _ _ A6' (KRow.arg evC_size v7)).mono ?_; rintro e8 w8 ⟨rfl, k8⟩; have h8 := heldI (by with_reducible assumption) k8)
          | (go_at_call 52; refine (CI.out _ _ (HQ4.out _ (And.right (And.right (And.right (And.right (by with_reducible assumption))))))).mono ?_; rintro e9 w9 ⟨V9, rfl, v9, k9⟩; have h9 := heldI (by with_reducible assumption) k9)
          | (go_at_call 48; refine (CMR.out _ _ _ (KRow.arg Sw.rnC_size v9) (HQ5.out _ (And.right (And.right (And.right (And.right (by with_reducible assumption))))))).mono ?_; rintro e10 w10 ⟨rfl, k10⟩; have h10 := heldI (by with_reducible assumption) k10)
          | (go_at_call 36; refine (CA.out _).mono ?_; rintro e11 w11 ⟨rfl, k11⟩; have h11 := heldI (by with_reducible assumption) k11))
      all_goals
        rename_i hS9
        have B9 := Lib.hid (B5.out.trans (hS9.2.2.2.2.mono B5.out.size))
        clear hS9
        go_wp2
        go_returns
        exact ⟨rfl, B9.out⟩

end Go.Proofs.Ytmbeaagpjpphhaa

namespace Go.Proofs.Ytmbeaagpjpphhaa
open Go Go.RowKit Go.Joins
open Sw (Rn RnRow RnArg rnC lg)
set_option linter.unusedVariables false
set_option linter.unusedSimpArgs false

set_option maxRecDepth 20000 in
set_option maxHeartbeats 4000000 in
theorem inv_long17 (N D : Int) (z : Bool) (l : List Ev) (V VI : Value) (w : World) (hT : EvArg w V l) (hl : 2000 < l.length) (hl' : l.length ≤ 140737488351232) :
    Calls Try.prog 14 #[.agg (manA N D z), V, VI] w fun e w' => e = .returned (.bool true) ∧ Below w.heap.size w w' := by
  have CA := Lib.hid awake17_any
  obtain ⟨A, c, rfl, hA⟩ := hT
  clear hA
  have h1 : (2000 : Int) < l.length := by omega
  go_enter Try.func14, Try.ntmps14
  go_wp2_with (go_at_call 36; go_must (refine (CA.out _).mono ?_; rintro e9 w9 ⟨rfl, k9⟩))
  go_returns
  exact ⟨rfl, (ba w _).trans (k9.mono (by simp only [World.size_alloc]; omega))⟩

theorem law_inv17 (N D : Int) (z : Bool) (l : List Ev) (items : List It) (V VI : Value) (w : World) (hN0 : -9223372036854775808 ≤ N) (hN1 : N ≤ 9223372036854775807) (hD0 : -9223372036854775808 ≤ D) (hD1 : D ≤ 9223372036854775807) (hT : EvArg w V l) (hl : l.length ≤ 140737488351232) (hd : ∀ j (h : j < l.length), l[j].d.length ≤ 140737488351232)
    (hTI : ItArg w VI items) (hli : items.length ≤ 140737488351232) (hdi : ∀ j (h : j < items.length), items[j].d.size ≤ 140737488351232) :
    Calls Try.prog 14 #[.agg (manA N D z), V, VI] w fun e w' => e = .returned (.bool true) ∧ Below w.heap.size w w' := by
  by_cases h2 : 2000 < l.length
  · exact inv_long17 N D z l V VI w hT h2 hl
  have h3 : l.length ≤ 2000 := by omega
  have hR : Sw.ivV (menR N D z items) = Sw.iv (menR N D z items) ∧ (menR N D z items).length ≤ 1099511627776 := by
    by_cases he : menE N D items = 0
    · have hv := (menR_ok z he).2.2.2.2.2
      obtain ⟨v1, v2, v3⟩ := (Sw.vl_iff _).1 hv
      exact ⟨by unfold Sw.ivV; rw [if_pos hv], by omega⟩
    · rw [menR_bad z he]; exact ⟨by decide, by decide⟩
  have hdm : ∀ j (h : j < (l.map ilE).length), (l.map ilE)[j].d.length ≤ 140737488351232 := fun j hj => by rw [List.getElem_map, ilE_d]; exact hd j (by simpa using hj)
  have CE2 : ∀ W, ItArg W VI items → Calls Try.prog 38 #[.agg (manA N D (!z)), VI] W fun e w' => ∃ V', e = .returned (.tuple #[V', .int .i64 (menE N D items)]) ∧ RnRow w' W.heap.size V' (Sw.iv (menR N D z items)) ∧ Below W.heap.size W w' := fun W h1 => by
    have := encode17_any N D (!z) items VI W hN0 hN1 hD0 hD1 h1 hli hdi
    rw [menR_il] at this
    exact this
  by_cases hk : ckE N D = 0
  · have h := ck_bt hk
    have hlen := mnR_len z N D l
    refine law_inv17_of N D z l items V VI w hT hTI h3 (mnR z N D l).o (by omega) (menE N D items) (menR N D z items) hR.1 hR.2 ?_ ?_ (fun W h1 => encode17_any N D z items VI W hN0 hN1 hD0 hD1 h1 hli hdi) CE2
    · intro V W h1; exact manDecode_any N D z l V W h1 h hk (by omega) hd
    · intro V W h1
      have := manDecode_any N D (!z) (l.map ilE) V W h1 h hk (by rw [List.length_map]; omega) hdm
      rw [mnR_il] at this
      exact this
  · refine law_inv17_of N D z l items V VI w hT hTI h3 [] (by simp) (menE N D items) (menR N D z items) hR.1 hR.2 ?_ ?_ (fun W h1 => encode17_any N D z items VI W hN0 hN1 hD0 hD1 h1 hli hdi) CE2
    · intro V W h1
      have := badDecode_any N D z l V W h1 hN0 hN1 hD0 hD1 hk (by omega) hd
      rw [bdP_zero] at this; exact this
    · intro V W h1
      have := badDecode_any N D (!z) (l.map ilE) V W h1 hN0 hN1 hD0 hD1 hk (by rw [List.length_map]; omega) hdm
      rw [bdP_zero] at this; exact this

end Go.Proofs.Ytmbeaagpjpphhaa

namespace Go.Proofs.Ytmbeaagpjpphhaa
open Go Go.RowKit Go.Joins
set_option linter.unusedVariables false
set_option linter.unusedSimpArgs false

theorem evs_take {w : World} {A : Option Addr} {c c' n : Nat} {l : List Ev} (h : EvArg w (.slice A l.length c) l) (hn : n ≤ l.length) : EvArg w (.slice A n c') (l.take n) := by
  obtain ⟨A', c2, e, hA⟩ := h
  simp only [Value.slice.injEq] at e
  obtain ⟨rfl, _, rfl⟩ := e
  have hl : (l.take n).length = n := by rw [List.length_take]; omega
  refine ⟨A, c', by rw [hl], fun h0 => ?_⟩
  obtain ⟨g, o, e, hg, hc⟩ := hA (by omega)
  exact ⟨g, o, e, hg, fun j hj i hi => by rw [List.getElem_take]; exact hc j (by omega) i hi⟩
theorem evs_drop {w : World} {g o c c' n m : Nat} {l : List Ev} (h : EvArg w (.slice (some ⟨g, o, none⟩) l.length c) l) (hn : n ≤ l.length) (hm : m = l.length - n) : EvArg w (.slice (some ⟨g, o + n * 7, none⟩) m c') (l.drop n) := by
  subst hm
  obtain ⟨A', c2, e, hA⟩ := h
  simp only [Value.slice.injEq] at e
  obtain ⟨rfl, _, rfl⟩ := e
  refine ⟨_, c', by rw [List.length_drop], fun h0 => ?_⟩
  rw [List.length_drop] at h0
  obtain ⟨g', o', e, hg, hc⟩ := hA (by omega)
  simp only [Option.some.injEq, Addr.mk.injEq, and_true] at e
  obtain ⟨rfl, rfl⟩ := e
  refine ⟨_, _, rfl, hg, fun j hj i hi => ?_⟩
  rw [List.length_drop] at hj
  have := hc (n + j) (by omega) i hi
  rw [List.getElem_drop, ← this, show o + n * 7 + j * 7 + i = o + (n + j) * 7 + i by omega]
theorem evs_no {w : World} {A : Option Addr} {c m : Nat} {l : List Ev} (h : l = []) (hm : m = 0) : EvArg w (.slice A m c) l := by subst h hm; exact ⟨A, c, rfl, fun h => absurd h (by simp)⟩

theorem three_at (w : World) (x a b : Array Value) : ∃ X p q r, X = ((w.alloc (.cells x 44)).alloc (.cells a 44)).alloc (.cells b 44) ∧ r = w.heap.size + 1 + 1 ∧ q = w.heap.size + 1 ∧ p = w.heap.size ∧ p < q ∧ q < r ∧ r < X.heap.size ∧ RowAt X q 44 a ∧ RowAt X r 44 b ∧ Below w.heap.size w X := by
  refine ⟨_, _, _, _, rfl, rfl, rfl, rfl, by omega, by omega, by simp only [World.size_alloc]; omega, (RowAt.at (by simp only [World.size_alloc])).alloc _, RowAt.at (by simp only [World.size_alloc]), ?_⟩
  exact (ba w _).trans (((ba _ _).trans ((ba _ _).mono (by simp only [World.size_alloc]; omega))).mono (by simp only [World.size_alloc]; omega))

set_option maxRecDepth 20000 in
set_option maxHeartbeats 4000000 in
/-- Nothing is divided. -/
theorem pieces_not (N D : Int) (z : Bool) (l : List Ev) (V : Value) (x y : Int) (w : World) (hT : EvArg w V l) (hl : l.length ≤ 140737488351232) (hd : ∀ j (h : j < l.length), l[j].d.length ≤ 140737488351232) (hx0 : -9223372036854775808 ≤ x) (hx1 : x ≤ 9223372036854775807)
    (hh : 2000 < l.length ∨ x < 0 ∨ (l.length : Int) ≤ x ∨ ¬ ChG l) :
    Calls Try.prog 13 #[.agg (manA N D z), V, .int .i64 x, .int .i64 y] w fun e w' => e = .returned (.bool true) ∧ Below w.heap.size w w' := by
  have CA := Lib.hid awake17_any
  have hV : Hid (∀ W, Below w.heap.size w W → EvArg W V l) := Lib.hid fun W hb => hT.keep hb
  have hform := hT
  obtain ⟨A, c, rfl, hA⟩ := hform
  clear hA
  have hl' : (l.length : Int) ≤ 140737488351232 := by omega
  by_cases h1 : 2000 < l.length
  · have h1' : (2000 : Int) < l.length := by omega
    clear hh
    go_enter Try.func13, Try.ntmps13
    go_wp2_with (go_at_call 36; go_must (refine (CA.out _).mono ?_; rintro e9 w9 ⟨rfl, k9⟩))
    go_returns
    exact ⟨rfl, (ba w _).trans (k9.mono (by simp only [World.size_alloc]; omega))⟩
  have d1 : decide ((2000 : Int) < l.length) = false := decide_eq_false (by omega)
  have d1' : decide (2000 < l.length) = false := decide_eq_false h1
  by_cases h2 : x < 0
  · have d2 : decide (x < 0) = true := decide_eq_true h2
    clear hh
    go_enter Try.func13, Try.ntmps13
    go_wp2_with (go_at_call 36; go_must (refine (CA.out _).mono ?_; rintro e9 w9 ⟨rfl, k9⟩))
    go_returns
    exact ⟨rfl, (ba w _).trans (k9.mono (by simp only [World.size_alloc]; omega))⟩
  have d2 : decide (x < 0) = false := decide_eq_false h2
  by_cases h3 : (l.length : Int) ≤ x
  · have d3 : decide ((l.length : Int) ≤ x) = true := decide_eq_true h3
    clear hh
    go_enter Try.func13, Try.ntmps13
    go_wp2_with (go_at_call 36; go_must (refine (CA.out _).mono ?_; rintro e9 w9 ⟨rfl, k9⟩))
    go_returns
    exact ⟨rfl, (ba w _).trans (k9.mono (by simp only [World.size_alloc]; omega))⟩
  have d3 : decide ((l.length : Int) ≤ x) = false := decide_eq_false h3
  have hG : ¬ ChG l := by
    rcases hh with h | h | h | h
    · exact absurd h h1
    · exact absurd h h2
    · exact absurd h h3
    · exact h
  have CC := Lib.hid (fun V W h => chain_any l V W h hl hd false (fun h => absurd h hG) (fun _ => rfl))
  have hVW := Lib.hid (hV.out _ (ba w (.cells (manA N D z) 59)))
  clear hh hG h1 h2 h3 hd hT
  go_enter Try.func13, Try.ntmps13
  go_wp2_with (first
    | (go_at_call 51; go_must (refine (CC.out _ _ hVW.out).mono ?_; rintro e8 w8 ⟨rfl, k8⟩))
    | (go_at_call 36; go_must (refine (CA.out _).mono ?_; rintro e9 w9 ⟨rfl, k9⟩))
    | fail)
  go_returns
  have kk := (ba w (.cells (manA N D z) 59)).trans (k8.mono (by simp only [World.size_alloc]; omega))
  exact ⟨rfl, kk.trans (k9.mono kk.size)⟩

set_option maxRecDepth 20000 in
set_option maxHeartbeats 4000000 in
theorem pieces_main (N D : Int) (z : Bool) (l : List Ev) (A : Option Addr) (c : Nat) (n : Nat) (y : Int) (w : World) (hT : EvArg w (.slice A l.length c) l) (hc : l.length ≤ c) (hl : l.length ≤ 2000) (hd : ∀ j (h : j < l.length), l[j].d.length ≤ 140737488351232) (hn : n < l.length) (hG : ChG l)
    (LD : List Ev) (hLD : LD.length ≤ 1099511627776)
    (CD1 : (h1 : l[n].f < y) → (h2 : y < l[n].t) → ∀ V W, EvArg W V (l.take n ++ [⟨l[n].k, l[n].f, y, l[n].v, l[n].a, l[n].d, l[n].u⟩, ⟨l[n].k, y, l[n].t, l[n].v, l[n].a, l[n].d, l[n].u⟩] ++ l.drop (n + 1)) → Calls Try.prog 42 #[.agg (manA N D z), V] W fun r w' => ∃ V', r = .returned V' ∧ EvRow w' W.heap.size V' LD ∧ Below W.heap.size W w')
    (CD2 : ∀ V W, EvArg W V l → Calls Try.prog 42 #[.agg (manA N D z), V] W fun r w' => ∃ V', r = .returned V' ∧ EvRow w' W.heap.size V' LD ∧ Below W.heap.size W w') :
    Calls Try.prog 13 #[.agg (manA N D z), .slice A l.length c, .int .i64 n, .int .i64 y] w fun e w' => e = .returned (.bool true) ∧ Below w.heap.size w w' := by
  have CA := Lib.hid awake17_any
  have hV : Hid (∀ W, Below w.heap.size w W → EvArg W (.slice A l.length c) l) := Lib.hid fun W hb => hT.keep hb
  have CC := Lib.hid (fun V W h => chain_any l V W h (by omega) hd true (fun _ => rfl) (fun h => absurd hG h))
  have C2 := Lib.hid CD2
  have CM := Lib.hid (fun V V' W h1 h2 => same_any LD V V' W h1 h2 hLD)
  obtain ⟨g, o, hA⟩ : ∃ g o, A = some ⟨g, o, none⟩ ∧ g < w.heap.size ∧ ∀ j (hj : j < l.length) i, i < 7 → w.cell? ⟨g, o + j * 7 + i, none⟩ = (evC l[j])[i]? := by
    obtain ⟨A', c', e, hA⟩ := hT
    simp only [Value.slice.injEq] at e
    obtain ⟨rfl, _, _⟩ := e
    exact hA (by omega)
  obtain ⟨rfl, hg, hcell⟩ := hA
  obtain ⟨W, b4, eW, e4, l4, r4, B0⟩ := one_enc w N D z
  have HB0 := Lib.hid B0; have H4 := Lib.hid r4
  obtain ⟨z0, z1, z2⟩ := row3 r4
  obtain ⟨a0, a1, a2, a3, a4, a5, a6⟩ := arg_seven hcell n hn
  have HX := Lib.hid (fun W (hB : Below w.heap.size w W) => And.intro ((hB.cell (p := ⟨g, o + n * 7, none⟩) hg).trans a0) (And.intro ((hB.cell (p := ⟨g, o + n * 7 + 1, none⟩) hg).trans a1) (And.intro ((hB.cell (p := ⟨g, o + n * 7 + 2, none⟩) hg).trans a2) (And.intro ((hB.cell (p := ⟨g, o + n * 7 + 3, none⟩) hg).trans a3) (And.intro ((hB.cell (p := ⟨g, o + n * 7 + 4, none⟩) hg).trans a4) (And.intro ((hB.cell (p := ⟨g, o + n * 7 + 5, none⟩) hg).trans a5) ((hB.cell (p := ⟨g, o + n * 7 + 6, none⟩) hg).trans a6)))))))
  have hl' : (l.length : Int) ≤ 2000 := by omega
  have d1 : decide ((2000 : Int) < l.length) = false := decide_eq_false (by omega)
  have d1' : decide (2000 < l.length) = false := decide_eq_false (by omega)
  have d2 : decide ((n : Int) < 0) = false := decide_eq_false (by omega)
  have d3 : decide ((l.length : Int) ≤ n) = false := decide_eq_false (by omega)
  have d3' : decide (l.length ≤ n) = false := decide_eq_false (by omega)
  have i0 : (0 : Int) ≤ n := by omega
  have i1 : (n : Int) < l.length := by omega
  have HD1 := Lib.hid CD1
  clear CD1 CD2 hG hT a0 a1 a2 a3 a4 a5 a6 hcell r4 B0 hd
  have HPT : Hid (∀ (x0 x1 x2 x3 x4 x6 : Int) (x5 : ByteArray), True) := Lib.hid fun _ _ _ _ _ _ _ => trivial
  generalize l[n].k = x0 at *
  generalize l[n].f = x1 at *
  generalize l[n].t = x2 at *
  generalize l[n].v = x3 at *
  generalize l[n].a = x4 at *
  obtain ⟨d5, hd5⟩ : ∃ d, d = l[n].d := ⟨_, rfl⟩
  rw [← hd5] at HX HD1
  clear hd5
  generalize l[n].u = x6 at *
  by_cases h1 : y ≤ x1
  · have e1 : decide (y ≤ x1) = true := decide_eq_true h1
    clear HD1
    go_enter Try.func13, Try.ntmps13
    go_wp2_with (first
      | (rw [← eW, ← e4]; clear eW e4; go_at_call 51; go_must (refine (CC.out _ _ (hV.out _ HB0.out)).mono ?_; rintro e8 w8 ⟨rfl, k8⟩; have B8 := Lib.hid (HB0.out.trans (k8.mono HB0.out.size)); obtain ⟨f0, f1, f2, f3, f4, f5, f6⟩ := HX.out _ B8.out))
      | (go_at_call 36; go_must (refine (CA.out _).mono ?_; rintro e9 w9 ⟨rfl, k9⟩))
      | fail)
    go_returns
    exact ⟨rfl, (B8.out.alloc B8.out.size _).trans (k9.mono (B8.out.alloc B8.out.size _).size)⟩
  have e1 : decide (y ≤ x1) = false := decide_eq_false h1
  by_cases h2 : x2 ≤ y
  · have e2 : decide (x2 ≤ y) = true := decide_eq_true h2
    clear HD1
    go_enter Try.func13, Try.ntmps13
    go_wp2_with (first
      | (rw [← eW, ← e4]; clear eW e4; go_at_call 51; go_must (refine (CC.out _ _ (hV.out _ HB0.out)).mono ?_; rintro e8 w8 ⟨rfl, k8⟩; have B8 := Lib.hid (HB0.out.trans (k8.mono HB0.out.size)); obtain ⟨f0, f1, f2, f3, f4, f5, f6⟩ := HX.out _ B8.out))
      | (go_at_call 36; go_must (refine (CA.out _).mono ?_; rintro e9 w9 ⟨rfl, k9⟩))
      | fail)
    go_returns
    exact ⟨rfl, (B8.out.alloc B8.out.size _).trans (k9.mono (B8.out.alloc B8.out.size _).size)⟩
  have e2 : decide (x2 ≤ y) = false := decide_eq_false h2
  have CP := Lib.hid (HD1.out (by omega) (by omega))
  have w1 : IntKind.i64.wrap ((l.length : Int) + 1) = (l.length : Int) + 1 := IntWalk.i64_in _ (by omega)
  have w2 : IntKind.i64.wrap ((n : Int) + 1) = (n : Int) + 1 := IntWalk.i64_in _ (by omega)
  have t1 : (n : Int) + 1 ≤ l.length := by omega
  have t2 : (n : Int) ≤ c := by omega
  have t3 : (l.length : Int) ≤ c := by omega
  clear HD1 h1 h2
  by_cases hcn : c = n + 1
  · have hcn' : (c = n + 1) = True := eq_true hcn
    have HLN := Lib.hid (show l.length ≤ n + 1 by omega)
    clear hcn
    go_enter Try.func13, Try.ntmps13
    go_wp2_with (first
      | (rw [← eW, ← e4]; clear eW e4; go_at_call 51; go_must (refine (CC.out _ _ (hV.out _ HB0.out)).mono ?_; rintro e8 w8 ⟨rfl, k8⟩; have B8 := Lib.hid (HB0.out.trans (k8.mono HB0.out.size)); have R8 := Lib.hid (H4.out.keep k8); obtain ⟨f0, f1, f2, f3, f4, f5, f6⟩ := HX.out _ B8.out))
      | (at_make; obtain ⟨X, p, q, r, eX, er, eq, ep, hpq, hqr, hrX, RQ, RR, BX⟩ := three_at w8 (evA x0 x1 x2 x3 x4 ⟨d5.toArray⟩ x6) (evA x0 x1 y x3 x4 ⟨d5.toArray⟩ x6) (evA x0 y x2 x3 x4 ⟨d5.toArray⟩ x6); rw [← eX, ← er, ← eq, ← ep]; clear eX er eq ep; have HX0 := Lib.hid (B8.out.trans (BX.mono B8.out.size)); have RX4 := Lib.hid (R8.out.keep BX); go_must (refine wpList_room_k (n := l.length + 1) (enc := evC) Try.underlying36 ev_info rfl _ _ rfl rfl rfl (by omega) (by omega) (by omega) (Nat.le_refl _) ?_; intro w9 r9 b9; have R9 := Lib.hid r9; have HB9 := Lib.hid b9; have HQ9 := Lib.hid (RQ.keep b9); have HR9 := Lib.hid (RR.keep b9); have HW9 := Lib.hid (HX0.out.trans (b9.mono HX0.out.size)); clear r9 b9))
      | (at_builtin; first
          | (have tok := R11; go_must (refine wpList_append_arg Try.underlying36 ev_info rfl (by omega) evC_size ev_one rfl _ _ rfl rfl rfl (Y := l.drop (n + 1)) R11.out (evs_no (List.drop_of_length_le HLN.out) (by have := HLN.out; omega)) (by have := HB11.out.size; omega) (by simp only [List.length_append, List.length_cons, List.length_nil, List.length_take, List.length_drop]; omega) (by simp only [List.length_append, List.length_cons, List.length_nil, List.length_take, List.length_drop]; omega) ?_; intro v12 w12 r12 b12; obtain ⟨A12, N12, C12, rfl, hN12⟩ := r12.form; clear hN12; have R12 := Lib.hid r12; have HB12 := Lib.hid (HB11.out.trans b12); clear r12 b12))
          | (have tok := R10; go_must (refine wpList_append_arg Try.underlying36 ev_info rfl (by omega) evC_size ev_one rfl _ _ rfl rfl rfl (R10.out.alloc _) ((KRow.lit (T := 44) evC_size w10 X.heap.size HB10.out.size [(⟨x0, x1, y, x3, x4, d5, x6⟩ : Ev), ⟨x0, y, x2, x3, x4, d5, x6⟩] _ (by simp [kCs, evC]) 2 rfl (by simp)).arg evC_size) (by have := HB10.out.size; rw [World.size_alloc]; omega) (by simp only [List.length_append, List.length_cons, List.length_nil, List.length_take]; omega) (by simp only [List.length_append, List.length_cons, List.length_nil, List.length_take]; omega) ?_; intro v11 w11 r11 b11; obtain ⟨A11, N11, C11, rfl, hN11⟩ := r11.form; clear hN11; have R11 := Lib.hid r11; have HB11 := Lib.hid ((HB10.out.alloc HB10.out.size _).trans b11); clear r11 b11))
          | (go_must (refine wpList_append_arg Try.underlying36 ev_info rfl (by omega) evC_size ev_one rfl _ _ rfl rfl rfl R9.out (evs_take (hV.out _ HW9.out) (by omega)) HB9.out.size (by simp only [List.length_append, List.length_cons, List.length_nil, List.length_take]; omega) (by simp only [List.length_append, List.length_cons, List.length_nil, List.length_take]; omega) ?_; intro v10 w10 r10 b10; obtain ⟨A10, N10, C10, rfl, hN10⟩ := r10.form; clear hN10; have R10 := Lib.hid r10; have HB10 := Lib.hid (HB9.out.trans b10); obtain ⟨⟨q0, q1, q2, q3, q4, q5, q6⟩, q7⟩ := row7 (RQ.keep HB10.out); obtain ⟨⟨s0, s1, s2, s3, s4, s5, s6⟩, s7⟩ := row7 (RR.keep HB10.out); clear r10 b10)))
      | fail)
    have X12 : Hid (∀ W, Below w12.heap.size w12 W → EvArg W (.slice A12 N12 C12) (l.take n ++ [⟨x0, x1, y, x3, x4, d5, x6⟩, ⟨x0, y, x2, x3, x4, d5, x6⟩] ++ l.drop (n + 1))) := Lib.hid fun W hb => (KRow.keep R12.out hb).arg evC_size
    have W12 : Hid (Below w.heap.size w w12) := Lib.hid (HX0.out.trans (HB12.out.mono HX0.out.size))
    have Z12 := Lib.hid (RX4.out.keep HB12.out)
    have HW : Hid ((w12.cell? ⟨b4, 0, none⟩ = some (.int .i64 N) ∧ w12.cell? ⟨b4, 1, none⟩ = some (.int .i64 D) ∧ w12.cell? ⟨b4, 2, none⟩ = some (.bool z)) ∧ b4 < w12.heap.size ∧ Below w12.heap.size w12 w12) := Lib.hid ⟨row3 Z12.out, Z12.out.lt, Below.refl _ _⟩
    clear R12 HB12 R11 HB11 R10 HB10 R9 HB9 HX0 HW9 HQ9 HR9 RQ RR BX hpq hqr hrX q0 q1 q2 q3 q4 q5 q6 q7 s0 s1 s2 s3 s4 s5 s6 s7 f0 f1 f2 f3 f4 f5 f6 z0 z1 z2 k8 HX
    go_region_held3 (fun w' => (w'.cell? ⟨b4, 0, none⟩ = some (.int .i64 N) ∧ w'.cell? ⟨b4, 1, none⟩ = some (.int .i64 D) ∧ w'.cell? ⟨b4, 2, none⟩ = some (.bool z)) ∧ b4 < w'.heap.size ∧ Below w12.heap.size w12 w') (first | with_reducible assumption | with_reducible exact heldX HW.out (Below.refl _ _).drew | fail)
      (first
        | (go_at_call 42; first
            | (have tok := v6; clear tok; refine (C2.out _ _ (hV.out _ (W12.out.trans ((And.right (And.right h6)).mono W12.out.size)))).mono ?_; rintro e7 w7 ⟨V7, rfl, v7, k7⟩; have h7 := heldX h6 k7; have A6' := KArg.keep (KRow.arg evC_size v6) k7)
            | (refine (CP.out _ _ (X12.out _ (And.right (And.right (by with_reducible assumption))))).mono ?_; rintro e6 w6 ⟨V6, rfl, v6, k6⟩; have h6 := heldX (by with_reducible assumption) k6))
        | (go_at_call 45; refine (CM.out _ _ _ A6' (KRow.arg evC_size v7)).mono ?_; rintro e8' w8' ⟨rfl, k8'⟩; have h8 := heldX h7 k8')
        | (go_at_call 36; refine (CA.out _).mono ?_; rintro e11 w11' ⟨rfl, k11⟩; have h11 := heldX h8 k11)
        | fail)
    all_goals
      rename_i hS9
      have B9 := Lib.hid (W12.out.trans (hS9.2.2.mono W12.out.size))
      clear hS9
      go_wp2
      go_returns
      exact ⟨rfl, B9.out⟩
  · have hcn' : (c = n + 1) = False := eq_false hcn
    clear hcn
    go_enter Try.func13, Try.ntmps13
    go_wp2_with (first
      | (rw [← eW, ← e4]; clear eW e4; go_at_call 51; go_must (refine (CC.out _ _ (hV.out _ HB0.out)).mono ?_; rintro e8 w8 ⟨rfl, k8⟩; have B8 := Lib.hid (HB0.out.trans (k8.mono HB0.out.size)); have R8 := Lib.hid (H4.out.keep k8); obtain ⟨f0, f1, f2, f3, f4, f5, f6⟩ := HX.out _ B8.out))
      | (at_make; obtain ⟨X, p, q, r, eX, er, eq, ep, hpq, hqr, hrX, RQ, RR, BX⟩ := three_at w8 (evA x0 x1 x2 x3 x4 ⟨d5.toArray⟩ x6) (evA x0 x1 y x3 x4 ⟨d5.toArray⟩ x6) (evA x0 y x2 x3 x4 ⟨d5.toArray⟩ x6); rw [← eX, ← er, ← eq, ← ep]; clear eX er eq ep; have HX0 := Lib.hid (B8.out.trans (BX.mono B8.out.size)); have RX4 := Lib.hid (R8.out.keep BX); go_must (refine wpList_room_k (n := l.length + 1) (enc := evC) Try.underlying36 ev_info rfl _ _ rfl rfl rfl (by omega) (by omega) (by omega) (Nat.le_refl _) ?_; intro w9 r9 b9; have R9 := Lib.hid r9; have HB9 := Lib.hid b9; have HQ9 := Lib.hid (RQ.keep b9); have HR9 := Lib.hid (RR.keep b9); have HW9 := Lib.hid (HX0.out.trans (b9.mono HX0.out.size)); clear r9 b9))
      | (at_builtin; first
          | (have tok := R11; go_must (refine wpList_append_arg Try.underlying36 ev_info rfl (by omega) evC_size ev_one rfl _ _ rfl rfl rfl (Y := l.drop (n + 1)) R11.out (evs_drop (hV.out _ (HX0.out.trans (HB11.out.mono HX0.out.size))) (by omega) (by omega)) (by have := HB11.out.size; omega) (by simp only [List.length_append, List.length_cons, List.length_nil, List.length_take, List.length_drop]; omega) (by simp only [List.length_append, List.length_cons, List.length_nil, List.length_take, List.length_drop]; omega) ?_; intro v12 w12 r12 b12; obtain ⟨A12, N12, C12, rfl, hN12⟩ := r12.form; clear hN12; have R12 := Lib.hid r12; have HB12 := Lib.hid (HB11.out.trans b12); clear r12 b12))
          | (have tok := R10; go_must (refine wpList_append_arg Try.underlying36 ev_info rfl (by omega) evC_size ev_one rfl _ _ rfl rfl rfl (R10.out.alloc _) ((KRow.lit (T := 44) evC_size w10 X.heap.size HB10.out.size [(⟨x0, x1, y, x3, x4, d5, x6⟩ : Ev), ⟨x0, y, x2, x3, x4, d5, x6⟩] _ (by simp [kCs, evC]) 2 rfl (by simp)).arg evC_size) (by have := HB10.out.size; rw [World.size_alloc]; omega) (by simp only [List.length_append, List.length_cons, List.length_nil, List.length_take]; omega) (by simp only [List.length_append, List.length_cons, List.length_nil, List.length_take]; omega) ?_; intro v11 w11 r11 b11; obtain ⟨A11, N11, C11, rfl, hN11⟩ := r11.form; clear hN11; have R11 := Lib.hid r11; have HB11 := Lib.hid ((HB10.out.alloc HB10.out.size _).trans b11); clear r11 b11))
          | (go_must (refine wpList_append_arg Try.underlying36 ev_info rfl (by omega) evC_size ev_one rfl _ _ rfl rfl rfl R9.out (evs_take (hV.out _ HW9.out) (by omega)) HB9.out.size (by simp only [List.length_append, List.length_cons, List.length_nil, List.length_take]; omega) (by simp only [List.length_append, List.length_cons, List.length_nil, List.length_take]; omega) ?_; intro v10 w10 r10 b10; obtain ⟨A10, N10, C10, rfl, hN10⟩ := r10.form; clear hN10; have R10 := Lib.hid r10; have HB10 := Lib.hid (HB9.out.trans b10); obtain ⟨⟨q0, q1, q2, q3, q4, q5, q6⟩, q7⟩ := row7 (RQ.keep HB10.out); obtain ⟨⟨s0, s1, s2, s3, s4, s5, s6⟩, s7⟩ := row7 (RR.keep HB10.out); clear r10 b10)))
      | fail)
    have X12 : Hid (∀ W, Below w12.heap.size w12 W → EvArg W (.slice A12 N12 C12) (l.take n ++ [⟨x0, x1, y, x3, x4, d5, x6⟩, ⟨x0, y, x2, x3, x4, d5, x6⟩] ++ l.drop (n + 1))) := Lib.hid fun W hb => (KRow.keep R12.out hb).arg evC_size
    have W12 : Hid (Below w.heap.size w w12) := Lib.hid (HX0.out.trans (HB12.out.mono HX0.out.size))
    have Z12 := Lib.hid (RX4.out.keep HB12.out)
    have HW : Hid ((w12.cell? ⟨b4, 0, none⟩ = some (.int .i64 N) ∧ w12.cell? ⟨b4, 1, none⟩ = some (.int .i64 D) ∧ w12.cell? ⟨b4, 2, none⟩ = some (.bool z)) ∧ b4 < w12.heap.size ∧ Below w12.heap.size w12 w12) := Lib.hid ⟨row3 Z12.out, Z12.out.lt, Below.refl _ _⟩
    clear R12 HB12 R11 HB11 R10 HB10 R9 HB9 HX0 HW9 HQ9 HR9 RQ RR BX hpq hqr hrX q0 q1 q2 q3 q4 q5 q6 q7 s0 s1 s2 s3 s4 s5 s6 s7 f0 f1 f2 f3 f4 f5 f6 z0 z1 z2 k8 HX
    go_region_held3 (fun w' => (w'.cell? ⟨b4, 0, none⟩ = some (.int .i64 N) ∧ w'.cell? ⟨b4, 1, none⟩ = some (.int .i64 D) ∧ w'.cell? ⟨b4, 2, none⟩ = some (.bool z)) ∧ b4 < w'.heap.size ∧ Below w12.heap.size w12 w') (first | with_reducible assumption | with_reducible exact heldX HW.out (Below.refl _ _).drew | fail)
      (first
        | (go_at_call 42; first
            | (have tok := v6; clear tok; refine (C2.out _ _ (hV.out _ (W12.out.trans ((And.right (And.right h6)).mono W12.out.size)))).mono ?_; rintro e7 w7 ⟨V7, rfl, v7, k7⟩; have h7 := heldX h6 k7; have A6' := KArg.keep (KRow.arg evC_size v6) k7)
            | (refine (CP.out _ _ (X12.out _ (And.right (And.right (by with_reducible assumption))))).mono ?_; rintro e6 w6 ⟨V6, rfl, v6, k6⟩; have h6 := heldX (by with_reducible assumption) k6))
        | (go_at_call 45; refine (CM.out _ _ _ A6' (KRow.arg evC_size v7)).mono ?_; rintro e8' w8' ⟨rfl, k8'⟩; have h8 := heldX h7 k8')
        | (go_at_call 36; refine (CA.out _).mono ?_; rintro e11 w11' ⟨rfl, k11⟩; have h11 := heldX h8 k11)
        | fail)
    all_goals
      rename_i hS9
      have B9 := Lib.hid (W12.out.trans (hS9.2.2.mono W12.out.size))
      clear hS9
      go_wp2
      go_returns
      exact ⟨rfl, B9.out⟩

end Go.Proofs.Ytmbeaagpjpphhaa

namespace Go.Proofs.Ytmbeaagpjpphhaa
open Go Go.RowKit Go.Joins
set_option linter.unusedVariables false

theorem law_pieces17 (N D : Int) (z : Bool) (l : List Ev) (V : Value) (x y : Int) (w : World) (hN0 : -9223372036854775808 ≤ N) (hN1 : N ≤ 9223372036854775807) (hD0 : -9223372036854775808 ≤ D) (hD1 : D ≤ 9223372036854775807) (hx0 : -9223372036854775808 ≤ x) (hx1 : x ≤ 9223372036854775807) (hT : EvArg w V l) (hcap : ∀ A n c, V = .slice A n c → n ≤ c) (hl : l.length ≤ 140737488351232) (hd : ∀ j (h : j < l.length), l[j].d.length ≤ 140737488351232) :
    Calls Try.prog 13 #[.agg (manA N D z), V, .int .i64 x, .int .i64 y] w fun e w' => e = .returned (.bool true) ∧ Below w.heap.size w w' := by
  by_cases hh : 2000 < l.length ∨ x < 0 ∨ (l.length : Int) ≤ x ∨ ¬ ChG l
  · exact pieces_not N D z l V x y w hT hl hd hx0 hx1 hh
  have g1 : l.length ≤ 2000 := Nat.le_of_not_lt fun h => hh (.inl h)
  have g2 : 0 ≤ x := Int.not_lt.1 fun h => hh (.inr (.inl h))
  have g3 : x < l.length := Int.not_le.1 fun h => hh (.inr (.inr (.inl h)))
  have hG : ChG l := Classical.not_not.1 fun h => hh (.inr (.inr (.inr h)))
  obtain ⟨n, rfl⟩ := Int.eq_ofNat_of_zero_le g2
  have hn : n < l.length := by omega
  have hform := hT
  obtain ⟨A, c, rfl, _⟩ := hform
  have hc := hcap _ _ _ rfl
  have hdp : ∀ j (h : j < (l.take n ++ [(⟨l[n].k, l[n].f, y, l[n].v, l[n].a, l[n].d, l[n].u⟩ : Ev), ⟨l[n].k, y, l[n].t, l[n].v, l[n].a, l[n].d, l[n].u⟩] ++ l.drop (n + 1)).length), (l.take n ++ [(⟨l[n].k, l[n].f, y, l[n].v, l[n].a, l[n].d, l[n].u⟩ : Ev), ⟨l[n].k, y, l[n].t, l[n].v, l[n].a, l[n].d, l[n].u⟩] ++ l.drop (n + 1))[j].d.length ≤ 140737488351232 := by
    have hall : ∀ e ∈ l, e.d.length ≤ 140737488351232 := by
      intro e he
      obtain ⟨j, hj, rfl⟩ := List.mem_iff_getElem.1 he
      exact hd j hj
    have hall' : ∀ e ∈ (l.take n ++ [(⟨l[n].k, l[n].f, y, l[n].v, l[n].a, l[n].d, l[n].u⟩ : Ev), ⟨l[n].k, y, l[n].t, l[n].v, l[n].a, l[n].d, l[n].u⟩] ++ l.drop (n + 1)), e.d.length ≤ 140737488351232 := by
      intro e he
      rcases List.mem_append.1 he with he | he
      · rcases List.mem_append.1 he with he | he
        · exact hall e (List.mem_of_mem_take he)
        · simp only [List.mem_cons, List.not_mem_nil, or_false] at he
          rcases he with rfl | rfl
          · exact hd n hn
          · exact hd n hn
      · exact hall e (List.mem_of_mem_drop he)
    intro j hj
    exact hall' _ (List.getElem_mem hj)
  have hpl : (l.take n ++ [(⟨l[n].k, l[n].f, y, l[n].v, l[n].a, l[n].d, l[n].u⟩ : Ev), ⟨l[n].k, y, l[n].t, l[n].v, l[n].a, l[n].d, l[n].u⟩] ++ l.drop (n + 1)).length ≤ 1099511627776 := by
    simp only [List.length_append, List.length_cons, List.length_nil, List.length_take, List.length_drop]; omega
  by_cases hk : ckE N D = 0
  · have h := ck_bt hk
    have hlen := mnR_len z N D l
    refine pieces_main N D z l A c n y w hT hc g1 hd hn hG (mnR z N D l).o (by omega) ?_ ?_
    · intro h1 h2 V W hV
      have := manDecode_any N D z _ V W hV h hk hpl hdp
      rw [pieces_il z N D l n y hn (fun j hj => chP_e (hG.1 j hj)) hG.2 h1 h2] at this
      exact this
    · intro V W hV; exact manDecode_any N D z l V W hV h hk (by omega) hd
  · refine pieces_main N D z l A c n y w hT hc g1 hd hn hG [] (by simp) ?_ ?_
    · intro h1 h2 V W hV
      have := badDecode_any N D z _ V W hV hN0 hN1 hD0 hD1 hk hpl hdp
      rw [bdP_zero] at this; exact this
    · intro V W hV
      have := badDecode_any N D z l V W hV hN0 hN1 hD0 hD1 hk (by omega) hd
      rw [bdP_zero] at this; exact this

set_option maxRecDepth 100000 in
/-- A slice of events among the arguments: its capacity. -/
theorem evs_cap {H : Type} {enc : TypeId × Value → H} {W : World} {base : Nat} {v : Value} {d : DataW H} {p : List MemPlace} (hv : Value.okWide Try.prog W .any base 36 v) (h : DataW.Trod enc Try.prog W 0 (fun _ => true) true 36 v d p) : ∀ A n c, v = .slice A n c → n ≤ c := by
  obtain ⟨A, len, cap, rfl, hlc, _⟩ := open_rows Try.underlying36 Try.underlying44 cells_ev (by omega) hv h
  intro A' n c e
  simp only [Value.slice.injEq] at e
  omega

end Go.Proofs.Ytmbeaagpjpphhaa
