/-
  The walk of the specification's Runs.
-/
import Derived.Test.YtcodoakfomddfaaT2
namespace Go.Proofs.Ytcodoakfomddfaa
open Go Go.RowKit Go.Joins
set_option linter.unusedVariables false
set_option linter.unusedSimpArgs false

set_option maxRecDepth 20000 in
set_option maxHeartbeats 8000000 in
theorem refRuns_any (l : List Ev) (V : Value) (w : World) (hT : EvArg w V l) (hn : l.length ≤ 2199023255550) : Calls Try.prog 18 #[V] w fun e w' => ∃ v : Value, e = .returned (.tuple #[v, .int .i64 (ruE l)]) ∧ RnRow w' w.heap.size v (ruL l) ∧ Below w.heap.size w w' := by
  have CI := Lib.hid (fun k f t v a s u W => refPlain_xy k f t v a s u W)
  obtain ⟨A0, c0, rfl, hA0⟩ := hT
  have HA := Lib.hid hA0
  clear hA0
  have hE : ruE l = if 262144 < l.length then 6 else if goE 0 l = true then 0 else 1 := rfl
  have hL : ruL l = if l.length ≤ 262144 ∧ goE 0 l = true then l.map rnE else [] := rfl
  generalize ruE l = RE at *
  generalize ruL l = RL at *
  have HE := Lib.hid hE; have HL := Lib.hid hL
  clear hE hL
  by_cases hbig : 262144 < l.length
  · have hbig' : (262144 : Int) < (l.length : Int) := by omega
    obtain rfl : RE = 6 := by rw [HE.out, if_pos hbig]
    obtain rfl : RL = [] := by rw [HL.out, if_neg (by omega)]
    clear HE HL
    go_enter Try.func18, Try.ntmps18
    go_wp2
    go_returns
    exact ⟨_, rfl, KRow.nil _ _, Below.refl _ _⟩
  have hbig' : ¬ (262144 : Int) < (l.length : Int) := by omega
  replace HE : Hid (RE = if goE 0 l = true then 0 else 1) := Lib.hid (by rw [HE.out, if_neg hbig])
  replace HL : Hid (RL = if goE 0 l = true then l.map rnE else []) := Lib.hid (by rw [HL.out]; by_cases h : goE 0 l = true <;> simp [h] <;> omega)
  go_enter Try.func18, Try.ntmps18
  go_wp2_with (first
    | (at_make; go_must (refine wpList_room_k (n := l.length) (enc := rnC) Try.underlying23 run_info rfl _ _ rfl rfl rfl rfl (by omega) (by omega) (Nat.le_refl _) ?_; intro w1 R1 b1; have HR1 := Lib.hid R1; have HB1 := Lib.hid b1; clear R1 b1)))
  go_loopw [6, 4, 5] (fun i r s wr => ∃ (j : Nat) (E : Int), j ≤ l.length ∧ i = .int .i64 j ∧ s = .int .i64 E ∧ Hid (goE 0 l = goE E (l.drop j)) ∧ 0 ≤ E ∧ E ≤ 1099511627776 ∧ Hid (RnRow wr w.heap.size r ((l.take j).map rnE)) ∧ Hid (Below w.heap.size w wr)) (fun i _ _ _ => l.length - (intOf i).toNat)
  case atStart => exact ⟨0, 0, Nat.zero_le _, rfl, rfl, Lib.hid rfl, by omega, by omega, Lib.hid HR1.out, Lib.hid HB1.out⟩
  case round =>
    obtain ⟨j, E, hj, rfl, rfl, HG, hE0, hE1, HR, HB⟩ := hrel
    have hb := HB.out
    by_cases hjl : j < l.length
    · obtain ⟨g, o, rfl, hg, hc⟩ := HA.out (by omega)
      obtain ⟨a0, a1, a2, a3, a4, a5, a6⟩ := arg_seven hc j hjl
      have f0 := (hb.cell (p := ⟨g, o + j * 7, none⟩) hg).trans a0
      have f1 := (hb.cell (p := ⟨g, o + j * 7 + 1, none⟩) hg).trans a1
      have f2 := (hb.cell (p := ⟨g, o + j * 7 + 2, none⟩) hg).trans a2
      have f3 := (hb.cell (p := ⟨g, o + j * 7 + 3, none⟩) hg).trans a3
      have f4 := (hb.cell (p := ⟨g, o + j * 7 + 4, none⟩) hg).trans a4
      have f5 := (hb.cell (p := ⟨g, o + j * 7 + 5, none⟩) hg).trans a5
      have f6 := (hb.cell (p := ⟨g, o + j * 7 + 6, none⟩) hg).trans a6
      have hgo := goE_at hjl HG.out
      have hmap := Lib.hid (map_snoc hjl)
      have hir : irE l[j] = irF l[j].k l[j].f l[j].t l[j].v l[j].a ⟨l[j].d.toArray⟩ l[j].u := rfl
      rw [hir] at hgo
      clear a0 a1 a2 a3 a4 a5 a6 hc hir
      obtain ⟨W0, b0, eW0, eb0, HS⟩ := seven_at wr l[j].k l[j].f l[j].t l[j].v l[j].a ⟨l[j].d.toArray⟩ l[j].u 48
      subst eW0 eb0
      have hs := Lib.hid HS
      clear HS
      generalize (⟨l[j].d.toArray⟩ : ByteArray) = x5 at *
      generalize l[j].k = x0 at *
      generalize l[j].f = x1 at *
      generalize l[j].t = x2 at *
      generalize l[j].v = x3 at *
      generalize l[j].a = x4 at *
      generalize l[j].u = x6 at *
      have hff := irF_iff x0 x1 x2 x3 x4 x5 x6
      generalize irF x0 x1 x2 x3 x4 x5 x6 = q at *
      have CIq : Hid (∀ W, Calls Try.prog 32 #[.agg (evA x0 x1 x2 x3 x4 x5 x6)] W fun e w' => e = .returned (.bool (plF x0 x4 x5 x6)) ∧ Below W.heap.size W w') := Lib.hid fun W => CI.out _ _ _ _ _ _ _ W
      generalize plF x0 x4 x5 x6 = p at *
      have HGO := Lib.hid hgo
      clear hgo
      cases p with
      | false =>
        · have hz : goE 0 l = false := by
            rw [HGO.out]
            have hq : q = false := by
              rw [← Bool.not_eq_true, hff]; simp
            rw [hq]; simp
          obtain rfl : RE = 1 := by rw [HE.out, hz]; rfl
          obtain rfl : RL = [] := by rw [HL.out, hz]; rfl
          clear HE HL HGO hff hz HG hmap
          go_wp2_with (first
            | (go_at_call 32; go_must (refine (CIq.out _).mono ?_; rintro e1 w1 ⟨rfl, b1⟩; have h5 := Lib.hid (held_one hs.out b1); obtain ⟨d0, d1, d2, d3, d4, d5, d6, B1, l1⟩ := h5.out)))
          go_returns
          exact ⟨_, rfl, KRow.nil _ _, (by repeat' (first | with_reducible exact Below.refl _ _ | with_reducible exact Nat.le_refl _ | with_reducible assumption | with_reducible refine below_drewN ?_ _ | with_reducible refine Below.drew ?_ | with_reducible refine Below.trans ?_ (Below.mono (by assumption) ?_) | with_reducible refine Below.alloc ?_ ?_ _ | with_reducible refine Below.setCell ?_ ?_ _ | with_reducible refine le_setCell ?_ _ _ | with_reducible refine le_alloc ?_ _ | with_reducible refine le_drewN ?_ _ | with_reducible refine le_drew ?_ | with_reducible refine Nat.le_trans ?_ (Below.size (by assumption)) | (simp only [World.size_alloc, World.size_setCell]; omega)))⟩
      | true =>
        by_cases hx : x1 = E
        case neg =>
          have hz : goE 0 l = false := by rw [HGO.out]; simp [hx]
          obtain rfl : RE = 1 := by rw [HE.out, hz]; rfl
          obtain rfl : RL = [] := by rw [HL.out, hz]; rfl
          clear HE HL HGO hff hz HG hmap
          go_wp2_with (first
            | (go_at_call 32; go_must (refine (CIq.out _).mono ?_; rintro e1 w1 ⟨rfl, b1⟩; have h5 := Lib.hid (held_one hs.out b1); obtain ⟨d0, d1, d2, d3, d4, d5, d6, B1, l1⟩ := h5.out)))
          go_returns
          exact ⟨_, rfl, KRow.nil _ _, (by repeat' (first | with_reducible exact Below.refl _ _ | with_reducible exact Nat.le_refl _ | with_reducible assumption | with_reducible refine below_drewN ?_ _ | with_reducible refine Below.drew ?_ | with_reducible refine Below.trans ?_ (Below.mono (by assumption) ?_) | with_reducible refine Below.alloc ?_ ?_ _ | with_reducible refine Below.setCell ?_ ?_ _ | with_reducible refine le_setCell ?_ _ _ | with_reducible refine le_alloc ?_ _ | with_reducible refine le_drewN ?_ _ | with_reducible refine le_drew ?_ | with_reducible refine Nat.le_trans ?_ (Below.size (by assumption)) | (simp only [World.size_alloc, World.size_setCell]; omega)))⟩
        subst hx
        by_cases y1 : x2 ≤ x1
        · have hz : goE 0 l = false := by
            rw [HGO.out]
            have hq : q = false := by
              rw [← Bool.not_eq_true, hff]; rintro ⟨_, h1, h2, h3, h4⟩; omega
            rw [hq]; simp
          obtain rfl : RE = 1 := by rw [HE.out, hz]; rfl
          obtain rfl : RL = [] := by rw [HL.out, hz]; rfl
          clear HE HL HGO hff hz HG hmap
          go_wp2_with (first
            | (go_at_call 32; go_must (refine (CIq.out _).mono ?_; rintro e1 w1 ⟨rfl, b1⟩; have h5 := Lib.hid (held_one hs.out b1); obtain ⟨d0, d1, d2, d3, d4, d5, d6, B1, l1⟩ := h5.out)))
          go_returns
          exact ⟨_, rfl, KRow.nil _ _, (by repeat' (first | with_reducible exact Below.refl _ _ | with_reducible exact Nat.le_refl _ | with_reducible assumption | with_reducible refine below_drewN ?_ _ | with_reducible refine Below.drew ?_ | with_reducible refine Below.trans ?_ (Below.mono (by assumption) ?_) | with_reducible refine Below.alloc ?_ ?_ _ | with_reducible refine Below.setCell ?_ ?_ _ | with_reducible refine le_setCell ?_ _ _ | with_reducible refine le_alloc ?_ _ | with_reducible refine le_drewN ?_ _ | with_reducible refine le_drew ?_ | with_reducible refine Nat.le_trans ?_ (Below.size (by assumption)) | (simp only [World.size_alloc, World.size_setCell]; omega)))⟩
        by_cases y2 : 1099511627776 < x2
        · have hz : goE 0 l = false := by
            rw [HGO.out]
            have hq : q = false := by
              rw [← Bool.not_eq_true, hff]; rintro ⟨_, h1, h2, h3, h4⟩; omega
            rw [hq]; simp
          obtain rfl : RE = 1 := by rw [HE.out, hz]; rfl
          obtain rfl : RL = [] := by rw [HL.out, hz]; rfl
          clear HE HL HGO hff hz HG hmap
          go_wp2_with (first
            | (go_at_call 32; go_must (refine (CIq.out _).mono ?_; rintro e1 w1 ⟨rfl, b1⟩; have h5 := Lib.hid (held_one hs.out b1); obtain ⟨d0, d1, d2, d3, d4, d5, d6, B1, l1⟩ := h5.out)))
          go_returns
          exact ⟨_, rfl, KRow.nil _ _, (by repeat' (first | with_reducible exact Below.refl _ _ | with_reducible exact Nat.le_refl _ | with_reducible assumption | with_reducible refine below_drewN ?_ _ | with_reducible refine Below.drew ?_ | with_reducible refine Below.trans ?_ (Below.mono (by assumption) ?_) | with_reducible refine Below.alloc ?_ ?_ _ | with_reducible refine Below.setCell ?_ ?_ _ | with_reducible refine le_setCell ?_ _ _ | with_reducible refine le_alloc ?_ _ | with_reducible refine le_drewN ?_ _ | with_reducible refine le_drew ?_ | with_reducible refine Nat.le_trans ?_ (Below.size (by assumption)) | (simp only [World.size_alloc, World.size_setCell]; omega)))⟩
        by_cases y3 : x3 < 0
        · have hz : goE 0 l = false := by
            rw [HGO.out]
            have hq : q = false := by
              rw [← Bool.not_eq_true, hff]; rintro ⟨_, h1, h2, h3, h4⟩; omega
            rw [hq]; simp
          obtain rfl : RE = 1 := by rw [HE.out, hz]; rfl
          obtain rfl : RL = [] := by rw [HL.out, hz]; rfl
          clear HE HL HGO hff hz HG hmap
          go_wp2_with (first
            | (go_at_call 32; go_must (refine (CIq.out _).mono ?_; rintro e1 w1 ⟨rfl, b1⟩; have h5 := Lib.hid (held_one hs.out b1); obtain ⟨d0, d1, d2, d3, d4, d5, d6, B1, l1⟩ := h5.out)))
          go_returns
          exact ⟨_, rfl, KRow.nil _ _, (by repeat' (first | with_reducible exact Below.refl _ _ | with_reducible exact Nat.le_refl _ | with_reducible assumption | with_reducible refine below_drewN ?_ _ | with_reducible refine Below.drew ?_ | with_reducible refine Below.trans ?_ (Below.mono (by assumption) ?_) | with_reducible refine Below.alloc ?_ ?_ _ | with_reducible refine Below.setCell ?_ ?_ _ | with_reducible refine le_setCell ?_ _ _ | with_reducible refine le_alloc ?_ _ | with_reducible refine le_drewN ?_ _ | with_reducible refine le_drew ?_ | with_reducible refine Nat.le_trans ?_ (Below.size (by assumption)) | (simp only [World.size_alloc, World.size_setCell]; omega)))⟩
        by_cases y4 : 65535 < x3
        · have hz : goE 0 l = false := by
            rw [HGO.out]
            have hq : q = false := by
              rw [← Bool.not_eq_true, hff]; rintro ⟨_, h1, h2, h3, h4⟩; omega
            rw [hq]; simp
          obtain rfl : RE = 1 := by rw [HE.out, hz]; rfl
          obtain rfl : RL = [] := by rw [HL.out, hz]; rfl
          clear HE HL HGO hff hz HG hmap
          go_wp2_with (first
            | (go_at_call 32; go_must (refine (CIq.out _).mono ?_; rintro e1 w1 ⟨rfl, b1⟩; have h5 := Lib.hid (held_one hs.out b1); obtain ⟨d0, d1, d2, d3, d4, d5, d6, B1, l1⟩ := h5.out)))
          go_returns
          exact ⟨_, rfl, KRow.nil _ _, (by repeat' (first | with_reducible exact Below.refl _ _ | with_reducible exact Nat.le_refl _ | with_reducible assumption | with_reducible refine below_drewN ?_ _ | with_reducible refine Below.drew ?_ | with_reducible refine Below.trans ?_ (Below.mono (by assumption) ?_) | with_reducible refine Below.alloc ?_ ?_ _ | with_reducible refine Below.setCell ?_ ?_ _ | with_reducible refine le_setCell ?_ _ _ | with_reducible refine le_alloc ?_ _ | with_reducible refine le_drewN ?_ _ | with_reducible refine le_drew ?_ | with_reducible refine Nat.le_trans ?_ (Below.size (by assumption)) | (simp only [World.size_alloc, World.size_setCell]; omega)))⟩
        · have hq : q = true := hff.2 ⟨rfl, by omega, by omega, by omega, by omega⟩
          subst hq
          clear hff
          obtain ⟨UA, UN, UC, rfl, hUN⟩ := HR.out.form
          clear hUN
          go_wp2_with (first
            | (go_at_call 32; go_must (refine (CIq.out _).mono ?_; rintro e1 w1 ⟨rfl, b1⟩; have h5 := Lib.hid (held_one hs.out b1); obtain ⟨d0, d1, d2, d3, d4, d5, d6, B1, l1⟩ := h5.out; have R1 := Lib.hid ((HR.out.alloc _).keep b1)))
            | (at_builtin; go_must (refine wpList_append_ru2 rfl _ _ rfl rfl rfl rfl (by simp only [World.size_alloc]) R1.out (by repeat' (first | with_reducible exact Below.refl _ _ | with_reducible exact Nat.le_refl _ | with_reducible assumption | with_reducible refine below_drewN ?_ _ | with_reducible refine Below.drew ?_ | with_reducible refine Below.trans ?_ (Below.mono (by assumption) ?_) | with_reducible refine Below.alloc ?_ ?_ _ | with_reducible refine Below.setCell ?_ ?_ _ | with_reducible refine le_setCell ?_ _ _ | with_reducible refine le_alloc ?_ _ | with_reducible refine le_drewN ?_ _ | with_reducible refine le_drew ?_ | with_reducible refine Nat.le_trans ?_ (Below.size (by assumption)) | (simp only [World.size_alloc, World.size_setCell]; omega))) (by simp; omega) ?_; intro v5 w5 R5 b5 n5; have m5 := (kept_at n5 ⟨wr.heap.size, 2, none⟩ l1 (fun e => by have := (HR.out.lt _ e.symm).2; exact absurd this (Nat.lt_irrefl _))).trans d2)))
          go_roundw
          case rel => exact ⟨j + 1, x2, by omega, val_int (by omega), rfl, Lib.hid (by rw [HGO.out]; simp), by omega, by omega, Lib.hid (by rw [hmap.out]; exact R5), Lib.hid (by repeat' (first | with_reducible exact Below.refl _ _ | with_reducible exact Nat.le_refl _ | with_reducible assumption | with_reducible refine below_drewN ?_ _ | with_reducible refine Below.drew ?_ | with_reducible refine Below.trans ?_ (Below.mono (by assumption) ?_) | with_reducible refine Below.alloc ?_ ?_ _ | with_reducible refine Below.setCell ?_ ?_ _ | with_reducible refine le_setCell ?_ _ _ | with_reducible refine le_alloc ?_ _ | with_reducible refine le_drewN ?_ _ | with_reducible refine le_drew ?_ | with_reducible refine Nat.le_trans ?_ (Below.size (by assumption)) | (simp only [World.size_alloc, World.size_setCell]; omega)))⟩
          case measure => simp [intOf]; omega
    · have he : l.take j = l := List.take_of_length_le (by omega)
      have hd : l.drop j = [] := List.drop_of_length_le (by omega)
      rw [he] at HR
      have hz : goE 0 l = true := by rw [HG.out, hd]; rfl
      obtain rfl : RE = 0 := by rw [HE.out, hz]; rfl
      obtain rfl : RL = l.map rnE := by rw [HL.out, hz]; rfl
      clear he hd hz HE HL HG
      go_wp2
      go_returns
      exact ⟨_, rfl, HR.out, hb⟩

end Go.Proofs.Ytcodoakfomddfaa
