/-
  The walk of the statement NrziRoundTrips.
-/
import Derived.Test.YtfbclbolkojjeaaL2
import Derived.Test.YtfbclbolkojjeaaND
import Derived.Deep.Cut
namespace Go.Proofs.Ytfbclbolkojjeaa
open Go Go.RowKit Go.Joins
set_option linter.unusedVariables false
set_option linter.unusedSimpArgs false

theorem idB_d (l : List UInt8) : ∀ a, ∀ e ∈ idB a l, e.d = [] := by
  induction l with
  | nil => intro a e he; cases he
  | cons b l ih =>
    intro a e he
    rw [idB] at he
    rcases List.mem_cons.1 he with rfl | he
    · rfl
    · exact ih _ e he
theorem idJ_d (l : List It) : ∀ a, ∀ e ∈ idJ a l, e.d = [] := by
  induction l with
  | nil => intro a e he; cases he
  | cons b l ih =>
    intro a e he
    rw [idJ] at he
    rcases List.mem_append.1 he with he | he
    · exact idB_d _ _ e he
    · exact ih _ e he
theorem idI_d (l : List It) (j : Nat) (h : j < (idI l).length) : (idI l)[j].d.length ≤ 140737488351232 := by
  have hm := List.getElem_mem h
  generalize (idI l)[j] = e at *
  rw [idI_eq] at hm
  rw [idJ_d l 0 e hm]
  simp
theorem idI_len {l : List It} (hl : l.length ≤ 1024) (h : ∀ j (hj : j < l.length), Bdd l[j]) : (idI l).length ≤ 10000000 := by
  have h1 := (idP_bd h l.length (Nat.le_refl _)).2.2
  rw [List.take_of_length_le (Nat.le_refl _)] at h1
  unfold idI
  omega
theorem snL_snoc {l : List It} {j : Nat} (hj : j < l.length) : (l.take (j + 1)).map snT = (l.take j).map snT ++ [⟨l[j].g, 0, 0, l[j].d, 0⟩] := by
  rw [List.take_succ_eq_append_getElem hj, List.map_append]
  rfl
theorem held_sn {wr W W' : World} {B g p r : Nat} {x y : Value} (h : W.cell? ⟨g, p, none⟩ = some x ∧ W.cell? ⟨g, r, none⟩ = some y ∧ B ≤ W.heap.size ∧ Below B wr W) (hb : Below B W W') (hg : g < B) : W'.cell? ⟨g, p, none⟩ = some x ∧ W'.cell? ⟨g, r, none⟩ = some y ∧ B ≤ W'.heap.size ∧ Below B wr W' :=
  ⟨(hb.cell (p := ⟨g, p, none⟩) hg).trans h.1, (hb.cell (p := ⟨g, r, none⟩) hg).trans h.2.1, Nat.le_trans h.2.2.1 hb.size, h.2.2.2.trans hb⟩
theorem held_zb {wr W W' : World} {b : Nat} {x : Value} (h : W.cell? ⟨b, 0, none⟩ = some x ∧ wr.heap.size ≤ W.heap.size ∧ Below wr.heap.size wr W) (hb : Below W.heap.size W W') (hg : b < wr.heap.size) : W'.cell? ⟨b, 0, none⟩ = some x ∧ wr.heap.size ≤ W'.heap.size ∧ Below wr.heap.size wr W' :=
  ⟨(hb.cell (p := ⟨b, 0, none⟩) (Nat.lt_of_lt_of_le hg h.2.1)).trans h.1, Nat.le_trans h.2.1 hb.size, h.2.2.trans (hb.mono h.2.1)⟩
theorem held_zbB {wr W : World} {b : Nat} {x : Value} (h : W.cell? ⟨b, 0, none⟩ = some x ∧ wr.heap.size ≤ W.heap.size ∧ Below wr.heap.size wr W) : Below wr.heap.size wr W := h.2.2

set_option maxRecDepth 100000 in
set_option maxHeartbeats 8000000 in
theorem law_round16 (z : Bool) (l : List It) (V : Value) (w : World) (hT : ItArg w V l) (hl : l.length ≤ 140737488351232) (hd : ∀ j (h : j < l.length), l[j].d.size ≤ 140737488351232) :
    Calls Try.prog 11 #[.agg #[.bool z], V] w fun e w' => e = .returned (.bool true) ∧ Below w.heap.size w w' := by
  have CT := Lib.hid (fun W (hb : Below w.heap.size w W) => tiny_any l V W (hT.keep hb) hl hd)
  have C1 := Lib.hid (fun W (hb : Below w.heap.size w W) => encode_any z l V W (hT.keep hb) hl hd)
  have CA := Lib.hid awake_any
  obtain ⟨A, c, rfl, hA⟩ := hT
  have HA := Lib.hid hA
  obtain ⟨W, b2, eW, e2, l2, r2, B0⟩ := one_box w z
  have z0 := r2.get1
  have HB0 := Lib.hid B0; have H2 := Lib.hid r2
  have hML := enL_len z l
  have hTY := tyL_iff l
  clear hA B0 r2 hd
  cases ht : tyL l
  · rw [ht] at CT
    clear ht hTY
    go_enter Try.func11, Try.ntmps11
    go_wp2_with (first
      | (rw [← eW, ← e2]; clear eW e2; go_at_call 43; go_must (refine (CT.out _ HB0.out).mono ?_; rintro e1 w1 ⟨rfl, rfl⟩))
      | (go_at_call 33; go_must (refine (CA.out _).mono ?_; rintro e9 w9 ⟨rfl, b9⟩; have B9 := Lib.hid (HB0.out.trans (b9.mono HB0.out.size)))))
    go_returns
    exact ⟨rfl, B9.out⟩
  have hl20 := (hTY.1 ht).1
  rw [ht] at CT
  clear ht hTY
  by_cases hE : clE 1048576 l = 0
  case neg =>
    have hM : enL z l = [] := by unfold enL; rw [if_neg hE]
    have hE' : (clE 1048576 l == 0) = false := by simpa using hE
    rw [hM] at C1
    clear hM hML hE
    generalize clE 1048576 l = E at *
    go_enter Try.func11, Try.ntmps11
    go_wp2_with (first
      | (rw [← eW, ← e2]; clear eW e2; go_at_call 43; go_must (refine (CT.out _ HB0.out).mono ?_; rintro e1 w1 ⟨rfl, rfl⟩))
      | (go_at_call 44; go_must (refine (C1.out _ HB0.out).mono ?_; rintro e3 w3 ⟨v3, rfl, r3, b3⟩; obtain ⟨UA, UN, UC, rfl, hUN⟩ := r3.form; rw [List.length_nil] at hUN; subst hUN; have B3 := Lib.hid (HB0.out.trans (b3.mono HB0.out.size)); clear r3 b3))
      | (go_at_call 33; go_must (refine (CA.out _).mono ?_; rintro e9 w9 ⟨rfl, b9⟩; have B9 := Lib.hid (B3.out.trans (b9.mono B3.out.size)))))
    go_returns
    exact ⟨rfl, B9.out⟩
  have hl' : (l.length : Int) ≤ 20 := by omega
  have hbd1 := enL_bd z l hE
  have hbd2 := sn_bd l hE
  have hRT := round_back z l hE
  have hSN := idI_sn l
  have hML2 : (enL z l).length ≤ 1024 := by omega
  have hSL : (l.map snT).length ≤ 1024 := by rw [List.length_map]; omega
  have CI1 := Lib.hid (fun V W h => ideal_any (enL z l) V W h hML2 hbd1)
  have CI2 := Lib.hid (fun V W h => ideal_any (l.map snT) V W h hSL hbd2)
  have hil := idI_len hML2 hbd1
  have hil2 := idI_len hSL hbd2
  have CD := Lib.hid (fun V W h => decode_any z (idI (enL z l)) V W h (by omega) (idI_d _))
  rw [hRT] at CD
  rw [hSN] at CI2 hil2
  have CSm := Lib.hid (fun V V' W h2 h3 => same_any (idI l) V V' W h2 h3 (by omega))
  rw [hE] at C1
  clear hRT hSN hbd1 hbd2 hE
  generalize enL z l = M at *
  generalize idI M = IM at *
  generalize idI l = IL at *
  go_enter Try.func11, Try.ntmps11
  go_wp2_with (first
    | (rw [← eW, ← e2]; clear eW e2; go_at_call 43; go_must (refine (CT.out _ HB0.out).mono ?_; rintro e1 w1 ⟨rfl, rfl⟩))
    | (go_at_call 44; go_must (refine (C1.out _ HB0.out).mono ?_; rintro e3 w3 ⟨v3, rfl, r3, b3⟩; obtain ⟨UA, UN, UC, rfl, hUN⟩ := r3.form; clear hUN; have R3 := Lib.hid (r3.arg itC_size); have H3 := Lib.hid (H2.out.keep b3); clear z0; have B3 := Lib.hid (HB0.out.trans (b3.mono HB0.out.size)); have s3 := b3.size; have L3 := Lib.hid (KRow.lit (T := 32) itC_size w3 w3.heap.size (Nat.le_refl _) [] #[] rfl 0 rfl (by decide)); have H4 := Lib.hid (H3.out.alloc (.cells #[] 32)); have R4 := Lib.hid (R3.out.keep (ba w3 (.cells #[] 32))); have B4 := Lib.hid (B3.out.alloc B3.out.size (.cells #[] 32)); clear r3 b3)))
  have hw3 := B3.out.size
  have hb2 : b2 < w3.heap.size := by omega
  have R3x := Lib.hid (fun W (hb : Below w3.heap.size w3 W) => R3.out.keep hb)
  clear C1 CT H3 R4 R3 H2 HB0
  go_loopw [8, 7] (fun i r wr => ∃ (j : Nat), j ≤ l.length ∧ i = .int .i64 j ∧ Hid (ItRow wr w3.heap.size r ((l.take j).map snT)) ∧ Hid (RowAt wr b2 59 #[.bool z]) ∧ Hid (Below w3.heap.size w3 wr)) (fun i _ _ => l.length - (intOf i).toNat)
  case atStart => exact ⟨0, Nat.zero_le _, rfl, L3, H4, Lib.hid (ba _ _)⟩
  case round =>
    obtain ⟨j, hj, rfl, HR, HZ, HB⟩ := hrel
    have hbw := B3.out.trans (HB.out.mono hw3)
    have hsz := HB.out.size
    by_cases hjl : j < l.length
    · obtain ⟨g, o, rfl, hg, hc⟩ := HA.out (by omega)
      obtain ⟨a0, a1, a2, a3, a4⟩ := arg_five hc j hjl
      have f0 := (hbw.cell (p := ⟨g, o + j * 5, none⟩) hg).trans a0
      have f3 := (hbw.cell (p := ⟨g, o + j * 5 + 3, none⟩) hg).trans a3
      have HS := Lib.hid (snL_snoc hjl)
      have hlen : ((l.take j).map snT).length = j := by rw [List.length_map, List.length_take]; omega
      clear a0 a1 a2 a3 a4 hc
      generalize (l.take j).map snT = L at *
      generalize l[j].g = x0 at *
      generalize l[j].d = x3 at *
      have hg3 : g < w3.heap.size := Nat.lt_of_lt_of_le hg hw3
      have hs : Hid (wr.cell? ⟨g, o + j * 5, none⟩ = some (.int .i64 x0) ∧ wr.cell? ⟨g, o + j * 5 + 3, none⟩ = some (.string x3) ∧ w3.heap.size ≤ wr.heap.size ∧ Below w3.heap.size wr wr) := Lib.hid ⟨f0, f3, hsz, Below.refl _ _⟩
      clear f0 f3
      go_wp2
      go_region_held3 (fun w' => w'.cell? ⟨g, o + j * 5, none⟩ = some (.int .i64 x0) ∧ w'.cell? ⟨g, o + j * 5 + 3, none⟩ = some (.string x3) ∧ w3.heap.size ≤ w'.heap.size ∧ Below w3.heap.size wr w') (first | with_reducible assumption | with_reducible exact held_sn hs.out (Below.refl _ _).drew hg3 | with_reducible exact held_sn (by with_reducible assumption) ((ba _ _).mono (And.left (And.right (And.right (by with_reducible assumption : _ ∧ _ ∧ w3.heap.size ≤ _ ∧ Below w3.heap.size wr _))))) hg3 | fail)
        (first
          | (refine step_append_ks (w := wr.drew) (ya := itA x0 0 0 x3 0) Try.underlying33 it_info rfl (by omega) itC_size rfl _ _ rfl rfl rfl rfl (show ItRow wr.drew w3.heap.size _ L from HR.out) (show w3.heap.size ≤ wr.drew.heap.size from hsz) [(⟨x0, 0, 0, x3, 0⟩ : It)] rfl (by omega) rfl rfl (by omega) (by omega) ?_; intro v6 w6 R6 b6; have h6 := held_sn (wr := wr) (held_sn hs.out (Below.refl _ _).drew hg3) b6 hg3)
          | fail)
      have R6' := Lib.hid R6; have B6' := Lib.hid (HB.out.trans h6.2.2.2)
      have Z6 := Lib.hid (HZ.out.below h6.2.2.2 hb2)
      clear R6 h6
      go_wp2
      go_roundw
      case rel => exact ⟨j + 1, by omega, val_int (by omega), Lib.hid (by rw [HS.out]; exact R6'.out), Z6, B6'⟩
      case measure => simp [intOf]; omega
    · have he : l.take j = l := List.take_of_length_le (by omega)
      rw [he] at HR
      obtain ⟨SA, SN, SC, rfl, hSN⟩ := HR.out.form
      clear hSN he
      have RX := Lib.hid (fun W (hb : Below wr.heap.size wr W) => R3x.out W (HB.out.trans (hb.mono hsz)))
      have RS := Lib.hid (fun W (hb : Below wr.heap.size wr W) => (HR.out.keep hb).arg itC_size)
      have hs : Hid (wr.cell? ⟨b2, 0, none⟩ = some (.bool z) ∧ wr.heap.size ≤ wr.heap.size ∧ Below wr.heap.size wr wr) := Lib.hid ⟨HZ.out.get1, Nat.le_refl _, Below.refl _ _⟩
      have hbr : b2 < wr.heap.size := by omega
      go_wp2
      go_region_held3 (fun w' => w'.cell? ⟨b2, 0, none⟩ = some (.bool z) ∧ wr.heap.size ≤ w'.heap.size ∧ Below wr.heap.size wr w') (first | with_reducible assumption | with_reducible exact held_zb hs.out (Below.refl _ _).drew hbr | fail)
        (first
          | (go_at_call_of 47 (Value.slice UA UN UC); refine (CI1.out _ _ (RX.out _ (held_zbB (b := b2) (x := .bool z) (by with_reducible assumption)))).mono ?_; rintro e9 w9 ⟨v9, rfl, r9, b9⟩; have h9 := held_zb (by with_reducible assumption) b9 hbr; have RI := Lib.hid (r9.arg evC_size); (try (have RJ' := Lib.hid (RJ.out.keep b9))))
          | (go_at_call_of 47 (Value.slice SA SN SC); refine (CI2.out _ _ (RS.out _ (held_zbB (b := b2) (x := .bool z) (by with_reducible assumption)))).mono ?_; rintro e9 w9 ⟨v9, rfl, r9, b9⟩; have h9 := held_zb (by with_reducible assumption) b9 hbr; have RJ := Lib.hid (r9.arg evC_size); (try (have RI' := Lib.hid (RI.out.keep b9))); (try (have RD' := Lib.hid (RD.out.keep b9))))
          | (go_at_call 41; refine (CD.out _ _ (by first | exact RI.out | exact RI'.out)).mono ?_; rintro e9 w9 ⟨v9, rfl, r9, b9⟩; have h9 := held_zb (by with_reducible assumption) b9 hbr; have RD := Lib.hid (r9.arg evC_size); (first | (have RJ'' := Lib.hid (RJ'.out.keep b9)) | (have RJ'' := Lib.hid (RJ.out.keep b9)) | skip))
          | (go_at_call 38; refine (CSm.out _ _ _ (by first | exact RD.out | exact RD'.out) (by first | exact RJ.out | exact RJ''.out)).mono ?_; rintro e9 w9 ⟨rfl, b9⟩; have h9 := held_zb (by with_reducible assumption) b9 hbr)
          | (go_at_call 33; refine (CA.out _).mono ?_; rintro e9 w9 ⟨rfl, b9⟩; have h9 := held_zb (by with_reducible assumption) b9 hbr)
          | fail)
      all_goals
        have B9 := Lib.hid (hbw.trans ((held_zbB (b := b2) (x := .bool z) (by with_reducible assumption)).mono hbw.size))
        go_wp2
        go_returns
        exact ⟨rfl, B9.out⟩

end Go.Proofs.Ytfbclbolkojjeaa
