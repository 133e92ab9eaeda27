/-
  The walk of the program's Parse where the line reads as an event.
-/
import Derived.Test.YtiimdkamgehioaaDoorA12
namespace Go.Proofs.YtiimdkamgehioaaDoor
open Go Go.RowKit Go.Joins
set_option linter.unusedVariables false
set_option linter.unusedSimpArgs false

set_option maxRecDepth 20000 in
set_option maxHeartbeats 4000000 in
theorem parse_good (s : ByteArray) (w : World) (hs : s.size ≤ 1000000) (hE : Env w) (hsome : p7 s.data.toList ≠ none) :
    Calls Tryd.prog 25 #[.string s] w fun e w' => e = .returned (prV s.data.toList) ∧ Below w.heap.size w w' := by
  have RZ := RowAt.new w 23 zE
  have hE1 := hE.below (ba w (.cells zE 23))
  obtain ⟨ws, hws, hsz, hle, hcall⟩ := split_line s (w.alloc (.cells zE 23)) hs hE1
  have B0 : Below w.heap.size w (w.alloc (.cells zE 23)) := ba _ _
  have hsize := World.size_alloc w (.cells zE 23)
  have hW : ∃ W, W = w.alloc (.cells zE 23) := ⟨_, rfl⟩
  obtain ⟨W, eW⟩ := hW
  rw [← eW] at RZ hE1 hcall B0 hsize
  by_cases h7 : ws.length < 7
  · exfalso
    cases hp : p7 s.data.toList with
    | none => exact hsome hp
    | some e =>
      have := p7_some_len hp
      rw [← hws, List.length_map] at this
      omega
  · obtain ⟨s0, s1, s2, s3, s4, s5, s6, rfl⟩ := seven (show ws.length = 7 by omega)
    have hN : min 7 (s.size + 1) = 7 := by simp only [List.length_cons, List.length_nil] at hle; omega
    rw [hN, cells7] at hcall
    have hsp : spl 6 s.data.toList = [s0.data.toList, s1.data.toList, s2.data.toList, s3.data.toList, s4.data.toList, s5.data.toList, s6.data.toList] := hws.symm
    have hb := words_bad hsp
    have hg := fun k f t v a u d hk hp hd hq => words_good (k := k) (f := f) (t := t) (v := v) (a := a) (u := u) (d := d) hsp hk hp hd hq
    simp only [bytes_of] at hb hg
    have z1 : s1.size ≤ 1000000 := Nat.le_trans (hsz s1 (by simp)) hs
    have z2 : s2.size ≤ 1000000 := Nat.le_trans (hsz s2 (by simp)) hs
    have z3 : s3.size ≤ 1000000 := Nat.le_trans (hsz s3 (by simp)) hs
    have z4 : s4.size ≤ 1000000 := Nat.le_trans (hsz s4 (by simp)) hs
    have z5 : s5.size ≤ 1000000 := Nat.le_trans (hsz s5 (by simp)) hs
    have z6 : s6.size ≤ 1000000 := Nat.le_trans (hsz s6 (by simp)) hs
    have C1 : Calls Tryd.prog 38 #[.string s, .string ⟨#[32]⟩, .int .i64 7] W fun e w' => e = .returned (.slice (some ⟨W.heap.size, 0, none⟩) 7 7) ∧ RowAt w' W.heap.size 9 #[.string s0, .string s1, .string s2, .string s3, .string s4, .string s5, .string s6] ∧ RowAt w' w.heap.size 23 zE ∧ Env w' ∧ Below w.heap.size w w' := by
      refine hcall.mono ?_
      rintro e w' ⟨rfl, rfl⟩
      exact ⟨rfl, RowAt.new _ _ _, RZ.alloc _, hE1.below (ba _ _), B0.alloc B0.size _⟩
    have C2 := Lib.hid (fun W h => kindOf_any s0 W h)
    have C3 := Lib.hid (fun W' (h : RowAt W' W.heap.size 9 #[.string s0, .string s1, .string s2, .string s3, .string s4, .string s5, .string s6]) => numbers_u [s1, s2, s3, s4, s5] W.heap.size 1 6 W' h.lt (fun j hj => by
      have hj5 : j = 0 ∨ j = 1 ∨ j = 2 ∨ j = 3 ∨ j = 4 := by simp only [List.length_cons, List.length_nil] at hj; omega
      rcases hj5 with rfl | rfl | rfl | rfl | rfl
      · exact h.cell 1
      · exact h.cell 2
      · exact h.cell 3
      · exact h.cell 4
      · exact h.cell 5) (by simp) (fun j hj => by
      have hj5 : j = 0 ∨ j = 1 ∨ j = 2 ∨ j = 3 ∨ j = 4 := by simp only [List.length_cons, List.length_nil] at hj; omega
      rcases hj5 with rfl | rfl | rfl | rfl | rfl <;> simp <;> omega))
    have C4 := Lib.hid (fun W => contents_any s6 W z6)
    have H1 := Lib.hid C1
    have hlW := RZ.lt
    obtain ⟨k, nb, hkV, hk1, hk2⟩ : ∃ (k : Int) (nb : Bool), kdV s0.data.toList = .tuple #[.int .i64 k, .bool nb] ∧ (nb = true → kd s0.data.toList = some k) ∧ (nb = false → kd s0.data.toList = none) := by
      unfold kdV
      cases kd s0.data.toList with
      | none => exact ⟨0, false, rfl, by simp, by simp⟩
      | some k => exact ⟨k, true, rfl, by simp, by simp⟩
    obtain ⟨q, cb, hcV, hc1, hc2⟩ : ∃ (q : ByteArray) (cb : Bool), ctV s6.data.toList = .tuple #[.string q, .bool cb] ∧ (cb = true → unq s6.data.toList = some q.data.toList ∧ qt q.data.toList = s6.data.toList ∧ q.size ≤ 1000000) ∧ (cb = false → unq s6.data.toList = none ∨ ∃ d, unq s6.data.toList = some d ∧ qt d ≠ s6.data.toList) := by
      unfold ctV
      cases hu : unq s6.data.toList with
      | none => exact ⟨_, false, rfl, by simp, fun _ => .inl rfl⟩
      | some d =>
        have hl := unq_len hu
        rw [← size_len] at hl
        by_cases hq : qt d = s6.data.toList
        · refine ⟨⟨d.toArray⟩, true, by simp only; rw [if_pos hq], fun _ => ⟨by rw [toList_mk], by rw [toList_mk]; exact hq, by rw [size_mk]; omega⟩, by simp⟩
        · exact ⟨_, false, by simp only; rw [if_neg hq], by simp, fun _ => .inr ⟨d, rfl, hq⟩⟩
    rw [hkV] at C2
    rw [hcV] at C4
    have HP : ∀ l, pns [s1, s2, s3, s4, s5] = some l → l.length = 5 := fun l h => pns_len h
    generalize hpn : pns [s1, s2, s3, s4, s5] = R at *
    have HSZ := Lib.hid hsize
    clear hsize hcall hws hsz hle hsp hkV hcV z1 z2 z3 z4 z5 z6 hE1 C1 hpn
    unfold zE at eW
    by_cases hall : nb = true ∧ R.isSome = true ∧ cb = true
    · obtain ⟨rfl, hR, rfl⟩ := hall
      obtain ⟨l, rfl⟩ := Option.isSome_iff_exists.1 hR
      obtain ⟨f, t, v, a, u, rfl⟩ := five (HP l rfl)
      obtain ⟨hu1, hu2, hu3⟩ := hc1 rfl
      have HG := hg k f t v a u q.data.toList (hk1 rfl) rfl hu1 hu2
      have hve := vE_VeP k f t v a q u
      rw [← hve] at HG
      have C5 := Lib.hid (fun W => valid_xy k f t v a q u W (by omega))
      generalize decide (VeP k f t v a q.size u) = vb at *
      have HV0 := Lib.hid HG
      clear hb hg hk1 hk2 hc1 hc2 HP hR hu1 hu2 hu3 HG hve
      have HRZ := Lib.hid RZ
      clear RZ B0
      go_enter Tryd.func25, Tryd.ntmps25
      go_wp2_with (first
        | (go_at_call 38; go_must (rw [← eW]; clear eW; refine H1.out.mono ?_; rintro e1 w1 ⟨rfl, R1, Z1, E1, B1⟩; have HR1 := Lib.hid R1; have HZ1 := Lib.hid Z1; have HE1 := Lib.hid E1; have HB1 := Lib.hid B1; have a0 : w1.cell? ⟨W.heap.size, 0, none⟩ = some (.string s0) := R1.cell 0; clear R1 Z1 E1 B1))
        | (go_at_call 39; go_must (refine (C2.out _ HE1.out).mono ?_; rintro e2 w2 ⟨rfl, rfl⟩))
        | (go_at_call 40; go_must (refine (C3.out _ HR1.out).mono ?_; rintro e3 w3 ⟨V, rfl, hN, b3⟩; have a6 : w3.cell? ⟨W.heap.size, 6, none⟩ = some (.string s6) := (HR1.out.keep b3).cell 6; have Z3 := Lib.hid (HZ1.out.keep b3); have B3 := Lib.hid (HB1.out.trans (b3.mono HB1.out.size)); have n3 := hN _ rfl; obtain ⟨G, C, rfl⟩ := n3.full (by simp); have N3 := Lib.hid n3; clear n3 hN b3))
        | (go_at_call 41; go_must (refine (C4.out _).mono ?_; rintro e4 w4 ⟨rfl, b4⟩; have Z4 := Lib.hid (Z3.out.keep b4); have B4 := Lib.hid (B3.out.trans (b4.mono B3.out.size)); have N4 := Lib.hid (N3.out.keep b4); clear b4)))
      have n0 : w4.cell? ⟨G, 0, none⟩ = some (.int .i64 f) := N4.out.cell nmC_size 0 (by simp) 0 (by omega)
      have n1 : w4.cell? ⟨G, 1, none⟩ = some (.int .i64 t) := N4.out.cell nmC_size 1 (by simp) 0 (by omega)
      have n2 : w4.cell? ⟨G, 2, none⟩ = some (.int .i64 v) := N4.out.cell nmC_size 2 (by simp) 0 (by omega)
      have n3 : w4.cell? ⟨G, 3, none⟩ = some (.int .i64 a) := N4.out.cell nmC_size 3 (by simp) 0 (by omega)
      have n4 : w4.cell? ⟨G, 4, none⟩ = some (.int .i64 u) := N4.out.cell nmC_size 4 (by simp) 0 (by omega)
      have hG : G < w4.heap.size := (N4.out.lt G rfl).2
      have X := fun (o : Obj) (i : Nat) => (ba w4 o).cell (p := ⟨G, i, none⟩) hG
      have m0 : ∀ o, (w4.alloc o).cell? ⟨G, 0, none⟩ = some (.int .i64 f) := fun o => (X o 0).trans n0
      have m1 : ∀ o, (w4.alloc o).cell? ⟨G, 1, none⟩ = some (.int .i64 t) := fun o => (X o 1).trans n1
      have m2 : ∀ o, (w4.alloc o).cell? ⟨G, 2, none⟩ = some (.int .i64 v) := fun o => (X o 2).trans n2
      have m3 : ∀ o, (w4.alloc o).cell? ⟨G, 3, none⟩ = some (.int .i64 a) := fun o => (X o 3).trans n3
      have m4 : ∀ o, (w4.alloc o).cell? ⟨G, 4, none⟩ = some (.int .i64 u) := fun o => (X o 4).trans n4
      clear X hG
      go_region
      cases vb
      · have HV : Hid (prV s.data.toList = .tuple #[.agg zE, .int .i64 2]) := Lib.hid (by rw [HV0.out]; rfl)
        clear HV0
        go_wp2_with (first
          | (go_at_call 11; go_must (refine (C5.out _).mono ?_; rintro e5 w5 ⟨rfl, rfl⟩))
          | ((with_reducible show wpList _ _ _ ({ dst := none, op := .store _ (.tmp 2) _, type := _, pos := _, after := _, guard := _ } :: _) _ _); refine wpList_store_at (B := w.heap.size) (T := 23) (old := zE) (b := w.heap.size) ((Z4.out.alloc _).alloc _) (Nat.le_refl _) zE (.tmp 2) (.tmp 73) 23 rfl rfl rfl rfl (by kernel_rfl) rfl rfl ?_; intro w6 r6 b6; have R6 := Lib.hid r6; have B6 := Lib.hid b6; clear r6 b6))
        have e0 : w6.cell? ⟨w.heap.size, 0, none⟩ = some (.int .i64 0) := R6.out.cell 0
        have e1 : w6.cell? ⟨w.heap.size, 1, none⟩ = some (.int .i64 0) := R6.out.cell 1
        have e2 : w6.cell? ⟨w.heap.size, 2, none⟩ = some (.int .i64 0) := R6.out.cell 2
        have e3 : w6.cell? ⟨w.heap.size, 3, none⟩ = some (.int .i64 0) := R6.out.cell 3
        have e4 : w6.cell? ⟨w.heap.size, 4, none⟩ = some (.int .i64 0) := R6.out.cell 4
        have e5 : w6.cell? ⟨w.heap.size, 5, none⟩ = some (.string ⟨#[]⟩) := R6.out.cell 5
        have e6 : w6.cell? ⟨w.heap.size, 6, none⟩ = some (.int .i64 0) := R6.out.cell 6
        refine bodyPost_ret (v := .tuple #[.agg zE, .int .i64 2]) (by simp [results, Tryd.results25, go_sem, e0, e1, e2, e3, e4, e5, e6, zE]) rfl ⟨by rw [HV.out], ?_⟩
        have b4 := B4.out
        have b6 := B6.out
        refine Below.trans ?_ b6
        refine Below.drew ?_
        refine Below.alloc ?_ ?_ _
        · exact Below.alloc b4 b4.size _
        · exact le_alloc b4.size _
      · have HV : Hid (prV s.data.toList = .tuple #[.agg (evA k f t v a q u), .int .i64 0]) := Lib.hid (by rw [HV0.out, evC_mk]; rfl)
        clear HV0
        go_wp2_with (first
          | (go_at_call 11; go_must (refine (C5.out _).mono ?_; rintro e5 w5 ⟨rfl, rfl⟩))
          | ((with_reducible show wpList _ _ _ ({ dst := none, op := .store _ (.tmp 2) _, type := _, pos := _, after := _, guard := _ } :: _) _ _); refine wpList_store_at (B := w.heap.size) (T := 23) (old := zE) (b := w.heap.size) ((Z4.out.alloc _).alloc _) (Nat.le_refl _) (evA k f t v a q u) (.tmp 2) (.tmp 74) 23 rfl rfl rfl rfl (by kernel_rfl) rfl rfl ?_; intro w6 r6 b6; have R6 := Lib.hid r6; have B6 := Lib.hid b6; clear r6 b6))
        have e0 : w6.cell? ⟨w.heap.size, 0, none⟩ = some (.int .i64 k) := R6.out.cell 0
        have e1 : w6.cell? ⟨w.heap.size, 1, none⟩ = some (.int .i64 f) := R6.out.cell 1
        have e2 : w6.cell? ⟨w.heap.size, 2, none⟩ = some (.int .i64 t) := R6.out.cell 2
        have e3 : w6.cell? ⟨w.heap.size, 3, none⟩ = some (.int .i64 v) := R6.out.cell 3
        have e4 : w6.cell? ⟨w.heap.size, 4, none⟩ = some (.int .i64 a) := R6.out.cell 4
        have e5 : w6.cell? ⟨w.heap.size, 5, none⟩ = some (.string q) := R6.out.cell 5
        have e6 : w6.cell? ⟨w.heap.size, 6, none⟩ = some (.int .i64 u) := R6.out.cell 6
        refine bodyPost_ret (v := .tuple #[.agg (evA k f t v a q u), .int .i64 0]) (by simp [results, Tryd.results25, go_sem, e0, e1, e2, e3, e4, e5, e6, zE]) rfl ⟨by rw [HV.out], ?_⟩
        have b4 := B4.out
        have b6 := B6.out
        refine Below.trans ?_ b6
        refine Below.drew ?_
        refine Below.alloc ?_ ?_ _
        · exact Below.alloc b4 b4.size _
        · exact le_alloc b4.size _
    · have hbad : nb = false ∨ nb = true ∧ R.isSome = false ∨ nb = true ∧ R.isSome = true ∧ cb = false := by
        cases nb <;> cases hR : R.isSome <;> cases cb <;> simp_all
      exact absurd (prV_none (hb (by
        rcases hbad with h | ⟨_, h⟩ | ⟨_, _, h⟩
        · exact .inl (hk2 h)
        · exact .inr (.inl (by cases R with | none => rfl | some l => cases h))
        · rcases hc2 h with h | h
          · exact .inr (.inr (.inl h))
          · exact .inr (.inr (.inr h))))) hsome


theorem parse_any (s : ByteArray) (w : World) (hs : s.size ≤ 1000000) (hE : Env w) :
    Calls Tryd.prog 25 #[.string s] w fun e w' => e = .returned (prV s.data.toList) ∧ Below w.heap.size w w' := by
  by_cases h : p7 s.data.toList = none
  · exact parse_bad s w hs hE h
  · exact parse_good s w hs hE h

end Go.Proofs.YtiimdkamgehioaaDoor
