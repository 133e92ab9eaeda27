/-
  The walk of the program's Parse.
-/
import Derived.Test.YtiimdkamgehioaaDoorA11
import Derived.Test.YtiimdkamgehioaaDoorA8
import Derived.BigRegion
namespace Go.Proofs.YtiimdkamgehioaaDoor
open Go Go.RowKit Go.Joins
set_option linter.unusedVariables false
set_option linter.unusedSimpArgs false

def zE : Array Value := #[.int .i64 0, .int .i64 0, .int .i64 0, .int .i64 0, .int .i64 0, .string ⟨#[]⟩, .int .i64 0]
theorem numbers_u (ws : List ByteArray) (g o c : Nat) (w : World) (hg : g < w.heap.size) (hc : ∀ j (h : j < ws.length), w.cell? ⟨g, o + j, none⟩ = some (.string ws[j])) (hn : ws.length ≤ 1000) (hs : ∀ j (h : j < ws.length), ws[j].size ≤ 140737488351232) :
    Calls Tryd.prog 40 #[.slice (some ⟨g, o, none⟩) ws.length c] w fun e w' => ∃ v, e = .returned (.tuple #[v, .bool (pns ws).isSome]) ∧ (∀ l, pns ws = some l → NRow w' w.heap.size v l) ∧ Below w.heap.size w w' := by
  refine (numbers_any ws g o c w hg hc hn hs).mono ?_
  rintro e w' ⟨v, h, hb⟩
  refine ⟨v, ?_⟩
  cases hp : pns ws with
  | none => rw [hp] at h; exact ⟨h, fun l e => (by cases e), hb⟩
  | some l => rw [hp] at h; exact ⟨h.1, fun l' e => (by cases e; exact h.2), hb⟩
theorem five {l : List Int} (h : l.length = 5) : ∃ a b c d e, l = [a, b, c, d, e] := by
  match l, h with
  | [a, b, c, d, e], _ => exact ⟨a, b, c, d, e, rfl⟩
theorem seven {l : List ByteArray} (h : l.length = 7) : ∃ a b c d e f g, l = [a, b, c, d, e, f, g] := by
  match l, h with
  | [a, b, c, d, e, f, g], _ => exact ⟨a, b, c, d, e, f, g, rfl⟩
/-- What the words say. -/
theorem words_bad {l x0 x1 x2 x3 x4 x5 x6 : List UInt8} (h : spl 6 l = [x0, x1, x2, x3, x4, x5, x6]) (hb : kd x0 = none ∨ pns [⟨x1.toArray⟩, ⟨x2.toArray⟩, ⟨x3.toArray⟩, ⟨x4.toArray⟩, ⟨x5.toArray⟩] = none ∨ unq x6 = none ∨ (∃ d, unq x6 = some d ∧ qt d ≠ x6)) : prV l = .tuple #[.agg zE, .int .i64 4] := by
  have hp : p7 l = none := by
    rw [p7_words h]
    unfold p7w
    cases hk : kd x0 with
    | none => rfl
    | some k =>
    simp only
    have N : ∀ x, pn x = none → n7 x = none := fun x hx => by
      rcases pn_n7 x with h | ⟨v, m, h, _⟩
      · exact h.2
      · rw [hx] at h; cases h
    cases h1 : n7 x1 with
    | none => rfl
    | some f =>
    cases h2 : n7 x2 with
    | none => rfl
    | some t =>
    cases h3 : n7 x3 with
    | none => rfl
    | some v =>
    cases h4 : n7 x4 with
    | none => rfl
    | some a =>
    cases h5 : n7 x5 with
    | none => rfl
    | some u =>
    simp only
    have S : ∀ x m, n7 x = some m → ∃ v, pn x = some v := fun x m hx => by
      cases hq : pn x with
      | some v => exact ⟨v, rfl⟩
      | none => rw [N x hq] at hx; cases hx
    obtain ⟨v1, q1⟩ := S _ _ h1
    obtain ⟨v2, q2⟩ := S _ _ h2
    obtain ⟨v3, q3⟩ := S _ _ h3
    obtain ⟨v4, q4⟩ := S _ _ h4
    obtain ⟨v5, q5⟩ := S _ _ h5
    rcases hb with hb | hb | hb | ⟨d, hb, hq⟩
    · rw [hk] at hb; cases hb
    · simp [pns, q1, q2, q3, q4, q5] at hb
    · rw [hb]
    · rw [hb]; simp only; rw [if_neg hq]
  unfold prV
  rw [hp]
  rfl
theorem words_good {l x0 x1 x2 x3 x4 x5 x6 : List UInt8} {k f t v a u : Int} {d : List UInt8} (h : spl 6 l = [x0, x1, x2, x3, x4, x5, x6]) (hk : kd x0 = some k) (hp : pns [⟨x1.toArray⟩, ⟨x2.toArray⟩, ⟨x3.toArray⟩, ⟨x4.toArray⟩, ⟨x5.toArray⟩] = some [f, t, v, a, u]) (hd : unq x6 = some d) (hq : qt d = x6) :
    prV l = if vE ⟨k, f, t, v, a, d, u⟩ = true then .tuple #[evV ⟨k, f, t, v, a, d, u⟩, .int .i64 0] else .tuple #[.agg zE, .int .i64 2] := by
  have P : ∀ x y, pn x = some y → ∃ m, n7 x = some m ∧ (y = m ∧ -9007199254740992 ≤ m ∧ m ≤ 9007199254740992 ∨ y = 9223372036854775807 ∧ (m = 9007199254740993 ∨ m = -9007199254740993)) := fun x y hx => by
    rcases pn_n7 x with h | ⟨v, m, h1, h2, h3⟩
    · rw [h.1] at hx; cases hx
    · rw [hx] at h1; cases h1; exact ⟨m, h2, h3⟩
  simp only [pns] at hp
  cases q1 : pn x1 with
  | none => rw [q1] at hp; cases hp
  | some y1 =>
  cases q2 : pn x2 with
  | none => rw [q1, q2] at hp; cases hp
  | some y2 =>
  cases q3 : pn x3 with
  | none => rw [q1, q2, q3] at hp; cases hp
  | some y3 =>
  cases q4 : pn x4 with
  | none => rw [q1, q2, q3, q4] at hp; cases hp
  | some y4 =>
  cases q5 : pn x5 with
  | none => rw [q1, q2, q3, q4, q5] at hp; cases hp
  | some y5 =>
  rw [q1, q2, q3, q4, q5] at hp
  simp only [Option.map_some, Option.some.injEq, List.cons.injEq, and_true] at hp
  obtain ⟨rfl, rfl, rfl, rfl, rfl⟩ := hp
  obtain ⟨m1, n1, c1⟩ := P _ _ q1
  obtain ⟨m2, n2, c2⟩ := P _ _ q2
  obtain ⟨m3, n3, c3⟩ := P _ _ q3
  obtain ⟨m4, n4, c4⟩ := P _ _ q4
  obtain ⟨m5, n5, c5⟩ := P _ _ q5
  have hp : p7 l = some ⟨k, m1, m2, m3, m4, d, m5⟩ := by
    rw [p7_words h]
    unfold p7w
    rw [hk, n1, n2, n3, n4, n5, hd]
    simp only
    rw [if_pos hq]
  unfold prV
  rw [hp]
  simp only
  rcases two_events (k := k) (d := d) c1 c2 c3 c4 c5 with ⟨e1, e2⟩ | ⟨rfl, rfl, rfl, rfl, rfl⟩
  · rw [e1, e2]; rfl
  · rfl


theorem cells7 (a b c d e f g : ByteArray) : Lib.cellsOf [a, b, c, d, e, f, g] 7 = #[.string a, .string b, .string c, .string d, .string e, .string f, .string g] := rfl
/-- The line split. -/
theorem split_line (s : ByteArray) (w : World) (hs : s.size ≤ 1000000) (hE : Env w) : ∃ ws : List ByteArray, ws.map (·.data.toList) = spl 6 s.data.toList ∧ (∀ x ∈ ws, x.size ≤ s.size) ∧ ws.length ≤ min 7 (s.size + 1) ∧
    Calls Tryd.prog 38 #[.string s, .string ⟨#[32]⟩, .int .i64 7] w fun e w' => e = .returned (.slice (some ⟨w.heap.size, 0, none⟩) ws.length (min 7 (s.size + 1))) ∧ w' = w.alloc (.cells (Lib.cellsOf ws (min 7 (s.size + 1))) 9) := by
  obtain ⟨m, hm⟩ := hE.2.2.1
  have h := Tryd.strings_SplitN s ⟨#[32]⟩ 7 m w (by omega) hm (by decide) (by omega) (by omega)
  have e := splitB_spl (min 7 (s.size + 1) - 1) s
  rw [size_len, spl_min, ← size_len] at e
  have hl : (Lib.splitB ⟨#[32]⟩ 0 (min 7 (s.size + 1) - 1) s).length ≤ min 7 (s.size + 1) := by
    have h1 := congrArg List.length (splitB_spl (min 7 (s.size + 1) - 1) s)
    rw [List.length_map] at h1
    have := (spl_le (min 7 (s.size + 1) - 1) s.data.toList).2
    omega
  refine ⟨_, e, ?_, hl, h⟩
  intro x hx
  have : x.data.toList ∈ spl 6 s.data.toList := by rw [← e]; exact List.mem_map_of_mem hx
  have := spl_mem _ _ _ this
  rw [size_len, size_len s]
  exact this

theorem prV_none {l : List UInt8} (h : prV l = .tuple #[.agg zE, .int .i64 4]) : p7 l = none := by
  unfold prV at h
  cases hp : p7 l with
  | none => rfl
  | some e =>
    rw [hp] at h
    simp only at h
    split at h <;> simp at h
theorem prV_some {l : List UInt8} {e : Ev} (h : prV l = if vE e = true then .tuple #[evV e, .int .i64 0] else .tuple #[.agg zE, .int .i64 2]) : p7 l ≠ none := by
  intro hp
  unfold prV at h
  rw [hp] at h
  simp only at h
  split at h <;> simp at h

set_option maxRecDepth 20000 in
set_option maxHeartbeats 4000000 in
theorem parse_bad (s : ByteArray) (w : World) (hs : s.size ≤ 1000000) (hE : Env w) (hnone : p7 s.data.toList = none) :
    Calls Tryd.prog 25 #[.string s] w fun e w' => e = .returned (prV s.data.toList) ∧ Below w.heap.size w w' := by
  have RZ := RowAt.new w 23 zE
  have hE1 := hE.below (ba w (.cells zE 23))
  obtain ⟨ws, hws, hsz, hle, hcall⟩ := split_line s (w.alloc (.cells zE 23)) hs hE1
  have B0 : Below w.heap.size w (w.alloc (.cells zE 23)) := ba _ _
  have hsize := World.size_alloc w (.cells zE 23)
  have hW : ∃ W, W = w.alloc (.cells zE 23) := ⟨_, rfl⟩
  obtain ⟨W, eW⟩ := hW
  rw [← eW] at RZ hE1 hcall B0 hsize
  by_cases h7 : ws.length < 7
  · have HV : Hid (prV s.data.toList = .tuple #[.agg zE, .int .i64 4]) := Lib.hid (by
      have hp : p7 s.data.toList = none := by
        cases hp : p7 s.data.toList with
        | none => rfl
        | some e =>
          have := p7_some_len hp
          rw [← hws, List.length_map] at this
          omega
      unfold prV
      rw [hp]
      rfl)
    have HC := Lib.hid hcall
    have HR := Lib.hid RZ; have HB0 := Lib.hid B0
    have h7' : (ws.length : Int) < 7 := by omega
    have hlW := RZ.lt
    generalize Lib.cellsOf ws (min 7 (s.size + 1)) = cs at HC
    generalize min 7 (s.size + 1) = N at *
    clear hcall RZ hE1 hws hsz hle B0
    go_enter Tryd.func25, Tryd.ntmps25
    unfold zE at eW
    go_wp2_with (first
      | (go_at_call 38; go_must (rw [← eW]; refine HC.out.mono ?_; rintro e1 w1 ⟨rfl, rfl⟩)))
    go_returns
    exact ⟨HV.out.symm ▸ rfl, (by repeat' (first | with_reducible exact Below.refl _ _ | with_reducible exact Nat.le_refl _ | with_reducible assumption | with_reducible refine below_drewN ?_ _ | with_reducible refine Below.drew ?_ | with_reducible refine Below.trans ?_ (Below.mono (by assumption) ?_) | with_reducible refine Below.alloc ?_ ?_ _ | with_reducible refine Below.setCell ?_ ?_ _ | with_reducible refine le_setCell ?_ _ _ | with_reducible refine le_alloc ?_ _ | with_reducible refine le_drewN ?_ _ | with_reducible refine le_drew ?_ | with_reducible refine Nat.le_trans ?_ (Below.size (by assumption)) | (simp only [World.size_alloc, World.size_setCell]; omega)))⟩
  · obtain ⟨s0, s1, s2, s3, s4, s5, s6, rfl⟩ := seven (show ws.length = 7 by omega)
    have hN : min 7 (s.size + 1) = 7 := by simp only [List.length_cons, List.length_nil] at hle; omega
    rw [hN, cells7] at hcall
    have hsp : spl 6 s.data.toList = [s0.data.toList, s1.data.toList, s2.data.toList, s3.data.toList, s4.data.toList, s5.data.toList, s6.data.toList] := hws.symm
    have hb := words_bad hsp
    have hg := fun k f t v a u d hk hp hd hq => words_good (k := k) (f := f) (t := t) (v := v) (a := a) (u := u) (d := d) hsp hk hp hd hq
    simp only [bytes_of] at hb hg
    have z1 : s1.size ≤ 1000000 := Nat.le_trans (hsz s1 (by simp)) hs
    have z2 : s2.size ≤ 1000000 := Nat.le_trans (hsz s2 (by simp)) hs
    have z3 : s3.size ≤ 1000000 := Nat.le_trans (hsz s3 (by simp)) hs
    have z4 : s4.size ≤ 1000000 := Nat.le_trans (hsz s4 (by simp)) hs
    have z5 : s5.size ≤ 1000000 := Nat.le_trans (hsz s5 (by simp)) hs
    have z6 : s6.size ≤ 1000000 := Nat.le_trans (hsz s6 (by simp)) hs
    have C1 : Calls Tryd.prog 38 #[.string s, .string ⟨#[32]⟩, .int .i64 7] W fun e w' => e = .returned (.slice (some ⟨W.heap.size, 0, none⟩) 7 7) ∧ RowAt w' W.heap.size 9 #[.string s0, .string s1, .string s2, .string s3, .string s4, .string s5, .string s6] ∧ RowAt w' w.heap.size 23 zE ∧ Env w' ∧ Below w.heap.size w w' := by
      refine hcall.mono ?_
      rintro e w' ⟨rfl, rfl⟩
      exact ⟨rfl, RowAt.new _ _ _, RZ.alloc _, hE1.below (ba _ _), B0.alloc B0.size _⟩
    have C2 := Lib.hid (fun W h => kindOf_any s0 W h)
    have C3 := Lib.hid (fun W' (h : RowAt W' W.heap.size 9 #[.string s0, .string s1, .string s2, .string s3, .string s4, .string s5, .string s6]) => numbers_u [s1, s2, s3, s4, s5] W.heap.size 1 6 W' h.lt (fun j hj => by
      have hj5 : j = 0 ∨ j = 1 ∨ j = 2 ∨ j = 3 ∨ j = 4 := by simp only [List.length_cons, List.length_nil] at hj; omega
      rcases hj5 with rfl | rfl | rfl | rfl | rfl
      · exact h.cell 1
      · exact h.cell 2
      · exact h.cell 3
      · exact h.cell 4
      · exact h.cell 5) (by simp) (fun j hj => by
      have hj5 : j = 0 ∨ j = 1 ∨ j = 2 ∨ j = 3 ∨ j = 4 := by simp only [List.length_cons, List.length_nil] at hj; omega
      rcases hj5 with rfl | rfl | rfl | rfl | rfl <;> simp <;> omega))
    have C4 := Lib.hid (fun W => contents_any s6 W z6)
    have H1 := Lib.hid C1
    have hlW := RZ.lt
    obtain ⟨k, nb, hkV, hk1, hk2⟩ : ∃ (k : Int) (nb : Bool), kdV s0.data.toList = .tuple #[.int .i64 k, .bool nb] ∧ (nb = true → kd s0.data.toList = some k) ∧ (nb = false → kd s0.data.toList = none) := by
      unfold kdV
      cases kd s0.data.toList with
      | none => exact ⟨0, false, rfl, by simp, by simp⟩
      | some k => exact ⟨k, true, rfl, by simp, by simp⟩
    obtain ⟨q, cb, hcV, hc1, hc2⟩ : ∃ (q : ByteArray) (cb : Bool), ctV s6.data.toList = .tuple #[.string q, .bool cb] ∧ (cb = true → unq s6.data.toList = some q.data.toList ∧ qt q.data.toList = s6.data.toList ∧ q.size ≤ 1000000) ∧ (cb = false → unq s6.data.toList = none ∨ ∃ d, unq s6.data.toList = some d ∧ qt d ≠ s6.data.toList) := by
      unfold ctV
      cases hu : unq s6.data.toList with
      | none => exact ⟨_, false, rfl, by simp, fun _ => .inl rfl⟩
      | some d =>
        have hl := unq_len hu
        rw [← size_len] at hl
        by_cases hq : qt d = s6.data.toList
        · refine ⟨⟨d.toArray⟩, true, by simp only; rw [if_pos hq], fun _ => ⟨by rw [toList_mk], by rw [toList_mk]; exact hq, by rw [size_mk]; omega⟩, by simp⟩
        · exact ⟨_, false, by simp only; rw [if_neg hq], by simp, fun _ => .inr ⟨d, rfl, hq⟩⟩
    rw [hkV] at C2
    rw [hcV] at C4
    have HP : ∀ l, pns [s1, s2, s3, s4, s5] = some l → l.length = 5 := fun l h => pns_len h
    generalize hpn : pns [s1, s2, s3, s4, s5] = R at *
    have HSZ := Lib.hid hsize
    clear hsize hcall hws hsz hle hsp hkV hcV z1 z2 z3 z4 z5 z6 hE1 C1 hpn
    unfold zE at eW
    by_cases hall : nb = true ∧ R.isSome = true ∧ cb = true
    · obtain ⟨rfl, hR, rfl⟩ := hall
      obtain ⟨l, rfl⟩ := Option.isSome_iff_exists.1 hR
      obtain ⟨f, t, v, a, u, rfl⟩ := five (HP l rfl)
      obtain ⟨hu1, hu2, hu3⟩ := hc1 rfl
      exact absurd hnone (prV_some (hg k f t v a u q.data.toList (hk1 rfl) rfl hu1 hu2))
    · have hbad : nb = false ∨ nb = true ∧ R.isSome = false ∨ nb = true ∧ R.isSome = true ∧ cb = false := by
        cases nb <;> cases hR : R.isSome <;> cases cb <;> simp_all
      have HV : Hid (prV s.data.toList = .tuple #[.agg zE, .int .i64 4]) := Lib.hid (hb (by
        rcases hbad with h | ⟨_, h⟩ | ⟨_, _, h⟩
        · exact .inl (hk2 h)
        · exact .inr (.inl (by cases R with | none => rfl | some l => cases h))
        · rcases hc2 h with h | h
          · exact .inr (.inr (.inl h))
          · exact .inr (.inr (.inr h))))
      clear hb hg hk1 hk2 hc1 hc2 HP hall
      generalize R.isSome = nk at *
      have HRZ := Lib.hid RZ
      clear RZ B0
      rcases hbad with rfl | ⟨rfl, rfl⟩ | ⟨rfl, rfl, rfl⟩
      all_goals
        go_enter Tryd.func25, Tryd.ntmps25
        go_wp2_with (first
          | (go_at_call 38; go_must (rw [← eW]; clear eW; refine H1.out.mono ?_; rintro e1 w1 ⟨rfl, R1, Z1, E1, B1⟩; have HR1 := Lib.hid R1; have HZ1 := Lib.hid Z1; have HE1 := Lib.hid E1; have HB1 := Lib.hid B1; have a0 : w1.cell? ⟨W.heap.size, 0, none⟩ = some (.string s0) := R1.cell 0; clear R1 Z1 E1 B1))
          | (go_at_call 39; go_must (refine (C2.out _ HE1.out).mono ?_; rintro e2 w2 ⟨rfl, rfl⟩))
          | (go_at_call 40; go_must (refine (C3.out _ HR1.out).mono ?_; rintro e3 w3 ⟨V, rfl, hN, b3⟩; have a6 : w3.cell? ⟨W.heap.size, 6, none⟩ = some (.string s6) := (HR1.out.keep b3).cell 6; have Z3 := Lib.hid (HZ1.out.keep b3); have B3 := Lib.hid (HB1.out.trans (b3.mono HB1.out.size)); clear hN b3))
          | (go_at_call 41; go_must (refine (C4.out _).mono ?_; rintro e4 w4 ⟨rfl, b4⟩; have Z4 := Lib.hid (Z3.out.keep b4); have B4 := Lib.hid (B3.out.trans (b4.mono B3.out.size)); clear b4))
          | ((with_reducible show wpList _ _ _ ({ dst := none, op := .store _ (.tmp 2) _, type := _, pos := _, after := _, guard := _ } :: _) _ _); refine wpList_store_at (B := w.heap.size) (T := 23) (old := zE) (b := w.heap.size) Z4.out (Nat.le_refl _) zE (.tmp 2) (.tmp 51) 23 rfl rfl rfl rfl (by kernel_rfl) rfl rfl ?_; intro w6 r6 b6; have R6 := Lib.hid r6; have B6 := Lib.hid b6; clear r6 b6))
        have e0 : w6.cell? ⟨w.heap.size, 0, none⟩ = some (.int .i64 0) := R6.out.cell 0
        have e1 : w6.cell? ⟨w.heap.size, 1, none⟩ = some (.int .i64 0) := R6.out.cell 1
        have e2 : w6.cell? ⟨w.heap.size, 2, none⟩ = some (.int .i64 0) := R6.out.cell 2
        have e3 : w6.cell? ⟨w.heap.size, 3, none⟩ = some (.int .i64 0) := R6.out.cell 3
        have e4 : w6.cell? ⟨w.heap.size, 4, none⟩ = some (.int .i64 0) := R6.out.cell 4
        have e5 : w6.cell? ⟨w.heap.size, 5, none⟩ = some (.string ⟨#[]⟩) := R6.out.cell 5
        have e6 : w6.cell? ⟨w.heap.size, 6, none⟩ = some (.int .i64 0) := R6.out.cell 6
        refine bodyPost_ret (v := .tuple #[.agg zE, .int .i64 4]) (by simp [results, Tryd.results25, go_sem, e0, e1, e2, e3, e4, e5, e6, zE]) rfl ⟨by rw [HV.out], B4.out.trans B6.out⟩

end Go.Proofs.YtiimdkamgehioaaDoor
