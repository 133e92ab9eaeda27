/-
  The walk of the machine's step.
  The machine's step as one; the fold over the events; the walk of each.
-/
import Derived.Test.YtmbeaagpjpphhaaZ19
import Derived.Test.YtmbeaagpjpphhaaZ12
namespace Go.Proofs.Ytmbeaagpjpphhaa
open Go Go.RowKit Go.Joins
set_option linter.unusedVariables false
set_option linter.unusedSimpArgs false

/-- The state's phase and anchor behind an event's begin. -/
def pF (N D ph fr pv f v : Int) : Int := if ph = 0 then 1 else if v ≠ pv then (if irrB N D (f - fr) then 2 else ph) else ph
def fF (ph fr pv f v : Int) : Int := if ph = 0 then f else if v ≠ pv then f else fr
/-- The event's bits, the phase behind them. -/
def oF (N D p r f t v : Int) : List Ev := bitsE N D r v (decide (p = 2)) (cnt N D (f - r)) (cnt N D (t - r) - cnt N D (f - r)).toNat
def qF (N D p r f t : Int) : Int := if cnt N D (f - r) < cnt N D (t - r) then 1 else p

theorem mac_four {w : World} {b : Nat} {N D ph at' fr pv : Int} (h : MacAt w b N D ph at' fr pv) (p f t v : Int) : MacAt ((((w.setCell ⟨b, 2, none⟩ (.int .i64 p)).setCell ⟨b, 4, none⟩ (.int .i64 f)).setCell ⟨b, 3, none⟩ (.int .i64 t)).setCell ⟨b, 8, none⟩ (.int .i64 v)) b N D p t f v := by
  simpa using (((h.set 2 (.int .i64 p)).set 4 (.int .i64 f)).set 3 (.int .i64 t)).set 8 (.int .i64 v)
theorem mac_two {w : World} {b : Nat} {N D ph at' fr pv : Int} (h : MacAt w b N D ph at' fr pv) (t v : Int) : MacAt ((w.setCell ⟨b, 3, none⟩ (.int .i64 t)).setCell ⟨b, 8, none⟩ (.int .i64 v)) b N D ph t fr v := by
  simpa using (h.set 3 (.int .i64 t)).set 8 (.int .i64 v)

set_option maxRecDepth 20000 in
set_option maxHeartbeats 4000000 in
theorem step_none (b : Nat) (N D ph at' fr pv k f t v a : Int) (s : ByteArray) (u : Int) (w : World) (hm : MacAt w b N D ph at' fr pv) (hs : s.size ≤ 140737488351232) (hr : (ph = 0 ↔ at' = 0) ∧ 0 ≤ fr ∧ fr ≤ at') (hA : ¬ AcL ph at' k f t v a s.size u) :
    Calls Try.prog 62 #[.pointer (some ⟨b, 0, none⟩), .agg (evA k f t v a s u)] w fun e w' => e = .returned (.slice none 0 0) ∧ Below w.heap.size w w' := by
  obtain ⟨W, q, eW, eq, lq, r0, B0⟩ := box7 w (evA k f t v a s u)
  have HA : Hid (∀ W', Below w.heap.size w W' → Calls Try.prog 98 #[.pointer (some ⟨b, 0, none⟩), .agg (evA k f t v a s u)] W' fun e w' => e = .returned (.bool false) ∧ Below W'.heap.size W' w') := Lib.hid fun W' hb => by have := accepts_any b N D ph at' fr pv k f t v a s u W' (hm.keep hb) hs hr; rwa [decide_eq_false hA] at this
  have HB0 := Lib.hid B0
  obtain ⟨⟨c0, c1, c2, c3, c4, c5, c6⟩, c7⟩ := row7 r0
  clear hm hA hr r0
  go_enter Try.func62, Try.ntmps62
  go_upto_region 1 with (fail)
  rw [← eW, ← eq]
  clear eW eq
  go_wp2_with (go_at_call 98; go_must (refine (HA.out _ HB0.out).mono ?_; rintro e1 w1 ⟨rfl, b1⟩))
  go_returns
  exact ⟨rfl, HB0.out.trans (b1.mono HB0.out.size)⟩

set_option maxRecDepth 20000 in
set_option maxHeartbeats 8000000 in
theorem step_first (b : Nat) (N D at' fr pv k f t v a : Int) (s : ByteArray) (u : Int) (w : World) (h : Bt N D) (hm : MacAt w b N D 0 at' fr pv) (hs : s.size ≤ 140737488351232) (hr : ((0 : Int) = 0 ↔ at' = 0) ∧ 0 ≤ fr ∧ fr ≤ at') (hA : AcL 0 at' k f t v a s.size u) :
    Calls Try.prog 62 #[.pointer (some ⟨b, 0, none⟩), .agg (evA k f t v a s u)] w fun e w' => ∃ V, e = .returned V ∧ EvRow w' w.heap.size V (oF N D 1 f f t v) ∧ MacAt w' b N D (qF N D 1 f f t) t f v ∧ Kp [b] w w' := by
  obtain ⟨W, q, eW, eq, lq, r0, B0⟩ := box7 w (evA k f t v a s u)
  have HA : Hid (∀ W', Below w.heap.size w W' → Calls Try.prog 98 #[.pointer (some ⟨b, 0, none⟩), .agg (evA k f t v a s u)] W' fun e w' => e = .returned (.bool true) ∧ Below W'.heap.size W' w') := Lib.hid fun W' hb => by have := accepts_any b N D 0 at' fr pv k f t v a s u W' (hm.keep hb) hs hr; rwa [decide_eq_true hA] at this
  obtain ⟨g0, g1, g2, G5⟩ : 0 ≤ f ∧ f ≤ t ∧ t ≤ 1099511627776 ∧ Hid (0 = 0 ∨ f = at') := ⟨hA.1.2.2.1, hA.1.2.2.2.1, hA.1.2.2.2.2.1, Lib.hid hA.2.2.2.2.2⟩
  have HB0 := Lib.hid B0
  have HM0 := Lib.hid hm
  have HR0 := Lib.hid r0
  have lb := RowAt.lt hm
  have hbq : b ≠ q := by omega
  have hqb : q ≠ b := by omega
  obtain ⟨⟨c0, c1, c2, c3, c4, c5, c6⟩, c7⟩ := row7 r0
  have HBi : Hid (∀ W', MacAt W' b N D 1 t f v → Calls Try.prog 100 #[.pointer (some ⟨b, 0, none⟩), .int .i64 f] W' fun e w' => ∃ V, e = .returned V ∧ EvRow w' W'.heap.size V (oF N D 1 f f t v) ∧ MacAt w' b N D (qF N D 1 f f t) t f v ∧ Kp [b] W' w') := Lib.hid fun W' hW => bits_any b N D 1 t f v f W' h hW (by omega) (Int.le_refl f) g1 g2
  clear hr hm r0 hA
  go_enter Try.func62, Try.ntmps62
  go_upto_region 1 with (fail)
  rw [← eW, ← eq]
  clear eW eq
  go_wp2_with (go_at_call 98; go_must (refine (HA.out _ HB0.out).mono ?_; rintro e1 w1 ⟨rfl, b1⟩; have hM1 : MacAt w1 b N D 0 at' fr pv := HM0.out.keep (HB0.out.trans (b1.mono HB0.out.size)); have M1 := Lib.hid hM1; have R1 := Lib.hid (HR0.out.keep b1); obtain ⟨⟨d0, d1, d2, d3, d4, d5, d6⟩, d7⟩ := row7 (HR0.out.keep b1); obtain ⟨⟨i0, i1, i2, i3, i4, i8⟩, iz, il⟩ := MacAt.six hM1; have B1 := Lib.hid (HB0.out.trans (b1.mono HB0.out.size)); have s1 := B1.out.size; clear b1 hM1 c0 c1 c2 c3 c4 c5 c6 c7))
  go_region
  go_wp2
  go_region
  go_wp2_with (go_at_call 100; go_must (refine (HBi.out _ (RowAt.drew1 (RowAt.drew1 (mac_four M1.out 1 f t v)))).mono ?_; rintro e2 w2 ⟨V2, rfl, r2, m2, k2⟩))
  go_returns
  exact ⟨_, rfl, r2.mono (Kp.size (((((((Kp.of_below B1.out).set1 2 _).set1 4 _).set1 3 _).set1 8 _).drew).drew)), m2, (((((((Kp.of_below B1.out).set1 2 _).set1 4 _).set1 3 _).set1 8 _).drew).drew).trans k2⟩

set_option maxRecDepth 20000 in
set_option maxHeartbeats 8000000 in
theorem step_same (b : Nat) (N D ph at' fr pv k f t v a : Int) (s : ByteArray) (u : Int) (w : World) (h : Bt N D) (hm : MacAt w b N D ph at' fr pv) (hs : s.size ≤ 140737488351232) (hri : ph = 0 ↔ at' = 0) (hr : 0 ≤ fr ∧ fr ≤ at') (hp : ph ≠ 0) (hv : v = pv)  (hA : AcL ph at' k f t v a s.size u) :
    Calls Try.prog 62 #[.pointer (some ⟨b, 0, none⟩), .agg (evA k f t v a s u)] w fun e w' => ∃ V, e = .returned V ∧ EvRow w' w.heap.size V (oF N D ph fr f t v) ∧ MacAt w' b N D (qF N D ph fr f t) t fr v ∧ Kp [b] w w' := by
  obtain ⟨W, q, eW, eq, lq, r0, B0⟩ := box7 w (evA k f t v a s u)
  have HA : Hid (∀ W', Below w.heap.size w W' → Calls Try.prog 98 #[.pointer (some ⟨b, 0, none⟩), .agg (evA k f t v a s u)] W' fun e w' => e = .returned (.bool true) ∧ Below W'.heap.size W' w') := Lib.hid fun W' hb => by have := accepts_any b N D ph at' fr pv k f t v a s u W' (hm.keep hb) hs ⟨hri, hr⟩; rwa [decide_eq_true hA] at this
  obtain ⟨g0, g1, g2, G5⟩ : 0 ≤ f ∧ f ≤ t ∧ t ≤ 1099511627776 ∧ Hid (ph = 0 ∨ f = at') := ⟨hA.1.2.2.1, hA.1.2.2.2.1, hA.1.2.2.2.2.1, Lib.hid hA.2.2.2.2.2⟩
  have HB0 := Lib.hid B0
  have HM0 := Lib.hid hm
  have HR0 := Lib.hid r0
  have lb := RowAt.lt hm
  have hbq : b ≠ q := by omega
  have hqb : q ≠ b := by omega
  obtain ⟨⟨c0, c1, c2, c3, c4, c5, c6⟩, c7⟩ := row7 r0
  have HBi : Hid (∀ W', MacAt W' b N D ph t fr v → Calls Try.prog 100 #[.pointer (some ⟨b, 0, none⟩), .int .i64 f] W' fun e w' => ∃ V, e = .returned V ∧ EvRow w' W'.heap.size V (oF N D ph fr f t v) ∧ MacAt w' b N D (qF N D ph fr f t) t fr v ∧ Kp [b] W' w') := Lib.hid fun W' hW => bits_any b N D ph t fr v f W' h hW hr.1 (by rcases G5.out with h | h; exact absurd h hp; omega) g1 g2
  have hp' : (ph == 0) = false := by simpa using hp
  have hv' : (v != pv) = false := by simpa using hv
  have hfa : f = at' := by rcases G5.out with h | h; exact absurd h hp; exact h
  have hff : fr ≤ f := by omega
  clear hv hfa
  (try clear hri)
  clear hm r0 hA
  go_enter Try.func62, Try.ntmps62
  go_upto_region 1 with (fail)
  rw [← eW, ← eq]
  clear eW eq
  go_wp2_with (go_at_call 98; go_must (refine (HA.out _ HB0.out).mono ?_; rintro e1 w1 ⟨rfl, b1⟩; have hM1 : MacAt w1 b N D ph at' fr pv := HM0.out.keep (HB0.out.trans (b1.mono HB0.out.size)); have M1 := Lib.hid hM1; have R1 := Lib.hid (HR0.out.keep b1); obtain ⟨⟨d0, d1, d2, d3, d4, d5, d6⟩, d7⟩ := row7 (HR0.out.keep b1); obtain ⟨⟨i0, i1, i2, i3, i4, i8⟩, iz, il⟩ := MacAt.six hM1; have B1 := Lib.hid (HB0.out.trans (b1.mono HB0.out.size)); have s1 := B1.out.size; clear b1 hM1 c0 c1 c2 c3 c4 c5 c6 c7))
  go_region
  go_wp2
  go_region
  go_wp2_with (go_at_call 100; go_must (refine (HBi.out _ (RowAt.drew1 (RowAt.drew1 (mac_two M1.out t v)))).mono ?_; rintro e2 w2 ⟨V2, rfl, r2, m2, k2⟩))
  go_returns
  exact ⟨_, rfl, r2.mono (Kp.size (((((Kp.of_below B1.out).set1 3 _).set1 8 _).drew).drew)), m2, (((((Kp.of_below B1.out).set1 3 _).set1 8 _).drew).drew).trans k2⟩

set_option maxRecDepth 20000 in
set_option maxHeartbeats 8000000 in
theorem step_turn (b : Nat) (N D ph at' fr pv k f t v a : Int) (s : ByteArray) (u : Int) (w : World) (h : Bt N D) (hm : MacAt w b N D ph at' fr pv) (hs : s.size ≤ 140737488351232) (hri : ph = 0 ↔ at' = 0) (hr : 0 ≤ fr ∧ fr ≤ at') (hp : ph ≠ 0) (hv : v ≠ pv)  (hA : AcL ph at' k f t v a s.size u) :
    Calls Try.prog 62 #[.pointer (some ⟨b, 0, none⟩), .agg (evA k f t v a s u)] w fun e w' => ∃ V, e = .returned V ∧ EvRow w' w.heap.size V (oF N D (if irrB N D (f - fr) then 2 else ph) f f t v) ∧ MacAt w' b N D (qF N D (if irrB N D (f - fr) then 2 else ph) f f t) t f v ∧ Kp [b] w w' := by
  obtain ⟨W, q, eW, eq, lq, r0, B0⟩ := box7 w (evA k f t v a s u)
  have HA : Hid (∀ W', Below w.heap.size w W' → Calls Try.prog 98 #[.pointer (some ⟨b, 0, none⟩), .agg (evA k f t v a s u)] W' fun e w' => e = .returned (.bool true) ∧ Below W'.heap.size W' w') := Lib.hid fun W' hb => by have := accepts_any b N D ph at' fr pv k f t v a s u W' (hm.keep hb) hs ⟨hri, hr⟩; rwa [decide_eq_true hA] at this
  obtain ⟨g0, g1, g2, G5⟩ : 0 ≤ f ∧ f ≤ t ∧ t ≤ 1099511627776 ∧ Hid (ph = 0 ∨ f = at') := ⟨hA.1.2.2.1, hA.1.2.2.2.1, hA.1.2.2.2.2.1, Lib.hid hA.2.2.2.2.2⟩
  have HB0 := Lib.hid B0
  have HM0 := Lib.hid hm
  have HR0 := Lib.hid r0
  have lb := RowAt.lt hm
  have hbq : b ≠ q := by omega
  have hqb : q ≠ b := by omega
  obtain ⟨⟨c0, c1, c2, c3, c4, c5, c6⟩, c7⟩ := row7 r0
  have HBi : Hid (∀ W', MacAt W' b N D (if irrB N D (f - fr) then 2 else ph) t f v → Calls Try.prog 100 #[.pointer (some ⟨b, 0, none⟩), .int .i64 f] W' fun e w' => ∃ V, e = .returned V ∧ EvRow w' W'.heap.size V (oF N D (if irrB N D (f - fr) then 2 else ph) f f t v) ∧ MacAt w' b N D (qF N D (if irrB N D (f - fr) then 2 else ph) f f t) t f v ∧ Kp [b] W' w') := Lib.hid fun W' hW => bits_any b N D (if irrB N D (f - fr) then 2 else ph) t f v f W' h hW (by omega) (Int.le_refl f) g1 g2
  have hp' : (ph == 0) = false := by simpa using hp
  have hv' : (v != pv) = true := by simpa using hv
  have hfa : f = at' := by rcases G5.out with h | h; exact absurd h hp; exact h
  have HCh : Hid (∀ W', MacAt W' b N D ph at' fr pv → Calls Try.prog 99 #[.pointer (some ⟨b, 0, none⟩), .int .i64 f] W' fun e w' => e = .returned (.tuple #[]) ∧ MacAt w' b N D (if irrB N D (f - fr) then 2 else ph) at' f pv ∧ Kp [b] W' w') := Lib.hid fun W' hW => change_any b N D ph at' fr pv f W' h hW (by omega) (by omega) hr.1
  clear hv hfa
  generalize (if irrB N D (f - fr) then (2 : Int) else ph) = P at *
  (try clear hri)
  clear hm r0 hA
  go_enter Try.func62, Try.ntmps62
  go_upto_region 1 with (fail)
  rw [← eW, ← eq]
  clear eW eq
  go_wp2_with (go_at_call 98; go_must (refine (HA.out _ HB0.out).mono ?_; rintro e1 w1 ⟨rfl, b1⟩; have hM1 : MacAt w1 b N D ph at' fr pv := HM0.out.keep (HB0.out.trans (b1.mono HB0.out.size)); have M1 := Lib.hid hM1; have R1 := Lib.hid (HR0.out.keep b1); obtain ⟨⟨d0, d1, d2, d3, d4, d5, d6⟩, d7⟩ := row7 (HR0.out.keep b1); obtain ⟨⟨i0, i1, i2, i3, i4, i8⟩, iz, il⟩ := MacAt.six hM1; have B1 := Lib.hid (HB0.out.trans (b1.mono HB0.out.size)); have s1 := B1.out.size; clear b1 hM1 c0 c1 c2 c3 c4 c5 c6 c7))
  go_region
  go_wp2_with (go_at_call 99; go_must (refine (HCh.out _ (RowAt.drew1 M1.out)).mono ?_; rintro e3 w3 ⟨rfl, m3, k3⟩; obtain ⟨_, jz, jl⟩ := MacAt.six m3; obtain ⟨⟨l0, l1, l2, l3, l4, l5, l6⟩, l7⟩ := row7 (k3.row (RowAt.drew1 R1.out) (by simpa using hqb)); have M3 := Lib.hid m3; have K3 := Lib.hid ((Kp.of_below (X := [b]) B1.out.drew).trans k3); clear m3 k3 i0 i1 i2 i3 i4 i8 iz d0 d1 d2 d3 d4 d5 d6 d7))
  go_region
  go_wp2_with (go_at_call 100; go_must (refine (HBi.out _ (RowAt.drew1 (mac_two M3.out t v))).mono ?_; rintro e2 w2 ⟨V2, rfl, r2, m2, k2⟩))
  go_returns
  exact ⟨_, rfl, r2.mono (Kp.size ((((K3.out).set1 3 _).set1 8 _).drew)), m2, ((((K3.out).set1 3 _).set1 8 _).drew).trans k2⟩

end Go.Proofs.Ytmbeaagpjpphhaa

namespace Go.Proofs.Ytmbeaagpjpphhaa
open Go Go.RowKit Go.Joins
set_option linter.unusedVariables false
set_option linter.unusedSimpArgs false

structure MS where
  ph : Int
  e : Int
  fr : Int
  pv : Int
  o : List Ev
abbrev AcM (m : MS) (e : Ev) : Prop := AcL m.ph m.e e.k e.f e.t e.v e.a e.d.length e.u
def smS (N D : Int) (m : MS) (e : Ev) : MS := if AcM m e then ⟨qF N D (pF N D m.ph m.fr m.pv e.f e.v) (fF m.ph m.fr m.pv e.f e.v) e.f e.t, e.t, fF m.ph m.fr m.pv e.f e.v, e.v, m.o ++ oF N D (pF N D m.ph m.fr m.pv e.f e.v) (fF m.ph m.fr m.pv e.f e.v) e.f e.t e.v⟩ else m
def smR (N D : Int) (l : List Ev) : MS := l.foldl (smS N D) ⟨0, 0, 0, 0, []⟩
theorem smR_snoc (N D : Int) {l : List Ev} {j : Nat} (hj : j < l.length) : smR N D (l.take (j + 1)) = smS N D (smR N D (l.take j)) l[j] := by
  unfold smR
  rw [List.take_succ_eq_append_getElem hj, List.foldl_append]
  rfl
/-- What holds of every state that is reached. -/
def RcM (m : MS) : Prop := (m.ph = 0 ∧ m.o = [] ∧ m.e = 0 ∧ m.fr = 0) ∨ ((m.ph = 1 ∨ m.ph = 2) ∧ 0 ≤ m.fr ∧ m.fr ≤ m.e ∧ m.e ≤ 1099511627776 ∧ (m.o.length : Int) ≤ m.e ∧ 1 ≤ m.e)
theorem rcM_step {N D : Int} (h : Bt N D) {m : MS} (hm : RcM m) (e : Ev) : RcM (smS N D m e) := by
  unfold smS
  by_cases hA : AcM m e
  · rw [if_pos hA]
    obtain ⟨⟨_, _, a0, a1, a2, _⟩, _, _, a3, _, a4⟩ := hA
    right
    have key : ∀ p r : Int, (p = 1 ∨ p = 2) → 0 ≤ r → r ≤ e.f → (qF N D p r e.f e.t = 1 ∨ qF N D p r e.f e.t = 2) ∧ ((oF N D p r e.f e.t e.v).length : Int) ≤ e.t - e.f := by
      intro p r hp r0 r1
      constructor
      · unfold qF; split; exact .inl rfl; exact hp
      · unfold oF; rw [bitsE_len]
        have := cnt_grow h (show e.f - r ≤ e.t - r by omega)
        omega
    rcases hm with ⟨h1, h2, h2e, h2f⟩ | ⟨h1, h2, h3, h4, h5, h6⟩
    · have hf : fF m.ph m.fr m.pv e.f e.v = e.f := by unfold fF; rw [if_pos h1]
      have hp : pF N D m.ph m.fr m.pv e.f e.v = 1 := by unfold pF; rw [if_pos h1]
      obtain ⟨k1, k2⟩ := key 1 e.f (.inl rfl) a0 (Int.le_refl _)
      simp only [hf, hp, h2, List.nil_append]
      exact ⟨k1, a0, a1, a2, by omega, by omega⟩
    · have hne : m.ph ≠ 0 := by omega
      have hfe : e.f = m.e := by rcases a4 with h | h; exact absurd h hne; exact h
      have hp : pF N D m.ph m.fr m.pv e.f e.v = 1 ∨ pF N D m.ph m.fr m.pv e.f e.v = 2 := by
        unfold pF; rw [if_neg hne]; split; split; exact .inr rfl; exact h1; exact h1
      have hf : 0 ≤ fF m.ph m.fr m.pv e.f e.v ∧ fF m.ph m.fr m.pv e.f e.v ≤ e.f := by
        unfold fF; rw [if_neg hne]; split <;> omega
      obtain ⟨k1, k2⟩ := key _ _ hp hf.1 hf.2
      refine ⟨k1, hf.1, by simp only; omega, a2, ?_, by show 1 ≤ e.t; omega⟩
      simp only [List.length_append]
      omega
  · rw [if_neg hA]; exact hm
theorem rcM_all {N D : Int} (h : Bt N D) (l : List Ev) : RcM (smR N D l) := by
  unfold smR
  suffices hh : ∀ (l : List Ev) (m : MS), RcM m → RcM (l.foldl (smS N D) m) from hh l _ (.inl ⟨rfl, rfl, rfl, rfl⟩)
  intro l
  induction l with
  | nil => intro m hm; exact hm
  | cons e l ih => intro m hm; exact ih _ (rcM_step h hm e)
/-- The step alone: the next state, the bits of this event. -/
theorem smS_parts (N D : Int) (m : MS) (e : Ev) : smS N D m e = ⟨(smS N D ⟨m.ph, m.e, m.fr, m.pv, []⟩ e).ph, (smS N D ⟨m.ph, m.e, m.fr, m.pv, []⟩ e).e, (smS N D ⟨m.ph, m.e, m.fr, m.pv, []⟩ e).fr, (smS N D ⟨m.ph, m.e, m.fr, m.pv, []⟩ e).pv, m.o ++ (smS N D ⟨m.ph, m.e, m.fr, m.pv, []⟩ e).o⟩ := by
  unfold smS
  by_cases h : AcL m.ph m.e e.k e.f e.t e.v e.a e.d.length e.u <;> simp [h]

theorem mstep_any (b : Nat) (N D : Int) (m : MS) (e : Ev) (w : World) (h : Bt N D) (hr : RcM m) (hm : MacAt w b N D m.ph m.e m.fr m.pv) (hd : e.d.length ≤ 140737488351232) :
    Calls Try.prog 62 #[.pointer (some ⟨b, 0, none⟩), .agg (evA e.k e.f e.t e.v e.a ⟨e.d.toArray⟩ e.u)] w fun r w' => ∃ V, r = .returned V ∧ EvRow w' w.heap.size V (smS N D ⟨m.ph, m.e, m.fr, m.pv, []⟩ e).o ∧ MacAt w' b N D (smS N D ⟨m.ph, m.e, m.fr, m.pv, []⟩ e).ph (smS N D ⟨m.ph, m.e, m.fr, m.pv, []⟩ e).e (smS N D ⟨m.ph, m.e, m.fr, m.pv, []⟩ e).fr (smS N D ⟨m.ph, m.e, m.fr, m.pv, []⟩ e).pv ∧ Kp [b] w w' := by
  have hs : (⟨e.d.toArray⟩ : ByteArray).size ≤ 140737488351232 := by simpa [ByteArray.size] using hd
  have hz : (⟨e.d.toArray⟩ : ByteArray).size = e.d.length := by simp [ByteArray.size]
  by_cases hA : AcL m.ph m.e e.k e.f e.t e.v e.a e.d.length e.u
  · unfold smS
    rw [if_pos hA]
    simp only [List.nil_append]
    rw [← hz] at hA
    rcases hr with ⟨h1, h2, h2e, h2f⟩ | ⟨h1, h2, h3, h4, h5, h6⟩
    · rw [h1] at hm hA ⊢
      exact step_first b N D m.e m.fr m.pv e.k e.f e.t e.v e.a _ e.u w h hm hs ⟨by simp [h2e], by omega, by omega⟩ hA
    · have hne : m.ph ≠ 0 := by omega
      by_cases hv : e.v = m.pv
      · have hp : pF N D m.ph m.fr m.pv e.f e.v = m.ph := by unfold pF; rw [if_neg hne, if_neg (by simpa using hv)]
        have hf : fF m.ph m.fr m.pv e.f e.v = m.fr := by unfold fF; rw [if_neg hne, if_neg (by simpa using hv)]
        rw [hp, hf]
        exact step_same b N D m.ph m.e m.fr m.pv e.k e.f e.t e.v e.a _ e.u w h hm hs ⟨fun h => absurd h hne, fun h => by omega⟩ ⟨h2, h3⟩ hne hv hA
      · have hp : pF N D m.ph m.fr m.pv e.f e.v = (if irrB N D (e.f - m.fr) then 2 else m.ph) := by unfold pF; rw [if_neg hne, if_pos hv]
        have hf : fF m.ph m.fr m.pv e.f e.v = e.f := by unfold fF; rw [if_neg hne, if_pos hv]
        rw [hp, hf]
        exact step_turn b N D m.ph m.e m.fr m.pv e.k e.f e.t e.v e.a _ e.u w h hm hs ⟨fun h => absurd h hne, fun h => by omega⟩ ⟨h2, h3⟩ hne hv hA
  · unfold smS
    rw [if_neg hA]
    rw [← hz] at hA
    refine (step_none b N D m.ph m.e m.fr m.pv e.k e.f e.t e.v e.a _ e.u w hm hs ?_ hA).mono ?_
    · rcases hr with ⟨h1, h2, h2e, h2f⟩ | ⟨h1, h2, h3, h4, h5, h6⟩
      · exact ⟨⟨fun _ => h2e, fun _ => h1⟩, by omega, by omega⟩
      · exact ⟨⟨fun h => by omega, fun h => by omega⟩, h2, h3⟩
    · rintro r w' ⟨rfl, hb⟩
      exact ⟨_, rfl, KRow.nil _ _, RowAt.keep hm hb, Kp.of_below hb⟩

end Go.Proofs.Ytmbeaagpjpphhaa
