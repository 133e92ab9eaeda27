/-
  Encode.
  Stored captures, plain mathematics: what the stored form of a capture gives; damage.
  The chapter's examples.
  The walk of the statement BlockRoundTrips. (Written by tools/s10_genlD.py.)
  The walk of the statement BlockRandomAccess. (Written by tools/s10_genlD.py.)
-/
import Derived.Test.YtillcmddbjhepaaDoorZ27
import Derived.Test.YtillcmddbjhepaaDoorZ23
import Derived.Test.YtillcmddbjhepaaDoorZ17
import Derived.Deep.RegionHeld3
import Derived.Deep.RegionWith
import Derived.Deep.DeepCutAuto
import Derived.Test.YtillcmddbjhepaaDoorZ26
import Derived.BigQuiet
import Derived.Test.YtillcmddbjhepaaDoorZ11
namespace Go.Proofs.YtillcmddbjhepaaDoor
open Go Go.RowKit Go.Joins
open Si (Rn RnRow RnArg NmArg NmRow lg ckC jn szs)
set_option linter.unusedVariables false
set_option linter.unusedSimpArgs false

theorem nms_len : ∀ (N : List ByteArray), (∀ j (hj : j < N.length), N[j].size ≤ 16) → (nms N).length ≤ 26 * N.length
  | [], _ => Nat.le_refl _
  | s :: N, h => by
    have h0 := h 0 (by simp)
    have ih := nms_len N (fun j hj => h (j + 1) (by simpa using hj))
    have e : nms (s :: N) = nm1 s ++ nms N := rfl
    have h1 : (nm1 s).length ≤ 26 := by unfold nm1; rw [List.length_append, ← size_len]; have := Sb.put_ten (n := s.size) (by simp at h0; omega); simp at h0; omega
    rw [e, List.length_append, List.length_cons]
    omega
theorem entsP_len : ∀ (l : List Pt), (∀ j (hj : j < l.length), l[j].1 ≤ 9223372036854775807 ∧ l[j].2.2.2.1 ≤ 9223372036854775807) → (entsP l).length ≤ 24 * l.length
  | [], _ => Nat.le_refl _
  | p :: l, h => by
    have h0 := h 0 (by simp)
    have ih := entsP_len l (fun j hj => h (j + 1) (by simpa using hj))
    have e : entsP (p :: l) = entP p ++ entsP l := rfl
    simp only [List.getElem_cons_zero] at h0
    have h1 := Sb.put_ten (n := p.1) (by omega)
    have h2 := Sb.put_ten (n := p.2.2.2.1) (by omega)
    have h3 : (entP p).length ≤ 24 := by unfold entP; rw [List.length_append, List.length_append, four_len]; omega
    rw [e, List.length_append, List.length_cons]
    omega
theorem hdP_len {N : List ByteArray} {n t : Nat} {l : List Pt} (hN : N.length ≤ 16) (hN2 : ∀ j (hj : j < N.length), N[j].size ≤ 16) (hn : n ≤ 9223372036854775807) (ht : t ≤ 9223372036854775807) (hl : l.length ≤ 65536)
    (hl2 : ∀ j (hj : j < l.length), l[j].1 ≤ 9223372036854775807 ∧ l[j].2.2.2.1 ≤ 9223372036854775807) : (hdP N n t l).length ≤ 459 + 24 * l.length := by
  have h1 := nms_len N hN2
  have h2 := entsP_len l hl2
  have h3 := Sb.put_ten (n := N.length) (by omega)
  have h4 := Sb.put_ten (n := n) (by omega)
  have h5 := Sb.put_ten (n := t) (by omega)
  have h6 := Sb.put_ten (n := l.length) (by omega)
  unfold hdP
  simp only [List.length_append, List.length_cons, List.length_nil]
  omega

/-- Two stores into a box of two cells. -/
theorem twoC {w : World} {b : Nat} {x y : Value} {T : TypeId} (h : RowAt w b T #[x, y]) (b1 : Nat) (h1 : b1 = b) (u : Value) : w.cell? ⟨b, 0, none⟩ = some x ∧ w.cell? ⟨b, 1, none⟩ = some y ∧ w.frozen? ⟨b, 0, none⟩ = false ∧ w.frozen? ⟨b, 1, none⟩ = false ∧ (w.setCell ⟨b, 0, none⟩ u).cell? ⟨b, 1, none⟩ = some y ∧ (w.setCell ⟨b, 0, none⟩ u).frozen? ⟨b, 1, none⟩ = false :=
  ⟨h.cell 0, h.cell 1, h.frozen 0, h.frozen 1, (h.set 0 u).cell 1, (h.set 0 u).frozen 1⟩
theorem box_set {w w3 : World} {b B : Nat} {T T2 : TypeId} {x y vr : Value} {cs : Array Value} {L : List Rn} (Q3 : RowAt w3 b T #[x, y]) (r2 : RnRow w3 B vr L) (hbB : b < B) (hwB : w.heap.size ≤ B) (hwb : w.heap.size < b) (B3 : Below w.heap.size w w3) (P3 : RowAt w3 w.heap.size T2 cs) (u v : Value) :
    RowAt ((w3.setCell ⟨b, 0, none⟩ u).setCell ⟨b, 1, none⟩ v) b T #[u, v] ∧ RnRow ((w3.setCell ⟨b, 0, none⟩ u).setCell ⟨b, 1, none⟩ v) w.heap.size vr L ∧ Below w.heap.size w ((w3.setCell ⟨b, 0, none⟩ u).setCell ⟨b, 1, none⟩ v) ∧ RowAt ((w3.setCell ⟨b, 0, none⟩ u).setCell ⟨b, 1, none⟩ v) w.heap.size T2 cs := by
  have e : ∀ (X : World) (i : Nat) (z : Value) (q : Nat), q ≠ b → (X.setCell ⟨b, i, none⟩ z).heap[q]? = X.heap[q]? := fun X i z q hq => heap_setCell_other _ _ _ _ (fun h => hq h)
  refine ⟨(Q3.set 0 u).set 1 v, (KRow.others r2 (b := b) (fun q hq => (e _ _ _ q hq).trans (e _ _ _ q hq)) hbB).mono hwB, Below.setCell (p := ⟨b, 1, none⟩) (Below.setCell (p := ⟨b, 0, none⟩) B3 (Nat.le_of_lt hwb) _) (Nat.le_of_lt hwb) _, ?_⟩
  exact (e _ _ _ _ (Nat.ne_of_lt hwb)).trans ((e _ _ _ _ (Nat.ne_of_lt hwb)).trans P3)
theorem sl_whole (l : List Rn) : ∀ (b f t : Int), Si.ps l → f ≤ b → b + lg l ≤ t → Si.sl b l f t = l := by
  induction l with
  | nil => intro b f t _ _ _; rfl
  | cons r l ih =>
    intro b f t h h1 h2
    rw [Si.ps_cons] at h
    have h0 := Si.ps_nonneg h.2
    have e : lg (r :: l) = r.2 + lg l := rfl
    rw [e] at h2
    rw [Si.sl_cons, Si.s1_yes (by omega), ih (b + r.2) f t h.2 (by omega) (by omega)]
    have h3 : min (b + r.2) t - max b f = r.2 := by omega
    rw [h3]
    rfl
theorem slR_all {N : List ByteArray} {R : List Rn} (h : ckC N R = 0) : Si.slR N R 0 (lg R) = jn R := by
  obtain ⟨h1, h2, h3, h4, h5, h6⟩ := Si.ckC_ok h
  have hps := ((Si.vr_iff _ R 0 (by omega)).1 h6).2.1
  by_cases h0 : lg R ≤ 0
  · have he : R = [] := by
      cases R with
      | nil => rfl
      | cons r l =>
        rw [Si.ps_cons] at hps
        have := Si.ps_nonneg hps.2
        have e : lg (r :: l) = r.2 + lg l := rfl
        rw [e] at h0
        omega
    subst he
    rw [(Si.slN_n (show ¬ Si.slE N [] 0 (lg []) = 0 by unfold Si.slE; rw [if_neg (by rw [h]; decide)]; decide)).2]
    rfl
  · have hz : Si.slE N R 0 (lg R) = 0 := by unfold Si.slE; rw [if_neg (by rw [h]; decide), if_neg (by omega)]
    rw [(Si.slN_0 hz).2]
    unfold Si.prt
    rw [sl_whole R 0 0 (lg R) hps (Int.le_refl _) (by omega)]

set_option maxRecDepth 100000 in
set_option maxHeartbeats 16000000 in
theorem encode_any (N : List ByteArray) (R : List Rn) (vN vR : Value) (w : World) (hE : Sd.Env w) (hN : NmArg w vN N) (hs : szs N) (hR : RnArg w vR R) (hn : R.length ≤ 1099511627776) :
    Calls Tryd.prog 8 #[.agg #[vN, vR]] w fun e w' => ∃ S : ByteArray, e = .returned (.tuple #[.string S, .int .i64 (ckC N R)]) ∧ S.data.toList = encS N R ∧ Below w.heap.size w w' := by
  have CC := Lib.hid (fun w' (hb : Below w.heap.size w w') => Si.check_any N R vN vR w' (hN.keep hb) hs (hR.keep hb) hn)
  have CG := Lib.hid (fun w' (hb : Below w.heap.size w w') => Si.longC_any N R vN vR w' (hN.keep hb) hs (hR.keep hb) hn)
  have CS := Lib.hid (fun F T w' (hb : Below w.heap.size w w') => Si.slice_any N R vN vR F T w' (hN.keep hb) hs (hR.keep hb) hn)
  have HNA := Lib.hid (fun w' (hb : Below w.heap.size w w') => hN.keep hb)
  obtain ⟨A1, c1, rfl, hc1, hA1⟩ := hN.form
  obtain ⟨A2, c2, rfl⟩ := hR.form
  have B0 := Lib.hid (ba w (.cells #[.slice A1 N.length c1, .slice A2 R.length c2] 25))
  have P0 := Lib.hid (RowAt.new w 25 #[.slice A1 N.length c1, .slice A2 R.length c2])
  have HE := Lib.hid hE
  clear hN hR hA1 hE
  by_cases hz : ckC N R = 0
  case neg =>
    have hz' : (ckC N R != 0) = true := by simpa using hz
    have HX := Lib.hid (show encS N R = [] by unfold encS; rw [if_neg hz])
    clear CG CS hs HNA
    generalize ckC N R = c at *
    generalize N.length = n at *
    generalize R.length = r at *
    go_enter Tryd.func8, Tryd.ntmps8
    go_wp2_with (first
      | (go_at_call 9; go_must (refine (CC.out _ B0.out).mono ?_; rintro e1 w1 ⟨rfl, b1⟩))
      | fail)
    go_returns
    exact ⟨_, rfl, HX.out.symm, B0.out.trans (b1.mono B0.out.size)⟩
  obtain ⟨hl1, hN0, hN1, hN2, hN3, hv⟩ := Si.ckC_ok hz
  have HX := Lib.hid (show encS N R = enc N (jn R) by unfold encS; rw [if_pos hz])
  have HNS := Lib.hid (fun j (hj : j < N.length) => show N[j].size ≤ 16 by rw [size_len]; exact Si.nm_le (Si.all_at hN3 j hj))
  have hlg := Si.lgC_yes hz
  have hsl := slR_all hz
  have hjn := Si.jn_vr hv
  have hJl : (jn R).length ≤ 262144 := Nat.le_trans (Si.jn_len R) hl1
  have hjl := Si.jn_lg R
  have hrg := Si.lg_take_range hjn 0
  have HV := Lib.hid hjn
  have CS2 := Lib.hid (fun w' (hb : Below w.heap.size w w') => CS.out 0 (lg R) w' hb)
  rw [hsl] at CS2
  rw [hz] at CC ⊢
  rw [hlg, ← hjl] at CG
  rw [← hjl] at CS2
  obtain ⟨t, ht⟩ : ∃ t : Nat, lg (jn R) = t := ⟨(lg (jn R)).toNat, by rw [hjl]; rw [hjl] at hrg; omega⟩
  rw [ht] at CG CS2
  have HT := Lib.hid ht
  have htm : t ≤ 1099511627776 := by omega
  clear CS hs hjn hv hN3 hN0 hz hlg hsl hjl hrg ht
  generalize Si.slE N R 0 (t : Int) = eS at *
  generalize jn R = L at *
  generalize R.length = r at *
  go_enter Tryd.func8, Tryd.ntmps8
  go_upto_region 4 with (first
    | (go_at_call 9; go_must (refine (CC.out _ B0.out).mono ?_; rintro e1 w1 ⟨rfl, b1⟩; have B1 := Lib.hid (B0.out.trans (b1.mono B0.out.size)); have P1 := Lib.hid (P0.out.keep b1); clear b1))
    | fail)
  have g0 : w1.drew.cell? ⟨w.heap.size, 0, none⟩ = some (.slice A1 N.length c1) := P1.out.cell 0
  have g1 : w1.drew.cell? ⟨w.heap.size, 1, none⟩ = some (.slice A2 r c2) := P1.out.cell 1
  have B1d := Lib.hid B1.out.drew
  have P1d := Lib.hid (show RowAt w1.drew w.heap.size 25 #[.slice A1 N.length c1, .slice A2 r c2] from P1.out)
  have g8 : w1.cell? ⟨w.heap.size, 0, none⟩ = some (.slice A1 N.length c1) := P1.out.cell 0
  have g9 : w1.cell? ⟨w.heap.size, 1, none⟩ = some (.slice A2 r c2) := P1.out.cell 1
  have B1a := Lib.hid ((B1.out.alloc B1.out.size (.cells #[.slice none 0 0, .slice none 0 0] 25)).drew)
  have g4 : (w1.drew.alloc (.cells #[.slice none 0 0, .slice none 0 0] 25)).cell? ⟨w.heap.size, 0, none⟩ = some (.slice A1 N.length c1) := (P1d.out.alloc _).cell 0
  have g5 : (w1.drew.alloc (.cells #[.slice none 0 0, .slice none 0 0] 25)).cell? ⟨w.heap.size, 1, none⟩ = some (.slice A2 r c2) := (P1d.out.alloc _).cell 1
  have hlt1 : w.heap.size < w1.heap.size := P1.out.lt
  have hne1 : ¬ w.heap.size = w1.heap.size := Nat.ne_of_lt hlt1
  have HZB := Lib.hid (fun W => RowAt.new W 25 #[.slice none 0 0, .slice none 0 0])
  clear CC
  go_cut [5, 6] from 16 to 22 (fun p e wx => ∃ (b : Nat) (Av : Option Addr) (nv cv : Nat) (Ar : Option Addr) (cr : Nat), p = .pointer (some ⟨b, 0, none⟩) ∧ e = .int .i64 eS ∧ Hid (RowAt wx b 25 #[.slice Av nv cv, .slice Ar L.length cr]) ∧ Hid (RnRow wx w.heap.size (.slice Ar L.length cr) L) ∧ Hid (Below w.heap.size w wx) ∧ Hid (RowAt wx w.heap.size 25 #[.slice A1 N.length c1, .slice A2 r c2]))
  case first =>
    go_region_with (first
      | (go_at_call 21; first
        | (refine (CG.out w1.drew B1d.out).mono ?_; rintro e2 w2 ⟨rfl, b2⟩; have B2 := Lib.hid (B1d.out.trans (b2.mono B1d.out.size)); have P2 := Lib.hid (P1d.out.keep b2); have hlt2 : w.heap.size < w2.heap.size := P2.out.lt; have hne2 : ¬ w.heap.size = w2.heap.size := Nat.ne_of_lt hlt2; have g2 : w2.cell? ⟨w.heap.size, 0, none⟩ = some (.slice A1 N.length c1) := P2.out.cell 0; have g3 : w2.cell? ⟨w.heap.size, 1, none⟩ = some (.slice A2 r c2) := P2.out.cell 1; have g6 : (w2.alloc (.cells #[.slice none 0 0, .slice none 0 0] 25)).cell? ⟨w.heap.size, 0, none⟩ = some (.slice A1 N.length c1) := (P2.out.alloc _).cell 0; have g7 : (w2.alloc (.cells #[.slice none 0 0, .slice none 0 0] 25)).cell? ⟨w.heap.size, 1, none⟩ = some (.slice A2 r c2) := (P2.out.alloc _).cell 1)
        | (refine (CG.out ((w1.alloc (.cells #[.slice none 0 0, .slice none 0 0] 25)).drew) B1a.out).mono ?_; rintro e2 w2 ⟨rfl, b2⟩; have B2 := Lib.hid (B1a.out.trans (b2.mono B1a.out.size)); have P2 := Lib.hid (RowAt.keep (w := (w1.alloc (.cells #[.slice none 0 0, .slice none 0 0] 25)).drew) (b := w.heap.size) (T := 25) (cs := #[.slice A1 N.length c1, .slice A2 r c2]) (P1.out.alloc _) b2); have hlt2 : w.heap.size < w2.heap.size := P2.out.lt; have hne2 : ¬ w.heap.size = w2.heap.size := Nat.ne_of_lt hlt2; have Q2 := Lib.hid (RowAt.keep (w := (w1.alloc (.cells #[.slice none 0 0, .slice none 0 0] 25)).drew) (b := w1.heap.size) (T := 25) (cs := #[.slice none 0 0, .slice none 0 0]) (HZB.out w1) b2); have g2 : w2.cell? ⟨w.heap.size, 0, none⟩ = some (.slice A1 N.length c1) := P2.out.cell 0; have g3 : w2.cell? ⟨w.heap.size, 1, none⟩ = some (.slice A2 r c2) := P2.out.cell 1))
      | (go_at_call 18; first
        | (refine (CS2.out w2 B2.out).mono ?_; rintro e3 w3 ⟨v1, v2, rfl, r1, r2, b3⟩; obtain ⟨Av, nv, cv, rfl, hnv⟩ := KRow.form r1; obtain ⟨Ar, nr, cr, rfl, rfl⟩ := KRow.form r2; clear hnv; have B3 := Lib.hid (B2.out.trans (b3.mono B2.out.size)); have P3 := Lib.hid (P2.out.keep b3); have R2 := Lib.hid (r2.mono B2.out.size); try (have Q3 := Lib.hid (Q2.out.keep b3); have FIN := Lib.hid (fun u v => box_set Q3.out r2 Q2.out.lt B2.out.size hlt1 B3.out P3.out u v); obtain ⟨z0, z1, z2, z3, z4, z5⟩ := twoC Q3.out _ rfl (.slice Av nv cv)))
        | (refine (CS2.out (w2.alloc _) (B2.out.alloc B2.out.size _)).mono ?_; rintro e3 w3 ⟨v1, v2, rfl, r1, r2, b3⟩; obtain ⟨Av, nv, cv, rfl, hnv⟩ := KRow.form r1; obtain ⟨Ar, nr, cr, rfl, rfl⟩ := KRow.form r2; clear hnv; have B3 := Lib.hid ((B2.out.alloc B2.out.size _).trans (b3.mono (B2.out.alloc B2.out.size _).size)); have P3 := Lib.hid ((P2.out.alloc _).keep b3); have R2 := Lib.hid (r2.mono (B2.out.alloc B2.out.size _).size); have Q3 := Lib.hid ((HZB.out w2).keep b3); have FIN := Lib.hid (fun u v => box_set Q3.out r2 (HZB.out w2).lt (B2.out.alloc B2.out.size _).size hlt2 B3.out P3.out u v); obtain ⟨z0, z1, z2, z3, z4, z5⟩ := twoC Q3.out _ rfl (.slice Av nv cv))))
    all_goals
      go_wp2_with fail
      go_meet
      first
        | exact ⟨_, Av, nv, cv, Ar, cr, rfl, rfl, Lib.hid (RowAt.new w3 _ _), Lib.hid (R2.out.alloc _), Lib.hid (B3.out.alloc B3.out.size _), Lib.hid (P3.out.alloc _)⟩
        | exact ⟨_, Av, nv, cv, Ar, cr, rfl, rfl, Lib.hid (FIN.out _ _).1, Lib.hid (FIN.out _ _).2.1, Lib.hid (FIN.out _ _).2.2.1, Lib.hid (FIN.out _ _).2.2.2⟩
  case rest =>
    obtain ⟨b, Av, nv, cv, Ar, cr, rfl, rfl, HQ, HR, HB, HP⟩ := hcut
    clear B0 P0 B1 P1 g0 g1 B1d P1d HZB g4 g5 g8 g9 hlt1 hne1 B1a CS2
    have HDV := Lib.hid (divided_any (Si.mk N.length) L (.slice Ar L.length cr) wc (HE.out.below HB.out) (KRow.arg Si.rnC_size HR.out) (KRow.cap HR.out) hJl HV.out (by
      have : 2 ^ N.length ≤ 2 ^ 16 := Nat.pow_le_pow_right (by omega) hN2
      rw [Si.mk_nat]; omega))
    have HLB := Lib.hid (fun k => lg_blk ((Si.vr_iff _ L 0 (by omega)).1 HV.out).2.1 k)
    have HRG := Lib.hid (fun k => Si.lg_take_range HV.out k)
    have HLV := Lib.hid (fun j (hj : j < L.length) => Si.el_range HV.out j hj)
    obtain ⟨nb, hnb⟩ : ∃ nb, bkN L.length = nb := ⟨_, rfl⟩
    have hnb1 : nb ≤ 16384 := by rw [← hnb]; unfold bkN; omega
    have HNB := Lib.hid hnb
    rw [hnb] at HDV
    clear hnb
    have g5 := HQ.out.cell 1
    go_wp2_with (first
      | (go_at_call 22; go_must (refine HDV.out.mono ?_; rintro e4 wd ⟨v4, rfl, r4, b4⟩; obtain ⟨Ap, np, cp, rfl, hnp⟩ := KRow.form r4; rw [pts_len] at hnp; subst hnp; have R4 := Lib.hid r4; have B4 := Lib.hid b4; clear r4 b4))
      | fail)
    have PD := Lib.hid (HP.out.keep B4.out)
    have QD := Lib.hid (HQ.out.keep B4.out)
    have BD := Lib.hid (HB.out.trans (B4.out.mono HB.out.size))
    have HPT := Lib.hid (KRow.arg ptC_size R4.out)
    have HPB := Lib.hid (show ∀ j (hj : j < (pts L np).length), (pts L np)[j].1 ≤ 9223372036854775807 ∧ (pts L np)[j].2.2.2.1 ≤ 9223372036854775807 ∧ (pts L np)[j].2.2.2.2.1 < 4294967296 by
      intro j hj
      rw [pts_at]
      have h1 := HRG.out (16 * j)
      have h2 := ck_lt (bb (blk L j))
      refine ⟨by show (lg (L.take (16 * j))).toNat ≤ _; omega, ?_, h2⟩
      show (bb (blk L j)).length ≤ _
      have h3 : (bb (blk L j)).length ≤ 20 * (blk L j).length := bb_len (fun r hr => by
        have hm : r ∈ L := List.mem_of_mem_drop (List.mem_of_mem_take hr)
        obtain ⟨i, hi, rfl⟩ := List.getElem_of_mem hm
        have := HLV.out i hi
        have hp : 2 ^ N.length ≤ 2 ^ 16 := Nat.pow_le_pow_right (by omega) hN2
        have := Si.mk_nat N.length
        omega)
      have h4 := blk_len L j
      have h5 := szN_le L.length j
      omega)
    have PH := Lib.hid (fun W (hb : Below wd.heap.size wd W) => putHead_any N L.length t (pts L np) (.slice A1 N.length c1) (.slice Ap np cp) W ((HE.out.below BD.out).below hb) (HNA.out _ (BD.out.trans (hb.mono BD.out.size))) hN2 HNS.out (by omega) (by omega) (HPT.out.keep hb) (by rw [pts_len]; omega) HPB.out)
    have CGD := Lib.hid (fun W (hb : Below wd.heap.size wd W) => CG.out W (BD.out.trans (hb.mono BD.out.size)))
    have HS := Lib.hid (fun W (hb : Below wd.heap.size wd W) => show W.cell? ⟨w.heap.size, 0, none⟩ = some (.slice A1 N.length c1) ∧ W.cell? ⟨w.heap.size, 1, none⟩ = some (.slice A2 r c2) ∧ W.cell? ⟨b, 1, none⟩ = some (.slice Ar L.length cr) ∧ Below wd.heap.size wd W from ⟨(PD.out.keep hb).cell 0, (PD.out.keep hb).cell 1, (QD.out.keep hb).cell 1, hb⟩)
    have HS0 := Lib.hid (HS.out wd.drew (Below.refl _ _).drew)
    clear g5
    go_region_held3 (fun W => W.cell? ⟨w.heap.size, 0, none⟩ = some (.slice A1 N.length c1) ∧ W.cell? ⟨w.heap.size, 1, none⟩ = some (.slice A2 r c2) ∧ W.cell? ⟨b, 1, none⟩ = some (.slice Ar L.length cr) ∧ Below wd.heap.size wd W) (first | exact HS0.out | assumption | go_keep)
      (first
        | (go_at_call 21; refine (CGD.out _ (And.right (And.right (And.right (by assumption))))).mono ?_; rintro e5 w5 ⟨rfl, b5⟩; have h5 := HS.out w5 (Below.trans (And.right (And.right (And.right (by assumption)))) (b5.mono (Below.size (And.right (And.right (And.right (by assumption))))))))
        | (go_at_call 23; refine (PH.out _ (And.right (And.right (And.right (by assumption))))).mono ?_; rintro e6 w6 ⟨g6, m6, c6, rfl, o6, b6⟩; have B6 := Lib.hid (Below.trans (And.right (And.right (And.right (by assumption)))) (b6.mono (Below.size (And.right (And.right (And.right (by assumption))))))); have O6 := Lib.hid (o6.mono (Below.size (And.right (And.right (And.right (by assumption)))))); have h6 := HS.out w6 B6.out))
    clear h5 h6 o6 PH CGD HS HS0 CG
    have hm6 : m6 ≤ 2000000 := by
      have h1 := O6.out.len
      have h2 := hdP_len (n := L.length) (t := t) (l := pts L np) hN2 HNS.out (by omega) (by omega) (by rw [pts_len]; omega) (fun j hj => ⟨(HPB.out j hj).1, (HPB.out j hj).2.1⟩)
      rw [pts_len] at h2
      rw [List.length_append, four_len] at h1
      omega
    clear HPB
    have HEQ := Lib.hid (show encS N R = hdP N L.length t (pts L np) ++ four (ck (hdP N L.length t (pts L np))) ++ bdyP (pts L np) by
      have e1 : t = (lg L).toNat := by have := HT.out; omega
      rw [HX.out, bdyP_pts, e1, ← HNB.out, hdP_pts]; unfold enc; rfl)
    have hm0 : 0 < m6 := by have := O6.out.len; rw [List.length_append, four_len] at this; omega
    generalize hdP N L.length t (pts L np) ++ four (ck (hdP N L.length t (pts L np))) = H at *
    have HPL := Lib.hid (fun k (hk : k < (pts L np).length) => show (pts L np)[k].2.2.2.2.2.size ≤ 320 by
      rw [pts_at]
      show (⟨(bb (blk L k)).toArray⟩ : ByteArray).size ≤ 320
      rw [size_mk]
      have h3 : (bb (blk L k)).length ≤ 20 * (blk L k).length := bb_len (fun r hr => by
        have hm : r ∈ L := List.mem_of_mem_drop (List.mem_of_mem_take hr)
        obtain ⟨i, hi, rfl⟩ := List.getElem_of_mem hm
        have := HLV.out i hi
        have hp : 2 ^ N.length ≤ 2 ^ 16 := Nat.pow_le_pow_right (by omega) hN2
        have := Si.mk_nat N.length
        omega)
      have h4 := blk_len L k
      have h5 := szN_le L.length k
      omega)
    have hpl := pts_len L np
    generalize pts L np = P at *
    subst hpl
    go_wp2
    go_loopw [37, 8] (fun i v wr => ∃ (q g m c : Nat), q ≤ P.length ∧ i = .int .i64 q ∧ v = .slice (some ⟨g, 0, none⟩) m c ∧ m ≤ 2000000 + 320 * q ∧ 0 < m ∧ Hid (Sb.Own wr wd.heap.size g m c (H ++ bdyP (P.take q))) ∧ Hid (Below wd.heap.size wd wr)) (fun i _ _ => P.length - (intOf i).toNat)
    case atStart => exact ⟨0, g6, m6, c6, Nat.zero_le _, rfl, rfl, hm6, hm0, Lib.hid (by rw [show bdyP (P.take 0) = [] from rfl, List.append_nil]; exact O6.out), B6⟩
    case round =>
      clear O6 B6 hm6 hm0
      obtain ⟨q, g, m, c, hq, rfl, rfl, hm, hm0, HO, HBq⟩ := hrel
      by_cases hql : q < P.length
      · obtain ⟨_, _, e1, q1⟩ := HPT.out
        obtain ⟨ga, oa, rfl, hga, hc⟩ := q1 (by omega)
        simp only [Value.slice.injEq, true_and, and_true] at e1
        obtain ⟨rfl, rfl⟩ := e1
        obtain ⟨a0, a1, a2, a3, a4, a5⟩ := arg_six hc q hql
        have f0 := (HBq.out.cell (p := ⟨ga, oa + q * 6, none⟩) hga).trans a0
        have f1 := (HBq.out.cell (p := ⟨ga, oa + q * 6 + 1, none⟩) hga).trans a1
        have f2 := (HBq.out.cell (p := ⟨ga, oa + q * 6 + 2, none⟩) hga).trans a2
        have f3 := (HBq.out.cell (p := ⟨ga, oa + q * 6 + 3, none⟩) hga).trans a3
        have f4 := (HBq.out.cell (p := ⟨ga, oa + q * 6 + 4, none⟩) hga).trans a4
        have f5 := (HBq.out.cell (p := ⟨ga, oa + q * 6 + 5, none⟩) hga).trans a5
        have hs5 := HPL.out q hql
        have HTK := Lib.hid (bdyP_take P q hql)
        have hqi : (q : Int) < P.length := by omega
        clear hc q1 a0 a1 a2 a3 a4 a5
        generalize P[q].1 = p0 at *
        generalize P[q].2.1 = p1 at *
        generalize P[q].2.2.1 = p2 at *
        generalize P[q].2.2.2.1 = p3 at *
        generalize P[q].2.2.2.2.1 = p4 at *
        generalize P[q].2.2.2.2.2 = p5 at *
        have B7 := Lib.hid (HBq.out.alloc HBq.out.size (.cells #[.int .i64 p0, .int .i64 p1, .int .i64 p2, .int .i64 p3, .int .i64 p4, .string p5] 57))
        have O7 := Lib.hid (HO.out.alloc (.cells #[.int .i64 p0, .int .i64 p1, .int .i64 p2, .int .i64 p3, .int .i64 p4, .string p5] 57))
        have R0 := Lib.hid (RowAt.new wr 57 #[.int .i64 p0, .int .i64 p1, .int .i64 p2, .int .i64 p3, .int .i64 p4, .string p5])
        have c5 := R0.out.cell 5
        go_wp2_with (first
          | (at_builtin; go_must (refine Sb.wpList_append_text rfl (.tmp 41) (.tmp 43) rfl rfl p5 rfl O7.out B7.out.size hm0 (by omega) ?_; intro g8 c8 w8 o8 b8))
          | fail)
        go_roundw
        case rel => exact ⟨q + 1, g8, _, c8, by omega, val_int (by omega), rfl, by omega, by omega, Lib.hid (by rw [HTK.out, ← List.append_assoc]; exact o8), Lib.hid (B7.out.trans b8)⟩
        case measure => simp [intOf]; omega
      · have he : P.take q = P := List.take_of_length_le (by omega)
        rw [he] at HO
        have hqi : ¬ (q : Int) < P.length := by omega
        have hL := HO.out.len
        have kc := Sb.conv_rd HO.out.rd m c hL.symm wr (fun _ _ => rfl)
        clear he hL
        go_wp2
        go_returns
        exact ⟨_, rfl, by rw [HEQ.out, toList_mk], BD.out.trans (HBq.out.mono BD.out.size)⟩

end Go.Proofs.YtillcmddbjhepaaDoor

namespace Go.Proofs.YtillcmddbjhepaaDoor
open Go Si
set_option linter.unusedVariables false
set_option linter.unusedSimpArgs false

theorem bdy_len {m : Nat} {L : List Rn} (hm : m ≤ 65535) (h : ∀ r ∈ L, okRn m r) : ∀ n, (bdy L n).length ≤ 320 * n
  | 0 => by simp [bdy]
  | n + 1 => by
    rw [bdy_succ, List.length_append]
    have h1 := bdy_len hm h n
    have h2 := okRn_bb hm (blk_okRn h n)
    have h3 : (blk L n).length ≤ 16 := by rw [blk_len]; exact szN_le _ _
    omega
theorem enc_len {N : List ByteArray} {L : List Rn} (h : OkL N L) : (enc N L).length ≤ 100000000 := by
  have hm := (pow_ch h.n16).1
  have h1 := bdy_len hm h.run (bkN L.length)
  have h2 : bkN L.length ≤ 16384 := by have := h.len; unfold bkN; omega
  have h3 := nms_len N (fun j hj => h.nsz _ (List.getElem_mem hj))
  have h4 := h.n16
  have h5 : (entsE (enL L)).length ≤ 24 * (enL L).length := by
    have key : ∀ E : List En, (∀ x ∈ E, okE x) → (entsE E).length ≤ 24 * E.length := by
      intro E
      induction E with
      | nil => intro _; simp [entsE]
      | cons x E ih =>
        intro hx
        rw [entsE_cons, List.length_append, List.length_cons]
        have i1 := ih fun y hy => hx y (by simp [hy])
        obtain ⟨g1, g2, g3⟩ := hx x (by simp)
        have i2 : (entE x).length ≤ 24 := by
          unfold entE
          simp only [List.length_append, four_len]
          have := put_le10 (n := x.1) (by omega)
          have := put_le10 (n := x.2.1) (by omega)
          omega
        omega
    exact key _ h.en
  rw [enL_len] at h5
  rw [enc_hdE]
  unfold hdE
  simp only [List.length_append, four_len, List.length_cons, List.length_nil]
  have p1 := put_le10 (n := N.length) (by omega)
  have p2 := put_le10 (n := L.length) (by have := h.len; omega)
  have p3 := put_le10 (n := (lg L).toNat) (by have := h.lgT; omega)
  have p4 := put_le10 (n := bkN L.length) (by omega)
  omega

theorem take_blk (L : List Rn) (k : Nat) : L = L.take (16 * k) ++ (blk L k ++ L.drop (16 * (k + 1))) := by
  unfold blk
  rw [show 16 * (k + 1) = 16 * k + 16 by omega, ← List.drop_drop, List.take_append_drop, List.take_append_drop]
theorem blk_at {L : List Rn} (h : ps L) {k : Nat} {a : Int} (h1 : lg (L.take (16 * k)) ≤ a) (h2 : a < lg (L.take (16 * (k + 1)))) : atv (blk L k) (a - lg (L.take (16 * k))) = atv L a := by
  obtain ⟨g1, g2, g3⟩ := lg_blk h k
  have p1 := ps_take h (16 * k)
  have p2 : ps (blk L k) := ps_take (ps_drop h (16 * k)) 16
  have p3 := ps_nonneg p1
  have e : atv L a = atv (L.take (16 * k) ++ (blk L k ++ L.drop (16 * (k + 1)))) a := by rw [← take_blk]
  rw [e, atv_append _ _ _ p1 (by omega), if_neg (by omega), atv_append _ _ _ p2 (by omega), if_pos (by omega)]
section
variable {N : List ByteArray} {L : List Rn}
theorem lgT_nat (h : OkL N L) : ((lg L).toNat : Int) = lg L := lg_toNat h.ps
/-- At of a stored form. -/
theorem atR_enc (h : OkL N L) {a : Int} (h2 : 0 ≤ a ∧ a < lg L) : atR (enc N L) a = ((atv L a).1, 0) := by
  obtain ⟨b, h1, _, _, _, hp⟩ := rd_enc h
  have h3 : 0 ≤ a ∧ a < ((lg L).toNat : Int) := by rw [lgT_nat h]; exact h2
  have hk := plc_P h1 h3
  have he := plc_ends h1 h3
  simp only [hp, pts_at] at he
  have hk' : plc (enL L) a (enL L).length < bkN L.length := by rw [hdPts_len, h1] at hk; rw [enL_len] at hk ⊢; exact hk
  have h4 := atR_4 h1 h3 (L := blk L (plc (enL L) a (enL L).length)) (by simp only [hp, pts_at]; exact pBk_enc h _ hk')
  rw [h4]
  simp only [hp, pts_at]
  clear h4 hk
  generalize plc (enL L) a (enL L).length = k at *
  have g1 := ps_nonneg (ps_take h.ps (16 * k))
  have g2 := ps_nonneg (ps_take h.ps (16 * (k + 1)))
  have e1 : ((ptK L k).1 : Int) = lg (L.take (16 * k)) := by show ((lg (L.take (16 * k))).toNat : Int) = _; omega
  have e2 : ((ptK L k).2.1 : Int) = lg (L.take (16 * (k + 1))) := by show ((lg (L.take (16 * (k + 1)))).toNat : Int) = _; omega
  rw [e1, e2] at he
  rw [e1, blk_at h.ps he.1 he.2]
theorem atR_enc2 (h : OkL N L) {a : Int} (h2 : ¬ (0 ≤ a ∧ a < lg L)) : atR (enc N L) a = (0, 2) := by
  obtain ⟨b, h1, _, _, _, hp⟩ := rd_enc h
  exact atR_2 h1 (by rw [lgT_nat h]; exact h2)
theorem fdR_enc2 (h : OkL N L) {a : Int} (h2 : ¬ (0 ≤ a ∧ a < lg L)) : fdR (enc N L) a = (0, 2) := by
  obtain ⟨b, h1, _, _, _, hp⟩ := rd_enc h
  exact fdR_2 h1 (by rw [lgT_nat h]; exact h2)
theorem prt_ext {A B : List Rn} (pA : ps A) (pB : ps B) {f t f' t' : Int} (h0 : 0 ≤ f) (h1 : f < t) (h2 : t ≤ lg A) (h3 : 0 ≤ f') (h4 : t' - f' = t - f) (h5 : t' ≤ lg B) (h : ∀ k, 0 ≤ k → k < t - f → atv A (f + k) = atv B (f' + k)) : prt A f t = prt B f' t' := by
  refine al_unique (jn_al _) (prt_ps A f t) (jn_al _) (prt_ps B f' t') fun k hk => ?_
  by_cases c : k < t - f
  · rw [prt_at pA h0 hk c, prt_at pB h3 hk (by omega), h k hk c]
  · rw [atv_end (prt_ps A f t) (by rw [prt_lg pA h0 h1 h2]; omega), atv_end (prt_ps B f' t') (by rw [prt_lg pB h3 (by omega) h5]; omega)]
set_option maxHeartbeats 2000000 in
/-- Range of a stored form. -/
theorem rgR_enc (h : OkL N L) {f t : Int} (h2 : 0 ≤ f ∧ f < t ∧ t ≤ lg L) : rgR (enc N L) f t = (prt L f t, 0) := by
  obtain ⟨b, h1, _, _, _, hp⟩ := rd_enc h
  have hT := lgT_nat h
  have h3 : 0 ≤ f ∧ f < t ∧ t ≤ ((lg L).toNat : Int) := by rw [hT]; exact h2
  have hf : 0 ≤ f ∧ f < ((lg L).toNat : Int) := ⟨h3.1, Int.lt_of_lt_of_le h3.2.1 h3.2.2⟩
  have ht : 0 ≤ t - 1 ∧ t - 1 < ((lg L).toNat : Int) := ⟨by omega, by have := h3.2.2; omega⟩
  have hk := plc_P h1 hf
  have hk2 := plc_P h1 ht
  have hk12 := plc_mono h1 h3.1 (show f ≤ t - 1 by omega) ht.2
  have he := plc_ends h1 hf
  have he2 := plc_ends h1 ht
  simp only [hp, pts_at] at he he2
  have hk' : plc (enL L) f (enL L).length < bkN L.length := by rw [hdPts_len, h1] at hk; rw [enL_len] at hk ⊢; exact hk
  have hk2' : plc (enL L) (t - 1) (enL L).length < bkN L.length := by rw [hdPts_len, h1] at hk2; rw [enL_len] at hk2 ⊢; exact hk2
  have key : ∀ i k, i ≤ k → k < bkN L.length → pBs N.length (sub (pts L (bkN L.length)) i k) = some ((L.drop (16 * i)).take (16 * (k + 1 - i))) := by
    intro i k hik hkb
    have hsl := sub_len (pts L (bkN L.length)) i k hik (by rw [pts_len]; exact hkb)
    rw [pBs_will (B := (List.range (k + 1 - i)).map fun j => blk L (i + j)) (by rw [hsl]; simp) (fun j g1 g2 => ?_)]
    · have : ∀ n, ((List.range n).map fun j => blk L (i + j)).flatten = (L.drop (16 * i)).take (16 * n) := by
        intro n
        induction n with
        | zero => simp
        | succ n ih =>
          rw [List.range_succ, List.map_append, List.flatten_append, ih]
          simp only [List.map_cons, List.map_nil, List.flatten_cons, List.flatten_nil, List.append_nil]
          unfold blk
          rw [show 16 * (n + 1) = 16 * n + 16 by omega, List.take_add, List.drop_drop, show 16 * i + 16 * n = 16 * (i + n) by omega]
      rw [this]
    · rw [sub_at _ _ _ _ _ (by rw [pts_len]; omega), pts_at]
      simp only [List.getElem_map, List.getElem_range]
      exact pBk_enc h _ (by omega)
  have h4 := rgR_4 h1 h3 hk (L := (L.drop (16 * plc (enL L) f (enL L).length)).take (16 * (plc (enL L) (t - 1) (enL L).length + 1 - plc (enL L) f (enL L).length))) (by rw [hp]; exact key _ _ hk12 hk2')
  rw [h4]
  simp only [hp, pts_at]
  clear h4 hk hk2
  generalize plc (enL L) f (enL L).length = i at *
  generalize plc (enL L) (t - 1) (enL L).length = k at *
  have g1 := ps_nonneg (ps_take h.ps (16 * i))
  have e1 : ((ptK L i).1 : Int) = lg (L.take (16 * i)) := by show ((lg (L.take (16 * i))).toNat : Int) = _; omega
  have g2 := ps_nonneg (ps_take h.ps (16 * (k + 1)))
  have e2 : ((ptK L k).2.1 : Int) = lg (L.take (16 * (k + 1))) := by show ((lg (L.take (16 * (k + 1)))).toNat : Int) = _; omega
  rw [e1] at he ⊢
  rw [e2] at he2
  have hsp : L.take (16 * (k + 1)) = L.take (16 * i) ++ (L.drop (16 * i)).take (16 * (k + 1 - i)) := by
    rw [show 16 * (k + 1) = 16 * i + 16 * (k + 1 - i) by omega, List.take_add]
  have hlg : lg (L.take (16 * (k + 1))) = lg (L.take (16 * i)) + lg ((L.drop (16 * i)).take (16 * (k + 1 - i))) := by rw [hsp, lg_append]
  have pX : ps ((L.drop (16 * i)).take (16 * (k + 1 - i))) := ps_take (ps_drop h.ps _) _
  refine congrArg (fun z => (z, (0 : Nat))) ?_
  refine prt_ext pX h.ps (by omega) (by omega) (by omega) (by omega) (by omega) (by omega) fun j hj1 hj2 => ?_
  have e : atv L (f + j) = atv (L.take (16 * (k + 1)) ++ L.drop (16 * (k + 1))) (f + j) := by rw [List.take_append_drop]
  rw [e, atv_append _ _ _ (ps_take h.ps _) (by omega), if_pos (by omega), hsp, atv_append _ _ _ (ps_take h.ps _) (by omega), if_neg (by omega)]
  rw [show f + j - lg (L.take (16 * i)) = f - lg (L.take (16 * i)) + j by omega]
theorem rgR_enc2 (h : OkL N L) {f t : Int} (h2 : ¬ (0 ≤ f ∧ f < t ∧ t ≤ lg L)) : rgR (enc N L) f t = ([], 2) := by
  obtain ⟨b, h1, _, _, _, hp⟩ := rd_enc h
  exact rgR_2 h1 (by rw [lgT_nat h]; exact h2)
end

end Go.Proofs.YtillcmddbjhepaaDoor

namespace Go.Proofs.YtillcmddbjhepaaDoor
open Go Go.RowKit Go.Joins
open Go.BigFrame
set_option linter.unusedVariables false
set_option linter.unusedSimpArgs false

def exN : List ByteArray := [⟨#[97]⟩]
def exR : List Si.Rn := [(1, 8), (0, 4)]
theorem ex_ck : Si.ckC exN exR = 0 := by decide +kernel
theorem ex_jn : Si.jn exR = exR := by decide +kernel
theorem ex_ok : OkL exN exR := (okL_of ex_ck).2
theorem ex_sz : Si.szs exN := by
  intro s hs
  simp only [exN, List.mem_cons, List.mem_nil_iff, or_false] at hs
  subst hs; decide +kernel
theorem ex_bb : bb exR = [1, 8, 0, 4] := by
  show rb (1, 8) ++ (rb (0, 4) ++ []) = _
  unfold rb
  rw [show ((1 : Int), (8 : Int)).1.toNat = 1 from rfl, show ((1 : Int), (8 : Int)).2.toNat = 8 from rfl, show ((0 : Int), (4 : Int)).1.toNat = 0 from rfl, show ((0 : Int), (4 : Int)).2.toNat = 4 from rfl, Sb.put_lt (by decide), Sb.put_lt (by decide), Sb.put_lt (by decide), Sb.put_lt (by decide)]
  rfl
theorem ex_en : enL exR = [(0, 4, ck [1, 8, 0, 4])] := by
  show [enK exR 0] = _
  unfold enK
  rw [show blk exR 0 = exR from rfl, ex_bb]
  rfl
theorem ex_enc : ∃ c0 c1 c2 c3 h0 h1 h2 h3 : UInt8, enc exN exR = [83, 66, 1, 1, 1, 97, 2, 12, 1, 0, 4, c0, c1, c2, c3, h0, h1, h2, h3, 1, 8, 0, 4] := by
  have hb : bdy exR (bkN exR.length) = [1, 8, 0, 4] := by
    show bb (blk exR 0) ++ [] = _
    rw [show blk exR 0 = exR from rfl, ex_bb]; rfl
  rw [enc_hdE, ex_en, hb]
  obtain ⟨c, hc⟩ : ∃ c, ck [1, 8, 0, 4] = c := ⟨_, rfl⟩
  rw [hc]
  obtain ⟨H, hH⟩ : ∃ H, ck (hdE exN exR.length (Si.lg exR).toNat [(0, 4, c)]) = H := ⟨_, rfl⟩
  rw [hH]
  have e : hdE exN exR.length (Si.lg exR).toNat [(0, 4, c)] = [83, 66, 1, 1, 1, 97, 2, 12, 1, 0, 4] ++ four c := by
    unfold hdE
    rw [show exN.length = 1 from rfl, show exR.length = 2 from rfl, show (Si.lg exR).toNat = 12 from rfl, show bkN 2 = 1 from rfl, show nms exN = nm1 ⟨#[97]⟩ ++ [] from rfl]
    unfold nm1
    rw [show (⟨#[97]⟩ : ByteArray).size = 1 from rfl, show entsE [(0, 4, c)] = entE (0, 4, c) ++ [] from rfl]
    unfold entE
    rw [Sb.put_lt (by decide), Sb.put_lt (by decide), Sb.put_lt (by decide), Sb.put_lt (show (0, 4, c).1 < 128 from (by decide : 0 < 128)), Sb.put_lt (show (0, 4, c).2.1 < 128 from (by decide : 4 < 128))]
    rfl
  rw [e]
  exact ⟨_, _, _, _, _, _, _, _, rfl⟩

/-- What the stored form of the example gives. -/
theorem ex_dc : dc (enc exN exR) = ((exN, exR), 0) := by have := dc_of ex_ck; rwa [ex_jn] at this
theorem ex_cnt : (rd (enc exN exR)).1.2.2.2.1.length = 1 ∧ (rd (enc exN exR)).2 = 0 := by
  obtain ⟨b, h1, _⟩ := rd_enc ex_ok
  rw [h1, ex_en]; exact ⟨rfl, rfl⟩
theorem ex_at7 : atR (enc exN exR) 7 = (1, 0) := by rw [atR_enc ex_ok (by decide)]; rfl
theorem ex_at8 : atR (enc exN exR) 8 = (0, 0) := by rw [atR_enc ex_ok (by decide)]; rfl
theorem ex_fd : fdR (enc exN exR) 12 = (0, 2) := fdR_enc2 ex_ok (by decide)
theorem ex_rg : rgR (enc exN exR) 7 9 = ([(1, 1), (0, 1)], 0) := by
  rw [rgR_enc ex_ok (by decide)]
  have : Si.prt exR 7 9 = [(1, 1), (0, 1)] := by decide +kernel
  rw [this]
/-- What Find gives, as a value. -/
theorem FiR.val {l : List UInt8} {at_ : Int} {w : World} {e : Ending} {w' : World} (h : FiR l at_ w e w') : e = .returned (.tuple #[.int .i64 ((fdR l at_).1 : Nat), .int .i64 ((fdR l at_).2 : Nat)]) ∧ Below w.heap.size w w' := by
  unfold FiR at h
  by_cases c : (rd l).2 = 0
  · rw [if_pos c] at h
    obtain ⟨⟨⟨N, R, T, E, b⟩, er⟩, hr⟩ : ∃ p, rd l = p := ⟨_, rfl⟩
    rw [hr] at c h
    simp only at c h
    subst c
    obtain ⟨hb, h⟩ := h
    by_cases c2 : 0 ≤ at_ ∧ at_ < (T : Int)
    · rw [if_pos c2] at h
      obtain ⟨k, rfl, hk⟩ := h
      rw [fdR_3 hr c2, fdI_plc hr c2.1 c2.2 hk]
      exact ⟨rfl, hb⟩
    · rw [if_neg c2] at h
      rw [h, fdR_2 hr c2]
      exact ⟨rfl, hb⟩
  · rw [if_neg c] at h
    rw [h.1, fdR_1 c]
    exact ⟨rfl, h.2⟩

set_option maxRecDepth 100000 in
set_option maxHeartbeats 8000000 in
theorem awake_any (w : World) (hE : Sd.Env w) :
    Calls Tryd.prog 7 #[] w fun e w' => e = .returned (.bool true) ∧ Below w.heap.size w w' := by
  obtain ⟨c0, c1, c2, c3, h0, h1, h2, h3, henc⟩ := ex_enc
  have HSF := Lib.hid (fun (S : ByteArray) (h : S.data.toList = enc exN exR) => show S.size = 23 ∧ (S.extract 0 11).toList = [83, 66, 1, 1, 1, 97, 2, 12, 1, 0, 4] ∧ (S.extract 19 S.size).toList = [1, 8, 0, 4] ∧ (S.extract 19 23).toList = [1, 8, 0, 4] by
    rw [henc] at h
    have e : S = ⟨#[83, 66, 1, 1, 1, 97, 2, 12, 1, 0, 4, c0, c1, c2, c3, h0, h1, h2, h3, 1, 8, 0, 4]⟩ := Si.eq_of_toList h
    subst e
    refine ⟨rfl, ?_, ?_, ?_⟩
    · rw [ByteArray.toList_eq, ext_list]; rfl
    · rw [ByteArray.toList_eq, ext_list]; rfl
    · rw [ByteArray.toList_eq, ext_list]; rfl)
  have HB3 := Lib.hid (show Below w.heap.size w (((w.alloc (.cells #[.string ⟨#[97]⟩] 9)).alloc (.cells #[.int .i64 1, .int .i64 8, .int .i64 0, .int .i64 4] 49)).alloc (.cells #[.slice (some ⟨w.heap.size, 0, none⟩) 1 1, .slice (some ⟨w.heap.size + 1, 0, none⟩) 2 2] 25)) from ((ba w _).alloc (le_alloc (Nat.le_refl _) _) _).alloc (le_alloc (le_alloc (Nat.le_refl _) _) _) _)
  have hsz1 : (w.alloc (.cells #[.string ⟨#[97]⟩] 9)).heap.size = w.heap.size + 1 := by rw [World.size_alloc]
  have hsz2 : ((w.alloc (.cells #[.string ⟨#[97]⟩] 9)).alloc (.cells #[.int .i64 1, .int .i64 8, .int .i64 0, .int .i64 4] 49)).heap.size = w.heap.size + 1 + 1 := by rw [World.size_alloc, hsz1]
  have HN3 := Lib.hid (show Si.NmArg (((w.alloc (.cells #[.string ⟨#[97]⟩] 9)).alloc (.cells #[.int .i64 1, .int .i64 8, .int .i64 0, .int .i64 4] 49)).alloc (.cells #[.slice (some ⟨w.heap.size, 0, none⟩) 1 1, .slice (some ⟨w.heap.size + 1, 0, none⟩) 2 2] 25)) (.slice (some ⟨w.heap.size, 0, none⟩) 1 1) exN from KRow.name (KRow.alloc (KRow.alloc (KRow.lit (T := 9) Si.nmC_size w w.heap.size (Nat.le_refl _) exN _ rfl 1 rfl (by decide)) _) _))
  have HR3 := Lib.hid (show Si.RnRow (((w.alloc (.cells #[.string ⟨#[97]⟩] 9)).alloc (.cells #[.int .i64 1, .int .i64 8, .int .i64 0, .int .i64 4] 49)).alloc (.cells #[.slice (some ⟨w.heap.size, 0, none⟩) 1 1, .slice (some ⟨w.heap.size + 1, 0, none⟩) 2 2] 25)) (w.heap.size + 1) (.slice (some ⟨w.heap.size + 1, 0, none⟩) 2 2) exR by
    have h := KRow.lit (T := 49) Si.rnC_size (w.alloc (.cells #[.string ⟨#[97]⟩] 9)) (w.alloc (.cells #[.string ⟨#[97]⟩] 9)).heap.size (Nat.le_refl _) exR #[.int .i64 1, .int .i64 8, .int .i64 0, .int .i64 4] rfl 2 rfl (by decide)
    rw [hsz1] at h
    exact KRow.alloc h _)
  have HC3 := Lib.hid (show RowAt (((w.alloc (.cells #[.string ⟨#[97]⟩] 9)).alloc (.cells #[.int .i64 1, .int .i64 8, .int .i64 0, .int .i64 4] 49)).alloc (.cells #[.slice (some ⟨w.heap.size, 0, none⟩) 1 1, .slice (some ⟨w.heap.size + 1, 0, none⟩) 2 2] 25)) (w.heap.size + 1 + 1) 25 #[.slice (some ⟨w.heap.size, 0, none⟩) 1 1, .slice (some ⟨w.heap.size + 1, 0, none⟩) 2 2] from RowAt.at hsz2.symm)
  clear hsz1 hsz2
  have hs := enc_len ex_ok
  have CE := Lib.hid (fun vN vR W (hb : Below w.heap.size w W) (hN : Si.NmArg W vN exN) (hR : Si.RnArg W vR exR) => encode_any exN exR vN vR W (hE.below hb) hN ex_sz hR (by decide))
  unfold encS at CE
  rw [ex_ck, if_pos rfl, ex_jn] at CE
  have CD := Lib.hid (fun (B : ByteArray) (hB : B.data.toList = enc exN exR) W (hb : Below w.heap.size w W) => show Calls Tryd.prog 10 #[.string B] W (DcR ((exN, exR), 0) W) by
    have h := Decode_any B W (hE.below hb) (by rw [size_len, hB]; omega)
    rw [hB, ex_dc] at h; exact h)
  have CC := Lib.hid (fun (B : ByteArray) (hB : B.data.toList = enc exN exR) W (hb : Below w.heap.size w W) => show Calls Tryd.prog 19 #[.string B] W fun e w' => e = .returned (.tuple #[.int .i64 1, .int .i64 0]) ∧ Below W.heap.size W w' by
    have h := count_any B W (hE.below hb) (by rw [size_len, hB]; omega)
    rw [hB, ex_cnt.1, ex_cnt.2] at h; exact h)
  have CA7 := Lib.hid (fun (B : ByteArray) (hB : B.data.toList = enc exN exR) W (hb : Below w.heap.size w W) => show Calls Tryd.prog 15 #[.string B, .int .i64 7] W fun e w' => e = .returned (.tuple #[.int .i64 1, .int .i64 0]) ∧ Below W.heap.size W w' by
    have h := At_any B 7 W (hE.below hb) (by rw [size_len, hB]; omega)
    rw [hB, ex_at7] at h; exact h)
  have CA8 := Lib.hid (fun (B : ByteArray) (hB : B.data.toList = enc exN exR) W (hb : Below w.heap.size w W) => show Calls Tryd.prog 15 #[.string B, .int .i64 8] W fun e w' => e = .returned (.tuple #[.int .i64 0, .int .i64 0]) ∧ Below W.heap.size W w' by
    have h := At_any B 8 W (hE.below hb) (by rw [size_len, hB]; omega)
    rw [hB, ex_at8] at h; exact h)
  have CF := Lib.hid (fun (B : ByteArray) (hB : B.data.toList = enc exN exR) W (hb : Below w.heap.size w W) => show Calls Tryd.prog 20 #[.string B, .int .i64 12] W fun e w' => e = .returned (.tuple #[.int .i64 0, .int .i64 2]) ∧ Below W.heap.size W w' by
    refine (Find_any B 12 W (hE.below hb) (by rw [size_len, hB]; omega)).mono fun e w' hx => ?_
    have h := hx.val
    rw [hB, ex_fd] at h; exact h)
  have CR := Lib.hid (fun (B : ByteArray) (hB : B.data.toList = enc exN exR) W (hb : Below w.heap.size w W) => show Calls Tryd.prog 17 #[.string B, .int .i64 7, .int .i64 9] W (RgQ ([(1, 1), (0, 1)], 0) W) by
    have h := Range_any B 7 9 W (hE.below hb) (by rw [size_len, hB]; omega)
    rw [hB, ex_rg] at h; exact h)
  clear hE hs henc
  go_enter Tryd.func7, Tryd.ntmps7
  go_wp2_with (first
    | (go_at_call 8; go_must (refine (CE.out _ _ _ HB3.out HN3.out (KRow.arg Si.rnC_size HR3.out)).mono ?_; rintro e w4 ⟨S, rfl, hS, hb⟩; have KB := Lib.hid (HB3.out.trans (hb.mono HB3.out.size)); replace HC3 := Lib.hid (HC3.out.keep hb); replace HR3 := Lib.hid (KRow.keep HR3.out hb); obtain ⟨s1, s2, s3, s4⟩ := HSF.out S hS; have HS := Lib.hid hS; clear hS hb HSF))
    | (go_at_call 10; go_must (refine (CD.out _ HS.out _ KB.out).mono ?_; rintro e w5 ⟨vN, vR, rfl, hN, hR, hb⟩; obtain ⟨nA, nn, nc, rfl, hnn⟩ := KRow.form hN; obtain ⟨g, c, hg⟩ := KRow.full hR (by decide); obtain rfl : vR = .slice (some ⟨g, 0, none⟩) 2 c := hg; replace KB := Lib.hid ((KB.out.trans (hb.mono KB.out.size)).alloc (KB.out.trans (hb.mono KB.out.size)).size (.cells #[.slice nA nn nc, .slice (some ⟨g, 0, none⟩) 2 c] 25)); replace HC3 := Lib.hid ((HC3.out.keep hb).alloc (.cells #[.slice nA nn nc, .slice (some ⟨g, 0, none⟩) 2 c] 25)); replace HR3 := Lib.hid (KRow.alloc (KRow.keep HR3.out hb) (.cells #[.slice nA nn nc, .slice (some ⟨g, 0, none⟩) 2 c] 25)); have HD := Lib.hid (RowAt.new w5 25 #[.slice nA nn nc, .slice (some ⟨g, 0, none⟩) 2 c]); have HX := Lib.hid (KRow.alloc hR (.cells #[.slice nA nn nc, .slice (some ⟨g, 0, none⟩) 2 c] 25)); clear hnn hN hR hb CD))
    | (go_at_call 19; go_must (refine (CC.out _ HS.out _ KB.out).mono ?_; rintro e w6 ⟨rfl, hb⟩; replace KB := Lib.hid (KB.out.trans (hb.mono KB.out.size)); replace HC3 := Lib.hid (HC3.out.keep hb); replace HR3 := Lib.hid (KRow.keep HR3.out hb); replace HD := Lib.hid (HD.out.keep hb); replace HX := Lib.hid (KRow.keep HX.out hb); clear hb CC))
    | (go_at_call_of 15 (Value.int IntKind.i64 7); go_must (refine (CA7.out _ HS.out _ KB.out).mono ?_; rintro e w7 ⟨rfl, hb⟩; replace KB := Lib.hid (KB.out.trans (hb.mono KB.out.size)); replace HC3 := Lib.hid (HC3.out.keep hb); replace HR3 := Lib.hid (KRow.keep HR3.out hb); replace HD := Lib.hid (HD.out.keep hb); replace HX := Lib.hid (KRow.keep HX.out hb); clear hb CA7))
    | (go_at_call_of 15 (Value.int IntKind.i64 8); go_must (refine (CA8.out _ HS.out _ KB.out).mono ?_; rintro e w8 ⟨rfl, hb⟩; replace KB := Lib.hid (KB.out.trans (hb.mono KB.out.size)); replace HC3 := Lib.hid (HC3.out.keep hb); replace HR3 := Lib.hid (KRow.keep HR3.out hb); replace HD := Lib.hid (HD.out.keep hb); replace HX := Lib.hid (KRow.keep HX.out hb); clear hb CA8))
    | (go_at_call 20; go_must (refine (CF.out _ HS.out _ KB.out).mono ?_; rintro e w9 ⟨rfl, hb⟩; replace KB := Lib.hid (KB.out.trans (hb.mono KB.out.size)); replace HC3 := Lib.hid (HC3.out.keep hb); replace HR3 := Lib.hid (KRow.keep HR3.out hb); replace HD := Lib.hid (HD.out.keep hb); replace HX := Lib.hid (KRow.keep HX.out hb); clear hb CF))
    | (go_at_call 17; go_must (refine (CR.out _ HS.out _ KB.out).mono ?_; rintro e w10 ⟨v, rfl, hr, hb⟩; obtain ⟨g2, c2, hg2⟩ := KRow.full hr (by decide); obtain rfl : v = .slice (some ⟨g2, 0, none⟩) 2 c2 := hg2; have k0 : w10.cell? ⟨g2, 0, none⟩ = some (.int .i64 1) := KRow.cell Si.rnC_size hr 0 (by decide) 0 (by omega); have k1 : w10.cell? ⟨g2, 1, none⟩ = some (.int .i64 1) := KRow.cell Si.rnC_size hr 0 (by decide) 1 (by omega); replace KB := Lib.hid (KB.out.trans (hb.mono KB.out.size)); replace HC3 := Lib.hid (HC3.out.keep hb); replace HR3 := Lib.hid (KRow.keep HR3.out hb); replace HD := Lib.hid (HD.out.keep hb); replace HX := Lib.hid (KRow.keep HX.out hb); clear hb CR hr; have k2 : w10.cell? ⟨w5.heap.size, 1, none⟩ = some (.slice (some ⟨g, 0, none⟩) 2 c) := HD.out.cell 1; have k3 : w10.cell? ⟨g, 2, none⟩ = some (.int .i64 0) := KRow.cell Si.rnC_size HX.out 1 (by decide) 0 (by omega); have k4 : w10.cell? ⟨g, 3, none⟩ = some (.int .i64 4) := KRow.cell Si.rnC_size HX.out 1 (by decide) 1 (by omega); have k5 : w10.cell? ⟨w.heap.size + 1 + 1, 1, none⟩ = some (.slice (some ⟨w.heap.size + 1, 0, none⟩) 2 2) := HC3.out.cell 1; have k6 : w10.cell? ⟨w.heap.size + 1, 2, none⟩ = some (.int .i64 0) := KRow.cell Si.rnC_size HR3.out 1 (by decide) 0 (by omega); have k7 : w10.cell? ⟨w.heap.size + 1, 3, none⟩ = some (.int .i64 4) := KRow.cell Si.rnC_size HR3.out 1 (by decide) 1 (by omega)))
    | fail)
  go_big_quiet (fail)
  go_wp2
  go_returns
  exact ⟨rfl, Go.below_drewN KB.out _⟩

end Go.Proofs.YtillcmddbjhepaaDoor

namespace Go.Proofs.YtillcmddbjhepaaDoor
open Go Go.RowKit Go.Joins
open Go.BigFrame
set_option linter.unusedVariables false
set_option linter.unusedSimpArgs false

set_option maxRecDepth 100000 in
set_option maxHeartbeats 8000000 in
theorem law_round (N : List ByteArray) (R : List Si.Rn) (vN vR : Value) (b : ByteArray) (w : World) (hE : Sd.Env w) (hN : Si.NmArg w vN N) (hs : Si.szs N) (hR : Si.RnArg w vR R) :
    Calls Tryd.prog 3 #[.agg #[vN, vR], .string b] w fun e w' => e = .returned (.bool true) ∧ Below w.heap.size w w' := by
  have KB := Lib.hid (ba w (.cells #[vN, vR] 25))
  have RB := Lib.hid (RowAt.new w 25 #[vN, vR])
  have CA := Lib.hid (fun W (hb : Below w.heap.size w W) => awake_any W (hE.below hb))
  have CS := Lib.hid (fun W (hb : Below w.heap.size w W) => small_any N R vN vR W (hN.keep hb) (hR.keep hb))
  by_cases hsm : smP N R
  case neg =>
    rw [decide_eq_false hsm] at CS
    obtain ⟨A1, c1, rfl, _⟩ := hN.form
    obtain ⟨A2, c2, rfl⟩ := KArg.form hR
    have j0 := RB.out.cell 0
    have j1 := RB.out.cell 1
    clear hE hN hs hR hsm
    go_enter Tryd.func3, Tryd.ntmps3
    go_wp2_with (first
      | (go_at_call 6; go_must (refine (CS.out _ KB.out).mono ?_; rintro e w1 ⟨rfl, hb⟩; replace KB := Lib.hid (KB.out.trans (hb.mono KB.out.size)); replace RB := Lib.hid (RB.out.keep hb); have j0 := RB.out.cell 0; have j1 := RB.out.cell 1; clear hb CS))
      | (go_at_call 7; go_must (refine (CA.out _ KB.out).mono ?_; rintro e w9 ⟨rfl, hb⟩; replace KB := Lib.hid (KB.out.trans (hb.mono KB.out.size)); clear hb))
      | fail)
    go_returns
    exact ⟨rfl, KB.out⟩
  rw [decide_eq_true hsm] at CS
  by_cases hb8 : b.size ≤ 800
  case neg =>
    have hbi : (800 : Int) < b.size := by omega
    have hbd : decide ((800 : Int) < b.size) = true := decide_eq_true hbi
    obtain ⟨A1, c1, rfl, _⟩ := hN.form
    obtain ⟨A2, c2, rfl⟩ := KArg.form hR
    have j0 := RB.out.cell 0
    have j1 := RB.out.cell 1
    clear hE hN hs hR hsm hb8
    go_enter Tryd.func3, Tryd.ntmps3
    go_wp2_with (first
      | (go_at_call 6; go_must (refine (CS.out _ KB.out).mono ?_; rintro e w1 ⟨rfl, hb⟩; replace KB := Lib.hid (KB.out.trans (hb.mono KB.out.size)); replace RB := Lib.hid (RB.out.keep hb); have j0 := RB.out.cell 0; have j1 := RB.out.cell 1; clear hb CS))
      | (go_at_call 7; go_must (refine (CA.out _ KB.out).mono ?_; rintro e w9 ⟨rfl, hb⟩; replace KB := Lib.hid (KB.out.trans (hb.mono KB.out.size)); clear hb))
      | fail)
    go_returns
    exact ⟨rfl, KB.out⟩
  have hbi : ¬ (800 : Int) < b.size := by omega
  have hbd : decide ((800 : Int) < b.size) = false := decide_eq_false hbi
  have CK := Lib.hid (fun W (hb : Below w.heap.size w W) => Si.check_any N R vN vR W (hN.keep hb) hs (hR.keep hb) (by have := hsm.1; omega))
  have CE := Lib.hid (fun W (hb : Below w.heap.size w W) => encode_any N R vN vR W (hE.below hb) (hN.keep hb) hs (hR.keep hb) (by have := hsm.1; omega))
  unfold encS at CE
  have CD2 := Lib.hid (fun W (hb : Below w.heap.size w W) => Decode_any b W (hE.below hb) (by omega))
  have HDE := Lib.hid (fun (h : (dc b.data.toList).2 = 0) => dc_enc h)
  generalize hdc : dc b.data.toList = q at *
  clear hdc
  obtain ⟨⟨N2, L2⟩, y⟩ := q
  unfold DcR at CD2
  simp only at CD2 HDE
  have CE2 := Lib.hid (fun (h : y = 0) v1 v2 W (hb : Below w.heap.size w W) (h1 : Si.NmArg W v1 N2) (h2 : Si.RnArg W v2 L2) => show Calls Tryd.prog 8 #[.agg #[v1, v2]] W fun e w' => ∃ S : ByteArray, e = .returned (.tuple #[.string S, .int .i64 0]) ∧ S.data.toList = enc N2 L2 ∧ Below W.heap.size W w' by
    obtain ⟨g1, g2, g3⟩ := HDE.out h
    have hk := (okL_of g2).2
    have hh := encode_any N2 L2 v1 v2 W (hE.below hb) h1 (fun s hs => by have := hk.nsz s hs; omega) h2 (by have := hk.len; omega)
    unfold encS at hh
    rw [g2, if_pos rfl, g3] at hh
    exact hh)
  have HBB := Lib.hid (fun (h : y = 0) => (HDE.out h).1)
  obtain ⟨z, hz⟩ : ∃ z, Si.ckC N R = z := ⟨_, rfl⟩
  rw [hz] at CE CK
  by_cases cz : z = 0
  case neg =>
    have cz' : (z == 0) = false := by simp; omega
    rw [if_neg cz] at CE
    by_cases cy : y = 0
    · subst cy
      replace CE2 := Lib.hid (CE2.out rfl)
      replace HBB := Lib.hid (HBB.out rfl)
      obtain ⟨A1, c1, rfl, _⟩ := hN.form
      obtain ⟨A2, c2, rfl⟩ := KArg.form hR
      have j0 := RB.out.cell 0
      have j1 := RB.out.cell 1
      clear hE hN hs hR hsm cz hz HDE hb8
      go_enter Tryd.func3, Tryd.ntmps3
      go_wp2_with (first
        | (go_at_call 6; go_must (refine (CS.out _ KB.out).mono ?_; rintro e w1 ⟨rfl, hb⟩; replace KB := Lib.hid (KB.out.trans (hb.mono KB.out.size)); replace RB := Lib.hid (RB.out.keep hb); have j0 := RB.out.cell 0; have j1 := RB.out.cell 1; clear hb CS))
        | (go_at_call 8; go_must (first | (have tok := HN7.out; refine (CE2.out _ _ _ KB.out HN7.out HR7.out).mono ?_; rintro e w8 ⟨S2, rfl, hS, hb⟩; replace KB := Lib.hid (KB.out.trans (hb.mono KB.out.size)); obtain rfl : S2 = b := Si.eq_of_toList (hS.trans HBB.out.symm); have hq : (S2.toList == S2.toList) = true := (Si.str_eq rfl).1; clear hb CE2 hS) | (refine (CE.out _ KB.out).mono ?_; rintro e w3 ⟨S, rfl, hS, hb⟩; have HSS := Lib.hid hS; replace KB := Lib.hid (KB.out.trans (hb.mono KB.out.size)); replace RB := Lib.hid (RB.out.keep hb); have j0 := RB.out.cell 0; have j1 := RB.out.cell 1; clear hb CE hS)))
        | (go_at_call 9; go_must (refine (CK.out _ KB.out).mono ?_; rintro e w2 ⟨rfl, hb⟩; replace KB := Lib.hid (KB.out.trans (hb.mono KB.out.size)); replace RB := Lib.hid (RB.out.keep hb); have j0 := RB.out.cell 0; have j1 := RB.out.cell 1; clear hb CK))
        | (go_at_call 10; go_must (refine (CD2.out _ KB.out).mono ?_; rintro e w7 ⟨vN3, vR3, rfl, hN, hR, hb⟩; obtain ⟨xA, xn, xc, rfl, hxn⟩ := KRow.form hN; obtain ⟨yA, yn, yc, rfl, hyn⟩ := KRow.form hR; replace KB := Lib.hid ((KB.out.trans (hb.mono KB.out.size)).alloc (KB.out.trans (hb.mono KB.out.size)).size (.cells #[.slice xA xn xc, .slice yA yn yc] 25)); have HN7 := Lib.hid (KRow.name (KRow.alloc hN (.cells #[.slice xA xn xc, .slice yA yn yc] 25))); have HR7 := Lib.hid (KRow.arg Si.rnC_size (KRow.alloc hR (.cells #[.slice xA xn xc, .slice yA yn yc] 25))); clear hxn hyn hN hR hb CD2))
        | (go_at_call 7; go_must (refine (CA.out _ KB.out).mono ?_; rintro e w9 ⟨rfl, hb⟩; replace KB := Lib.hid (KB.out.trans (hb.mono KB.out.size)); clear hb))
        | fail)
      go_returns
      exact ⟨by simp, KB.out⟩
    · have cy' : (y != 0) = true := by simp; omega
      obtain ⟨A1, c1, rfl, _⟩ := hN.form
      obtain ⟨A2, c2, rfl⟩ := KArg.form hR
      have j0 := RB.out.cell 0
      have j1 := RB.out.cell 1
      clear hE hN hs hR hsm cz hz HDE hb8 CE2 HBB cy
      go_enter Tryd.func3, Tryd.ntmps3
      go_wp2_with (first
        | (go_at_call 6; go_must (refine (CS.out _ KB.out).mono ?_; rintro e w1 ⟨rfl, hb⟩; replace KB := Lib.hid (KB.out.trans (hb.mono KB.out.size)); replace RB := Lib.hid (RB.out.keep hb); have j0 := RB.out.cell 0; have j1 := RB.out.cell 1; clear hb CS))
        | (go_at_call 8; go_must (refine (CE.out _ KB.out).mono ?_; rintro e w3 ⟨S, rfl, hS, hb⟩; have HSS := Lib.hid hS; replace KB := Lib.hid (KB.out.trans (hb.mono KB.out.size)); replace RB := Lib.hid (RB.out.keep hb); have j0 := RB.out.cell 0; have j1 := RB.out.cell 1; clear hb CE hS))
        | (go_at_call 9; go_must (refine (CK.out _ KB.out).mono ?_; rintro e w2 ⟨rfl, hb⟩; replace KB := Lib.hid (KB.out.trans (hb.mono KB.out.size)); replace RB := Lib.hid (RB.out.keep hb); have j0 := RB.out.cell 0; have j1 := RB.out.cell 1; clear hb CK))
        | (go_at_call 10; go_must (refine (CD2.out _ KB.out).mono ?_; rintro e w7 ⟨vN3, vR3, rfl, hN, hR, hb⟩; obtain ⟨xA, xn, xc, rfl, hxn⟩ := KRow.form hN; obtain ⟨yA, yn, yc, rfl, hyn⟩ := KRow.form hR; replace KB := Lib.hid ((KB.out.trans (hb.mono KB.out.size)).alloc (KB.out.trans (hb.mono KB.out.size)).size (.cells #[.slice xA xn xc, .slice yA yn yc] 25)); have HN7 := Lib.hid (KRow.name (KRow.alloc hN (.cells #[.slice xA xn xc, .slice yA yn yc] 25))); have HR7 := Lib.hid (KRow.arg Si.rnC_size (KRow.alloc hR (.cells #[.slice xA xn xc, .slice yA yn yc] 25))); clear hxn hyn hN hR hb CD2))
        | (go_at_call 7; go_must (refine (CA.out _ KB.out).mono ?_; rintro e w9 ⟨rfl, hb⟩; replace KB := Lib.hid (KB.out.trans (hb.mono KB.out.size)); clear hb))
        | fail)
      go_returns
      exact ⟨rfl, KB.out⟩
  subst cz
  rw [if_pos rfl] at CE
  have ho := (okL_of hz).1
  have hlen := enc_len ho
  have hvr := (Si.ckC_ok hz).2.2.2.2.2
  have hjl := Si.jn_len R
  have CD := Lib.hid (fun (S : ByteArray) (hS : S.data.toList = enc N (Si.jn R)) W (hb : Below w.heap.size w W) => show Calls Tryd.prog 10 #[.string S] W (DcR ((N, Si.jn R), 0) W) by
    have h := Decode_any S W (hE.below hb) (by rw [size_len, hS]; omega)
    rw [hS, dc_of hz] at h; exact h)
  unfold DcR at CD
  simp only at CD
  have CSM := Lib.hid (fun v1 v2 W (hb : Below w.heap.size w W) (h1 : Si.NmArg W v1 N) (h2 : Si.RnArg W v2 (Si.jn R)) => Si.capSame_any true N (Si.jn R) N R v1 v2 vN vR W h1 hs h2 (hN.keep hb) hs (hR.keep hb) (by have := hsm.1; omega) (by have := hsm.1; omega) (by have := hsm.2.1; omega) (by have := hsm.2.1; omega) (fun _ => rfl) (fun h => absurd ⟨ckC_jn hz, hz, rfl, jn_id (Si.jn_al R)⟩ h))
  have CCL := Lib.hid (fun W (hb : Below w.heap.size w W) => rclean10_any _ R vR W (hR.keep hb) (by have := hsm.1; omega) hvr)
  have CSA := Lib.hid (fun V V' W (h1 : Si.RnArg W V (Si.jn R)) (h2 : Si.RnArg W V' (Si.jn R)) => same_any (Si.jn R) V V' W h1 h2 (by have := hsm.1; omega))
  by_cases cy : y = 0
  · subst cy
    replace CE2 := Lib.hid (CE2.out rfl)
    replace HBB := Lib.hid (HBB.out rfl)
    obtain ⟨A1, c1, rfl, _⟩ := hN.form
    obtain ⟨A2, c2, rfl⟩ := KArg.form hR
    have j0 := RB.out.cell 0
    have j1 := RB.out.cell 1
    clear hE hN hs hR hsm hz ho hlen hvr hjl HDE hb8
    go_enter Tryd.func3, Tryd.ntmps3
    go_wp2_with (first
      | (go_at_call 6; go_must (refine (CS.out _ KB.out).mono ?_; rintro e w1 ⟨rfl, hb⟩; replace KB := Lib.hid (KB.out.trans (hb.mono KB.out.size)); replace RB := Lib.hid (RB.out.keep hb); have j0 := RB.out.cell 0; have j1 := RB.out.cell 1; clear hb CS))
      | (go_at_call 8; go_must (refine (CE.out _ KB.out).mono ?_; rintro e w3 ⟨S, rfl, hS, hb⟩; have HSS := Lib.hid hS; replace KB := Lib.hid (KB.out.trans (hb.mono KB.out.size)); replace RB := Lib.hid (RB.out.keep hb); have j0 := RB.out.cell 0; have j1 := RB.out.cell 1; clear hb CE hS))
      | (go_at_call 9; go_must (refine (CK.out _ KB.out).mono ?_; rintro e w2 ⟨rfl, hb⟩; replace KB := Lib.hid (KB.out.trans (hb.mono KB.out.size)); replace RB := Lib.hid (RB.out.keep hb); have j0 := RB.out.cell 0; have j1 := RB.out.cell 1; clear hb CK))
      | (go_at_call 10; go_must (refine (CD.out S HSS.out _ KB.out).mono ?_; rintro e w4 ⟨vN2, vR2, rfl, hN, hR, hb⟩; obtain ⟨nA, nn, nc, rfl, hnn⟩ := KRow.form hN; obtain ⟨rA, rn, rc, rfl, hrn⟩ := KRow.form hR; replace KB := Lib.hid ((KB.out.trans (hb.mono KB.out.size)).alloc (KB.out.trans (hb.mono KB.out.size)).size (.cells #[.slice nA nn nc, .slice rA rn rc] 25)); replace RB := Lib.hid ((RB.out.keep hb).alloc (.cells #[.slice nA nn nc, .slice rA rn rc] 25)); have RD := Lib.hid (RowAt.new w4 25 #[.slice nA nn nc, .slice rA rn rc]); have HN4 := Lib.hid (KRow.alloc hN (.cells #[.slice nA nn nc, .slice rA rn rc] 25)); have HR4 := Lib.hid (KRow.alloc hR (.cells #[.slice nA nn nc, .slice rA rn rc] 25)); clear hnn hrn hN hR hb CD))
      | fail)
    have HBK := Lib.hid (fun W (hb : Below (w4.alloc (.cells #[.slice nA nn nc, .slice rA rn rc] 25)).heap.size (w4.alloc (.cells #[.slice nA nn nc, .slice rA rn rc] 25)) W) => KB.out.trans (hb.mono KB.out.size))
    have HS := Lib.hid (fun W (hb : Below (w4.alloc (.cells #[.slice nA nn nc, .slice rA rn rc] 25)).heap.size (w4.alloc (.cells #[.slice nA nn nc, .slice rA rn rc] 25)) W) => show W.cell? ⟨w4.heap.size, 0, none⟩ = some (.slice nA nn nc) ∧ W.cell? ⟨w4.heap.size, 1, none⟩ = some (.slice rA rn rc) ∧ W.cell? ⟨w.heap.size, 0, none⟩ = some (.slice A1 N.length c1) ∧ W.cell? ⟨w.heap.size, 1, none⟩ = some (.slice A2 R.length c2) ∧ Below (w4.alloc (.cells #[.slice nA nn nc, .slice rA rn rc] 25)).heap.size (w4.alloc (.cells #[.slice nA nn nc, .slice rA rn rc] 25)) W from ⟨(RD.out.keep hb).cell 0, (RD.out.keep hb).cell 1, (RB.out.keep hb).cell 0, (RB.out.keep hb).cell 1, hb⟩)
    have HS0 := Lib.hid (HS.out _ (Below.refl _ _).drew)
    have HBL := Lib.hid (fun W (h : W.cell? ⟨w4.heap.size, 0, none⟩ = some (.slice nA nn nc) ∧ W.cell? ⟨w4.heap.size, 1, none⟩ = some (.slice rA rn rc) ∧ W.cell? ⟨w.heap.size, 0, none⟩ = some (.slice A1 N.length c1) ∧ W.cell? ⟨w.heap.size, 1, none⟩ = some (.slice A2 R.length c2) ∧ Below (w4.alloc (.cells #[.slice nA nn nc, .slice rA rn rc] 25)).heap.size (w4.alloc (.cells #[.slice nA nn nc, .slice rA rn rc] 25)) W) => h.2.2.2.2)
    have CSM2 := Lib.hid (fun W (hb : Below (w4.alloc (.cells #[.slice nA nn nc, .slice rA rn rc] 25)).heap.size (w4.alloc (.cells #[.slice nA nn nc, .slice rA rn rc] 25)) W) => CSM.out _ _ W (HBK.out W hb) (KRow.name (KRow.keep HN4.out hb)) (KRow.arg Si.rnC_size (KRow.keep HR4.out hb)))
    have CCL2 := Lib.hid (fun W (hb : Below (w4.alloc (.cells #[.slice nA nn nc, .slice rA rn rc] 25)).heap.size (w4.alloc (.cells #[.slice nA nn nc, .slice rA rn rc] 25)) W) => CCL.out W (HBK.out W hb))
    have CSA2 := Lib.hid (fun V W (hb : Below (w4.alloc (.cells #[.slice nA nn nc, .slice rA rn rc] 25)).heap.size (w4.alloc (.cells #[.slice nA nn nc, .slice rA rn rc] 25)) W) (h : Si.RnArg W V (Si.jn R)) => CSA.out _ V W (KRow.arg Si.rnC_size (KRow.keep HR4.out hb)) h)
    clear CSM CCL CSA
    go_region_held3 (fun W => W.cell? ⟨w4.heap.size, 0, none⟩ = some (.slice nA nn nc) ∧ W.cell? ⟨w4.heap.size, 1, none⟩ = some (.slice rA rn rc) ∧ W.cell? ⟨w.heap.size, 0, none⟩ = some (.slice A1 N.length c1) ∧ W.cell? ⟨w.heap.size, 1, none⟩ = some (.slice A2 R.length c2) ∧ Below (w4.alloc (.cells #[.slice nA nn nc, .slice rA rn rc] 25)).heap.size (w4.alloc (.cells #[.slice nA nn nc, .slice rA rn rc] 25)) W) (first | exact HS0.out | assumption | go_keep)
      (first
        | (go_at_call 11; refine (CSM2.out _ (HBL.out _ (by assumption))).mono ?_; rintro e w5 ⟨rfl, b5⟩; (first | (replace HCR := Lib.hid (KArg.keep HCR.out b5)) | skip); have h5 := HS.out w5 ((HBL.out _ (by assumption)).trans (b5.mono (HBL.out _ (by assumption)).size)))
        | (go_at_call 13; refine (CCL2.out _ (HBL.out _ (by assumption))).mono ?_; rintro e w6 ⟨v6, rfl, hr6, b6⟩; obtain ⟨cA, cn, cc, rfl, hcn⟩ := KRow.form hr6; have HCR := Lib.hid (KRow.arg Si.rnC_size hr6); clear hcn hr6; have h6 := HS.out w6 ((HBL.out _ (by assumption)).trans (b6.mono (HBL.out _ (by assumption)).size)))
        | (go_at_call 12; refine (CSA2.out _ _ (HBL.out _ (by assumption)) HCR.out).mono ?_; rintro e w6b ⟨rfl, b7⟩; have h7 := HS.out w6b ((HBL.out _ (by assumption)).trans (b7.mono (HBL.out _ (by assumption)).size)))
        | fail)
    all_goals
      rename_i hh
      have KB6 := Lib.hid (HBK.out _ (HBL.out _ hh))
      clear hh HS0
      have KB := KB6
      go_wp2_with (first
        | (go_at_call 10; go_must (refine (CD2.out _ KB.out).mono ?_; rintro e w7 ⟨vN3, vR3, rfl, hN, hR, hb⟩; obtain ⟨xA, xn, xc, rfl, hxn⟩ := KRow.form hN; obtain ⟨yA, yn, yc, rfl, hyn⟩ := KRow.form hR; replace KB := Lib.hid ((KB.out.trans (hb.mono KB.out.size)).alloc (KB.out.trans (hb.mono KB.out.size)).size (.cells #[.slice xA xn xc, .slice yA yn yc] 25)); have HN7 := Lib.hid (KRow.name (KRow.alloc hN (.cells #[.slice xA xn xc, .slice yA yn yc] 25))); have HR7 := Lib.hid (KRow.arg Si.rnC_size (KRow.alloc hR (.cells #[.slice xA xn xc, .slice yA yn yc] 25))); clear hxn hyn hN hR hb CD2))
        | (go_at_call 8; go_must (refine (CE2.out _ _ _ KB.out HN7.out HR7.out).mono ?_; rintro e w8 ⟨S2, rfl, hS, hb⟩; replace KB := Lib.hid (KB.out.trans (hb.mono KB.out.size)); obtain rfl : S2 = b := Si.eq_of_toList (hS.trans HBB.out.symm); have hq : (S2.toList == S2.toList) = true := (Si.str_eq rfl).1; clear hb CE2 hS))
        | (go_at_call 7; go_must (refine (CA.out _ KB.out).mono ?_; rintro e w9 ⟨rfl, hb⟩; replace KB := Lib.hid (KB.out.trans (hb.mono KB.out.size)); clear hb))
        | fail)
      go_returns
      exact ⟨by simp, KB.out⟩
  · have cy' : (y != 0) = true := by simp; omega
    obtain ⟨A1, c1, rfl, _⟩ := hN.form
    obtain ⟨A2, c2, rfl⟩ := KArg.form hR
    have j0 := RB.out.cell 0
    have j1 := RB.out.cell 1
    clear hE hN hs hR hsm hz ho hlen hvr hjl HDE hb8 CE2 HBB cy
    go_enter Tryd.func3, Tryd.ntmps3
    go_wp2_with (first
      | (go_at_call 6; go_must (refine (CS.out _ KB.out).mono ?_; rintro e w1 ⟨rfl, hb⟩; replace KB := Lib.hid (KB.out.trans (hb.mono KB.out.size)); replace RB := Lib.hid (RB.out.keep hb); have j0 := RB.out.cell 0; have j1 := RB.out.cell 1; clear hb CS))
      | (go_at_call 8; go_must (refine (CE.out _ KB.out).mono ?_; rintro e w3 ⟨S, rfl, hS, hb⟩; have HSS := Lib.hid hS; replace KB := Lib.hid (KB.out.trans (hb.mono KB.out.size)); replace RB := Lib.hid (RB.out.keep hb); have j0 := RB.out.cell 0; have j1 := RB.out.cell 1; clear hb CE hS))
      | (go_at_call 9; go_must (refine (CK.out _ KB.out).mono ?_; rintro e w2 ⟨rfl, hb⟩; replace KB := Lib.hid (KB.out.trans (hb.mono KB.out.size)); replace RB := Lib.hid (RB.out.keep hb); have j0 := RB.out.cell 0; have j1 := RB.out.cell 1; clear hb CK))
      | (go_at_call 10; go_must (refine (CD.out S HSS.out _ KB.out).mono ?_; rintro e w4 ⟨vN2, vR2, rfl, hN, hR, hb⟩; obtain ⟨nA, nn, nc, rfl, hnn⟩ := KRow.form hN; obtain ⟨rA, rn, rc, rfl, hrn⟩ := KRow.form hR; replace KB := Lib.hid ((KB.out.trans (hb.mono KB.out.size)).alloc (KB.out.trans (hb.mono KB.out.size)).size (.cells #[.slice nA nn nc, .slice rA rn rc] 25)); replace RB := Lib.hid ((RB.out.keep hb).alloc (.cells #[.slice nA nn nc, .slice rA rn rc] 25)); have RD := Lib.hid (RowAt.new w4 25 #[.slice nA nn nc, .slice rA rn rc]); have HN4 := Lib.hid (KRow.alloc hN (.cells #[.slice nA nn nc, .slice rA rn rc] 25)); have HR4 := Lib.hid (KRow.alloc hR (.cells #[.slice nA nn nc, .slice rA rn rc] 25)); clear hnn hrn hN hR hb CD))
      | fail)
    have HBK := Lib.hid (fun W (hb : Below (w4.alloc (.cells #[.slice nA nn nc, .slice rA rn rc] 25)).heap.size (w4.alloc (.cells #[.slice nA nn nc, .slice rA rn rc] 25)) W) => KB.out.trans (hb.mono KB.out.size))
    have HS := Lib.hid (fun W (hb : Below (w4.alloc (.cells #[.slice nA nn nc, .slice rA rn rc] 25)).heap.size (w4.alloc (.cells #[.slice nA nn nc, .slice rA rn rc] 25)) W) => show W.cell? ⟨w4.heap.size, 0, none⟩ = some (.slice nA nn nc) ∧ W.cell? ⟨w4.heap.size, 1, none⟩ = some (.slice rA rn rc) ∧ W.cell? ⟨w.heap.size, 0, none⟩ = some (.slice A1 N.length c1) ∧ W.cell? ⟨w.heap.size, 1, none⟩ = some (.slice A2 R.length c2) ∧ Below (w4.alloc (.cells #[.slice nA nn nc, .slice rA rn rc] 25)).heap.size (w4.alloc (.cells #[.slice nA nn nc, .slice rA rn rc] 25)) W from ⟨(RD.out.keep hb).cell 0, (RD.out.keep hb).cell 1, (RB.out.keep hb).cell 0, (RB.out.keep hb).cell 1, hb⟩)
    have HS0 := Lib.hid (HS.out _ (Below.refl _ _).drew)
    have HBL := Lib.hid (fun W (h : W.cell? ⟨w4.heap.size, 0, none⟩ = some (.slice nA nn nc) ∧ W.cell? ⟨w4.heap.size, 1, none⟩ = some (.slice rA rn rc) ∧ W.cell? ⟨w.heap.size, 0, none⟩ = some (.slice A1 N.length c1) ∧ W.cell? ⟨w.heap.size, 1, none⟩ = some (.slice A2 R.length c2) ∧ Below (w4.alloc (.cells #[.slice nA nn nc, .slice rA rn rc] 25)).heap.size (w4.alloc (.cells #[.slice nA nn nc, .slice rA rn rc] 25)) W) => h.2.2.2.2)
    have CSM2 := Lib.hid (fun W (hb : Below (w4.alloc (.cells #[.slice nA nn nc, .slice rA rn rc] 25)).heap.size (w4.alloc (.cells #[.slice nA nn nc, .slice rA rn rc] 25)) W) => CSM.out _ _ W (HBK.out W hb) (KRow.name (KRow.keep HN4.out hb)) (KRow.arg Si.rnC_size (KRow.keep HR4.out hb)))
    have CCL2 := Lib.hid (fun W (hb : Below (w4.alloc (.cells #[.slice nA nn nc, .slice rA rn rc] 25)).heap.size (w4.alloc (.cells #[.slice nA nn nc, .slice rA rn rc] 25)) W) => CCL.out W (HBK.out W hb))
    have CSA2 := Lib.hid (fun V W (hb : Below (w4.alloc (.cells #[.slice nA nn nc, .slice rA rn rc] 25)).heap.size (w4.alloc (.cells #[.slice nA nn nc, .slice rA rn rc] 25)) W) (h : Si.RnArg W V (Si.jn R)) => CSA.out _ V W (KRow.arg Si.rnC_size (KRow.keep HR4.out hb)) h)
    clear CSM CCL CSA
    go_region_held3 (fun W => W.cell? ⟨w4.heap.size, 0, none⟩ = some (.slice nA nn nc) ∧ W.cell? ⟨w4.heap.size, 1, none⟩ = some (.slice rA rn rc) ∧ W.cell? ⟨w.heap.size, 0, none⟩ = some (.slice A1 N.length c1) ∧ W.cell? ⟨w.heap.size, 1, none⟩ = some (.slice A2 R.length c2) ∧ Below (w4.alloc (.cells #[.slice nA nn nc, .slice rA rn rc] 25)).heap.size (w4.alloc (.cells #[.slice nA nn nc, .slice rA rn rc] 25)) W) (first | exact HS0.out | assumption | go_keep)
      (first
        | (go_at_call 11; refine (CSM2.out _ (HBL.out _ (by assumption))).mono ?_; rintro e w5 ⟨rfl, b5⟩; (first | (replace HCR := Lib.hid (KArg.keep HCR.out b5)) | skip); have h5 := HS.out w5 ((HBL.out _ (by assumption)).trans (b5.mono (HBL.out _ (by assumption)).size)))
        | (go_at_call 13; refine (CCL2.out _ (HBL.out _ (by assumption))).mono ?_; rintro e w6 ⟨v6, rfl, hr6, b6⟩; obtain ⟨cA, cn, cc, rfl, hcn⟩ := KRow.form hr6; have HCR := Lib.hid (KRow.arg Si.rnC_size hr6); clear hcn hr6; have h6 := HS.out w6 ((HBL.out _ (by assumption)).trans (b6.mono (HBL.out _ (by assumption)).size)))
        | (go_at_call 12; refine (CSA2.out _ _ (HBL.out _ (by assumption)) HCR.out).mono ?_; rintro e w6b ⟨rfl, b7⟩; have h7 := HS.out w6b ((HBL.out _ (by assumption)).trans (b7.mono (HBL.out _ (by assumption)).size)))
        | fail)
    all_goals
      rename_i hh
      have KB6 := Lib.hid (HBK.out _ (HBL.out _ hh))
      clear hh HS0
      have KB := KB6
      go_wp2_with (first
        | (go_at_call 10; go_must (refine (CD2.out _ KB.out).mono ?_; rintro e w7 ⟨vN3, vR3, rfl, hN, hR, hb⟩; obtain ⟨xA, xn, xc, rfl, hxn⟩ := KRow.form hN; obtain ⟨yA, yn, yc, rfl, hyn⟩ := KRow.form hR; replace KB := Lib.hid ((KB.out.trans (hb.mono KB.out.size)).alloc (KB.out.trans (hb.mono KB.out.size)).size (.cells #[.slice xA xn xc, .slice yA yn yc] 25)); have HN7 := Lib.hid (KRow.name (KRow.alloc hN (.cells #[.slice xA xn xc, .slice yA yn yc] 25))); have HR7 := Lib.hid (KRow.arg Si.rnC_size (KRow.alloc hR (.cells #[.slice xA xn xc, .slice yA yn yc] 25))); clear hxn hyn hN hR hb CD2))
        | (go_at_call 7; go_must (refine (CA.out _ KB.out).mono ?_; rintro e w9 ⟨rfl, hb⟩; replace KB := Lib.hid (KB.out.trans (hb.mono KB.out.size)); clear hb))
        | fail)
      go_returns
      exact ⟨rfl, KB.out⟩

end Go.Proofs.YtillcmddbjhepaaDoor

namespace Go.Proofs.YtillcmddbjhepaaDoor
open Go Go.RowKit Go.Joins
open Go.BigFrame
set_option linter.unusedVariables false
set_option linter.unusedSimpArgs false

set_option maxRecDepth 100000 in
set_option maxHeartbeats 8000000 in
theorem law_access (N : List ByteArray) (R : List Si.Rn) (vN vR : Value) (a : Int) (w : World) (hE : Sd.Env w) (hN : Si.NmArg w vN N) (hs : Si.szs N) (hR : Si.RnArg w vR R) (ha : a ≤ 9223372036854775807) :
    Calls Tryd.prog 4 #[.agg #[vN, vR], .int .i64 a] w fun e w' => e = .returned (.bool true) ∧ Below w.heap.size w w' := by
  have KB := Lib.hid (ba w (.cells #[vN, vR] 25))
  have RB := Lib.hid (RowAt.new w 25 #[vN, vR])
  have CA := Lib.hid (fun W (hb : Below w.heap.size w W) => awake_any W (hE.below hb))
  have CS := Lib.hid (fun W (hb : Below w.heap.size w W) => small_any N R vN vR W (hN.keep hb) (hR.keep hb))
  by_cases hsm : smP N R
  case neg =>
    rw [decide_eq_false hsm] at CS
    obtain ⟨A1, c1, rfl, _⟩ := hN.form
    obtain ⟨A2, c2, rfl⟩ := KArg.form hR
    have j0 := RB.out.cell 0
    have j1 := RB.out.cell 1
    clear hE hN hs hR hsm
    go_enter Tryd.func4, Tryd.ntmps4
    go_wp2_with (first
      | (go_at_call 6; go_must (refine (CS.out _ KB.out).mono ?_; rintro e w1 ⟨rfl, hb⟩; replace KB := Lib.hid (KB.out.trans (hb.mono KB.out.size)); replace RB := Lib.hid (RB.out.keep hb); have j0 := RB.out.cell 0; have j1 := RB.out.cell 1; clear hb CS))
      | (go_at_call 7; go_must (refine (CA.out _ KB.out).mono ?_; rintro e w9 ⟨rfl, hb⟩; replace KB := Lib.hid (KB.out.trans (hb.mono KB.out.size)); clear hb))
      | fail)
    go_returns
    exact ⟨rfl, KB.out⟩
  rw [decide_eq_true hsm] at CS
  have CK := Lib.hid (fun W (hb : Below w.heap.size w W) => Si.rcheck_any N R vN vR W (hN.keep hb) hs (hR.keep hb) (by have := hsm.1; omega))
  have CE := Lib.hid (fun W (hb : Below w.heap.size w W) => encode_any N R vN vR W (hE.below hb) (hN.keep hb) hs (hR.keep hb) (by have := hsm.1; omega))
  unfold encS at CE
  obtain ⟨z, hz⟩ : ∃ z, Si.ckC N R = z := ⟨_, rfl⟩
  rw [hz] at CE CK
  by_cases cz : z = 0
  case neg =>
    have cz' : (z != 0) = true := by simp; omega
    obtain ⟨A1, c1, rfl, _⟩ := hN.form
    obtain ⟨A2, c2, rfl⟩ := KArg.form hR
    have j0 := RB.out.cell 0
    have j1 := RB.out.cell 1
    clear hE hN hs hR hsm cz hz CE
    go_enter Tryd.func4, Tryd.ntmps4
    go_wp2_with (first
      | (go_at_call 6; go_must (refine (CS.out _ KB.out).mono ?_; rintro e w1 ⟨rfl, hb⟩; replace KB := Lib.hid (KB.out.trans (hb.mono KB.out.size)); replace RB := Lib.hid (RB.out.keep hb); have j0 := RB.out.cell 0; have j1 := RB.out.cell 1; clear hb CS))
      | (go_at_call 14; go_must (refine (CK.out _ KB.out).mono ?_; rintro e w2 ⟨rfl, hb⟩; replace KB := Lib.hid (KB.out.trans (hb.mono KB.out.size)); replace RB := Lib.hid (RB.out.keep hb); have j0 := RB.out.cell 0; have j1 := RB.out.cell 1; clear hb CK))
      | (go_at_call 7; go_must (refine (CA.out _ KB.out).mono ?_; rintro e w9 ⟨rfl, hb⟩; replace KB := Lib.hid (KB.out.trans (hb.mono KB.out.size)); clear hb))
      | fail)
    go_returns
    exact ⟨rfl, KB.out⟩
  rw [if_pos cz] at CE
  subst cz
  have ho := (okL_of hz).1
  have hlen := enc_len ho
  have hvr := (Si.ckC_ok hz).2.2.2.2.2
  have hps := ((Si.vr_iff _ _ 0 (by omega)).1 hvr).2.1
  have CAT := Lib.hid (fun (S : ByteArray) (hS : S.data.toList = enc N (Si.jn R)) W (hb : Below w.heap.size w W) => show Calls Tryd.prog 15 #[.string S, .int .i64 a] W (AtQ (atR (enc N (Si.jn R)) a) W) by
    have h := At_any S a W (hE.below hb) (by rw [size_len, hS]; omega)
    rw [hS] at h; exact h)
  have CCA := Lib.hid (fun W (hb : Below w.heap.size w W) => Si.at_any N R vN vR a W (hN.keep hb) hs (hR.keep hb) (by have := hsm.1; omega) ha)
  unfold AtQ at CAT
  unfold Si.atR at CCA
  by_cases hr : 0 ≤ a ∧ a < Si.lg R
  · have e1 : atR (enc N (Si.jn R)) a = ((Si.atv R a).1, 0) := by rw [atR_enc ho (by rw [Si.jn_lg]; exact hr), Si.atv_jn a hps hr.1]
    have e2 : Si.atC N R a = ((Si.atv R a).1, true) := by
      rw [Si.atC_yes hz hr.1]
      have := (Si.atv_in hr.1 hps hr.2).1
      rw [← this]
    rw [e1] at CAT
    rw [e2] at CCA
    simp only at CAT CCA
    obtain ⟨lv, hlv⟩ : ∃ lv, (Si.atv R a).1 = lv := ⟨_, rfl⟩
    rw [hlv] at CAT CCA
    obtain ⟨A1, c1, rfl, _⟩ := hN.form
    obtain ⟨A2, c2, rfl⟩ := KArg.form hR
    have j0 := RB.out.cell 0
    have j1 := RB.out.cell 1
    clear hE hN hs hR hsm hz ho hlen hvr hps e1 e2 hlv hr
    go_enter Tryd.func4, Tryd.ntmps4
    go_wp2_with (first
      | (go_at_call 6; go_must (refine (CS.out _ KB.out).mono ?_; rintro e w1 ⟨rfl, hb⟩; replace KB := Lib.hid (KB.out.trans (hb.mono KB.out.size)); replace RB := Lib.hid (RB.out.keep hb); have j0 := RB.out.cell 0; have j1 := RB.out.cell 1; clear hb CS))
      | (go_at_call 14; go_must (refine (CK.out _ KB.out).mono ?_; rintro e w2 ⟨rfl, hb⟩; replace KB := Lib.hid (KB.out.trans (hb.mono KB.out.size)); replace RB := Lib.hid (RB.out.keep hb); have j0 := RB.out.cell 0; have j1 := RB.out.cell 1; clear hb CK))
      | (go_at_call 8; go_must (refine (CE.out _ KB.out).mono ?_; rintro e w3 ⟨S, rfl, hS, hb⟩; have HSS := Lib.hid hS; replace KB := Lib.hid (KB.out.trans (hb.mono KB.out.size)); replace RB := Lib.hid (RB.out.keep hb); have j0 := RB.out.cell 0; have j1 := RB.out.cell 1; clear hb CE hS))
      | (go_at_call 15; go_must (refine (CAT.out S HSS.out _ KB.out).mono ?_; rintro e w4 ⟨rfl, hb⟩; replace KB := Lib.hid (KB.out.trans (hb.mono KB.out.size)); replace RB := Lib.hid (RB.out.keep hb); have j0 := RB.out.cell 0; have j1 := RB.out.cell 1; clear hb CAT))
      | (go_at_call 16; go_must (refine (CCA.out _ KB.out).mono ?_; rintro e w5 ⟨rfl, hb⟩; replace KB := Lib.hid (KB.out.trans (hb.mono KB.out.size)); replace RB := Lib.hid (RB.out.keep hb); have j0 := RB.out.cell 0; have j1 := RB.out.cell 1; clear hb CCA))
      | (go_at_call 7; go_must (refine (CA.out _ KB.out).mono ?_; rintro e w9 ⟨rfl, hb⟩; replace KB := Lib.hid (KB.out.trans (hb.mono KB.out.size)); clear hb))
      | fail)
    go_returns
    exact ⟨by simp, KB.out⟩
  · have e1 : atR (enc N (Si.jn R)) a = (0, 2) := atR_enc2 ho (by rw [Si.jn_lg]; exact hr)
    have e2 : Si.atC N R a = (-1, false) := by
      by_cases h0 : 0 ≤ a
      · rw [Si.atC_yes hz h0]; exact Si.atv_end hps (by omega)
      · exact Si.atC_no (fun h => h0 h.2)
    rw [e1] at CAT
    rw [e2] at CCA
    simp only at CAT CCA
    obtain ⟨A1, c1, rfl, _⟩ := hN.form
    obtain ⟨A2, c2, rfl⟩ := KArg.form hR
    have j0 := RB.out.cell 0
    have j1 := RB.out.cell 1
    clear hE hN hs hR hsm hz ho hlen hvr hps e1 e2 hr
    go_enter Tryd.func4, Tryd.ntmps4
    go_wp2_with (first
      | (go_at_call 6; go_must (refine (CS.out _ KB.out).mono ?_; rintro e w1 ⟨rfl, hb⟩; replace KB := Lib.hid (KB.out.trans (hb.mono KB.out.size)); replace RB := Lib.hid (RB.out.keep hb); have j0 := RB.out.cell 0; have j1 := RB.out.cell 1; clear hb CS))
      | (go_at_call 14; go_must (refine (CK.out _ KB.out).mono ?_; rintro e w2 ⟨rfl, hb⟩; replace KB := Lib.hid (KB.out.trans (hb.mono KB.out.size)); replace RB := Lib.hid (RB.out.keep hb); have j0 := RB.out.cell 0; have j1 := RB.out.cell 1; clear hb CK))
      | (go_at_call 8; go_must (refine (CE.out _ KB.out).mono ?_; rintro e w3 ⟨S, rfl, hS, hb⟩; have HSS := Lib.hid hS; replace KB := Lib.hid (KB.out.trans (hb.mono KB.out.size)); replace RB := Lib.hid (RB.out.keep hb); have j0 := RB.out.cell 0; have j1 := RB.out.cell 1; clear hb CE hS))
      | (go_at_call 15; go_must (refine (CAT.out S HSS.out _ KB.out).mono ?_; rintro e w4 ⟨rfl, hb⟩; replace KB := Lib.hid (KB.out.trans (hb.mono KB.out.size)); replace RB := Lib.hid (RB.out.keep hb); have j0 := RB.out.cell 0; have j1 := RB.out.cell 1; clear hb CAT))
      | (go_at_call 16; go_must (refine (CCA.out _ KB.out).mono ?_; rintro e w5 ⟨rfl, hb⟩; replace KB := Lib.hid (KB.out.trans (hb.mono KB.out.size)); replace RB := Lib.hid (RB.out.keep hb); have j0 := RB.out.cell 0; have j1 := RB.out.cell 1; clear hb CCA))
      | (go_at_call 7; go_must (refine (CA.out _ KB.out).mono ?_; rintro e w9 ⟨rfl, hb⟩; replace KB := Lib.hid (KB.out.trans (hb.mono KB.out.size)); clear hb))
      | fail)
    go_returns
    exact ⟨by simp, KB.out⟩

end Go.Proofs.YtillcmddbjhepaaDoor
