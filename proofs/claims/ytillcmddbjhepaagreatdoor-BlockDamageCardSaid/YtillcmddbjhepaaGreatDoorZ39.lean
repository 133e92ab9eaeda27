/-
  Encode.
-/
import Derived.Test.YtillcmddbjhepaaGreatDoorZ38
import Derived.Test.YtillcmddbjhepaaGreatDoorZ23
import Derived.Test.YtillcmddbjhepaaGreatDoorZ17
import Derived.Deep.RegionHeld3
import Derived.Deep.RegionWith
import Derived.Deep.DeepCutAuto
namespace Go.Proofs.YtillcmddbjhepaaGreatDoor
open Go Go.RowKit Go.Joins
open Si (Rn RnRow RnArg NmArg NmRow lg ckC jn szs)
set_option linter.unusedVariables false
set_option linter.unusedSimpArgs false

theorem nms_len : ∀ (N : List ByteArray), (∀ j (hj : j < N.length), N[j].size ≤ 16) → (nms N).length ≤ 26 * N.length
  | [], _ => Nat.le_refl _
  | s :: N, h => by
    have h0 := h 0 (by simp)
    have ih := nms_len N (fun j hj => h (j + 1) (by simpa using hj))
    have e : nms (s :: N) = nm1 s ++ nms N := rfl
    have h1 : (nm1 s).length ≤ 26 := by unfold nm1; rw [List.length_append, ← size_len]; have := Sb.put_ten (n := s.size) (by simp at h0; omega); simp at h0; omega
    rw [e, List.length_append, List.length_cons]
    omega
theorem entsP_len : ∀ (l : List Pt), (∀ j (hj : j < l.length), l[j].1 ≤ 9223372036854775807 ∧ l[j].2.2.2.1 ≤ 9223372036854775807) → (entsP l).length ≤ 24 * l.length
  | [], _ => Nat.le_refl _
  | p :: l, h => by
    have h0 := h 0 (by simp)
    have ih := entsP_len l (fun j hj => h (j + 1) (by simpa using hj))
    have e : entsP (p :: l) = entP p ++ entsP l := rfl
    simp only [List.getElem_cons_zero] at h0
    have h1 := Sb.put_ten (n := p.1) (by omega)
    have h2 := Sb.put_ten (n := p.2.2.2.1) (by omega)
    have h3 : (entP p).length ≤ 24 := by unfold entP; rw [List.length_append, List.length_append, four_len]; omega
    rw [e, List.length_append, List.length_cons]
    omega
theorem hdP_len {N : List ByteArray} {n t : Nat} {l : List Pt} (hN : N.length ≤ 16) (hN2 : ∀ j (hj : j < N.length), N[j].size ≤ 16) (hn : n ≤ 9223372036854775807) (ht : t ≤ 9223372036854775807) (hl : l.length ≤ 65536)
    (hl2 : ∀ j (hj : j < l.length), l[j].1 ≤ 9223372036854775807 ∧ l[j].2.2.2.1 ≤ 9223372036854775807) : (hdP N n t l).length ≤ 459 + 24 * l.length := by
  have h1 := nms_len N hN2
  have h2 := entsP_len l hl2
  have h3 := Sb.put_ten (n := N.length) (by omega)
  have h4 := Sb.put_ten (n := n) (by omega)
  have h5 := Sb.put_ten (n := t) (by omega)
  have h6 := Sb.put_ten (n := l.length) (by omega)
  unfold hdP
  simp only [List.length_append, List.length_cons, List.length_nil]
  omega

/-- Two stores into a box of two cells. -/
theorem twoC {w : World} {b : Nat} {x y : Value} {T : TypeId} (h : RowAt w b T #[x, y]) (b1 : Nat) (h1 : b1 = b) (u : Value) : w.cell? ⟨b, 0, none⟩ = some x ∧ w.cell? ⟨b, 1, none⟩ = some y ∧ w.frozen? ⟨b, 0, none⟩ = false ∧ w.frozen? ⟨b, 1, none⟩ = false ∧ (w.setCell ⟨b, 0, none⟩ u).cell? ⟨b, 1, none⟩ = some y ∧ (w.setCell ⟨b, 0, none⟩ u).frozen? ⟨b, 1, none⟩ = false :=
  ⟨h.cell 0, h.cell 1, h.frozen 0, h.frozen 1, (h.set 0 u).cell 1, (h.set 0 u).frozen 1⟩
theorem box_set {w w3 : World} {b B : Nat} {T T2 : TypeId} {x y vr : Value} {cs : Array Value} {L : List Rn} (Q3 : RowAt w3 b T #[x, y]) (r2 : RnRow w3 B vr L) (hbB : b < B) (hwB : w.heap.size ≤ B) (hwb : w.heap.size < b) (B3 : Below w.heap.size w w3) (P3 : RowAt w3 w.heap.size T2 cs) (u v : Value) :
    RowAt ((w3.setCell ⟨b, 0, none⟩ u).setCell ⟨b, 1, none⟩ v) b T #[u, v] ∧ RnRow ((w3.setCell ⟨b, 0, none⟩ u).setCell ⟨b, 1, none⟩ v) w.heap.size vr L ∧ Below w.heap.size w ((w3.setCell ⟨b, 0, none⟩ u).setCell ⟨b, 1, none⟩ v) ∧ RowAt ((w3.setCell ⟨b, 0, none⟩ u).setCell ⟨b, 1, none⟩ v) w.heap.size T2 cs := by
  have e : ∀ (X : World) (i : Nat) (z : Value) (q : Nat), q ≠ b → (X.setCell ⟨b, i, none⟩ z).heap[q]? = X.heap[q]? := fun X i z q hq => heap_setCell_other _ _ _ _ (fun h => hq h)
  refine ⟨(Q3.set 0 u).set 1 v, (KRow.others r2 (b := b) (fun q hq => (e _ _ _ q hq).trans (e _ _ _ q hq)) hbB).mono hwB, Below.setCell (p := ⟨b, 1, none⟩) (Below.setCell (p := ⟨b, 0, none⟩) B3 (Nat.le_of_lt hwb) _) (Nat.le_of_lt hwb) _, ?_⟩
  exact (e _ _ _ _ (Nat.ne_of_lt hwb)).trans ((e _ _ _ _ (Nat.ne_of_lt hwb)).trans P3)
theorem sl_whole (l : List Rn) : ∀ (b f t : Int), Si.ps l → f ≤ b → b + lg l ≤ t → Si.sl b l f t = l := by
  induction l with
  | nil => intro b f t _ _ _; rfl
  | cons r l ih =>
    intro b f t h h1 h2
    rw [Si.ps_cons] at h
    have h0 := Si.ps_nonneg h.2
    have e : lg (r :: l) = r.2 + lg l := rfl
    rw [e] at h2
    rw [Si.sl_cons, Si.s1_yes (by omega), ih (b + r.2) f t h.2 (by omega) (by omega)]
    have h3 : min (b + r.2) t - max b f = r.2 := by omega
    rw [h3]
    rfl
theorem slR_all {N : List ByteArray} {R : List Rn} (h : ckC N R = 0) : Si.slR N R 0 (lg R) = jn R := by
  obtain ⟨h1, h2, h3, h4, h5, h6⟩ := Si.ckC_ok h
  have hps := ((Si.vr_iff _ R 0 (by omega)).1 h6).2.1
  by_cases h0 : lg R ≤ 0
  · have he : R = [] := by
      cases R with
      | nil => rfl
      | cons r l =>
        rw [Si.ps_cons] at hps
        have := Si.ps_nonneg hps.2
        have e : lg (r :: l) = r.2 + lg l := rfl
        rw [e] at h0
        omega
    subst he
    rw [(Si.slN_n (show ¬ Si.slE N [] 0 (lg []) = 0 by unfold Si.slE; rw [if_neg (by rw [h]; decide)]; decide)).2]
    rfl
  · have hz : Si.slE N R 0 (lg R) = 0 := by unfold Si.slE; rw [if_neg (by rw [h]; decide), if_neg (by omega)]
    rw [(Si.slN_0 hz).2]
    unfold Si.prt
    rw [sl_whole R 0 0 (lg R) hps (Int.le_refl _) (by omega)]

set_option maxRecDepth 100000 in
set_option maxHeartbeats 16000000 in
theorem encode_any (N : List ByteArray) (R : List Rn) (vN vR : Value) (w : World) (hE : Sd.Env w) (hN : NmArg w vN N) (hs : szs N) (hR : RnArg w vR R) (hn : R.length ≤ 1099511627776) :
    Calls Tryz.prog 9 #[.agg #[vN, vR]] w fun e w' => ∃ S : ByteArray, e = .returned (.tuple #[.string S, .int .i64 (ckC N R)]) ∧ S.data.toList = encS N R ∧ Below w.heap.size w w' := by
  have CC := Lib.hid (fun w' (hb : Below w.heap.size w w') => Si.check_any N R vN vR w' (hN.keep hb) hs (hR.keep hb) hn)
  have CG := Lib.hid (fun w' (hb : Below w.heap.size w w') => Si.longC_any N R vN vR w' (hN.keep hb) hs (hR.keep hb) hn)
  have CS := Lib.hid (fun F T w' (hb : Below w.heap.size w w') => Si.slice_any N R vN vR F T w' (hN.keep hb) hs (hR.keep hb) hn)
  have HNA := Lib.hid (fun w' (hb : Below w.heap.size w w') => hN.keep hb)
  obtain ⟨A1, c1, rfl, hc1, hA1⟩ := hN.form
  obtain ⟨A2, c2, rfl⟩ := hR.form
  have B0 := Lib.hid (ba w (.cells #[.slice A1 N.length c1, .slice A2 R.length c2] 25))
  have P0 := Lib.hid (RowAt.new w 25 #[.slice A1 N.length c1, .slice A2 R.length c2])
  have HE := Lib.hid hE
  clear hN hR hA1 hE
  by_cases hz : ckC N R = 0
  case neg =>
    have hz' : (ckC N R != 0) = true := by simpa using hz
    have HX := Lib.hid (show encS N R = [] by unfold encS; rw [if_neg hz])
    clear CG CS hs HNA
    generalize ckC N R = c at *
    generalize N.length = n at *
    generalize R.length = r at *
    go_enter Tryz.func9, Tryz.ntmps9
    go_wp2_with (first
      | (go_at_call 25; go_must (refine (CC.out _ B0.out).mono ?_; rintro e1 w1 ⟨rfl, b1⟩))
      | fail)
    go_returns
    exact ⟨_, rfl, HX.out.symm, B0.out.trans (b1.mono B0.out.size)⟩
  obtain ⟨hl1, hN0, hN1, hN2, hN3, hv⟩ := Si.ckC_ok hz
  have HX := Lib.hid (show encS N R = enc N (jn R) by unfold encS; rw [if_pos hz])
  have HNS := Lib.hid (fun j (hj : j < N.length) => show N[j].size ≤ 16 by rw [size_len]; exact Si.nm_le (Si.all_at hN3 j hj))
  have hlg := Si.lgC_yes hz
  have hsl := slR_all hz
  have hjn := Si.jn_vr hv
  have hJl : (jn R).length ≤ 262144 := Nat.le_trans (Si.jn_len R) hl1
  have hjl := Si.jn_lg R
  have hrg := Si.lg_take_range hjn 0
  have HV := Lib.hid hjn
  have CS2 := Lib.hid (fun w' (hb : Below w.heap.size w w') => CS.out 0 (lg R) w' hb)
  rw [hsl] at CS2
  rw [hz] at CC ⊢
  rw [hlg, ← hjl] at CG
  rw [← hjl] at CS2
  obtain ⟨t, ht⟩ : ∃ t : Nat, lg (jn R) = t := ⟨(lg (jn R)).toNat, by rw [hjl]; rw [hjl] at hrg; omega⟩
  rw [ht] at CG CS2
  have HT := Lib.hid ht
  have htm : t ≤ 1099511627776 := by omega
  clear CS hs hjn hv hN3 hN0 hz hlg hsl hjl hrg ht
  generalize Si.slE N R 0 (t : Int) = eS at *
  generalize jn R = L at *
  generalize R.length = r at *
  go_enter Tryz.func9, Tryz.ntmps9
  go_upto_region 4 with (first
    | (go_at_call 25; go_must (refine (CC.out _ B0.out).mono ?_; rintro e1 w1 ⟨rfl, b1⟩; have B1 := Lib.hid (B0.out.trans (b1.mono B0.out.size)); have P1 := Lib.hid (P0.out.keep b1); clear b1))
    | fail)
  have g0 : w1.drew.cell? ⟨w.heap.size, 0, none⟩ = some (.slice A1 N.length c1) := P1.out.cell 0
  have g1 : w1.drew.cell? ⟨w.heap.size, 1, none⟩ = some (.slice A2 r c2) := P1.out.cell 1
  have B1d := Lib.hid B1.out.drew
  have P1d := Lib.hid (show RowAt w1.drew w.heap.size 25 #[.slice A1 N.length c1, .slice A2 r c2] from P1.out)
  have g8 : w1.cell? ⟨w.heap.size, 0, none⟩ = some (.slice A1 N.length c1) := P1.out.cell 0
  have g9 : w1.cell? ⟨w.heap.size, 1, none⟩ = some (.slice A2 r c2) := P1.out.cell 1
  have B1a := Lib.hid ((B1.out.alloc B1.out.size (.cells #[.slice none 0 0, .slice none 0 0] 25)).drew)
  have g4 : (w1.drew.alloc (.cells #[.slice none 0 0, .slice none 0 0] 25)).cell? ⟨w.heap.size, 0, none⟩ = some (.slice A1 N.length c1) := (P1d.out.alloc _).cell 0
  have g5 : (w1.drew.alloc (.cells #[.slice none 0 0, .slice none 0 0] 25)).cell? ⟨w.heap.size, 1, none⟩ = some (.slice A2 r c2) := (P1d.out.alloc _).cell 1
  have hlt1 : w.heap.size < w1.heap.size := P1.out.lt
  have hne1 : ¬ w.heap.size = w1.heap.size := Nat.ne_of_lt hlt1
  have HZB := Lib.hid (fun W => RowAt.new W 25 #[.slice none 0 0, .slice none 0 0])
  clear CC
  go_cut [5, 6] from 16 to 22 (fun p e wx => ∃ (b : Nat) (Av : Option Addr) (nv cv : Nat) (Ar : Option Addr) (cr : Nat), p = .pointer (some ⟨b, 0, none⟩) ∧ e = .int .i64 eS ∧ Hid (RowAt wx b 25 #[.slice Av nv cv, .slice Ar L.length cr]) ∧ Hid (RnRow wx w.heap.size (.slice Ar L.length cr) L) ∧ Hid (Below w.heap.size w wx) ∧ Hid (RowAt wx w.heap.size 25 #[.slice A1 N.length c1, .slice A2 r c2]))
  case first =>
    go_region_with (first
      | (go_at_call 27; first
        | (refine (CG.out w1.drew B1d.out).mono ?_; rintro e2 w2 ⟨rfl, b2⟩; have B2 := Lib.hid (B1d.out.trans (b2.mono B1d.out.size)); have P2 := Lib.hid (P1d.out.keep b2); have hlt2 : w.heap.size < w2.heap.size := P2.out.lt; have hne2 : ¬ w.heap.size = w2.heap.size := Nat.ne_of_lt hlt2; have g2 : w2.cell? ⟨w.heap.size, 0, none⟩ = some (.slice A1 N.length c1) := P2.out.cell 0; have g3 : w2.cell? ⟨w.heap.size, 1, none⟩ = some (.slice A2 r c2) := P2.out.cell 1; have g6 : (w2.alloc (.cells #[.slice none 0 0, .slice none 0 0] 25)).cell? ⟨w.heap.size, 0, none⟩ = some (.slice A1 N.length c1) := (P2.out.alloc _).cell 0; have g7 : (w2.alloc (.cells #[.slice none 0 0, .slice none 0 0] 25)).cell? ⟨w.heap.size, 1, none⟩ = some (.slice A2 r c2) := (P2.out.alloc _).cell 1)
        | (refine (CG.out ((w1.alloc (.cells #[.slice none 0 0, .slice none 0 0] 25)).drew) B1a.out).mono ?_; rintro e2 w2 ⟨rfl, b2⟩; have B2 := Lib.hid (B1a.out.trans (b2.mono B1a.out.size)); have P2 := Lib.hid (RowAt.keep (w := (w1.alloc (.cells #[.slice none 0 0, .slice none 0 0] 25)).drew) (b := w.heap.size) (T := 25) (cs := #[.slice A1 N.length c1, .slice A2 r c2]) (P1.out.alloc _) b2); have hlt2 : w.heap.size < w2.heap.size := P2.out.lt; have hne2 : ¬ w.heap.size = w2.heap.size := Nat.ne_of_lt hlt2; have Q2 := Lib.hid (RowAt.keep (w := (w1.alloc (.cells #[.slice none 0 0, .slice none 0 0] 25)).drew) (b := w1.heap.size) (T := 25) (cs := #[.slice none 0 0, .slice none 0 0]) (HZB.out w1) b2); have g2 : w2.cell? ⟨w.heap.size, 0, none⟩ = some (.slice A1 N.length c1) := P2.out.cell 0; have g3 : w2.cell? ⟨w.heap.size, 1, none⟩ = some (.slice A2 r c2) := P2.out.cell 1))
      | (go_at_call 26; first
        | (refine (CS2.out w2 B2.out).mono ?_; rintro e3 w3 ⟨v1, v2, rfl, r1, r2, b3⟩; obtain ⟨Av, nv, cv, rfl, hnv⟩ := KRow.form r1; obtain ⟨Ar, nr, cr, rfl, rfl⟩ := KRow.form r2; clear hnv; have B3 := Lib.hid (B2.out.trans (b3.mono B2.out.size)); have P3 := Lib.hid (P2.out.keep b3); have R2 := Lib.hid (r2.mono B2.out.size); try (have Q3 := Lib.hid (Q2.out.keep b3); have FIN := Lib.hid (fun u v => box_set Q3.out r2 Q2.out.lt B2.out.size hlt1 B3.out P3.out u v); obtain ⟨z0, z1, z2, z3, z4, z5⟩ := twoC Q3.out _ rfl (.slice Av nv cv)))
        | (refine (CS2.out (w2.alloc _) (B2.out.alloc B2.out.size _)).mono ?_; rintro e3 w3 ⟨v1, v2, rfl, r1, r2, b3⟩; obtain ⟨Av, nv, cv, rfl, hnv⟩ := KRow.form r1; obtain ⟨Ar, nr, cr, rfl, rfl⟩ := KRow.form r2; clear hnv; have B3 := Lib.hid ((B2.out.alloc B2.out.size _).trans (b3.mono (B2.out.alloc B2.out.size _).size)); have P3 := Lib.hid ((P2.out.alloc _).keep b3); have R2 := Lib.hid (r2.mono (B2.out.alloc B2.out.size _).size); have Q3 := Lib.hid ((HZB.out w2).keep b3); have FIN := Lib.hid (fun u v => box_set Q3.out r2 (HZB.out w2).lt (B2.out.alloc B2.out.size _).size hlt2 B3.out P3.out u v); obtain ⟨z0, z1, z2, z3, z4, z5⟩ := twoC Q3.out _ rfl (.slice Av nv cv))))
    all_goals
      go_wp2_with fail
      go_meet
      first
        | exact ⟨_, Av, nv, cv, Ar, cr, rfl, rfl, Lib.hid (RowAt.new w3 _ _), Lib.hid (R2.out.alloc _), Lib.hid (B3.out.alloc B3.out.size _), Lib.hid (P3.out.alloc _)⟩
        | exact ⟨_, Av, nv, cv, Ar, cr, rfl, rfl, Lib.hid (FIN.out _ _).1, Lib.hid (FIN.out _ _).2.1, Lib.hid (FIN.out _ _).2.2.1, Lib.hid (FIN.out _ _).2.2.2⟩
  case rest =>
    obtain ⟨b, Av, nv, cv, Ar, cr, rfl, rfl, HQ, HR, HB, HP⟩ := hcut
    clear B0 P0 B1 P1 g0 g1 B1d P1d HZB g4 g5 g8 g9 hlt1 hne1 B1a CS2
    have HDV := Lib.hid (divided_any (Si.mk N.length) L (.slice Ar L.length cr) wc (HE.out.below HB.out) (KRow.arg Si.rnC_size HR.out) (KRow.cap HR.out) hJl HV.out (by
      have : 2 ^ N.length ≤ 2 ^ 16 := Nat.pow_le_pow_right (by omega) hN2
      rw [Si.mk_nat]; omega))
    have HLB := Lib.hid (fun k => lg_blk ((Si.vr_iff _ L 0 (by omega)).1 HV.out).2.1 k)
    have HRG := Lib.hid (fun k => Si.lg_take_range HV.out k)
    have HLV := Lib.hid (fun j (hj : j < L.length) => Si.el_range HV.out j hj)
    obtain ⟨nb, hnb⟩ : ∃ nb, bkN L.length = nb := ⟨_, rfl⟩
    have hnb1 : nb ≤ 16384 := by rw [← hnb]; unfold bkN; omega
    have HNB := Lib.hid hnb
    rw [hnb] at HDV
    clear hnb
    have g5 := HQ.out.cell 1
    go_wp2_with (first
      | (go_at_call 28; go_must (refine HDV.out.mono ?_; rintro e4 wd ⟨v4, rfl, r4, b4⟩; obtain ⟨Ap, np, cp, rfl, hnp⟩ := KRow.form r4; rw [pts_len] at hnp; subst hnp; have R4 := Lib.hid r4; have B4 := Lib.hid b4; clear r4 b4))
      | fail)
    have PD := Lib.hid (HP.out.keep B4.out)
    have QD := Lib.hid (HQ.out.keep B4.out)
    have BD := Lib.hid (HB.out.trans (B4.out.mono HB.out.size))
    have HPT := Lib.hid (KRow.arg ptC_size R4.out)
    have HPB := Lib.hid (show ∀ j (hj : j < (pts L np).length), (pts L np)[j].1 ≤ 9223372036854775807 ∧ (pts L np)[j].2.2.2.1 ≤ 9223372036854775807 ∧ (pts L np)[j].2.2.2.2.1 < 4294967296 by
      intro j hj
      rw [pts_at]
      have h1 := HRG.out (16 * j)
      have h2 := ck_lt (bb (blk L j))
      refine ⟨by show (lg (L.take (16 * j))).toNat ≤ _; omega, ?_, h2⟩
      show (bb (blk L j)).length ≤ _
      have h3 : (bb (blk L j)).length ≤ 20 * (blk L j).length := bb_len (fun r hr => by
        have hm : r ∈ L := List.mem_of_mem_drop (List.mem_of_mem_take hr)
        obtain ⟨i, hi, rfl⟩ := List.getElem_of_mem hm
        have := HLV.out i hi
        have hp : 2 ^ N.length ≤ 2 ^ 16 := Nat.pow_le_pow_right (by omega) hN2
        have := Si.mk_nat N.length
        omega)
      have h4 := blk_len L j
      have h5 := szN_le L.length j
      omega)
    have PH := Lib.hid (fun W (hb : Below wd.heap.size wd W) => putHead_any N L.length t (pts L np) (.slice A1 N.length c1) (.slice Ap np cp) W ((HE.out.below BD.out).below hb) (HNA.out _ (BD.out.trans (hb.mono BD.out.size))) hN2 HNS.out (by omega) (by omega) (HPT.out.keep hb) (by rw [pts_len]; omega) HPB.out)
    have CGD := Lib.hid (fun W (hb : Below wd.heap.size wd W) => CG.out W (BD.out.trans (hb.mono BD.out.size)))
    have HS := Lib.hid (fun W (hb : Below wd.heap.size wd W) => show W.cell? ⟨w.heap.size, 0, none⟩ = some (.slice A1 N.length c1) ∧ W.cell? ⟨w.heap.size, 1, none⟩ = some (.slice A2 r c2) ∧ W.cell? ⟨b, 1, none⟩ = some (.slice Ar L.length cr) ∧ Below wd.heap.size wd W from ⟨(PD.out.keep hb).cell 0, (PD.out.keep hb).cell 1, (QD.out.keep hb).cell 1, hb⟩)
    have HS0 := Lib.hid (HS.out wd.drew (Below.refl _ _).drew)
    clear g5
    go_region_held3 (fun W => W.cell? ⟨w.heap.size, 0, none⟩ = some (.slice A1 N.length c1) ∧ W.cell? ⟨w.heap.size, 1, none⟩ = some (.slice A2 r c2) ∧ W.cell? ⟨b, 1, none⟩ = some (.slice Ar L.length cr) ∧ Below wd.heap.size wd W) (first | exact HS0.out | assumption | go_keep)
      (first
        | (go_at_call 27; refine (CGD.out _ (And.right (And.right (And.right (by assumption))))).mono ?_; rintro e5 w5 ⟨rfl, b5⟩; have h5 := HS.out w5 (Below.trans (And.right (And.right (And.right (by assumption)))) (b5.mono (Below.size (And.right (And.right (And.right (by assumption))))))))
        | (go_at_call 29; refine (PH.out _ (And.right (And.right (And.right (by assumption))))).mono ?_; rintro e6 w6 ⟨g6, m6, c6, rfl, o6, b6⟩; have B6 := Lib.hid (Below.trans (And.right (And.right (And.right (by assumption)))) (b6.mono (Below.size (And.right (And.right (And.right (by assumption))))))); have O6 := Lib.hid (o6.mono (Below.size (And.right (And.right (And.right (by assumption)))))); have h6 := HS.out w6 B6.out))
    clear h5 h6 o6 PH CGD HS HS0 CG
    have hm6 : m6 ≤ 2000000 := by
      have h1 := O6.out.len
      have h2 := hdP_len (n := L.length) (t := t) (l := pts L np) hN2 HNS.out (by omega) (by omega) (by rw [pts_len]; omega) (fun j hj => ⟨(HPB.out j hj).1, (HPB.out j hj).2.1⟩)
      rw [pts_len] at h2
      rw [List.length_append, four_len] at h1
      omega
    clear HPB
    have HEQ := Lib.hid (show encS N R = hdP N L.length t (pts L np) ++ four (ck (hdP N L.length t (pts L np))) ++ bdyP (pts L np) by
      have e1 : t = (lg L).toNat := by have := HT.out; omega
      rw [HX.out, bdyP_pts, e1, ← HNB.out, hdP_pts]; unfold enc; rfl)
    have hm0 : 0 < m6 := by have := O6.out.len; rw [List.length_append, four_len] at this; omega
    generalize hdP N L.length t (pts L np) ++ four (ck (hdP N L.length t (pts L np))) = H at *
    have HPL := Lib.hid (fun k (hk : k < (pts L np).length) => show (pts L np)[k].2.2.2.2.2.size ≤ 320 by
      rw [pts_at]
      show (⟨(bb (blk L k)).toArray⟩ : ByteArray).size ≤ 320
      rw [size_mk]
      have h3 : (bb (blk L k)).length ≤ 20 * (blk L k).length := bb_len (fun r hr => by
        have hm : r ∈ L := List.mem_of_mem_drop (List.mem_of_mem_take hr)
        obtain ⟨i, hi, rfl⟩ := List.getElem_of_mem hm
        have := HLV.out i hi
        have hp : 2 ^ N.length ≤ 2 ^ 16 := Nat.pow_le_pow_right (by omega) hN2
        have := Si.mk_nat N.length
        omega)
      have h4 := blk_len L k
      have h5 := szN_le L.length k
      omega)
    have hpl := pts_len L np
    generalize pts L np = P at *
    subst hpl
    go_wp2
    go_loopw [37, 8] (fun i v wr => ∃ (q g m c : Nat), q ≤ P.length ∧ i = .int .i64 q ∧ v = .slice (some ⟨g, 0, none⟩) m c ∧ m ≤ 2000000 + 320 * q ∧ 0 < m ∧ Hid (Sb.Own wr wd.heap.size g m c (H ++ bdyP (P.take q))) ∧ Hid (Below wd.heap.size wd wr)) (fun i _ _ => P.length - (intOf i).toNat)
    case atStart => exact ⟨0, g6, m6, c6, Nat.zero_le _, rfl, rfl, hm6, hm0, Lib.hid (by rw [show bdyP (P.take 0) = [] from rfl, List.append_nil]; exact O6.out), B6⟩
    case round =>
      clear O6 B6 hm6 hm0
      obtain ⟨q, g, m, c, hq, rfl, rfl, hm, hm0, HO, HBq⟩ := hrel
      by_cases hql : q < P.length
      · obtain ⟨_, _, e1, q1⟩ := HPT.out
        obtain ⟨ga, oa, rfl, hga, hc⟩ := q1 (by omega)
        simp only [Value.slice.injEq, true_and, and_true] at e1
        obtain ⟨rfl, rfl⟩ := e1
        obtain ⟨a0, a1, a2, a3, a4, a5⟩ := arg_six hc q hql
        have f0 := (HBq.out.cell (p := ⟨ga, oa + q * 6, none⟩) hga).trans a0
        have f1 := (HBq.out.cell (p := ⟨ga, oa + q * 6 + 1, none⟩) hga).trans a1
        have f2 := (HBq.out.cell (p := ⟨ga, oa + q * 6 + 2, none⟩) hga).trans a2
        have f3 := (HBq.out.cell (p := ⟨ga, oa + q * 6 + 3, none⟩) hga).trans a3
        have f4 := (HBq.out.cell (p := ⟨ga, oa + q * 6 + 4, none⟩) hga).trans a4
        have f5 := (HBq.out.cell (p := ⟨ga, oa + q * 6 + 5, none⟩) hga).trans a5
        have hs5 := HPL.out q hql
        have HTK := Lib.hid (bdyP_take P q hql)
        have hqi : (q : Int) < P.length := by omega
        clear hc q1 a0 a1 a2 a3 a4 a5
        generalize P[q].1 = p0 at *
        generalize P[q].2.1 = p1 at *
        generalize P[q].2.2.1 = p2 at *
        generalize P[q].2.2.2.1 = p3 at *
        generalize P[q].2.2.2.2.1 = p4 at *
        generalize P[q].2.2.2.2.2 = p5 at *
        have B7 := Lib.hid (HBq.out.alloc HBq.out.size (.cells #[.int .i64 p0, .int .i64 p1, .int .i64 p2, .int .i64 p3, .int .i64 p4, .string p5] 63))
        have O7 := Lib.hid (HO.out.alloc (.cells #[.int .i64 p0, .int .i64 p1, .int .i64 p2, .int .i64 p3, .int .i64 p4, .string p5] 63))
        have R0 := Lib.hid (RowAt.new wr 63 #[.int .i64 p0, .int .i64 p1, .int .i64 p2, .int .i64 p3, .int .i64 p4, .string p5])
        have c5 := R0.out.cell 5
        go_wp2_with (first
          | (at_builtin; go_must (refine Sb.wpList_append_text rfl (.tmp 41) (.tmp 43) rfl rfl p5 rfl O7.out B7.out.size hm0 (by omega) ?_; intro g8 c8 w8 o8 b8))
          | fail)
        go_roundw
        case rel => exact ⟨q + 1, g8, _, c8, by omega, val_int (by omega), rfl, by omega, by omega, Lib.hid (by rw [HTK.out, ← List.append_assoc]; exact o8), Lib.hid (B7.out.trans b8)⟩
        case measure => simp [intOf]; omega
      · have he : P.take q = P := List.take_of_length_le (by omega)
        rw [he] at HO
        have hqi : ¬ (q : Int) < P.length := by omega
        have hL := HO.out.len
        have kc := Sb.conv_rd HO.out.rd m c hL.symm wr (fun _ _ => rfl)
        clear he hL
        go_wp2
        go_returns
        exact ⟨_, rfl, by rw [HEQ.out, toList_mk], BD.out.trans (HBq.out.mono BD.out.size)⟩

end Go.Proofs.YtillcmddbjhepaaGreatDoor
