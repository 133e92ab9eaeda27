/-
  readTable.
  setEnds.
  setBytes.
  Stored captures, plain mathematics: the head, in the program's order.
  checkStart.
  Stored captures, plain mathematics: the specification's checks of the table.
-/
import Derived.Test.YtillcmddbjhepaaGreatDoorZ25
import Derived.Test.YtillcmddbjhepaaGreatDoorZ24
import Derived.Test.YtillcmddbjhepaaGreatDoorShelf
namespace Go.Proofs.YtillcmddbjhepaaGreatDoor
open Go Go.RowKit Go.Joins
set_option linter.unusedVariables false
set_option linter.unusedSimpArgs false

theorem wpList_append_pt {w : World} {ops : Array Oper} {rest : List Oper} {o : Oper} {a : Act} {Q : Exit → Act → World → Prop} (hgd : o.guard = none) (s x : Operand)
    (ho : o.op = .call { callee := .builtin .append, args := #[s, x], argTypes := #[58, 58] })
    {B c : Nat} {v : Value} {l : List Pt} {g : Nat} {ya : Array Value} (t : Pt) (hya : ya = ptC t) (hs : a.eval s = v) (hx : a.eval x = .slice (some ⟨g, 0, none⟩) 1 c) (hg : g = w.heap.size) (hf : PtRow w B v l) (hB : B ≤ w.heap.size) (hn : l.length ≤ 100000)
    (h : ∀ v' w', PtRow w' B v' (l ++ [t]) → Below B w w' → (∀ k, k < w.heap.size → some k ≠ v.ownBlock → w'.heap[k]? = w.heap[k]?) → wpList Tryz.prog ops Q rest (a.put o.dst v') w') : wpList Tryz.prog ops Q (o :: rest) a (w.alloc (.cells ya 63)) :=
  wpList_append_k2 (P := Tryz.prog) Tryz.underlying58 pt_info rfl (by omega) ptC_size hgd s x ho t hya hs hx hg hf hB (by subst hya; exact ptC_one t) (by omega) (by omega) h

/-- The blocks as far as the table tells. -/
def ptE (R : Nat) (E : List En) : List Pt := E.mapIdx fun i x => (x.1, 0, szN R i, x.2.1, x.2.2, ⟨#[]⟩)
theorem ptE_snoc (R : Nat) (E : List En) (x : En) : ptE R (E ++ [x]) = ptE R E ++ [(x.1, 0, szN R E.length, x.2.1, x.2.2, ⟨#[]⟩)] := by
  unfold ptE; rw [List.mapIdx_append]; simp
theorem ptE_len (R : Nat) (E : List En) : (ptE R E).length = E.length := by simp [ptE]

/-- The table: the entries, where it ends, the error. -/
def tbE (l : List UInt8) (R a : Nat) : List En × Nat × Nat := if (rX l a (bkN R)).2 = 0 then tEn l (bkN R) (rX l a (bkN R)).1 else ([], 0, (rX l a (bkN R)).2)
def TabR (ga R : Nat) (p : List En × Nat × Nat) (w : World) (e : Ending) (w' : World) : Prop :=
  ∃ (v : Value) (er : Nat), e = .returned (.tuple #[v, .int .i64 er]) ∧ (∃ A n c, v = .slice A n c) ∧ er = p.2.2 ∧ Kp [ga] w w' ∧ (p.2.2 = 0 → PtRow w' w.heap.size v (ptE R p.1) ∧ RowAt w' ga 3 #[.int .i64 p.2.1])

theorem readEx_any {s : ByteArray} {gs ga a B n : Nat} {w : World} {F : Value} (hs : s.size ≤ 9223372036854775807) (hn : n ≤ 9223372036854775807) (h1 : gs ≠ ga) (r1 : RowAt w gs 9 #[.string s]) (r2 : RowAt w ga 3 #[.int .i64 a])
    (hF : ExF B w F n) :
    Calls Tryz.prog 99 #[.slice (some ⟨w.heap.size, 0, none⟩) 1 1, .pointer (some ⟨gs, 0, none⟩), .pointer (some ⟨ga, 0, none⟩)] (w.alloc (.cells #[F] 106)) (QF (RdR ga (rX s.data.toList a n).1 (rX s.data.toList a n).2 [ga] (w.alloc (.cells #[F] 106)) fun w' => True)) :=
  read1_ex ⟨r1.alloc _, r2.alloc _, RowAt.new w _ _⟩ h1 (by have := r2.lt; omega) hs hn (hF.keep (X := []) ((Kp.refl _ w).alloc _) (by simp))

/-- One entry of the table. -/
theorem readEnt_any {s : ByteArray} {gs ga a B r : Nat} {w : World} {F1 F2 F3 : Value} {x : Nat} (hs : s.size ≤ 140737488351232) (ha : a ≤ s.size) (h1 : gs ≠ ga) (r1 : RowAt w gs 9 #[.string s]) (r2 : RowAt w ga 3 #[.int .i64 a])
    (hF1 : NumF B w F1 x 0 1099511627776) (hF2 : NumF B w F2 x 3 1048576) (hF3 : FourF B w F3 x 4) (hB : x < B) (hgB : ga < B) (hx : RowAt w x 63 #[.int .i64 0, .int .i64 0, .int .i64 r, .int .i64 0, .int .i64 0, .string ⟨#[]⟩]) (hn : x ≠ gs ∧ x ≠ ga) :
    Calls Tryz.prog 99 #[.slice (some ⟨w.heap.size, 0, none⟩) 3 3, .pointer (some ⟨gs, 0, none⟩), .pointer (some ⟨ga, 0, none⟩)] (w.alloc (.cells #[F1, F2, F3] 106)) (QF (RdR ga (rE s.data.toList a).2.1 (rE s.data.toList a).2.2 [x, ga] (w.alloc (.cells #[F1, F2, F3] 106)) fun w' => RowAt w' x 63 #[.int .i64 (rE s.data.toList a).1.1, .int .i64 0, .int .i64 r, .int .i64 (rE s.data.toList a).1.2.1, .int .i64 (rE s.data.toList a).1.2.2, .string ⟨#[]⟩])) := by
  have hk0 : Kp [x, ga] w (w.alloc (.cells #[F1, F2, F3] 106)) := (Kp.refl _ w).alloc _
  have hX : ∀ k ∈ [x, ga], k < B := by intro k hk; simp at hk; omega
  have hsl := size_len s
  have hn1 := rN_next s.data.toList a 1099511627776 (by omega)
  have hn2 := rN_next s.data.toList (rN s.data.toList a 1099511627776).2.1 1048576 hn1
  have h := read3_set (s := s) (a := a) (w := w.alloc (.cells #[F1, F2, F3] 106)) ⟨r1.alloc _, r2.alloc _, RowAt.new w _ _⟩ h1 (by have := r2.lt; omega) ⟨hn.1, hn.2, by have := hx.lt; omega⟩
    (num_field (by omega) (by decide) (hF1.keep hk0 hX) (hx.alloc _) (by simp))
    (fun _ w' hk hr => num_field (by omega) (by decide) ((hF2.keep hk0 hX).keep hk hX) hr (by simp))
    (fun _ _ w' hk hr => four_field hs (by omega) ((hF3.keep hk0 hX).keep hk hX) hr (by simp) hB)
  refine h.mono ?_
  rintro e w' ⟨er, a', rfl, rfl, hk, hp⟩
  unfold rE
  generalize rF s.data.toList (rN s.data.toList (rN s.data.toList a 1099511627776).2.1 1048576).2.1 = p3 at *
  generalize rN s.data.toList (rN s.data.toList a 1099511627776).2.1 1048576 = p2 at *
  generalize rN s.data.toList a 1099511627776 = p1 at *
  by_cases c1 : p1.2.2 = 0
  · by_cases c2 : p2.2.2 = 0
    · rw [if_pos c1, if_pos c2] at hp ⊢
      rw [if_neg (by omega), if_neg (by omega)]
      exact ⟨_, a', rfl, rfl, hk, hp⟩
    · rw [if_pos c1, if_neg c2] at hp ⊢
      rw [if_neg (by omega), if_pos c2]
      exact ⟨_, a', rfl, rfl, hk, fun h => absurd h c2⟩
  · rw [if_neg c1] at hp ⊢
    rw [if_pos c1]
    exact ⟨_, a', rfl, rfl, hk, fun h => absurd h c1⟩

theorem cells6 {w : World} {b : Nat} {T : TypeId} {x0 x1 x2 x3 x4 x5 : Value} (h : RowAt w b T #[x0, x1, x2, x3, x4, x5]) : w.cell? ⟨b, 0, none⟩ = some x0 ∧ w.cell? ⟨b, 1, none⟩ = some x1 ∧ w.cell? ⟨b, 2, none⟩ = some x2 ∧ w.cell? ⟨b, 3, none⟩ = some x3 ∧ w.cell? ⟨b, 4, none⟩ = some x4 ∧ w.cell? ⟨b, 5, none⟩ = some x5 :=
  ⟨h.cell 0, h.cell 1, h.cell 2, h.cell 3, h.cell 4, h.cell 5⟩
/-- What the loop of readTable keeps. -/
def TbI (s : ByteArray) (gs ga R a0 : Nat) (X : List En) (a : Nat) (v : Value) (w wr : World) : Prop :=
  X.length ≤ bkN R ∧ aL X (tEn s.data.toList (bkN R - X.length) a) = tEn s.data.toList (bkN R) a0 ∧ PtRow wr w.heap.size v (ptE R X) ∧ RowAt wr gs 9 #[.string s] ∧ RowAt wr ga 3 #[.int .i64 a] ∧ Kp [ga] w wr ∧ a ≤ s.size

set_option maxRecDepth 20000 in
set_option maxHeartbeats 2000000 in
theorem readTable_any (s : ByteArray) (gs ga a R : Nat) (w : World) (hs : s.size ≤ 140737488351232) (h1 : gs ≠ ga) (r1 : RowAt w gs 9 #[.string s]) (r2 : RowAt w ga 3 #[.int .i64 a]) (ha : a ≤ s.size) (hR : R ≤ 262144) :
    Calls Tryz.prog 70 #[.func (.func 99) #[] #[.pointer (some ⟨gs, 0, none⟩), .pointer (some ⟨ga, 0, none⟩)], .int .i64 R] w (TabR ga R (tbE s.data.toList R a) w) := by
  have R1 := Lib.hid r1
  have R2 := Lib.hid r2
  have H1 := Lib.hid h1
  have HGL := Lib.hid (And.intro r1.lt r2.lt)
  have CN := Lib.hid (exactly_any (bkN R) w)
  have hb1 : bkN R ≤ 16384 := by unfold bkN; omega
  have hq : ((R : Int) + 16 - 1) / 16 = (bkN R : Int) := by unfold bkN; omega
  have hq2 : ((R : Int) + 15) / 16 = (bkN R : Int) := by unfold bkN; omega
  have HX := Lib.hid (show (rX s.data.toList a (bkN R)).1 ≤ s.size by
    have := (Sb.tu_bounds s.data.toList a).2.1
    have := size_len s
    unfold rX; show Sb.tuN _ _ ≤ _; omega)
  have HRN := Lib.hid (show tbE s.data.toList R a = if (rX s.data.toList a (bkN R)).2 = 0 then tEn s.data.toList (bkN R) (rX s.data.toList a (bkN R)).1 else ([], 0, (rX s.data.toList a (bkN R)).2) from rfl)
  have CR := Lib.hid (fun W F (hF : ExF w.heap.size W F (bkN R)) (q1 : RowAt W gs 9 #[.string s]) (q2 : RowAt W ga 3 #[.int .i64 a]) => readEx_any (a := a) (show s.size ≤ 9223372036854775807 by omega) (show bkN R ≤ 9223372036854775807 by omega) h1 q1 q2 hF)
  have HNB := Lib.hid (show bkN R = (R + 15) / 16 from rfl)
  generalize tbE s.data.toList R a = q at *
  generalize rX s.data.toList a (bkN R) = p at *
  obtain ⟨a1, e1⟩ := p
  simp only at HRN CR HX
  clear r1 r2 h1
  by_cases h0 : e1 = 0
  · subst h0
    go_enter Tryz.func70, Tryz.ntmps70
    go_wp2_with (first
      | (go_at_call 103; go_must (refine CN.out.mono ?_; rintro e w1 ⟨F, rfl, hF, b1⟩; have K1 := Lib.hid ((Kp.refl [ga] w).then_below b1); have R11 := Lib.hid (R1.out.keep b1); have CR1 := Lib.hid (CR.out _ F hF (R1.out.keep b1) (R2.out.keep b1)); obtain ⟨p1, _, rfl, _⟩ := hF; clear b1 CN CR))
      | (go_at_call 99; go_must (refine CR1.out.mono ?_; rintro e w2 ⟨er, a2, rfl, rfl, hK, hP⟩; have HK := Lib.hid ((K1.out.alloc _).trans hK); have R12 := Lib.hid (hK.row (R11.out.alloc _) (by simpa using H1.out)); have HP := Lib.hid (hP rfl); clear hK hP CR1))
      | fail)
    have HI := Lib.hid (show TbI s gs ga R a1 [] a1 (.slice none 0 0) w w2 from ⟨Nat.zero_le _, aL_nil _ (tEn_bad _ _ _), KRow.nil _ _, R12.out, HP.out.2.1, HK.out, HX.out⟩)
    have HQ := Lib.hid (show q = tEn s.data.toList (bkN R) a1 by rw [HRN.out]; exact if_pos trivial)
    clear R1 R2 HRN HK R12 HP R11 K1 HX hq hq2
    go_loopw [8, 25] (fun v i wr => ∃ (X : List En) (b : Nat), i = .int .i64 X.length ∧ Hid (TbI s gs ga R a1 X b v w wr)) (fun _ i _ => bkN R - (intOf i).toNat)
    case atStart => exact ⟨[], a1, rfl, HI⟩
    case round =>
      clear HI
      obtain ⟨X, b, rfl, HI⟩ := hrel
      obtain ⟨hX, i2, i3, i4, i5, i6, i7⟩ := HI.out
      have I2 := Lib.hid i2; have I3 := Lib.hid i3; have I4 := Lib.hid i4; have I5 := Lib.hid i5; have I6 := Lib.hid i6
      obtain ⟨vA, vn, vc, rfl, hvn⟩ := KRow.form i3
      clear i2 i3 i4 i5 i6 HI hvn
      by_cases hlt : X.length < bkN R
      · obtain ⟨m, hm⟩ : ∃ m, bkN R - X.length = m + 1 := ⟨bkN R - X.length - 1, by omega⟩
        obtain ⟨k, hk⟩ : ∃ k, X.length = k := ⟨_, rfl⟩
        obtain ⟨d, hd⟩ : ∃ d, R - 16 * k = d := ⟨_, rfl⟩
        have hkb : 16 * k < R := by have := HNB.out; omega
        have hdi : (R : Int) - (k : Int) * 16 = (d : Int) := by omega
        have hki : (k : Int) < (bkN R : Int) := by omega
        have hkn : k < bkN R := by omega
        obtain ⟨r, hr⟩ : ∃ r, szN R k = r := ⟨_, rfl⟩
        have hmin : min (d : Int) 16 = (r : Int) := by
          have : r = min d 16 := by rw [← hr]; unfold szN; rw [hd]
          omega
        have HSZ := Lib.hid hr
        have HKX := Lib.hid hk
        have HM := Lib.hid hm
        have hwg : ga < wr.heap.size ∧ gs < wr.heap.size := ⟨I5.out.lt, I4.out.lt⟩
        have HW := Lib.hid (show w.heap.size ≤ wr.heap.size ∧ ga < wr.heap.size ∧ gs < wr.heap.size from ⟨I6.out.size, I5.out.lt, I4.out.lt⟩)
        have CR := Lib.hid (fun W F1 F2 F3 (hF1 : NumF (wr.alloc (.cells #[.int .i64 0, .int .i64 0, .int .i64 r, .int .i64 0, .int .i64 0, .string ⟨#[]⟩] 63)).heap.size W F1 wr.heap.size 0 1099511627776) (hF2 : NumF (wr.alloc (.cells #[.int .i64 0, .int .i64 0, .int .i64 r, .int .i64 0, .int .i64 0, .string ⟨#[]⟩] 63)).heap.size W F2 wr.heap.size 3 1048576) (hF3 : FourF (wr.alloc (.cells #[.int .i64 0, .int .i64 0, .int .i64 r, .int .i64 0, .int .i64 0, .string ⟨#[]⟩] 63)).heap.size W F3 wr.heap.size 4) (hb : Below (wr.alloc (.cells #[.int .i64 0, .int .i64 0, .int .i64 r, .int .i64 0, .int .i64 0, .string ⟨#[]⟩] 63)).heap.size (wr.alloc (.cells #[.int .i64 0, .int .i64 0, .int .i64 r, .int .i64 0, .int .i64 0, .string ⟨#[]⟩] 63)) W) =>
          readEnt_any hs i7 H1.out ((I4.out.alloc _).keep hb) ((I5.out.alloc _).keep hb) hF1 hF2 hF3 (by rw [World.size_alloc]; omega) (by rw [World.size_alloc]; omega) ((RowAt.new wr _ _).keep hb) ⟨by omega, by omega⟩)
        have HOB := Lib.hid (show ∀ g, (Value.slice vA vn vc).ownBlock = some g → g ∉ [wr.heap.size, ga] from fun g hg => by
          have h1 := KRow.lt I3.out g hg
          have h2 := HGL.out.2
          simp; omega)
        have HGX := Lib.hid (show gs ∉ [wr.heap.size, ga] by simp; exact ⟨by omega, H1.out⟩)
        have HLN := Lib.hid (show (ptE R X).length ≤ 100000 by rw [ptE_len]; omega)
        have HLE := Lib.hid (fun (h : (rE s.data.toList b).2.2 = 0) => (rE_bd h))
        have I2s := Lib.hid I2.out
        rw [hm] at I2s
        rw [hk]
        clear hX hlt hd hk hkb hr hm hwg i7 I2
        obtain ⟨P, hP⟩ : ∃ P, rE s.data.toList b = P := ⟨_, rfl⟩
        have HTO := Lib.hid (fun (h : P.2.2 = 0) => tEn_ok (l := s.data.toList) (k := m) (a := b) (by rw [hP]; exact h))
        have HTN := Lib.hid (fun (h : ¬ P.2.2 = 0) => tEn_no (l := s.data.toList) (k := m) (a := b) (by rw [hP]; exact h))
        rw [hP] at CR HTO HTN HLE
        clear hP
        obtain ⟨⟨x1, x2, x3⟩, y, z⟩ := P
        simp only at CR HTO HTN HLE
        by_cases hE : z = 0
        · subst hE
          go_wp2_with (first
            | (go_at_call 69; go_must (first
              | (have tok := T1.out; refine (number_any _ _ _ _).mono ?_; rintro e w5 ⟨F2, rfl, hF2, b5⟩; have B5 := Lib.hid (B4.out.trans (b5.mono B4.out.size)); have G1 := Lib.hid (HF1.out.keep (X := []) (Kp.of_below b5) (by simp)); have HF2 := Lib.hid (hF2.mono B4.out.size); obtain ⟨p3, p4, _, _, rfl, _, _⟩ := hF2; clear T1 HF1 b5)
              | (refine (number_any _ _ _ _).mono ?_; rintro e w4 ⟨F1, rfl, hF1, b4⟩; have T1 := Lib.hid trivial; have B4 := Lib.hid b4; have HF1 := Lib.hid hF1; obtain ⟨p1, p2, _, _, rfl, _, _⟩ := hF1; clear b4)))
            | (go_at_call 104; go_must (refine (mkfour_any _ _ _).mono ?_; rintro e w6 ⟨F3, rfl, hF3, b6⟩; have B6 := Lib.hid (B5.out.trans (b6.mono B5.out.size)); have CR6 := Lib.hid (CR.out _ _ _ _ (G1.out.keep (X := []) (Kp.of_below b6) (by simp)) (HF2.out.keep (X := []) (Kp.of_below b6) (by simp)) (hF3.mono B5.out.size) B6.out); have I46 := Lib.hid ((I4.out.alloc (.cells #[.int .i64 0, .int .i64 0, .int .i64 r, .int .i64 0, .int .i64 0, .string ⟨#[]⟩] 63)).keep B6.out); have K6 := Lib.hid ((I6.out.alloc (.cells #[.int .i64 0, .int .i64 0, .int .i64 r, .int .i64 0, .int .i64 0, .string ⟨#[]⟩] 63)).then_below B6.out); have I36 := Lib.hid (KRow.keep (I3.out.alloc (.cells #[.int .i64 0, .int .i64 0, .int .i64 r, .int .i64 0, .int .i64 0, .string ⟨#[]⟩] 63)) B6.out); obtain ⟨p5, _, rfl, _⟩ := hF3; clear G1 HF2 b6 B4 B5 CR))
            | (go_at_call 99; go_must (refine CR6.out.mono ?_; rintro e w7 ⟨er, b7, rfl, rfl, hK, hP⟩; have K7 := Lib.hid (show Kp [wr.heap.size, ga] _ _ from (K6.out.alloc _).mono (fun k _ h => by simp at h ⊢; exact .inr h) |>.trans hK); have P7 := Lib.hid (hP rfl); obtain ⟨c0, c1, c2, c3, c4, c5⟩ := cells6 (hP rfl).2.2; have I37 := Lib.hid (KRow.kp (KRow.alloc I36.out _) hK HOB.out); have I47 := Lib.hid (hK.row (I46.out.alloc _) HGX.out); clear hK hP CR6))
            | (at_builtin; go_must (refine wpList_append_pt rfl (.tmp 46) (.tmp 48) rfl (x1, 0, r, x2, x3, ⟨#[]⟩) rfl rfl rfl rfl I37.out K7.out.size HLN.out ?_; intro v8 w8 r8 b8 n8))
            | fail)
          go_roundw
          case rel =>
            refine ⟨X ++ [(x1, x2, x3)], y, val_int (by rw [List.length_append, HKX.out]; simp), Lib.hid ?_⟩
            have hlen : (X ++ [((x1, x2, x3) : En)]).length = k + 1 := by rw [List.length_append, HKX.out]; rfl
            have hm2 : bkN R - (k + 1) = m := by have := HM.out; have := HKX.out; omega
            refine ⟨by rw [hlen]; omega, ?_, ?_, I47.out.below b8 HGL.out.1, P7.out.2.1.below b8 HGL.out.2, (K7.out.mono (fun j hj h => by simp at h ⊢; have := HW.out; omega)).then_old b8, by have := (HLE.out trivial).2.2.2; rw [size_len]; exact this⟩
            · rw [hlen, hm2, ← I2s.out, HTO.out trivial, aL_cons]
            · rw [ptE_snoc, HKX.out, HSZ.out]; exact r8
          case measure => simp [intOf]; omega
        · have hE2 : ((z : Int) != 0) = true := by simp; omega
          go_wp2_with (first
            | (go_at_call 69; go_must (first
              | (have tok := T1.out; refine (number_any _ _ _ _).mono ?_; rintro e w5 ⟨F2, rfl, hF2, b5⟩; have B5 := Lib.hid (B4.out.trans (b5.mono B4.out.size)); have G1 := Lib.hid (HF1.out.keep (X := []) (Kp.of_below b5) (by simp)); have HF2 := Lib.hid (hF2.mono B4.out.size); obtain ⟨p3, p4, _, _, rfl, _, _⟩ := hF2; clear T1 HF1 b5)
              | (refine (number_any _ _ _ _).mono ?_; rintro e w4 ⟨F1, rfl, hF1, b4⟩; have T1 := Lib.hid trivial; have B4 := Lib.hid b4; have HF1 := Lib.hid hF1; obtain ⟨p1, p2, _, _, rfl, _, _⟩ := hF1; clear b4)))
            | (go_at_call 104; go_must (refine (mkfour_any _ _ _).mono ?_; rintro e w6 ⟨F3, rfl, hF3, b6⟩; have B6 := Lib.hid (B5.out.trans (b6.mono B5.out.size)); have CR6 := Lib.hid (CR.out _ _ _ _ (G1.out.keep (X := []) (Kp.of_below b6) (by simp)) (HF2.out.keep (X := []) (Kp.of_below b6) (by simp)) (hF3.mono B5.out.size) B6.out); have I46 := Lib.hid ((I4.out.alloc (.cells #[.int .i64 0, .int .i64 0, .int .i64 r, .int .i64 0, .int .i64 0, .string ⟨#[]⟩] 63)).keep B6.out); have K6 := Lib.hid ((I6.out.alloc (.cells #[.int .i64 0, .int .i64 0, .int .i64 r, .int .i64 0, .int .i64 0, .string ⟨#[]⟩] 63)).then_below B6.out); have I36 := Lib.hid (KRow.keep (I3.out.alloc (.cells #[.int .i64 0, .int .i64 0, .int .i64 r, .int .i64 0, .int .i64 0, .string ⟨#[]⟩] 63)) B6.out); obtain ⟨p5, _, rfl, _⟩ := hF3; clear G1 HF2 b6 B4 B5 CR))
            | (go_at_call 99; go_must (refine CR6.out.mono ?_; rintro e w7 ⟨er, b7, rfl, rfl, hK, hP⟩; have K7 := Lib.hid (show Kp [wr.heap.size, ga] _ _ from (K6.out.alloc _).mono (fun k _ h => by simp at h ⊢; exact .inr h) |>.trans hK); clear hK hP CR6))
            | fail)
          have HE := Lib.hid (show q.2.2 = er ∧ q.2.2 ≠ 0 by
            rw [HQ.out, ← I2s.out, HTN.out hE]
            unfold aL
            rw [if_neg hE]
            exact ⟨rfl, hE⟩)
          go_returns
          exact ⟨_, er, rfl, ⟨_, _, _, rfl⟩, HE.out.1.symm, K7.out.mono (fun j hj h => by simp at h ⊢; have := HW.out; omega), fun h => absurd h HE.out.2⟩
      · have hXn : X.length = bkN R := by omega
        have hn0 : bkN R - X.length = 0 := by omega
        have hlti : ¬ (X.length : Int) < (bkN R : Int) := by omega
        rw [hn0] at I2
        have HF := Lib.hid (show TabR ga R q w (.returned (.tuple #[.slice vA vn vc, .int .i64 0])) wr by
          have e1 : q = (X, b, 0) := by
            rw [HQ.out, ← I2.out]
            show aL X ([], b, 0) = (X, b, 0)
            unfold aL; simp
          refine ⟨_, 0, rfl, ⟨_, _, _, rfl⟩, by rw [e1], I6.out, fun _ => ?_⟩
          rw [e1]
          exact ⟨I3.out, I5.out⟩)
        clear hXn hn0 I2 I3 I4 I5
        go_wp2
        go_returns
        exact HF.out
  · have h0' : ((e1 : Int) != 0) = true := by simp; omega
    go_enter Tryz.func70, Tryz.ntmps70
    go_wp2_with (first
      | (go_at_call 103; go_must (refine CN.out.mono ?_; rintro e w1 ⟨F, rfl, hF, b1⟩; have K1 := Lib.hid ((Kp.refl [ga] w).then_below b1); have R11 := Lib.hid (R1.out.keep b1); have CR1 := Lib.hid (CR.out _ F hF (R1.out.keep b1) (R2.out.keep b1)); obtain ⟨p1, _, rfl, _⟩ := hF; clear b1 CN CR))
      | (go_at_call 99; go_must (refine CR1.out.mono ?_; rintro e w2 ⟨er, a2, rfl, rfl, hK, hP⟩; have HK := Lib.hid ((K1.out.alloc _).trans hK); clear hK hP CR1))
      | fail)
    go_returns
    refine ⟨_, er, rfl, ⟨_, _, _, rfl⟩, by rw [HRN.out, if_neg h0], HK.out, fun h => absurd (by rw [HRN.out, if_neg h0] at h; exact h) h0⟩

end Go.Proofs.YtillcmddbjhepaaGreatDoor

namespace Go.Proofs.YtillcmddbjhepaaGreatDoor
open Go Go.RowKit Go.Joins
set_option linter.unusedVariables false
set_option linter.unusedSimpArgs false

/-- Where block k begins, or the capture ends. -/
def eA (E : List En) (T k : Nat) : Nat := if h : k < E.length then E[k].1 else T
theorem eA_in {E : List En} {T k : Nat} (h : k < E.length) : eA E T k = E[k].1 := by unfold eA; rw [dif_pos h]
theorem eT_eA (E : List En) (T k : Nat) : eT E T k = eA E T (k + 1) := rfl
theorem asc_iff (E : List En) (T : Nat) : asc E T ↔ eA E T 0 = 0 ∧ ∀ k (hk : k < E.length), E[k].1 < eA E T (k + 1) := Iff.rfl
/-- The ends of the blocks from k on are set. -/
def ptM (R : Nat) (E : List En) (T k : Nat) : List Pt := E.mapIdx fun i x => (x.1, if k ≤ i then eT E T i else 0, szN R i, x.2.1, x.2.2, ⟨#[]⟩)
theorem ptM_len (R : Nat) (E : List En) (T k : Nat) : (ptM R E T k).length = E.length := by simp [ptM]
theorem ptM_all (R : Nat) (E : List En) (T : Nat) : ptM R E T E.length = ptE R E := by
  unfold ptM ptE
  apply List.ext_getElem (by simp)
  intro i h1 h2
  have : i < E.length := by simpa using h1
  simp only [List.getElem_mapIdx]
  rw [if_neg (by omega)]
theorem ptM_at (R : Nat) (E : List En) (T k j : Nat) (hj : j < (ptM R E T k).length) : (ptM R E T k)[j] = ((E[j]'(by simpa [ptM] using hj)).1, if k ≤ j then eT E T j else 0, szN R j, (E[j]'(by simpa [ptM] using hj)).2.1, (E[j]'(by simpa [ptM] using hj)).2.2, ⟨#[]⟩) := by
  simp only [ptM, List.getElem_mapIdx]
theorem ptM_set (R : Nat) (E : List En) (T k : Nat) (hk : k < E.length) : (ptM R E T (k + 1)).set k (E[k].1, eT E T k, szN R k, E[k].2.1, E[k].2.2, ⟨#[]⟩) = ptM R E T k := by
  apply List.ext_getElem (by simp [ptM])
  intro i h1 h2
  rw [List.getElem_set]
  by_cases hik : k = i
  · subst hik
    rw [if_pos rfl, ptM_at, if_pos (Nat.le_refl _)]
  · rw [if_neg hik, ptM_at, ptM_at]
    by_cases h3 : k ≤ i
    · rw [if_pos h3, if_pos (by omega)]
    · rw [if_neg h3, if_neg (by omega)]

def SeR (B R : Nat) (E : List En) (T : Nat) (v : Value) (w : World) (e : Ending) (w' : World) : Prop :=
  e = .returned (.bool (decide (asc E T))) ∧ (∀ X : List Nat, (∀ g, v.ownBlock = some g → g ∈ X) → Kp X w w') ∧ (asc E T → PtRow w' B v (ptM R E T 0))

set_option maxRecDepth 20000 in
set_option maxHeartbeats 2000000 in
theorem setEnds_any (B R : Nat) (E : List En) (T : Nat) (vN v : Value) (w : World) (hv : PtRow w B v (ptE R E)) (hE : ∀ x ∈ E, okE x) (hT : T ≤ 1099511627776) (hl : E.length ≤ 16384) :
    Calls Tryz.prog 73 #[.agg #[vN, .int .i64 T, v]] w (SeR B R E T v w) := by
  obtain ⟨A, n, c, rfl, hn⟩ := KRow.form hv
  rw [ptE_len] at hn
  have R0 := Lib.hid (RowAt.new w 71 #[vN, .int .i64 T, .slice A n c])
  have HV := Lib.hid (show PtRow (w.alloc (.cells #[vN, .int .i64 T, .slice A n c] 71)) B (.slice A n c) (ptM R E T E.length) by rw [ptM_all]; exact KRow.alloc hv _)
  have HLT := Lib.hid (KRow.lt hv)
  have HFU := Lib.hid (fun (h : 0 < E.length) => KRow.full hv (by rw [ptE_len]; exact h))
  have HK0 := Lib.hid (fun (X : List Nat) (_ : ∀ g, (Value.slice A n c).ownBlock = some g → g ∈ X) => (Kp.refl X w).alloc (.cells #[vN, .int .i64 T, .slice A n c] 71))
  have HE := Lib.hid (fun k (hk : k < E.length) => (hE _ (List.getElem_mem hk)).1)
  subst hn
  have HAS := Lib.hid (asc_iff E T)
  clear hv hE
  go_enter Tryz.func73, Tryz.ntmps73
  go_wp2
  go_loopw [3, 4] (fun s3 s4 wr => ∃ k : Nat, k ≤ E.length ∧ s3 = .int .i64 (eA E T k) ∧ s4 = .int .i64 ((k : Int) - 1) ∧ Hid (PtRow wr B (.slice A E.length c) (ptM R E T k)) ∧ Hid (∀ j (hj : j < E.length), k ≤ j → E[j].1 < eA E T (j + 1)) ∧ Hid (RowAt wr w.heap.size 71 #[vN, .int .i64 T, .slice A E.length c]) ∧ Hid (∀ X : List Nat, (∀ g, (Value.slice A E.length c).ownBlock = some g → g ∈ X) → Kp X w wr)) (fun _ s4 _ => (intOf s4 + 1).toNat)
  case atStart => exact ⟨E.length, Nat.le_refl _, by unfold eA; rw [dif_neg (by omega)], rfl, HV, Lib.hid (fun j hj h => by omega), R0, HK0⟩
  case round =>
    clear R0 HV HK0
    obtain ⟨k, hk, rfl, rfl, HV, HA, HR, HK⟩ := hrel
    have c2 : wr.cell? ⟨w.heap.size, 2, none⟩ = some (.slice A E.length c) := HR.out.cell 2
    rcases k with _ | j
    · have h00 : ((0 : Nat) : Int) - 1 = -1 := by omega
      rw [h00]
      have HF := Lib.hid (show SeR B R E T (.slice A E.length c) w (.returned (.bool (decide (eA E T 0 = 0)))) wr by
        refine ⟨?_, HK.out, fun _ => HV.out⟩
        congr 2
        rw [decide_eq_decide, HAS.out]
        exact ⟨fun h => ⟨h, fun k hk => HA.out k hk (Nat.zero_le _)⟩, fun h => h.1⟩)
      clear HV HA HK HAS h00
      generalize eA E T 0 = z at *
      by_cases hz : z = 0
      · have hz2 : ((z : Int) == 0) = true := by simp; omega
        rw [decide_eq_true hz] at HF
        clear hz
        go_wp2
        go_returns
        exact HF.out
      · have hz2 : ((z : Int) == 0) = false := by simp; omega
        rw [decide_eq_false hz] at HF
        clear hz
        go_wp2
        go_returns
        exact HF.out
    · obtain ⟨g, c', hg⟩ := HFU.out (by omega)
      simp only [Value.slice.injEq] at hg
      obtain ⟨rfl, hgl, rfl⟩ := hg
      have hj1 : ((j + 1 : Nat) : Int) - 1 = (j : Int) := by omega
      rw [hj1]
      have hgb := HLT.out g rfl
      have hgw : ¬ g = w.heap.size := by omega
      have hml : j < (ptM R E T (j + 1)).length := by rw [ptM_len]; omega
      have hji : (j : Int) < E.length := by omega
      have hjn : j < E.length := by omega
      have f1 : wr.cell? ⟨g, j * 6 + 1, none⟩ = some (.int .i64 0) := by
        have h := KRow.cell ptC_size HV.out j hml 1 (by omega)
        rw [h, ptM_at, if_neg (by omega)]
        simp [ptC]
      have f2 : wr.frozen? ⟨g, j * 6 + 1, none⟩ = false := KRow.frozen HV.out _
      have f0 : wr.cell? ⟨g, j * 6, none⟩ = some (.int .i64 E[j].1) := by
        have h := KRow.cell ptC_size HV.out j hml 0 (by omega)
        rw [Nat.add_zero] at h
        rw [h, ptM_at]
        simp [ptC]
      have HE1 := Lib.hid (show E[j].1 = eA E T j from (eA_in hjn).symm)
      have HV2 := Lib.hid (show PtRow (wr.setCell ⟨g, j * 6 + 1, none⟩ (.int .i64 (eA E T (j + 1)))) B (.slice (some ⟨g, 0, none⟩) E.length c) (ptM R E T j) by
        have h := KRow.cellSet ptC_size HV.out j 1 hml (by omega) (.int .i64 (eA E T (j + 1))) (E[j].1, eT E T j, szN R j, E[j].2.1, E[j].2.2, ⟨#[]⟩) (by rw [ptM_at]; rfl)
        rw [ptM_set R E T j hjn] at h
        exact h)
      have HR2 := Lib.hid (RowAt.other HR.out ⟨g, j * 6 + 1, none⟩ (.int .i64 (eA E T (j + 1))) hgw)
      have HK2 := Lib.hid (fun (X : List Nat) (hX : ∀ q, (Value.slice (some ⟨g, 0, none⟩) E.length c).ownBlock = some q → q ∈ X) => Kp.setCell (p := ⟨g, j * 6 + 1, none⟩) (HK.out X hX) (.inl (hX g rfl)) (.int .i64 (eA E T (j + 1))))
      have hb1 : eA E T (j + 1) ≤ 1099511627776 := by
        unfold eA
        split
        · exact HE.out _ _
        · exact hT
      have hb2 := HE.out j hjn
      have hgc : g ≠ w.heap.size := hgw
      have d2 : (wr.setCell ⟨g, j * 6 + 1, none⟩ (.int .i64 (eA E T (j + 1)))).cell? ⟨w.heap.size, 2, none⟩ = some (.slice (some ⟨g, 0, none⟩) E.length c) := HR2.out.cell 2
      have d0 : (wr.setCell ⟨g, j * 6 + 1, none⟩ (.int .i64 (eA E T (j + 1)))).cell? ⟨g, j * 6, none⟩ = some (.int .i64 E[j].1) := by
        rw [World.cell?_setCell_other _ _ _ _ (by simp)]; exact f0
      have HA2 := Lib.hid (fun (h : E[j].1 < eA E T (j + 1)) => show ∀ i (hi : i < E.length), j ≤ i → E[i].1 < eA E T (i + 1) from fun i hi hji => by
        rcases Nat.eq_or_lt_of_le hji with e | e
        · subst e; exact h
        · exact HA.out i hi e)
      have HAN := Lib.hid (fun (h : ¬ E[j].1 < eA E T (j + 1)) => show SeR B R E T (.slice (some ⟨g, 0, none⟩) E.length c) w (.returned (.bool false)) (wr.setCell ⟨g, j * 6 + 1, none⟩ (.int .i64 (eA E T (j + 1)))) from by
        have hn : ¬ asc E T := fun ha => h ((HAS.out.1 ha).2 j hjn)
        exact ⟨by rw [decide_eq_false hn], HK2.out, fun ha => absurd ha hn⟩)
      have hcE : (E.length : Int) ≤ 16384 := by omega
      clear HV HR HA HK hml hgl hj1 hk f0 HE
      generalize E[j].1 = x0 at *
      generalize eA E T (j + 1) = x1 at *
      by_cases hlt : x0 < x1
      · have hq : ¬ (x1 : Int) ≤ (x0 : Int) := by omega
        have HA3 := Lib.hid (HA2.out hlt)
        clear HA2 HAN hlt
        go_wp2
        go_roundw
        case rel => exact ⟨j, by omega, by rw [HE1.out], rfl, HV2, HA3, HR2, HK2⟩
        case measure => simp [intOf]
      · have hq : (x1 : Int) ≤ (x0 : Int) := by omega
        have HN := Lib.hid (HAN.out hlt)
        clear HA2 HAN hlt
        go_wp2
        go_returns
        exact HN.out

end Go.Proofs.YtillcmddbjhepaaGreatDoor

namespace Go.Proofs.YtillcmddbjhepaaGreatDoor
open Go Go.RowKit Go.Joins
set_option linter.unusedVariables false
set_option linter.unusedSimpArgs false

/-- The bytes of block i. -/
def bkB (E : List En) (L : List UInt8) (i n : Nat) : List UInt8 := (L.drop (szE (E.take i))).take n
/-- The bytes of the blocks before block k are set. -/
def ptG (R : Nat) (E : List En) (T : Nat) (L : List UInt8) (k : Nat) : List Pt := E.mapIdx fun i x => (x.1, eT E T i, szN R i, x.2.1, x.2.2, if i < k then ⟨(bkB E L i x.2.1).toArray⟩ else ⟨#[]⟩)
theorem ptG_len (R : Nat) (E : List En) (T : Nat) (L : List UInt8) (k : Nat) : (ptG R E T L k).length = E.length := by simp [ptG]
theorem ptG_at (R : Nat) (E : List En) (T : Nat) (L : List UInt8) (k j : Nat) (hj : j < (ptG R E T L k).length) : (ptG R E T L k)[j] = ((E[j]'(by simpa [ptG] using hj)).1, eT E T j, szN R j, (E[j]'(by simpa [ptG] using hj)).2.1, (E[j]'(by simpa [ptG] using hj)).2.2, if j < k then ⟨(bkB E L j (E[j]'(by simpa [ptG] using hj)).2.1).toArray⟩ else ⟨#[]⟩) := by
  simp only [ptG, List.getElem_mapIdx]
theorem ptG_0 (R : Nat) (E : List En) (T : Nat) (L : List UInt8) : ptG R E T L 0 = ptM R E T 0 := by
  unfold ptG ptM; simp
theorem ptG_set (R : Nat) (E : List En) (T : Nat) (L : List UInt8) (k : Nat) (hk : k < E.length) : (ptG R E T L k).set k (E[k].1, eT E T k, szN R k, E[k].2.1, E[k].2.2, ⟨(bkB E L k E[k].2.1).toArray⟩) = ptG R E T L (k + 1) := by
  apply List.ext_getElem (by simp [ptG])
  intro i h1 h2
  rw [List.getElem_set]
  by_cases hik : k = i
  · subst hik
    rw [if_pos rfl, ptG_at, if_pos (by omega)]
  · rw [if_neg hik, ptG_at, ptG_at]
    by_cases h3 : i < k
    · rw [if_pos h3, if_pos (by omega)]
    · rw [if_neg h3, if_neg (by omega)]
theorem szE_take (E : List En) (k : Nat) (hk : k < E.length) : szE (E.take (k + 1)) = szE (E.take k) + E[k].2.1 := by
  unfold szE; rw [List.take_succ_eq_append_getElem hk, List.map_append, List.sum_append]; simp only [List.map_cons, List.map_nil, List.sum_cons, List.sum_nil, Nat.add_zero]
theorem szE_le (E : List En) (k : Nat) : szE (E.take k) ≤ szE E := by
  have : E = E.take k ++ E.drop k := (List.take_append_drop k E).symm
  have h : szE E = szE (E.take k) + szE (E.drop k) := by
    unfold szE; rw [← List.sum_append, ← List.map_append, List.take_append_drop]
  omega
def bsE (E : List En) (L : List UInt8) : Nat := if L.length < szE E then 5 else if szE E < L.length then 4 else 0
def SbR (B R : Nat) (E : List En) (T : Nat) (L : List UInt8) (v : Value) (w : World) (e : Ending) (w' : World) : Prop :=
  ∃ er : Nat, e = .returned (.int .i64 er) ∧ er = bsE E L ∧ (∀ X : List Nat, (∀ g, v.ownBlock = some g → g ∈ X) → Kp X w w') ∧ (er = 0 → PtRow w' B v (ptG R E T L E.length))
theorem SbR.of {B R : Nat} {E : List En} {T : Nat} {L : List UInt8} {v : Value} {w w' : World} (er : Nat) (h : er = bsE E L) (hk : ∀ X : List Nat, (∀ g, v.ownBlock = some g → g ∈ X) → Kp X w w') (h0 : er = 0 → PtRow w' B v (ptG R E T L E.length)) : SbR B R E T L v w (.returned (.int .i64 er)) w' := ⟨er, rfl, h, hk, h0⟩

set_option maxRecDepth 20000 in
set_option maxHeartbeats 2000000 in
theorem setBytes_any (B R : Nat) (E : List En) (T : Nat) (L : List UInt8) (s : ByteArray) (hs : s.data.toList = L) (vN v : Value) (w : World) (hv : PtRow w B v (ptM R E T 0)) (hE : ∀ x ∈ E, okE x) (hT : T ≤ 1099511627776) (hl : E.length ≤ 16384) (hsz : s.size ≤ 140737488351232) :
    Calls Tryz.prog 74 #[.agg #[vN, .int .i64 T, v], .string s] w (SbR B R E T L v w) := by
  obtain ⟨A, n, c, rfl, hn⟩ := KRow.form hv
  rw [ptM_len] at hn
  have R0 := Lib.hid (RowAt.new w 71 #[vN, .int .i64 T, .slice A n c])
  have HV := Lib.hid (show PtRow (w.alloc (.cells #[vN, .int .i64 T, .slice A n c] 71)) B (.slice A n c) (ptG R E T L 0) by rw [ptG_0]; exact KRow.alloc hv _)
  have HLT := Lib.hid (KRow.lt hv)
  have HFU := Lib.hid (fun (h : 0 < E.length) => KRow.full hv (by rw [ptM_len]; exact h))
  have HK0 := Lib.hid (fun (X : List Nat) (_ : ∀ g, (Value.slice A n c).ownBlock = some g → g ∈ X) => (Kp.refl X w).alloc (.cells #[vN, .int .i64 T, .slice A n c] 71))
  have HE := Lib.hid (fun k (hk : k < E.length) => (hE _ (List.getElem_mem hk)))
  subst hn
  have HS := Lib.hid (show s.data.toList = L.drop (szE (E.take 0)) ∧ szE (E.take 0) ≤ L.length from ⟨hs, Nat.zero_le _⟩)
  have HLN := Lib.hid (show s.size = L.length by rw [size_len, hs])
  clear hv hE hs
  go_enter Tryz.func74, Tryz.ntmps74
  go_wp2
  go_loopw [1, 10] (fun x i wr => ∃ (k : Nat) (b : ByteArray), k ≤ E.length ∧ x = .string b ∧ i = .int .i64 k ∧ b.size ≤ 140737488351232 ∧ Hid (b.data.toList = L.drop (szE (E.take k)) ∧ szE (E.take k) ≤ L.length) ∧ Hid (PtRow wr B (.slice A E.length c) (ptG R E T L k)) ∧ Hid (RowAt wr w.heap.size 71 #[vN, .int .i64 T, .slice A E.length c]) ∧ Hid (∀ X : List Nat, (∀ g, (Value.slice A E.length c).ownBlock = some g → g ∈ X) → Kp X w wr)) (fun _ i _ => E.length - (intOf i).toNat)
  case atStart => exact ⟨0, s, Nat.zero_le _, rfl, rfl, hsz, HS, HV, R0, HK0⟩
  case round =>
    clear R0 HV HK0 HS
    obtain ⟨k, b, hk, rfl, rfl, hbs, HB, HV, HR, HK⟩ := hrel
    have c2 : wr.cell? ⟨w.heap.size, 2, none⟩ = some (.slice A E.length c) := HR.out.cell 2
    have HBL := Lib.hid (show b.size = L.length - szE (E.take k) by rw [size_len, HB.out.1, List.length_drop])
    by_cases hkl : k < E.length
    · obtain ⟨g, c', hg⟩ := HFU.out (by omega)
      simp only [Value.slice.injEq] at hg
      obtain ⟨rfl, hgl, rfl⟩ := hg
      have hgb := HLT.out g rfl
      have hgw : ¬ g = w.heap.size := by omega
      have hml : k < (ptG R E T L k).length := by rw [ptG_len]; omega
      have hki : (k : Int) < E.length := by omega
      have hx := HE.out k hkl
      have hcell : ∀ i, i < 6 → wr.cell? ⟨g, k * 6 + i, none⟩ = (ptC (E[k].1, eT E T k, szN R k, E[k].2.1, E[k].2.2, ⟨#[]⟩))[i]? := fun i hi => by
        have h := KRow.cell ptC_size HV.out k hml i hi
        rw [h, ptG_at, if_neg (by omega)]
      have f0 := hcell 0 (by omega)
      rw [Nat.add_zero] at f0
      have f0 : wr.cell? ⟨g, k * 6, none⟩ = some (.int .i64 E[k].1) := f0
      have f1 : wr.cell? ⟨g, k * 6 + 1, none⟩ = some (.int .i64 (eT E T k)) := hcell 1 (by omega)
      have f2 : wr.cell? ⟨g, k * 6 + 2, none⟩ = some (.int .i64 (szN R k)) := hcell 2 (by omega)
      have f3 : wr.cell? ⟨g, k * 6 + 3, none⟩ = some (.int .i64 E[k].2.1) := hcell 3 (by omega)
      have f4 : wr.cell? ⟨g, k * 6 + 4, none⟩ = some (.int .i64 E[k].2.2) := hcell 4 (by omega)
      have f5 : wr.cell? ⟨g, k * 6 + 5, none⟩ = some (.string ⟨#[]⟩) := hcell 5 (by omega)
      have f6 : wr.frozen? ⟨g, k * 6 + 5, none⟩ = false := KRow.frozen HV.out _
      have HST := Lib.hid (szE_take E k hkl)
      have HSL := Lib.hid (szE_le E (k + 1))
      have HSET := Lib.hid (fun (W : World) (h : PtRow W B (.slice (some ⟨g, 0, none⟩) E.length c) (ptG R E T L k)) (u : ByteArray) (hu : u.data.toList = bkB E L k E[k].2.1) => show PtRow (W.setCell ⟨g, k * 6 + 5, none⟩ (.string u)) B (.slice (some ⟨g, 0, none⟩) E.length c) (ptG R E T L (k + 1)) by
        have h := KRow.cellSet ptC_size h k 5 hml (by omega) (.string u) (E[k].1, eT E T k, szN R k, E[k].2.1, E[k].2.2, ⟨(bkB E L k E[k].2.1).toArray⟩) (by
          rw [ptG_at, if_neg (by omega), ← hu, bytes_of]; rfl)
        rw [ptG_set R E T L k hkl] at h
        exact h)
      have hgl2 : g < wr.heap.size := by have := (KRow.lt HV.out g rfl).2; omega
      have hwl2 : w.heap.size < wr.heap.size := HR.out.lt
      have hcE : (E.length : Int) ≤ 16384 := by omega
      clear hcell hml hgl hx
      generalize E[k].1 = x0 at *
      generalize hx1 : E[k].2.1 = x1 at *
      generalize E[k].2.2 = x2 at *
      generalize eT E T k = x3 at *
      generalize szN R k = x4 at *
      by_cases hgt : b.size < x1
      · have hgt2 : (b.size : Int) < (x1 : Int) := by omega
        have HF := Lib.hid (SbR.of (E := E) (L := L) (B := B) (R := R) (T := T) (v := .slice (some ⟨g, 0, none⟩) E.length c) 5 (by
          unfold bsE
          have := HBL.out; have := HST.out; have := HSL.out; have := HB.out.2
          rw [if_pos (by omega)]) (fun X hX => ((HK.out X hX).alloc (.cells #[.int .i64 x0, .int .i64 x3, .int .i64 x4, .int .i64 x1, .int .i64 x2, .string ⟨#[]⟩] 63))) (fun h => absurd h (by decide)))
        clear hgt HB HV HR HK HSET HST HSL hx1
        go_wp2
        go_returns
        exact HF.out
      · have hgt2 : ¬ (b.size : Int) < (x1 : Int) := by omega
        have hle : (x1 : Int) ≤ (b.size : Int) := by omega
        have hle2 : x1 ≤ b.size := by omega
        have k2 : (wr.alloc (.cells #[.int .i64 x0, .int .i64 x3, .int .i64 x4, .int .i64 x1, .int .i64 x2, .string ⟨#[]⟩] 63)).drew.cell? ⟨w.heap.size, 2, none⟩ = some (.slice (some ⟨g, 0, none⟩) E.length c) := (HR.out.alloc _).cell 2
        have k3 : (wr.alloc (.cells #[.int .i64 x0, .int .i64 x3, .int .i64 x4, .int .i64 x1, .int .i64 x2, .string ⟨#[]⟩] 63)).drew.cell? ⟨wr.heap.size, 3, none⟩ = some (.int .i64 x1) := (RowAt.new wr 63 #[.int .i64 x0, .int .i64 x3, .int .i64 x4, .int .i64 x1, .int .i64 x2, .string ⟨#[]⟩]).cell 3
        have k5 : (wr.alloc (.cells #[.int .i64 x0, .int .i64 x3, .int .i64 x4, .int .i64 x1, .int .i64 x2, .string ⟨#[]⟩] 63)).drew.cell? ⟨g, k * 6 + 5, none⟩ = some (.string ⟨#[]⟩) := ((ba wr _).cell (p := ⟨g, k * 6 + 5, none⟩) hgl2).trans f5
        have k6 : (wr.alloc (.cells #[.int .i64 x0, .int .i64 x3, .int .i64 x4, .int .i64 x1, .int .i64 x2, .string ⟨#[]⟩] 63)).drew.frozen? ⟨g, k * 6 + 5, none⟩ = false := ((ba wr _).frozen (p := ⟨g, k * 6 + 5, none⟩) hgl2).trans f6
        have HX1 := Lib.hid hx1
        have HU := Lib.hid (show (b.extract 0 x1).data.toList = bkB E L k x1 by
          rw [ext_list, List.drop_zero, HB.out.1]; rfl)
        have HB2 := Lib.hid (show (b.extract x1 b.size).data.toList = L.drop (szE (E.take (k + 1))) ∧ szE (E.take (k + 1)) ≤ L.length by
          have h1 := HST.out; have h2 := HBL.out; have h3 := HB.out.2
          refine ⟨?_, by omega⟩
          rw [ext_list, HB.out.1, List.take_of_length_le (by rw [List.length_drop]; omega), List.drop_drop, h1])
        have HV2 := Lib.hid (HSET.out wr HV.out (b.extract 0 x1) HU.out)
        have HR2 := Lib.hid (RowAt.other HR.out ⟨g, k * 6 + 5, none⟩ (.string (b.extract 0 x1)) hgw)
        have HK2 := Lib.hid (fun (X : List Nat) (hX : ∀ q, (Value.slice (some ⟨g, 0, none⟩) E.length c).ownBlock = some q → q ∈ X) => Kp.setCell (p := ⟨g, k * 6 + 5, none⟩) (HK.out X hX) (.inl (hX g rfl)) (.string (b.extract 0 x1)))
        clear hgt HV HR HK hx1 HSET HU HB
        go_wp2
        go_region
        go_wp2
        refine ⟨⟨k + 1, b.extract x1 b.size, by omega, rfl, val_int (by omega), by rw [ByteArray.size_extract]; omega, HB2, Lib.hid (KRow.alloc HV2.out _), Lib.hid (HR2.out.alloc _), Lib.hid fun X hX => ((HK2.out X hX).alloc _).drew⟩, by simp [intOf]; omega⟩
    · have hke : k = E.length := by omega
      have hki : ¬ (k : Int) < E.length := by omega
      have hte : E.take k = E := List.take_of_length_le (by omega)
      rw [hte] at HB HBL
      by_cases hb0 : b.size = 0
      · have HF := Lib.hid (SbR.of (E := E) (L := L) (B := B) (R := R) (T := T) (w' := wr) (v := .slice A E.length c) 0 (by
          unfold bsE
          have := HBL.out; have := HB.out.2
          rw [if_neg (by omega), if_neg (by omega)]) HK.out (fun _ => by have h := HV.out; rw [hke] at h; exact h))
        have hbe : b.toList = [] := by rw [ByteArray.toList_eq]; exact empty_toList hb0
        have hbe2 : (!b.toList.isEmpty) = false := by rw [hbe]; rfl
        clear hke hte HB HBL HV HR HK hb0
        go_wp2
        go_returns
        exact HF.out
      · have HF := Lib.hid (SbR.of (E := E) (L := L) (B := B) (R := R) (T := T) (w' := wr) (v := .slice A E.length c) 4 (by
          unfold bsE
          have := HBL.out; have := HB.out.2
          rw [if_neg (by omega), if_pos (by omega)]) HK.out (fun h => absurd h (by decide)))
        have hbe : b.toList.isEmpty = false := by
          rw [ByteArray.toList_eq]
          cases h : b.data.toList with
          | nil => exact absurd (by rw [size_len, h]; rfl) hb0
          | cons x r => rfl
        have hbe2 : (!b.toList.isEmpty) = true := by rw [hbe]; rfl
        have hbe3 : ¬ b.toList = [] := fun e => by rw [e] at hbe; cases hbe
        clear hke hte HB HBL HV HR HK
        go_wp2
        go_returns
        exact HF.out

end Go.Proofs.YtillcmddbjhepaaGreatDoor

namespace Go.Proofs.YtillcmddbjhepaaGreatDoor
open Go
set_option linter.unusedVariables false
set_option linter.unusedSimpArgs false

def stE (l : List UInt8) : Nat := if l.length < 3 then 5 else if l.take 2 = [83, 66] then (if l.getD 2 0 = 1 then 0 else 18) else 4
theorem rH_st {l : List UInt8} (h : stE l = 0) : rH l = rH1 l ∧ 3 ≤ l.length := by
  unfold stE at h; unfold rH
  by_cases h1 : l.length < 3
  · rw [if_pos h1] at h; exact absurd h (by decide)
  · rw [if_neg h1] at h ⊢
    by_cases h2 : l.take 2 = [83, 66]
    · rw [if_pos h2] at h ⊢
      by_cases h3 : l.getD 2 0 = 1
      · rw [if_pos h3]; exact ⟨rfl, by omega⟩
      · rw [if_neg h3] at h; exact absurd h (by decide)
    · rw [if_neg h2] at h; exact absurd h (by decide)
theorem rd_bad {l : List UInt8} {e : Nat} (h : rH l = (noH, e)) (h0 : e ≠ 0) : rd l = (noH, e) := by
  unfold rd; rw [h, if_neg h0]
theorem rd_0 {l : List UInt8} (h : stE l ≠ 0) : rd l = (noH, stE l) := by
  refine rd_bad ?_ h
  unfold stE at *; unfold rH
  by_cases h1 : l.length < 3
  · rw [if_pos h1, if_pos h1]
  · rw [if_neg h1] at h ⊢
    rw [if_neg h1]
    by_cases h2 : l.take 2 = [83, 66]
    · rw [if_pos h2] at h ⊢
      rw [if_pos h2]
      by_cases h3 : l.getD 2 0 = 1
      · rw [if_pos h3] at h; exact absurd rfl h
      · rw [if_neg h3, if_neg h3]
    · rw [if_neg h2, if_neg h2]
section
variable {l : List UInt8} {N : List ByteArray} {a1 e1 R a2 e2 T a3 e3 : Nat} {E : List En} {a4 e4 : Nat}
theorem rd_1 (h0 : stE l = 0) (h1 : rNm l 3 = (N, a1, e1)) (he : e1 ≠ 0) : rd l = (noH, e1) :=
  rd_bad (by rw [(rH_st h0).1]; unfold rH1; rw [h1, if_neg he]) he
theorem rH_2 (h0 : stE l = 0) (h1 : rNm l 3 = (N, a1, 0)) : rH l = rH2 l N a1 := by rw [(rH_st h0).1]; unfold rH1; rw [h1, if_pos rfl]
theorem rd_2 (h0 : stE l = 0) (h1 : rNm l 3 = (N, a1, 0)) (h2 : rN l a1 262144 = (R, a2, e2)) (he : e2 ≠ 0) : rd l = (noH, e2) :=
  rd_bad (by rw [rH_2 h0 h1]; unfold rH2; rw [h2, if_neg he]) he
theorem rH_3 (h0 : stE l = 0) (h1 : rNm l 3 = (N, a1, 0)) (h2 : rN l a1 262144 = (R, a2, 0)) : rH l = rH3 l N R a2 := by rw [rH_2 h0 h1]; unfold rH2; rw [h2, if_pos rfl]
theorem rd_3 (h0 : stE l = 0) (h1 : rNm l 3 = (N, a1, 0)) (h2 : rN l a1 262144 = (R, a2, 0)) (h3 : rN l a2 1099511627776 = (T, a3, e3)) (he : e3 ≠ 0) : rd l = (noH, e3) :=
  rd_bad (by rw [rH_3 h0 h1 h2]; unfold rH3; rw [h3, if_neg he]) he
theorem rH_4 (h0 : stE l = 0) (h1 : rNm l 3 = (N, a1, 0)) (h2 : rN l a1 262144 = (R, a2, 0)) (h3 : rN l a2 1099511627776 = (T, a3, 0)) : rH l = rH4 l N R T a3 := by rw [rH_3 h0 h1 h2]; unfold rH3; rw [h3, if_pos rfl]
theorem rH4_tb (N : List ByteArray) (R T a : Nat) : rH4 l N R T a = if (tbE l R a).2.2 = 0 then rH6 l N R T (tbE l R a).1 (tbE l R a).2.1 else (noH, (tbE l R a).2.2) := by
  unfold rH4 tbE rX
  by_cases c1 : Sb.tuE l a = 0
  · by_cases c2 : Sb.tuV l a = bkN R
    · simp only [c1, c2, if_true]
      unfold rH5
      rfl
    · simp [c1, c2]
  · simp [c1]
theorem rd_4 (h0 : stE l = 0) (h1 : rNm l 3 = (N, a1, 0)) (h2 : rN l a1 262144 = (R, a2, 0)) (h3 : rN l a2 1099511627776 = (T, a3, 0)) (h4 : tbE l R a3 = (E, a4, e4)) (he : e4 ≠ 0) : rd l = (noH, e4) :=
  rd_bad (by rw [rH_4 h0 h1 h2 h3, rH4_tb, h4, if_neg he]) he
theorem rH6_rS (N : List ByteArray) (R T : Nat) (E : List En) (a : Nat) : rH6 l N R T E a = if (rS l a).2 = 0 then ((N, R, T, E, a + 4), 0) else (noH, (rS l a).2) := by
  unfold rH6 rS
  by_cases c1 : l.length < a + 4
  · simp [c1]
  · by_cases c2 : f4 l a = ck (l.take a)
    · simp [c1, c2]
    · simp [c1, c2]
theorem rH_6 (h0 : stE l = 0) (h1 : rNm l 3 = (N, a1, 0)) (h2 : rN l a1 262144 = (R, a2, 0)) (h3 : rN l a2 1099511627776 = (T, a3, 0)) (h4 : tbE l R a3 = (E, a4, 0)) : rH l = if (rS l a4).2 = 0 then ((N, R, T, E, a4 + 4), 0) else (noH, (rS l a4).2) := by
  rw [rH_4 h0 h1 h2 h3, rH4_tb, h4, if_pos rfl, rH6_rS]
theorem rd_5 (h0 : stE l = 0) (h1 : rNm l 3 = (N, a1, 0)) (h2 : rN l a1 262144 = (R, a2, 0)) (h3 : rN l a2 1099511627776 = (T, a3, 0)) (h4 : tbE l R a3 = (E, a4, 0)) (he : (rS l a4).2 ≠ 0) : rd l = (noH, (rS l a4).2) :=
  rd_bad (by rw [rH_6 h0 h1 h2 h3 h4, if_neg he]) he
theorem rd_6 (h0 : stE l = 0) (h1 : rNm l 3 = (N, a1, 0)) (h2 : rN l a1 262144 = (R, a2, 0)) (h3 : rN l a2 1099511627776 = (T, a3, 0)) (h4 : tbE l R a3 = (E, a4, 0)) (h5 : (rS l a4).2 = 0) (he : ¬ asc E T) : rd l = (noH, 12) := by
  unfold rd; rw [rH_6 h0 h1 h2 h3 h4, if_pos h5]
  simp only
  rw [if_pos trivial, if_neg he]
theorem rd_7 (h0 : stE l = 0) (h1 : rNm l 3 = (N, a1, 0)) (h2 : rN l a1 262144 = (R, a2, 0)) (h3 : rN l a2 1099511627776 = (T, a3, 0)) (h4 : tbE l R a3 = (E, a4, 0)) (h5 : (rS l a4).2 = 0) (h6 : asc E T) :
    rd l = if bsE E (l.drop (a4 + 4)) = 0 then ((N, R, T, E, a4 + 4), 0) else (noH, bsE E (l.drop (a4 + 4))) := by
  unfold rd; rw [rH_6 h0 h1 h2 h3 h4, if_pos h5]
  simp only
  rw [if_pos trivial, if_pos h6]
  unfold bsE
  rw [List.length_drop]
  by_cases c1 : l.length - (a4 + 4) < szE E
  · simp [c1]
  · by_cases c2 : szE E < l.length - (a4 + 4)
    · simp [c1, c2]
    · simp [c1, c2]
end
/-- What a head that was read tells. -/
theorem rd_inv {l : List UInt8} {N : List ByteArray} {R T : Nat} {E : List En} {b : Nat} (h : rd l = ((N, R, T, E, b), 0)) :
    ∃ a1 a2 a3 a4, stE l = 0 ∧ rNm l 3 = (N, a1, 0) ∧ rN l a1 262144 = (R, a2, 0) ∧ rN l a2 1099511627776 = (T, a3, 0) ∧ tbE l R a3 = (E, a4, 0) ∧ (rS l a4).2 = 0 ∧ asc E T ∧ bsE E (l.drop b) = 0 ∧ b = a4 + 4 := by
  have bad : ∀ {x : Hd} {e : Nat}, rd l = (x, e) → e = 0 := fun hx => by rw [hx] at h; injection h
  by_cases h0 : stE l = 0
  · obtain ⟨⟨N1, a1, e1⟩, h1⟩ : ∃ p, rNm l 3 = p := ⟨_, rfl⟩
    by_cases c1 : e1 = 0
    · subst c1
      obtain ⟨⟨R1, a2, e2⟩, h2⟩ : ∃ p, rN l a1 262144 = p := ⟨_, rfl⟩
      by_cases c2 : e2 = 0
      · subst c2
        obtain ⟨⟨T1, a3, e3⟩, h3⟩ : ∃ p, rN l a2 1099511627776 = p := ⟨_, rfl⟩
        by_cases c3 : e3 = 0
        · subst c3
          obtain ⟨⟨E1, a4, e4⟩, h4⟩ : ∃ p, tbE l R1 a3 = p := ⟨_, rfl⟩
          by_cases c4 : e4 = 0
          · subst c4
            by_cases c5 : (rS l a4).2 = 0
            · by_cases c6 : asc E1 T1
              · have h7 := rd_7 h0 h1 h2 h3 h4 c5 c6
                by_cases c7 : bsE E1 (l.drop (a4 + 4)) = 0
                · rw [if_pos c7, h] at h7
                  injection h7 with h7 _
                  injection h7 with e1 h7
                  injection h7 with e2 h7
                  injection h7 with e3 h7
                  injection h7 with e4 e5
                  subst e1 e2 e3 e4 e5
                  exact ⟨a1, a2, a3, a4, h0, h1, h2, h3, h4, c5, c6, c7, rfl⟩
                · rw [if_neg c7] at h7; exact absurd (bad h7) c7
              · exact absurd (bad (rd_6 h0 h1 h2 h3 h4 c5 c6)) (by decide)
            · exact absurd (bad (rd_5 h0 h1 h2 h3 h4 c5)) c5
          · exact absurd (bad (rd_4 h0 h1 h2 h3 h4 c4)) c4
        · exact absurd (bad (rd_3 h0 h1 h2 h3 c3)) c3
      · exact absurd (bad (rd_2 h0 h1 h2 c2)) c2
    · exact absurd (bad (rd_1 h0 h1 c1)) c1
  · exact absurd (bad (rd_0 h0)) h0

theorem tbE_le {l : List UInt8} {R a : Nat} {E : List En} {b : Nat} (h : tbE l R a = (E, b, 0)) : b ≤ l.length ∧ E.length = bkN R ∧ ∀ x ∈ E, okE x := by
  unfold tbE at h
  by_cases c : (rX l a (bkN R)).2 = 0
  · rw [if_pos c] at h
    obtain ⟨h1, h2, h3⟩ := tEn_len h
    exact ⟨h3 (by have := (Sb.tu_bounds l a).2.1; unfold rX; exact this), h1, h2⟩
  · rw [if_neg c] at h
    injection h with _ h; injection h with _ h
    exact absurd h c
theorem rNm_le {l : List UInt8} {a : Nat} {N : List ByteArray} {b : Nat} (h : rNm l a = (N, b, 0)) (ha : a ≤ l.length) : b ≤ l.length ∧ N.length ≤ 16 ∧ ∀ x ∈ N, x.size ≤ 16 := by
  unfold rNm at h
  by_cases c : (rN l a 16).2.2 = 0
  · rw [if_pos c] at h
    obtain ⟨h1, h2, h3⟩ := tNm_len h
    exact ⟨h3 (rN_next l a 16 ha), by rw [h1]; exact (rN_le l a 16).1, h2⟩
  · rw [if_neg c] at h
    injection h with _ h; injection h with _ h
    exact absurd h c

end Go.Proofs.YtillcmddbjhepaaGreatDoor

namespace Go.Proofs.YtillcmddbjhepaaGreatDoor
open Go Go.RowKit Go.Joins
set_option linter.unusedVariables false
set_option linter.unusedSimpArgs false

set_option maxRecDepth 20000 in
set_option maxHeartbeats 1000000 in
theorem checkStart_any (s : ByteArray) (w : World) (hs : s.size ≤ 140737488351232) :
    Calls Tryz.prog 66 #[.string s] w fun e w' => e = .returned (.int .i64 (stE s.data.toList)) ∧ w = w' := by
  have hsl := size_len s
  have CP := Lib.hid (Tryz.strings_HasPrefix s ⟨#[83, 66]⟩ w)
  by_cases h1 : s.size < 3
  · have HE := Lib.hid (show stE s.data.toList = 5 by unfold stE; rw [if_pos (by omega)])
    have h1i : (s.size : Int) < 3 := by omega
    rw [HE.out]
    clear hsl CP h1
    go_enter Tryz.func66, Tryz.ntmps66
    go_wp2
    go_returns
    exact ⟨rfl, rfl⟩
  · have h1i : ¬ (s.size : Int) < 3 := by omega
    by_cases h2 : s.data.toList.take 2 = [83, 66]
    · have hp : Lib.hasPrefix s.data.toList (⟨#[83, 66]⟩ : ByteArray).data.toList = true := by
        unfold Lib.hasPrefix; rw [List.isPrefixOf_iff_prefix, List.prefix_iff_eq_take]; exact h2.symm
      rw [hp] at CP
      have h2i : (2 : Int) < s.size := by omega
      have h2n : 2 < s.size := by omega
      have hg : s.data.toList.getD 2 0 = s[2] := by
        rw [List.getD_eq_getElem?_getD, List.getElem?_eq_getElem (by rw [← size_len]; exact h2n)]; rfl
      by_cases h3 : s.data.toList.getD 2 0 = 1
      · have HE := Lib.hid (show stE s.data.toList = 0 by unfold stE; rw [if_neg (by omega), if_pos h2, if_pos h3])
        rw [HE.out]
        have h4 : s[2].toNat = 1 := by rw [← hg, h3]; rfl
        clear hsl h1 h2 hg h3 hp
        go_enter Tryz.func66, Tryz.ntmps66
        go_wp2_with (go_at_call 98; go_must (refine CP.out.mono ?_; rintro e w1 ⟨rfl, rfl⟩))
        go_returns
        exact ⟨rfl, rfl⟩
      · have HE := Lib.hid (show stE s.data.toList = 18 by unfold stE; rw [if_neg (by omega), if_pos h2, if_neg h3])
        rw [HE.out]
        have h4 : ¬ s[2].toNat = 1 := fun e => h3 (by rw [hg]; apply UInt8.toNat_inj.1; rw [e]; rfl)
        have h5 : ((s[2].toNat : Int) != 1) = true := by simp; omega
        clear hsl h1 h2 hg h3 hp
        go_enter Tryz.func66, Tryz.ntmps66
        go_wp2_with (go_at_call 98; go_must (refine CP.out.mono ?_; rintro e w1 ⟨rfl, rfl⟩))
        go_returns
        exact ⟨rfl, rfl⟩
    · have hp : Lib.hasPrefix s.data.toList (⟨#[83, 66]⟩ : ByteArray).data.toList = false := by
        rw [Bool.eq_false_iff]; intro h; unfold Lib.hasPrefix at h; rw [List.isPrefixOf_iff_prefix, List.prefix_iff_eq_take] at h; exact h2 h.symm
      rw [hp] at CP
      have HE := Lib.hid (show stE s.data.toList = 4 by unfold stE; rw [if_neg (by omega), if_neg h2])
      rw [HE.out]
      clear hsl h1 h2 hp
      go_enter Tryz.func66, Tryz.ntmps66
      go_wp2_with (go_at_call 98; go_must (refine CP.out.mono ?_; rintro e w1 ⟨rfl, rfl⟩))
      go_returns
      exact ⟨rfl, rfl⟩

end Go.Proofs.YtillcmddbjhepaaGreatDoor

namespace Go.Proofs.YtillcmddbjhepaaGreatDoor
open Go
set_option linter.unusedVariables false
set_option linter.unusedSimpArgs false

/-- Block i begins before the end, and behind the block before it. -/
def asI (E : List En) (T i : Nat) : Prop := eA E T i < T ∧ (0 < i → eA E T (i - 1) < eA E T i)
theorem asc_spec (E : List En) (T : Nat) : asc E T ↔ eA E T 0 = 0 ∧ ∀ i, i < E.length → asI E T i := by
  rw [asc_iff]
  constructor
  · rintro ⟨h0, h⟩
    refine ⟨h0, fun i hi => ?_⟩
    have hlt : ∀ d i, i + d + 1 = E.length → eA E T i < T := by
      intro d
      induction d with
      | zero =>
        intro i hi
        have := h i (by omega)
        rw [eA_in (by omega : i < E.length)]
        unfold eA at this
        rw [dif_neg (by omega)] at this
        exact this
      | succ d ih =>
        intro i hi
        have h1 := ih (i + 1) (by omega)
        have h2 := h i (by omega)
        rw [eA_in (by omega : i < E.length)]
        omega
    refine ⟨hlt (E.length - 1 - i) i (by omega), fun hp => ?_⟩
    have := h (i - 1) (by omega)
    rw [eA_in (by omega : i - 1 < E.length)]
    rw [show i - 1 + 1 = i by omega] at this
    exact this
  · rintro ⟨h0, h⟩
    refine ⟨h0, fun k hk => ?_⟩
    by_cases hk2 : k + 1 < E.length
    · have := (h (k + 1) hk2).2 (by omega)
      rw [Nat.add_sub_cancel, eA_in hk] at this
      exact this
    · have := (h k hk).1
      rw [eA_in hk] at this
      unfold eA
      rw [dif_neg hk2]
      exact this
theorem rd_hd {l : List UInt8} {N : List ByteArray} {R T : Nat} {E : List En} {b : Nat} (h : rH l = ((N, R, T, E, b), 0)) :
    rd l = if asc E T then (if l.length - b < szE E then (noH, 5) else if szE E < l.length - b then (noH, 4) else ((N, R, T, E, b), 0)) else (noH, 12) := by
  unfold rd; rw [h]; simp only [if_true]
theorem rd_no0 {l : List UInt8} {N : List ByteArray} {R T : Nat} {E : List En} {b : Nat} (h : rH l = ((N, R, T, E, b), 0)) (h0 : ¬ eA E T 0 = 0) : rd l = (noH, 12) := by
  rw [rd_hd h, if_neg (fun ha => h0 ((asc_spec E T).1 ha).1)]
theorem rd_noI {l : List UInt8} {N : List ByteArray} {R T : Nat} {E : List En} {b i : Nat} (h : rH l = ((N, R, T, E, b), 0)) (hi : i < E.length) (h0 : ¬ asI E T i) : rd l = (noH, 12) := by
  rw [rd_hd h, if_neg (fun ha => h0 (((asc_spec E T).1 ha).2 i hi))]
theorem rd_yes {l : List UInt8} {N : List ByteArray} {R T : Nat} {E : List En} {b : Nat} (h : rH l = ((N, R, T, E, b), 0)) (h0 : eA E T 0 = 0) (h1 : ∀ i, i < E.length → asI E T i) :
    rd l = if l.length - b < szE E then (noH, 5) else if szE E < l.length - b then (noH, 4) else ((N, R, T, E, b), 0) := by
  rw [rd_hd h, if_pos ((asc_spec E T).2 ⟨h0, h1⟩)]
/-- What was read is in range. -/
theorem rH_inv {l : List UInt8} {N : List ByteArray} {R T : Nat} {E : List En} {b : Nat} (h : rH l = ((N, R, T, E, b), 0)) :
    T ≤ 1099511627776 ∧ R ≤ 262144 ∧ b ≤ l.length ∧ E.length = bkN R ∧ (∀ x ∈ E, okE x) ∧ N.length ≤ 16 := by
  have bad : ∀ {x : Hd} {e : Nat}, rH l = (x, e) → e = 0 := fun hx => by rw [hx] at h; injection h
  have bd2 : ∀ {e : Nat}, rH l = (noH, e) → e ≠ 0 → False := fun hx he => he (bad hx)
  by_cases h0 : stE l = 0
  · obtain ⟨⟨N1, a1, e1⟩, h1⟩ : ∃ p, rNm l 3 = p := ⟨_, rfl⟩
    have hr1 := (rH_st h0).1
    unfold rH1 at hr1
    rw [h1] at hr1
    simp only at hr1
    by_cases c1 : e1 = 0
    · subst c1
      obtain ⟨q1, q2, q3⟩ := rNm_le h1 (rH_st h0).2
      obtain ⟨⟨R1, a2, e2⟩, h2⟩ : ∃ p, rN l a1 262144 = p := ⟨_, rfl⟩
      have hr2 := rH_2 h0 h1
      unfold rH2 at hr2
      rw [h2] at hr2
      simp only at hr2
      by_cases c2 : e2 = 0
      · subst c2
        obtain ⟨⟨T1, a3, e3⟩, h3⟩ : ∃ p, rN l a2 1099511627776 = p := ⟨_, rfl⟩
        have hr3 := rH_3 h0 h1 h2
        unfold rH3 at hr3
        rw [h3] at hr3
        simp only at hr3
        by_cases c3 : e3 = 0
        · subst c3
          obtain ⟨⟨E1, a4, e4⟩, h4⟩ : ∃ p, tbE l R1 a3 = p := ⟨_, rfl⟩
          have hr4 := rH_4 h0 h1 h2 h3
          rw [rH4_tb, h4] at hr4
          simp only at hr4
          by_cases c4 : e4 = 0
          · subst c4
            have hr5 := rH_6 h0 h1 h2 h3 h4
            by_cases c5 : (rS l a4).2 = 0
            · rw [if_pos c5, h] at hr5
              injection hr5 with hr5 _
              injection hr5 with e1 hr5
              injection hr5 with e2 hr5
              injection hr5 with e3 hr5
              injection hr5 with e4 e5
              subst e1 e2 e3 e4 e5
              obtain ⟨t1, t2, t3⟩ := tbE_le h4
              have hR := (rN_le l a1 262144).1
              have hT := (rN_le l a2 1099511627776).1
              rw [h2] at hR
              rw [h3] at hT
              refine ⟨hT, hR, ?_, t2, t3, q2⟩
              unfold rS at c5
              by_cases c6 : l.length < a4 + 4
              · rw [if_pos c6] at c5; exact absurd (show (5 : Nat) = 0 from c5) (by decide)
              · omega
            · rw [if_neg c5] at hr5; exact (bd2 hr5 c5).elim
          · rw [if_neg c4] at hr4; exact (bd2 hr4 c4).elim
        · rw [if_neg c3] at hr3; exact (bd2 hr3 c3).elim
      · rw [if_neg c2] at hr2; exact (bd2 hr2 c2).elim
    · rw [if_neg c1] at hr1; exact (bd2 hr1 c1).elim
  · exfalso
    unfold stE at h0
    unfold rH at h
    by_cases g1 : l.length < 3
    · rw [if_pos g1] at h; injection h with _ h; exact absurd h (by decide)
    · rw [if_neg g1] at h h0
      by_cases g2 : l.take 2 = [83, 66]
      · rw [if_pos g2] at h h0
        by_cases g3 : l.getD 2 0 = 1
        · rw [if_pos g3] at h0; exact h0 rfl
        · rw [if_neg g3] at h; injection h with _ h; exact absurd h (by decide)
      · rw [if_neg g2] at h; injection h with _ h; exact absurd h (by decide)

end Go.Proofs.YtillcmddbjhepaaGreatDoor
