/-
  The program's fields, called.
  The fields, one after the other; the checksum of all before.
  Reads of one, two and three fields.
  readNames.
  Stored captures, plain mathematics: the runs of a block, read one after the other.
  The specification's takeNames.
-/
import Derived.Test.YtillcmddbjhepaaGreatDoorZ24
import Derived.Test.YtillcmddbjhepaaGreatDoorZ09
import Derived.StillTailTactics
namespace Go.Proofs.YtillcmddbjhepaaGreatDoor
open Go Go.RowKit Go.Joins
set_option linter.unusedVariables false
set_option linter.unusedSimpArgs false

theorem rM_rN (l : List UInt8) (a m : Nat) : (rM l a m).2 = (rN l a m).2.2 ∧ ((rN l a m).2.2 = 0 → (rM l a m).1 = (rN l a m).2.1 ∧ Sb.tuV l a = (rN l a m).1) := by
  unfold rM rN
  by_cases h1 : Sb.tuE l a = 0
  · by_cases h2 : m < Sb.tuV l a
    · simp [h1, h2]
    · simp [h1, h2]
  · simp [h1]

/-- What a field that sets one cell leads to: the error, and unless there is one, where it ends and what is set. -/
def SetR (x o : Nat) (T : TypeId) (cs : Array Value) (w : World) (n er : Nat) (v : Value) (n' er' : Nat) (w' : World) : Prop :=
  er' = er ∧ Kp [x] w w' ∧ (∃ u, RowAt w' x T (cs.setIfInBounds o u) ∧ (er = 0 → n' = n ∧ u = v))

theorem num_field {s : ByteArray} {a B x o m : Nat} {T : TypeId} {cs : Array Value} {w : World} {F : Value} (hs : s.size ≤ 9223372036854775807) (hm : m ≤ 9223372036854775807) (hF : NumF B w F x o m) (hx : RowAt w x T cs) (ho : o < cs.size) :
    FCall F s a w (SetR x o T cs w (rN s.data.toList a m).2.1 (rN s.data.toList a m).2.2 (.int .i64 (rN s.data.toList a m).1)) := by
  obtain ⟨g, h, _, _, rfl, r1, r2⟩ := hF
  refine ⟨_, _, rfl, fun _ _ => by kernel_rfl, (number1_any s a m g h x o cs[o] w hs hm r1.get1 r2.get1 ((hx.cell o).trans (by simp [ho])) (hx.frozen o)).mono ?_⟩
  rintro e w' ⟨rfl, rfl⟩
  obtain ⟨h1, h2⟩ := rM_rN s.data.toList a m
  have h3 := (rN_le s.data.toList a m).1
  refine ⟨_, _, rfl, h1, Kp.setCell (p := ⟨x, o, none⟩) (Kp.refl [x] w) (.inl (by simp)) _, _, hx.set o _, fun h0 => ?_⟩
  obtain ⟨e1, e2⟩ := h2 h0
  refine ⟨e1, ?_⟩
  rw [e2, IntWalk.i64_in _ (by omega)]

theorem txt_field {s : ByteArray} {a B x o m : Nat} {T : TypeId} {cs : Array Value} {w : World} {F : Value} (hs : s.size ≤ 140737488351232) (hm : m ≤ 9223372036854775807) (hF : TxtF B w F x o m) (hx : RowAt w x T cs) (ho : o < cs.size) :
    FCall F s a w (SetR x o T cs w (Sb.tcN s.data.toList a m + Sb.tcV s.data.toList a m) (Sb.tcE s.data.toList a m) (.string ⟨(Sb.ttS s.data.toList a m).toArray⟩)) := by
  obtain ⟨g, h, _, _, rfl, r1, r2⟩ := hF
  refine ⟨_, _, rfl, fun _ _ => by kernel_rfl, (text1_any s a m g h x o T cs cs[o] w hs hm r1.get1 r1.lt r2.get1 r2.lt hx (by simp [ho])).mono ?_⟩
  rintro e w' ⟨rfl, r, k⟩
  exact ⟨_, _, rfl, rfl, k, _, r, fun _ => ⟨rfl, rfl⟩⟩

theorem four_field {s : ByteArray} {a B x o : Nat} {T : TypeId} {cs : Array Value} {w : World} {F : Value} (hs : s.size ≤ 140737488351232) (ha : a ≤ s.size) (hF : FourF B w F x o) (hx : RowAt w x T cs) (ho : o < cs.size) (hB : x < B) :
    FCall F s a w (SetR x o T cs w (rF s.data.toList a).2.1 (rF s.data.toList a).2.2 (.int .i64 (rF s.data.toList a).1)) := by
  obtain ⟨g, hg, rfl, r1⟩ := hF
  refine ⟨_, _, rfl, fun _ _ => by kernel_rfl, (four1_any s a g x o T cs cs[o] w hs ha r1.get1 r1.lt (by omega) hx (by simp [ho])).mono ?_⟩
  rintro e w' ⟨rfl, ⟨u, ru, hu⟩, k⟩
  refine ⟨_, _, rfl, ?_, k, u, ru, fun h0 => ?_⟩
  · unfold rF2 rF; split <;> rfl
  · unfold rF at h0 ⊢; unfold rF2 at hu ⊢
    by_cases h4 : s.data.toList.length < a + 4
    · rw [if_pos h4] at h0; exact absurd (show (5 : Nat) = 0 from h0) (by decide)
    · rw [if_neg h4] at hu ⊢; rw [if_neg h4]; exact ⟨rfl, hu rfl⟩

theorem ex_field {s : ByteArray} {a B n : Nat} {w : World} {F : Value} (hs : s.size ≤ 9223372036854775807) (hn : n ≤ 9223372036854775807) (hF : ExF B w F n) :
    FCall F s a w fun n' er' w' => n' = (rX s.data.toList a n).1 ∧ er' = (rX s.data.toList a n).2 ∧ Below w.heap.size w w' := by
  obtain ⟨g, _, rfl, r1⟩ := hF
  refine ⟨_, _, rfl, fun _ _ => by kernel_rfl, (exactly1_any s a n g w hs hn r1.get1).mono ?_⟩
  rintro e w' ⟨rfl, b⟩
  exact ⟨_, _, rfl, rfl, rfl, b⟩

theorem rest_field {s : ByteArray} {a B x o : Nat} {T : TypeId} {cs : Array Value} {w : World} {F : Value} (hs : s.size ≤ 9223372036854775807) (ha : a ≤ s.size) (hF : RestF B w F x o) (hx : RowAt w x T cs) (ho : o < cs.size) :
    FCall F s a w (SetR x o T cs w s.size 0 (.string (s.extract a s.size))) := by
  obtain ⟨g, hg, rfl, r1⟩ := hF
  refine ⟨_, _, rfl, fun _ _ => by kernel_rfl, (rest1_any s a g x o T cs cs[o] w hs ha r1.get1 hx (by simp [ho])).mono ?_⟩
  rintro e w' ⟨rfl, r, k⟩
  exact ⟨_, _, rfl, rfl, k, _, r, fun _ => ⟨rfl, rfl⟩⟩

theorem none_field {s : ByteArray} {a : Nat} {w : World} (hs : s.size ≤ 9223372036854775807) (ha : a ≤ s.size) :
    FCall (.func (.func 80) #[] #[]) s a w fun n' er' w' => er' = (if a < s.size then 4 else 0) ∧ (er' = 0 → n' = a) ∧ Below w.heap.size w w' := by
  refine ⟨_, _, rfl, fun _ _ => by kernel_rfl, (nothing_any s a w hs ha).mono ?_⟩
  rintro e w' ⟨rfl, b⟩
  by_cases h : a < s.size
  · rw [if_pos h]; exact ⟨0, 4, rfl, by rw [if_pos h], fun h => absurd h (by decide), b⟩
  · rw [if_neg h]; exact ⟨a, 0, rfl, by rw [if_neg h], fun _ => rfl, b⟩

end Go.Proofs.YtillcmddbjhepaaGreatDoor

namespace Go.Proofs.YtillcmddbjhepaaGreatDoor
open Go Go.RowKit Go.Joins
set_option linter.unusedVariables false
set_option linter.unusedSimpArgs false

theorem RdOk.keep {s : ByteArray} {gs ga g a : Nat} {fs0 : Array Value} {w w' : World} {X : List Nat} (h : RdOk s gs ga g fs0 a w) (hk : Kp X w w') (h1 : gs ∉ X) (h2 : ga ∉ X) (h3 : g ∉ X) : RdOk s gs ga g fs0 a w' :=
  ⟨hk.row h.1 h1, hk.row h.2.1 h2, hk.row h.2.2 h3⟩

theorem wpF_set {s : ByteArray} {gs ga g a : Nat} {fs0 : Array Value} {w : World} {F : Value} {fs : List Value} {Q : Nat → Nat → World → Prop} (hr : RdOk s gs ga g fs0 a w) (h1 : gs ≠ ga) (h2 : g ≠ ga) {x o : Nat} {T : TypeId} {cs : Array Value} {n er : Nat} {v : Value}
    (hx : x ≠ gs ∧ x ≠ ga ∧ x ≠ g) (hC : FCall F s a w (SetR x o T cs w n er v)) (hno : er ≠ 0 → ∀ w', Kp [x] w w' → Q er a w')
    (hok : er = 0 → ∀ w', Kp [x, ga] w w' → RdOk s gs ga g fs0 n w' → RowAt w' x T (cs.setIfInBounds o v) → wpF s gs ga g fs0 fs n w' Q) : wpF s gs ga g fs0 (F :: fs) a w Q := by
  refine hC.mono ?_
  rintro n' er' w' ⟨rfl, hk, u, hu, he⟩
  have hr' := hr.keep hk (by simpa using fun e => hx.1 e.symm) (by simpa using fun e => hx.2.1 e.symm) (by simpa using fun e => hx.2.2 e.symm)
  refine ⟨hr', fun h0 => ?_, fun h0 => hno h0 w' hk⟩
  obtain ⟨rfl, rfl⟩ := he h0
  refine hok h0 _ (Kp.setCell (p := ⟨ga, 0, none⟩) (hk.mono fun k _ hm => by simp at hm; subst hm; simp) (.inl (by simp)) _) (hr'.step h1 h2 _) (hu.other _ _ (fun e => hx.2.1 e.symm))

theorem wpF_below {s : ByteArray} {gs ga g a : Nat} {fs0 : Array Value} {w : World} {F : Value} {fs : List Value} {Q : Nat → Nat → World → Prop} (hr : RdOk s gs ga g fs0 a w) (h1 : gs ≠ ga) (h2 : g ≠ ga) {P : Nat → Nat → Prop}
    (hC : FCall F s a w fun n er w' => P n er ∧ Below w.heap.size w w') (hno : ∀ n er w', P n er → er ≠ 0 → Below w.heap.size w w' → Q er a w')
    (hok : ∀ n er w', P n er → er = 0 → Kp [ga] w w' → RdOk s gs ga g fs0 n w' → wpF s gs ga g fs0 fs n w' Q) : wpF s gs ga g fs0 (F :: fs) a w Q := by
  refine hC.mono ?_
  rintro n er w' ⟨hp, hb⟩
  have hr' := hr.keep (Kp.of_below (X := []) hb) (by simp) (by simp) (by simp)
  refine ⟨hr', fun h0 => hok n er _ hp h0 (Kp.setCell (p := ⟨ga, 0, none⟩) (Kp.of_below hb) (.inl (by simp)) _) (hr'.step h1 h2 _), fun h0 => hno n er w' hp h0 hb⟩

/-- The checksum of all before: where it ends, the error. -/
def rS (l : List UInt8) (a : Nat) : Nat × Nat := if l.length < a + 4 then (0, 5) else if f4 l a = ck (l.take a) then (a + 4, 0) else (a + 4, 12)

def SumR (p : Nat × Nat) (w : World) (e : Ending) (w' : World) : Prop := ∃ n er : Nat, e = .returned (.tuple #[.int .i64 n, .int .i64 er]) ∧ (er = p.2 ∧ (er = 0 → n = p.1)) ∧ Below w.heap.size w w'
set_option maxRecDepth 20000 in
set_option maxHeartbeats 1000000 in
theorem sumBefore_any (s : ByteArray) (a : Nat) (w : World) (hE : Sd.Env w) (hs : s.size ≤ 140737488351232) (ha : a ≤ s.size) :
    Calls Tryz.prog 71 #[.string s, .int .i64 a] w (SumR (rS s.data.toList a) w) := by
  have hsl := size_len s
  have hai : (a : Int) ≤ s.size := by omega
  have hT : (s.extract 0 a).data.toList = s.data.toList.take a := by rw [ext_list]; rfl
  have CK := Lib.hid (fun W (hb : Below w.heap.size w W) => checksum_any (s.extract 0 a) W (hE.below hb) (by rw [ByteArray.size_extract]; omega))
  rw [hT] at CK
  have R0 := Lib.hid (RowAt.new w 3 #[.int .i64 0])
  have CM := Lib.hid (mkfour_any w.heap.size 0 (w.alloc (.cells #[.int .i64 0] 3)))
  have CF := Lib.hid (fun B W F (hF : FourF B W F w.heap.size 0) (hx : RowAt W w.heap.size 3 #[.int .i64 0]) (hB : w.heap.size < B) => four_field hs ha hF hx (by simp) hB)
  have hb0 : w.heap.size < (w.alloc (.cells #[.int .i64 0] 3)).heap.size := by rw [World.size_alloc]; omega
  have HB0 := Lib.hid hb0
  have HP := Lib.hid (show rS s.data.toList a = if s.size < a + 4 then (0, 5) else if f4 s.data.toList a = ck (s.data.toList.take a) then (a + 4, 0) else (a + 4, 12) by unfold rS; rw [hsl])
  have HF := Lib.hid (show rF s.data.toList a = if s.size < a + 4 then (0, 0, 5) else (f4 s.data.toList a, a + 4, 0) by unfold rF; rw [hsl])
  generalize rS s.data.toList a = p at *
  generalize rF s.data.toList a = q at *
  generalize f4 s.data.toList a = V at *
  generalize ck (s.data.toList.take a) = C at *
  clear hT hsl hb0 hE
  go_enter Tryz.func71, Tryz.ntmps71
  go_wp2_with (first
    | (go_at_call 104; go_must (refine CM.out.mono ?_; rintro e w1 ⟨F, rfl, hF, b1⟩; have B1 := Lib.hid b1; have R1 := Lib.hid (R0.out.keep b1); have BW := Lib.hid ((ba w (.cells #[.int .i64 0] 3)).trans (b1.mono (Nat.le_of_lt HB0.out))); have C1 := Lib.hid (CF.out _ _ _ hF (R0.out.keep b1) HB0.out); clear CF CM R0 hF b1))
    | (refine wpList_field rfl (.tmp 10) (.tmp 11) (.tmp 12) _ rfl s a rfl rfl rfl C1.out ?_; rintro n er w2 ⟨rfl, hk, u, hu, hn⟩; have HU := Lib.hid hu; have HK := Lib.hid hk; have HN := Lib.hid hn; clear hu hk hn C1))
  have B2 := Lib.hid (BW.out.trans (HK.out.below (B := w.heap.size) (by simp) BW.out.size))
  by_cases h4 : s.size < a + 4
  · have HQ := Lib.hid (show q = (0, 0, 5) by rw [HF.out, if_pos h4])
    have HPP := Lib.hid (show p = (0, 5) by rw [HP.out, if_pos h4])
    have hq := HQ.out
    subst hq
    clear HU HN h4 HF HP HQ
    go_wp2
    have hd : ((5 : Int) == 0) = false := by decide
    go_big_quiet (fail)
    go_wp2
    go_returns
    exact ⟨n, 5, rfl, ⟨by rw [HPP.out], fun h => absurd h (by decide)⟩, Go.below_drewN B2.out _⟩
  · have HQ := Lib.hid (show q = (V, a + 4, 0) by rw [HF.out, if_neg h4])
    have HPP := Lib.hid (show p = if V = C then (a + 4, 0) else (a + 4, 12) by rw [HP.out, if_neg h4])
    have hq := HQ.out
    subst hq
    have e2 := (HN.out rfl).2
    subst e2
    have HN1 := Lib.hid (HN.out rfl).1
    have hsz : (s.size : Int) ≤ 9223372036854775807 := by omega
    have hc0 : w2.drew.cell? ⟨w.heap.size, 0, none⟩ = some (.int .i64 V) := by
      have := HU.out.cell 0
      exact this
    have hwl : w.heap.size < w2.drew.heap.size := Nat.lt_of_lt_of_le (Nat.lt_of_lt_of_le HB0.out B1.out.size) HK.out.size
    have HS := Lib.hid (fun W (b : Below w2.drew.heap.size w2.drew W) => show W.cell? ⟨w.heap.size, 0, none⟩ = some (.int .i64 V) ∧ Below w2.drew.heap.size w2.drew W from ⟨(b.cell (p := ⟨w.heap.size, 0, none⟩) hwl).trans hc0, b⟩)
    have HS0 := Lib.hid (HS.out w2.drew (Below.refl _ _))
    have HBD := Lib.hid (show Below w.heap.size w w2.drew from B2.out.drew)
    clear HU HN HF HP HQ R1 hc0
    have CK2 := Lib.hid (fun W (b : Below w2.drew.heap.size w2.drew W) => CK.out W (HBD.out.trans (b.mono HBD.out.size)))
    clear CK
    by_cases hvc : V = C
    · have hd : ((V : Int) != (C : Int)) = false := by simp; omega
      have hpp := HPP.out
      rw [if_pos hvc] at hpp
      subst hpp
      clear hvc HPP
      go_wp2
      go_region_held3 (fun W => W.cell? ⟨w.heap.size, 0, none⟩ = some (.int .i64 V) ∧ Below w2.drew.heap.size w2.drew W) (first | exact HS0.out | assumption | go_keep)
        (first
          | (go_at_call 56; refine (CK2.out _ (And.right (by assumption))).mono ?_; rintro e w3 ⟨rfl, b3⟩; have h3 := HS.out w3 (Below.trans (And.right (by assumption)) (b3.mono (Below.size (And.right (by assumption))))))
          | fail)
      all_goals
        rename_i hh
        have HH := Lib.hid hh.2
        go_wp2
        go_returns
        exact ⟨n, 0, rfl, ⟨rfl, fun _ => HN1.out⟩, HBD.out.trans (HH.out.mono HBD.out.size)⟩
    · have hd : ((V : Int) != (C : Int)) = true := by simp; omega
      have hpp := HPP.out
      rw [if_neg hvc] at hpp
      subst hpp
      clear hvc HPP
      go_wp2
      go_region_held3 (fun W => W.cell? ⟨w.heap.size, 0, none⟩ = some (.int .i64 V) ∧ Below w2.drew.heap.size w2.drew W) (first | exact HS0.out | assumption | go_keep)
        (first
          | (go_at_call 56; refine (CK2.out _ (And.right (by assumption))).mono ?_; rintro e w3 ⟨rfl, b3⟩; have h3 := HS.out w3 (Below.trans (And.right (by assumption)) (b3.mono (Below.size (And.right (by assumption))))))
          | fail)
      all_goals
        rename_i hh
        have HH := Lib.hid hh.2
        go_wp2
        go_returns
        exact ⟨n, 12, rfl, ⟨rfl, fun h => absurd h (by decide)⟩, HBD.out.trans (HH.out.mono HBD.out.size)⟩

theorem sum_field {s : ByteArray} {a : Nat} {w : World} (hE : Sd.Env w) (hs : s.size ≤ 140737488351232) (ha : a ≤ s.size) :
    FCall (.func (.func 71) #[] #[]) s a w fun n er w' => (er = (rS s.data.toList a).2 ∧ (er = 0 → n = (rS s.data.toList a).1)) ∧ Below w.heap.size w w' := by
  refine ⟨_, _, rfl, fun _ _ => by kernel_rfl, (sumBefore_any s a w hE hs ha).mono ?_⟩
  rintro e w' ⟨n, er, rfl, h, b⟩
  exact ⟨n, er, rfl, h, b⟩

end Go.Proofs.YtillcmddbjhepaaGreatDoor

namespace Go.Proofs.YtillcmddbjhepaaGreatDoor
open Go Go.RowKit Go.Joins
set_option linter.unusedVariables false
set_option linter.unusedSimpArgs false

/-- What a read leads to: the error; unless there is one, where it ends, and what holds then. -/
def RdR (ga N E : Nat) (X : List Nat) (w : World) (P : World → Prop) (er a' : Nat) (w' : World) : Prop := er = E ∧ Kp X w w' ∧ (E = 0 → a' = N ∧ RowAt w' ga 3 #[.int .i64 N] ∧ P w')

theorem read1_set {s : ByteArray} {gs ga g a : Nat} {w : World} {F : Value} (hr : RdOk s gs ga g #[F] a w) (h1 : gs ≠ ga) (h2 : g ≠ ga) {x o : Nat} {T : TypeId} {cs : Array Value} {n er : Nat} {v : Value}
    (hx : x ≠ gs ∧ x ≠ ga ∧ x ≠ g) (hC : FCall F s a w (SetR x o T cs w n er v)) :
    Calls Tryz.prog 99 #[.slice (some ⟨g, 0, none⟩) 1 1, .pointer (some ⟨gs, 0, none⟩), .pointer (some ⟨ga, 0, none⟩)] w (QF (RdR ga n er [x, ga] w fun w' => RowAt w' x T (cs.setIfInBounds o v))) := by
  refine reader1_any s gs ga g [F] a w _ h1 h2 hr ?_ (by simp)
  refine wpF_set hr h1 h2 hx hC (fun h0 w' hk => ⟨rfl, hk.mono (fun k _ h => by simp at h ⊢; exact .inl h), fun h => absurd h h0⟩) fun h0 w' hk hr' hu => ?_
  exact ⟨h0.symm, hk, fun _ => ⟨rfl, hr'.2.1, hu⟩⟩

theorem read2_set {s : ByteArray} {gs ga g a : Nat} {w : World} {F1 F2 : Value} (hr : RdOk s gs ga g #[F1, F2] a w) (h1 : gs ≠ ga) (h2 : g ≠ ga) {x1 o1 x2 o2 : Nat} {T1 T2 : TypeId} {cs1 cs2 : Array Value} {n1 e1 n2 e2 : Nat} {v1 v2 : Value}
    (hx1 : x1 ≠ gs ∧ x1 ≠ ga ∧ x1 ≠ g) (hx2 : x2 ≠ gs ∧ x2 ≠ ga ∧ x2 ≠ g) (hC : FCall F1 s a w (SetR x1 o1 T1 cs1 w n1 e1 v1))
    (hC2 : e1 = 0 → ∀ w', Kp [x1, ga] w w' → RowAt w' x1 T1 (cs1.setIfInBounds o1 v1) → FCall F2 s n1 w' (SetR x2 o2 T2 cs2 w' n2 e2 v2)) :
    Calls Tryz.prog 99 #[.slice (some ⟨g, 0, none⟩) 2 2, .pointer (some ⟨gs, 0, none⟩), .pointer (some ⟨ga, 0, none⟩)] w (QF (RdR ga n2 (if e1 = 0 then e2 else e1) [x1, x2, ga] w fun w' => RowAt w' x2 T2 (cs2.setIfInBounds o2 v2) ∧ (x1 ≠ x2 → RowAt w' x1 T1 (cs1.setIfInBounds o1 v1)))) := by
  refine reader1_any s gs ga g [F1, F2] a w _ h1 h2 hr ?_ (by simp)
  refine wpF_set hr h1 h2 hx1 hC (fun h0 w' hk => ⟨by rw [if_neg h0], hk.mono (fun k _ h => by simp at h ⊢; exact .inl h), fun h => absurd (by rw [if_neg h0] at h; exact h) h0⟩) fun h0 w' hk hr' hu => ?_
  have hk' : Kp [x1, x2, ga] w w' := hk.mono (fun k _ h => by simp at h ⊢; rcases h with h | h <;> simp [h])
  refine wpF_set hr' h1 h2 hx2 (hC2 h0 w' hk hu) (fun h3 w2 hk2 => ⟨by rw [if_pos h0], hk'.trans (hk2.mono (fun k _ h => by simp at h ⊢; simp [h])), fun h => absurd (by rw [if_pos h0] at h; exact h) h3⟩) fun h3 w2 hk2 hr2 hu2 => ?_
  exact ⟨by rw [if_pos h0, h3], hk'.trans (hk2.mono (fun k _ h => by simp at h ⊢; rcases h with h | h <;> simp [h])), fun _ => ⟨rfl, hr2.2.1, hu2, fun hne => hk2.row hu (by simp; exact ⟨hne, hx1.2.1⟩)⟩⟩

/-- Three fields that set cells of one block. -/
theorem read3_set {s : ByteArray} {gs ga g a : Nat} {w : World} {F1 F2 F3 : Value} (hr : RdOk s gs ga g #[F1, F2, F3] a w) (h1 : gs ≠ ga) (h2 : g ≠ ga) {x o1 o2 o3 : Nat} {T : TypeId} {cs1 cs2 cs3 : Array Value} {n1 e1 n2 e2 n3 e3 : Nat} {v1 v2 v3 : Value}
    (hx : x ≠ gs ∧ x ≠ ga ∧ x ≠ g) (hC : FCall F1 s a w (SetR x o1 T cs1 w n1 e1 v1))
    (hC2 : e1 = 0 → ∀ w', Kp [x, ga] w w' → RowAt w' x T (cs1.setIfInBounds o1 v1) → FCall F2 s n1 w' (SetR x o2 T cs2 w' n2 e2 v2))
    (hC3 : e1 = 0 → e2 = 0 → ∀ w', Kp [x, ga] w w' → RowAt w' x T (cs2.setIfInBounds o2 v2) → FCall F3 s n2 w' (SetR x o3 T cs3 w' n3 e3 v3)) :
    Calls Tryz.prog 99 #[.slice (some ⟨g, 0, none⟩) 3 3, .pointer (some ⟨gs, 0, none⟩), .pointer (some ⟨ga, 0, none⟩)] w (QF (RdR ga n3 (if e1 = 0 then if e2 = 0 then e3 else e2 else e1) [x, ga] w fun w' => RowAt w' x T (cs3.setIfInBounds o3 v3))) := by
  refine reader1_any s gs ga g [F1, F2, F3] a w _ h1 h2 hr ?_ (by simp)
  have one : ∀ {u v : World}, Kp [x] u v → Kp [x, ga] u v := fun h => h.mono (fun k _ h => by simp at h ⊢; exact .inl h)
  refine wpF_set hr h1 h2 hx hC (fun h0 w' hk => ⟨by rw [if_neg h0], one hk, fun h => absurd (by rw [if_neg h0] at h; exact h) h0⟩) fun h0 w' hk hr' hu => ?_
  refine wpF_set hr' h1 h2 hx (hC2 h0 w' hk hu) (fun h3 w2 hk2 => ⟨by rw [if_pos h0, if_neg h3], hk.trans (one hk2), fun h => absurd (by rw [if_pos h0, if_neg h3] at h; exact h) h3⟩) fun h3 w2 hk2 hr2 hu2 => ?_
  refine wpF_set hr2 h1 h2 hx (hC3 h0 h3 w2 (hk.trans hk2) hu2) (fun h4 w3 hk3 => ⟨by rw [if_pos h0, if_pos h3], (hk.trans hk2).trans (one hk3), fun h => absurd (by rw [if_pos h0, if_pos h3] at h; exact h) h4⟩) fun h4 w3 hk3 hr3 hu3 => ?_
  exact ⟨by rw [if_pos h0, if_pos h3, h4], (hk.trans hk2).trans hk3, fun _ => ⟨rfl, hr3.2.1, hu3⟩⟩

/-- A number that must be n. -/
theorem read1_ex {s : ByteArray} {gs ga g a B n : Nat} {w : World} {F : Value} (hr : RdOk s gs ga g #[F] a w) (h1 : gs ≠ ga) (h2 : g ≠ ga) (hs : s.size ≤ 9223372036854775807) (hn : n ≤ 9223372036854775807) (hF : ExF B w F n) :
    Calls Tryz.prog 99 #[.slice (some ⟨g, 0, none⟩) 1 1, .pointer (some ⟨gs, 0, none⟩), .pointer (some ⟨ga, 0, none⟩)] w (QF (RdR ga (rX s.data.toList a n).1 (rX s.data.toList a n).2 [ga] w fun w' => True)) := by
  refine reader1_any s gs ga g [F] a w _ h1 h2 hr ?_ (by simp)
  refine wpF_below (P := fun n' er' => n' = (rX s.data.toList a n).1 ∧ er' = (rX s.data.toList a n).2) hr h1 h2 ((ex_field hs hn hF).mono fun _ _ _ ⟨a, b, c⟩ => ⟨⟨a, b⟩, c⟩) ?_ ?_
  · rintro n' er' w' ⟨rfl, rfl⟩ h0 hb
    exact ⟨rfl, Kp.of_below hb, fun h => absurd h h0⟩
  · rintro n' er' w' ⟨rfl, rfl⟩ h0 hk hr'
    exact ⟨h0.symm, hk, fun _ => ⟨rfl, hr'.2.1, trivial⟩⟩

/-- The end of the bytes. -/
theorem read1_none {s : ByteArray} {gs ga g a : Nat} {w : World} (hr : RdOk s gs ga g #[.func (.func 80) #[] #[]] a w) (h1 : gs ≠ ga) (h2 : g ≠ ga) (hs : s.size ≤ 9223372036854775807) (ha : a ≤ s.size) :
    Calls Tryz.prog 99 #[.slice (some ⟨g, 0, none⟩) 1 1, .pointer (some ⟨gs, 0, none⟩), .pointer (some ⟨ga, 0, none⟩)] w (QF (RdR ga a (if a < s.size then 4 else 0) [ga] w fun w' => True)) := by
  refine reader1_any s gs ga g [.func (.func 80) #[] #[]] a w _ h1 h2 hr ?_ (by simp)
  refine wpF_below (P := fun n' er' => er' = (if a < s.size then 4 else 0) ∧ (er' = 0 → n' = a)) hr h1 h2 ((none_field hs ha).mono fun _ _ _ ⟨a, b, c⟩ => ⟨⟨a, b⟩, c⟩) ?_ ?_
  · rintro n' er' w' ⟨rfl, _⟩ h0 hb
    exact ⟨rfl, Kp.of_below hb, fun h => absurd h h0⟩
  · rintro n' er' w' ⟨rfl, hn⟩ h0 hk hr'
    obtain rfl := hn h0
    exact ⟨h0.symm, hk, fun _ => ⟨rfl, hr'.2.1, trivial⟩⟩

/-- The checksum, then the rest. -/
theorem read2_sum {s : ByteArray} {gs ga g a B x : Nat} {w : World} {F2 : Value} {old : Value} (hr : RdOk s gs ga g #[.func (.func 71) #[] #[], F2] a w) (h1 : gs ≠ ga) (h2 : g ≠ ga) (hE : Sd.Env w) (hs : s.size ≤ 140737488351232) (ha : a ≤ s.size)
    (hx : x ≠ gs ∧ x ≠ ga ∧ x ≠ g) (hF : RestF B w F2 x 0) (hB : ga < B) (hu : RowAt w x 9 #[old]) :
    Calls Tryz.prog 99 #[.slice (some ⟨g, 0, none⟩) 2 2, .pointer (some ⟨gs, 0, none⟩), .pointer (some ⟨ga, 0, none⟩)] w (QF (RdR ga s.size (rS s.data.toList a).2 [x, ga] w fun w' => RowAt w' x 9 #[.string (s.extract (a + 4) s.size)])) := by
  have hsl := size_len s
  refine reader1_any s gs ga g [.func (.func 71) #[] #[], F2] a w _ h1 h2 hr ?_ (by simp)
  refine wpF_below (P := fun n' er' => er' = (rS s.data.toList a).2 ∧ (er' = 0 → n' = (rS s.data.toList a).1)) hr h1 h2 (sum_field hE hs ha) ?_ ?_
  · rintro n' er' w' ⟨rfl, _⟩ h0 hb
    exact ⟨rfl, Kp.of_below hb, fun h => absurd h h0⟩
  · rintro n' er' w' ⟨rfl, hn⟩ h0 hk hr'
    obtain rfl := hn h0
    have h4 : (rS s.data.toList a).1 = a + 4 ∧ a + 4 ≤ s.size := by
      unfold rS at h0 ⊢
      by_cases h : s.data.toList.length < a + 4
      · rw [if_pos h] at h0; exact absurd (show (5 : Nat) = 0 from h0) (by decide)
      · rw [if_neg h] at h0 ⊢
        by_cases h' : f4 s.data.toList a = ck (s.data.toList.take a)
        · rw [if_pos h']; exact ⟨rfl, by omega⟩
        · rw [if_neg h'] at h0; exact absurd (show (12 : Nat) = 0 from h0) (by decide)
    rw [h4.1] at hr' ⊢
    have hk' : Kp [x, ga] w w' := hk.mono (fun k _ h => by simp at h ⊢; simp [h])
    refine wpF_set hr' h1 h2 hx (rest_field (by omega) h4.2 (hF.keep hk (by simpa using hB)) (hk.row hu (by simpa using hx.2.1)) (by simp)) (fun h => absurd rfl h) fun _ w2 hk2 hr2 hu2 => ?_
    exact ⟨h0.symm, hk'.trans hk2, fun _ => ⟨rfl, hr2.2.1, hu2⟩⟩

end Go.Proofs.YtillcmddbjhepaaGreatDoor

namespace Go.Proofs.YtillcmddbjhepaaGreatDoor
open Go Go.RowKit Go.Joins
set_option linter.unusedVariables false
set_option linter.unusedSimpArgs false

theorem KRow.rowAt {α : Type} {enc : α → Array Value} {k : Nat} {T : TypeId} {w : World} {B g n : Nat} {l : List α} (h : KRow enc k T w B (.slice (some ⟨g, 0, none⟩) n n) l) : RowAt w g T (kCs enc l).toArray ∧ B ≤ g := by
  obtain ⟨hl, h⟩ := h
  rcases h with ⟨h, _⟩ | ⟨g', cap, cur, e, hB, hc, h1, h2, h3, h4⟩
  · cases h
  · simp only [Value.slice.injEq, Option.some.injEq, Addr.mk.injEq, and_true] at e
    obtain ⟨rfl, rfl, rfl⟩ := e
    refine ⟨?_, hB⟩
    unfold RowAt
    rw [hc, ← h4, List.take_of_length_le (by rw [Array.length_toList, h3]; exact Nat.le_refl _)]
theorem KRow.of_rowAt {α : Type} {enc : α → Array Value} {k : Nat} {T : TypeId} {w : World} {B g n : Nat} {l : List α} (hk : ∀ x, (enc x).size = k) (h : RowAt w g T (kCs enc l).toArray) (hB : B ≤ g) (hn : n = l.length) (hl : n ≤ maxLen) : KRow enc k T w B (.slice (some ⟨g, 0, none⟩) n n) l := by
  subst hn
  refine ⟨kCs_len hk l, .inr ⟨g, _, _, rfl, hB, h, Nat.le_refl _, hl, by simp [kCs_len hk], ?_⟩⟩
  rw [List.take_of_length_le (by simp [kCs_len hk])]

/-- What readNames leads to. -/
def NamR (ga : Nat) (p : List ByteArray × Nat × Nat) (w : World) (e : Ending) (w' : World) : Prop :=
  ∃ (v : Value) (er : Nat), e = .returned (.tuple #[v, .int .i64 er]) ∧ er = p.2.2 ∧ Kp [ga] w w' ∧ (p.2.2 = 0 → Si.NmRow w' w.heap.size v p.1 ∧ RowAt w' ga 3 #[.int .i64 p.2.1])

theorem nmC_cells (X : List ByteArray) : kCs Si.nmC X = X.map Value.string := by
  induction X with
  | nil => rfl
  | cons x X ih => rw [kCs_cons, ih]; rfl
/-- The names so far, and room for the others. -/
def nmW (X : List ByteArray) (r : Nat) : List ByteArray := X ++ List.replicate r ⟨#[]⟩
theorem nmW_set (X : List ByteArray) (r : Nat) (s : ByteArray) : (kCs Si.nmC (nmW X (r + 1))).toArray.setIfInBounds X.length (.string s) = (kCs Si.nmC (nmW (X ++ [s]) r)).toArray := by
  apply Array.toList_inj.1
  rw [Array.toList_setIfInBounds]
  unfold nmW
  simp [nmC_cells, List.replicate_succ, List.set_append]
theorem nmW_size (X : List ByteArray) (r : Nat) : (kCs Si.nmC (nmW X r)).toArray.size = X.length + r := by
  unfold nmW; simp [nmC_cells]

/-- A read of one number: the place moves, the cell is set. -/
theorem readNum_any {s : ByteArray} {gs ga a B : Nat} {w : World} {F : Value} {x o m : Nat} {T : TypeId} {cs : Array Value} (hs : s.size ≤ 9223372036854775807) (hm : m ≤ 9223372036854775807) (h1 : gs ≠ ga) (r1 : RowAt w gs 9 #[.string s]) (r2 : RowAt w ga 3 #[.int .i64 a])
    (hF : NumF B w F x o m) (hx : RowAt w x T cs) (ho : o < cs.size) (hn : x ≠ gs ∧ x ≠ ga) :
    Calls Tryz.prog 99 #[.slice (some ⟨w.heap.size, 0, none⟩) 1 1, .pointer (some ⟨gs, 0, none⟩), .pointer (some ⟨ga, 0, none⟩)] (w.alloc (.cells #[F] 106)) (QF (RdR ga (rN s.data.toList a m).2.1 (rN s.data.toList a m).2.2 [x, ga] (w.alloc (.cells #[F] 106)) fun w' => RowAt w' x T (cs.setIfInBounds o (.int .i64 (rN s.data.toList a m).1)))) :=
  read1_set ⟨r1.alloc _, r2.alloc _, RowAt.new w _ _⟩ h1 (by have := r2.lt; omega) ⟨hn.1, hn.2, by have := hx.lt; omega⟩ (num_field hs hm (hF.keep (X := []) ((Kp.refl _ w).alloc _) (by simp)) (hx.alloc _) ho)
theorem readTxt_any {s : ByteArray} {gs ga a B : Nat} {w : World} {F : Value} {x o m : Nat} {T : TypeId} {cs : Array Value} (hs : s.size ≤ 140737488351232) (hm : m ≤ 9223372036854775807) (h1 : gs ≠ ga) (r1 : RowAt w gs 9 #[.string s]) (r2 : RowAt w ga 3 #[.int .i64 a])
    (hF : TxtF B w F x o m) (hx : RowAt w x T cs) (ho : o < cs.size) (hn : x ≠ gs ∧ x ≠ ga) :
    Calls Tryz.prog 99 #[.slice (some ⟨w.heap.size, 0, none⟩) 1 1, .pointer (some ⟨gs, 0, none⟩), .pointer (some ⟨ga, 0, none⟩)] (w.alloc (.cells #[F] 106)) (QF (RdR ga (Sb.tcN s.data.toList a m + Sb.tcV s.data.toList a m) (Sb.tcE s.data.toList a m) [x, ga] (w.alloc (.cells #[F] 106)) fun w' => RowAt w' x T (cs.setIfInBounds o (.string ⟨(Sb.ttS s.data.toList a m).toArray⟩)))) :=
  read1_set ⟨r1.alloc _, r2.alloc _, RowAt.new w _ _⟩ h1 (by have := r2.lt; omega) ⟨hn.1, hn.2, by have := hx.lt; omega⟩ (txt_field hs hm (hF.keep (X := []) ((Kp.refl _ w).alloc _) (by simp)) (hx.alloc _) ho)

/-- What the loop of readNames keeps. -/
def NmI (s : ByteArray) (gs ga G n a0 : Nat) (X : List ByteArray) (a : Nat) (w wr : World) : Prop :=
  X.length ≤ n ∧ aL X (tNm s.data.toList (n - X.length) a) = tNm s.data.toList n a0 ∧ RowAt wr G 9 (kCs Si.nmC (nmW X (n - X.length))).toArray ∧ w.heap.size ≤ G ∧ RowAt wr gs 9 #[.string s] ∧ RowAt wr ga 3 #[.int .i64 a] ∧ Kp [ga] w wr

set_option maxRecDepth 20000 in
set_option maxHeartbeats 2000000 in
theorem readNames_any (s : ByteArray) (gs ga a : Nat) (w : World) (hs : s.size ≤ 140737488351232) (h1 : gs ≠ ga) (r1 : RowAt w gs 9 #[.string s]) (r2 : RowAt w ga 3 #[.int .i64 a]) :
    Calls Tryz.prog 68 #[.func (.func 99) #[] #[.pointer (some ⟨gs, 0, none⟩), .pointer (some ⟨ga, 0, none⟩)]] w (NamR ga (rNm s.data.toList a) w) := by
  have R0 := Lib.hid (RowAt.new w 3 #[.int .i64 0])
  have R1 := Lib.hid r1
  have R2 := Lib.hid r2
  have H1 := Lib.hid h1
  have HG := Lib.hid (show w.heap.size ≠ gs ∧ w.heap.size ≠ ga from ⟨by have := r1.lt; omega, by have := r2.lt; omega⟩)
  have HGL := Lib.hid (And.intro r1.lt r2.lt)
  have CN := Lib.hid (number_any w.heap.size 0 16 (w.alloc (.cells #[.int .i64 0] 3)))
  have K0 := Lib.hid ((Kp.refl [ga] w).alloc (.cells #[.int .i64 0] 3))
  have HL := Lib.hid (rN_le s.data.toList a 16).1
  have HRN := Lib.hid (show rNm s.data.toList a = if (rN s.data.toList a 16).2.2 = 0 then tNm s.data.toList (rN s.data.toList a 16).1 (rN s.data.toList a 16).2.1 else ([], 0, (rN s.data.toList a 16).2.2) from rfl)
  have CR := Lib.hid (fun W F (hF : NumF (w.alloc (.cells #[.int .i64 0] 3)).heap.size W F w.heap.size 0 16) (q1 : RowAt W gs 9 #[.string s]) (q2 : RowAt W ga 3 #[.int .i64 a]) (q3 : RowAt W w.heap.size 3 #[.int .i64 0]) => readNum_any (a := a) (show s.size ≤ 9223372036854775807 by omega) (by omega) h1 q1 q2 hF q3 (by simp) HG.out)
  generalize rNm s.data.toList a = q at *
  generalize rN s.data.toList a 16 = p at *
  obtain ⟨n, a1, e1⟩ := p
  simp only at HL HRN CR
  clear r1 r2 h1
  by_cases h0 : e1 = 0
  · subst h0
    go_enter Tryz.func68, Tryz.ntmps68
    go_wp2_with (first
      | (go_at_call 69; go_must (refine CN.out.mono ?_; rintro e w1 ⟨F, rfl, hF, b1⟩; have R01 := Lib.hid (R0.out.keep b1); have K1 := Lib.hid (K0.out.then_below b1); have CR1 := Lib.hid (CR.out _ F hF ((R1.out.alloc _).keep b1) ((R2.out.alloc _).keep b1) (R0.out.keep b1)); obtain ⟨p1, p2, _, _, rfl, _, _⟩ := hF; clear b1 CN CR))
      | (go_at_call 99; go_must (refine CR1.out.mono ?_; rintro e w2 ⟨er, a2, rfl, rfl, hK, hP⟩; have HK := Lib.hid (show Kp [w.heap.size, ga] _ _ from (K1.out.alloc _).mono (fun k _ h => by simp at h ⊢; exact .inr h) |>.trans hK); have HP := Lib.hid (hP rfl); have hb0 := (hP rfl).2.2.get1; clear hK hP CR1))
      | (at_make; go_must (refine wpList_make_k (n := n) (enc := Si.nmC) (B := w.heap.size) Tryz.underlying22 Si.name_info (⟨#[]⟩ : ByteArray) rfl rfl rfl _ _ rfl rfl rfl rfl rfl (by have := HL.out; omega) (by have := HL.out; omega) HK.out.size ?_; intro w3 R3 b3))
      | fail)
    have HR3 := Lib.hid (KRow.rowAt R3)
    have HK3 := Lib.hid ((HK.out.mono (Y := [ga]) (fun k hk h => by simp at h ⊢; omega)).then_old b3)
    have HI := Lib.hid (show NmI s gs ga w2.heap.size n a1 [] a1 w w3 from ⟨Nat.zero_le _, aL_nil _ (tNm_bad _ _ _), HR3.out.1, HR3.out.2, (HK.out.row R1.out (by simp; exact ⟨fun e => HG.out.1 e.symm, H1.out⟩)).below b3 HGL.out.1, HP.out.2.1.below b3 HGL.out.2, HK3.out⟩)
    have HQ := Lib.hid (show q = tNm s.data.toList n a1 by rw [HRN.out]; exact if_pos trivial)
    have hn16 : n ≤ 16 := HL.out
    clear R0 R1 R2 HG K0 HL HRN R01 K1 HK HP R3 b3 HR3 HK3
    generalize w2.heap.size = G at *
    go_loopw [20] (fun i wr => ∃ (X : List ByteArray) (b : Nat), i = .int .i64 X.length ∧ Hid (NmI s gs ga G n a1 X b w wr)) (fun i _ => n - (intOf i).toNat)
    case atStart => exact ⟨[], a1, rfl, HI⟩
    case round =>
      clear HI hb0
      obtain ⟨X, b, rfl, HI⟩ := hrel
      obtain ⟨hX, i2, i3, i4, i5, i6, i7⟩ := HI.out
      have I2 := Lib.hid i2; have I3 := Lib.hid i3; have I4 := Lib.hid i4; have I5 := Lib.hid i5; have I6 := Lib.hid i6; have I7 := Lib.hid i7
      clear i2 i3 i4 i5 i6 i7 HI
      by_cases hlt : X.length < n
      · obtain ⟨m, hm⟩ : ∃ m, n - X.length = m + 1 := ⟨n - X.length - 1, by omega⟩
        have hXi : (X.length : Int) < n := by omega
        obtain ⟨k, hk⟩ : ∃ k, X.length = k := ⟨_, rfl⟩
        have CT := Lib.hid (fun W => text_any G k 16 W)
        have hga : ga < G := Nat.lt_of_lt_of_le HGL.out.2 I4.out
        have hgs : gs < G := Nat.lt_of_lt_of_le HGL.out.1 I4.out
        have CR := Lib.hid (fun W F (hF : TxtF wr.heap.size W F G k 16) (hb : Below wr.heap.size wr W) => readTxt_any (a := b) hs (by decide) H1.out (I5.out.keep hb) (I6.out.keep hb) hF (I3.out.keep hb) (by rw [nmW_size]; omega) ⟨by omega, by omega⟩)
        have hkl : k < n := by omega
        have hki : (k : Int) < n := by omega
        have I2s := Lib.hid I2.out
        rw [hm] at I2s I3
        have HKX := Lib.hid hk
        rw [hk]
        obtain ⟨tE, htE⟩ : ∃ tE, Sb.tcE s.data.toList b 16 = tE := ⟨_, rfl⟩
        by_cases hE : Sb.tcE s.data.toList b 16 = 0
        · have HT := Lib.hid (tNm_ok (k := m) hE)
          have hE2 := hE
          rw [show (Sb.tcE s.data.toList b 16 : Nat) = Sb.tcE s.data.toList b (16 : Nat) from rfl] at hE2
          rw [hE2] at CR
          have HNX := Lib.hid (nmW_set X m ⟨(Sb.ttS s.data.toList b 16).toArray⟩)
          have HAL := Lib.hid (aL_cons X (⟨(Sb.ttS s.data.toList b 16).toArray⟩ : ByteArray) (tNm s.data.toList m (Sb.tcN s.data.toList b 16 + Sb.tcV s.data.toList b 16)))
          clear hE hE2 htE hk hX hXi hlt
          go_wp2_with (first
            | (go_at_call 100; go_must (refine (CT.out _).mono ?_; rintro e w4 ⟨F, rfl, hF, b4⟩; have K4 := Lib.hid (I7.out.then_below b4); have I54 := Lib.hid (I5.out.keep b4); have CR4 := Lib.hid (CR.out _ F hF b4); obtain ⟨p1, p2, _, _, rfl, _, _⟩ := hF; clear b4 CT CR))
            | (go_at_call 99; go_must (refine CR4.out.mono ?_; rintro e w5 ⟨er, b5, rfl, rfl, hK, hP⟩; have K5 := Lib.hid (show Kp [G, ga] _ _ from (K4.out.alloc _).mono (fun k _ h => by simp at h ⊢; exact .inr h) |>.trans hK); have P5 := Lib.hid (hP rfl); have KK := Lib.hid hK; clear hK hP CR4))
            | fail)
          refine ⟨⟨X ++ [⟨(Sb.ttS s.data.toList b 16).toArray⟩], Sb.tcN s.data.toList b 16 + Sb.tcV s.data.toList b 16, val_int (by rw [List.length_append, HKX.out]; simp), Lib.hid ?_⟩, by simp [intOf]; omega⟩
          have hlen : (X ++ [(⟨(Sb.ttS s.data.toList b 16).toArray⟩ : ByteArray)]).length = k + 1 := by rw [List.length_append, HKX.out]; rfl
          have hm2 : n - (k + 1) = m := by have := HKX.out; omega
          refine ⟨by rw [hlen]; omega, ?_, ?_, I4.out, KK.out.row (I54.out.alloc _) (by simp; exact ⟨by omega, H1.out⟩), P5.out.2.1, K5.out.mono (fun j hj h => by simp at h ⊢; have := I4.out; omega)⟩
          · rw [hlen, hm2, ← HAL.out, ← HT.out]; exact I2s.out
          · rw [hlen, hm2, ← HNX.out, HKX.out]; have e := P5.out.2.2; rw [show n - X.length = m + 1 by have := HKX.out; omega] at e; exact e
        · have HT := Lib.hid (tNm_no (k := m) hE)
          have hE2 : ((tE : Int) != 0) = true := by simp; omega
          rw [show (Sb.tcE s.data.toList b 16 : Nat) = Sb.tcE s.data.toList b (16 : Nat) from rfl] at htE
          rw [htE] at CR
          have HE := Lib.hid (show q.2.2 = tE ∧ q.2.2 ≠ 0 by
            rw [HQ.out, ← I2s.out, HT.out]
            unfold aL
            rw [if_neg hE]
            exact ⟨htE, hE⟩)
          clear hE htE hk hX hXi hlt
          go_wp2_with (first
            | (go_at_call 100; go_must (refine (CT.out _).mono ?_; rintro e w4 ⟨F, rfl, hF, b4⟩; have K4 := Lib.hid (I7.out.then_below b4); have CR4 := Lib.hid (CR.out _ F hF b4); obtain ⟨p1, p2, _, _, rfl, _, _⟩ := hF; clear b4 CT CR))
            | (go_at_call 99; go_must (refine CR4.out.mono ?_; rintro e w5 ⟨er, b5, rfl, rfl, hK, hP⟩; have K5 := Lib.hid (show Kp [G, ga] _ _ from (K4.out.alloc _).mono (fun k _ h => by simp at h ⊢; exact .inr h) |>.trans hK); clear hK hP CR4))
            | fail)
          go_returns
          exact ⟨_, er, rfl, HE.out.1.symm, K5.out.mono (fun j hj h => by simp at h ⊢; have := I4.out; omega), fun h => absurd h HE.out.2⟩
      · have hXn : X.length = n := by omega
        have hn0 : n - X.length = 0 := by omega
        have hlti : ¬ (X.length : Int) < n := by omega
        rw [hn0] at I2 I3
        have HF := Lib.hid (show NamR ga q w (.returned (.tuple #[.slice (some ⟨G, 0, none⟩) n n, .int .i64 0])) wr by
          have e1 : q = (X, b, 0) := by
            rw [HQ.out, ← I2.out]
            show aL X ([], b, 0) = (X, b, 0)
            unfold aL; simp
          refine ⟨_, 0, rfl, by rw [e1], I7.out, fun _ => ?_⟩
          rw [e1]
          have e2 : nmW X 0 = X := by unfold nmW; simp
          have r := I3.out
          rw [e2] at r
          exact ⟨KRow.of_rowAt Si.nmC_size r I4.out hXn.symm (by simp only [maxLen]; omega), I6.out⟩)
        clear hXn hn0 I2 I3 I5 I6
        go_wp2
        go_returns
        exact HF.out
  · have h0' : ((e1 : Int) != 0) = true := by simp; omega
    go_enter Tryz.func68, Tryz.ntmps68
    go_wp2_with (first
      | (go_at_call 69; go_must (refine CN.out.mono ?_; rintro e w1 ⟨F, rfl, hF, b1⟩; have R01 := Lib.hid (R0.out.keep b1); have K1 := Lib.hid (K0.out.then_below b1); have CR1 := Lib.hid (CR.out _ F hF ((R1.out.alloc _).keep b1) ((R2.out.alloc _).keep b1) (R0.out.keep b1)); obtain ⟨p1, p2, _, _, rfl, _, _⟩ := hF; clear b1 CN CR))
      | (go_at_call 99; go_must (refine CR1.out.mono ?_; rintro e w2 ⟨er, a2, rfl, rfl, hK, hP⟩; have HK := Lib.hid (show Kp [w.heap.size, ga] _ _ from (K1.out.alloc _).mono (fun k _ h => by simp at h ⊢; exact .inr h) |>.trans hK); clear hK hP CR1))
      | fail)
    go_returns
    refine ⟨_, er, rfl, by rw [HRN.out, if_neg h0], HK.out.mono (fun k hk h => by simp at h ⊢; omega), fun h => absurd (by rw [HRN.out, if_neg h0] at h; exact h) h0⟩

end Go.Proofs.YtillcmddbjhepaaGreatDoor

namespace Go.Proofs.YtillcmddbjhepaaGreatDoor
open Go
set_option linter.unusedVariables false
set_option linter.unusedSimpArgs false

def aB (X : List Si.Rn) (r : Option (List Si.Rn × Nat)) : Option (List Si.Rn × Nat) := r.map fun p => (X ++ p.1, p.2)
theorem aB_nil (r : Option (List Si.Rn × Nat)) : aB [] r = r := by cases r <;> rfl
/-- A level and a number of ticks, if they are right. -/
def r1k (s : List UInt8) (m a : Nat) : Prop := (rN s a m).2.2 = 0 ∧ (rN s (rN s a m).2.1 1099511627776).2.2 = 0 ∧ (rN s (rN s a m).2.1 1099511627776).1 ≠ 0
theorem rB_yes {s : List UInt8} {m n a : Nat} (h : r1k s m a) (X : List Si.Rn) :
    aB X (rB s m (n + 1) a) = aB (X ++ [(((rN s a m).1 : Int), ((rN s (rN s a m).2.1 1099511627776).1 : Int))]) (rB s m n (rN s (rN s a m).2.1 1099511627776).2.1) := by
  unfold r1k at h
  rw [rB, if_pos h]
  unfold aB
  cases rB s m n (rN s (rN s a m).2.1 1099511627776).2.1 with
  | none => rfl
  | some p => simp
theorem rB_no {s : List UInt8} {m n a : Nat} (h : ¬ r1k s m a) (X : List Si.Rn) : aB X (rB s m (n + 1) a) = none := by
  unfold r1k at h
  rw [rB, if_neg h]; rfl
theorem rB_0 (s : List UInt8) (m a : Nat) (X : List Si.Rn) : aB X (rB s m 0 a) = some (X, a) := by
  unfold aB; rw [rB]; simp
theorem rBk_none {s : List UInt8} {m n c d : Nat} (h : rB s m n 0 = none) : rBk s m n c d = none := by
  unfold rBk; rw [h]; simp
theorem rBk_ck {s : List UInt8} {m n c d : Nat} (h : ¬ ck s = c) : rBk s m n c d = none := by unfold rBk; rw [if_neg h]
theorem rBk_some {s : List UInt8} {m n c d : Nat} {L : List Si.Rn} {a : Nat} (h0 : ck s = c) (h : rB s m n 0 = some (L, a)) : rBk s m n c d = if a = s.length ∧ Si.lg L = d then some L else none := by
  unfold rBk; rw [if_pos h0, h]

end Go.Proofs.YtillcmddbjhepaaGreatDoor

namespace Go.Proofs.YtillcmddbjhepaaGreatDoor
open Go Go.RowKit Go.Joins
set_option linter.unusedVariables false
set_option linter.unusedSimpArgs false

theorem wpList_append_nm {w : World} {ops : Array Oper} {rest : List Oper} {o : Oper} {a : Act} {Q : Exit → Act → World → Prop} (hgd : o.guard = none) (s x : Operand)
    (ho : o.op = .call { callee := .builtin .append, args := #[s, x], argTypes := #[22, 22] })
    {B c : Nat} {v : Value} {l : List ByteArray} {g : Nat} {ya : Array Value} (t : ByteArray) (hya : ya = Si.nmC t) (hs : a.eval s = v) (hx : a.eval x = .slice (some ⟨g, 0, none⟩) 1 c) (hg : g = w.heap.size) (hf : Si.NmRow w B v l) (hB : B ≤ w.heap.size) (hn : l.length ≤ 100000)
    (h : ∀ v' w', Si.NmRow w' B v' (l ++ [t]) → Below B w w' → wpList Tryz.prog ops Q rest (a.put o.dst v') w') : wpList Tryz.prog ops Q (o :: rest) a (w.alloc (.cells ya 9)) :=
  wpList_append_k (P := Tryz.prog) Tryz.underlying22 Si.name_info rfl (by omega) Si.nmC_size hgd s x ho t hya hs hx hg hf hB (by subst hya; exact Si.nmC_one t) (by omega) (by omega) h

def RnR (p : List ByteArray × Nat × Nat) (w : World) (e : Ending) (w' : World) : Prop :=
  ∃ v : Value, e = .returned (.tuple #[v, .int .i64 p.2.1, .int .i64 p.2.2]) ∧ (∃ A n c, v = .slice A n c) ∧ Si.NmRow w' w.heap.size v p.1 ∧ Below w.heap.size w w'
theorem RnR.of {p : List ByteArray × Nat × Nat} {w w' : World} {v : Value} {X : List ByteArray} {b er : Nat} (h : p = (X, b, er)) (hv : Si.NmRow w' w.heap.size v X) (hb : Below w.heap.size w w') : RnR p w (.returned (.tuple #[v, .int .i64 b, .int .i64 er])) w' := by
  subst h
  obtain ⟨A, n, c, e, _⟩ := KRow.form hv
  exact ⟨v, rfl, ⟨A, n, c, e⟩, hv, hb⟩

set_option maxRecDepth 20000 in
set_option maxHeartbeats 2000000 in
theorem rtakeNames_any (s : ByteArray) (a : Nat) (w : World) (hs : s.size ≤ 140737488351232) (ha : a ≤ s.size) :
    Calls Tryz.prog 83 #[.string s, .int .i64 a] w (RnR (rNm s.data.toList a) w) := by
  have CA := Lib.hid (rtakeNumber_any s a 16 w (by omega) (by decide))
  have CT := Lib.hid (fun b W => Sb.rtakt_any s b 16 W hs (by decide) (by decide))
  unfold Sb.ttVal at CT
  have HL := Lib.hid (rN_le s.data.toList a 16).1
  have HRN := Lib.hid (show rNm s.data.toList a = if (rN s.data.toList a 16).2.2 = 0 then tNm s.data.toList (rN s.data.toList a 16).1 (rN s.data.toList a 16).2.1 else ([], 0, (rN s.data.toList a 16).2.2) from rfl)
  have HB := Lib.hid (fun (h : (rN s.data.toList a 16).2.2 ≠ 0) => show rN s.data.toList a 16 = (0, 0, (rN s.data.toList a 16).2.2) by
    unfold rN at h ⊢
    by_cases c1 : Sb.tuE s.data.toList a = 0
    · by_cases c2 : 16 < Sb.tuV s.data.toList a
      · simp [c1, c2]
      · simp [c1, c2] at h
    · simp [c1])
  generalize rNm s.data.toList a = q at *
  generalize rN s.data.toList a 16 = p at *
  obtain ⟨n, a1, e1⟩ := p
  simp only at HL HRN HB
  unfold r3 at CA
  simp only at CA
  by_cases h0 : e1 = 0
  · subst h0
    have HQ := Lib.hid (show q = tNm s.data.toList n a1 by rw [HRN.out]; exact if_pos rfl)
    clear HRN HB
    go_enter Tryz.func83, Tryz.ntmps83
    go_wp2_with (first
      | (go_at_call 76; go_must (refine CA.out.mono ?_; rintro e w1 ⟨rfl, b1⟩; have B1 := Lib.hid b1; clear b1 CA))
      | fail)
    have HR0 := Lib.hid (show Si.NmRow (w1.alloc (.cells #[] 9)) w.heap.size (.slice (some ⟨w1.heap.size, 0, none⟩) 0 0) [] from KRow.lit Si.nmC_size w1 w.heap.size B1.out.size [] #[] rfl 0 rfl (by decide))
    have HB0 := Lib.hid (B1.out.alloc B1.out.size (.cells #[] 9))
    have HA0 := Lib.hid (aL_nil _ (tNm_bad s.data.toList n a1))
    clear B1
    go_loopw [1, 8, 9, 10] (fun x y v i wr => ∃ (X : List ByteArray) (b : Nat), X.length ≤ n ∧ x = .int .i64 b ∧ y = .int .i64 0 ∧ i = .int .i64 X.length ∧ Hid (aL X (tNm s.data.toList (n - X.length) b) = tNm s.data.toList n a1) ∧ Hid (Si.NmRow wr w.heap.size v X) ∧ Hid (Below w.heap.size w wr)) (fun _ _ _ i _ => n - (intOf i).toNat)
    case atStart => exact ⟨[], a1, Nat.zero_le _, rfl, rfl, rfl, HA0, HR0, HB0⟩
    case round =>
      clear HR0 HB0 HA0
      obtain ⟨X, b, hX, rfl, rfl, rfl, HA, HR, HBW⟩ := hrel
      obtain ⟨vA, vn, vc, rfl, hvn⟩ := KRow.form HR.out
      clear hvn
      by_cases hlt : X.length < n
      · obtain ⟨m, hm⟩ : ∃ m, n - X.length = m + 1 := ⟨n - X.length - 1, by omega⟩
        have HM := Lib.hid hm
        rw [hm] at HA
        have hXi : (X.length : Int) < n := by omega
        have hn16 : (n : Int) ≤ 16 := by have := HL.out; omega
        have HLN := Lib.hid (show X.length ≤ 100000 by have := HL.out; omega)
        obtain ⟨tE, htE⟩ : ∃ tE, Sb.tcE s.data.toList b 16 = tE := ⟨_, rfl⟩
        have CT1 := Lib.hid (fun W => CT.out b W)
        rw [htE] at CT1
        have HTO := Lib.hid (fun (h : tE = 0) => tNm_ok (l := s.data.toList) (k := m) (a := b) (by rw [htE]; exact h))
        have HTN := Lib.hid (fun (h : ¬ tE = 0) => tNm_no (l := s.data.toList) (k := m) (a := b) (by rw [htE]; exact h))
        rw [htE] at HTN
        clear htE hm
        generalize (⟨(Sb.ttS s.data.toList b 16).toArray⟩ : ByteArray) = Z at *
        generalize Sb.tcN s.data.toList b 16 + Sb.tcV s.data.toList b 16 = c at *
        by_cases hE : tE = 0
        · subst hE
          have HT := Lib.hid (HTO.out rfl)
          clear HTO HTN
          go_wp2_with (first
            | (go_at_call 106; go_must (refine (CT1.out _).mono ?_; rintro e w2 ⟨rfl, rfl⟩; clear CT1))
            | (at_builtin; go_must (refine wpList_append_nm rfl (.tmp 35) (.tmp 37) rfl Z rfl rfl rfl rfl HR.out HBW.out.size HLN.out ?_; intro v3 w3 r3 b3))
            | fail)
          go_roundw
          case rel =>
            refine ⟨X ++ [Z], c, by rw [List.length_append]; simp; omega, rfl, rfl, val_int (by rw [List.length_append]; simp), Lib.hid ?_, Lib.hid r3, Lib.hid (HBW.out.trans b3)⟩
            rw [List.length_append, ← HA.out, HT.out, aL_cons, show n - (X.length + [Z].length) = m by have := HM.out; simp; omega]
          case measure => simp [intOf]; omega
        · have hE2 : ((tE : Int) != 0) = true := by simp; omega
          have HF := Lib.hid (show q = ([], 0, tE) by
            rw [HQ.out, ← HA.out, HTN.out hE]
            unfold aL
            rw [if_neg hE])
          clear HTO HTN
          go_wp2_with (first
            | (go_at_call 106; go_must (refine (CT1.out _).mono ?_; rintro e w2 ⟨rfl, rfl⟩; clear CT1))
            | fail)
          go_returns
          exact RnR.of HF.out (KRow.nil _ _) HBW.out
      · have hn0 : n - X.length = 0 := by omega
        have hlti : ¬ (X.length : Int) < n := by omega
        rw [hn0] at HA
        have HF := Lib.hid (show q = (X, b, 0) by
          rw [HQ.out, ← HA.out]
          show aL X ([], b, 0) = (X, b, 0)
          unfold aL; simp)
        clear HA hn0
        go_wp2
        go_returns
        exact RnR.of HF.out HR.out HBW.out
  · have HP := HB.out h0
    simp only [Prod.mk.injEq] at HP
    obtain ⟨rfl, rfl, _⟩ := HP
    have HQ := Lib.hid (show q = ([], 0, e1) by rw [HRN.out, if_neg h0])
    clear HRN HB
    go_enter Tryz.func83, Tryz.ntmps83
    go_wp2_with (first
      | (go_at_call 76; go_must (refine CA.out.mono ?_; rintro e w1 ⟨rfl, b1⟩; have B1 := Lib.hid b1; clear b1 CA))
      | fail)
    have HR0 := Lib.hid (show Si.NmRow (w1.alloc (.cells #[] 9)) w.heap.size (.slice (some ⟨w1.heap.size, 0, none⟩) 0 0) [] from KRow.lit Si.nmC_size w1 w.heap.size B1.out.size [] #[] rfl 0 rfl (by decide))
    have HB0 := Lib.hid (B1.out.alloc B1.out.size (.cells #[] 9))
    clear B1
    go_loopw [1, 8, 9, 10] (fun x y v i wr => x = .int .i64 0 ∧ y = .int .i64 e1 ∧ i = .int .i64 0 ∧ v = .slice (some ⟨w1.heap.size, 0, none⟩) 0 0 ∧ wr = w1.alloc (.cells #[] 9)) (fun _ _ _ _ _ => 0)
    case atStart => exact ⟨rfl, rfl, rfl, rfl, rfl⟩
    case round =>
      obtain ⟨rfl, rfl, rfl, rfl, rfl⟩ := hrel
      go_wp2
      go_returns
      exact RnR.of HQ.out HR0.out HB0.out

end Go.Proofs.YtillcmddbjhepaaGreatDoor
