/-
  readHead. (Written by tools/s10_gen20.py.)
  Stored captures, plain mathematics: the specification's checks of the table.
  Stored captures, plain mathematics: the runs of a block, read one after the other.
  readPart.
  readParts.
  isClean.
  find, with sort.Search.
  levelAt, with slices.IndexFunc.
  cut.
  Count and Find.
  Find.
  Stored captures, plain mathematics: what was written is read, and what was read was written: numbers, names, four bytes, the table.
-/
import Derived.Test.YtillcmddbjhepaaDoorZ24
import Derived.Test.YtillcmddbjhepaaDoorZ23
import Derived.Test.YtillcmddbjhepaaDoorZ11
import Derived.Deep.RegionHeld3
import Derived.StillTailTactics
import Derived.BigQuiet
import Derived.Test.YtillcmddbjhepaaDoorZ17
namespace Go.Proofs.YtillcmddbjhepaaDoor
open Go Go.RowKit Go.Joins
set_option linter.unusedVariables false
set_option linter.unusedSimpArgs false

/-- The block of a row, as a list. -/
def obX (v : Value) : List Nat := v.ownBlock.toList
theorem obX_in (v : Value) : ∀ g, v.ownBlock = some g → g ∈ obX v := fun g hg => by unfold obX; rw [hg]; simp
theorem obX_of {v : Value} {g : Nat} (h : g ∈ obX v) : v.ownBlock = some g := by unfold obX at h; simpa using h

def hdPts (l : List UInt8) : List Pt := ptG (rd l).1.2.1 (rd l).1.2.2.2.1 (rd l).1.2.2.1 (l.drop (rd l).1.2.2.2.2) (rd l).1.2.2.2.1.length
/-- What readHead gives. -/
def HdR (l : List UInt8) (w : World) (e : Ending) (w' : World) : Prop :=
  ∃ (vN vP : Value) (T er : Nat), e = .returned (.tuple #[.agg #[vN, .int .i64 T, vP], .int .i64 er]) ∧ er = (rd l).2 ∧ T = (rd l).1.2.2.1 ∧ Below w.heap.size w w' ∧ Si.NmRow w' w.heap.size vN (rd l).1.1 ∧ PtRow w' w.heap.size vP (hdPts l)
theorem HdR.bad {l : List UInt8} {w w' : World} {er : Nat} (h : rd l = (noH, er)) (hb : Below w.heap.size w w') : HdR l w (.returned (.tuple #[.agg #[.slice none 0 0, .int .i64 0, .slice none 0 0], .int .i64 er])) w' := by
  refine ⟨.slice none 0 0, .slice none 0 0, 0, er, rfl, by rw [h], by rw [h]; rfl, hb, ?_, ?_⟩
  · rw [h]; exact KRow.nil _ _
  · unfold hdPts; rw [h]; exact KRow.nil _ _

/-- Two numbers, into two blocks. -/
theorem readNN_any {s : ByteArray} {gs ga a B x1 o1 m1 x2 o2 m2 : Nat} {w : World} {F1 F2 : Value} {T1 T2 : TypeId} {cs1 cs2 : Array Value} (hs : s.size ≤ 9223372036854775807) (hm1 : m1 ≤ 9223372036854775807) (hm2 : m2 ≤ 9223372036854775807) (h1 : gs ≠ ga) (r1 : RowAt w gs 9 #[.string s]) (r2 : RowAt w ga 3 #[.int .i64 a])
    (hF1 : NumF B w F1 x1 o1 m1) (hF2 : NumF B w F2 x2 o2 m2) (hx1 : RowAt w x1 T1 cs1) (hx2 : RowAt w x2 T2 cs2) (ho1 : o1 < cs1.size) (ho2 : o2 < cs2.size) (hn1 : x1 ≠ gs ∧ x1 ≠ ga) (hn2 : x2 ≠ gs ∧ x2 ≠ ga) (h12 : x1 ≠ x2) (hB1 : x1 < B) (hgB : ga < B) :
    Calls Tryd.prog 72 #[.slice (some ⟨w.heap.size, 0, none⟩) 2 2, .pointer (some ⟨gs, 0, none⟩), .pointer (some ⟨ga, 0, none⟩)] (w.alloc (.cells #[F1, F2] 90)) (QF (RdR ga (rN s.data.toList (rN s.data.toList a m1).2.1 m2).2.1 (if (rN s.data.toList a m1).2.2 = 0 then (rN s.data.toList (rN s.data.toList a m1).2.1 m2).2.2 else (rN s.data.toList a m1).2.2) [x1, x2, ga] (w.alloc (.cells #[F1, F2] 90)) fun w' => RowAt w' x2 T2 (cs2.setIfInBounds o2 (.int .i64 (rN s.data.toList (rN s.data.toList a m1).2.1 m2).1)) ∧ RowAt w' x1 T1 (cs1.setIfInBounds o1 (.int .i64 (rN s.data.toList a m1).1)))) := by
  have hk0 : Kp [x1, ga] w (w.alloc (.cells #[F1, F2] 90)) := (Kp.refl _ w).alloc _
  have hX : ∀ k ∈ [x1, ga], k < B := by intro k hk; simp at hk; omega
  have h := read2_set (s := s) (a := a) (w := w.alloc (.cells #[F1, F2] 90)) ⟨r1.alloc _, r2.alloc _, RowAt.new w _ _⟩ h1 (by have := r2.lt; omega) ⟨hn1.1, hn1.2, by have := hx1.lt; omega⟩ ⟨hn2.1, hn2.2, by have := hx2.lt; omega⟩
    (num_field hs hm1 (hF1.keep hk0 hX) (hx1.alloc _) ho1)
    (fun _ w' hk hr => num_field hs hm2 ((hF2.keep hk0 hX).keep hk hX) (hk.row (hx2.alloc _) (by simp; exact ⟨fun e => h12 e.symm, hn2.2⟩)) ho2)
  refine h.mono ?_
  rintro e w' ⟨er, a', rfl, rfl, hk, hp⟩
  exact ⟨_, a', rfl, rfl, hk, fun h => ⟨(hp h).1, (hp h).2.1, (hp h).2.2.1, (hp h).2.2.2 h12⟩⟩

/-- The checksum, then the rest. -/
theorem readSum_any {s : ByteArray} {gs ga a B x : Nat} {w : World} {F2 : Value} (h1 : gs ≠ ga) (hE : Sd.Env w) (hs : s.size ≤ 140737488351232) (ha : a ≤ s.size) (r1 : RowAt w gs 9 #[.string s]) (r2 : RowAt w ga 3 #[.int .i64 a])
    (hF : RestF B w F2 x 0) (hB : ga < B) (hx : x ≠ gs ∧ x ≠ ga) (hu : RowAt w x 9 #[.string ⟨#[]⟩]) :
    Calls Tryd.prog 72 #[.slice (some ⟨w.heap.size, 0, none⟩) 2 2, .pointer (some ⟨gs, 0, none⟩), .pointer (some ⟨ga, 0, none⟩)] (w.alloc (.cells #[.func (.func 53) #[] #[], F2] 90)) (QF (RdR ga s.size (rS s.data.toList a).2 [x, ga] (w.alloc (.cells #[.func (.func 53) #[] #[], F2] 90)) fun w' => RowAt w' x 9 #[.string (s.extract (a + 4) s.size)])) :=
  read2_sum (B := B) ⟨r1.alloc _, r2.alloc _, RowAt.new w _ _⟩ h1 (by have := r2.lt; omega) (hE.below (ba w _)) hs ha ⟨hx.1, hx.2, by have := hu.lt; omega⟩ (hF.keep (X := []) ((Kp.refl _ w).alloc _) (by simp)) hB (hu.alloc _)

set_option maxRecDepth 100000 in
set_option maxHeartbeats 8000000 in
theorem readHead_any (s : ByteArray) (w : World) (hEn : Sd.Env w) (hs : s.size ≤ 140737488351232) :
    Calls Tryd.prog 26 #[.string s] w (HdR s.data.toList w) := by
  have hsl := size_len s
  have RB := Lib.hid (RowAt.new w 61 #[.slice none 0 0, .int .i64 0, .slice none 0 0])
  have KB := Lib.hid (ba w (.cells #[.slice none 0 0, .int .i64 0, .slice none 0 0] 61))
  have CS := Lib.hid (fun W => checkStart_any s W hs)
  by_cases h0 : stE s.data.toList = 0
  case neg =>
    have HBAD := Lib.hid (rd_0 h0)
    obtain ⟨e0, he0⟩ : ∃ e0, stE s.data.toList = e0 := ⟨_, rfl⟩
    rw [he0] at CS h0 HBAD
    have h0' : ((e0 : Int) != 0) = true := by simp; omega
    clear he0 hsl
    go_enter Tryd.func26, Tryd.ntmps26
    go_wp2_with (first
      | (go_at_call 48; go_must (refine (CS.out _).mono ?_; rintro e w1 ⟨rfl, rfl⟩))
      | (refine wpList_store_at (B := w.heap.size) RB.out (Nat.le_refl _) #[.slice none 0 0, .int .i64 0, .slice none 0 0] (.tmp 2) _ 61 rfl rfl rfl rfl (by kernel_rfl) rfl rfl ?_; intro wz rz bz)
      | fail)
    have z0 : wz.cell? ⟨w.heap.size, 0, none⟩ = some (.slice none 0 0) := rz.cell 0
    have z1 : wz.cell? ⟨w.heap.size, 1, none⟩ = some (.int .i64 0) := rz.cell 1
    have z2 : wz.cell? ⟨w.heap.size, 2, none⟩ = some (.slice none 0 0) := rz.cell 2
    refine bodyPost_ret (v := .tuple #[.agg #[.slice none 0 0, .int .i64 0, .slice none 0 0], .int .i64 e0]) (by simp [results, Tryd.results26, go_sem, z0, z1, z2]) rfl ?_
    exact HdR.bad HBAD.out (KB.out.trans bz)
  rw [h0] at CS
  obtain ⟨gs, hgs⟩ : ∃ gs, w.heap.size + 1 = gs := ⟨_, rfl⟩
  obtain ⟨ga, hga⟩ : ∃ ga, w.heap.size + 1 + 1 = ga := ⟨_, rfl⟩
  have CRD : Hid (Calls Tryd.prog 49 #[.string s, .int .i64 3] (w.alloc (.cells #[.slice none 0 0, .int .i64 0, .slice none 0 0] 61)) (fun e w2 => e = .returned (.func (.func 72) #[] #[.pointer (some ⟨gs, 0, none⟩), .pointer (some ⟨ga, 0, none⟩)]) ∧ RowAt w2 gs 9 #[.string s] ∧ RowAt w2 ga 3 #[.int .i64 3] ∧ Below (w.alloc (.cells #[.slice none 0 0, .int .i64 0, .slice none 0 0] 61)).heap.size (w.alloc (.cells #[.slice none 0 0, .int .i64 0, .slice none 0 0] 61)) w2)) := Lib.hid (by
    refine (reader_any s 3 _).mono ?_
    rintro e w2 ⟨F, rfl, ⟨_, _, _, rfl, r1, r2⟩, b⟩
    rw [World.size_alloc, hgs] at r1
    rw [World.size_alloc, hga] at r2
    exact ⟨by rw [World.size_alloc, hgs, ← hga, ← hgs], r1, r2, b⟩)
  have O1 : w.heap.size < gs := by omega
  have O2 : gs < ga := by omega
  have hne : gs ≠ ga := by omega
  have NB0 : w.heap.size ≤ ga := by omega
  have h3l := (rH_st h0).2
  have CN := Lib.hid (fun W (r1 : RowAt W gs 9 #[.string s]) (r2 : RowAt W ga 3 #[.int .i64 3]) => readNames_any s gs ga 3 W hs hne r1 r2)
  obtain ⟨⟨N, a1, e1⟩, h1⟩ : ∃ p, rNm s.data.toList 3 = p := ⟨_, rfl⟩
  rw [h1] at CN
  by_cases c1 : e1 = 0
  case neg =>
    have HBAD := Lib.hid (rd_1 h0 h1 c1)
    have c1' : ((e1 : Int) != 0) = true := by simp; omega
    clear h1 h0 hsl hgs hga h3l
    go_enter Tryd.func26, Tryd.ntmps26
    go_wp2_with (first
      | (go_at_call 48; go_must (refine (CS.out _).mono ?_; rintro e w1 ⟨rfl, rfl⟩))
      | (go_at_call 49; go_must (refine CRD.out.mono ?_; rintro e w2 ⟨rfl, hS, hA, hb⟩; replace RB := Lib.hid (RB.out.keep hb); replace KB := Lib.hid (KB.out.trans (hb.mono KB.out.size)); have RS := Lib.hid hS; have RA := Lib.hid hA; clear hS hA hb CRD))
      | (go_at_call 50; go_must (refine (CN.out _ RS.out RA.out).mono ?_; rintro e w3 ⟨vN, er, rfl, hE, hK, hP⟩; obtain rfl : er = e1 := hE; replace RB := Lib.hid (hK.row RB.out (by simp; omega)); replace KB := Lib.hid (KB.out.trans (hK.below (B := w.heap.size) (by simp; omega) KB.out.size)); clear hK hP CN))
      | (refine wpList_store_at (B := w.heap.size) RB.out (Nat.le_refl _) #[.slice none 0 0, .int .i64 0, .slice none 0 0] (.tmp 2) _ 61 rfl rfl rfl rfl (by kernel_rfl) rfl rfl ?_; intro wz rz bz)
      | fail)
    have z0 : wz.cell? ⟨w.heap.size, 0, none⟩ = some (.slice none 0 0) := rz.cell 0
    have z1 : wz.cell? ⟨w.heap.size, 1, none⟩ = some (.int .i64 0) := rz.cell 1
    have z2 : wz.cell? ⟨w.heap.size, 2, none⟩ = some (.slice none 0 0) := rz.cell 2
    refine bodyPost_ret (v := .tuple #[.agg #[.slice none 0 0, .int .i64 0, .slice none 0 0], .int .i64 er]) (by simp [results, Tryd.results26, go_sem, z0, z1, z2]) rfl ?_
    exact HdR.bad HBAD.out (KB.out.trans bz)
  subst c1
  have hN := rNm_le h1 h3l
  obtain ⟨⟨R, a2, e2⟩, h2⟩ : ∃ p, rN s.data.toList a1 262144 = p := ⟨_, rfl⟩
  obtain ⟨⟨T, a3, e3⟩, h3⟩ : ∃ p, rN s.data.toList a2 1099511627776 = p := ⟨_, rfl⟩
  obtain ⟨e23, h23⟩ : ∃ e, (if e2 = 0 then e3 else e2) = e := ⟨_, rfl⟩
  have CRR : Hid (∀ (W : World) {w3 : World} {nA : Option Addr} {nn nc B : Nat} {F1 F2 : Value}, NumF B W F1 (w3.heap.size + 1) 0 262144 → NumF B W F2 w3.heap.size 1 1099511627776 → RowAt W gs 9 #[.string s] → RowAt W ga 3 #[.int .i64 a1] → RowAt W (w3.heap.size + 1) 3 #[.int .i64 0] → RowAt W w3.heap.size 61 #[.slice nA nn nc, .int .i64 0, .slice none 0 0] → ga < w3.heap.size → w3.heap.size < w3.heap.size + 1 → w3.heap.size + 1 < B →
      Calls Tryd.prog 72 #[.slice (some ⟨W.heap.size, 0, none⟩) 2 2, .pointer (some ⟨gs, 0, none⟩), .pointer (some ⟨ga, 0, none⟩)] (W.alloc (.cells #[F1, F2] 90)) (QF (RdR ga a3 e23 [w3.heap.size + 1, w3.heap.size, ga] (W.alloc (.cells #[F1, F2] 90)) fun w' => RowAt w' w3.heap.size 61 #[.slice nA nn nc, .int .i64 T, .slice none 0 0] ∧ RowAt w' (w3.heap.size + 1) 3 #[.int .i64 R]))) := Lib.hid (fun W {w3 nA nn nc B F1 F2} f1 f2 q1 q2 q3 q4 o1 o2 o3 => by
    have h := readNN_any (by omega) (by decide) (by decide) hne q1 q2 f1 f2 q3 q4 (by simp) (by simp) ⟨by omega, by omega⟩ ⟨by omega, by omega⟩ (by omega) o3 (by omega)
    rw [h2] at h
    simp only [] at h
    rw [h3] at h
    simp only [h23] at h
    exact h)
  by_cases c23 : e23 = 0
  case neg =>
    have HBAD := Lib.hid (show rd s.data.toList = (noH, e23) by
      by_cases c2 : e2 = 0
      · subst c2; rw [if_pos rfl] at h23; subst h23; exact rd_3 h0 h1 h2 h3 c23
      · rw [if_neg c2] at h23; subst h23; exact rd_2 h0 h1 h2 c2)
    have c23' : ((e23 : Int) != 0) = true := by simp; omega
    clear h1 h0 h2 h3 hsl hgs hga h3l hN h23
    go_enter Tryd.func26, Tryd.ntmps26
    go_wp2_with (first
      | (go_at_call 48; go_must (refine (CS.out _).mono ?_; rintro e w1 ⟨rfl, rfl⟩))
      | (go_at_call 49; go_must (refine CRD.out.mono ?_; rintro e w2 ⟨rfl, hS, hA, hb⟩; replace RB := Lib.hid (RB.out.keep hb); replace KB := Lib.hid (KB.out.trans (hb.mono KB.out.size)); have RS := Lib.hid hS; have RA := Lib.hid hA; clear hS hA hb CRD))
      | (go_at_call 50; go_must (refine (CN.out _ RS.out RA.out).mono ?_; rintro e w3 ⟨vN, er, rfl, hE, hK, hP⟩; obtain rfl : er = 0 := hE; replace RB := Lib.hid (hK.row RB.out (by simp; omega)); replace KB := Lib.hid (KB.out.trans (hK.below (B := w.heap.size) (by simp; omega) KB.out.size)); replace RS := Lib.hid (hK.row RS.out (by simp; omega)); have ON := Lib.hid (fun g (hg : vN.ownBlock = some g) => And.intro (Nat.lt_of_lt_of_le RA.out.lt ((hP rfl).1.lt g hg).1) ((hP rfl).1.lt g hg).2); have NR := Lib.hid (KRow.mono (hP rfl).1 (show w.heap.size ≤ w2.heap.size by have := RA.out.lt; omega)); replace RA := Lib.hid (hP rfl).2; obtain ⟨nA, nn, nc, rfl, hnn⟩ := KRow.form (hP rfl).1; have HNN := Lib.hid hnn; have O3 : ga < w3.heap.size := RA.out.lt; clear hnn; clear hK hP CN))
      | (go_at_call 51; go_must (first | (have tok := T1.out; refine (number_any _ _ _ _).mono ?_; rintro e w5 ⟨F2, rfl, hF2, b5⟩; have B5 := Lib.hid (B4.out.trans (b5.mono B4.out.size)); have CR5 := Lib.hid (CRR.out w5 (HF1.out.keep (X := []) (Kp.of_below b5) (by simp)) (hF2.mono B4.out.size) (((RS.out.alloc _).alloc _).keep B5.out) (((RA.out.alloc _).alloc _).keep B5.out) (RowAt.keep (RowAt.at (by rw [World.size_alloc])) B5.out) (((RowAt.new w3 _ _).alloc _).keep B5.out) O3 (Nat.lt_succ_self _) (by rw [World.size_alloc, World.size_alloc]; omega)); replace RB := Lib.hid (((RB.out.alloc _).alloc _).keep B5.out); replace RS := Lib.hid (((RS.out.alloc _).alloc _).keep B5.out); replace NR := Lib.hid (KRow.keep (KRow.alloc (KRow.alloc NR.out _) _) B5.out); replace KB := Lib.hid (((KB.out.alloc KB.out.size _).alloc (le_alloc KB.out.size _) _).trans (B5.out.mono (le_alloc (le_alloc KB.out.size _) _))); obtain ⟨p3, p4, _, _, rfl, _, _⟩ := hF2; clear T1 HF1 b5 B4 B5 CRR RA) | (refine (number_any _ _ _ _).mono ?_; rintro e w4 ⟨F1, rfl, hF1, b4⟩; have T1 := Lib.hid trivial; have B4 := Lib.hid (show Below ((w3.alloc (.cells #[.slice nA nn nc, .int .i64 0, .slice none 0 0] 61)).alloc (.cells #[.int .i64 0] 3)).heap.size ((w3.alloc (.cells #[.slice nA nn nc, .int .i64 0, .slice none 0 0] 61)).alloc (.cells #[.int .i64 0] 3)) w4 from b4); have HF1 := Lib.hid (show NumF ((w3.alloc (.cells #[.slice nA nn nc, .int .i64 0, .slice none 0 0] 61)).alloc (.cells #[.int .i64 0] 3)).heap.size w4 F1 (w3.heap.size + 1) 0 262144 from hF1); obtain ⟨p1, p2, _, _, rfl, _, _⟩ := hF1; clear b4)))
      | (go_at_call 72; go_must (refine CR5.out.mono ?_; rintro e w6 ⟨er, a6, rfl, hE, hK, hP⟩; obtain rfl : er = e23 := hE; replace RB := Lib.hid (hK.row (RB.out.alloc _) (by simp; omega)); replace KB := Lib.hid ((KB.out.alloc KB.out.size _).trans (hK.below (B := w.heap.size) (by simp; omega) (le_alloc KB.out.size _))); clear hK hP CR5))
      | (refine wpList_store_at (B := w.heap.size) RB.out (Nat.le_refl _) #[.slice none 0 0, .int .i64 0, .slice none 0 0] (.tmp 2) _ 61 rfl rfl rfl rfl (by kernel_rfl) rfl rfl ?_; intro wz rz bz)
      | fail)
    have z0 : wz.cell? ⟨w.heap.size, 0, none⟩ = some (.slice none 0 0) := rz.cell 0
    have z1 : wz.cell? ⟨w.heap.size, 1, none⟩ = some (.int .i64 0) := rz.cell 1
    have z2 : wz.cell? ⟨w.heap.size, 2, none⟩ = some (.slice none 0 0) := rz.cell 2
    refine bodyPost_ret (v := .tuple #[.agg #[.slice none 0 0, .int .i64 0, .slice none 0 0], .int .i64 er]) (by simp [results, Tryd.results26, go_sem, z0, z1, z2]) rfl ?_
    exact HdR.bad HBAD.out (KB.out.trans bz)
  subst c23
  have c2 : e2 = 0 := by
    by_cases c2 : e2 = 0
    · exact c2
    · rw [if_neg c2] at h23; exact h23
  subst c2
  have c3 : e3 = 0 := by rw [if_pos rfl] at h23; exact h23
  subst c3
  clear h23
  have hR : R ≤ 262144 := by have := (rN_le s.data.toList a1 262144).1; rw [h2] at this; exact this
  have hT : T ≤ 1099511627776 := by have := (rN_le s.data.toList a2 1099511627776).1; rw [h3] at this; exact this
  have ha2 : a2 ≤ s.data.toList.length := by have := rN_next s.data.toList a1 262144 hN.1; rw [h2] at this; exact this
  have ha3 : a3 ≤ s.data.toList.length := by have := rN_next s.data.toList a2 1099511627776 ha2; rw [h3] at this; exact this
  have CT := Lib.hid (fun W (r1 : RowAt W gs 9 #[.string s]) (r2 : RowAt W ga 3 #[.int .i64 a3]) => readTable_any s gs ga a3 R W hs hne r1 r2 (by omega) hR)
  obtain ⟨⟨E, a4, e4⟩, h4⟩ : ∃ p, tbE s.data.toList R a3 = p := ⟨_, rfl⟩
  rw [h4] at CT
  by_cases c4 : e4 = 0
  case neg =>
    have HBAD := Lib.hid (rd_4 h0 h1 h2 h3 h4 c4)
    have c4' : ((e4 : Int) != 0) = true := by simp; omega
    clear h1 h0 h2 h3 hsl hgs hga h3l hN h4 ha2 ha3 hR hT
    go_enter Tryd.func26, Tryd.ntmps26
    go_wp2_with (first
      | (go_at_call 48; go_must (refine (CS.out _).mono ?_; rintro e w1 ⟨rfl, rfl⟩))
      | (go_at_call 49; go_must (refine CRD.out.mono ?_; rintro e w2 ⟨rfl, hS, hA, hb⟩; replace RB := Lib.hid (RB.out.keep hb); replace KB := Lib.hid (KB.out.trans (hb.mono KB.out.size)); have RS := Lib.hid hS; have RA := Lib.hid hA; clear hS hA hb CRD))
      | (go_at_call 50; go_must (refine (CN.out _ RS.out RA.out).mono ?_; rintro e w3 ⟨vN, er, rfl, hE, hK, hP⟩; obtain rfl : er = 0 := hE; replace RB := Lib.hid (hK.row RB.out (by simp; omega)); replace KB := Lib.hid (KB.out.trans (hK.below (B := w.heap.size) (by simp; omega) KB.out.size)); replace RS := Lib.hid (hK.row RS.out (by simp; omega)); have ON := Lib.hid (fun g (hg : vN.ownBlock = some g) => And.intro (Nat.lt_of_lt_of_le RA.out.lt ((hP rfl).1.lt g hg).1) ((hP rfl).1.lt g hg).2); have NR := Lib.hid (KRow.mono (hP rfl).1 (show w.heap.size ≤ w2.heap.size by have := RA.out.lt; omega)); replace RA := Lib.hid (hP rfl).2; obtain ⟨nA, nn, nc, rfl, hnn⟩ := KRow.form (hP rfl).1; have HNN := Lib.hid hnn; have O3 : ga < w3.heap.size := RA.out.lt; clear hnn; clear hK hP CN))
      | (go_at_call 51; go_must (first | (have tok := T1.out; refine (number_any _ _ _ _).mono ?_; rintro e w5 ⟨F2, rfl, hF2, b5⟩; have B5 := Lib.hid (B4.out.trans (b5.mono B4.out.size)); have CR5 := Lib.hid (CRR.out w5 (HF1.out.keep (X := []) (Kp.of_below b5) (by simp)) (hF2.mono B4.out.size) (((RS.out.alloc _).alloc _).keep B5.out) (((RA.out.alloc _).alloc _).keep B5.out) (RowAt.keep (RowAt.at (by rw [World.size_alloc])) B5.out) (((RowAt.new w3 _ _).alloc _).keep B5.out) O3 (Nat.lt_succ_self _) (by rw [World.size_alloc, World.size_alloc]; omega)); replace RB := Lib.hid (((RB.out.alloc _).alloc _).keep B5.out); replace RS := Lib.hid (((RS.out.alloc _).alloc _).keep B5.out); replace NR := Lib.hid (KRow.keep (KRow.alloc (KRow.alloc NR.out _) _) B5.out); replace KB := Lib.hid (((KB.out.alloc KB.out.size _).alloc (le_alloc KB.out.size _) _).trans (B5.out.mono (le_alloc (le_alloc KB.out.size _) _))); obtain ⟨p3, p4, _, _, rfl, _, _⟩ := hF2; clear T1 HF1 b5 B4 B5 CRR RA) | (refine (number_any _ _ _ _).mono ?_; rintro e w4 ⟨F1, rfl, hF1, b4⟩; have T1 := Lib.hid trivial; have B4 := Lib.hid (show Below ((w3.alloc (.cells #[.slice nA nn nc, .int .i64 0, .slice none 0 0] 61)).alloc (.cells #[.int .i64 0] 3)).heap.size ((w3.alloc (.cells #[.slice nA nn nc, .int .i64 0, .slice none 0 0] 61)).alloc (.cells #[.int .i64 0] 3)) w4 from b4); have HF1 := Lib.hid (show NumF ((w3.alloc (.cells #[.slice nA nn nc, .int .i64 0, .slice none 0 0] 61)).alloc (.cells #[.int .i64 0] 3)).heap.size w4 F1 (w3.heap.size + 1) 0 262144 from hF1); obtain ⟨p1, p2, _, _, rfl, _, _⟩ := hF1; clear b4)))
      | (go_at_call 72; go_must (refine CR5.out.mono ?_; rintro e w6 ⟨er, a6, rfl, hE, hK, hP⟩; obtain rfl : er = 0 := hE; replace RB := Lib.hid (hK.row (RB.out.alloc _) (by simp; omega)); replace KB := Lib.hid ((KB.out.alloc KB.out.size _).trans (hK.below (B := w.heap.size) (by simp; omega) (le_alloc KB.out.size _))); replace RS := Lib.hid (hK.row (RS.out.alloc _) (by simp; omega)); replace NR := Lib.hid (KRow.kp (KRow.alloc NR.out _) hK (fun g hg => by have := ON.out g hg; simp; omega)); have RA := Lib.hid (hP rfl).2.1; have RH := Lib.hid (hP rfl).2.2.1; have RU := Lib.hid (hP rfl).2.2.2; have u0 := (hP rfl).2.2.2.get1; have O4 : w3.heap.size + 1 < w6.heap.size := (hP rfl).2.2.2.lt; clear hK hP CR5))
      | (go_at_call 52; go_must (refine (CT.out _ RS.out RA.out).mono ?_; rintro e w7 ⟨vP, er, rfl, ⟨pA, pn, pc, rfl⟩, hE, hK, hP⟩; obtain rfl : er = e4 := hE; replace RB := Lib.hid (hK.row RB.out (by simp; omega)); replace KB := Lib.hid (KB.out.trans (hK.below (B := w.heap.size) (by simp; omega) KB.out.size)); replace RH := Lib.hid (hK.row RH.out (by simp; omega)); have v0 : w7.cell? ⟨w3.heap.size, 2, none⟩ = some (.slice none 0 0) := RH.out.cell 2; have v1 : w7.frozen? ⟨w3.heap.size, 2, none⟩ = false := RH.out.frozen 2; replace RB := Lib.hid (RB.out.other ⟨w3.heap.size, 2, none⟩ (.slice pA pn pc) (by show ¬ w3.heap.size = w.heap.size; omega)); replace KB := Lib.hid (KB.out.setCell (p := ⟨w3.heap.size, 2, none⟩) (by show w.heap.size ≤ w3.heap.size; omega) (.slice pA pn pc)); clear hK hP CT u0))
      | (refine wpList_store_at (B := w.heap.size) RB.out (Nat.le_refl _) #[.slice none 0 0, .int .i64 0, .slice none 0 0] (.tmp 2) _ 61 rfl rfl rfl rfl (by kernel_rfl) rfl rfl ?_; intro wz rz bz)
      | fail)
    have z0 : wz.cell? ⟨w.heap.size, 0, none⟩ = some (.slice none 0 0) := rz.cell 0
    have z1 : wz.cell? ⟨w.heap.size, 1, none⟩ = some (.int .i64 0) := rz.cell 1
    have z2 : wz.cell? ⟨w.heap.size, 2, none⟩ = some (.slice none 0 0) := rz.cell 2
    refine bodyPost_ret (v := .tuple #[.agg #[.slice none 0 0, .int .i64 0, .slice none 0 0], .int .i64 er]) (by simp [results, Tryd.results26, go_sem, z0, z1, z2]) rfl ?_
    exact HdR.bad HBAD.out (KB.out.trans bz)
  subst c4
  obtain ⟨ha4, hEl, hEok⟩ := tbE_le h4
  have CRE := Lib.hid (fun x W => rest_any x 0 W)
  obtain ⟨e5, h5⟩ : ∃ e, (rS s.data.toList a4).2 = e := ⟨_, rfl⟩
  have CRS : Hid (∀ (W : World) (F2 : Value) {B x : Nat}, RestF B W F2 x 0 → RowAt W gs 9 #[.string s] → RowAt W ga 3 #[.int .i64 a4] → RowAt W x 9 #[.string ⟨#[]⟩] → Below w.heap.size w W → ga < x → x < B →
      Calls Tryd.prog 72 #[.slice (some ⟨W.heap.size, 0, none⟩) 2 2, .pointer (some ⟨gs, 0, none⟩), .pointer (some ⟨ga, 0, none⟩)] (W.alloc (.cells #[.func (.func 53) #[] #[], F2] 90)) (QF (RdR ga s.size e5 [x, ga] (W.alloc (.cells #[.func (.func 53) #[] #[], F2] 90)) fun w' => RowAt w' x 9 #[.string (s.extract (a4 + 4) s.size)]))) := Lib.hid (fun W F2 {B x} f q1 q2 q3 kb o1 o2 => by
    have h := readSum_any hne (hEn.below kb) hs (by omega) q1 q2 f (by omega) ⟨by omega, by omega⟩ q3
    rw [h5] at h
    exact h)
  by_cases c5 : e5 = 0
  case neg =>
    have HBAD := Lib.hid (show rd s.data.toList = (noH, e5) by have := rd_5 h0 h1 h2 h3 h4 (by rw [h5]; exact c5); rw [h5] at this; exact this)
    have c5' : ((e5 : Int) != 0) = true := by simp; omega
    clear h1 h0 h2 h3 hsl hgs hga h3l hN h4 ha2 ha3 hR hT ha4 hEl hEok h5
    go_enter Tryd.func26, Tryd.ntmps26
    go_wp2_with (first
      | (go_at_call 48; go_must (refine (CS.out _).mono ?_; rintro e w1 ⟨rfl, rfl⟩))
      | (go_at_call 49; go_must (refine CRD.out.mono ?_; rintro e w2 ⟨rfl, hS, hA, hb⟩; replace RB := Lib.hid (RB.out.keep hb); replace KB := Lib.hid (KB.out.trans (hb.mono KB.out.size)); have RS := Lib.hid hS; have RA := Lib.hid hA; clear hS hA hb CRD))
      | (go_at_call 50; go_must (refine (CN.out _ RS.out RA.out).mono ?_; rintro e w3 ⟨vN, er, rfl, hE, hK, hP⟩; obtain rfl : er = 0 := hE; replace RB := Lib.hid (hK.row RB.out (by simp; omega)); replace KB := Lib.hid (KB.out.trans (hK.below (B := w.heap.size) (by simp; omega) KB.out.size)); replace RS := Lib.hid (hK.row RS.out (by simp; omega)); have ON := Lib.hid (fun g (hg : vN.ownBlock = some g) => And.intro (Nat.lt_of_lt_of_le RA.out.lt ((hP rfl).1.lt g hg).1) ((hP rfl).1.lt g hg).2); have NR := Lib.hid (KRow.mono (hP rfl).1 (show w.heap.size ≤ w2.heap.size by have := RA.out.lt; omega)); replace RA := Lib.hid (hP rfl).2; obtain ⟨nA, nn, nc, rfl, hnn⟩ := KRow.form (hP rfl).1; have HNN := Lib.hid hnn; have O3 : ga < w3.heap.size := RA.out.lt; clear hnn; clear hK hP CN))
      | (go_at_call 51; go_must (first | (have tok := T1.out; refine (number_any _ _ _ _).mono ?_; rintro e w5 ⟨F2, rfl, hF2, b5⟩; have B5 := Lib.hid (B4.out.trans (b5.mono B4.out.size)); have CR5 := Lib.hid (CRR.out w5 (HF1.out.keep (X := []) (Kp.of_below b5) (by simp)) (hF2.mono B4.out.size) (((RS.out.alloc _).alloc _).keep B5.out) (((RA.out.alloc _).alloc _).keep B5.out) (RowAt.keep (RowAt.at (by rw [World.size_alloc])) B5.out) (((RowAt.new w3 _ _).alloc _).keep B5.out) O3 (Nat.lt_succ_self _) (by rw [World.size_alloc, World.size_alloc]; omega)); replace RB := Lib.hid (((RB.out.alloc _).alloc _).keep B5.out); replace RS := Lib.hid (((RS.out.alloc _).alloc _).keep B5.out); replace NR := Lib.hid (KRow.keep (KRow.alloc (KRow.alloc NR.out _) _) B5.out); replace KB := Lib.hid (((KB.out.alloc KB.out.size _).alloc (le_alloc KB.out.size _) _).trans (B5.out.mono (le_alloc (le_alloc KB.out.size _) _))); obtain ⟨p3, p4, _, _, rfl, _, _⟩ := hF2; clear T1 HF1 b5 B4 B5 CRR RA) | (refine (number_any _ _ _ _).mono ?_; rintro e w4 ⟨F1, rfl, hF1, b4⟩; have T1 := Lib.hid trivial; have B4 := Lib.hid (show Below ((w3.alloc (.cells #[.slice nA nn nc, .int .i64 0, .slice none 0 0] 61)).alloc (.cells #[.int .i64 0] 3)).heap.size ((w3.alloc (.cells #[.slice nA nn nc, .int .i64 0, .slice none 0 0] 61)).alloc (.cells #[.int .i64 0] 3)) w4 from b4); have HF1 := Lib.hid (show NumF ((w3.alloc (.cells #[.slice nA nn nc, .int .i64 0, .slice none 0 0] 61)).alloc (.cells #[.int .i64 0] 3)).heap.size w4 F1 (w3.heap.size + 1) 0 262144 from hF1); obtain ⟨p1, p2, _, _, rfl, _, _⟩ := hF1; clear b4)))
      | (go_at_call 52; go_must (refine (CT.out _ RS.out RA.out).mono ?_; rintro e w7 ⟨vP, er, rfl, ⟨pA, pn, pc, rfl⟩, hE, hK, hP⟩; obtain rfl : er = 0 := hE; replace RB := Lib.hid (hK.row RB.out (by simp; omega)); replace KB := Lib.hid (KB.out.trans (hK.below (B := w.heap.size) (by simp; omega) KB.out.size)); replace RH := Lib.hid (hK.row RH.out (by simp; omega)); have v0 : w7.cell? ⟨w3.heap.size, 2, none⟩ = some (.slice none 0 0) := RH.out.cell 2; have v1 : w7.frozen? ⟨w3.heap.size, 2, none⟩ = false := RH.out.frozen 2; replace RS := Lib.hid (hK.row RS.out (by simp; omega)); replace NR := Lib.hid (KRow.kp NR.out hK (fun g hg => by have := ON.out g hg; simp; omega)); have OP := Lib.hid (fun g (hg : (Value.slice pA pn pc).ownBlock = some g) => And.intro (Nat.lt_of_lt_of_le O4 (KRow.lt (hP rfl).1 g hg).1) (KRow.lt (hP rfl).1 g hg).2); have PR := Lib.hid (KRow.mono (hP rfl).1 (show w.heap.size ≤ w6.heap.size by omega)); have RA2 := Lib.hid (hP rfl).2; have O5 : w6.heap.size ≤ w7.heap.size := hK.size; replace RH := Lib.hid (RowAt.set RH.out 2 (.slice pA pn pc)); replace RB := Lib.hid (RB.out.other ⟨w3.heap.size, 2, none⟩ (.slice pA pn pc) (by show ¬ w3.heap.size = w.heap.size; omega)); replace KB := Lib.hid (KB.out.setCell (p := ⟨w3.heap.size, 2, none⟩) (by show w.heap.size ≤ w3.heap.size; omega) (.slice pA pn pc)); replace RS := Lib.hid (RS.out.other ⟨w3.heap.size, 2, none⟩ (.slice pA pn pc) (by show ¬ w3.heap.size = gs; omega)); have RA := Lib.hid (RA2.out.other ⟨w3.heap.size, 2, none⟩ (.slice pA pn pc) (by show ¬ w3.heap.size = ga; omega)); replace NR := Lib.hid (KRow.kp NR.out (Kp.setCell (p := ⟨w3.heap.size, 2, none⟩) (Kp.refl [w3.heap.size] _) (.inl (by simp)) (.slice pA pn pc)) (fun g hg => by have := ON.out g hg; simp; omega)); replace PR := Lib.hid (KRow.kp PR.out (Kp.setCell (p := ⟨w3.heap.size, 2, none⟩) (Kp.refl [w3.heap.size] _) (.inl (by simp)) (.slice pA pn pc)) (fun g hg => by have := OP.out g hg; simp; omega)); clear RA2; clear hK hP CT u0))
      | (go_at_call 54; go_must (refine (CRE.out w7.heap.size ((w7.setCell ⟨w3.heap.size, 2, none⟩ (.slice pA pn pc)).alloc (.cells #[.string ⟨#[]⟩] 9))).mono ?_; rintro e w8 ⟨F3, rfl, hF3, b8⟩; have B8 := Lib.hid b8; replace RB := Lib.hid ((RB.out.alloc _).keep b8); replace RS := Lib.hid ((RS.out.alloc _).keep b8); replace RA := Lib.hid ((RA.out.alloc _).keep b8); replace RH := Lib.hid ((RH.out.alloc _).keep b8); replace NR := Lib.hid (KRow.keep (KRow.alloc NR.out _) b8); replace PR := Lib.hid (KRow.keep (KRow.alloc PR.out _) b8); replace KB := Lib.hid ((KB.out.alloc KB.out.size _).trans (b8.mono (le_alloc KB.out.size _))); have RY := Lib.hid (RowAt.keep (RowAt.at (b := w7.heap.size) (by rw [World.size_setCell])) b8); have CR8 := Lib.hid (CRS.out w8 _ hF3 RS.out RA.out RY.out KB.out (by omega) (by rw [World.size_alloc, World.size_setCell]; omega)); obtain ⟨p5, _, rfl, _⟩ := hF3; clear b8 CRS CRE))
      | (go_at_call 72; go_must (first | (refine CR8.out.mono ?_; rintro e w9 ⟨er, a9, rfl, hE, hK, hP⟩; obtain rfl : er = e5 := hE; replace RB := Lib.hid (hK.row (RB.out.alloc _) (by simp; omega)); replace KB := Lib.hid ((KB.out.alloc KB.out.size _).trans (hK.below (B := w.heap.size) (by simp; omega) (le_alloc KB.out.size _))); clear hK hP CR8) | (refine CR5.out.mono ?_; rintro e w6 ⟨er, a6, rfl, hE, hK, hP⟩; obtain rfl : er = 0 := hE; replace RB := Lib.hid (hK.row (RB.out.alloc _) (by simp; omega)); replace KB := Lib.hid ((KB.out.alloc KB.out.size _).trans (hK.below (B := w.heap.size) (by simp; omega) (le_alloc KB.out.size _))); replace RS := Lib.hid (hK.row (RS.out.alloc _) (by simp; omega)); replace NR := Lib.hid (KRow.kp (KRow.alloc NR.out _) hK (fun g hg => by have := ON.out g hg; simp; omega)); have RA := Lib.hid (hP rfl).2.1; have RH := Lib.hid (hP rfl).2.2.1; have RU := Lib.hid (hP rfl).2.2.2; have u0 := (hP rfl).2.2.2.get1; have O4 : w3.heap.size + 1 < w6.heap.size := (hP rfl).2.2.2.lt; clear hK hP CR5)))
      | (refine wpList_store_at (B := w.heap.size) RB.out (Nat.le_refl _) #[.slice none 0 0, .int .i64 0, .slice none 0 0] (.tmp 2) _ 61 rfl rfl rfl rfl (by kernel_rfl) rfl rfl ?_; intro wz rz bz)
      | fail)
    have z0 : wz.cell? ⟨w.heap.size, 0, none⟩ = some (.slice none 0 0) := rz.cell 0
    have z1 : wz.cell? ⟨w.heap.size, 1, none⟩ = some (.int .i64 0) := rz.cell 1
    have z2 : wz.cell? ⟨w.heap.size, 2, none⟩ = some (.slice none 0 0) := rz.cell 2
    refine bodyPost_ret (v := .tuple #[.agg #[.slice none 0 0, .int .i64 0, .slice none 0 0], .int .i64 er]) (by simp [results, Tryd.results26, go_sem, z0, z1, z2]) rfl ?_
    exact HdR.bad HBAD.out (KB.out.trans bz)
  subst c5
  have hbk : E.length ≤ 16384 := by rw [hEl]; unfold bkN; omega
  have CSE := Lib.hid (fun W vN v (hv : PtRow W w.heap.size v (ptE R E)) => setEnds_any w.heap.size R E T vN v W hv hEok hT hbk)
  by_cases c6 : asc E T
  case neg =>
    have HBAD := Lib.hid (rd_6 h0 h1 h2 h3 h4 h5 c6)
    have c6' : decide (asc E T) = false := decide_eq_false c6
    unfold SeR at CSE
    rw [c6'] at CSE
    clear h1 h0 h2 h3 hsl hgs hga h3l hN h4 ha2 ha3 hR hT ha4 hEl hEok h5 hbk c6 c6'
    go_enter Tryd.func26, Tryd.ntmps26
    go_wp2_with (first
      | (go_at_call 48; go_must (refine (CS.out _).mono ?_; rintro e w1 ⟨rfl, rfl⟩))
      | (go_at_call 49; go_must (refine CRD.out.mono ?_; rintro e w2 ⟨rfl, hS, hA, hb⟩; replace RB := Lib.hid (RB.out.keep hb); replace KB := Lib.hid (KB.out.trans (hb.mono KB.out.size)); have RS := Lib.hid hS; have RA := Lib.hid hA; clear hS hA hb CRD))
      | (go_at_call 50; go_must (refine (CN.out _ RS.out RA.out).mono ?_; rintro e w3 ⟨vN, er, rfl, hE, hK, hP⟩; obtain rfl : er = 0 := hE; replace RB := Lib.hid (hK.row RB.out (by simp; omega)); replace KB := Lib.hid (KB.out.trans (hK.below (B := w.heap.size) (by simp; omega) KB.out.size)); replace RS := Lib.hid (hK.row RS.out (by simp; omega)); have ON := Lib.hid (fun g (hg : vN.ownBlock = some g) => And.intro (Nat.lt_of_lt_of_le RA.out.lt ((hP rfl).1.lt g hg).1) ((hP rfl).1.lt g hg).2); have NR := Lib.hid (KRow.mono (hP rfl).1 (show w.heap.size ≤ w2.heap.size by have := RA.out.lt; omega)); replace RA := Lib.hid (hP rfl).2; obtain ⟨nA, nn, nc, rfl, hnn⟩ := KRow.form (hP rfl).1; have HNN := Lib.hid hnn; have O3 : ga < w3.heap.size := RA.out.lt; clear hnn; clear hK hP CN))
      | (go_at_call 51; go_must (first | (have tok := T1.out; refine (number_any _ _ _ _).mono ?_; rintro e w5 ⟨F2, rfl, hF2, b5⟩; have B5 := Lib.hid (B4.out.trans (b5.mono B4.out.size)); have CR5 := Lib.hid (CRR.out w5 (HF1.out.keep (X := []) (Kp.of_below b5) (by simp)) (hF2.mono B4.out.size) (((RS.out.alloc _).alloc _).keep B5.out) (((RA.out.alloc _).alloc _).keep B5.out) (RowAt.keep (RowAt.at (by rw [World.size_alloc])) B5.out) (((RowAt.new w3 _ _).alloc _).keep B5.out) O3 (Nat.lt_succ_self _) (by rw [World.size_alloc, World.size_alloc]; omega)); replace RB := Lib.hid (((RB.out.alloc _).alloc _).keep B5.out); replace RS := Lib.hid (((RS.out.alloc _).alloc _).keep B5.out); replace NR := Lib.hid (KRow.keep (KRow.alloc (KRow.alloc NR.out _) _) B5.out); replace KB := Lib.hid (((KB.out.alloc KB.out.size _).alloc (le_alloc KB.out.size _) _).trans (B5.out.mono (le_alloc (le_alloc KB.out.size _) _))); obtain ⟨p3, p4, _, _, rfl, _, _⟩ := hF2; clear T1 HF1 b5 B4 B5 CRR RA) | (refine (number_any _ _ _ _).mono ?_; rintro e w4 ⟨F1, rfl, hF1, b4⟩; have T1 := Lib.hid trivial; have B4 := Lib.hid (show Below ((w3.alloc (.cells #[.slice nA nn nc, .int .i64 0, .slice none 0 0] 61)).alloc (.cells #[.int .i64 0] 3)).heap.size ((w3.alloc (.cells #[.slice nA nn nc, .int .i64 0, .slice none 0 0] 61)).alloc (.cells #[.int .i64 0] 3)) w4 from b4); have HF1 := Lib.hid (show NumF ((w3.alloc (.cells #[.slice nA nn nc, .int .i64 0, .slice none 0 0] 61)).alloc (.cells #[.int .i64 0] 3)).heap.size w4 F1 (w3.heap.size + 1) 0 262144 from hF1); obtain ⟨p1, p2, _, _, rfl, _, _⟩ := hF1; clear b4)))
      | (go_at_call 52; go_must (refine (CT.out _ RS.out RA.out).mono ?_; rintro e w7 ⟨vP, er, rfl, ⟨pA, pn, pc, rfl⟩, hE, hK, hP⟩; obtain rfl : er = 0 := hE; replace RB := Lib.hid (hK.row RB.out (by simp; omega)); replace KB := Lib.hid (KB.out.trans (hK.below (B := w.heap.size) (by simp; omega) KB.out.size)); replace RH := Lib.hid (hK.row RH.out (by simp; omega)); have v0 : w7.cell? ⟨w3.heap.size, 2, none⟩ = some (.slice none 0 0) := RH.out.cell 2; have v1 : w7.frozen? ⟨w3.heap.size, 2, none⟩ = false := RH.out.frozen 2; replace RS := Lib.hid (hK.row RS.out (by simp; omega)); replace NR := Lib.hid (KRow.kp NR.out hK (fun g hg => by have := ON.out g hg; simp; omega)); have OP := Lib.hid (fun g (hg : (Value.slice pA pn pc).ownBlock = some g) => And.intro (Nat.lt_of_lt_of_le O4 (KRow.lt (hP rfl).1 g hg).1) (KRow.lt (hP rfl).1 g hg).2); have PR := Lib.hid (KRow.mono (hP rfl).1 (show w.heap.size ≤ w6.heap.size by omega)); have RA2 := Lib.hid (hP rfl).2; have O5 : w6.heap.size ≤ w7.heap.size := hK.size; replace RH := Lib.hid (RowAt.set RH.out 2 (.slice pA pn pc)); replace RB := Lib.hid (RB.out.other ⟨w3.heap.size, 2, none⟩ (.slice pA pn pc) (by show ¬ w3.heap.size = w.heap.size; omega)); replace KB := Lib.hid (KB.out.setCell (p := ⟨w3.heap.size, 2, none⟩) (by show w.heap.size ≤ w3.heap.size; omega) (.slice pA pn pc)); replace RS := Lib.hid (RS.out.other ⟨w3.heap.size, 2, none⟩ (.slice pA pn pc) (by show ¬ w3.heap.size = gs; omega)); have RA := Lib.hid (RA2.out.other ⟨w3.heap.size, 2, none⟩ (.slice pA pn pc) (by show ¬ w3.heap.size = ga; omega)); replace NR := Lib.hid (KRow.kp NR.out (Kp.setCell (p := ⟨w3.heap.size, 2, none⟩) (Kp.refl [w3.heap.size] _) (.inl (by simp)) (.slice pA pn pc)) (fun g hg => by have := ON.out g hg; simp; omega)); replace PR := Lib.hid (KRow.kp PR.out (Kp.setCell (p := ⟨w3.heap.size, 2, none⟩) (Kp.refl [w3.heap.size] _) (.inl (by simp)) (.slice pA pn pc)) (fun g hg => by have := OP.out g hg; simp; omega)); clear RA2; clear hK hP CT u0))
      | (go_at_call 54; go_must (refine (CRE.out w7.heap.size ((w7.setCell ⟨w3.heap.size, 2, none⟩ (.slice pA pn pc)).alloc (.cells #[.string ⟨#[]⟩] 9))).mono ?_; rintro e w8 ⟨F3, rfl, hF3, b8⟩; have B8 := Lib.hid b8; replace RB := Lib.hid ((RB.out.alloc _).keep b8); replace RS := Lib.hid ((RS.out.alloc _).keep b8); replace RA := Lib.hid ((RA.out.alloc _).keep b8); replace RH := Lib.hid ((RH.out.alloc _).keep b8); replace NR := Lib.hid (KRow.keep (KRow.alloc NR.out _) b8); replace PR := Lib.hid (KRow.keep (KRow.alloc PR.out _) b8); replace KB := Lib.hid ((KB.out.alloc KB.out.size _).trans (b8.mono (le_alloc KB.out.size _))); have RY := Lib.hid (RowAt.keep (RowAt.at (b := w7.heap.size) (by rw [World.size_setCell])) b8); have CR8 := Lib.hid (CRS.out w8 _ hF3 RS.out RA.out RY.out KB.out (by omega) (by rw [World.size_alloc, World.size_setCell]; omega)); obtain ⟨p5, _, rfl, _⟩ := hF3; clear b8 CRS CRE))
      | (go_at_call 72; go_must (first | (refine CR8.out.mono ?_; rintro e w9 ⟨er, a9, rfl, hE, hK, hP⟩; obtain rfl : er = 0 := hE; replace RB := Lib.hid (hK.row (RB.out.alloc _) (by simp; omega)); replace KB := Lib.hid ((KB.out.alloc KB.out.size _).trans (hK.below (B := w.heap.size) (by simp; omega) (le_alloc KB.out.size _))); replace RH := Lib.hid (hK.row (RH.out.alloc _) (by simp; omega)); replace NR := Lib.hid (KRow.kp (KRow.alloc NR.out _) hK (fun g hg => by have := ON.out g hg; simp; omega)); replace PR := Lib.hid (KRow.kp (KRow.alloc PR.out _) hK (fun g hg => by have := OP.out g hg; simp; omega)); replace RY := Lib.hid (hP rfl).2.2; have y0 := (hP rfl).2.2.get1; have h0 := RH.out.cell 0; have h1 := RH.out.cell 1; have h2 := RH.out.cell 2; simp only [List.getElem?_toArray, List.getElem?_cons_zero, List.getElem?_cons_succ, Array.size_setIfInBounds, List.setIfInBounds_toArray, List.set_cons_zero, List.set_cons_succ] at h0 h1 h2; clear hK hP CR8) | (refine CR5.out.mono ?_; rintro e w6 ⟨er, a6, rfl, hE, hK, hP⟩; obtain rfl : er = 0 := hE; replace RB := Lib.hid (hK.row (RB.out.alloc _) (by simp; omega)); replace KB := Lib.hid ((KB.out.alloc KB.out.size _).trans (hK.below (B := w.heap.size) (by simp; omega) (le_alloc KB.out.size _))); replace RS := Lib.hid (hK.row (RS.out.alloc _) (by simp; omega)); replace NR := Lib.hid (KRow.kp (KRow.alloc NR.out _) hK (fun g hg => by have := ON.out g hg; simp; omega)); have RA := Lib.hid (hP rfl).2.1; have RH := Lib.hid (hP rfl).2.2.1; have RU := Lib.hid (hP rfl).2.2.2; have u0 := (hP rfl).2.2.2.get1; have O4 : w3.heap.size + 1 < w6.heap.size := (hP rfl).2.2.2.lt; clear hK hP CR5)))
      | (go_at_call 55; go_must (refine (CSE.out _ _ _ PR.out).mono ?_; rintro e wa ⟨rfl, hk, hP⟩; have hK := hk (obX (.slice pA pn pc)) (obX_in _); replace RB := Lib.hid (hK.row RB.out (fun hm => by have := OP.out _ (obX_of hm); omega)); replace KB := Lib.hid (KB.out.trans (hK.below (B := w.heap.size) (fun k hm => by have := OP.out _ (obX_of hm); omega) KB.out.size)); clear hk hK hP CSE))
      | (refine wpList_store_at (B := w.heap.size) RB.out (Nat.le_refl _) #[.slice none 0 0, .int .i64 0, .slice none 0 0] (.tmp 2) _ 61 rfl rfl rfl rfl (by kernel_rfl) rfl rfl ?_; intro wz rz bz)
      | fail)
    have z0 : wz.cell? ⟨w.heap.size, 0, none⟩ = some (.slice none 0 0) := rz.cell 0
    have z1 : wz.cell? ⟨w.heap.size, 1, none⟩ = some (.int .i64 0) := rz.cell 1
    have z2 : wz.cell? ⟨w.heap.size, 2, none⟩ = some (.slice none 0 0) := rz.cell 2
    refine bodyPost_ret (v := .tuple #[.agg #[.slice none 0 0, .int .i64 0, .slice none 0 0], .int .i64 12]) (by simp [results, Tryd.results26, go_sem, z0, z1, z2]) rfl ?_
    exact HdR.bad HBAD.out (KB.out.trans bz)
  have HAS := Lib.hid c6
  have c6' : decide (asc E T) = true := decide_eq_true c6
  unfold SeR at CSE
  rw [c6'] at CSE
  have hLL : (s.extract (a4 + 4) s.size).data.toList = s.data.toList.drop (a4 + 4) := by
    rw [ext_list, List.take_of_length_le (by omega)]
  have CSB := Lib.hid (fun W vN v (hv : PtRow W w.heap.size v (ptM R E T 0)) => setBytes_any w.heap.size R E T (s.data.toList.drop (a4 + 4)) (s.extract (a4 + 4) s.size) hLL vN v W hv hEok hT hbk (by rw [ByteArray.size_extract]; omega))
  obtain ⟨e7, h7⟩ : ∃ e, bsE E (s.data.toList.drop (a4 + 4)) = e := ⟨_, rfl⟩
  unfold SbR at CSB
  rw [h7] at CSB
  by_cases c7 : e7 = 0
  case neg =>
    have HBAD := Lib.hid (show rd s.data.toList = (noH, e7) by rw [rd_7 h0 h1 h2 h3 h4 h5 c6, h7, if_neg c7])
    have c7' : ((e7 : Int) != 0) = true := by simp; omega
    clear h1 h0 h2 h3 hsl hgs hga h3l hN h4 ha2 ha3 hR hT ha4 hEl hEok h5 hbk c6 c6' hLL h7
    generalize s.extract (a4 + 4) s.size = YB at *
    go_enter Tryd.func26, Tryd.ntmps26
    go_wp2_with (first
      | (go_at_call 48; go_must (refine (CS.out _).mono ?_; rintro e w1 ⟨rfl, rfl⟩))
      | (go_at_call 49; go_must (refine CRD.out.mono ?_; rintro e w2 ⟨rfl, hS, hA, hb⟩; replace RB := Lib.hid (RB.out.keep hb); replace KB := Lib.hid (KB.out.trans (hb.mono KB.out.size)); have RS := Lib.hid hS; have RA := Lib.hid hA; clear hS hA hb CRD))
      | (go_at_call 50; go_must (refine (CN.out _ RS.out RA.out).mono ?_; rintro e w3 ⟨vN, er, rfl, hE, hK, hP⟩; obtain rfl : er = 0 := hE; replace RB := Lib.hid (hK.row RB.out (by simp; omega)); replace KB := Lib.hid (KB.out.trans (hK.below (B := w.heap.size) (by simp; omega) KB.out.size)); replace RS := Lib.hid (hK.row RS.out (by simp; omega)); have ON := Lib.hid (fun g (hg : vN.ownBlock = some g) => And.intro (Nat.lt_of_lt_of_le RA.out.lt ((hP rfl).1.lt g hg).1) ((hP rfl).1.lt g hg).2); have NR := Lib.hid (KRow.mono (hP rfl).1 (show w.heap.size ≤ w2.heap.size by have := RA.out.lt; omega)); replace RA := Lib.hid (hP rfl).2; obtain ⟨nA, nn, nc, rfl, hnn⟩ := KRow.form (hP rfl).1; have HNN := Lib.hid hnn; have O3 : ga < w3.heap.size := RA.out.lt; clear hnn; clear hK hP CN))
      | (go_at_call 51; go_must (first | (have tok := T1.out; refine (number_any _ _ _ _).mono ?_; rintro e w5 ⟨F2, rfl, hF2, b5⟩; have B5 := Lib.hid (B4.out.trans (b5.mono B4.out.size)); have CR5 := Lib.hid (CRR.out w5 (HF1.out.keep (X := []) (Kp.of_below b5) (by simp)) (hF2.mono B4.out.size) (((RS.out.alloc _).alloc _).keep B5.out) (((RA.out.alloc _).alloc _).keep B5.out) (RowAt.keep (RowAt.at (by rw [World.size_alloc])) B5.out) (((RowAt.new w3 _ _).alloc _).keep B5.out) O3 (Nat.lt_succ_self _) (by rw [World.size_alloc, World.size_alloc]; omega)); replace RB := Lib.hid (((RB.out.alloc _).alloc _).keep B5.out); replace RS := Lib.hid (((RS.out.alloc _).alloc _).keep B5.out); replace NR := Lib.hid (KRow.keep (KRow.alloc (KRow.alloc NR.out _) _) B5.out); replace KB := Lib.hid (((KB.out.alloc KB.out.size _).alloc (le_alloc KB.out.size _) _).trans (B5.out.mono (le_alloc (le_alloc KB.out.size _) _))); obtain ⟨p3, p4, _, _, rfl, _, _⟩ := hF2; clear T1 HF1 b5 B4 B5 CRR RA) | (refine (number_any _ _ _ _).mono ?_; rintro e w4 ⟨F1, rfl, hF1, b4⟩; have T1 := Lib.hid trivial; have B4 := Lib.hid (show Below ((w3.alloc (.cells #[.slice nA nn nc, .int .i64 0, .slice none 0 0] 61)).alloc (.cells #[.int .i64 0] 3)).heap.size ((w3.alloc (.cells #[.slice nA nn nc, .int .i64 0, .slice none 0 0] 61)).alloc (.cells #[.int .i64 0] 3)) w4 from b4); have HF1 := Lib.hid (show NumF ((w3.alloc (.cells #[.slice nA nn nc, .int .i64 0, .slice none 0 0] 61)).alloc (.cells #[.int .i64 0] 3)).heap.size w4 F1 (w3.heap.size + 1) 0 262144 from hF1); obtain ⟨p1, p2, _, _, rfl, _, _⟩ := hF1; clear b4)))
      | (go_at_call 52; go_must (refine (CT.out _ RS.out RA.out).mono ?_; rintro e w7 ⟨vP, er, rfl, ⟨pA, pn, pc, rfl⟩, hE, hK, hP⟩; obtain rfl : er = 0 := hE; replace RB := Lib.hid (hK.row RB.out (by simp; omega)); replace KB := Lib.hid (KB.out.trans (hK.below (B := w.heap.size) (by simp; omega) KB.out.size)); replace RH := Lib.hid (hK.row RH.out (by simp; omega)); have v0 : w7.cell? ⟨w3.heap.size, 2, none⟩ = some (.slice none 0 0) := RH.out.cell 2; have v1 : w7.frozen? ⟨w3.heap.size, 2, none⟩ = false := RH.out.frozen 2; replace RS := Lib.hid (hK.row RS.out (by simp; omega)); replace NR := Lib.hid (KRow.kp NR.out hK (fun g hg => by have := ON.out g hg; simp; omega)); have OP := Lib.hid (fun g (hg : (Value.slice pA pn pc).ownBlock = some g) => And.intro (Nat.lt_of_lt_of_le O4 (KRow.lt (hP rfl).1 g hg).1) (KRow.lt (hP rfl).1 g hg).2); have PR := Lib.hid (KRow.mono (hP rfl).1 (show w.heap.size ≤ w6.heap.size by omega)); have RA2 := Lib.hid (hP rfl).2; have O5 : w6.heap.size ≤ w7.heap.size := hK.size; replace RH := Lib.hid (RowAt.set RH.out 2 (.slice pA pn pc)); replace RB := Lib.hid (RB.out.other ⟨w3.heap.size, 2, none⟩ (.slice pA pn pc) (by show ¬ w3.heap.size = w.heap.size; omega)); replace KB := Lib.hid (KB.out.setCell (p := ⟨w3.heap.size, 2, none⟩) (by show w.heap.size ≤ w3.heap.size; omega) (.slice pA pn pc)); replace RS := Lib.hid (RS.out.other ⟨w3.heap.size, 2, none⟩ (.slice pA pn pc) (by show ¬ w3.heap.size = gs; omega)); have RA := Lib.hid (RA2.out.other ⟨w3.heap.size, 2, none⟩ (.slice pA pn pc) (by show ¬ w3.heap.size = ga; omega)); replace NR := Lib.hid (KRow.kp NR.out (Kp.setCell (p := ⟨w3.heap.size, 2, none⟩) (Kp.refl [w3.heap.size] _) (.inl (by simp)) (.slice pA pn pc)) (fun g hg => by have := ON.out g hg; simp; omega)); replace PR := Lib.hid (KRow.kp PR.out (Kp.setCell (p := ⟨w3.heap.size, 2, none⟩) (Kp.refl [w3.heap.size] _) (.inl (by simp)) (.slice pA pn pc)) (fun g hg => by have := OP.out g hg; simp; omega)); clear RA2; clear hK hP CT u0))
      | (go_at_call 54; go_must (refine (CRE.out w7.heap.size ((w7.setCell ⟨w3.heap.size, 2, none⟩ (.slice pA pn pc)).alloc (.cells #[.string ⟨#[]⟩] 9))).mono ?_; rintro e w8 ⟨F3, rfl, hF3, b8⟩; have B8 := Lib.hid b8; replace RB := Lib.hid ((RB.out.alloc _).keep b8); replace RS := Lib.hid ((RS.out.alloc _).keep b8); replace RA := Lib.hid ((RA.out.alloc _).keep b8); replace RH := Lib.hid ((RH.out.alloc _).keep b8); replace NR := Lib.hid (KRow.keep (KRow.alloc NR.out _) b8); replace PR := Lib.hid (KRow.keep (KRow.alloc PR.out _) b8); replace KB := Lib.hid ((KB.out.alloc KB.out.size _).trans (b8.mono (le_alloc KB.out.size _))); have RY := Lib.hid (RowAt.keep (RowAt.at (b := w7.heap.size) (by rw [World.size_setCell])) b8); have CR8 := Lib.hid (CRS.out w8 _ hF3 RS.out RA.out RY.out KB.out (by omega) (by rw [World.size_alloc, World.size_setCell]; omega)); obtain ⟨p5, _, rfl, _⟩ := hF3; clear b8 CRS CRE))
      | (go_at_call 72; go_must (first | (refine CR8.out.mono ?_; rintro e w9 ⟨er, a9, rfl, hE, hK, hP⟩; obtain rfl : er = 0 := hE; replace RB := Lib.hid (hK.row (RB.out.alloc _) (by simp; omega)); replace KB := Lib.hid ((KB.out.alloc KB.out.size _).trans (hK.below (B := w.heap.size) (by simp; omega) (le_alloc KB.out.size _))); replace RH := Lib.hid (hK.row (RH.out.alloc _) (by simp; omega)); replace NR := Lib.hid (KRow.kp (KRow.alloc NR.out _) hK (fun g hg => by have := ON.out g hg; simp; omega)); replace PR := Lib.hid (KRow.kp (KRow.alloc PR.out _) hK (fun g hg => by have := OP.out g hg; simp; omega)); replace RY := Lib.hid (hP rfl).2.2; have y0 := (hP rfl).2.2.get1; have h0 := RH.out.cell 0; have h1 := RH.out.cell 1; have h2 := RH.out.cell 2; simp only [List.getElem?_toArray, List.getElem?_cons_zero, List.getElem?_cons_succ, Array.size_setIfInBounds, List.setIfInBounds_toArray, List.set_cons_zero, List.set_cons_succ] at h0 h1 h2; clear hK hP CR8) | (refine CR5.out.mono ?_; rintro e w6 ⟨er, a6, rfl, hE, hK, hP⟩; obtain rfl : er = 0 := hE; replace RB := Lib.hid (hK.row (RB.out.alloc _) (by simp; omega)); replace KB := Lib.hid ((KB.out.alloc KB.out.size _).trans (hK.below (B := w.heap.size) (by simp; omega) (le_alloc KB.out.size _))); replace RS := Lib.hid (hK.row (RS.out.alloc _) (by simp; omega)); replace NR := Lib.hid (KRow.kp (KRow.alloc NR.out _) hK (fun g hg => by have := ON.out g hg; simp; omega)); have RA := Lib.hid (hP rfl).2.1; have RH := Lib.hid (hP rfl).2.2.1; have RU := Lib.hid (hP rfl).2.2.2; have u0 := (hP rfl).2.2.2.get1; have O4 : w3.heap.size + 1 < w6.heap.size := (hP rfl).2.2.2.lt; clear hK hP CR5)))
      | (go_at_call 55; go_must (refine (CSE.out _ _ _ PR.out).mono ?_; rintro e wa ⟨rfl, hk, hP⟩; have hK := hk (obX (.slice pA pn pc)) (obX_in _); replace RB := Lib.hid (hK.row RB.out (fun hm => by have := OP.out _ (obX_of hm); omega)); replace KB := Lib.hid (KB.out.trans (hK.below (B := w.heap.size) (fun k hm => by have := OP.out _ (obX_of hm); omega) KB.out.size)); replace RH := Lib.hid (hK.row RH.out (fun hm => by have := OP.out _ (obX_of hm); omega)); replace RY := Lib.hid (hK.row RY.out (fun hm => by have := OP.out _ (obX_of hm); omega)); replace NR := Lib.hid (KRow.kp NR.out hK (fun g hg hm => by have := ON.out g hg; have := OP.out _ (obX_of hm); omega)); replace PR := Lib.hid (hP HAS.out); replace y0 := RY.out.get1; replace h0 := RH.out.cell 0; replace h1 := RH.out.cell 1; replace h2 := RH.out.cell 2; simp only [List.getElem?_toArray, List.getElem?_cons_zero, List.getElem?_cons_succ, Array.size_setIfInBounds, List.setIfInBounds_toArray, List.set_cons_zero, List.set_cons_succ] at h0 h1 h2; clear hk hK hP CSE))
      | (go_at_call 56; go_must (refine (CSB.out _ _ _ PR.out).mono ?_; rintro e wb ⟨er, rfl, hE, hk, hP⟩; obtain rfl : er = e7 := hE; have hK := hk (obX (.slice pA pn pc)) (obX_in _); replace RB := Lib.hid (hK.row RB.out (fun hm => by have := OP.out _ (obX_of hm); omega)); replace KB := Lib.hid (KB.out.trans (hK.below (B := w.heap.size) (fun k hm => by have := OP.out _ (obX_of hm); omega) KB.out.size)); clear hk hK hP CSB))
      | (refine wpList_store_at (B := w.heap.size) RB.out (Nat.le_refl _) #[.slice none 0 0, .int .i64 0, .slice none 0 0] (.tmp 2) _ 61 rfl rfl rfl rfl (by kernel_rfl) rfl rfl ?_; intro wz rz bz)
      | fail)
    have z0 : wz.cell? ⟨w.heap.size, 0, none⟩ = some (.slice none 0 0) := rz.cell 0
    have z1 : wz.cell? ⟨w.heap.size, 1, none⟩ = some (.int .i64 0) := rz.cell 1
    have z2 : wz.cell? ⟨w.heap.size, 2, none⟩ = some (.slice none 0 0) := rz.cell 2
    refine bodyPost_ret (v := .tuple #[.agg #[.slice none 0 0, .int .i64 0, .slice none 0 0], .int .i64 er]) (by simp [results, Tryd.results26, go_sem, z0, z1, z2]) rfl ?_
    exact HdR.bad HBAD.out (KB.out.trans bz)
  subst c7
  have HRD := Lib.hid (show rd s.data.toList = ((N, R, T, E, a4 + 4), 0) by rw [rd_7 h0 h1 h2 h3 h4 h5 c6, h7, if_pos rfl])
  clear h1 h0 h2 h3 hsl hgs hga h3l hN h4 ha2 ha3 hR hT ha4 hEl hEok h5 hbk c6 c6' hLL h7
  have HG := Lib.hid (show hdPts s.data.toList = ptG R E T (s.data.toList.drop (a4 + 4)) E.length by unfold hdPts; rw [HRD.out])
  generalize s.extract (a4 + 4) s.size = YB at *
  go_enter Tryd.func26, Tryd.ntmps26
  go_wp2_with (first
    | (go_at_call 48; go_must (refine (CS.out _).mono ?_; rintro e w1 ⟨rfl, rfl⟩))
    | (go_at_call 49; go_must (refine CRD.out.mono ?_; rintro e w2 ⟨rfl, hS, hA, hb⟩; replace RB := Lib.hid (RB.out.keep hb); replace KB := Lib.hid (KB.out.trans (hb.mono KB.out.size)); have RS := Lib.hid hS; have RA := Lib.hid hA; clear hS hA hb CRD))
    | (go_at_call 50; go_must (refine (CN.out _ RS.out RA.out).mono ?_; rintro e w3 ⟨vN, er, rfl, hE, hK, hP⟩; obtain rfl : er = 0 := hE; replace RB := Lib.hid (hK.row RB.out (by simp; omega)); replace KB := Lib.hid (KB.out.trans (hK.below (B := w.heap.size) (by simp; omega) KB.out.size)); replace RS := Lib.hid (hK.row RS.out (by simp; omega)); have ON := Lib.hid (fun g (hg : vN.ownBlock = some g) => And.intro (Nat.lt_of_lt_of_le RA.out.lt ((hP rfl).1.lt g hg).1) ((hP rfl).1.lt g hg).2); have NR := Lib.hid (KRow.mono (hP rfl).1 (show w.heap.size ≤ w2.heap.size by have := RA.out.lt; omega)); replace RA := Lib.hid (hP rfl).2; obtain ⟨nA, nn, nc, rfl, hnn⟩ := KRow.form (hP rfl).1; have HNN := Lib.hid hnn; have O3 : ga < w3.heap.size := RA.out.lt; clear hnn; clear hK hP CN))
    | (go_at_call 51; go_must (first | (have tok := T1.out; refine (number_any _ _ _ _).mono ?_; rintro e w5 ⟨F2, rfl, hF2, b5⟩; have B5 := Lib.hid (B4.out.trans (b5.mono B4.out.size)); have CR5 := Lib.hid (CRR.out w5 (HF1.out.keep (X := []) (Kp.of_below b5) (by simp)) (hF2.mono B4.out.size) (((RS.out.alloc _).alloc _).keep B5.out) (((RA.out.alloc _).alloc _).keep B5.out) (RowAt.keep (RowAt.at (by rw [World.size_alloc])) B5.out) (((RowAt.new w3 _ _).alloc _).keep B5.out) O3 (Nat.lt_succ_self _) (by rw [World.size_alloc, World.size_alloc]; omega)); replace RB := Lib.hid (((RB.out.alloc _).alloc _).keep B5.out); replace RS := Lib.hid (((RS.out.alloc _).alloc _).keep B5.out); replace NR := Lib.hid (KRow.keep (KRow.alloc (KRow.alloc NR.out _) _) B5.out); replace KB := Lib.hid (((KB.out.alloc KB.out.size _).alloc (le_alloc KB.out.size _) _).trans (B5.out.mono (le_alloc (le_alloc KB.out.size _) _))); obtain ⟨p3, p4, _, _, rfl, _, _⟩ := hF2; clear T1 HF1 b5 B4 B5 CRR RA) | (refine (number_any _ _ _ _).mono ?_; rintro e w4 ⟨F1, rfl, hF1, b4⟩; have T1 := Lib.hid trivial; have B4 := Lib.hid (show Below ((w3.alloc (.cells #[.slice nA nn nc, .int .i64 0, .slice none 0 0] 61)).alloc (.cells #[.int .i64 0] 3)).heap.size ((w3.alloc (.cells #[.slice nA nn nc, .int .i64 0, .slice none 0 0] 61)).alloc (.cells #[.int .i64 0] 3)) w4 from b4); have HF1 := Lib.hid (show NumF ((w3.alloc (.cells #[.slice nA nn nc, .int .i64 0, .slice none 0 0] 61)).alloc (.cells #[.int .i64 0] 3)).heap.size w4 F1 (w3.heap.size + 1) 0 262144 from hF1); obtain ⟨p1, p2, _, _, rfl, _, _⟩ := hF1; clear b4)))
    | (go_at_call 52; go_must (refine (CT.out _ RS.out RA.out).mono ?_; rintro e w7 ⟨vP, er, rfl, ⟨pA, pn, pc, rfl⟩, hE, hK, hP⟩; obtain rfl : er = 0 := hE; replace RB := Lib.hid (hK.row RB.out (by simp; omega)); replace KB := Lib.hid (KB.out.trans (hK.below (B := w.heap.size) (by simp; omega) KB.out.size)); replace RH := Lib.hid (hK.row RH.out (by simp; omega)); have v0 : w7.cell? ⟨w3.heap.size, 2, none⟩ = some (.slice none 0 0) := RH.out.cell 2; have v1 : w7.frozen? ⟨w3.heap.size, 2, none⟩ = false := RH.out.frozen 2; replace RS := Lib.hid (hK.row RS.out (by simp; omega)); replace NR := Lib.hid (KRow.kp NR.out hK (fun g hg => by have := ON.out g hg; simp; omega)); have OP := Lib.hid (fun g (hg : (Value.slice pA pn pc).ownBlock = some g) => And.intro (Nat.lt_of_lt_of_le O4 (KRow.lt (hP rfl).1 g hg).1) (KRow.lt (hP rfl).1 g hg).2); have PR := Lib.hid (KRow.mono (hP rfl).1 (show w.heap.size ≤ w6.heap.size by omega)); have RA2 := Lib.hid (hP rfl).2; have O5 : w6.heap.size ≤ w7.heap.size := hK.size; replace RH := Lib.hid (RowAt.set RH.out 2 (.slice pA pn pc)); replace RB := Lib.hid (RB.out.other ⟨w3.heap.size, 2, none⟩ (.slice pA pn pc) (by show ¬ w3.heap.size = w.heap.size; omega)); replace KB := Lib.hid (KB.out.setCell (p := ⟨w3.heap.size, 2, none⟩) (by show w.heap.size ≤ w3.heap.size; omega) (.slice pA pn pc)); replace RS := Lib.hid (RS.out.other ⟨w3.heap.size, 2, none⟩ (.slice pA pn pc) (by show ¬ w3.heap.size = gs; omega)); have RA := Lib.hid (RA2.out.other ⟨w3.heap.size, 2, none⟩ (.slice pA pn pc) (by show ¬ w3.heap.size = ga; omega)); replace NR := Lib.hid (KRow.kp NR.out (Kp.setCell (p := ⟨w3.heap.size, 2, none⟩) (Kp.refl [w3.heap.size] _) (.inl (by simp)) (.slice pA pn pc)) (fun g hg => by have := ON.out g hg; simp; omega)); replace PR := Lib.hid (KRow.kp PR.out (Kp.setCell (p := ⟨w3.heap.size, 2, none⟩) (Kp.refl [w3.heap.size] _) (.inl (by simp)) (.slice pA pn pc)) (fun g hg => by have := OP.out g hg; simp; omega)); clear RA2; clear hK hP CT u0))
    | (go_at_call 54; go_must (refine (CRE.out w7.heap.size ((w7.setCell ⟨w3.heap.size, 2, none⟩ (.slice pA pn pc)).alloc (.cells #[.string ⟨#[]⟩] 9))).mono ?_; rintro e w8 ⟨F3, rfl, hF3, b8⟩; have B8 := Lib.hid b8; replace RB := Lib.hid ((RB.out.alloc _).keep b8); replace RS := Lib.hid ((RS.out.alloc _).keep b8); replace RA := Lib.hid ((RA.out.alloc _).keep b8); replace RH := Lib.hid ((RH.out.alloc _).keep b8); replace NR := Lib.hid (KRow.keep (KRow.alloc NR.out _) b8); replace PR := Lib.hid (KRow.keep (KRow.alloc PR.out _) b8); replace KB := Lib.hid ((KB.out.alloc KB.out.size _).trans (b8.mono (le_alloc KB.out.size _))); have RY := Lib.hid (RowAt.keep (RowAt.at (b := w7.heap.size) (by rw [World.size_setCell])) b8); have CR8 := Lib.hid (CRS.out w8 _ hF3 RS.out RA.out RY.out KB.out (by omega) (by rw [World.size_alloc, World.size_setCell]; omega)); obtain ⟨p5, _, rfl, _⟩ := hF3; clear b8 CRS CRE))
    | (go_at_call 72; go_must (first | (refine CR8.out.mono ?_; rintro e w9 ⟨er, a9, rfl, hE, hK, hP⟩; obtain rfl : er = 0 := hE; replace RB := Lib.hid (hK.row (RB.out.alloc _) (by simp; omega)); replace KB := Lib.hid ((KB.out.alloc KB.out.size _).trans (hK.below (B := w.heap.size) (by simp; omega) (le_alloc KB.out.size _))); replace RH := Lib.hid (hK.row (RH.out.alloc _) (by simp; omega)); replace NR := Lib.hid (KRow.kp (KRow.alloc NR.out _) hK (fun g hg => by have := ON.out g hg; simp; omega)); replace PR := Lib.hid (KRow.kp (KRow.alloc PR.out _) hK (fun g hg => by have := OP.out g hg; simp; omega)); replace RY := Lib.hid (hP rfl).2.2; have y0 := (hP rfl).2.2.get1; have h0 := RH.out.cell 0; have h1 := RH.out.cell 1; have h2 := RH.out.cell 2; simp only [List.getElem?_toArray, List.getElem?_cons_zero, List.getElem?_cons_succ, Array.size_setIfInBounds, List.setIfInBounds_toArray, List.set_cons_zero, List.set_cons_succ] at h0 h1 h2; clear hK hP CR8) | (refine CR5.out.mono ?_; rintro e w6 ⟨er, a6, rfl, hE, hK, hP⟩; obtain rfl : er = 0 := hE; replace RB := Lib.hid (hK.row (RB.out.alloc _) (by simp; omega)); replace KB := Lib.hid ((KB.out.alloc KB.out.size _).trans (hK.below (B := w.heap.size) (by simp; omega) (le_alloc KB.out.size _))); replace RS := Lib.hid (hK.row (RS.out.alloc _) (by simp; omega)); replace NR := Lib.hid (KRow.kp (KRow.alloc NR.out _) hK (fun g hg => by have := ON.out g hg; simp; omega)); have RA := Lib.hid (hP rfl).2.1; have RH := Lib.hid (hP rfl).2.2.1; have RU := Lib.hid (hP rfl).2.2.2; have u0 := (hP rfl).2.2.2.get1; have O4 : w3.heap.size + 1 < w6.heap.size := (hP rfl).2.2.2.lt; clear hK hP CR5)))
    | (go_at_call 55; go_must (refine (CSE.out _ _ _ PR.out).mono ?_; rintro e wa ⟨rfl, hk, hP⟩; have hK := hk (obX (.slice pA pn pc)) (obX_in _); replace RB := Lib.hid (hK.row RB.out (fun hm => by have := OP.out _ (obX_of hm); omega)); replace KB := Lib.hid (KB.out.trans (hK.below (B := w.heap.size) (fun k hm => by have := OP.out _ (obX_of hm); omega) KB.out.size)); replace RH := Lib.hid (hK.row RH.out (fun hm => by have := OP.out _ (obX_of hm); omega)); replace RY := Lib.hid (hK.row RY.out (fun hm => by have := OP.out _ (obX_of hm); omega)); replace NR := Lib.hid (KRow.kp NR.out hK (fun g hg hm => by have := ON.out g hg; have := OP.out _ (obX_of hm); omega)); replace PR := Lib.hid (hP HAS.out); replace y0 := RY.out.get1; replace h0 := RH.out.cell 0; replace h1 := RH.out.cell 1; replace h2 := RH.out.cell 2; simp only [List.getElem?_toArray, List.getElem?_cons_zero, List.getElem?_cons_succ, Array.size_setIfInBounds, List.setIfInBounds_toArray, List.set_cons_zero, List.set_cons_succ] at h0 h1 h2; clear hk hK hP CSE))
    | (go_at_call 56; go_must (refine (CSB.out _ _ _ PR.out).mono ?_; rintro e wb ⟨er, rfl, hE, hk, hP⟩; obtain rfl : er = 0 := hE; have hK := hk (obX (.slice pA pn pc)) (obX_in _); replace RB := Lib.hid (hK.row RB.out (fun hm => by have := OP.out _ (obX_of hm); omega)); replace KB := Lib.hid (KB.out.trans (hK.below (B := w.heap.size) (fun k hm => by have := OP.out _ (obX_of hm); omega) KB.out.size)); replace RH := Lib.hid (hK.row RH.out (fun hm => by have := OP.out _ (obX_of hm); omega)); replace NR := Lib.hid (KRow.kp NR.out hK (fun g hg hm => by have := ON.out g hg; have := OP.out _ (obX_of hm); omega)); replace PR := Lib.hid (hP rfl); replace h0 := RH.out.cell 0; replace h1 := RH.out.cell 1; replace h2 := RH.out.cell 2; simp only [List.getElem?_toArray, List.getElem?_cons_zero, List.getElem?_cons_succ, Array.size_setIfInBounds, List.setIfInBounds_toArray, List.set_cons_zero, List.set_cons_succ] at h0 h1 h2; clear hk hK hP CSB))
    | (refine wpList_store_kp RB.out #[.slice nA nn nc, .int .i64 T, .slice pA pn pc] (.tmp 2) _ 61 rfl rfl rfl rfl (by kernel_rfl) rfl rfl ?_; intro wz rz bz)
    | fail)
  have z0 : wz.cell? ⟨w.heap.size, 0, none⟩ = some (.slice nA nn nc) := rz.cell 0
  have z1 : wz.cell? ⟨w.heap.size, 1, none⟩ = some (.int .i64 T) := rz.cell 1
  have z2 : wz.cell? ⟨w.heap.size, 2, none⟩ = some (.slice pA pn pc) := rz.cell 2
  refine bodyPost_ret (v := .tuple #[.agg #[.slice nA nn nc, .int .i64 T, .slice pA pn pc], .int .i64 0]) (by simp [results, Tryd.results26, go_sem, z0, z1, z2]) rfl ?_
  have hK := KB.out.trans (bz.below (B := w.heap.size) (by simp) KB.out.size)
  refine ⟨_, _, T, 0, rfl, by rw [HRD.out], by rw [HRD.out], hK, ?_, ?_⟩
  · rw [HRD.out]; exact KRow.kp NR.out bz (fun g hg => by have := ON.out g hg; simp; omega)
  · rw [HG.out]; exact KRow.kp PR.out bz (fun g hg => by have := OP.out g hg; simp; omega)

end Go.Proofs.YtillcmddbjhepaaDoor

namespace Go.Proofs.YtillcmddbjhepaaDoor
open Go
set_option linter.unusedVariables false
set_option linter.unusedSimpArgs false

/-- Block i begins before the end, and behind the block before it. -/
def asI (E : List En) (T i : Nat) : Prop := eA E T i < T ∧ (0 < i → eA E T (i - 1) < eA E T i)
theorem asc_spec (E : List En) (T : Nat) : asc E T ↔ eA E T 0 = 0 ∧ ∀ i, i < E.length → asI E T i := by
  rw [asc_iff]
  constructor
  · rintro ⟨h0, h⟩
    refine ⟨h0, fun i hi => ?_⟩
    have hlt : ∀ d i, i + d + 1 = E.length → eA E T i < T := by
      intro d
      induction d with
      | zero =>
        intro i hi
        have := h i (by omega)
        rw [eA_in (by omega : i < E.length)]
        unfold eA at this
        rw [dif_neg (by omega)] at this
        exact this
      | succ d ih =>
        intro i hi
        have h1 := ih (i + 1) (by omega)
        have h2 := h i (by omega)
        rw [eA_in (by omega : i < E.length)]
        omega
    refine ⟨hlt (E.length - 1 - i) i (by omega), fun hp => ?_⟩
    have := h (i - 1) (by omega)
    rw [eA_in (by omega : i - 1 < E.length)]
    rw [show i - 1 + 1 = i by omega] at this
    exact this
  · rintro ⟨h0, h⟩
    refine ⟨h0, fun k hk => ?_⟩
    by_cases hk2 : k + 1 < E.length
    · have := (h (k + 1) hk2).2 (by omega)
      rw [Nat.add_sub_cancel, eA_in hk] at this
      exact this
    · have := (h k hk).1
      rw [eA_in hk] at this
      unfold eA
      rw [dif_neg hk2]
      exact this
theorem rd_hd {l : List UInt8} {N : List ByteArray} {R T : Nat} {E : List En} {b : Nat} (h : rH l = ((N, R, T, E, b), 0)) :
    rd l = if asc E T then (if l.length - b < szE E then (noH, 5) else if szE E < l.length - b then (noH, 4) else ((N, R, T, E, b), 0)) else (noH, 12) := by
  unfold rd; rw [h]; simp only [if_true]
theorem rd_no0 {l : List UInt8} {N : List ByteArray} {R T : Nat} {E : List En} {b : Nat} (h : rH l = ((N, R, T, E, b), 0)) (h0 : ¬ eA E T 0 = 0) : rd l = (noH, 12) := by
  rw [rd_hd h, if_neg (fun ha => h0 ((asc_spec E T).1 ha).1)]
theorem rd_noI {l : List UInt8} {N : List ByteArray} {R T : Nat} {E : List En} {b i : Nat} (h : rH l = ((N, R, T, E, b), 0)) (hi : i < E.length) (h0 : ¬ asI E T i) : rd l = (noH, 12) := by
  rw [rd_hd h, if_neg (fun ha => h0 (((asc_spec E T).1 ha).2 i hi))]
theorem rd_yes {l : List UInt8} {N : List ByteArray} {R T : Nat} {E : List En} {b : Nat} (h : rH l = ((N, R, T, E, b), 0)) (h0 : eA E T 0 = 0) (h1 : ∀ i, i < E.length → asI E T i) :
    rd l = if l.length - b < szE E then (noH, 5) else if szE E < l.length - b then (noH, 4) else ((N, R, T, E, b), 0) := by
  rw [rd_hd h, if_pos ((asc_spec E T).2 ⟨h0, h1⟩)]
/-- What was read is in range. -/
theorem rH_inv {l : List UInt8} {N : List ByteArray} {R T : Nat} {E : List En} {b : Nat} (h : rH l = ((N, R, T, E, b), 0)) :
    T ≤ 1099511627776 ∧ R ≤ 262144 ∧ b ≤ l.length ∧ E.length = bkN R ∧ (∀ x ∈ E, okE x) ∧ N.length ≤ 16 := by
  have bad : ∀ {x : Hd} {e : Nat}, rH l = (x, e) → e = 0 := fun hx => by rw [hx] at h; injection h
  have bd2 : ∀ {e : Nat}, rH l = (noH, e) → e ≠ 0 → False := fun hx he => he (bad hx)
  by_cases h0 : stE l = 0
  · obtain ⟨⟨N1, a1, e1⟩, h1⟩ : ∃ p, rNm l 3 = p := ⟨_, rfl⟩
    have hr1 := (rH_st h0).1
    unfold rH1 at hr1
    rw [h1] at hr1
    simp only at hr1
    by_cases c1 : e1 = 0
    · subst c1
      obtain ⟨q1, q2, q3⟩ := rNm_le h1 (rH_st h0).2
      obtain ⟨⟨R1, a2, e2⟩, h2⟩ : ∃ p, rN l a1 262144 = p := ⟨_, rfl⟩
      have hr2 := rH_2 h0 h1
      unfold rH2 at hr2
      rw [h2] at hr2
      simp only at hr2
      by_cases c2 : e2 = 0
      · subst c2
        obtain ⟨⟨T1, a3, e3⟩, h3⟩ : ∃ p, rN l a2 1099511627776 = p := ⟨_, rfl⟩
        have hr3 := rH_3 h0 h1 h2
        unfold rH3 at hr3
        rw [h3] at hr3
        simp only at hr3
        by_cases c3 : e3 = 0
        · subst c3
          obtain ⟨⟨E1, a4, e4⟩, h4⟩ : ∃ p, tbE l R1 a3 = p := ⟨_, rfl⟩
          have hr4 := rH_4 h0 h1 h2 h3
          rw [rH4_tb, h4] at hr4
          simp only at hr4
          by_cases c4 : e4 = 0
          · subst c4
            have hr5 := rH_6 h0 h1 h2 h3 h4
            by_cases c5 : (rS l a4).2 = 0
            · rw [if_pos c5, h] at hr5
              injection hr5 with hr5 _
              injection hr5 with e1 hr5
              injection hr5 with e2 hr5
              injection hr5 with e3 hr5
              injection hr5 with e4 e5
              subst e1 e2 e3 e4 e5
              obtain ⟨t1, t2, t3⟩ := tbE_le h4
              have hR := (rN_le l a1 262144).1
              have hT := (rN_le l a2 1099511627776).1
              rw [h2] at hR
              rw [h3] at hT
              refine ⟨hT, hR, ?_, t2, t3, q2⟩
              unfold rS at c5
              by_cases c6 : l.length < a4 + 4
              · rw [if_pos c6] at c5; exact absurd (show (5 : Nat) = 0 from c5) (by decide)
              · omega
            · rw [if_neg c5] at hr5; exact (bd2 hr5 c5).elim
          · rw [if_neg c4] at hr4; exact (bd2 hr4 c4).elim
        · rw [if_neg c3] at hr3; exact (bd2 hr3 c3).elim
      · rw [if_neg c2] at hr2; exact (bd2 hr2 c2).elim
    · rw [if_neg c1] at hr1; exact (bd2 hr1 c1).elim
  · exfalso
    unfold stE at h0
    unfold rH at h
    by_cases g1 : l.length < 3
    · rw [if_pos g1] at h; injection h with _ h; exact absurd h (by decide)
    · rw [if_neg g1] at h h0
      by_cases g2 : l.take 2 = [83, 66]
      · rw [if_pos g2] at h h0
        by_cases g3 : l.getD 2 0 = 1
        · rw [if_pos g3] at h0; exact h0 rfl
        · rw [if_neg g3] at h; injection h with _ h; exact absurd h (by decide)
      · rw [if_neg g2] at h; injection h with _ h; exact absurd h (by decide)

end Go.Proofs.YtillcmddbjhepaaDoor

namespace Go.Proofs.YtillcmddbjhepaaDoor
open Go
set_option linter.unusedVariables false
set_option linter.unusedSimpArgs false

def aB (X : List Si.Rn) (r : Option (List Si.Rn × Nat)) : Option (List Si.Rn × Nat) := r.map fun p => (X ++ p.1, p.2)
theorem aB_nil (r : Option (List Si.Rn × Nat)) : aB [] r = r := by cases r <;> rfl
/-- A level and a number of ticks, if they are right. -/
def r1k (s : List UInt8) (m a : Nat) : Prop := (rN s a m).2.2 = 0 ∧ (rN s (rN s a m).2.1 1099511627776).2.2 = 0 ∧ (rN s (rN s a m).2.1 1099511627776).1 ≠ 0
theorem rB_yes {s : List UInt8} {m n a : Nat} (h : r1k s m a) (X : List Si.Rn) :
    aB X (rB s m (n + 1) a) = aB (X ++ [(((rN s a m).1 : Int), ((rN s (rN s a m).2.1 1099511627776).1 : Int))]) (rB s m n (rN s (rN s a m).2.1 1099511627776).2.1) := by
  unfold r1k at h
  rw [rB, if_pos h]
  unfold aB
  cases rB s m n (rN s (rN s a m).2.1 1099511627776).2.1 with
  | none => rfl
  | some p => simp
theorem rB_no {s : List UInt8} {m n a : Nat} (h : ¬ r1k s m a) (X : List Si.Rn) : aB X (rB s m (n + 1) a) = none := by
  unfold r1k at h
  rw [rB, if_neg h]; rfl
theorem rB_0 (s : List UInt8) (m a : Nat) (X : List Si.Rn) : aB X (rB s m 0 a) = some (X, a) := by
  unfold aB; rw [rB]; simp
theorem rBk_none {s : List UInt8} {m n c d : Nat} (h : rB s m n 0 = none) : rBk s m n c d = none := by
  unfold rBk; rw [h]; simp
theorem rBk_ck {s : List UInt8} {m n c d : Nat} (h : ¬ ck s = c) : rBk s m n c d = none := by unfold rBk; rw [if_neg h]
theorem rBk_some {s : List UInt8} {m n c d : Nat} {L : List Si.Rn} {a : Nat} (h0 : ck s = c) (h : rB s m n 0 = some (L, a)) : rBk s m n c d = if a = s.length ∧ Si.lg L = d then some L else none := by
  unfold rBk; rw [if_pos h0, h]

end Go.Proofs.YtillcmddbjhepaaDoor

namespace Go.Proofs.YtillcmddbjhepaaDoor
open Go Go.RowKit Go.Joins
set_option linter.unusedVariables false
set_option linter.unusedSimpArgs false

/-- What a block gives: its runs, or ErrCorrupt. -/
def BkR (p : Option (List Si.Rn)) (w : World) (e : Ending) (w' : World) : Prop :=
  ∃ (v : Value) (er : Nat), e = .returned (.tuple #[v, .int .i64 er]) ∧ (∃ A n c, v = .slice A n c) ∧ er = (if p.isSome then 0 else 12) ∧ Si.RnRow w' w.heap.size v (p.getD []) ∧ Below w.heap.size w w'
theorem BkR.no {p : Option (List Si.Rn)} {w w' : World} (h : p = none) (hb : Below w.heap.size w w') : BkR p w (.returned (.tuple #[.slice none 0 0, .int .i64 12])) w' := by
  subst h; exact ⟨_, 12, rfl, ⟨_, _, _, rfl⟩, rfl, KRow.nil _ _, hb⟩
/-- The runs so far, and room for the others. -/
def rnW (X : List Si.Rn) (r : Nat) : List Si.Rn := X ++ List.replicate r (0, 0)
theorem rnC_cells (X : List Si.Rn) : kCs Si.rnC X = X.flatMap fun r => [.int .i64 r.1, .int .i64 r.2] := by
  induction X with
  | nil => rfl
  | cons x X ih => rw [kCs_cons, ih]; rfl
theorem rnW_size (X : List Si.Rn) (r : Nat) : (kCs Si.rnC (rnW X r)).toArray.size = (X.length + r) * 2 := by
  rw [List.size_toArray, kCs_len Si.rnC_size]; unfold rnW; simp
theorem rnW_set (X : List Si.Rn) (r : Nat) (x y : Int) : ((kCs Si.rnC (rnW X (r + 1))).toArray.setIfInBounds (X.length * 2) (.int .i64 x)).setIfInBounds (X.length * 2 + 1) (.int .i64 y) = (kCs Si.rnC (rnW (X ++ [(x, y)]) r)).toArray := by
  apply Array.toList_inj.1
  rw [Array.toList_setIfInBounds, Array.toList_setIfInBounds]
  have h1 : kCs Si.rnC (rnW X (r + 1)) = kCs Si.rnC X ++ ([.int .i64 0, .int .i64 0] ++ kCs Si.rnC (List.replicate r (0, 0))) := by
    unfold rnW; rw [kCs_append, List.replicate_succ, kCs_cons]; rfl
  have h2 : kCs Si.rnC (rnW (X ++ [(x, y)]) r) = kCs Si.rnC X ++ ([.int .i64 x, .int .i64 y] ++ kCs Si.rnC (List.replicate r (0, 0))) := by
    unfold rnW; rw [kCs_append, kCs_append, kCs_cons, kCs_nil, List.append_nil, List.append_assoc]; rfl
  have hl : (kCs Si.rnC X).length = X.length * 2 := kCs_len Si.rnC_size X
  rw [List.toList_toArray, List.toList_toArray, h1, h2]
  generalize kCs Si.rnC X = Y at *
  generalize kCs Si.rnC (List.replicate r (0, 0)) = V at *
  have e1 : (Y ++ ([Value.int .i64 0, Value.int .i64 0] ++ V)).set (X.length * 2) (.int .i64 x) = Y ++ ([Value.int .i64 x, Value.int .i64 0] ++ V) := by
    rw [List.set_append, if_neg (by omega), hl, Nat.sub_self]; rfl
  rw [e1, List.set_append, if_neg (by omega), hl, show X.length * 2 + 1 - X.length * 2 = 1 by omega]; rfl

/-- Two numbers, into one block. -/
theorem readNS_any {s : ByteArray} {gs ga a B x o1 m1 o2 m2 : Nat} {w : World} {F1 F2 : Value} {T : TypeId} {cs : Array Value} (hs : s.size ≤ 9223372036854775807) (hm1 : m1 ≤ 9223372036854775807) (hm2 : m2 ≤ 9223372036854775807) (h1 : gs ≠ ga) (r1 : RowAt w gs 9 #[.string s]) (r2 : RowAt w ga 3 #[.int .i64 a])
    (hF1 : NumF B w F1 x o1 m1) (hF2 : NumF B w F2 x o2 m2) (hx : RowAt w x T cs) (ho1 : o1 < cs.size) (ho2 : o2 < cs.size) (hn : x ≠ gs ∧ x ≠ ga) (hB1 : x < B) (hgB : ga < B) :
    Calls Tryd.prog 72 #[.slice (some ⟨w.heap.size, 0, none⟩) 2 2, .pointer (some ⟨gs, 0, none⟩), .pointer (some ⟨ga, 0, none⟩)] (w.alloc (.cells #[F1, F2] 90)) (QF (RdR ga (rN s.data.toList (rN s.data.toList a m1).2.1 m2).2.1 (if (rN s.data.toList a m1).2.2 = 0 then (rN s.data.toList (rN s.data.toList a m1).2.1 m2).2.2 else (rN s.data.toList a m1).2.2) [x, ga] (w.alloc (.cells #[F1, F2] 90)) fun w' => RowAt w' x T ((cs.setIfInBounds o1 (.int .i64 (rN s.data.toList a m1).1)).setIfInBounds o2 (.int .i64 (rN s.data.toList (rN s.data.toList a m1).2.1 m2).1)))) := by
  have hk0 : Kp [x, ga] w (w.alloc (.cells #[F1, F2] 90)) := (Kp.refl _ w).alloc _
  have hX : ∀ k ∈ [x, ga], k < B := by intro k hk; simp at hk; omega
  have h := read2_set (s := s) (a := a) (w := w.alloc (.cells #[F1, F2] 90)) ⟨r1.alloc _, r2.alloc _, RowAt.new w _ _⟩ h1 (by have := r2.lt; omega) ⟨hn.1, hn.2, by have := hx.lt; omega⟩ ⟨hn.1, hn.2, by have := hx.lt; omega⟩
    (num_field hs hm1 (hF1.keep hk0 hX) (hx.alloc _) ho1)
    (fun _ w' hk hr => num_field hs hm2 ((hF2.keep hk0 hX).keep hk hX) hr (by simpa using ho2))
  refine h.mono ?_
  rintro e w' ⟨er, a', rfl, rfl, hk, hp⟩
  exact ⟨_, a', rfl, rfl, hk.mono (fun k _ h => by simp at h ⊢; rcases h with h | h | h <;> simp [h]), fun h => ⟨(hp h).1, (hp h).2.1, (hp h).2.2.1⟩⟩

set_option maxRecDepth 100000 in
set_option maxHeartbeats 4000000 in
theorem readPart_any (f e n sz c : Nat) (b : ByteArray) (ch : Nat) (w : World) (hE : Sd.Env w) (hs : b.size ≤ 140737488351232) (hc : ch ≤ 16) (hn : n ≤ 16) (hfe : f ≤ e) (he : e ≤ 1099511627776) :
    Calls Tryd.prog 35 #[.agg #[.int .i64 f, .int .i64 e, .int .i64 n, .int .i64 sz, .int .i64 c, .string b], .int .i64 ch] w (BkR (rBk b.data.toList (2 ^ ch - 1) n c (e - f)) w) := by
  have hsl := size_len b
  have RB := Lib.hid (RowAt.new w 57 #[.int .i64 f, .int .i64 e, .int .i64 n, .int .i64 sz, .int .i64 c, .string b])
  have KB := Lib.hid (ba w (.cells #[.int .i64 f, .int .i64 e, .int .i64 n, .int .i64 sz, .int .i64 c, .string b] 57))
  have CK := Lib.hid (fun W (hb : Below w.heap.size w W) => checksum_any b W (hE.below hb) hs)
  obtain ⟨C, hC⟩ : ∃ C, ck b.data.toList = C := ⟨_, rfl⟩
  rw [hC] at CK
  by_cases hcc : C = c
  case neg =>
    have HN := Lib.hid (rBk_ck (m := 2 ^ ch - 1) (n := n) (d := e - f) (show ¬ ck b.data.toList = c by rw [hC]; exact hcc))
    have hc' : ((C : Int) != (c : Int)) = true := by simp; omega
    have HS := Lib.hid (fun W (hb : Below (w.alloc (.cells #[.int .i64 f, .int .i64 e, .int .i64 n, .int .i64 sz, .int .i64 c, .string b] 57)).heap.size (w.alloc (.cells #[.int .i64 f, .int .i64 e, .int .i64 n, .int .i64 sz, .int .i64 c, .string b] 57)) W) => show W.cell? ⟨w.heap.size, 4, none⟩ = some (.int .i64 c) ∧ W.cell? ⟨w.heap.size, 5, none⟩ = some (.string b) ∧ Below (w.alloc (.cells #[.int .i64 f, .int .i64 e, .int .i64 n, .int .i64 sz, .int .i64 c, .string b] 57)).heap.size (w.alloc (.cells #[.int .i64 f, .int .i64 e, .int .i64 n, .int .i64 sz, .int .i64 c, .string b] 57)) W from ⟨(RB.out.keep hb).cell 4, (RB.out.keep hb).cell 5, hb⟩)
    have HS0 := Lib.hid (HS.out _ (Below.refl _ _).drew)
    have CK2 := Lib.hid (fun W (hb : Below (w.alloc (.cells #[.int .i64 f, .int .i64 e, .int .i64 n, .int .i64 sz, .int .i64 c, .string b] 57)).heap.size (w.alloc (.cells #[.int .i64 f, .int .i64 e, .int .i64 n, .int .i64 sz, .int .i64 c, .string b] 57)) W) => CK.out W (KB.out.trans (hb.mono KB.out.size)))
    clear hC hcc hsl CK
    go_enter Tryd.func35, Tryd.ntmps35
    go_wp2
    go_region_held3 (fun W => W.cell? ⟨w.heap.size, 4, none⟩ = some (.int .i64 c) ∧ W.cell? ⟨w.heap.size, 5, none⟩ = some (.string b) ∧ Below (w.alloc (.cells #[.int .i64 f, .int .i64 e, .int .i64 n, .int .i64 sz, .int .i64 c, .string b] 57)).heap.size (w.alloc (.cells #[.int .i64 f, .int .i64 e, .int .i64 n, .int .i64 sz, .int .i64 c, .string b] 57)) W) (first | exact HS0.out | assumption | go_keep)
      (first
        | (go_at_call 42; refine (CK2.out _ (And.right (And.right (by assumption)))).mono ?_; rintro x w3 ⟨rfl, b3⟩; have h3 := HS.out w3 (Below.trans (And.right (And.right (by assumption))) (b3.mono (Below.size (And.right (And.right (by assumption)))))))
        | fail)
    all_goals
      rename_i hh
      have HH := Lib.hid hh.2.2
      go_wp2
      go_returns
      exact BkR.no HN.out (KB.out.trans (HH.out.mono KB.out.size))
  have HCK := Lib.hid (show ck b.data.toList = c by rw [hC]; exact hcc)
  have hc' : ((C : Int) != (c : Int)) = false := by simp; omega
  have HS := Lib.hid (fun W (hb : Below (w.alloc (.cells #[.int .i64 f, .int .i64 e, .int .i64 n, .int .i64 sz, .int .i64 c, .string b] 57)).heap.size (w.alloc (.cells #[.int .i64 f, .int .i64 e, .int .i64 n, .int .i64 sz, .int .i64 c, .string b] 57)) W) => show W.cell? ⟨w.heap.size, 4, none⟩ = some (.int .i64 c) ∧ W.cell? ⟨w.heap.size, 5, none⟩ = some (.string b) ∧ Below (w.alloc (.cells #[.int .i64 f, .int .i64 e, .int .i64 n, .int .i64 sz, .int .i64 c, .string b] 57)).heap.size (w.alloc (.cells #[.int .i64 f, .int .i64 e, .int .i64 n, .int .i64 sz, .int .i64 c, .string b] 57)) W from ⟨(RB.out.keep hb).cell 4, (RB.out.keep hb).cell 5, hb⟩)
  have HS0 := Lib.hid (HS.out _ (Below.refl _ _).drew)
  have CK2 := Lib.hid (fun W (hb : Below (w.alloc (.cells #[.int .i64 f, .int .i64 e, .int .i64 n, .int .i64 sz, .int .i64 c, .string b] 57)).heap.size (w.alloc (.cells #[.int .i64 f, .int .i64 e, .int .i64 n, .int .i64 sz, .int .i64 c, .string b] 57)) W) => CK.out W (KB.out.trans (hb.mono KB.out.size)))
  have HSL := Lib.hid hsl
  have hn' : (n : Int) ≤ 16 := by omega
  obtain ⟨M, hM⟩ : ∃ M, 2 ^ ch - 1 = M := ⟨_, rfl⟩
  have hp16 : 2 ^ ch ≤ 2 ^ 16 := Nat.pow_le_pow_right (by omega) hc
  have hp1 : 1 ≤ 2 ^ ch := Nat.two_pow_pos ch
  have HMB := Lib.hid (show M ≤ 65535 by omega)
  have HSH := Lib.hid (show ((2 : Int) ^ ch) = (M : Int) + 1 by
    have : ((2 ^ ch : Nat) : Int) = (M : Int) + 1 := by omega
    rw [← this]; simp)
  rw [hM]
  clear hC hcc hsl CK hp16 hp1 hM
  go_enter Tryd.func35, Tryd.ntmps35
  go_wp2
  go_region_held3 (fun W => W.cell? ⟨w.heap.size, 4, none⟩ = some (.int .i64 c) ∧ W.cell? ⟨w.heap.size, 5, none⟩ = some (.string b) ∧ Below (w.alloc (.cells #[.int .i64 f, .int .i64 e, .int .i64 n, .int .i64 sz, .int .i64 c, .string b] 57)).heap.size (w.alloc (.cells #[.int .i64 f, .int .i64 e, .int .i64 n, .int .i64 sz, .int .i64 c, .string b] 57)) W) (first | exact HS0.out | assumption | go_keep)
    (first
      | (go_at_call 42; refine (CK2.out _ (And.right (And.right (by assumption)))).mono ?_; rintro x w3 ⟨rfl, b3⟩; have h3 := HS.out w3 (Below.trans (And.right (And.right (by assumption))) (b3.mono (Below.size (And.right (And.right (by assumption)))))))
      | fail)
  rename_i hh
  rename_i w3 _
  have HH := Lib.hid hh.2.2
  clear hh HS HS0 CK2
  replace RB := Lib.hid (RB.out.keep HH.out)
  replace KB := Lib.hid (KB.out.trans (HH.out.mono KB.out.size))
  clear HH
  obtain ⟨gs, hgs⟩ : ∃ gs, w3.heap.size = gs := ⟨_, rfl⟩
  obtain ⟨ga, hga⟩ : ∃ ga, w3.heap.size + 1 = ga := ⟨_, rfl⟩
  have CRD : Hid (Calls Tryd.prog 49 #[.string b, .int .i64 0] w3 (fun e w2 => e = .returned (.func (.func 72) #[] #[.pointer (some ⟨gs, 0, none⟩), .pointer (some ⟨ga, 0, none⟩)]) ∧ RowAt w2 gs 9 #[.string b] ∧ RowAt w2 ga 3 #[.int .i64 0] ∧ Below w3.heap.size w3 w2)) := Lib.hid (by
    refine (reader_any b 0 _).mono ?_
    rintro e w2 ⟨F, rfl, ⟨_, _, _, rfl, r1, r2⟩, b⟩
    rw [hgs] at r1
    rw [hga] at r2
    exact ⟨by rw [hga, hgs], r1, r2, b⟩)
  have O1 : w.heap.size < gs := by rw [← hgs]; exact RB.out.lt
  have O2 : gs < ga := by omega
  have hne : gs ≠ ga := by omega
  have k5 : w3.cell? ⟨w.heap.size, 5, none⟩ = some (.string b) := RB.out.cell 5
  clear hgs hga
  go_wp2_with (first
    | (go_at_call 49; go_must (refine CRD.out.mono ?_; rintro e4 w4 ⟨rfl, hS, hA, hb⟩; replace RB := Lib.hid (RB.out.keep hb); replace KB := Lib.hid (KB.out.trans (hb.mono KB.out.size)); have RS := Lib.hid hS; have RA := Lib.hid hA; have k2 : w4.cell? ⟨w.heap.size, 2, none⟩ = some (.int .i64 n) := RB.out.cell 2; clear hS hA hb CRD k5))
    | (at_make; go_must (refine wpList_make_k (n := n) (enc := Si.rnC) (B := w4.heap.size) Tryd.underlying23 Si.run_info ((0, 0) : Si.Rn) rfl rfl rfl _ _ rfl rfl rfl rfl rfl (by omega) (by omega) (Nat.le_refl _) ?_; intro w5 R5 b5))
    | fail)
  have HR5 := Lib.hid (KRow.rowAt R5)
  have O3 : ga < w4.heap.size := RA.out.lt
  replace RB := Lib.hid (RB.out.keep b5)
  replace RS := Lib.hid (RS.out.keep b5)
  replace RA := Lib.hid (RA.out.keep b5)
  replace KB := Lib.hid (KB.out.trans (b5.mono KB.out.size))
  clear R5 b5 k2
  obtain ⟨G, hG⟩ : ∃ G, w4.heap.size = G := ⟨_, rfl⟩
  rw [hG] at HR5 O3 ⊢
  clear hG
  go_loopw [8, 25] (fun x i wr => ∃ (X : List Si.Rn) (a S : Nat), X.length ≤ n ∧ x = .int .i64 S ∧ i = .int .i64 X.length ∧ S ≤ X.length * 1099511627776 ∧ a ≤ b.size ∧ Hid (Si.lg X = S) ∧ Hid (aB X (rB b.data.toList M (n - X.length) a) = rB b.data.toList M n 0) ∧ Hid (RowAt wr G 49 (kCs Si.rnC (rnW X (n - X.length))).toArray) ∧ Hid (RowAt wr w.heap.size 57 #[.int .i64 f, .int .i64 e, .int .i64 n, .int .i64 sz, .int .i64 c, .string b]) ∧ Hid (RowAt wr gs 9 #[.string b]) ∧ Hid (RowAt wr ga 3 #[.int .i64 a]) ∧ Hid (Below w.heap.size w wr)) (fun _ i _ => n - (intOf i).toNat)
  case atStart => exact ⟨[], 0, 0, Nat.zero_le _, rfl, rfl, Nat.zero_le _, Nat.zero_le _, Lib.hid rfl, Lib.hid (aB_nil _), Lib.hid HR5.out.1, RB, RS, RA, KB⟩
  case round =>
    clear RB RS RA KB HR5
    obtain ⟨X, a, S, hX, rfl, rfl, hS, ha, HLG, HA, HR, RB, RS, RA, KB⟩ := hrel
    by_cases hlt : X.length < n
    · obtain ⟨m, hm⟩ : ∃ m, n - X.length = m + 1 := ⟨n - X.length - 1, by omega⟩
      obtain ⟨k, hk⟩ : ∃ k, X.length = k := ⟨_, rfl⟩
      have HKX := Lib.hid hk
      have HM := Lib.hid hm
      rw [hm] at HA HR
      rw [hk]
      have hki : (k : Int) < n := by omega
      have hsh := HSH.out
      have hwr : ga < wr.heap.size ∧ gs < wr.heap.size ∧ G < wr.heap.size := ⟨RA.out.lt, RS.out.lt, HR.out.lt⟩
      clear hm
      have hw1 : IntKind.i64.wrap ((M : Int) + 1) = (M : Int) + 1 := IntWalk.i64_in _ (by have := HMB.out; omega)
      have hw2 : IntKind.i64.wrap ((M : Int) + 1 - 1) = (M : Int) := by rw [Int.add_sub_cancel]; exact IntWalk.i64_in _ (by have := HMB.out; omega)
      have hw3 : IntKind.i64.wrap (M : Int) = (M : Int) := IntWalk.i64_in _ (by have := HMB.out; omega)
      have hs9 : b.size ≤ 9223372036854775807 := by omega
      have ONE : gs ≠ G ∧ ga ≠ G ∧ w.heap.size ≠ G ∧ w.heap.size ≠ ga ∧ gs ≠ w.heap.size := ⟨by omega, by omega, by omega, by omega, by omega⟩
      have CR := Lib.hid (fun W F1 F2 (f1 : NumF wr.heap.size W F1 G (k * 2) M) (f2 : NumF wr.heap.size W F2 G (k * 2 + 1) 1099511627776) (hb : Below wr.heap.size wr.drew W) => readNS_any (a := a) hs9 (by have := HMB.out; omega) (by decide) hne (RowAt.below (w := wr.drew) RS.out hb hwr.2.1) (RowAt.below (w := wr.drew) RA.out hb hwr.1) f1 f2 (RowAt.below (w := wr.drew) HR.out hb hwr.2.2) (by rw [rnW_size]; omega) (by rw [rnW_size]; omega) ⟨by omega, by omega⟩ hwr.2.2 hwr.1)
      have HY1 := Lib.hid (fun (h : r1k b.data.toList M a) => rB_yes (n := m) h X)
      have HY2 := Lib.hid (fun (h : ¬ r1k b.data.toList M a) => rB_no (n := m) h X)
      unfold r1k at HY1 HY2
      have HNX := Lib.hid (rN_next b.data.toList (rN b.data.toList a M).2.1 1099511627776 (rN_next b.data.toList a M (by have := HSL.out; omega)))
      have HV2 := Lib.hid (rN_le b.data.toList (rN b.data.toList a M).2.1 1099511627776).1
      generalize hp2 : rN b.data.toList (rN b.data.toList a M).2.1 1099511627776 = p2 at *
      generalize hp1 : rN b.data.toList a M = p1 at *
      obtain ⟨v1, a1, e1⟩ := p1
      obtain ⟨v2, a2, e2⟩ := p2
      obtain ⟨e12, h12⟩ : ∃ e12, (if e1 = 0 then e2 else e1) = e12 := ⟨_, rfl⟩
      simp only at CR HY1 HY2 HNX HV2
      rw [h12] at CR
      have HE := Lib.hid (show e12 = 0 ↔ e1 = 0 ∧ e2 = 0 by
        by_cases c : e1 = 0
        · rw [if_pos c] at h12; subst h12; exact ⟨fun h => ⟨c, h⟩, fun h => h.2⟩
        · rw [if_neg c] at h12; subst h12; exact ⟨fun h => absurd h c, fun h => absurd h.1 c⟩)
      clear hp1 hp2 h12
      go_wp2
      go_region_held3 (fun _ => True) (first | trivial | assumption | go_keep)
        (first
          | (go_at_call 51; first
            | (have tok := T1.out; refine (number_any _ _ _ _).mono ?_; rintro e w6 ⟨F2, rfl, hF2, b6⟩; have tr : True := trivial; have B6 := Lib.hid (B5.out.trans (b6.mono B5.out.size)); have CR6 := Lib.hid (CR.out w6 _ _ (HF1.out.keep (X := []) (Kp.of_below b6) (by simp)) (hF2.mono B5.out.size) B6.out); obtain ⟨p3, p4, _, _, rfl, _, _⟩ := hF2; clear T1 HF1 b6 B5 CR)
            | ((with_reducible refine (number_any _ _ _ _).mono ?_); rintro e w5 ⟨F1, rfl, hF1, b5⟩; have tr : True := trivial; have T1 := Lib.hid trivial; have B5 := Lib.hid (show Below wr.heap.size wr.drew w5 from b5); have HF1 := Lib.hid hF1; obtain ⟨p1, p2, _, _, rfl, _, _⟩ := hF1; clear b5))
          | (go_at_call 72; (with_reducible refine CR6.out.mono ?_); rintro e w7 ⟨er, a7, rfl, hE, hK, hP⟩; have tr : True := trivial; obtain rfl : er = e12 := hE; have K7 := Lib.hid hK; have P7 := Lib.hid hP; clear hK hP CR6)
          | fail)
      have KB6 := KB.out.drew.trans (B6.out.mono KB.out.size)
      have KB7 := Lib.hid ((KB6.alloc KB6.size _).trans (K7.out.below (B := w.heap.size) (by simp; omega) (le_alloc KB6.size _)))
      have RB7 := Lib.hid (K7.out.row ((RowAt.below (w := wr.drew) RB.out B6.out RB.out.lt).alloc _) (show w.heap.size ∉ [G, ga] by simp; exact ⟨ONE.2.2.1, ONE.2.2.2.1⟩))
      have RS7 := Lib.hid (K7.out.row ((RowAt.below (w := wr.drew) RS.out B6.out hwr.2.1).alloc _) (show gs ∉ [G, ga] by simp; exact ⟨ONE.1, hne⟩))
      clear KB6 RB RS KB RA HR K7 B6 tok
      by_cases hE0 : er = 0
      · subst hE0
        obtain ⟨q1, q2, q3⟩ := P7.out rfl
        have RA7 := Lib.hid q2
        have HR7 := Lib.hid (show RowAt w7 G 49 (kCs Si.rnC (rnW (X ++ [((v1 : Int), (v2 : Int))]) m)).toArray by
          rw [← rnW_set, HKX.out]; exact q3)
        have c1 : w7.cell? ⟨G, k * 2 + 1, none⟩ = some (.int .i64 v2) := by
          rw [HR7.out.cell, ← HKX.out]
          have h := kCs_at Si.rnC_size (rnW (X ++ [((v1 : Int), (v2 : Int))]) m) X.length (by unfold rnW; simp) 1 (by omega)
          rw [List.getElem?_toArray, h]
          have hx : (rnW (X ++ [((v1 : Int), (v2 : Int))]) m)[X.length]'(by unfold rnW; simp) = (((v1 : Int), (v2 : Int)) : Si.Rn) := by
            unfold rnW
            rw [List.getElem_append_left (by simp)]
            simp
          rw [hx]
          rfl
        obtain ⟨ee1, ee2⟩ := HE.out.1 rfl
        clear P7 q2 q3 q1
        by_cases hv : v2 = 0
        · have hv' : ((v2 : Int) == 0) = true := by simp; omega
          have HN := Lib.hid (rBk_none (c := c) (d := e - f) (HA.out.symm.trans (HY2.out (fun h => h.2.2 hv))))
          clear HA HY1 HY2 hv HE ee1 ee2
          go_wp2
          go_returns
          exact BkR.no HN.out KB7.out
        · have hv' : ((v2 : Int) == 0) = false := by simp; omega
          have HA7 := Lib.hid ((HY1.out ⟨ee1, ee2, hv⟩).symm.trans HA.out)
          have hSb : S + v2 ≤ 16 * 1099511627776 + 1099511627776 := by have := HV2.out; omega
          have hvb : v2 ≤ 1099511627776 := HV2.out
          have hkn : (k : Int) < 16 := by omega
          have HL7 := Lib.hid (show Si.lg (X ++ [((v1 : Int), (v2 : Int))]) = ((S + v2 : Nat) : Int) by
            rw [Si.lg_append, Si.lg_one, HLG.out]; simp)
          clear HA HY1 HY2 hv HE ee1 ee2
          go_wp2
          go_roundw
          case rel =>
            have hlen : (X ++ [((v1 : Int), (v2 : Int))]).length = k + 1 := by rw [List.length_append, HKX.out]; rfl
            have hm2 : n - (k + 1) = m := by have := HM.out; have := HKX.out; omega
            refine ⟨X ++ [((v1 : Int), (v2 : Int))], a2, S + v2, by rw [hlen]; omega, val_int (by omega), val_int (by rw [hlen]; omega), by rw [hlen]; have := HKX.out; omega, by have := HNX.out; have := HSL.out; omega, HL7, ?_, ?_, RB7, RS7, RA7, KB7⟩
            · rw [hlen, hm2]; exact HA7
            · rw [hlen, hm2]; exact HR7
          case measure => simp [intOf]; omega
      · have hE' : ((er : Int) != 0) = true := by simp; omega
        have HN := Lib.hid (rBk_none (c := c) (d := e - f) (HA.out.symm.trans (HY2.out (fun h => hE0 (HE.out.2 ⟨h.1, h.2.1⟩)))))
        clear HA HY1 HY2 HE P7
        go_wp2
        go_returns
        exact BkR.no HN.out KB7.out
    · have hn0 : n - X.length = 0 := by omega
      have hXn : X.length = n := by omega
      have hlti : ¬ (X.length : Int) < n := by omega
      rw [hn0] at HA HR
      have HB2 := Lib.hid (show rB b.data.toList M n 0 = some (X, a) by rw [← HA.out, rB_0])
      have HBK := Lib.hid (rBk_some (d := e - f) HCK.out HB2.out)
      have HXN := Lib.hid hXn
      clear hXn hn0
      have hwr : ga < wr.heap.size ∧ gs < wr.heap.size ∧ G < wr.heap.size := ⟨RA.out.lt, RS.out.lt, HR.out.lt⟩
      have c0 : wr.cell? ⟨w.heap.size, 0, none⟩ = some (.int .i64 f) := RB.out.cell 0
      have c1 : wr.cell? ⟨w.heap.size, 1, none⟩ = some (.int .i64 e) := RB.out.cell 1
      have hSi : (S : Int) ≤ 16 * 1099511627776 := by omega
      have hfi : (f : Int) ≤ e := by omega
      have hei : (e : Int) ≤ 1099511627776 := by omega
      by_cases hSd : S = e - f
      · have hSd' : ((S : Int) != ((e : Int) - (f : Int))) = false := by simp; omega
        have CRN := Lib.hid (show Calls Tryd.prog 72 #[.slice (some ⟨wr.heap.size, 0, none⟩) 1 1, .pointer (some ⟨gs, 0, none⟩), .pointer (some ⟨ga, 0, none⟩)] (wr.alloc (.cells #[.func (.func 61) #[] #[]] 90)) (QF (RdR ga a (if a < b.size then 4 else 0) [ga] (wr.alloc (.cells #[.func (.func 61) #[] #[]] 90)) fun w' => True)) from read1_none (s := b) (gs := gs) (ga := ga) (g := wr.heap.size) (a := a) ⟨RS.out.alloc _, RA.out.alloc _, RowAt.new wr _ _⟩ hne (by omega) (by omega) ha)
        have HOG := Lib.hid (fun g (hg : (Value.slice (some ⟨G, 0, none⟩) n n).ownBlock = some g) => show g = G by cases hg; rfl)
        by_cases hab : a < b.size
        · rw [if_pos hab] at CRN
          have HN := Lib.hid (show rBk b.data.toList M n c (e - f) = none by
            rw [HBK.out, if_neg (fun h => by have := h.1; have := HSL.out; omega)])
          clear hSd HBK HB2 HA
          go_wp2_with (first
            | (go_at_call 72; go_must (refine CRN.out.mono ?_; rintro e9 w9 ⟨er, a9, rfl, hE, hK, _⟩; obtain rfl : er = 4 := hE; have KB9 := Lib.hid ((KB.out.alloc KB.out.size _).trans (hK.below (B := w.heap.size) (by simp; omega) (le_alloc KB.out.size _))); clear hK CRN))
            | fail)
          go_returns
          exact BkR.no HN.out KB9.out
        · rw [if_neg hab] at CRN
          have HN := Lib.hid (show rBk b.data.toList M n c (e - f) = some X by
            rw [HBK.out, if_pos ⟨by have := HSL.out; omega, by have := HLG.out; omega⟩])
          have HRX := Lib.hid (show Si.RnRow wr (w.heap.size + 1) (.slice (some ⟨G, 0, none⟩) n n) X from KRow.of_rowAt Si.rnC_size (by have h := HR.out; unfold rnW at h; simpa using h) (by omega) HXN.out.symm (by simp only [maxLen]; omega))
          clear hSd HBK HB2 HA
          go_wp2_with (first
            | (go_at_call 72; go_must (refine CRN.out.mono ?_; rintro e9 w9 ⟨er, a9, rfl, hE, hK, _⟩; obtain rfl : er = 0 := hE; have KB9 := Lib.hid ((KB.out.alloc KB.out.size _).trans (hK.below (B := w.heap.size) (by simp; omega) (le_alloc KB.out.size _))); have HR9 := Lib.hid (KRow.kp (KRow.alloc HRX.out _) hK (fun g hg => by have := HOG.out g hg; simp; omega)); clear hK CRN))
            | fail)
          go_returns
          rw [HN.out]
          exact ⟨_, 0, rfl, ⟨_, _, _, rfl⟩, rfl, KRow.mono HR9.out (by omega), KB9.out⟩
      · have hSd' : ((S : Int) != ((e : Int) - (f : Int))) = true := by simp; omega
        have HN := Lib.hid (show rBk b.data.toList M n c (e - f) = none by
          rw [HBK.out, if_neg (fun h => hSd (by have := h.2; have := HLG.out; omega))])
        clear hSd HBK HB2 HA
        go_wp2
        go_returns
        exact BkR.no HN.out KB.out

end Go.Proofs.YtillcmddbjhepaaDoor

namespace Go.Proofs.YtillcmddbjhepaaDoor
open Go Go.RowKit Go.Joins
set_option linter.unusedVariables false
set_option linter.unusedSimpArgs false

theorem rB_len {s : List UInt8} {m : Nat} : ∀ {n a : Nat} {L : List Si.Rn} {b : Nat}, rB s m n a = some (L, b) → L.length = n
  | 0, a, L, b, h => by rw [rB] at h; injection h with h; injection h with h _; subst h; rfl
  | n + 1, a, L, b, h => by
    rw [rB] at h
    split at h
    · rename_i hc
      cases hr : rB s m n (rN s (rN s a m).2.1 1099511627776).2.1 with
      | none => rw [hr] at h; cases h
      | some p =>
        rw [hr] at h
        obtain ⟨L', b'⟩ := p
        have := rB_len hr
        simp only [Option.map_some, Option.some.injEq, Prod.mk.injEq] at h
        rw [← h.1, List.length_cons, this]
    · cases h
theorem rBk_len {s : List UInt8} {m n c d : Nat} {L : List Si.Rn} (h : rBk s m n c d = some L) : L.length = n := by
  unfold rBk at h
  split at h
  · cases hr : rB s m n 0 with
    | none => rw [hr] at h; cases h
    | some p =>
      rw [hr] at h
      obtain ⟨L', b'⟩ := p
      simp only at h
      split at h
      · injection h with h; subst h; exact rB_len hr
      · cases h
  · cases h

/-- The runs of a block, of some blocks. -/
def pBk (ch : Nat) (p : Pt) : Option (List Si.Rn) := rBk p.2.2.2.2.2.data.toList (2 ^ ch - 1) p.2.2.1 p.2.2.2.2.1 (p.2.1 - p.1)
def pBs (ch : Nat) : List Pt → Option (List Si.Rn)
  | [] => some []
  | p :: r => match pBk ch p with
    | none => none
    | some L => (pBs ch r).map fun M => L ++ M
def aP (X : List Si.Rn) (r : Option (List Si.Rn)) : Option (List Si.Rn) := r.map fun M => X ++ M
theorem aP_nil (r : Option (List Si.Rn)) : aP [] r = r := by cases r <;> rfl
theorem pBs_yes {ch : Nat} {P : List Pt} {j : Nat} (hj : j < P.length) {L : List Si.Rn} (h : pBk ch P[j] = some L) (X : List Si.Rn) : aP X (pBs ch (P.drop j)) = aP (X ++ L) (pBs ch (P.drop (j + 1))) := by
  rw [List.drop_eq_getElem_cons hj, pBs, h]
  unfold aP
  cases pBs ch (P.drop (j + 1)) with
  | none => rfl
  | some M => simp
theorem pBs_no {ch : Nat} {P : List Pt} {j : Nat} (hj : j < P.length) (h : pBk ch P[j] = none) (X : List Si.Rn) : aP X (pBs ch (P.drop j)) = none := by
  rw [List.drop_eq_getElem_cons hj, pBs, h]; rfl
def okP (p : Pt) : Prop := p.1 ≤ p.2.1 ∧ p.2.1 ≤ 1099511627776 ∧ p.2.2.1 ≤ 16 ∧ p.2.2.2.2.2.size ≤ 140737488351232

set_option maxRecDepth 100000 in
set_option maxHeartbeats 4000000 in
theorem readParts_any (P : List Pt) (vQ vP : Value) (nA : Option Addr) (ch nc T : Nat) (w : World) (hE : Sd.Env w) (hQ : PtArg w vQ P) (hP : ∀ p ∈ P, okP p) (hl : P.length ≤ 16384) (hc : ch ≤ 16) :
    Calls Tryd.prog 27 #[.agg #[.slice nA ch nc, .int .i64 T, vP], vQ] w (BkR (pBs ch P) w) := by
  obtain ⟨qA, qc, rfl⟩ := KArg.form hQ
  have RB := Lib.hid (RowAt.new w 61 #[.slice nA ch nc, .int .i64 T, vP])
  have KB := Lib.hid (ba w (.cells #[.slice nA ch nc, .int .i64 T, vP] 61))
  have HQ := Lib.hid hQ
  have HP := Lib.hid (fun j (hj : j < P.length) => hP _ (List.getElem_mem hj))
  have CP := Lib.hid (fun (p : Pt) (hp : okP p) W (hb : Below w.heap.size w W) => readPart_any p.1 p.2.1 p.2.2.1 p.2.2.2.1 p.2.2.2.2.1 p.2.2.2.2.2 ch W (hE.below hb) hp.2.2.2 hc hp.2.2.1 hp.1 hp.2.1)
  have hli : (P.length : Int) ≤ 16384 := by omega
  clear hQ hP hE
  go_enter Tryd.func27, Tryd.ntmps27
  go_wp2
  go_loopw [6, 13] (fun v i wr => ∃ (X : List Si.Rn) (j : Nat), j ≤ P.length ∧ i = .int .i64 j ∧ X.length ≤ 16 * j ∧ Hid (aP X (pBs ch (P.drop j)) = pBs ch P) ∧ Hid (Si.RnRow wr (w.heap.size + 1) v X) ∧ Hid (RowAt wr w.heap.size 61 #[.slice nA ch nc, .int .i64 T, vP]) ∧ Hid (Below w.heap.size w wr)) (fun _ i _ => P.length - (intOf i).toNat)
  case atStart => exact ⟨[], 0, Nat.zero_le _, rfl, Nat.zero_le _, Lib.hid (aP_nil _), Lib.hid (KRow.nil _ _), RB, KB⟩
  case round =>
    clear RB KB
    obtain ⟨X, j, hj, rfl, hX, HA, HR, RB, KB⟩ := hrel
    obtain ⟨xA, xn, xc, rfl, hxn⟩ := KRow.form HR.out
    clear hxn
    by_cases hlt : j < P.length
    · obtain ⟨_, _, e1, q1⟩ := HQ.out
      obtain ⟨g, o, rfl, hg, hcl⟩ := q1 (by omega)
      simp only [Value.slice.injEq, true_and, and_true] at e1
      obtain ⟨rfl, rfl⟩ := e1
      obtain ⟨a0, a1, a2, a3, a4, a5⟩ := arg_six hcl j hlt
      have f0 := (KB.out.cell (p := ⟨g, o + j * 6, none⟩) hg).trans a0
      have f1 := (KB.out.cell (p := ⟨g, o + j * 6 + 1, none⟩) hg).trans a1
      have f2 := (KB.out.cell (p := ⟨g, o + j * 6 + 2, none⟩) hg).trans a2
      have f3 := (KB.out.cell (p := ⟨g, o + j * 6 + 3, none⟩) hg).trans a3
      have f4 := (KB.out.cell (p := ⟨g, o + j * 6 + 4, none⟩) hg).trans a4
      have f5 := (KB.out.cell (p := ⟨g, o + j * 6 + 5, none⟩) hg).trans a5
      have hji : (j : Int) < P.length := by omega
      have h0 : wr.cell? ⟨w.heap.size, 0, none⟩ = some (.slice nA ch nc) := RB.out.cell 0
      have CP1 := Lib.hid (fun W hb => CP.out P[j] (HP.out j hlt) W hb)
      have HY := Lib.hid (fun L (h : pBk ch P[j] = some L) => pBs_yes hlt h X)
      have HN := Lib.hid (fun (h : pBk ch P[j] = none) => pBs_no hlt h X)
      have HLL := Lib.hid (fun L (h : pBk ch P[j] = some L) => show L.length ≤ 16 by
        have h1 := rBk_len h
        have h2 := (HP.out j hlt).2.2.1
        omega)
      obtain ⟨q, hq⟩ : ∃ q, pBk ch P[j] = q := ⟨_, rfl⟩
      rw [hq] at HY HN HLL
      unfold pBk at hq
      rw [hq] at CP1
      generalize P[j].1 = p0 at *
      generalize P[j].2.1 = p1 at *
      generalize P[j].2.2.1 = p2 at *
      generalize P[j].2.2.2.1 = p3 at *
      generalize P[j].2.2.2.2.1 = p4 at *
      generalize P[j].2.2.2.2.2 = p5 at *
      have hwlt : w.heap.size < wr.heap.size := RB.out.lt
      clear hcl q1 a0 a1 a2 a3 a4 a5 hq CP
      cases q with
      | none =>
        have HF := Lib.hid (show pBs ch P = none by rw [← HA.out]; exact HN.out rfl)
        clear HY HN HLL HA
        go_wp2_with (first
          | (go_at_call 35; go_must (refine (CP1.out _ (KB.out.alloc KB.out.size _)).mono ?_; rintro e w6 ⟨v, er, rfl, ⟨rA, rn, rc, rfl⟩, hE, _, hb⟩; obtain rfl : er = 12 := hE; have KB6 := Lib.hid ((KB.out.alloc KB.out.size _).trans (hb.mono (le_alloc KB.out.size _))); clear hb CP1))
          | fail)
        go_returns
        exact BkR.no HF.out KB6.out
      | some L =>
        have HA2 := Lib.hid ((HY.out L rfl).symm.trans HA.out)
        have HL16 := Lib.hid (HLL.out L rfl)
        have hL16 : L.length ≤ 16 := HL16.out
        clear HY HN HLL HA
        go_wp2_with (first
          | (go_at_call 35; go_must (refine (CP1.out _ (KB.out.alloc KB.out.size _)).mono ?_; rintro e w6 ⟨v, er, rfl, ⟨rA, rn, rc, rfl⟩, hE, hr, hb⟩; obtain rfl : er = 0 := hE; have KB6 := Lib.hid ((KB.out.alloc KB.out.size _).trans (hb.mono (le_alloc KB.out.size _))); have RB6 := Lib.hid ((RB.out.alloc _).keep hb); have HR6 := Lib.hid (KRow.keep (KRow.alloc HR.out _) hb); have RG6 := Lib.hid (KRow.arg Si.rnC_size hr); clear hb hr CP1))
          | (refine wpList_append_arg (o := ⟨some 30, _, _, _, _, _⟩) Tryd.underlying23 Si.run_info rfl (by omega) Si.rnC_size Si.rnC_one rfl (.tmp 28) (.tmp 29) rfl rfl rfl HR6.out RG6.out (show w.heap.size + 1 ≤ w6.heap.size by have := RB6.out.lt; omega) (by simp; omega) (by simp; omega) ?_; intro v7 w7 r7 b7)
          | fail)
        go_roundw
        case rel => exact ⟨X ++ L, j + 1, by omega, val_int (by omega), by rw [List.length_append]; omega, HA2, Lib.hid r7, Lib.hid (RB6.out.below b7 (Nat.lt_succ_self _)), Lib.hid (KB6.out.trans (b7.mono (Nat.le_succ _)))⟩
        case measure => simp [intOf]; omega
    · have hd : P.drop j = [] := List.drop_of_length_le (by omega)
      rw [hd] at HA
      have HF := Lib.hid (show pBs ch P = some X by rw [← HA.out]; unfold aP pBs; simp)
      have hji : ¬ (j : Int) < P.length := by omega
      clear hd HA
      go_wp2
      go_returns
      rw [HF.out]
      exact ⟨_, 0, rfl, ⟨_, _, _, rfl⟩, rfl, KRow.mono HR.out (by omega), KB.out⟩

end Go.Proofs.YtillcmddbjhepaaDoor

namespace Go.Proofs.YtillcmddbjhepaaDoor
open Go Go.RowKit Go.Joins
open Go.BigFrame
set_option linter.unusedVariables false
set_option linter.unusedSimpArgs false

def l0 (l : List Si.Rn) (i : Nat) : Int := (l.getD i (0, 0)).1
theorem l0_at {l : List Si.Rn} {i : Nat} (h : i < l.length) : l0 l i = l[i].1 := by
  unfold l0; rw [List.getD_eq_getElem?_getD, List.getElem?_eq_getElem h]; rfl
/-- Successive runs have different levels. -/
def clP (l : List Si.Rn) : Prop := ∀ i, i < l.length → 0 < i → l0 l (i - 1) ≠ l0 l i
instance (l : List Si.Rn) : Decidable (clP l) := by unfold clP; exact inferInstance

set_option maxRecDepth 100000 in
set_option maxHeartbeats 2000000 in
theorem isClean_any (l : List Si.Rn) (v : Value) (w : World) (hT : Si.RnArg w v l) (hn : l.length ≤ 1099511627776) :
    Calls Tryd.prog 28 #[v] w fun e w' => e = .returned (.bool (decide (clP l))) ∧ Below w.heap.size w w' := by
  obtain ⟨A, c, rfl⟩ := KArg.form hT
  have HT := Lib.hid hT
  have hli : (l.length : Int) ≤ 1099511627776 := by omega
  clear hT
  go_enter Tryd.func28, Tryd.ntmps28
  go_wp2
  go_loopw [6] (fun i wr => ∃ j : Nat, j ≤ l.length ∧ i = .int .i64 j ∧ Hid (∀ i, i < j → 0 < i → l0 l (i - 1) ≠ l0 l i) ∧ Hid (Below w.heap.size w wr)) (fun i _ => l.length - (intOf i).toNat)
  case atStart => exact ⟨0, Nat.zero_le _, rfl, Lib.hid (fun i h => absurd h (by omega)), Lib.hid (Below.refl _ _)⟩
  case round =>
    obtain ⟨j, hj, rfl, HA, KB⟩ := hrel
    by_cases hlt : j < l.length
    · obtain ⟨_, _, e1, q1⟩ := HT.out
      obtain ⟨g, o, rfl, hg, hcl⟩ := q1 (by omega)
      simp only [Value.slice.injEq, true_and, and_true] at e1
      obtain ⟨rfl, rfl⟩ := e1
      have cell : ∀ i (hi : i < l.length), wr.cell? ⟨g, o + i * 2, none⟩ = some (.int .i64 l[i].1) := fun i hi => (KB.out.cell (p := ⟨g, o + i * 2, none⟩) hg).trans (hcl i hi 0 (by omega))
      have f0 := cell j hlt
      have hji : (j : Int) < l.length := by omega
      rcases j with _ | i1
      · rw [Nat.zero_mul, Nat.add_zero] at f0
        have HA2 := Lib.hid (show ∀ i, i < 0 + 1 → 0 < i → l0 l (i - 1) ≠ l0 l i from fun i h1 h2 => absurd h1 (by omega))
        clear hcl cell q1
        go_wp2
        go_big_quiet (fail)
        go_wp2
        go_roundw
        case rel => exact ⟨1, by omega, by first | rfl | exact val_int (by omega), HA2, Lib.hid (Go.below_drewN KB.out _)⟩
        case measure => simp [intOf]; omega
      · have f1 := cell i1 (by omega)
        have hx := l0_at hlt
        have hy := l0_at (show i1 < l.length by omega)
        have hi0 : (0 : Int) < ((i1 + 1 : Nat) : Int) := by omega
        have hi1 : ((i1 + 1 : Nat) : Int) - 1 = (i1 : Int) := by omega
        have hi2 : IntKind.i64.wrap (((i1 + 1 : Nat) : Int) - 1) = (i1 : Int) := by rw [hi1]; exact IntWalk.i64_in _ (by omega)
        have hi3 : decide ((0 : Int) < ((i1 + 1 : Nat) : Int)) = true := decide_eq_true hi0
        have hi4 : (i1 : Int) < l.length := by omega
        have hi5 : i1 < l.length := by omega
        have hi6 : ((i1 + 1 : Nat) : Int) ≤ 1099511627776 := by omega
        have HAX := Lib.hid (fun (h : l[i1].1 ≠ (l[i1 + 1]'hlt).1) => show ∀ i, i < i1 + 1 + 1 → 0 < i → l0 l (i - 1) ≠ l0 l i from fun i h1 h2 => by
          rcases Nat.lt_succ_iff_lt_or_eq.1 h1 with e | e
          · exact HA.out i e h2
          · subst e; rw [Nat.add_sub_cancel, hx, hy]; exact h)
        have HAN := Lib.hid (fun (h : l[i1].1 = (l[i1 + 1]'hlt).1) => show decide (clP l) = false from decide_eq_false fun hcp => hcp (i1 + 1) hlt (by omega) (by rw [Nat.add_sub_cancel, hx, hy]; exact h))
        clear hx hy hcl cell q1
        generalize l[i1].1 = y at *
        generalize (l[i1 + 1]'hlt).1 = x at *
        by_cases hxy : y = x
        · have HF := Lib.hid (HAN.out hxy)
          have hq : (x == y) = true := by simp; omega
          clear HAX HAN hxy HA hi4 hi5 hi6
          go_wp2
          go_big_quiet (fail)
          go_wp2
          go_returns
          exact ⟨by rw [HF.out]; rfl, Go.below_drewN KB.out _⟩
        · have HA2 := Lib.hid (HAX.out hxy)
          have hq : (x == y) = false := by simp; omega
          clear HAX HAN hxy HA hi4 hi5 hi6
          go_wp2
          go_big_quiet (fail)
          go_wp2
          go_roundw
          case rel => exact ⟨i1 + 1 + 1, by omega, val_int (by omega), HA2, Lib.hid (Go.below_drewN KB.out _)⟩
          case measure => simp [intOf]; omega
    · have HF := Lib.hid (show decide (clP l) = true from decide_eq_true fun i h1 h2 => HA.out i (by omega) h2)
      have hji : ¬ (j : Int) < l.length := by omega
      clear HA
      go_wp2
      go_returns
      exact ⟨by rw [HF.out]; rfl, KB.out⟩

end Go.Proofs.YtillcmddbjhepaaDoor

namespace Go.Proofs.YtillcmddbjhepaaDoor
open Go Go.RowKit Go.Joins
open Go.BigFrame
set_option linter.unusedVariables false
set_option linter.unusedSimpArgs false

/-- The end of block t. -/
def pE (P : List Pt) (t : Nat) : Nat := (P.getD t (0, 0, 0, 0, 0, ⟨#[]⟩)).2.1
theorem pE_at {P : List Pt} {t : Nat} (h : t < P.length) : pE P t = P[t].2.1 := by
  unfold pE; rw [List.getD_eq_getElem?_getD, List.getElem?_eq_getElem h]; rfl
/-- The first block that ends behind a tick. -/
def FdI (P : List Pt) (at_ : Int) (k : Nat) : Prop := k ≤ P.length ∧ (∀ t, t < k → (pE P t : Int) ≤ at_) ∧ (∀ t, k ≤ t → t < P.length → at_ < (pE P t : Int))
def FdQ (P : List Pt) (at_ : Int) (w : World) (e : Ending) (w' : World) : Prop := ∃ k : Nat, e = .returned (.int .i64 k) ∧ FdI P at_ k ∧ Below w.heap.size w w'

set_option maxRecDepth 20000 in
set_option maxHeartbeats 1000000 in
theorem find1_any (P : List Pt) (vN vP : Value) (T bh ba i : Nat) (at_ : Int) (w : World) (hP : PtArg w vP P) (h1 : RowAt w bh 61 #[vN, .int .i64 T, vP]) (h2 : RowAt w ba 3 #[.int .i64 at_]) (hi : i < P.length) (hl : P.length ≤ 16384) :
    Calls Tryd.prog 60 #[.int .i64 i, .pointer (some ⟨ba, 0, none⟩), .pointer (some ⟨bh, 0, none⟩)] w fun e w' => e = .returned (.bool (decide (at_ < (pE P i : Int)))) ∧ Below w.heap.size w w' := by
  obtain ⟨A, c, rfl, q1⟩ := hP
  obtain ⟨g, o, rfl, hg, hcl⟩ := q1 (by omega)
  have c1 : w.cell? ⟨g, o + i * 6 + 1, none⟩ = some (.int .i64 (pE P i)) := by rw [pE_at hi]; exact hcl i hi 1 (by omega)
  have c2 : w.cell? ⟨bh, 2, none⟩ = some (.slice (some ⟨g, o, none⟩) P.length c) := h1.cell 2
  have c3 : w.cell? ⟨ba, 0, none⟩ = some (.int .i64 at_) := h2.cell 0
  have hii : (i : Int) < P.length := by omega
  clear hcl q1 h1 h2
  generalize pE P i = x at *
  go_enter Tryd.func60, Tryd.ntmps60
  go_wp2
  go_big_quiet (fail)
  go_wp2
  go_returns
  exact ⟨rfl, Go.below_drewN (Below.refl _ _) _⟩

set_option maxRecDepth 20000 in
set_option maxHeartbeats 2000000 in
theorem search_any (P : List Pt) (vN vP : Value) (T bh ba : Nat) (at_ : Int) (w : World) (hP : PtArg w vP P) (h1 : RowAt w bh 61 #[vN, .int .i64 T, vP]) (h2 : RowAt w ba 3 #[.int .i64 at_]) (hl : P.length ≤ 16384) (hm : ∀ s t, s ≤ t → t < P.length → pE P s ≤ pE P t) :
    Calls Tryd.prog 59 #[.int .i64 P.length, .func (.func 60) #[] #[.pointer (some ⟨ba, 0, none⟩), .pointer (some ⟨bh, 0, none⟩)]] w (FdQ P at_ w) := by
  have CF := Lib.hid (fun i (hi : i < P.length) W (hb : Below w.heap.size w W) => find1_any P vN vP T bh ba i at_ W (hP.keep hb) (h1.keep hb) (h2.keep hb) hi hl)
  have HM := Lib.hid hm
  have hli : (P.length : Int) ≤ 16384 := by omega
  clear hP h1 h2 hm
  go_enter Tryd.func59, Tryd.ntmps59
  go_wp2
  go_loopw [5, 6] (fun x y wr => ∃ lo hi : Nat, lo ≤ hi ∧ hi ≤ P.length ∧ x = .int .i64 lo ∧ y = .int .i64 hi ∧ Hid ((∀ t, t < lo → (pE P t : Int) ≤ at_) ∧ (∀ t, hi ≤ t → t < P.length → at_ < (pE P t : Int))) ∧ Hid (Below w.heap.size w wr)) (fun x y _ => (intOf y - intOf x).toNat)
  case atStart => exact ⟨0, P.length, Nat.zero_le _, Nat.le_refl _, rfl, rfl, Lib.hid ⟨fun t h => absurd h (by omega), fun t h1 h2 => absurd h2 (by omega)⟩, Lib.hid (Below.refl _ _)⟩
  case round =>
    obtain ⟨lo, hi, hlh, hhn, rfl, rfl, HI, KB⟩ := hrel
    by_cases hlt : lo < hi
    · obtain ⟨m, hm⟩ : ∃ m, (lo + hi) / 2 = m := ⟨_, rfl⟩
      have hm1 : lo ≤ m := by omega
      have hm2 : m < hi := by omega
      have hmi : ((lo : Int) + (hi : Int)) / 2 = (m : Int) := by omega
      have hlti : (lo : Int) < hi := by omega
      have hmb : (m : Int) ≤ 16384 := by omega
      have CF1 := Lib.hid (CF.out m (by omega) wr KB.out)
      have HLO := Lib.hid (fun (h : ¬ at_ < (pE P m : Int)) => show ∀ t, t < m + 1 → (pE P t : Int) ≤ at_ from fun t ht => by
        have := HM.out t m (by omega) (by omega)
        omega)
      have HHI := Lib.hid (fun (h : at_ < (pE P m : Int)) => show ∀ t, m ≤ t → t < P.length → at_ < (pE P t : Int) from fun t h1 h2 => by
        have := HM.out m t h1 h2
        omega)
      clear hm
      by_cases hp : at_ < (pE P m : Int)
      · have H2 := Lib.hid (HHI.out hp)
        have HI2 := Lib.hid HI.out.1
        rw [decide_eq_true hp] at CF1
        clear HLO HHI hp
        go_wp2_with (first
          | (go_at_call 60; go_must (refine CF1.out.mono ?_; rintro e w1 ⟨rfl, hb⟩; have KB1 := Lib.hid (KB.out.trans (hb.mono KB.out.size)); clear hb CF1))
          | fail)
        go_roundw
        case rel => exact ⟨lo, m, by omega, by omega, rfl, rfl, Lib.hid ⟨HI2.out, H2.out⟩, KB1⟩
        case measure => simp [intOf]; omega
      · have H2 := Lib.hid (HLO.out hp)
        have HI2 := Lib.hid HI.out.2
        rw [decide_eq_false hp] at CF1
        clear HLO HHI hp
        go_wp2_with (first
          | (go_at_call 60; go_must (refine CF1.out.mono ?_; rintro e w1 ⟨rfl, hb⟩; have KB1 := Lib.hid (KB.out.trans (hb.mono KB.out.size)); clear hb CF1))
          | fail)
        go_roundw
        case rel => exact ⟨m + 1, hi, by omega, by omega, val_int (by omega), rfl, Lib.hid ⟨H2.out, HI2.out⟩, KB1⟩
        case measure => simp [intOf]; omega
    · have he : lo = hi := by omega
      subst he
      have HF := Lib.hid (show FdI P at_ lo from ⟨hhn, HI.out.1, HI.out.2⟩)
      clear HI CF HM
      go_wp2
      go_returns
      exact ⟨lo, rfl, HF.out, KB.out⟩

/-- find. -/
def FnR (P : List Pt) (T : Nat) (at_ : Int) (w : World) (e : Ending) (w' : World) : Prop :=
  Below w.heap.size w w' ∧ (if 0 ≤ at_ ∧ at_ < T then ∃ k : Nat, e = .returned (.tuple #[.int .i64 k, .int .i64 0]) ∧ FdI P at_ k else e = .returned (.tuple #[.int .i64 0, .int .i64 2]))
theorem FnR.yes {P : List Pt} {T : Nat} {at_ : Int} {w w' : World} (h0 : 0 ≤ at_) (h1 : at_ < T) {k : Nat} (hk : FdI P at_ k) (hb : Below w.heap.size w w') : FnR P T at_ w (.returned (.tuple #[.int .i64 k, .int .i64 0])) w' :=
  ⟨hb, by rw [if_pos ⟨h0, h1⟩]; exact ⟨k, rfl, hk⟩⟩
theorem FnR.no {P : List Pt} {T : Nat} {at_ : Int} {w w' : World} (h : ¬ (0 ≤ at_ ∧ at_ < T)) (hb : Below w.heap.size w w') : FnR P T at_ w (.returned (.tuple #[.int .i64 0, .int .i64 2])) w' :=
  ⟨hb, by rw [if_neg h]⟩
set_option maxRecDepth 20000 in
set_option maxHeartbeats 2000000 in
theorem find_any (P : List Pt) (vN vP : Value) (T : Nat) (at_ : Int) (w : World) (hP : PtArg w vP P) (hl : P.length ≤ 16384) (hm : ∀ s t, s ≤ t → t < P.length → pE P s ≤ pE P t) :
    Calls Tryd.prog 34 #[.agg #[vN, .int .i64 T, vP], .int .i64 at_] w (FnR P T at_ w) := by
  have KB := Lib.hid ((ba w (.cells #[vN, .int .i64 T, vP] 61)).alloc (le_alloc (Nat.le_refl _) _) (.cells #[.int .i64 at_] 3))
  have R1 := Lib.hid ((RowAt.new w 61 #[vN, .int .i64 T, vP]).alloc (.cells #[.int .i64 at_] 3))
  have R2 := Lib.hid (show RowAt ((w.alloc (.cells #[vN, .int .i64 T, vP] 61)).alloc (.cells #[.int .i64 at_] 3)) (w.heap.size + 1) 3 #[.int .i64 at_] from RowAt.at (by rw [World.size_alloc]))
  obtain ⟨A, c, rfl⟩ := KArg.form hP
  have CS := Lib.hid (fun W (hb : Below ((w.alloc (.cells #[vN, .int .i64 T, .slice A P.length c] 61)).alloc (.cells #[.int .i64 at_] 3)).heap.size ((w.alloc (.cells #[vN, .int .i64 T, .slice A P.length c] 61)).alloc (.cells #[.int .i64 at_] 3)) W) => search_any P vN (.slice A P.length c) T w.heap.size (w.heap.size + 1) at_ W (KArg.keep (KArg.keep hP KB.out) hb) (R1.out.keep hb) (R2.out.keep hb) hl hm)
  clear hP hm
  by_cases h0 : 0 ≤ at_
  · have h0' : ¬ at_ < 0 := by omega
    have h0'' : decide (at_ < 0) = false := decide_eq_false h0'
    by_cases h1 : at_ < T
    · have h1' : ¬ (T : Int) ≤ at_ := by omega
      have h1'' : decide ((T : Int) ≤ at_) = false := decide_eq_false h1'
      go_enter Tryd.func34, Tryd.ntmps34
      go_wp2_with (first
        | (go_at_call 59; go_must (refine (CS.out _ (Below.refl _ _)).mono ?_; rintro e w1 ⟨k, rfl, hk, hb⟩; have HK := Lib.hid hk; have HB := Lib.hid (KB.out.trans (hb.mono KB.out.size)); clear hk hb CS))
        | fail)
      go_returns
      exact FnR.yes h0 h1 HK.out HB.out
    · have h1' : (T : Int) ≤ at_ := by omega
      have h1'' : decide ((T : Int) ≤ at_) = true := decide_eq_true h1'
      clear CS
      go_enter Tryd.func34, Tryd.ntmps34
      go_wp2
      go_returns
      exact FnR.no (fun h => by omega) KB.out
  · have h0' : at_ < 0 := by omega
    have h0'' : decide (at_ < 0) = true := decide_eq_true h0'
    clear CS
    go_enter Tryd.func34, Tryd.ntmps34
    go_wp2
    go_returns
    exact FnR.no (fun h => by omega) KB.out

end Go.Proofs.YtillcmddbjhepaaDoor

namespace Go.Proofs.YtillcmddbjhepaaDoor
open Go Go.RowKit Go.Joins
set_option linter.unusedVariables false
set_option linter.unusedSimpArgs false

theorem cellL {l : List Si.Rn} {A : Option Addr} {n c : Nat} {w w' : World} (hT : Si.RnArg w (.slice A n c) l) (hb : Below w.heap.size w w') (j : Nat) (hj : j < l.length) : ∃ g o, A = some ⟨g, o, none⟩ ∧ w'.cell? ⟨g, o + j * 2, none⟩ = some (.int .i64 l[j].1) := by
  obtain ⟨A', c', e, q⟩ := hT
  simp only [Value.slice.injEq] at e
  obtain ⟨rfl, _, _⟩ := e
  obtain ⟨g, o, e, hg, h⟩ := q (by omega)
  exact ⟨g, o, e, (hb.cell (p := ⟨g, o + j * 2, none⟩) hg).trans (h j hj 0 (by omega))⟩
def LvQ (ba : Nat) (b : Bool) (n : Int) (w : World) (e : Ending) (w' : World) : Prop := e = .returned (.bool b) ∧ RowAt w' ba 3 #[.int .i64 n] ∧ Kp [ba] w w'
set_option maxRecDepth 20000 in
set_option maxHeartbeats 1000000 in
theorem levelAt1_any (x y a : Int) (ba : Nat) (w : World) (h2 : RowAt w ba 3 #[.int .i64 a]) (ha : 0 ≤ a ∧ a ≤ 1099511627776) (hy : 0 ≤ y ∧ y ≤ 1099511627776) :
    Calls Tryd.prog 63 #[.agg #[.int .i64 x, .int .i64 y], .pointer (some ⟨ba, 0, none⟩)] w (LvQ ba (decide (a - y < 0)) (a - y) w) := by
  have hlt := h2.lt
  have hne : ¬ ba = w.heap.size := by omega
  have hne2 : ¬ w.heap.size = ba := by omega
  have R2 := Lib.hid (h2.alloc (.cells #[.int .i64 x, .int .i64 y] 49))
  have c1 : (w.alloc (.cells #[.int .i64 x, .int .i64 y] 49)).cell? ⟨ba, 0, none⟩ = some (.int .i64 a) := R2.out.cell 0
  have c2 : (w.alloc (.cells #[.int .i64 x, .int .i64 y] 49)).frozen? ⟨ba, 0, none⟩ = false := R2.out.frozen 0
  have d1 : w.cell? ⟨ba, 0, none⟩ = some (.int .i64 a) := h2.cell 0
  have d2 : w.frozen? ⟨ba, 0, none⟩ = false := h2.frozen 0
  have H2 := Lib.hid h2
  obtain ⟨ha1, ha2⟩ := ha
  obtain ⟨hy1, hy2⟩ := hy
  clear h2
  go_enter Tryd.func63, Tryd.ntmps63
  go_wp2
  go_returns
  refine ⟨rfl, ?_, ?_⟩
  · first
      | exact R2.out.set1 _
      | exact (H2.out.set1 _).alloc _
  · first
      | exact Kp.setCell (p := ⟨ba, 0, none⟩) ((Kp.refl [ba] w).alloc _) (.inl (by simp)) _
      | exact (Kp.setCell (p := ⟨ba, 0, none⟩) (Kp.refl [ba] w) (.inl (by simp)) _).alloc _

def IxQ (l : List Si.Rn) (a : Int) (ba : Nat) (w : World) (e : Ending) (w' : World) : Prop := ∃ j : Nat, e = .returned (.int .i64 j) ∧ j < l.length ∧ Si.lg (l.take j) ≤ a ∧ a < Si.lg (l.take (j + 1)) ∧ Kp [ba] w w'
set_option maxRecDepth 20000 in
set_option maxHeartbeats 2000000 in
theorem indexFunc_any (l : List Si.Rn) (v : Value) (a : Int) (ba : Nat) (w : World) (hT : Si.RnArg w v l) (hba : ∀ g o n c, v = .slice (some ⟨g, o, none⟩) n c → g ≠ ba) (h2 : RowAt w ba 3 #[.int .i64 a]) (ha : 0 ≤ a ∧ a ≤ 1099511627776) (hy : ∀ r ∈ l, 0 ≤ r.2 ∧ r.2 ≤ 1099511627776) (hlg : a < Si.lg l) (hn : l.length ≤ 1000000) :
    Calls Tryd.prog 62 #[v, .func (.func 63) #[] #[.pointer (some ⟨ba, 0, none⟩)]] w (IxQ l a ba w) := by
  obtain ⟨A, c, rfl⟩ := KArg.form hT
  have HT := Lib.hid hT
  have HBA := Lib.hid hba
  have HY := Lib.hid (fun j (hj : j < l.length) => hy _ (List.getElem_mem hj))
  have HLG := Lib.hid hlg
  have HR0 := Lib.hid (show RowAt w ba 3 #[.int .i64 (a - Si.lg (l.take 0))] by rw [List.take_zero, show Si.lg [] = 0 from rfl, Int.sub_zero]; exact h2)
  have hli : (l.length : Int) ≤ 1000000 := by omega
  have HA := Lib.hid ha
  clear hT hba hy hlg h2 ha
  go_enter Tryd.func62, Tryd.ntmps62
  go_wp2
  go_loopw [8] (fun i wr => ∃ j : Nat, j ≤ l.length ∧ i = .int .i64 j ∧ Hid (Si.lg (l.take j) ≤ a ∧ 0 ≤ Si.lg (l.take j)) ∧ Hid (RowAt wr ba 3 #[.int .i64 (a - Si.lg (l.take j))]) ∧ Hid (Kp [ba] w wr)) (fun i _ => l.length - (intOf i).toNat)
  case atStart => exact ⟨0, Nat.zero_le _, rfl, Lib.hid ⟨by rw [List.take_zero]; exact HA.out.1, by rw [List.take_zero]; exact Int.le_refl _⟩, HR0, Lib.hid (Kp.refl _ _)⟩
  case round =>
    clear HR0
    obtain ⟨j, hj, rfl, HL, HR, HK⟩ := hrel
    by_cases hlt : j < l.length
    · obtain ⟨_, _, e1, q1⟩ := HT.out
      obtain ⟨g, o, rfl, hg, hcl⟩ := q1 (by omega)
      simp only [Value.slice.injEq, true_and, and_true] at e1
      obtain ⟨rfl, rfl⟩ := e1
      have hgb := HBA.out g o _ _ rfl
      have f0 : wr.cell? ⟨g, o + j * 2, none⟩ = some (.int .i64 l[j].1) := (HK.out.cell (p := ⟨g, o + j * 2, none⟩) hg (by simpa using hgb)).trans (hcl j hlt 0 (by omega))
      have f1 : wr.cell? ⟨g, o + j * 2 + 1, none⟩ = some (.int .i64 l[j].2) := (HK.out.cell (p := ⟨g, o + j * 2 + 1, none⟩) hg (by simpa using hgb)).trans (hcl j hlt 1 (by omega))
      have hji : (j : Int) < l.length := by omega
      have HST := Lib.hid (Si.lg_take l j hlt)
      have hyj := HY.out j hlt
      have CF := Lib.hid (levelAt1_any l[j].1 l[j].2 (a - Si.lg (l.take j)) ba wr HR.out (by have := HL.out; have := HA.out; omega) hyj)
      have HYJ := Lib.hid hyj
      clear hcl q1 hyj
      generalize l[j].1 = x at *
      generalize l[j].2 = y at *
      by_cases hp : a - Si.lg (l.take j) - y < 0
      · rw [decide_eq_true hp] at CF
        have HQ := Lib.hid (show Si.lg (l.take j) ≤ a ∧ a < Si.lg (l.take (j + 1)) from ⟨HL.out.1, by rw [HST.out]; omega⟩)
        clear hp HL HST HR
        generalize a - Si.lg (l.take j) = z at *
        go_wp2_with (first
          | (go_at_call 63; go_must (refine CF.out.mono ?_; rintro e w1 ⟨rfl, hr, hk⟩; have HK1 := Lib.hid (HK.out.trans hk); clear hr hk CF))
          | fail)
        go_returns
        exact ⟨j, rfl, hlt, HQ.out.1, HQ.out.2, HK1.out⟩
      · rw [decide_eq_false hp] at CF
        have HL2 := Lib.hid (show Si.lg (l.take (j + 1)) ≤ a ∧ 0 ≤ Si.lg (l.take (j + 1)) ∧ a - Si.lg (l.take j) - y = a - Si.lg (l.take (j + 1)) from ⟨by rw [HST.out]; omega, by rw [HST.out]; have := HL.out.2; have := HYJ.out.1; omega, by rw [HST.out]; omega⟩)
        clear hp HL HST HR
        rw [HL2.out.2.2] at CF
        go_wp2_with (first
          | (go_at_call 63; go_must (refine CF.out.mono ?_; rintro e w1 ⟨rfl, hr, hk⟩; have HK1 := Lib.hid (HK.out.trans hk); have HR1 := Lib.hid hr; clear hr hk CF))
          | fail)
        go_roundw
        case rel => exact ⟨j + 1, by omega, val_int (by omega), Lib.hid ⟨HL2.out.1, HL2.out.2.1⟩, HR1, HK1⟩
        case measure => simp [intOf]; omega
    · have he : l.take j = l := List.take_of_length_le (by omega)
      have := HL.out.1
      rw [he] at this
      have := HLG.out
      omega

set_option maxRecDepth 20000 in
set_option maxHeartbeats 2000000 in
/-- levelAt: the level at a tick. -/
theorem levelAt_any (l : List Si.Rn) (v : Value) (a : Int) (w : World) (hT : Si.RnArg w v l) (ha : 0 ≤ a ∧ a ≤ 1099511627776) (hy : ∀ r ∈ l, 1 ≤ r.2 ∧ r.2 ≤ 1099511627776) (hlg : a < Si.lg l) (hn : l.length ≤ 1000000) :
    Calls Tryd.prog 36 #[v, .int .i64 a] w fun e w' => e = .returned (.int .i64 (Si.atv l a).1) ∧ Below w.heap.size w w' := by
  have hps : Si.ps l := fun r hr => (hy r hr).1
  have HX := Lib.hid (fun j (hj : j < l.length) (h1 : Si.lg (l.take j) ≤ a) (h2 : a < Si.lg (l.take (j + 1))) => Si.atv_run hps hj h1 h2)
  have HT := Lib.hid hT
  have CI := Lib.hid (indexFunc_any l v a w.heap.size (w.alloc (.cells #[.int .i64 a] 3)) (KArg.keep hT (ba w _)) (fun g o n c e => by
    obtain ⟨A, c', e2, q⟩ := hT
    rw [e] at e2
    simp only [Value.slice.injEq] at e2
    obtain ⟨e3, _, _⟩ := e2
    have hl0 : 0 < l.length := by
      rcases Nat.eq_zero_or_pos l.length with h | h
      · have : l = [] := List.eq_nil_of_length_eq_zero h
        subst this
        have : Si.lg [] = 0 := rfl
        omega
      · exact h
    obtain ⟨g', o', e4, hg, _⟩ := q hl0
    rw [e4] at e3
    simp only [Option.some.injEq, Addr.mk.injEq, and_true] at e3
    omega) (RowAt.new w _ _) ha (fun r hr => by have := hy r hr; omega) hlg hn)
  have HK0 := Lib.hid ((Kp.refl [w.heap.size] w).alloc (.cells #[.int .i64 a] 3))
  obtain ⟨A, c, rfl⟩ := KArg.form hT
  clear hT hy hlg hps
  go_enter Tryd.func36, Tryd.ntmps36
  go_wp2_with (first
    | (go_at_call 62; go_must (refine CI.out.mono ?_; rintro e w1 ⟨j, rfl, hj, h1, h2, hk⟩; have HJ := Lib.hid (HX.out j hj h1 h2); have HK := Lib.hid (HK0.out.trans (hk.mono (fun k _ h => h))); have hji : (j : Int) < l.length := (by omega); have hjc := cellL HT.out (HK.out.old (by simp)) j hj; obtain ⟨g, o, rfl, f0⟩ := hjc; clear h1 h2 hk CI HX))
    | fail)
  go_returns
  exact ⟨by rw [HJ.out]; rfl, HK.out.old (by simp)⟩

end Go.Proofs.YtillcmddbjhepaaDoor

namespace Go.Proofs.YtillcmddbjhepaaDoor
open Go Go.RowKit Go.Joins Si
open Go.BigFrame
set_option linter.unusedVariables false
set_option linter.unusedSimpArgs false

set_option maxRecDepth 100000 in
set_option maxHeartbeats 8000000 in
theorem cut_any (m : Int) (R : List Rn) (V : Value) (F T : Int) (w : World) (hT : RnArg w V R) (hn : R.length ≤ 262144) (hv : vr m 0 R = true) (hF0 : 0 ≤ F) (hF1 : F ≤ 1099511627776) (hT0 : 0 ≤ T) (hT1 : T ≤ 1099511627776) :
    Calls Tryd.prog 37 #[V, .int .i64 F, .int .i64 T] w fun e w' => ∃ v : Value, e = .returned v ∧ RnRow w' w.heap.size v (prt R F T) ∧ Below w.heap.size w w' := by
  obtain ⟨A, c, rfl, hA⟩ := hT
  have HA := Lib.hid hA
  have HV := Lib.hid hv
  have hps := ((vr_iff m R 0 (by omega)).1 hv).2.1
  have HPS := Lib.hid hps
  have hn' : (R.length : Int) ≤ 262144 := by omega
  clear hA hv hps
  go_enter Tryd.func37, Tryd.ntmps37
  go_wp2
  go_loopw [16, 7, 8] (fun i r s wr => ∃ j : Nat, j ≤ R.length ∧ i = .int .i64 j ∧ s = .int .i64 (lg (R.take j)) ∧ Hid (RnRow wr w.heap.size r (prt (R.take j) F T)) ∧ Hid (Below w.heap.size w wr)) (fun i _ _ _ => R.length - (intOf i).toNat)
  case atStart => exact ⟨0, Nat.zero_le _, rfl, rfl, Lib.hid (KRow.nil _ _), Lib.hid (Below.refl _ _)⟩
  case round =>
    obtain ⟨j, hj, rfl, rfl, HR, HB⟩ := hrel
    have hb := HB.out
    by_cases hjl : j < R.length
    · obtain ⟨g, o, rfl, hg, hc⟩ := HA.out (by omega)
      obtain ⟨a0, a1⟩ := arg_two hc j hjl
      have f0 := (hb.cell (p := ⟨g, o + j * 2, none⟩) hg).trans a0
      have f1 := (hb.cell (p := ⟨g, o + j * 2 + 1, none⟩) hg).trans a1
      have hr := lg_take_range HV.out j
      have hx := el_range HV.out j hjl
      have hle := prt_lg_le (f := F) (t := T) (ps_take HPS.out (j + 1))
      have hr2 := lg_take_range HV.out (j + 1)
      have htk := Lib.hid (lg_take R j hjl)
      have hsl := prt_take_len R j F T
      have hpe := prt_ps (R.take j) F T
      have hY : max (lg (R.take j)) F < min (lg (R.take j) + R[j].2) T → prt (R.take (j + 1)) F T = pt (prt (R.take j) F T) (R[j].1, min (lg (R.take j) + R[j].2) T - max (lg (R.take j)) F) := fun h => prt_yes hjl h
      have hN : ¬ max (lg (R.take j)) F < min (lg (R.take j) + R[j].2) T → prt (R.take (j + 1)) F T = prt (R.take j) F T := fun h => prt_no hjl h
      have HB2 := Lib.hid (show Below w.heap.size w (wr.alloc (.cells #[.int .i64 R[j].1, .int .i64 R[j].2] 49)) from hb.alloc hb.size _)
      have HR2 := Lib.hid (show RnRow (wr.alloc (.cells #[.int .i64 R[j].1, .int .i64 R[j].2] 49)) w.heap.size _ (prt (R.take j) F T) from HR.out.alloc _)
      have HBOX := Lib.hid (RowAt.new wr 49 #[.int .i64 R[j].1, .int .i64 R[j].2])
      clear a0 a1 hc
      generalize R[j].1 = x0 at *
      generalize R[j].2 = x1 at *
      generalize lg (R.take j) = S at *
      generalize prt (R.take j) F T = E at *
      obtain ⟨_, hx1, hx2⟩ := hx
      have hS1 : ∀ lo hi : Int, max S F = lo → min (S + x1) T = hi → (lo < hi → Hid (prt (R.take (j + 1)) F T = pt E (x0, hi - lo)) ∧ lg E + (hi - lo) ≤ 1099511627776) ∧ (¬ lo < hi → Hid (prt (R.take (j + 1)) F T = E)) := by
        intro lo hi e1 e2
        rw [e1, e2] at hY hN
        refine ⟨fun h => ⟨Lib.hid (hY h), ?_⟩, fun h => Lib.hid (hN h)⟩
        have := hY h
        rw [this, pt_lg] at hle
        simp only at hle
        omega
      clear hY hN hle
      obtain ⟨UA, UN, UC, rfl, hUN⟩ := HR.out.form
      have HUN := Lib.hid hUN
      clear hUN
      have HE := Lib.hid hpe
      clear hpe hr2
      obtain ⟨hy, hz⟩ := hS1 _ _ rfl rfl
      clear hS1
      have hm0 : 0 ≤ max S F ∧ max S F ≤ 1099511627776 := by omega
      have hm1 : 0 ≤ min (S + x1) T ∧ min (S + x1) T ≤ 1099511627776 := by omega
      obtain ⟨LO, hLO⟩ : ∃ LO, max S F = LO := ⟨_, rfl⟩
      obtain ⟨HI, hHI⟩ : ∃ HI, min (S + x1) T = HI := ⟨_, rfl⟩
      rw [hLO] at hm0 hy hz
      rw [hHI] at hm1 hy hz
      by_cases hlt : LO < HI
      · obtain ⟨HST, hld⟩ := hy hlt
        have hD : ¬ HI - LO ≤ 0 := by omega
        have hD0 : 0 ≤ HI - LO ∧ HI - LO ≤ 1099511627776 := by omega
        have HLD := Lib.hid hld
        clear hy hz hld hlt
        rcases nil_or_snoc E with hE | ⟨q, y, hE⟩
        · subst hE
          have hu := HUN.out
          rw [List.length_nil] at hu
          subst hu
          have HF := Lib.hid (show prt (R.take (j + 1)) F T = [] ++ [(x0, HI - LO)] by rw [HST.out]; rfl)
          clear HST HLD HE HUN
          have HLN := Lib.hid (show ([] : List Rn).length + 1 ≤ 4398046511104 by simp)
          go_wp2
          go_big_quiet (fail)
          have k0 : ((wr.alloc (.cells #[.int .i64 x0, .int .i64 x1] 49)).drewN nq).cell? ⟨wr.heap.size, 0, none⟩ = some (.int .i64 x0) := HBOX.out.cell 0
          go_wp2_with (first
            | (at_builtin; go_must (refine wpList_append_rn rfl (.tmp 58) (.tmp 63) rfl rfl rfl rfl (World.size_alloc _ _).symm (HR2.out.drewN _) (le_drewN HB2.out.size _) HLN.out ?_; intro v5 w5 R5 b5))
            | fail)
          go_roundw
          case rel => exact ⟨j + 1, by omega, val_int (by omega), val_int (by rw [htk.out]), Lib.hid (by rw [HF.out]; exact R5), Lib.hid ((Go.below_drewN HB2.out _).trans b5)⟩
          case measure => simp [intOf]; omega
        · subst hE
          obtain ⟨y0, y1⟩ := y
          have hu := HUN.out
          obtain ⟨G, C, hfull⟩ := HR.out.full (by simp)
          simp only [Value.slice.injEq] at hfull
          obtain ⟨rfl, hfl, rfl⟩ := hfull
          clear hfl
          rw [List.length_append] at hu
          simp only [List.length_cons, List.length_nil, Nat.zero_add] at hu
          have hK : (q ++ [((y0, y1) : Rn)]).length = q.length + 1 := by simp
          obtain ⟨c0, c1, z0, z1⟩ := RnRow.two HR.out q.length (by simp)
          simp only [List.getElem_concat_length] at c0 c1
          have hg := HE.out
          rw [ps_append] at hg
          have hy1 : 1 ≤ y1 := hg.2 (y0, y1) (by simp)
          have hq0 := ps_nonneg hg.1
          have hGl := HR.out.len.2.2.2
          have hcap : (q.length : Int) + 1 ≤ UC := by have := HR.out.len.2.1; omega
          have hld := HLD.out
          rw [lg_append, lg_one] at hld
          simp only at hld
          have hql : (q.length : Int) ≤ 300000 := by rw [hK] at hsl; omega
          have hp : pt (q ++ [(y0, y1)]) (x0, HI - LO) = if y0 = x0 then q ++ [(y0, y1 + (HI - LO))] else q ++ [(y0, y1)] ++ [(x0, HI - LO)] := by rw [pt_snoc]
          have v2 : (UN : Int) - 1 = (q.length : Int) := by omega
          have v1 : IntKind.i64.wrap ((UN : Int) - 1) = (q.length : Int) := by rw [v2]; exact IntWalk.i64_in _ (by omega)
          have v3 : (q.length : Int) < UN := by omega
          have v4 : (UN : Int) ≤ 300001 := by omega
          have v5 : (0 : Int) ≤ (q.length : Int) := by omega
          have v6 : q.length < UN := by omega
          have hgW : ¬ G = wr.heap.size := by omega
          clear hg hsl hK HUN HE hu
          by_cases hxy : y0 = x0
          · rw [if_pos hxy] at hp
            have HF := Lib.hid (show prt (R.take (j + 1)) F T = q ++ [(y0, y1 + (HI - LO))] by rw [HST.out, hp])
            have hq : (y0 == x0) = true := by simpa using hxy
            have d1 : ((wr.alloc (.cells #[.int .i64 x0, .int .i64 x1] 49)).drewN 0).cell? ⟨G, q.length * 2 + 1, none⟩ = some (.int .i64 y1) := ((ba wr _).cell (p := ⟨G, q.length * 2 + 1, none⟩) hGl).trans c1
            have d2 : ((wr.alloc (.cells #[.int .i64 x0, .int .i64 x1] 49)).drewN 0).frozen? ⟨G, q.length * 2 + 1, none⟩ = false := ((ba wr _).frozen (p := ⟨G, q.length * 2 + 1, none⟩) hGl).trans z1
            have DD1 := Lib.hid d1
            have DD2 := Lib.hid d2
            have hsum : y1 + (HI - LO) ≤ 1099511627776 := by omega
            have HSET := Lib.hid (fun (W : World) (h : RnRow W w.heap.size (.slice (some ⟨G, 0, none⟩) UN UC) (q ++ [(y0, y1)])) => show RnRow (W.setCell ⟨G, q.length * 2 + 1, none⟩ (.int .i64 (y1 + (HI - LO)))) w.heap.size (.slice (some ⟨G, 0, none⟩) UN UC) (q ++ [(y0, y1 + (HI - LO))]) by
              have h2 := KRow.cellSet rnC_size h q.length 1 (by simp) (by omega) (.int .i64 (y1 + (HI - LO))) (y0, y1 + (HI - LO)) (by rw [List.getElem_concat_length rfl]; rfl)
              rw [List.set_append, if_neg (by omega), Nat.sub_self] at h2
              exact h2)
            have HBG := Lib.hid (show w.heap.size ≤ G from HR.out.len.2.2.1)
            clear hp HST hxy d1 d2
            go_wp2
            go_big_quiet (fail)
            have d1 : ((wr.alloc (.cells #[.int .i64 x0, .int .i64 x1] 49)).drewN nq).cell? ⟨G, q.length * 2 + 1, none⟩ = some (.int .i64 y1) := DD1.out
            have d2 : ((wr.alloc (.cells #[.int .i64 x0, .int .i64 x1] 49)).drewN nq).frozen? ⟨G, q.length * 2 + 1, none⟩ = false := DD2.out
            go_wp2
            go_roundw
            case rel => exact ⟨j + 1, by omega, val_int (by omega), val_int (by rw [htk.out]), Lib.hid (by rw [HF.out]; first | exact HSET.out _ (HR2.out.drewN _) | exact (HSET.out _ HR.out).alloc _), Lib.hid (by first | exact Below.setCell (p := ⟨G, q.length * 2 + 1, none⟩) (Go.below_drewN HB2.out _) HBG.out _ | exact Go.below_drewN (Below.alloc (Below.setCell (p := ⟨G, q.length * 2 + 1, none⟩) HB.out HBG.out _) (le_setCell HB.out.size _ _) _) _)⟩
            case measure => simp [intOf]; omega
          · rw [if_neg hxy] at hp
            have HF := Lib.hid (show prt (R.take (j + 1)) F T = q ++ [(y0, y1)] ++ [(x0, HI - LO)] by rw [HST.out, hp])
            have hq : (y0 == x0) = false := by simpa using hxy
            have HLN := Lib.hid (show (q ++ [((y0, y1) : Rn)]).length + 1 ≤ 4398046511104 by simp; omega)
            clear hp HST hxy
            go_wp2
            go_big_quiet (fail)
            have k0 : ((wr.alloc (.cells #[.int .i64 x0, .int .i64 x1] 49)).drewN nq).cell? ⟨wr.heap.size, 0, none⟩ = some (.int .i64 x0) := HBOX.out.cell 0
            go_wp2_with (first
              | (at_builtin; go_must (refine wpList_append_rn rfl (.tmp 58) (.tmp 63) rfl rfl rfl rfl (World.size_alloc _ _).symm (HR2.out.drewN _) (le_drewN HB2.out.size _) HLN.out ?_; intro v5 w5 R5 b5))
              | fail)
            go_roundw
            case rel => exact ⟨j + 1, by omega, val_int (by omega), val_int (by rw [htk.out]), Lib.hid (by rw [HF.out]; exact R5), Lib.hid ((Go.below_drewN HB2.out _).trans b5)⟩
            case measure => simp [intOf]; omega
      · have HST := hz hlt
        have hD : HI - LO ≤ 0 := by omega
        clear hy hz hlt
        go_wp2
        go_roundw
        case rel => exact ⟨j + 1, by omega, val_int (by omega), val_int (by rw [htk.out]), Lib.hid (by rw [HST.out]; exact HR2.out), HB2⟩
        case measure => simp [intOf]; omega
    · have he : R.take j = R := List.take_of_length_le (by omega)
      rw [he] at HR
      clear he
      go_wp2
      go_returns
      exact ⟨_, rfl, HR.out, hb⟩

end Go.Proofs.YtillcmddbjhepaaDoor

namespace Go.Proofs.YtillcmddbjhepaaDoor
open Go Go.RowKit Go.Joins
set_option linter.unusedVariables false
set_option linter.unusedSimpArgs false

theorem hdPts_len (l : List UInt8) : (hdPts l).length = (rd l).1.2.2.2.1.length := by unfold hdPts; rw [ptG_len]

set_option maxRecDepth 20000 in
set_option maxHeartbeats 1000000 in
theorem count_any (s : ByteArray) (w : World) (hE : Sd.Env w) (hs : s.size ≤ 140737488351232) :
    Calls Tryd.prog 19 #[.string s] w fun e w' => e = .returned (.tuple #[.int .i64 (rd s.data.toList).1.2.2.2.1.length, .int .i64 (rd s.data.toList).2]) ∧ Below w.heap.size w w' := by
  have CH := Lib.hid (readHead_any s w hE hs)
  have HLN := Lib.hid (hdPts_len s.data.toList)
  unfold HdR at CH
  generalize hdPts s.data.toList = P at *
  generalize rd s.data.toList = p at *
  clear hE
  go_enter Tryd.func19, Tryd.ntmps19
  go_wp2_with (first
    | (go_at_call 26; go_must (refine CH.out.mono ?_; rintro e w1 ⟨vN, vP, T, er, rfl, hE, hT, hb, hN, hP⟩; obtain ⟨nA, nn, nc, rfl, hnn⟩ := KRow.form hN; obtain ⟨pA, pn, pc, rfl, hpn⟩ := KRow.form hP; have HB := Lib.hid hb; have HX := Lib.hid (show pn = p.1.2.2.2.1.length ∧ er = p.2 from ⟨hpn.trans HLN.out, hE⟩); clear hnn hpn hE hT hb hN hP CH))
    | fail)
  go_returns
  exact ⟨by rw [← HX.out.1, ← HX.out.2]; rfl, HB.out.alloc HB.out.size _⟩

end Go.Proofs.YtillcmddbjhepaaDoor

namespace Go.Proofs.YtillcmddbjhepaaDoor
open Go Go.RowKit Go.Joins
set_option linter.unusedVariables false
set_option linter.unusedSimpArgs false

theorem rd_form (l : List UInt8) : (∃ e, e ≠ 0 ∧ rd l = (noH, e)) ∨ ∃ N R T E b, rd l = ((N, R, T, E, b), 0) ∧ asc E T ∧ rH l = ((N, R, T, E, b), 0) := by
  obtain ⟨⟨⟨N, R, T, E, b⟩, e⟩, h⟩ : ∃ p, rH l = p := ⟨_, rfl⟩
  unfold rd
  rw [h]
  simp only
  by_cases c0 : e = 0
  · subst c0
    rw [if_pos rfl]
    by_cases c1 : asc E T
    · rw [if_pos c1]
      by_cases c2 : l.length - b < szE E
      · rw [if_pos c2]; exact .inl ⟨5, by decide, rfl⟩
      · rw [if_neg c2]
        by_cases c3 : szE E < l.length - b
        · rw [if_pos c3]; exact .inl ⟨4, by decide, rfl⟩
        · rw [if_neg c3]; exact .inr ⟨N, R, T, E, b, rfl, c1, rfl⟩
    · rw [if_neg c1]; exact .inl ⟨12, by decide, rfl⟩
  · rw [if_neg c0]; exact .inl ⟨e, c0, rfl⟩
theorem eA_mono {E : List En} {T : Nat} (h : asc E T) : ∀ t s, s ≤ t → t ≤ E.length → eA E T s ≤ eA E T t := by
  intro t
  induction t with
  | zero => intro s hs _; obtain rfl : s = 0 := (by omega); exact Nat.le_refl _
  | succ t ih =>
    intro s hs ht
    rcases Nat.eq_or_lt_of_le hs with e | e
    · subst e; exact Nat.le_refl _
    · have h1 := ih s (by omega) (by omega)
      have h2 := ((asc_iff E T).1 h).2 t (by omega)
      rw [← eA_in (T := T) (show t < E.length by omega)] at h2
      omega
theorem hdPts_end {l : List UInt8} {N : List ByteArray} {R T : Nat} {E : List En} {b : Nat} (h : rd l = ((N, R, T, E, b), 0)) (t : Nat) (ht : t < E.length) : pE (hdPts l) t = eA E T (t + 1) := by
  have hl : t < (hdPts l).length := by rw [hdPts_len, h]; exact ht
  rw [pE_at hl]
  have : hdPts l = ptG R E T (l.drop b) E.length := by unfold hdPts; rw [h]
  simp only [this, ptG_at]
  rfl
theorem hdPts_mono (l : List UInt8) : ∀ s t, s ≤ t → t < (hdPts l).length → pE (hdPts l) s ≤ pE (hdPts l) t := by
  intro s t hs ht
  rcases rd_form l with ⟨e, _, h⟩ | ⟨N, R, T, E, b, h, ha, _⟩
  · rw [hdPts_len, h] at ht; exact absurd ht (by simp [noH])
  · have ht' : t < E.length := by rw [hdPts_len, h] at ht; exact ht
    rw [hdPts_end h t ht', hdPts_end h s (by omega)]
    exact eA_mono ha _ _ (by omega) (by omega)
theorem hdPts_small (l : List UInt8) : (hdPts l).length ≤ 16384 := by
  rw [hdPts_len]
  rcases rd_form l with ⟨e, _, h⟩ | ⟨N, R, T, E, b, h, ha, h2⟩
  · rw [h]; simp [noH]
  · rw [h]
    obtain ⟨_, i2, _, i4, _, _⟩ := rH_inv h2
    show E.length ≤ 16384
    rw [i4]; unfold bkN; omega

/-- What Find gives. -/
def FiR (l : List UInt8) (at_ : Int) (w : World) (e : Ending) (w' : World) : Prop :=
  if (rd l).2 = 0 then FnR (hdPts l) (rd l).1.2.2.1 at_ w e w' else e = .returned (.tuple #[.int .i64 0, .int .i64 (rd l).2]) ∧ Below w.heap.size w w'
theorem FiR.bad {l : List UInt8} {at_ : Int} {w w' : World} {er : Nat} (h : er = (rd l).2) (h0 : er ≠ 0) (hb : Below w.heap.size w w') : FiR l at_ w (.returned (.tuple #[.int .i64 0, .int .i64 er])) w' := by
  unfold FiR; rw [if_neg (by rw [← h]; exact h0), h]; exact ⟨rfl, hb⟩
theorem FnR.back {P : List Pt} {T : Nat} {at_ : Int} {w w1 w2 : World} {e : Ending} (h : FnR P T at_ w1 e w2) (hb : Below w.heap.size w w1) (hs : w.heap.size ≤ w1.heap.size) : FnR P T at_ w e w2 := ⟨hb.trans (h.1.mono hs), h.2⟩
theorem FnR.form {P : List Pt} {T : Nat} {at_ : Int} {w w2 : World} {e : Ending} (h : FnR P T at_ w e w2) : ∃ a b : Nat, e = .returned (.tuple #[.int .i64 a, .int .i64 b]) := by
  have h := h.2
  by_cases c : 0 ≤ at_ ∧ at_ < T
  · rw [if_pos c] at h; obtain ⟨k, h, _⟩ := h; exact ⟨k, 0, h⟩
  · rw [if_neg c] at h; exact ⟨0, 2, h⟩

set_option maxRecDepth 20000 in
set_option maxHeartbeats 1000000 in
theorem Find_any (s : ByteArray) (at_ : Int) (w : World) (hE : Sd.Env w) (hs : s.size ≤ 140737488351232) :
    Calls Tryd.prog 20 #[.string s, .int .i64 at_] w (FiR s.data.toList at_ w) := by
  have CH := Lib.hid (readHead_any s w hE hs)
  have CF := Lib.hid (fun vN vP W (hP : PtArg W vP (hdPts s.data.toList)) => find_any (hdPts s.data.toList) vN vP (rd s.data.toList).1.2.2.1 at_ W hP (hdPts_small _) (hdPts_mono _))
  unfold HdR at CH
  obtain ⟨er0, he0⟩ : ∃ e, (rd s.data.toList).2 = e := ⟨_, rfl⟩
  rw [he0] at CH
  obtain ⟨T0, hT0⟩ : ∃ T, (rd s.data.toList).1.2.2.1 = T := ⟨_, rfl⟩
  rw [hT0] at CH CF
  clear hE
  by_cases h0 : er0 = 0
  · subst h0
    have HF := Lib.hid (fun e w' (h : FnR (hdPts s.data.toList) T0 at_ w e w') => show FiR s.data.toList at_ w e w' by unfold FiR; rw [if_pos he0, hT0]; exact h)
    clear he0 hT0
    go_enter Tryd.func20, Tryd.ntmps20
    go_wp2_with (first
      | (go_at_call 26; go_must (refine CH.out.mono ?_; rintro e w1 ⟨vN, vP, T, er, rfl, hE, hT, hb, hN, hP⟩; obtain rfl : er = 0 := hE; obtain rfl : T = T0 := hT; obtain ⟨nA, nn, nc, rfl, hnn⟩ := KRow.form hN; obtain ⟨pA, pn, pc, rfl, hpn⟩ := KRow.form hP; have HB := Lib.hid (hb.alloc hb.size (.cells #[.slice nA nn nc, .int .i64 T, .slice pA pn pc] 61)); have HP := Lib.hid (KArg.keep (KRow.arg ptC_size hP) (ba w1 (.cells #[.slice nA nn nc, .int .i64 T, .slice pA pn pc] 61))); clear hnn hpn hb hN hP CH))
      | (go_at_call 34; go_must (refine (CF.out _ _ _ HP.out).mono ?_; rintro e w2 hf; have HFN := Lib.hid (hf.back HB.out HB.out.size); obtain ⟨k1, k2, rfl⟩ := hf.form; clear hf CF))
      | fail)
    go_returns
    exact HF.out _ _ HFN.out
  · have h0' : ((er0 : Int) != 0) = true := by simp; omega
    have HE0 := Lib.hid he0.symm
    clear he0 hT0 CF
    go_enter Tryd.func20, Tryd.ntmps20
    go_wp2_with (first
      | (go_at_call 26; go_must (refine CH.out.mono ?_; rintro e w1 ⟨vN, vP, T, er, rfl, hE, hT, hb, hN, hP⟩; obtain rfl : er = er0 := hE; obtain ⟨nA, nn, nc, rfl, hnn⟩ := KRow.form hN; obtain ⟨pA, pn, pc, rfl, hpn⟩ := KRow.form hP; have HB := Lib.hid (hb.alloc hb.size (.cells #[.slice nA nn nc, .int .i64 T, .slice pA pn pc] 61)); clear hnn hpn hT hb hN hP CH))
      | fail)
    go_returns
    exact FiR.bad HE0.out h0 HB.out

end Go.Proofs.YtillcmddbjhepaaDoor

namespace Go.Proofs.YtillcmddbjhepaaDoor
open Go
set_option linter.unusedVariables false
set_option linter.unusedSimpArgs false

/-- What stands from a place on. -/
def StA (l : List UInt8) (a : Nat) (s : List UInt8) : Prop := a ≤ l.length ∧ l.drop a = s
theorem StA.len {l s : List UInt8} {a : Nat} (h : StA l a s) : l.length = a + s.length := by
  have := congrArg List.length h.2
  rw [List.length_drop] at this
  have := h.1
  omega
theorem StA.step {l s q : List UInt8} {a : Nat} (h : StA l a (s ++ q)) : StA l (a + s.length) q := by
  have hl := h.len
  rw [List.length_append] at hl
  exact ⟨by omega, by rw [← List.drop_drop, h.2]; simp⟩
theorem StA.of {l : List UInt8} {a b : Nat} {s : List UInt8} (ha : a ≤ l.length) (hb : b ≤ l.length) (h : l.drop a = s ++ l.drop b) : b = a + s.length := by
  have := congrArg List.length h
  rw [List.length_append, List.length_drop, List.length_drop] at this
  omega
theorem StA.split {l s : List UInt8} {a : Nat} (h : StA l a s) : l = l.take a ++ s ∧ (l.take a).length = a := by
  refine ⟨by rw [← h.2, List.take_append_drop], ?_⟩
  rw [List.length_take]; have := h.1; omega

/-! A number. -/
theorem rN_inv {l : List UInt8} {a m v n : Nat} (h : rN l a m = (v, n, 0)) : a ≤ l.length ∧ n ≤ l.length ∧ v ≤ m ∧ v < 18446744073709551616 ∧ l.drop a = Sb.put v ++ l.drop n := by
  unfold rN at h
  by_cases h1 : Sb.tuE l a = 0
  · rw [if_neg (by simpa using h1)] at h
    by_cases h2 : m < Sb.tuV l a
    · rw [if_pos h2] at h
      injection h with _ h; injection h with _ h
      exact absurd h (by decide)
    · rw [if_neg h2] at h
      injection h with e1 h; injection h with e2 _
      obtain ⟨a', e, h3, h4, h5, h6⟩ := Sb.tu_ok h1
      obtain rfl : a' = a := by omega
      have hv := (Sb.tu_bounds l a').1
      rw [e1] at hv h6 h2
      rw [e2] at h3 h4 h5 h6
      refine ⟨by omega, h4, by omega, hv, ?_⟩
      rw [h6]
      have : l.drop n = (l.drop a').drop (n - a') := by rw [List.drop_drop, show a' + (n - a') = n by omega]
      rw [this, List.take_append_drop]
  · rw [if_pos h1] at h
    injection h with _ h; injection h with _ h
    exact absurd h h1
theorem rN_at {l q : List UInt8} {a m v : Nat} (h : StA l a (Sb.put v ++ q)) (hv : v < 18446744073709551616) (hm : v ≤ m) : rN l a m = (v, a + (Sb.put v).length, 0) := by
  obtain ⟨e, hl⟩ := h.split
  have ht := Sb.tu_put (l.take a) q v hv
  rw [hl, List.append_assoc, ← e] at ht
  unfold rN Sb.tuE Sb.tuV Sb.tuN
  rw [ht]
  simp only [ne_eq, not_true, if_false]
  rw [if_neg (by omega)]
theorem tu_at {l q : List UInt8} {a v : Nat} (h : StA l a (Sb.put v ++ q)) (hv : v < 18446744073709551616) : Sb.tuE l a = 0 ∧ Sb.tuV l a = v ∧ Sb.tuN l a = a + (Sb.put v).length := by
  obtain ⟨e, hl⟩ := h.split
  have ht := Sb.tu_put (l.take a) q v hv
  rw [hl, List.append_assoc, ← e] at ht
  unfold Sb.tuE Sb.tuV Sb.tuN
  rw [ht]
  exact ⟨rfl, rfl, rfl⟩
theorem tu_inv {l : List UInt8} {a : Nat} (h : Sb.tuE l a = 0) : a ≤ l.length ∧ Sb.tuN l a ≤ l.length ∧ Sb.tuV l a < 18446744073709551616 ∧ l.drop a = Sb.put (Sb.tuV l a) ++ l.drop (Sb.tuN l a) := by
  have h2 : rN l a 18446744073709551616 = (Sb.tuV l a, Sb.tuN l a, 0) := rN_ok h (by have := (Sb.tu_bounds l a).1; omega)
  obtain ⟨h3, h4, _, h5, h6⟩ := rN_inv h2
  exact ⟨h3, h4, h5, h6⟩

/-! A name, some names. -/
theorem tc_inv {l : List UInt8} {a : Nat} (h : Sb.tcE l a 16 = 0) : a ≤ l.length ∧ Sb.tcN l a 16 + Sb.tcV l a 16 ≤ l.length ∧ (Sb.ttS l a 16).length = Sb.tcV l a 16 ∧ Sb.tcV l a 16 ≤ 16 ∧ l.drop a = nm1 ⟨(Sb.ttS l a 16).toArray⟩ ++ l.drop (Sb.tcN l a 16 + Sb.tcV l a 16) := by
  have hv : Sb.tcV l a 16 = Sb.tuV l a := by unfold Sb.tcV; rw [if_pos h]
  have hn : Sb.tcN l a 16 = Sb.tuN l a := by unfold Sb.tcN; rw [if_pos h]
  have hE : Sb.tuE l a = 0 ∧ Sb.tuV l a ≤ 16 ∧ Sb.tuN l a + Sb.tuV l a ≤ l.length := by
    have h0 := Sb.tc_bounds l a 16
    unfold Sb.tcE at h
    by_cases h1 : Sb.tuE l a = 0
    · rw [if_neg (by simpa using h1)] at h
      by_cases h2 : ((16 : Int) < 0 ∨ (16 : Int) < Sb.tuV l a)
      · rw [if_pos h2] at h; exact absurd h (by decide)
      · exact ⟨h1, by omega, by omega⟩
    · rw [if_pos h1] at h; exact absurd h h1
  obtain ⟨h1, h2, h3⟩ := hE
  obtain ⟨i1, i2, i3, i4⟩ := tu_inv h1
  have hl : (Sb.ttS l a 16).length = Sb.tcV l a 16 := by
    unfold Sb.ttS; rw [List.length_take, List.length_drop, hv, hn]; omega
  refine ⟨i1, by rw [hv, hn]; exact h3, hl, by rw [hv]; exact h2, ?_⟩
  unfold nm1
  rw [show (⟨(Sb.ttS l a 16).toArray⟩ : ByteArray).size = (Sb.ttS l a 16).length from by show (Sb.ttS l a 16).toArray.size = _; simp, hl, hv, i4, List.append_assoc]
  congr 1
  show _ = (Sb.ttS l a 16) ++ _
  unfold Sb.ttS
  rw [hv, hn, ← List.drop_drop, List.take_append_drop]
theorem nm1_len (s : ByteArray) : (nm1 s).length = (Sb.put s.size).length + s.size := by unfold nm1; rw [List.length_append, ← size_len]
theorem tc_at {l q : List UInt8} {a : Nat} {s : ByteArray} (h : StA l a (nm1 s ++ q)) (hs : s.size ≤ 16) : Sb.tcE l a 16 = 0 ∧ (⟨(Sb.ttS l a 16).toArray⟩ : ByteArray) = s ∧ Sb.tcN l a 16 + Sb.tcV l a 16 = a + (nm1 s).length := by
  have hsl : s.data.toList.length = s.size := (size_len s).symm
  have h' := h
  unfold nm1 at h
  rw [List.append_assoc] at h
  obtain ⟨e1, e2, e3⟩ := tu_at h (by omega)
  have h2 := h.step
  have hlen := h2.len
  rw [List.length_append, hsl] at hlen
  have hE : Sb.tcE l a 16 = 0 := by
    unfold Sb.tcE
    rw [if_neg (by simpa using e1), if_neg (by rw [e2]; omega), if_neg (by rw [e2, e3]; omega)]
  have hv : Sb.tcV l a 16 = s.size := by unfold Sb.tcV; rw [if_pos hE, e2]
  have hn : Sb.tcN l a 16 = a + (Sb.put s.size).length := by unfold Sb.tcN; rw [if_pos hE, e3]
  refine ⟨hE, ?_, by rw [hv, hn, nm1_len]; omega⟩
  have : Sb.ttS l a 16 = s.data.toList := by
    unfold Sb.ttS
    rw [hv, hn, h2.2, ← hsl, List.take_left']
    rfl
  rw [this]
theorem nms_cons (s : ByteArray) (N : List ByteArray) : nms (s :: N) = nm1 s ++ nms N := by simp [nms]
theorem tNm_inv {l : List UInt8} : ∀ {k a : Nat} {N : List ByteArray} {b : Nat}, tNm l k a = (N, b, 0) → a ≤ l.length → b ≤ l.length ∧ l.drop a = nms N ++ l.drop b
  | 0, a, N, b, h, ha => by
    rw [tNm] at h
    injection h with h1 h2; injection h2 with h2 h3
    subst h1 h2
    exact ⟨ha, rfl⟩
  | k + 1, a, N, b, h, ha => by
    by_cases h0 : Sb.tcE l a 16 = 0
    · rw [tNm_ok h0] at h
      obtain ⟨t, h1, rfl⟩ := cL_inv h
      obtain ⟨i1, i2, i3, i4, i5⟩ := tc_inv h0
      obtain ⟨e1, e2⟩ := tNm_inv h1 i2
      exact ⟨e1, by rw [i5, e2, nms_cons, List.append_assoc]⟩
    · rw [tNm_no h0] at h
      injection h with h1 h2; injection h2 with h2 h3
      exact absurd h3 h0
theorem tNm_at {l q : List UInt8} : ∀ {N : List ByteArray} {a : Nat}, StA l a (nms N ++ q) → (∀ s ∈ N, s.size ≤ 16) → tNm l N.length a = (N, a + (nms N).length, 0)
  | [], a, h, _ => by rw [List.length_nil, tNm]; rfl
  | s :: N, a, h, hs => by
    rw [nms_cons, List.append_assoc] at h
    obtain ⟨e1, e2, e3⟩ := tc_at h (hs s (by simp))
    rw [List.length_cons, tNm_ok e1, e2, e3, tNm_at h.step (fun x hx => hs x (by simp [hx]))]
    unfold cL
    simp only [if_true]
    rw [nms_cons, List.length_append, Nat.add_assoc]

/-! Four bytes. -/
theorem f4_inv {l : List UInt8} {a : Nat} (h : ¬ l.length < a + 4) : l.drop a = four (f4 l a) ++ l.drop (a + 4) := by
  have g : ∀ i (hi : a + i < l.length), l.getD (a + i) 0 = l[a + i] := fun i hi => by rw [List.getD_eq_getElem?_getD, List.getElem?_eq_getElem hi]; rfl
  have g0 := g 0 (by omega)
  have g1 := g 1 (by omega)
  have g2 := g 2 (by omega)
  have g3 := g 3 (by omega)
  have b0 := (l[a + 0]'(by omega)).toNat_lt
  have b1 := (l[a + 1]'(by omega)).toNat_lt
  have b2 := (l[a + 2]'(by omega)).toNat_lt
  have b3 := (l[a + 3]'(by omega)).toNat_lt
  have e : f4 l a = (l[a + 0]'(by omega)).toNat + 256 * (l[a + 1]'(by omega)).toNat + 65536 * (l[a + 2]'(by omega)).toNat + 16777216 * (l[a + 3]'(by omega)).toNat := by
    unfold f4; rw [g1, g2, g3, ← g0]; rfl
  rw [List.drop_eq_getElem_cons (by omega : a < l.length), List.drop_eq_getElem_cons (by omega : a + 1 < l.length), List.drop_eq_getElem_cons (by omega : a + 1 + 1 < l.length), List.drop_eq_getElem_cons (by omega : a + 1 + 1 + 1 < l.length)]
  have k : ∀ (c : UInt8) (n : Nat), n % 256 = c.toNat → UInt8.ofNat n = c := fun c n hn => by
    apply UInt8.toNat_inj.1; rw [UInt8.toNat_ofNat', ← hn]
  unfold four
  rw [k (l[a]'(by omega)) _ (by rw [e]; simp only [Nat.add_zero] at *; omega), k (l[a + 1]'(by omega)) _ (by rw [e]; omega), k (l[a + 1 + 1]'(by omega)) _ (by rw [e]; simp only [show a + 1 + 1 = a + 2 from rfl]; omega), k (l[a + 1 + 1 + 1]'(by omega)) _ (by rw [e]; simp only [show a + 1 + 1 + 1 = a + 3 from rfl]; omega)]
  rfl
theorem f4_at {l q : List UInt8} {a n : Nat} (h : StA l a (four n ++ q)) (hn : n < 4294967296) : f4 l a = n ∧ ¬ l.length < a + 4 := by
  obtain ⟨e, hl⟩ := h.split
  have hlen := h.len
  rw [List.length_append, four_len] at hlen
  have := f4_four (l.take a) q n hn
  rw [hl, List.append_assoc, ← e] at this
  exact ⟨this, by omega⟩

/-! The table. -/
def entE (x : En) : List UInt8 := Sb.put x.1 ++ Sb.put x.2.1 ++ four x.2.2
def entsE (E : List En) : List UInt8 := E.flatMap entE
theorem entsE_cons (x : En) (E : List En) : entsE (x :: E) = entE x ++ entsE E := by simp [entsE]
theorem rE_inv {l : List UInt8} {a : Nat} (h : (rE l a).2.2 = 0) : a ≤ l.length ∧ (rE l a).2.1 ≤ l.length ∧ l.drop a = entE (rE l a).1 ++ l.drop (rE l a).2.1 := by
  obtain ⟨h1, h2, h3, e⟩ := rE_ok h
  have i1 := rN_inv (show rN l a 1099511627776 = ((rN l a 1099511627776).1, (rN l a 1099511627776).2.1, 0) by rw [← h1])
  have i2 := rN_inv (show rN l (rN l a 1099511627776).2.1 1048576 = ((rN l (rN l a 1099511627776).2.1 1048576).1, (rN l (rN l a 1099511627776).2.1 1048576).2.1, 0) by rw [← h2])
  rw [e]
  refine ⟨i1.1, by simp only; omega, ?_⟩
  unfold entE
  simp only
  rw [i1.2.2.2.2, i2.2.2.2.2, f4_inv h3]
  simp only [List.append_assoc]
theorem rE_at {l q : List UInt8} {a : Nat} {x : En} (h : StA l a (entE x ++ q)) (hx : okE x) : rE l a = (x, a + (entE x).length, 0) := by
  obtain ⟨x1, x2, x3⟩ := x
  obtain ⟨k1, k2, k3⟩ := hx
  simp only at k1 k2 k3
  unfold entE at h ⊢
  simp only [List.append_assoc] at h ⊢
  have s1 := h.step
  have s2 := s1.step
  have r1 := rN_at h (by omega) k1
  have r2 := rN_at s1 (by omega) k2
  obtain ⟨r3, r4⟩ := f4_at s2 k3
  unfold rE
  rw [r1]
  simp only [ne_eq, not_true, if_false]
  rw [r2]
  simp only [ne_eq, not_true, if_false]
  unfold rF
  rw [if_neg r4, r3]
  simp only [List.length_append, four_len]
  rw [Nat.add_assoc, Nat.add_assoc]
theorem tEn_inv {l : List UInt8} : ∀ {k a : Nat} {E : List En} {b : Nat}, tEn l k a = (E, b, 0) → a ≤ l.length → b ≤ l.length ∧ l.drop a = entsE E ++ l.drop b
  | 0, a, E, b, h, ha => by
    rw [tEn] at h
    injection h with h1 h2; injection h2 with h2 h3
    subst h1 h2
    exact ⟨ha, rfl⟩
  | k + 1, a, E, b, h, ha => by
    by_cases h0 : (rE l a).2.2 = 0
    · rw [tEn_ok h0] at h
      obtain ⟨t, h1, rfl⟩ := cL_inv h
      obtain ⟨i1, i2, i3⟩ := rE_inv h0
      obtain ⟨e1, e2⟩ := tEn_inv h1 i2
      exact ⟨e1, by rw [i3, e2, entsE_cons, List.append_assoc]⟩
    · rw [tEn_no h0] at h
      injection h with h1 h2; injection h2 with h2 h3
      exact absurd h3 h0
theorem tEn_at {l q : List UInt8} : ∀ {E : List En} {a : Nat}, StA l a (entsE E ++ q) → (∀ x ∈ E, okE x) → tEn l E.length a = (E, a + (entsE E).length, 0)
  | [], a, h, _ => by rw [List.length_nil, tEn]; rfl
  | x :: E, a, h, hx => by
    rw [entsE_cons, List.append_assoc] at h
    have e1 := rE_at h (hx x (by simp))
    rw [List.length_cons, tEn_ok (by rw [e1]), e1, tEn_at h.step (fun y hy => hx y (by simp [hy]))]
    unfold cL
    simp only [if_true]
    rw [entsE_cons, List.length_append, Nat.add_assoc]

end Go.Proofs.YtillcmddbjhepaaDoor
