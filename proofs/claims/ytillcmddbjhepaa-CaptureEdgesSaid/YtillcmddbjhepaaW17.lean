/-
  Build.
-/
import Derived.Test.YtillcmddbjhepaaW16
namespace Go.Proofs.Ytillcmddbjhepaa
open Go Go.RowKit Go.Joins
set_option linter.unusedVariables false
set_option linter.unusedSimpArgs false

def bdE (N : List ByteArray) (ws : List (List Rn)) : Int := if ckN N ≠ 0 then ckN N else ckW ws N.length
theorem bdE_n {N : List ByteArray} {ws : List (List Rn)} (h : ¬ ckN N = 0) : bdE N ws = ckN N := by unfold bdE; rw [if_pos h]
theorem bdE_w {N : List ByteArray} {ws : List (List Rn)} (h : ckN N = 0) : bdE N ws = ckW ws N.length := by unfold bdE; rw [if_neg (fun x => x h)]
/-- What Build returns. -/
def Bd (w' : World) (B : Nat) (N : List ByteArray) (ws : List (List Rn)) (vN vR : Value) (N' : List ByteArray) (out : List Rn) : Prop :=
  NmRow w' B vN N' ∧ RnRow w' B vR out ∧ (bdE N ws = 0 → N' = N ∧ Cb ws (lg (ws.getD 0 [])) out) ∧ (¬ bdE N ws = 0 → N' = [] ∧ out = []) ∧ out.length ≤ 262144
theorem Wv_of {ws : List (List Rn)} {n : Nat} (h : ckW ws n = 0) (h0 : 0 < ws.length) : Wv ws (lg (ws.getD 0 [])) := by
  obtain ⟨_, h1, h2⟩ := ckW_ok h
  intro i hi
  have h3 := vls_at h1 i hi
  refine ⟨h3.1, h3.2, ?_⟩
  rw [sameLg_at h2 i hi]
  simp [h0]
theorem nm_small {N : List ByteArray} (h : N.all nmB = true) (j : Nat) (hj : j < N.length) : N[j].size ≤ 140737488351232 := by
  have := nm_le (all_at h j hj)
  rw [size_len]
  omega
theorem KRow.set2 {α : Type} {enc : α → Array Value} {k : Nat} {T : TypeId} {w : World} {B b : Nat} {v : Value} {l : List α} (h : KRow enc k T w B v l) (hb : b < B) (x y : Value) : KRow enc k T ((w.setCell ⟨b, 0, none⟩ x).setCell ⟨b, 1, none⟩ y) B v l :=
  KRow.others h (b := b) (fun q hq => (heap_setCell_other _ _ _ _ (fun e => hq e)).trans (heap_setCell_other _ _ _ _ (fun e => hq e))) hb

set_option maxRecDepth 20000 in
set_option maxHeartbeats 8000000 in
theorem build_any (N : List ByteArray) (ws : List (List Rn)) (vN vW : Value) (w : World) (hN : NmArg w vN N) (hs : szs N) (hW : WvArg w vW ws) (hsl : ckN N = 0 → ckW ws N.length = 0 → sl2 ws ≤ 262144) :
    Calls Try.prog 10 #[vN, vW] w fun e w' => ∃ (v1 v2 : Value) (N' : List ByteArray) (out : List Rn), e = .returned (.tuple #[.agg #[v1, v2], .int .i64 (bdE N ws)]) ∧ Bd w' w.heap.size N ws v1 v2 N' out ∧ Below w.heap.size w w' := by
  have HK := Lib.hid (fun w' (hb : Below w.heap.size w w') => checkNames_any N vN w' (hN.keep hb) hs)
  have HKW := Lib.hid (fun n w' (hb : Below w.heap.size w w') h0 h1 => checkWaves_any ws vW n w' (hW.keep hb) h0 h1)
  have HMg := Lib.hid (fun T w' (hb : Below w.heap.size w w') h1 h2 h3 h4 => merged_any ws vW T w' (hW.keep hb) h1 h2 h3 h4)
  have HCp := Lib.hid (fun w' (hb : Below w.heap.size w w') h1 h2 => copied_any N vN w' (hN.keep hb) h1 h2)
  obtain ⟨A1, c1, rfl, hA1, hA1'⟩ := hN.form
  obtain ⟨A2, c2, rfl, hA2⟩ := hW.form
  have B0 := Lib.hid (ba w (.cells #[.slice none 0 0, .slice none 0 0] 25))
  have P0 := Lib.hid (RowAt.new w 25 #[.slice none 0 0, .slice none 0 0])
  clear hA1 hA1' hA2 hN hW hs
  by_cases hz : ckN N = 0
  · obtain ⟨hl0, hl16, hall⟩ := ckN_ok hz
    have HB := bdE_w (ws := ws) hz
    have HKW2 := Lib.hid (fun w' hb => HKW.out N.length w' hb hl0 hl16)
    have HCp2 := Lib.hid (fun w' hb => HCp.out w' hb (by omega) (fun j h => nm_small hall j h))
    have hnl : (N.length : Int) ≤ 16 := by omega
    rw [hz] at HK
    by_cases hw : ckW ws N.length = 0
    · obtain ⟨hwl, _, _⟩ := ckW_ok hw
      have hWv := Wv_of hw (by omega)
      have HMg2 := Lib.hid (fun w' hb => HMg.out _ w' hb hWv (by omega) (by omega) (hsl hz hw))
      have HE := Lib.hid (show bdE N ws = 0 by rw [HB]; exact hw)
      rw [hw] at HKW2
      have hwn : (ws.length : Int) ≤ 16 := by omega
      clear hz hw hsl hWv HB HKW HMg HCp hall hwl
      go_enter Try.func10, Try.ntmps10
      go_wp2_with (first
        | (go_at_call 11; go_must (refine (HK.out _ B0.out).mono ?_; rintro e1 w1 ⟨rfl, b1⟩; have B1 := Lib.hid (B0.out.trans (b1.mono B0.out.size)); have P1 := Lib.hid (P0.out.keep b1); clear b1))
        | (go_at_call 15; go_must (refine (HKW2.out _ B1.out).mono ?_; rintro e2 w2 ⟨rfl, b2⟩; have B2 := Lib.hid (B1.out.trans (b2.mono B1.out.size)); have P2 := Lib.hid (P1.out.keep b2); clear b2))
        | (go_at_call 16; go_must (refine (HMg2.out _ B2.out).mono ?_; rintro e3 w3 ⟨v3, out, rfl, r3, q3, l3, b3⟩; obtain ⟨VA, VN, VC, rfl, rfl⟩ := KRow.form r3; have B3 := Lib.hid (B2.out.trans (b3.mono B2.out.size)); have P3 := Lib.hid (P2.out.keep b3); have R3 := Lib.hid (KRow.mono r3 (show w.heap.size + 1 ≤ _ from P2.out.lt)); have Q3 := Lib.hid q3; have L3 := Lib.hid l3; clear b3 r3 q3 l3))
        | (go_at_call 17; go_must (refine (HCp2.out _ B3.out).mono ?_; rintro e4 w4 ⟨v4, rfl, r4, b4⟩; obtain ⟨UA, UN, UC, rfl, rfl⟩ := KRow.form r4; have B4 := Lib.hid (B3.out.trans (b4.mono B3.out.size)); have P4 := Lib.hid (P3.out.keep b4); have R4 := Lib.hid (KRow.mono r4 (show w.heap.size + 1 ≤ _ from P3.out.lt)); have R34 := Lib.hid (KRow.keep R3.out b4); have g0 := P4.out.cell 0; have g1 := P4.out.cell 1; have z0 := P4.out.frozen 0; have z1 := P4.out.frozen 1; clear b4 r4)))
      have e0 : ((w4.setCell ⟨w.heap.size, 0, none⟩ (.slice UA N.length UC)).setCell ⟨w.heap.size, 1, none⟩ (.slice VA out.length VC)).cell? ⟨w.heap.size, 0, none⟩ = some (.slice UA N.length UC) := (two_set g0 g1).1
      have e1 : ((w4.setCell ⟨w.heap.size, 0, none⟩ (.slice UA N.length UC)).setCell ⟨w.heap.size, 1, none⟩ (.slice VA out.length VC)).cell? ⟨w.heap.size, 1, none⟩ = some (.slice VA out.length VC) := (two_set g0 g1).2
      refine bodyPost_ret (v := .tuple #[.agg #[.slice UA N.length UC, .slice VA out.length VC], .int .i64 0]) (by simp [results, Try.results10, go_sem, e0, e1]) rfl ⟨_, _, N, out, by rw [HE.out], ⟨(KRow.set2 R4.out (Nat.lt_succ_self _) _ _).mono (Nat.le_succ _), (KRow.set2 R34.out (Nat.lt_succ_self _) _ _).mono (Nat.le_succ _), fun _ => ⟨rfl, Q3.out⟩, fun h => absurd HE.out h, L3.out⟩, Below.setCell (Below.setCell B4.out (Nat.le_refl _) _) (Nat.le_refl _) _⟩
    · have HE := Lib.hid HB
      have hwz : (ckW ws N.length == 0) = false := by simpa using hw
      have HNE := Lib.hid (show ¬ bdE N ws = 0 by rw [HB]; exact hw)
      generalize ckW ws N.length = r at *
      clear hz hw hsl HB HKW HMg HCp hall
      go_enter Try.func10, Try.ntmps10
      go_wp2_with (first
        | (go_at_call 11; go_must (refine (HK.out _ B0.out).mono ?_; rintro e1 w1 ⟨rfl, b1⟩; have B1 := Lib.hid (B0.out.trans (b1.mono B0.out.size)); have P1 := Lib.hid (P0.out.keep b1); clear b1))
        | (go_at_call 15; go_must (refine (HKW2.out _ B1.out).mono ?_; rintro e2 w2 ⟨rfl, b2⟩; have B2 := Lib.hid (B1.out.trans (b2.mono B1.out.size)); have P2 := Lib.hid (P1.out.keep b2); have g0 := P2.out.cell 0; have g1 := P2.out.cell 1; have z0 := P2.out.frozen 0; have z1 := P2.out.frozen 1; clear b2)))
      have e0 : ((w2.setCell ⟨w.heap.size, 0, none⟩ (.slice none 0 0)).setCell ⟨w.heap.size, 1, none⟩ (.slice none 0 0)).cell? ⟨w.heap.size, 0, none⟩ = some (.slice none 0 0) := (two_set g0 g1).1
      have e1 : ((w2.setCell ⟨w.heap.size, 0, none⟩ (.slice none 0 0)).setCell ⟨w.heap.size, 1, none⟩ (.slice none 0 0)).cell? ⟨w.heap.size, 1, none⟩ = some (.slice none 0 0) := (two_set g0 g1).2
      refine bodyPost_ret (v := .tuple #[.agg #[.slice none 0 0, .slice none 0 0], .int .i64 r]) (by simp [results, Try.results10, go_sem, e0, e1]) rfl ⟨_, _, [], [], by rw [HE.out], ⟨KRow.nil _ _, KRow.nil _ _, fun h => absurd h HNE.out, fun _ => ⟨rfl, rfl⟩, Nat.zero_le _⟩, Below.setCell (Below.setCell B2.out (Nat.le_refl _) _) (Nat.le_refl _) _⟩
  · have HB := bdE_n (ws := ws) hz
    have HE := Lib.hid HB
    have HNE := Lib.hid (show ¬ bdE N ws = 0 by rw [HB]; exact hz)
    have hwz : (ckN N == 0) = false := by simpa using hz
    generalize ckN N = r at *
    clear hz hsl HB HKW HMg HCp
    go_enter Try.func10, Try.ntmps10
    go_wp2_with (first
      | (go_at_call 11; go_must (refine (HK.out _ B0.out).mono ?_; rintro e1 w1 ⟨rfl, b1⟩; have B1 := Lib.hid (B0.out.trans (b1.mono B0.out.size)); have P1 := Lib.hid (P0.out.keep b1); have g0 := P1.out.cell 0; have g1 := P1.out.cell 1; have z0 := P1.out.frozen 0; have z1 := P1.out.frozen 1; clear b1)))
    have e0 : ((w1.setCell ⟨w.heap.size, 0, none⟩ (.slice none 0 0)).setCell ⟨w.heap.size, 1, none⟩ (.slice none 0 0)).cell? ⟨w.heap.size, 0, none⟩ = some (.slice none 0 0) := (two_set g0 g1).1
    have e1 : ((w1.setCell ⟨w.heap.size, 0, none⟩ (.slice none 0 0)).setCell ⟨w.heap.size, 1, none⟩ (.slice none 0 0)).cell? ⟨w.heap.size, 1, none⟩ = some (.slice none 0 0) := (two_set g0 g1).2
    refine bodyPost_ret (v := .tuple #[.agg #[.slice none 0 0, .slice none 0 0], .int .i64 r]) (by simp [results, Try.results10, go_sem, e0, e1]) rfl ⟨_, _, [], [], by rw [HE.out], ⟨KRow.nil _ _, KRow.nil _ _, fun h => absurd h HNE.out, fun _ => ⟨rfl, rfl⟩, Nat.zero_le _⟩, Below.setCell (Below.setCell B1.out (Nat.le_refl _) _) (Nat.le_refl _) _⟩

end Go.Proofs.Ytillcmddbjhepaa
