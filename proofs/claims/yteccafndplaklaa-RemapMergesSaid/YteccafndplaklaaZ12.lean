/-
  merged.
  Build.
  What Select and Merge answer, plain: the waves are right, and Build makes the specification's runs of them.
  waves: the levels of some channels of a capture.
  slices.Clone of runs; copied: a capture as new memory.
  extended: a capture with its last levels kept.
  What Rename, Delay and Scale answer, plain; delaying twice, scaling by an integer.
  scaledRuns: the runs with scaled bounds.
  Two lists of runs side by side, run by run: what stays while they are merged in place.
  Slice (both).
  extended, whole; clean: the clean capture of a valid one.
  slices.Grow of nil, slices.Concat of two: of names and of waves.
  Select.
  Rename.
-/
import Derived.Test.YteccafndplaklaaZ11
import Derived.Test.YteccafndplaklaaZ07
import Derived.Deep.LoopGhost
import Derived.Test.YteccafndplaklaaZ04
import Derived.Test.YteccafndplaklaaZ06
import Derived.Test.YteccafndplaklaaZ10
import Derived.Test.YteccafndplaklaaZ03
import Derived.Deep.RegionHeld3
import Derived.Test.YteccafndplaklaaShelf
import Derived.Test.YteccafndplaklaaZ09
namespace Go.Proofs.Yteccafndplaklaa
open Go Go.RowKit Go.Joins
set_option linter.unusedVariables false
set_option linter.unusedSimpArgs false

theorem setRow_other (w : World) (g : Nat) (cells : Array Value) (k : Nat) (h : k ≠ g) : (w.setRow g cells).heap[k]? = w.heap[k]? := by
  unfold World.setRow
  rw [Array.getElem?_modify, if_neg (fun e => h e.symm)]
/-- A whole store into a row of the call's own; all other blocks stand. -/
theorem wpList_store_at2 {P : Program} {ops : Array Oper} {rest : List Oper} {o : Oper} {a : Act} {w : World} {Q : Exit → Act → World → Prop} {B b : Nat} {T : TypeId} {old : Array Value} (h : RowAt w b T old) (hB : B ≤ b)
    (cells : Array Value) (x y : Operand) (ty : TypeId) (hgd : o.guard = none) (ho : o.op = .store ty x y) (hx : a.eval x = .pointer (some ⟨b, 0, none⟩)) (hy : a.eval y = .agg cells)
    (hi : (P.info? ty).map (·.size) = some cells.size) (hold : old.size = cells.size) (h1 : cells.toList.all (·.oneCell') = true)
    (hk : ∀ w', RowAt w' b T cells → Below B w w' → (∀ k, k ≠ b → w'.heap[k]? = w.heap[k]?) → wpList P ops Q rest (a.put o.dst undef) w') : wpList P ops Q (o :: rest) a w :=
  wpList_store_row hgd ty x y ho b cells hx hy T old h hi hold (by simpa using h1) (hk _ (setRow_heap w b old cells T (0, 0) h) (below_setRow (Below.refl _ _) hB cells) (fun k hk => setRow_other w b cells k hk))
theorem KRow.others {α : Type} {enc : α → Array Value} {k : Nat} {T : TypeId} {w w' : World} {B b : Nat} {v : Value} {l : List α} (h : KRow enc k T w B v l) (hk : ∀ q, q ≠ b → w'.heap[q]? = w.heap[q]?) (hb : b < B) : KRow enc k T w' B v l := by
  refine ⟨h.1, h.2.imp id fun ⟨g, cap, cur, e, h1, h2, h3⟩ => ⟨g, cap, cur, e, h1, ?_, h3⟩⟩
  rw [hk g (by omega)]; exact h2
/-- What stands behind the row that grew. -/
theorem rnd6 {w w1 w6 : World} {T T2 : TypeId} {P : Array Value} {v : Value} {x y : Value} (hP : RowAt w1 w.heap.size T P) (hB : Below w.heap.size w w1) (hl : ∀ k, v.ownBlock = some k → k < w1.heap.size) (hs : w.heap.size < w1.heap.size)
    (b6 : Below (w.heap.size + 1) (w1.alloc (.cells #[x, y] T2)) w6) (k6 : ∀ k, k < (w1.alloc (.cells #[x, y] T2)).heap.size → some k ≠ v.ownBlock → w6.heap[k]? = (w1.alloc (.cells #[x, y] T2)).heap[k]?) :
    RowAt w6 w.heap.size T P ∧ Below w.heap.size w w6 ∧ w6.cell? ⟨w1.heap.size, 1, none⟩ = some y ∧ w.heap.size < w6.heap.size := by
  have hsz := World.size_alloc w1 (.cells #[x, y] T2)
  have hs6 := b6.size
  refine ⟨(hP.alloc _).below b6 (Nat.lt_succ_self _), (hB.alloc hB.size _).trans (b6.mono (Nat.le_succ _)), ?_, by omega⟩
  have hc : (w1.alloc (.cells #[x, y] T2)).cell? ⟨w1.heap.size, 1, none⟩ = some y := (RowAt.new w1 T2 #[x, y]).cell 1
  rw [← hc]
  refine kept_at k6 ⟨w1.heap.size, 1, none⟩ (by rw [hsz]; exact Nat.lt_succ_self _) fun e => ?_
  have := hl _ e.symm
  exact absurd this (Nat.lt_irrefl _)

set_option maxRecDepth 20000 in
set_option maxHeartbeats 8000000 in
theorem merged_any (ws : List (List Rn)) (V : Value) (T : Int) (w : World) (hT : WvArg w V ws) (hw : Wv ws T) (hn0 : 0 < ws.length) (hn : ws.length ≤ 16) (hsl : sl2 ws ≤ 262144) :
    Calls Try.prog 58 #[V] w fun e w' => ∃ (v : Value) (out : List Rn), e = .returned (.tuple #[v, .bool true]) ∧ RnRow w' w.heap.size v out ∧ Cb ws T out ∧ out.length ≤ 262144 ∧ Below w.heap.size w w' := by
  have HTk := Lib.hid (fun w' (hb : Below w.heap.size w w') => hT.keep hb)
  obtain ⟨A, c, rfl, hA⟩ := hT.form
  obtain ⟨g, o, rfl, hg, hcell⟩ := hA hn0
  obtain ⟨B0, b0, hz1, hz2⟩ := hcell 0 hn0
  rw [Nat.add_zero] at hz1
  have HZ1 := Lib.hid (fun w' (hb : Below w.heap.size w w') => (hb.cell (p := ⟨g, o, none⟩) hg).trans hz1)
  have HW := Lib.hid hw
  have hTr := hw.T_range hn0
  have hlen0 := (hw 0 hn0).1
  have HC := Lib.hid (fun G Z t w' (hb : Below w.heap.size w w') h1 h2 h3 h4 => common_any ws _ T t G Z w' (hT.keep hb) hw hn0 hn h1 h2 h3 h4)
  have HAd := Lib.hid (fun G Z t d w' (hb : Below w.heap.size w w') h1 h2 h3 h4 h5 => advanced_any ws _ T t d G Z w' (hT.keep hb) hw hn0 hn h1 h2 h3 h4 h5)
  have hz16 : zero16 = List.replicate ws.length (0, 0) ++ List.replicate (16 - ws.length) ((0, 0) : Ps) := by
    unfold zero16; rw [List.replicate_append_replicate]; congr 1; omega
  have P0 := Lib.hid (show RowAt (w.alloc (.cells (kArr rnC zero16) 98)) w.heap.size 98 (kArr rnC (List.replicate ws.length (0, 0) ++ List.replicate (16 - ws.length) ((0, 0) : Ps))) from by rw [← hz16]; exact RowAt.new w _ _)
  have B0' := Lib.hid (ba w (.cells (kArr rnC zero16) 98))
  have hl0' : (0 : Int) < ws.length := by omega
  have hZ0 : (List.replicate ws.length ((0, 0) : Ps) ++ List.replicate (16 - ws.length) ((0, 0) : Ps)).length = 16 := by simp; omega
  clear hA hT hw hz1 hz2 hcell
  go_enter Try.func58, Try.ntmps58
  go_wp2
  go_loopg [4] T.toNat (fun gk v wr => ∃ (t : Int) (G : List Ps) (out : List Rn), gk = (T - t).toNat ∧ 0 ≤ t ∧ t ≤ T ∧ Hid (Pa ws t G) ∧ Hid ((G ++ List.replicate (16 - ws.length) ((0, 0) : Ps)).length = 16) ∧ Hid (Cb ws t out) ∧ Hid ((out.length : Int) ≤ sj G) ∧ Hid (RnRow wr (w.heap.size + 1) v out) ∧ Hid (RowAt wr w.heap.size 98 (kArr rnC (G ++ List.replicate (16 - ws.length) ((0, 0) : Ps)))) ∧ Hid (Below w.heap.size w wr))
  case atStart => exact ⟨0, List.replicate ws.length (0, 0), [], by omega, by omega, by omega, Lib.hid (Pa_start HW.out), Lib.hid hZ0, Lib.hid (Cb_start ws), Lib.hid (by show (0 : Int) ≤ _; have : ∀ n, sj (List.replicate n ((0, 0) : Ps)) = 0 := (by intro n; induction n with | zero => rfl | succ n ih => rw [List.replicate_succ]; simp only [sj, ih]; omega); rw [this]; omega), Lib.hid (KRow.nil _ _), P0, B0'⟩
  case round =>
    obtain ⟨t, G, out, hgk, ht0, htT, HPa, HZ, HCb, HS, HR, HP, HB⟩ := hrel
    have hb := HB.out
    have hG0 : 0 < G.length := by have := HPa.out.1; omega
    obtain ⟨j, hj0, hj1, hj2⟩ := Pa_zero HW.out HPa.out hn0 hG0 htT
    have p := posAt HP.out 0 (by rw [HZ.out]; omega)
    rw [get_app hG0, hj0] at p
    obtain ⟨p0, _, _, _⟩ := p
    rw [Nat.zero_mul] at p0
    have q0 := HZ1.out wr hb
    have hbw := HP.out.lt
    have hsj := Pa_sum HPa.out
    have HJ := Lib.hid hj0
    clear hj0
    by_cases ht : t < T
    · have hjl := hj1 ht
      have hjl' : (j : Int) < ws[0].length := by omega
      clear hj1 hj2
      obtain ⟨hD1, hDT, hDe, hPa2, hCb2, hS2⟩ := round_facts HW.out HPa.out hn0 ht0 ht HCb.out HS.out 1099511627776 (Or.inl rfl)
      have hlg : lg out = t := HCb.out.2.2.1
      have hout : (out.length : Int) ≤ 262144 := by have := HS.out; omega
      have hout2 : ((pt out (lvl ws t, mnF 1099511627776 ws G)).length : Int) ≤ 262144 := by
        have := Pa_sum hPa2
        omega
      have HC2 := Lib.hid (fun w' hb' => HC.out G _ t w' hb' HPa.out HZ.out ht0 ht)
      have HA2 := Lib.hid (fun w' hb' => HAd.out G _ t (mnF 1099511627776 ws G) w' hb' HPa.out HZ.out ht hD1 hDe)
      have CL : Hid (∀ V w', RnRow w' (w.heap.size + 1) V out → w.heap.size + 1 ≤ w'.heap.size → Calls Try.prog 78 #[V, .int .i64 (lvl ws t), .int .i64 (mnF 1099511627776 ws G)] w' fun e w'' => ∃ v : Value, e = .returned v ∧ RnRow w'' (w.heap.size + 1) v (pt out (lvl ws t, mnF 1099511627776 ws G)) ∧ Below (w.heap.size + 1) w' w'' ∧ (∀ k, k < w'.heap.size → some k ≠ V.ownBlock → w''.heap[k]? = w'.heap[k]?)) := Lib.hid (fun V w' h1 h2 => lengthened_any2 out _ V _ _ w' h1 h2 HCb.out.2.1 (by omega) (by omega) (by omega))
      have HZ2 := Lib.hid (show (zw (mnF 1099511627776 ws G) ws G ++ List.replicate (16 - ws.length) ((0, 0) : Ps)).length = 16 by
        have := zw_len (mnF 1099511627776 ws G) ws G HPa.out.1.symm
        have h2 := HZ.out
        rw [List.length_append] at h2 ⊢
        omega)
      have hszG : (kArr rnC (G ++ List.replicate (16 - ws.length) ((0, 0) : Ps))).size = 32 := by rw [kArr_size rnC_size, HZ.out]
      have hszZ : (kArr rnC (zw (mnF 1099511627776 ws G) ws G ++ List.replicate (16 - ws.length) ((0, 0) : Ps))).size = 32 := by rw [kArr_size rnC_size, HZ2.out]
      have hone := kArr_one rnC_one (zw (mnF 1099511627776 ws G) ws G ++ List.replicate (16 - ws.length) ((0, 0) : Ps))
      have HsG := Lib.hid hszG; have HsZ := Lib.hid hszZ; have Hone := Lib.hid hone
      have HPa2 := Lib.hid hPa2; have HCb2 := Lib.hid hCb2; have HS2 := Lib.hid hS2
      have HOl := HR.out.lt
      obtain ⟨UA, UN, UC, rfl, hUN⟩ := HR.out.form
      have hlt2 := Lib.hid HOl
      clear hDe hPa2 hCb2 hS2 hszG hszZ hone hlg HOl hUN
      generalize hq1 : zw (mnF 1099511627776 ws G) ws G = G2 at *
      generalize hq2 : lvl ws t = Lv at *
      generalize hq3 : mnF 1099511627776 ws G = D at *
      clear hq1 hq2 hq3
      generalize hq4 : pt out (Lv, D) = out2 at *
      clear hq4
      generalize ws[0].length = n0 at *
      go_wp2
      go_quiet (fail)
      have rP := Lib.hid (show RowAt (wr.drewN nq) w.heap.size 98 (kArr rnC (G ++ List.replicate (16 - ws.length) ((0, 0) : Ps))) from HP.out)
      have rB := Lib.hid (Go.below_drewN hb nq)
      have rR := Lib.hid (KRow.drewN HR.out nq)
      change Hid (RnRow (wr.drewN nq) _ _ _) at rR
      have rs : Hid (w.heap.size < (wr.drewN nq).heap.size) := Lib.hid hbw
      have rlt : Hid (∀ k, (Value.slice UA UN UC).ownBlock = some k → w.heap.size + 1 ≤ k ∧ k < (wr.drewN nq).heap.size) := Lib.hid hlt2.out
      clear p0 q0
      generalize wr.drewN nq = W at *
      go_wp2_with (first
        | (refine wpList_load_row rfl _ _ rfl _ rfl _ _ _ _ rP6.out Try.underlying98 rfl (by rw [HsG.out]; exact pos_info) ?_)
        | (refine wpList_load_row rfl _ _ rfl _ rfl _ _ _ _ rP.out Try.underlying98 rfl (by rw [HsG.out]; exact pos_info) ?_)
        | (refine wpList_store_at2 rP7.out (Nat.le_refl _) (kArr rnC (G2 ++ List.replicate (16 - ws.length) ((0, 0) : Ps))) _ _ _ rfl rfl rfl rfl (by rw [HsZ.out]; exact pos_info) (by rw [HsG.out, HsZ.out]) Hone.out ?_; intro w9 r9 b9 k9)
        | (go_at_call 80; go_must (refine (HC2.out _ rB.out).mono ?_; rintro e1 w1 ⟨rfl, b1⟩; have rB1 := Lib.hid (rB.out.trans (b1.mono rB.out.size)); have rP1 := Lib.hid (rP.out.keep b1); have rR1 := Lib.hid (KRow.keep rR.out b1); have rs1 := Lib.hid (Nat.lt_of_lt_of_le rs.out b1.size); have rl1 := Lib.hid (fun k hk => Nat.lt_of_lt_of_le (rlt.out k hk).2 b1.size); clear b1))
        | (go_at_call 78; go_must (refine (CL.out _ _ (rR1.out.alloc _) (by rw [World.size_alloc]; exact Nat.le_succ_of_le rs1.out)).mono ?_; rintro e6 w6 ⟨v6, rfl, r6, b6, k6⟩; have x6 := rnd6 rP1.out rB1.out rl1.out rs1.out b6 k6; have rP6 := Lib.hid x6.1; have rB6 := Lib.hid x6.2.1; have c6 := x6.2.2.1; have rs6 := Lib.hid x6.2.2.2; clear x6 b6 k6; obtain ⟨VA, VN, VC, rfl, hVN⟩ := KRow.form r6; have hVN2 : (VN : Int) ≤ 262144 := (by omega); have hVN3 : ¬ (262144 : Int) < VN := (by omega); have rR6 := Lib.hid r6; clear r6 hVN))
        | (go_at_call 81; go_must (refine (HA2.out _ rB6.out).mono ?_; rintro e7 w7 ⟨rfl, b7⟩; have rP7 := Lib.hid (rP6.out.keep b7); have rB7 := Lib.hid (rB6.out.trans (b7.mono rB6.out.size)); have rR7 := Lib.hid (KRow.keep rR6.out b7); clear b7)))
      have B9 := Lib.hid (rB7.out.trans b9)
      have R9 := Lib.hid r9
      have R10 := Lib.hid (KRow.others rR7.out k9 (Nat.lt_succ_self _))
      clear r9 b9 k9
      go_roundg ((T - (t + D)).toNat)
      case measure => omega
      case rel => exact ⟨t + D, G2, out2, rfl, by omega, hDT, HPa2, HZ2, HCb2, HS2, R10, R9, B9⟩
    · have hjn := hj2 ht
      have htT2 : t = T := by omega
      subst htT2
      have HL := Lib.hid (show out.length ≤ 262144 by have := HS.out; omega)
      have hlt : ¬ (j : Int) < ws[0].length := by omega
      have hlt2 : (j : Int) = ws[0].length := by omega
      have hd : decide ((j : Int) < ws[0].length) = false := decide_eq_false (by omega)
      clear hj1 hj2 hjn hlt2
      generalize ws[0].length = n0 at *
      go_wp2
      go_quiet (fail)
      go_wp2
      go_returns
      exact ⟨_, out, rfl, (KRow.drewN HR.out _).mono (Nat.le_succ _), HCb.out, HL.out, Go.below_drewN hb _⟩

end Go.Proofs.Yteccafndplaklaa

namespace Go.Proofs.Yteccafndplaklaa
open Go Go.RowKit Go.Joins
set_option linter.unusedVariables false
set_option linter.unusedSimpArgs false

def bdE (N : List ByteArray) (ws : List (List Rn)) : Int := if ckN N ≠ 0 then ckN N else ckW ws N.length
theorem bdE_n {N : List ByteArray} {ws : List (List Rn)} (h : ¬ ckN N = 0) : bdE N ws = ckN N := by unfold bdE; rw [if_pos h]
theorem bdE_w {N : List ByteArray} {ws : List (List Rn)} (h : ckN N = 0) : bdE N ws = ckW ws N.length := by unfold bdE; rw [if_neg (fun x => x h)]
/-- What Build returns. -/
def Bd (w' : World) (B : Nat) (N : List ByteArray) (ws : List (List Rn)) (vN vR : Value) (N' : List ByteArray) (out : List Rn) : Prop :=
  NmRow w' B vN N' ∧ RnRow w' B vR out ∧ (bdE N ws = 0 → N' = N ∧ Cb ws (lg (ws.getD 0 [])) out) ∧ (¬ bdE N ws = 0 → N' = [] ∧ out = []) ∧ out.length ≤ 262144
theorem Wv_of {ws : List (List Rn)} {n : Nat} (h : ckW ws n = 0) (h0 : 0 < ws.length) : Wv ws (lg (ws.getD 0 [])) := by
  obtain ⟨_, h1, h2⟩ := ckW_ok h
  intro i hi
  have h3 := vls_at h1 i hi
  refine ⟨h3.1, h3.2, ?_⟩
  rw [sameLg_at h2 i hi]
  simp [h0]
theorem nm_small {N : List ByteArray} (h : N.all nmB = true) (j : Nat) (hj : j < N.length) : N[j].size ≤ 140737488351232 := by
  have := nm_le (all_at h j hj)
  rw [size_len]
  omega
theorem KRow.set2 {α : Type} {enc : α → Array Value} {k : Nat} {T : TypeId} {w : World} {B b : Nat} {v : Value} {l : List α} (h : KRow enc k T w B v l) (hb : b < B) (x y : Value) : KRow enc k T ((w.setCell ⟨b, 0, none⟩ x).setCell ⟨b, 1, none⟩ y) B v l :=
  KRow.others h (b := b) (fun q hq => (heap_setCell_other _ _ _ _ (fun e => hq e)).trans (heap_setCell_other _ _ _ _ (fun e => hq e))) hb

set_option maxRecDepth 20000 in
set_option maxHeartbeats 8000000 in
theorem build_any (N : List ByteArray) (ws : List (List Rn)) (vN vW : Value) (w : World) (hN : NmArg w vN N) (hs : szs N) (hW : WvArg w vW ws) (hsl : ckN N = 0 → ckW ws N.length = 0 → sl2 ws ≤ 262144) :
    Calls Try.prog 28 #[vN, vW] w fun e w' => ∃ (v1 v2 : Value) (N' : List ByteArray) (out : List Rn), e = .returned (.tuple #[.agg #[v1, v2], .int .i64 (bdE N ws)]) ∧ Bd w' w.heap.size N ws v1 v2 N' out ∧ Below w.heap.size w w' := by
  have HK := Lib.hid (fun w' (hb : Below w.heap.size w w') => checkNames_any N vN w' (hN.keep hb) hs)
  have HKW := Lib.hid (fun n w' (hb : Below w.heap.size w w') h0 h1 => checkWaves_any ws vW n w' (hW.keep hb) h0 h1)
  have HMg := Lib.hid (fun T w' (hb : Below w.heap.size w w') h1 h2 h3 h4 => merged_any ws vW T w' (hW.keep hb) h1 h2 h3 h4)
  have HCp := Lib.hid (fun w' (hb : Below w.heap.size w w') h1 h2 => copied_any N vN w' (hN.keep hb) h1 h2)
  obtain ⟨A1, c1, rfl, hA1, hA1'⟩ := hN.form
  obtain ⟨A2, c2, rfl, hA2⟩ := hW.form
  have B0 := Lib.hid (ba w (.cells #[.slice none 0 0, .slice none 0 0] 25))
  have P0 := Lib.hid (RowAt.new w 25 #[.slice none 0 0, .slice none 0 0])
  clear hA1 hA1' hA2 hN hW hs
  by_cases hz : ckN N = 0
  · obtain ⟨hl0, hl16, hall⟩ := ckN_ok hz
    have HB := bdE_w (ws := ws) hz
    have HKW2 := Lib.hid (fun w' hb => HKW.out N.length w' hb hl0 hl16)
    have HCp2 := Lib.hid (fun w' hb => HCp.out w' hb (by omega) (fun j h => nm_small hall j h))
    have hnl : (N.length : Int) ≤ 16 := by omega
    rw [hz] at HK
    by_cases hw : ckW ws N.length = 0
    · obtain ⟨hwl, _, _⟩ := ckW_ok hw
      have hWv := Wv_of hw (by omega)
      have HMg2 := Lib.hid (fun w' hb => HMg.out _ w' hb hWv (by omega) (by omega) (hsl hz hw))
      have HE := Lib.hid (show bdE N ws = 0 by rw [HB]; exact hw)
      rw [hw] at HKW2
      have hwn : (ws.length : Int) ≤ 16 := by omega
      clear hz hw hsl hWv HB HKW HMg HCp hall hwl
      go_enter Try.func28, Try.ntmps28
      go_wp2_with (first
        | (go_at_call 50; go_must (refine (HK.out _ B0.out).mono ?_; rintro e1 w1 ⟨rfl, b1⟩; have B1 := Lib.hid (B0.out.trans (b1.mono B0.out.size)); have P1 := Lib.hid (P0.out.keep b1); clear b1))
        | (go_at_call 57; go_must (refine (HKW2.out _ B1.out).mono ?_; rintro e2 w2 ⟨rfl, b2⟩; have B2 := Lib.hid (B1.out.trans (b2.mono B1.out.size)); have P2 := Lib.hid (P1.out.keep b2); clear b2))
        | (go_at_call 58; go_must (refine (HMg2.out _ B2.out).mono ?_; rintro e3 w3 ⟨v3, out, rfl, r3, q3, l3, b3⟩; obtain ⟨VA, VN, VC, rfl, rfl⟩ := KRow.form r3; have B3 := Lib.hid (B2.out.trans (b3.mono B2.out.size)); have P3 := Lib.hid (P2.out.keep b3); have R3 := Lib.hid (KRow.mono r3 (show w.heap.size + 1 ≤ _ from P2.out.lt)); have Q3 := Lib.hid q3; have L3 := Lib.hid l3; clear b3 r3 q3 l3))
        | (go_at_call 59; go_must (refine (HCp2.out _ B3.out).mono ?_; rintro e4 w4 ⟨v4, rfl, r4, b4⟩; obtain ⟨UA, UN, UC, rfl, rfl⟩ := KRow.form r4; have B4 := Lib.hid (B3.out.trans (b4.mono B3.out.size)); have P4 := Lib.hid (P3.out.keep b4); have R4 := Lib.hid (KRow.mono r4 (show w.heap.size + 1 ≤ _ from P3.out.lt)); have R34 := Lib.hid (KRow.keep R3.out b4); have g0 := P4.out.cell 0; have g1 := P4.out.cell 1; have z0 := P4.out.frozen 0; have z1 := P4.out.frozen 1; clear b4 r4)))
      have e0 : ((w4.setCell ⟨w.heap.size, 0, none⟩ (.slice UA N.length UC)).setCell ⟨w.heap.size, 1, none⟩ (.slice VA out.length VC)).cell? ⟨w.heap.size, 0, none⟩ = some (.slice UA N.length UC) := (two_set g0 g1).1
      have e1 : ((w4.setCell ⟨w.heap.size, 0, none⟩ (.slice UA N.length UC)).setCell ⟨w.heap.size, 1, none⟩ (.slice VA out.length VC)).cell? ⟨w.heap.size, 1, none⟩ = some (.slice VA out.length VC) := (two_set g0 g1).2
      refine bodyPost_ret (v := .tuple #[.agg #[.slice UA N.length UC, .slice VA out.length VC], .int .i64 0]) (by simp [results, Try.results28, go_sem, e0, e1]) rfl ⟨_, _, N, out, by rw [HE.out], ⟨(KRow.set2 R4.out (Nat.lt_succ_self _) _ _).mono (Nat.le_succ _), (KRow.set2 R34.out (Nat.lt_succ_self _) _ _).mono (Nat.le_succ _), fun _ => ⟨rfl, Q3.out⟩, fun h => absurd HE.out h, L3.out⟩, Below.setCell (Below.setCell B4.out (Nat.le_refl _) _) (Nat.le_refl _) _⟩
    · have HE := Lib.hid HB
      have hwz : (ckW ws N.length == 0) = false := by simpa using hw
      have HNE := Lib.hid (show ¬ bdE N ws = 0 by rw [HB]; exact hw)
      generalize ckW ws N.length = r at *
      clear hz hw hsl HB HKW HMg HCp hall
      go_enter Try.func28, Try.ntmps28
      go_wp2_with (first
        | (go_at_call 50; go_must (refine (HK.out _ B0.out).mono ?_; rintro e1 w1 ⟨rfl, b1⟩; have B1 := Lib.hid (B0.out.trans (b1.mono B0.out.size)); have P1 := Lib.hid (P0.out.keep b1); clear b1))
        | (go_at_call 57; go_must (refine (HKW2.out _ B1.out).mono ?_; rintro e2 w2 ⟨rfl, b2⟩; have B2 := Lib.hid (B1.out.trans (b2.mono B1.out.size)); have P2 := Lib.hid (P1.out.keep b2); have g0 := P2.out.cell 0; have g1 := P2.out.cell 1; have z0 := P2.out.frozen 0; have z1 := P2.out.frozen 1; clear b2)))
      have e0 : ((w2.setCell ⟨w.heap.size, 0, none⟩ (.slice none 0 0)).setCell ⟨w.heap.size, 1, none⟩ (.slice none 0 0)).cell? ⟨w.heap.size, 0, none⟩ = some (.slice none 0 0) := (two_set g0 g1).1
      have e1 : ((w2.setCell ⟨w.heap.size, 0, none⟩ (.slice none 0 0)).setCell ⟨w.heap.size, 1, none⟩ (.slice none 0 0)).cell? ⟨w.heap.size, 1, none⟩ = some (.slice none 0 0) := (two_set g0 g1).2
      refine bodyPost_ret (v := .tuple #[.agg #[.slice none 0 0, .slice none 0 0], .int .i64 r]) (by simp [results, Try.results28, go_sem, e0, e1]) rfl ⟨_, _, [], [], by rw [HE.out], ⟨KRow.nil _ _, KRow.nil _ _, fun h => absurd h HNE.out, fun _ => ⟨rfl, rfl⟩, Nat.zero_le _⟩, Below.setCell (Below.setCell B2.out (Nat.le_refl _) _) (Nat.le_refl _) _⟩
  · have HB := bdE_n (ws := ws) hz
    have HE := Lib.hid HB
    have HNE := Lib.hid (show ¬ bdE N ws = 0 by rw [HB]; exact hz)
    have hwz : (ckN N == 0) = false := by simpa using hz
    generalize ckN N = r at *
    clear hz hsl HB HKW HMg HCp
    go_enter Try.func28, Try.ntmps28
    go_wp2_with (first
      | (go_at_call 50; go_must (refine (HK.out _ B0.out).mono ?_; rintro e1 w1 ⟨rfl, b1⟩; have B1 := Lib.hid (B0.out.trans (b1.mono B0.out.size)); have P1 := Lib.hid (P0.out.keep b1); have g0 := P1.out.cell 0; have g1 := P1.out.cell 1; have z0 := P1.out.frozen 0; have z1 := P1.out.frozen 1; clear b1)))
    have e0 : ((w1.setCell ⟨w.heap.size, 0, none⟩ (.slice none 0 0)).setCell ⟨w.heap.size, 1, none⟩ (.slice none 0 0)).cell? ⟨w.heap.size, 0, none⟩ = some (.slice none 0 0) := (two_set g0 g1).1
    have e1 : ((w1.setCell ⟨w.heap.size, 0, none⟩ (.slice none 0 0)).setCell ⟨w.heap.size, 1, none⟩ (.slice none 0 0)).cell? ⟨w.heap.size, 1, none⟩ = some (.slice none 0 0) := (two_set g0 g1).2
    refine bodyPost_ret (v := .tuple #[.agg #[.slice none 0 0, .slice none 0 0], .int .i64 r]) (by simp [results, Try.results28, go_sem, e0, e1]) rfl ⟨_, _, [], [], by rw [HE.out], ⟨KRow.nil _ _, KRow.nil _ _, fun h => absurd h HNE.out, fun _ => ⟨rfl, rfl⟩, Nat.zero_le _⟩, Below.setCell (Below.setCell B1.out (Nat.le_refl _) _) (Nat.le_refl _) _⟩

end Go.Proofs.Yteccafndplaklaa

namespace Go.Proofs.Yteccafndplaklaa
open Go
set_option linter.unusedVariables false
set_option linter.unusedSimpArgs false

theorem nodup_len {M N : List ByteArray} (h : M.Nodup) (hs : ∀ x ∈ M, x ∈ N) : M.length ≤ N.length := by
  induction M generalizing N with
  | nil => exact Nat.zero_le _
  | cons x M ih =>
    rw [List.nodup_cons] at h
    obtain ⟨a, b, rfl⟩ := List.append_of_mem (hs x (by simp))
    have := ih (N := a ++ b) h.2 fun y hy => by
      have h1 := hs y (by simp [hy])
      rcases List.mem_append.1 h1 with h1 | h1
      · exact List.mem_append_left _ h1
      · rcases List.mem_cons.1 h1 with rfl | h1
        · exact absurd hy h.1
        · exact List.mem_append_right _ h1
    simp only [List.length_append, List.length_cons] at this ⊢
    omega
theorem ckN_of {M : List ByteArray} (h0 : 0 < M.length) (h1 : M.length ≤ 16) (h2 : M.all nmB = true) (h3 : M.Nodup) : ckN M = 0 := ckN_0 (by omega) (by omega) h2 (dp_no.2 h3)
/-- Names chosen from valid names are valid names. -/
theorem ckS_ok {N M : List ByteArray} (hN : ckN N = 0) (h : ckS N M = 0) : ckN M = 0 ∧ (∀ x ∈ M, has N x = true) ∧ M.Nodup ∧ 0 < M.length ∧ M.length ≤ N.length := by
  unfold ckS at h
  split at h
  · omega
  · rename_i h0
    split at h
    · omega
    · rename_i h1
      split at h
      · omega
      · rename_i h2
        have e : kn N M = M.length := by have := kn_le N M; omega
        rw [e, List.take_length] at h1
        have hd : M.Nodup := dp_no.1 (by simpa using h1)
        have hk : ∀ x ∈ M, has N x = true := fun x hx => by
          obtain ⟨j, hj, rfl⟩ := List.getElem_of_mem hx
          exact kn_at j hj (by omega)
        have hl := nodup_len hd fun x hx => has_iff.1 (hk x hx)
        have h3 := ckN_ok hN
        refine ⟨ckN_of (by omega) (by omega) (List.all_eq_true.2 fun x hx => List.all_eq_true.1 h3.2.2 x (has_iff.1 (hk x hx))) hd, hk, hd, by omega, hl⟩
theorem ixF_own {N : List ByteArray} (h : ckN N = 0) {i : Nat} (hi : i < N.length) (d j : Nat) (hd : j + d = i) : ixF (N.drop j) N[i] j = i := by
  have hn := ckN_nodup h
  rw [List.Nodup, List.pairwise_iff_getElem] at hn
  induction d generalizing j with
  | zero =>
    have : j = i := by omega
    subst this
    exact ixF_here hi rfl
  | succ d ih =>
    rw [ixF_next (by omega) (fun e => hn j i (by omega) hi (by omega) (eq_of_toList e))]
    exact ih (j + 1) (by omega)
theorem ix_own {N : List ByteArray} (h : ckN N = 0) {i : Nat} (hi : i < N.length) : ix N N[i] = i := by
  have := ixF_own h hi i 0 (by omega)
  simpa [ix] using this
def ixN (N : List ByteArray) (s : ByteArray) : Nat := (ix N s).toNat
theorem ix_ge {N : List ByteArray} {s : ByteArray} (h : has N s = true) : 0 ≤ ix N s := by rw [← ix_has] at h; exact of_decide_eq_true h
theorem ix_neg {N : List ByteArray} {s : ByteArray} (h : has N s = false) : ix N s = -1 := by
  rcases ix_range N s with h1 | h1
  · exact h1
  · rw [← ix_has] at h; have := of_decide_eq_false h; omega
/-- The waves of chosen channels. -/
def wvs (N : List ByteArray) (R : List Rn) (M : List ByteArray) : List (List Rn) := M.map fun s => (chR N R s).1
theorem wvs_ix {N M : List ByteArray} {R : List Rn} (h : ckC N R = 0) (hk : ∀ x ∈ M, has N x = true) : wvs N R M = (M.map (ixN N)).map (chn R) := by
  unfold wvs
  rw [List.map_map]
  refine List.map_congr_left fun x hx => ?_
  rw [chR_0 h (by have := ix_ge (hk x hx); omega)]
  rfl
theorem wvs_own {N : List ByteArray} {R : List Rn} (h : ckC N R = 0) : wvs N R N = (List.range N.length).map (chn R) := by
  rw [wvs_ix h fun x hx => has_iff.2 hx]
  congr 1
  refine List.ext_getElem (by simp) fun i h1 h2 => ?_
  simp only [List.length_map] at h1
  rw [List.getElem_map, List.getElem_range]
  unfold ixN
  rw [ix_own (ckC_ok h).2.1 h1]
  rfl
/-- Channels of one capture are right waves. -/
theorem ckW_chn {N : List ByteArray} {R : List Rn} (h : ckC N R = 0) (ks : List Nat) : ckW (ks.map (chn R)) ks.length = 0 := by
  have hv := (ckC_ok h).2.2.2.2.2
  refine ckW_0 (by simp) (List.all_eq_true.2 fun w hw => ?_) (List.all_eq_true.2 fun w hw => ?_)
  · obtain ⟨k, _, rfl⟩ := List.mem_map.1 hw
    unfold vl
    rw [chn_vr hv, decide_eq_true (Nat.le_trans (chn_len R k) (ckC_ok h).1)]; rfl
  · obtain ⟨k, hk, rfl⟩ := List.mem_map.1 hw
    rw [decide_eq_true_eq, chn_lg]
    cases ks with
    | nil => cases hk
    | cons a ks => simp [chn_lg]
theorem sl2_chn {R : List Rn} (ks : List Nat) : sl2 (ks.map (chn R)) ≤ ks.length * R.length := by
  induction ks with
  | nil => simp [sl2]
  | cons k ks ih =>
    have := chn_len R k
    simp only [List.map_cons, sl2, List.length_cons]
    have e : ((ks.length + 1 : Nat) : Int) * (R.length : Int) = ks.length * R.length + R.length := by rw [Int.natCast_add, Int.add_mul]; simp
    rw [e]; omega
theorem sl2_append (a b : List (List Rn)) : sl2 (a ++ b) = sl2 a + sl2 b := by
  induction a with
  | nil => simp [sl2]
  | cons w a ih => simp only [List.cons_append, sl2, ih, Int.add_assoc]

/-! Select. -/
def seE (N : List ByteArray) (R : List Rn) (M : List ByteArray) : Int := if ckC N R ≠ 0 then ckC N R else ckS N M
def seN (N : List ByteArray) (R : List Rn) (M : List ByteArray) : List ByteArray := if seE N R M = 0 then M else []
def seR (N : List ByteArray) (R : List Rn) (M : List ByteArray) : List Rn := if seE N R M = 0 then jn (sel (M.map (ixN N)) R) else []
theorem se_c {N : List ByteArray} {R : List Rn} {M : List ByteArray} (h : ¬ ckC N R = 0) : seE N R M = ckC N R := by unfold seE; rw [if_pos h]
theorem se_s {N : List ByteArray} {R : List Rn} {M : List ByteArray} (h : ckC N R = 0) : seE N R M = ckS N M := by unfold seE; rw [if_neg (fun x => x h)]
theorem se_ok {N : List ByteArray} {R : List Rn} {M : List ByteArray} (h : seE N R M = 0) : ckC N R = 0 ∧ ckS N M = 0 := by
  unfold seE at h
  split at h
  · rename_i h1; exact absurd h h1
  · rename_i h1; exact ⟨by simpa using h1, h⟩
theorem seN_0 {N : List ByteArray} {R : List Rn} {M : List ByteArray} (h : seE N R M = 0) : seN N R M = M := by unfold seN; rw [if_pos h]
theorem seN_no {N : List ByteArray} {R : List Rn} {M : List ByteArray} (h : ¬ seE N R M = 0) : seN N R M = [] := by unfold seN; rw [if_neg h]
theorem seR_0 {N : List ByteArray} {R : List Rn} {M : List ByteArray} (h : seE N R M = 0) : seR N R M = jn (sel (M.map (ixN N)) R) := by unfold seR; rw [if_pos h]
theorem seR_no {N : List ByteArray} {R : List Rn} {M : List ByteArray} (h : ¬ seE N R M = 0) : seR N R M = [] := by unfold seR; rw [if_neg h]
/-- Build of the chosen waves makes what the specification makes. -/
theorem se_build {N : List ByteArray} {R : List Rn} {M : List ByteArray} (h : seE N R M = 0) : bdE M (wvs N R M) = 0 ∧ sl2 (wvs N R M) ≤ M.length * R.length ∧ ∀ out, Cb (wvs N R M) (lg ((wvs N R M).getD 0 [])) out → out = seR N R M := by
  obtain ⟨h1, h2⟩ := se_ok h
  obtain ⟨s1, s2, s3, s4, s5⟩ := ckS_ok (ckC_ok h1).2.1 h2
  have e := wvs_ix h1 s2
  have hl : lg ((wvs N R M).getD 0 []) = lg R := by
    rw [e]
    cases M with
    | nil => simp at s4
    | cons x M => simp [chn_lg]
  have hw := ckW_chn h1 (M.map (ixN N))
  have hq := sl2_chn (R := R) (M.map (ixN N))
  rw [List.length_map] at hw hq
  refine ⟨by rw [bdE_w s1, e, hw], by rw [e]; exact hq, fun out ho => ?_⟩
  rw [hl, e] at ho
  rw [seR_0 h]
  exact Cb_unique ho (Cb_sel ((vr_iff _ R 0 (by omega)).1 (ckC_ok h1).2.2.2.2.2).2.1 _)

/-! Merge. -/
/-- A name of the one is a name of the other. -/
def anyIn (A B : List ByteArray) : Bool := B.any fun x => has A x
theorem anyIn_iff {A B : List ByteArray} : anyIn A B = true ↔ ∃ x ∈ B, x ∈ A := by
  unfold anyIn
  rw [List.any_eq_true]
  constructor
  · rintro ⟨x, h1, h2⟩; exact ⟨x, h1, has_iff.1 h2⟩
  · rintro ⟨x, h1, h2⟩; exact ⟨x, h1, has_iff.2 h2⟩
theorem dp_two {A B : List ByteArray} (ha : A.Nodup) (hb : B.Nodup) : dpT (A ++ B) (A ++ B).length = anyIn A B := by
  cases h : anyIn A B
  · rw [dp_no, nodup_two ha hb]
    intro x h1 h2
    rw [anyIn_iff.2 ⟨x, h1, h2⟩] at h
    exact absurd h (by decide)
  · rw [dp_iff, nodup_two ha hb]
    obtain ⟨x, h1, h2⟩ := anyIn_iff.1 h
    exact fun hn => hn x h1 h2
def mgE (A : List ByteArray) (X : List Rn) (B : List ByteArray) (Y : List Rn) : Int := if ckC A X ≠ 0 then ckC A X else if ckC B Y ≠ 0 then ckC B Y else if anyIn A B = true then 9 else if 16 < A.length + B.length then 6 else 0
theorem mg_a {A : List ByteArray} {X : List Rn} {B : List ByteArray} {Y : List Rn} (h : ¬ ckC A X = 0) : mgE A X B Y = ckC A X := by unfold mgE; rw [if_pos h]
theorem mg_b {A : List ByteArray} {X : List Rn} {B : List ByteArray} {Y : List Rn} (h : ckC A X = 0) (h1 : ¬ ckC B Y = 0) : mgE A X B Y = ckC B Y := by unfold mgE; rw [if_neg (fun x => x h), if_pos h1]
theorem mg_9 {A : List ByteArray} {X : List Rn} {B : List ByteArray} {Y : List Rn} (h : ckC A X = 0) (h1 : ckC B Y = 0) (h2 : anyIn A B = true) : mgE A X B Y = 9 := by unfold mgE; rw [if_neg (fun x => x h), if_neg (fun x => x h1), if_pos h2]
theorem mg_6 {A : List ByteArray} {X : List Rn} {B : List ByteArray} {Y : List Rn} (h : ckC A X = 0) (h1 : ckC B Y = 0) (h2 : anyIn A B = false) (h3 : 16 < A.length + B.length) : mgE A X B Y = 6 := by unfold mgE; rw [if_neg (fun x => x h), if_neg (fun x => x h1), if_neg (by rw [h2]; decide), if_pos h3]
theorem mg_0 {A : List ByteArray} {X : List Rn} {B : List ByteArray} {Y : List Rn} (h : ckC A X = 0) (h1 : ckC B Y = 0) (h2 : anyIn A B = false) (h3 : A.length + B.length ≤ 16) : mgE A X B Y = 0 := by unfold mgE; rw [if_neg (fun x => x h), if_neg (fun x => x h1), if_neg (by rw [h2]; decide), if_neg (by omega)]
theorem mg_ok {A : List ByteArray} {X : List Rn} {B : List ByteArray} {Y : List Rn} (h : mgE A X B Y = 0) : ckC A X = 0 ∧ ckC B Y = 0 ∧ anyIn A B = false ∧ A.length + B.length ≤ 16 := by
  unfold mgE at h
  split at h
  · rename_i h1; exact absurd h h1
  · rename_i h1
    split at h
    · rename_i h2; exact absurd h h2
    · rename_i h2
      split at h
      · omega
      · rename_i h3
        split at h
        · omega
        · exact ⟨by simpa using h1, by simpa using h2, by simpa using h3, by omega⟩
/-- The specification's runs (with the levels of the second one above). -/
def mgS (n : Nat) (X Y : List Rn) : List Rn := mrg n (exS X (max (lg X) (lg Y) - lg X)) (exS Y (max (lg X) (lg Y) - lg Y))
def mgN (A : List ByteArray) (X : List Rn) (B : List ByteArray) (Y : List Rn) : List ByteArray := if mgE A X B Y = 0 then A ++ B else []
def mgR (A : List ByteArray) (X : List Rn) (B : List ByteArray) (Y : List Rn) : List Rn := if mgE A X B Y = 0 then jn (mgS A.length X Y) else []
theorem mgN_0 {A : List ByteArray} {X : List Rn} {B : List ByteArray} {Y : List Rn} (h : mgE A X B Y = 0) : mgN A X B Y = A ++ B := by unfold mgN; rw [if_pos h]
theorem mgN_no {A : List ByteArray} {X : List Rn} {B : List ByteArray} {Y : List Rn} (h : ¬ mgE A X B Y = 0) : mgN A X B Y = [] := by unfold mgN; rw [if_neg h]
theorem mgR_0 {A : List ByteArray} {X : List Rn} {B : List ByteArray} {Y : List Rn} (h : mgE A X B Y = 0) : mgR A X B Y = jn (mgS A.length X Y) := by unfold mgR; rw [if_pos h]
theorem mgR_no {A : List ByteArray} {X : List Rn} {B : List ByteArray} {Y : List Rn} (h : ¬ mgE A X B Y = 0) : mgR A X B Y = [] := by unfold mgR; rw [if_neg h]

theorem exP_len2 (R : List Rn) (d : Int) (n : Nat) (h : R.length ≤ n) (h1 : 1 ≤ n) : (exP R d).length ≤ n := by
  by_cases hd : d = 0
  · rw [hd, exP_zero]; exact h
  · rcases nil_or_snoc R with rfl | ⟨o, x, rfl⟩
    · rw [exP_nil hd]; exact h1
    · rw [exP_snoc hd]; simpa using h
/-- A capture made longer is valid. -/
theorem ckC_ex {N : List ByteArray} {R : List Rn} {d : Int} (h : ckC N R = 0) (hd : 0 ≤ d) (hl : lg R + d ≤ 1099511627776) : ckC N (exP R d) = 0 ∧ lg (exP R d) = lg R + d := by
  obtain ⟨h1, h2, h3, h4, h5, h6⟩ := ckC_ok h
  obtain ⟨v1, v2, v3⟩ := (vr_iff _ R 0 (by omega)).1 h6
  obtain ⟨x1, x2, x3, x4, x5⟩ := ex_all v2 hd
  refine ⟨ckC_0 (by have := exP_len2 R d 262144 h1 (by omega); omega) h2 ((vr_iff _ _ 0 (by omega)).2 ⟨exP_lv v1 (mk_range h4).1, x1, by omega⟩), x3⟩
theorem ckW_two {N M : List ByteArray} {R S : List Rn} {t : Int} (h : ckC N R = 0) (h' : ckC M S = 0) (e : lg R = t) (e' : lg S = t) : ckW ((List.range N.length).map (chn R) ++ (List.range M.length).map (chn S)) (N.length + M.length) = 0 ∧ lg (((List.range N.length).map (chn R) ++ (List.range M.length).map (chn S)).getD 0 []) = t := by
  have hv := (ckC_ok h).2.2.2.2.2
  have hv' := (ckC_ok h').2.2.2.2.2
  have hn := (ckC_ok h).2.2.1
  have hg : lg (((List.range N.length).map (chn R) ++ (List.range M.length).map (chn S)).getD 0 []) = t := by
    obtain ⟨n, hn'⟩ : ∃ n, N.length = n + 1 := ⟨N.length - 1, by omega⟩
    rw [hn', List.range_succ_eq_map]
    simp [chn_lg, e]
  refine ⟨ckW_0 (by simp) (List.all_eq_true.2 fun w hw => ?_) (List.all_eq_true.2 fun w hw => ?_), hg⟩
  · rcases List.mem_append.1 hw with hw | hw
    · obtain ⟨k, _, rfl⟩ := List.mem_map.1 hw
      unfold vl
      rw [chn_vr hv, decide_eq_true (Nat.le_trans (chn_len R k) (ckC_ok h).1)]; rfl
    · obtain ⟨k, _, rfl⟩ := List.mem_map.1 hw
      unfold vl
      rw [chn_vr hv', decide_eq_true (Nat.le_trans (chn_len S k) (ckC_ok h').1)]; rfl
  · rw [decide_eq_true_eq, hg]
    rcases List.mem_append.1 hw with hw | hw
    · obtain ⟨k, _, rfl⟩ := List.mem_map.1 hw
      rw [chn_lg, e]
    · obtain ⟨k, _, rfl⟩ := List.mem_map.1 hw
      rw [chn_lg, e']
/-- Build of the waves of both, made long, makes what the specification makes. -/
theorem mg_build {A : List ByteArray} {X : List Rn} {B : List ByteArray} {Y : List Rn} {X' Y' : List Rn} (h : mgE A X B Y = 0) (eX : X' = exP X (max (lg X) (lg Y) - lg X)) (eY : Y' = exP Y (max (lg X) (lg Y) - lg Y)) :
    ckC A X' = 0 ∧ ckC B Y' = 0 ∧ lg X' = max (lg X) (lg Y) ∧ lg Y' = max (lg X) (lg Y) ∧ bdE (A ++ B) (wvs A X' A ++ wvs B Y' B) = 0 ∧ sl2 (wvs A X' A ++ wvs B Y' B) ≤ 16 * (X.length + Y.length + 2) ∧
      ∀ out, Cb (wvs A X' A ++ wvs B Y' B) (lg ((wvs A X' A ++ wvs B Y' B).getD 0 [])) out → out = mgR A X B Y := by
  obtain ⟨h1, h2, h3, h4⟩ := mg_ok h
  obtain ⟨a1, a2, a3, a4, a5, a6⟩ := ckC_ok h1
  obtain ⟨b1, b2, b3, b4, b5, b6⟩ := ckC_ok h2
  have rX := vr_range a6
  have rY := vr_range b6
  obtain ⟨v1, v2, v3⟩ := (vr_iff _ X 0 (by omega)).1 a6
  obtain ⟨u1, u2, u3⟩ := (vr_iff _ Y 0 (by omega)).1 b6
  obtain ⟨c1, c2⟩ := ckC_ex (d := max (lg X) (lg Y) - lg X) h1 (by omega) (by omega)
  obtain ⟨d1, d2⟩ := ckC_ex (d := max (lg X) (lg Y) - lg Y) h2 (by omega) (by omega)
  rw [← eX] at c1 c2
  rw [← eY] at d1 d2
  have c3 : lg X' = max (lg X) (lg Y) := by omega
  have d3 : lg Y' = max (lg X) (lg Y) := by omega
  obtain ⟨w1, w2⟩ := ckW_two c1 d1 c3 d3
  have hnd : (A ++ B).Nodup := dp_no.1 (by rw [dp_two (ckN_nodup a2) (ckN_nodup b2)]; exact h3)
  have hN : ckN (A ++ B) = 0 := ckN_of (by rw [List.length_append]; omega) (by rw [List.length_append]; exact h4) (by rw [List.all_append, a5, b5]; rfl) hnd
  rw [wvs_own c1, wvs_own d1]
  refine ⟨c1, d1, c3, d3, by rw [bdE_w hN, List.length_append, w1], ?_, fun out ho => ?_⟩
  · rw [sl2_append]
    have q1 := sl2_chn (R := X') (List.range A.length)
    have q2 := sl2_chn (R := Y') (List.range B.length)
    have l1 : X'.length ≤ X.length + 1 := by rw [eX]; exact exP_len _ _
    have l2 : Y'.length ≤ Y.length + 1 := by rw [eY]; exact exP_len _ _
    rw [List.length_range] at q1 q2
    have m1 : ((A.length : Int)) * (X'.length : Int) ≤ 16 * (X.length + 1) := Int.mul_le_mul (by omega) (by omega) (by omega) (by omega)
    have m2 : ((B.length : Int)) * (Y'.length : Int) ≤ 16 * (Y.length + 1) := Int.mul_le_mul (by omega) (by omega) (by omega) (by omega)
    omega
  · rw [w2] at ho
    rw [mgR_0 h]
    subst eX eY
    exact Cb_unique ho (Cb_mrg v2 u2 v1 u1 (mk_range a4).1 (mk_range b4).1 (by omega) (by omega) (by omega) (by omega))
end Go.Proofs.Yteccafndplaklaa

namespace Go.Proofs.Yteccafndplaklaa
open Go Go.RowKit Go.Joins
set_option linter.unusedVariables false
set_option linter.unusedSimpArgs false

abbrev SlRow (w : World) (B : Nat) (v : Value) (l : List Sl) : Prop := KRow slC 1 23 w B v l
theorem sl_info : (Try.prog.info? 23).map (fun i => (i.zero, i.size, i.bytes)) = some (some (.slice none 0 0), 1, 24) := by kernel_rfl
theorem wpList_append_sl {w : World} {ops : Array Oper} {rest : List Oper} {o : Oper} {a : Act} {Q : Exit → Act → World → Prop} (hgd : o.guard = none) (s x : Operand)
    (ho : o.op = .call { callee := .builtin .append, args := #[s, x], argTypes := #[51, 51] })
    {B c : Nat} {v : Value} {l : List Sl} {g : Nat} {A : Option Addr} {n m : Nat} {ya : Array Value} (hya : ya = #[.slice A n m]) (hs : a.eval s = v) (hx : a.eval x = .slice (some ⟨g, 0, none⟩) 1 c) (hg : g = w.heap.size) (hf : SlRow w B v l) (hB : B ≤ w.heap.size) (hn : l.length + 1 ≤ 1099511627776)
    (h : ∀ v' w', SlRow w' B v' (l ++ [(A, n, m)]) → Below B w w' → (∀ k, k < w.heap.size → some k ≠ v.ownBlock → w'.heap[k]? = w.heap[k]?) → wpList Try.prog ops Q rest (a.put o.dst v') w') : wpList Try.prog ops Q (o :: rest) a (w.alloc (.cells ya 23)) :=
  wpList_append_k2 (P := Try.prog) Try.underlying51 sl_info rfl (by omega) slC_size hgd s x ho (A, n, m) hya hs hx hg hf hB (by subst hya; rfl) (by omega) (by omega) h
/-- Rows of different elements lie in different blocks. -/
theorem rows_apart {w : World} {B B' : Nat} {v u : Value} {S : List Sl} {l : List Rn} (h : SlRow w B v S) (h' : RnRow w B' u l) : ∀ k, u.ownBlock = some k → some k ≠ v.ownBlock := by
  intro k hk e
  obtain ⟨_, h2⟩ := h
  obtain ⟨_, h3⟩ := h'
  rcases h2 with ⟨rfl, _⟩ | ⟨g, cap, cur, rfl, _, hc, _⟩
  · exact absurd e (by intro x; cases x)
  · rcases h3 with ⟨rfl, _⟩ | ⟨g', cap', cur', rfl, _, hc', _⟩
    · cases hk
    · have e1 : g' = k := Option.some.inj hk
      have e2 : k = g := Option.some.inj e
      subst e1 e2
      rw [hc] at hc'
      have := Option.some.inj hc'
      injection this with a b
      exact absurd b (by decide)
theorem KRow.kept {α : Type} {enc : α → Array Value} {k : Nat} {T : TypeId} {w w' : World} {B : Nat} {x v : Value} {l : List α} (h : KRow enc k T w B x l) (hk : ∀ q, q < w.heap.size → some q ≠ v.ownBlock → w'.heap[q]? = w.heap[q]?) (hne : ∀ q, x.ownBlock = some q → some q ≠ v.ownBlock) : KRow enc k T w' B x l := by
  refine ⟨h.1, h.2.imp id fun ⟨g', cap, cur, e, h1, h2, h3⟩ => ⟨g', cap, cur, e, h1, ?_, h3⟩⟩
  have hlt : g' < w.heap.size := (Array.getElem?_eq_some_iff.1 h2).1
  rw [hk g' hlt (hne g' (by rw [e]; rfl))]
  exact h2
theorem elts_step {w5 w6 : World} {B : Nat} {v : Value} {S : List Sl} {ws : List (List Rn)} {j : Nat} (hS : S.length = j) (x : Sl) (hR5 : SlRow w5 B v S) (hj : j < ws.length) (hE : ∀ q (h : q < S.length) (h' : q < ws.length), RnRow w5 B (slV S[q]) ws[q]) (hx : RnRow w5 B (slV x) ws[j]) (hk : ∀ k, k < w5.heap.size → some k ≠ v.ownBlock → w6.heap[k]? = w5.heap[k]?) :
    ∀ q (h : q < (S ++ [x]).length) (h' : q < ws.length), RnRow w6 B (slV (S ++ [x])[q]) ws[q] := by
  intro q h h'
  rw [List.length_append, List.length_singleton] at h
  by_cases hq : q < S.length
  · rw [List.getElem_append_left hq]
    exact KRow.kept (hE q hq h') hk (rows_apart hR5 (hE q hq h'))
  · have e : q = j := by omega
    subst e
    rw [List.getElem_append_right (by omega)]
    simp only [hS, Nat.sub_self, List.getElem_cons_zero]
    exact KRow.kept hx hk (rows_apart hR5 hx)
/-- A row of rows of runs, all of the call's own. -/
def WvRow (w : World) (B : Nat) (v : Value) (ws : List (List Rn)) : Prop := ∃ S : List Sl, SlRow w B v S ∧ S.length = ws.length ∧ ∀ q (h : q < S.length) (h' : q < ws.length), RnRow w B (slV S[q]) ws[q]
theorem WvRow.arg {w : World} {B : Nat} {v : Value} {ws : List (List Rn)} (h : WvRow w B v ws) : WvArg w v ws := by
  obtain ⟨S, h1, h2, h3⟩ := h
  exact ⟨S, KRow.arg slC_size h1, h2, fun i hi hi' => KRow.arg rnC_size (h3 i hi' hi)⟩
theorem WvRow.mono {w : World} {B B' : Nat} {v : Value} {ws : List (List Rn)} (h : WvRow w B v ws) (hB : B' ≤ B) : WvRow w B' v ws := by
  obtain ⟨S, h1, h2, h3⟩ := h
  exact ⟨S, KRow.mono h1 hB, h2, fun i hi hi' => KRow.mono (h3 i hi hi') hB⟩
theorem wvs_len (N : List ByteArray) (R : List Rn) (M : List ByteArray) : (wvs N R M).length = M.length := by simp [wvs]
theorem wvs_at (N : List ByteArray) (R : List Rn) (M : List ByteArray) (i : Nat) (h : i < (wvs N R M).length) (h' : i < M.length) : (wvs N R M)[i] = (chR N R M[i]).1 := by simp [wvs]

set_option maxRecDepth 100000 in
theorem waves_any (N : List ByteArray) (R : List Rn) (M : List ByteArray) (vN vR vM : Value) (w : World) (hN : NmArg w vN N) (hs : szs N) (hR : RnArg w vR R) (hn : R.length ≤ 1099511627776) (hM : NmArg w vM M) (hm : M.length ≤ 4294967296) :
    Calls Try.prog 29 #[.agg #[vN, vR], vM] w fun e w' => ∃ v : Value, e = .returned v ∧ WvRow w' w.heap.size v (wvs N R M) ∧ Below w.heap.size w w' := by
  have HCh := Lib.hid (fun s w' (hb : Below w.heap.size w w') => channel_any N R vN vR s w' (hN.keep hb) hs (hR.keep hb) hn)
  obtain ⟨A1, c1, rfl, _⟩ := hN.form
  obtain ⟨A2, c2, rfl⟩ := hR.form
  obtain ⟨A, c, rfl, hc, hA⟩ := hM.form
  have HA := Lib.hid hA
  clear hA hM hc hN hR
  obtain ⟨W0, hW0⟩ : ∃ W0, W0 = w.alloc (.cells #[.slice A1 N.length c1, .slice A2 R.length c2] 25) := ⟨_, rfl⟩
  have B0 := Lib.hid (show Below w.heap.size w W0 by rw [hW0]; exact ba w _)
  have P0 := Lib.hid (show W0.cell? ⟨w.heap.size, 0, none⟩ = some (.slice A1 N.length c1) ∧ W0.cell? ⟨w.heap.size, 1, none⟩ = some (.slice A2 R.length c2) ∧ W0.heap.size = w.heap.size + 1 by subst hW0; exact ⟨by simp, by simp, by simp⟩)
  go_enter Try.func29, Try.ntmps29
  go_wp2
  rw [← hW0]
  clear hW0
  go_loopw [5, 12] (fun v i wr => ∃ (j : Nat) (S : List Sl), j ≤ M.length ∧ i = .int .i64 j ∧ Hid (S.length = j) ∧ Hid (SlRow wr (w.heap.size + 1) v S) ∧ Hid (∀ q (h : q < S.length) (h' : q < (wvs N R M).length), RnRow wr (w.heap.size + 1) (slV S[q]) (wvs N R M)[q]) ∧ Hid (Below (w.heap.size + 1) W0 wr)) (fun _ i _ => M.length - (intOf i).toNat)
  case atStart => exact ⟨0, [], Nat.zero_le _, rfl, Lib.hid rfl, Lib.hid (KRow.nil _ _), Lib.hid (fun q h => absurd h (by simp)), Lib.hid (Below.refl _ _)⟩
  case round =>
    obtain ⟨j, S, hj, rfl, hS, HR, HE, HC⟩ := hrel
    have HB := Lib.hid (B0.out.trans (HC.out.mono (Nat.le_succ _)))
    have hsz : w.heap.size + 1 ≤ wr.heap.size := by have := HC.out.size; have := P0.out.2.2; omega
    have q0 := (HC.out.cell (p := ⟨w.heap.size, 0, none⟩) (Nat.lt_succ_self _)).trans P0.out.1
    have q1 := (HC.out.cell (p := ⟨w.heap.size, 1, none⟩) (Nat.lt_succ_self _)).trans P0.out.2.1
    obtain ⟨UA, UN, UC, rfl, hUN⟩ := KRow.form HR.out
    clear hUN
    by_cases hjl : j < M.length
    · obtain ⟨g, o, rfl, hg, hcell⟩ := HA.out (by omega)
      have f0 := (HB.out.cell (p := ⟨g, o + j, none⟩) hg).trans (hcell j hjl)
      have hjw : j < (wvs N R M).length := by rw [wvs_len]; exact hjl
      have QW := Lib.hid (wvs_at N R M j hjw hjl)
      clear hcell
      generalize M[j] = s at *
      have QC := Lib.hid (HCh.out s wr HB.out)
      go_wp2_with (first
        | (go_at_call 60; go_must (refine QC.out.mono ?_; rintro e5 w5 ⟨v5, rfl, r5, b5⟩; obtain ⟨X5, m5, d5, rfl, rfl⟩ := KRow.form r5; have HR5 := Lib.hid (KRow.keep HR.out b5); have HE5 := Lib.hid (fun q (h : q < S.length) h' => KRow.keep (HE.out q h h') b5); have HX5 := Lib.hid (show RnRow w5 (w.heap.size + 1) _ (wvs N R M)[j] by rw [QW.out]; exact KRow.mono r5 hsz); have HC5 := Lib.hid (HC.out.trans (b5.mono hsz)); have hsz5 := Nat.le_trans hsz b5.size; clear r5 b5))
        | (at_builtin; go_must (refine wpList_append_sl rfl _ _ rfl rfl rfl rfl rfl HR5.out hsz5 (by have := hS.out; omega) ?_; intro v6 w6 r6 b6 k6; have HE6 := Lib.hid (elts_step hS.out (X5, (chR N R s).1.length, d5) HR5.out hjw HE5.out HX5.out k6); have HR6 := Lib.hid r6; have HC6 := Lib.hid (HC5.out.trans b6); clear r6 b6 k6))
        | fail)
      go_roundw
      case rel => exact ⟨j + 1, _, by omega, by go_num, Lib.hid (by rw [List.length_append, hS.out]; rfl), HR6, HE6, HC6⟩
      case measure => simp [intOf]; omega
    · have HW := Lib.hid (show WvRow wr w.heap.size (.slice UA UN UC) (wvs N R M) from ⟨S, KRow.mono HR.out (Nat.le_succ _), by rw [wvs_len, hS.out]; omega, fun q h h' => KRow.mono (HE.out q h h') (Nat.le_succ _)⟩)
      go_wp2
      go_returns
      exact ⟨_, rfl, HW.out, HB.out⟩
end Go.Proofs.Yteccafndplaklaa

namespace Go.Proofs.Yteccafndplaklaa
open Go Go.RowKit Go.Joins
set_option linter.unusedVariables false
set_option linter.unusedSimpArgs false

set_option maxRecDepth 100000 in
theorem cloneR_any (R : List Rn) (V : Value) (w : World) (hR : RnArg w V R) (hn : R.length ≤ 1099511627776) :
    Calls Try.prog 66 #[V] w fun e w' => ∃ v : Value, e = .returned v ∧ RnRow w' w.heap.size v R ∧ Below w.heap.size w w' := by
  have HR := Lib.hid hR
  obtain ⟨A, c, rfl, hA⟩ := hR
  cases A with
  | none =>
    have h0 : R = [] := by
      rcases Nat.eq_zero_or_pos R.length with h0 | h0
      · exact List.eq_nil_of_length_eq_zero h0
      · obtain ⟨g', o', e, _⟩ := hA h0
        cases e
    clear hA HR
    subst h0
    go_enter Try.func66, Try.ntmps66
    have ev : ∀ w, Sem.run Try.prog (binOp BinOp.eql 23 (.slice none 0 c) (.slice none 0 0)) w = .ok (.bool true) w := fun w => by kernel_rfl
    go_wp2
    go_returns
    exact ⟨_, rfl, KRow.nil _ _, Below.refl _ _⟩
  | some ad =>
    have HK := Lib.hid (HR.out.keep (ba w (.cells #[] 48)))
    have HL := Lib.hid (KRow.lit (T := 48) rnC_size w w.heap.size (Nat.le_refl _) [] #[] rfl 0 rfl (by decide))
    have ev : ∀ w, Sem.run Try.prog (binOp BinOp.eql 23 (.slice (some ad) R.length c) (.slice none 0 0)) w = .ok (.bool false) w := fun w => by kernel_rfl
    clear hA HR
    go_enter Try.func66, Try.ntmps66
    go_wp2_with (first
      | (at_builtin; go_must (refine wpList_append_arg Try.underlying23 run_info rfl (by omega) rnC_size rnC_one rfl _ _ rfl rfl rfl HL.out HK.out (by rw [World.size_alloc]; omega) (by simp; omega) (by simp; omega) ?_; intro v4 w4 r4 b4; rw [List.nil_append] at r4; have R4 := Lib.hid r4; have B4 := Lib.hid ((ba w _).trans b4); clear r4 b4)))
    go_returns
    exact ⟨_, rfl, R4.out, B4.out⟩

set_option maxRecDepth 100000 in
theorem copiedC_any (N : List ByteArray) (R : List Rn) (vN vR : Value) (w : World) (hN : NmArg w vN N) (hR : RnArg w vR R) (hn : N.length ≤ 65536) (hs : ∀ j (h : j < N.length), N[j].size ≤ 140737488351232) (hr : R.length ≤ 1099511627776) :
    Calls Try.prog 35 #[.agg #[vN, vR]] w fun e w' => ∃ v1 v2 : Value, e = .returned (.agg #[v1, v2]) ∧ NmRow w' w.heap.size v1 N ∧ RnRow w' w.heap.size v2 R ∧ Below w.heap.size w w' := by
  have HCl := Lib.hid (fun w' (hb : Below w.heap.size w w') => cloneR_any R vR w' (hR.keep hb) hr)
  obtain ⟨A, c1, rfl, hc, hA⟩ := hN.form
  obtain ⟨A2, c2, rfl⟩ := hR.form
  have HA := Lib.hid hA
  have HS := Lib.hid hs
  have hn' : (N.length : Int) ≤ 65536 := by omega
  clear hA hN hR hs hc
  have B0 := Lib.hid ((ba w (.cells #[.slice A N.length c1, .slice A2 R.length c2] 25)).alloc (ba w _).size (.cells #[.slice none 0 0, .slice none 0 0] 25))
  have P0 := Lib.hid ((RowAt.new w 25 #[.slice A N.length c1, .slice A2 R.length c2]).alloc (.cells #[.slice none 0 0, .slice none 0 0] 25))
  have Q0' := RowAt.new (w.alloc (.cells #[.slice A N.length c1, .slice A2 R.length c2] 25)) 25 #[.slice none 0 0, .slice none 0 0]
  rw [World.size_alloc] at Q0'
  have Q0 := Lib.hid Q0'
  clear Q0'
  go_enter Try.func35, Try.ntmps35
  go_wp2_with (first
    | (at_make; go_must (refine wpList_make_k (enc := nmC) Try.underlying22 name_info (⟨#[]⟩ : ByteArray) rfl rfl rfl _ _ rfl rfl rfl rfl rfl (by omega) (by omega) (Nat.le_refl _) ?_; intro w1 r1 b1; simp only [World.size_alloc] at r1 b1; have R1 := Lib.hid r1; have B1 := Lib.hid (B0.out.trans (b1.mono (by omega))); have P1 := Lib.hid (P0.out.below b1 (by omega)); have Q1 := Lib.hid (Q0.out.below b1 (by omega)); have g0 := P1.out.cell 0; clear r1 b1)))
  go_loopw [13] (fun i wr => ∃ (j : Nat) (X : List ByteArray), j ≤ N.length ∧ i = .int .i64 j ∧ Hid (Fil X N j) ∧ Hid (NmRow wr (w.heap.size + 1 + 1) (.slice (some ⟨w.heap.size + 1 + 1, 0, none⟩) N.length N.length) X) ∧ Hid (Below (w.heap.size + 1 + 1) w1 wr)) (fun i _ => N.length - (intOf i).toNat)
  case atStart => exact ⟨0, List.replicate N.length ⟨#[]⟩, Nat.zero_le _, rfl, Lib.hid ⟨by simp, rfl⟩, R1, Lib.hid (Below.refl _ _)⟩
  case round =>
    obtain ⟨j, X, hj, rfl, HF, HR, HC⟩ := hrel
    have HB := Lib.hid (B1.out.trans (HC.out.mono (by omega)))
    have hb := HB.out
    have hsz : w.heap.size + 1 + 1 ≤ wr.heap.size := by have := HC.out.size; have := Q1.out.lt; omega
    by_cases hjl : j < N.length
    · obtain ⟨g, o, rfl, hg, hcell⟩ := HA.out (by omega)
      have f0 := (hb.cell (p := ⟨g, o + j, none⟩) hg).trans (hcell j hjl)
      have hXl := HF.out.1
      have HF2 := Lib.hid (HF.out.step hjl)
      have C1 := Lib.hid (fun w => clone_any N[j] w (HS.out j hjl))
      clear hcell HF g0
      generalize N[j] = s at *
      go_wp2_with (first
        | (go_at_call 36; go_must (refine (C1.out _).mono ?_; rintro e2 w2 ⟨rfl, b2⟩; have r2 := HR.out.keep b2; have HC2 := Lib.hid (HC.out.trans (b2.mono hsz)); clear b2; obtain ⟨z0, z1⟩ := NmRow.one r2 j (by omega); have HS2 := Lib.hid (NmRow.set r2 j (by omega) s); clear r2)))
      go_roundw
      case rel => exact ⟨j + 1, X.set j s, by omega, val_int (by omega), HF2, HS2, Lib.hid (HC2.out.setCell (Nat.le_refl _) _)⟩
      case measure => simp [intOf]; omega
    · have hX := HF.out.done (show N.length ≤ j by omega)
      rw [hX] at HR
      have P2 := Lib.hid (P1.out.below HC.out (by omega))
      have Q2 := Lib.hid (Q1.out.below HC.out (by omega))
      have g1 := P2.out.cell 1
      clear hX HF g0
      go_wp2_with (first
        | (go_at_call 66; go_must (refine (HCl.out _ HB.out).mono ?_; rintro e3 w3 ⟨v3, rfl, r3, b3⟩; obtain ⟨UA, UN, UC, rfl, hUN⟩ := KRow.form r3; clear hUN; have R3 := Lib.hid (HR.out.keep b3); have S3 := Lib.hid (KRow.mono r3 hsz); have B3 := Lib.hid (HB.out.trans (b3.mono HB.out.size)); have Q3 := Lib.hid (Q2.out.keep b3); have k0 := Q3.out.cell 0; have k1 := Q3.out.cell 1; have z0 := Q3.out.frozen 0; have z1 := Q3.out.frozen 1; clear r3 b3)))
      have e0 := (two_set (v0 := .slice (some ⟨w.heap.size + 1 + 1, 0, none⟩) N.length N.length) (v1 := .slice UA UN UC) k0 k1).1
      have e1 := (two_set (v0 := .slice (some ⟨w.heap.size + 1 + 1, 0, none⟩) N.length N.length) (v1 := .slice UA UN UC) k0 k1).2
      refine bodyPost_ret (v := .agg #[.slice (some ⟨w.heap.size + 1 + 1, 0, none⟩) N.length N.length, .slice UA UN UC]) (by simp [results, Try.results35, go_sem, e0, e1]) rfl ⟨_, _, rfl, ?_, ?_, Below.setCell (Below.setCell B3.out (Nat.le_succ _) _) (Nat.le_succ _) _⟩
      · exact KRow.mono (KRow.set2 R3.out (by omega) _ _) (by omega)
      · exact KRow.mono (KRow.set2 S3.out (by omega) _ _) (by omega)
end Go.Proofs.Yteccafndplaklaa

namespace Go.Proofs.Yteccafndplaklaa
open Go Go.RowKit Go.Joins
set_option linter.unusedVariables false
set_option linter.unusedSimpArgs false

set_option maxRecDepth 100000 in
theorem extended_same (N : List ByteArray) (R : List Rn) (vN vR : Value) (L : Int) (w : World) (hN : NmArg w vN N) (hs : szs N) (hR : RnArg w vR R) (h : ckC N R = 0) (hL : L = lg R) :
    Calls Try.prog 40 #[.agg #[vN, vR], .int .i64 L] w fun e w' => ∃ v1 v2 : Value, e = .returned (.agg #[v1, v2]) ∧ NmArg w' v1 N ∧ RnArg w' v2 (exP R (L - lg R)) ∧ Below w.heap.size w w' := by
  have hck := ckC_ok h
  have hrg := vr_range hck.2.2.2.2.2
  have HL := Lib.hid (fun w' (hb : Below w.heap.size w w') => longC_any N R vN vR w' (hN.keep hb) hs (hR.keep hb) (by omega))
  rw [lgC_yes h] at HL
  have HX := Lib.hid (show exP R (L - lg R) = R by rw [hL, Int.sub_self, exP_zero])
  have HN := Lib.hid hN
  have HR := Lib.hid hR
  obtain ⟨A1, c1, rfl, _⟩ := hN.form
  obtain ⟨A2, c2, rfl⟩ := hR.form
  have B0 := Lib.hid ((ba w (.cells #[.slice A1 N.length c1, .slice A2 R.length c2] 25)).alloc (ba w _).size (.cells #[.slice none 0 0, .slice none 0 0] 25))
  have P0 := Lib.hid ((RowAt.new w 25 #[.slice A1 N.length c1, .slice A2 R.length c2]).alloc (.cells #[.slice none 0 0, .slice none 0 0] 25))
  have Q0' := RowAt.new (w.alloc (.cells #[.slice A1 N.length c1, .slice A2 R.length c2] 25)) 25 #[.slice none 0 0, .slice none 0 0]
  rw [World.size_alloc] at Q0'
  have Q0 := Lib.hid Q0'
  clear Q0' hN hR hs hck
  have hw := IntWalk.i64_in (L - lg R) (by omega)
  have hz : (L - lg R == 0) = true := by rw [beq_iff_eq]; omega
  clear hL hrg
  generalize lg R = S at *
  go_enter Try.func40, Try.ntmps40
  go_wp2_with (first
    | (go_at_call 25; go_must (refine (HL.out _ B0.out).mono ?_; rintro e1 w1 ⟨rfl, b1⟩; have B1 := Lib.hid (B0.out.trans (b1.mono B0.out.size)); have P1 := Lib.hid (P0.out.keep b1); have Q1 := Lib.hid (Q0.out.keep b1); have g0 := P1.out.cell 0; have g1 := P1.out.cell 1; have k0 := Q1.out.cell 0; have k1 := Q1.out.cell 1; have z0 := Q1.out.frozen 0; have z1 := Q1.out.frozen 1; clear b1)))
  have e0 := (two_set (v0 := .slice A1 N.length c1) (v1 := .slice A2 R.length c2) k0 k1).1
  have e1 := (two_set (v0 := .slice A1 N.length c1) (v1 := .slice A2 R.length c2) k0 k1).2
  have BF := Below.setCell (Below.setCell B1.out (show w.heap.size ≤ (⟨w.heap.size + 1, 0, none⟩ : Addr).block from Nat.le_succ _) (.slice A1 N.length c1)) (show w.heap.size ≤ (⟨w.heap.size + 1, 1, none⟩ : Addr).block from Nat.le_succ _) (.slice A2 R.length c2)
  refine bodyPost_ret (v := .agg #[.slice A1 N.length c1, .slice A2 R.length c2]) (by simp [results, Try.results40, go_sem, e0, e1]) rfl ⟨_, _, rfl, HN.out.keep BF, by rw [HX.out]; exact HR.out.keep BF, BF⟩

theorem KRow.set1 {α : Type} {enc : α → Array Value} {k : Nat} {T : TypeId} {w : World} {B b i : Nat} {v : Value} {l : List α} (h : KRow enc k T w B v l) (hb : b < B) (x : Value) : KRow enc k T (w.setCell ⟨b, i, none⟩ x) B v l :=
  KRow.others h (fun q hq => heap_setCell_other _ _ _ q hq) hb
set_option maxRecDepth 100000 in
theorem extended_none (N : List ByteArray) (vN vR : Value) (L : Int) (w : World) (hN : NmArg w vN N) (hs : szs N) (hR : RnArg w vR []) (h : ckC N [] = 0) (hL : 0 < L) (hm : L ≤ 1099511627776) :
    Calls Try.prog 40 #[.agg #[vN, vR], .int .i64 L] w fun e w' => ∃ v1 v2 : Value, e = .returned (.agg #[v1, v2]) ∧ NmArg w' v1 N ∧ RnArg w' v2 (exP [] (L - lg [])) ∧ Below w.heap.size w w' := by
  have hck := ckC_ok h
  have HL := Lib.hid (fun w' (hb : Below w.heap.size w w') => longC_any N [] vN vR w' (hN.keep hb) hs (hR.keep hb) (by simp))
  rw [lgC_yes h] at HL
  have HCp := Lib.hid (fun w' (hb : Below w.heap.size w w') => copiedC_any N [] vN vR w' (hN.keep hb) (hR.keep hb) (by omega) (fun j hj => nm_small hck.2.2.2.2.1 j hj) (by simp))
  have HX := Lib.hid (show exP [] (L - lg []) = [(0, L)] by rw [exP_nil (by show ¬ L - 0 = 0; omega)]; show [((0 : Int), L - 0)] = _; rw [Int.sub_zero])
  obtain ⟨A1, c1, rfl, _⟩ := hN.form
  obtain ⟨A2, c2, rfl⟩ := hR.form
  have B0 := Lib.hid ((ba w (.cells #[.slice A1 N.length c1, .slice A2 ([] : List Rn).length c2] 25)).alloc (ba w _).size (.cells #[.slice none 0 0, .slice none 0 0] 25))
  have P0 := Lib.hid ((RowAt.new w 25 #[.slice A1 N.length c1, .slice A2 ([] : List Rn).length c2]).alloc (.cells #[.slice none 0 0, .slice none 0 0] 25))
  have Q0' := RowAt.new (w.alloc (.cells #[.slice A1 N.length c1, .slice A2 ([] : List Rn).length c2] 25)) 25 #[.slice none 0 0, .slice none 0 0]
  rw [World.size_alloc] at Q0'
  have Q0 := Lib.hid Q0'
  clear Q0' hN hR hs hck
  have e00 : lg [] = 0 := rfl
  rw [e00] at HL
  have hw : IntKind.i64.wrap (L - 0) = L := by rw [Int.sub_zero]; exact IntWalk.i64_in L (by omega)
  have hw' := IntWalk.i64_in L (by omega)
  have hz : (L == 0) = false := by rw [beq_eq_false_iff_ne]; omega
  clear hL
  go_enter Try.func40, Try.ntmps40
  go_wp2_with (first
    | (go_at_call 25; go_must (refine (HL.out _ B0.out).mono ?_; rintro e1 w1 ⟨rfl, b1⟩; have B1 := Lib.hid (B0.out.trans (b1.mono B0.out.size)); have P1 := Lib.hid (P0.out.keep b1); have Q1 := Lib.hid (Q0.out.keep b1); have g0 := P1.out.cell 0; have g1 := P1.out.cell 1; clear b1))
    | (go_at_call 35; go_must (refine (HCp.out _ B1.out).mono ?_; rintro e2 w2 ⟨v1, v2, rfl, r1, r2, b2⟩; obtain ⟨UA, UN, UC, rfl, rfl⟩ := KRow.form r1; obtain ⟨VA, VN, VC, rfl, rfl⟩ := KRow.form r2; have B2 := Lib.hid (B1.out.trans (b2.mono B1.out.size)); have Q2 := Lib.hid (Q1.out.keep b2); have s2 : w.heap.size + 2 ≤ w2.heap.size := Q2.out.lt; have R2 := Lib.hid (KRow.mono r1 (show w.heap.size + 2 ≤ _ from Q1.out.lt)); clear r1 r2 b2; have X3 := Lib.hid (RowAt.new w2 25 #[.slice UA N.length UC, .slice VA ([] : List Rn).length VC]); have x0 := X3.out.cell 0; have x1 := X3.out.cell 1; have QF := Lib.hid ((Q2.out.alloc (.cells #[.slice UA N.length UC, .slice (some ⟨w2.heap.size + 1, 0, none⟩) 1 1] 25)).alloc (.cells #[.int .i64 0, .int .i64 L] 48)); have k0 := QF.out.cell 0; have k1 := QF.out.cell 1; have z0 := QF.out.frozen 0; have z1 := QF.out.frozen 1; clear g0 g1)))
  have e0 := (two_set (v0 := .slice UA N.length UC) (v1 := .slice (some ⟨w2.heap.size + 1, 0, none⟩) 1 1) k0 k1).1
  have e1 := (two_set (v0 := .slice UA N.length UC) (v1 := .slice (some ⟨w2.heap.size + 1, 0, none⟩) 1 1) k0 k1).2
  have RL := KRow.lit (T := 48) rnC_size (w2.alloc (.cells #[.slice UA N.length UC, .slice (some ⟨w2.heap.size + 1, 0, none⟩) 1 1] 25)) (w2.heap.size + 1) (by rw [World.size_alloc]; omega) [((0 : Int), L)] #[.int .i64 0, .int .i64 L] rfl 1 rfl (by simp)
  rw [World.size_alloc] at RL
  refine bodyPost_ret (v := .agg #[.slice UA N.length UC, .slice (some ⟨w2.heap.size + 1, 0, none⟩) 1 1]) (by simp [results, Try.results40, go_sem, e0, e1]) rfl ⟨_, _, rfl, ?_, ?_, ?_⟩
  · exact KRow.name (KRow.set2 (KRow.alloc (KRow.alloc R2.out _) _) (by omega) _ _)
  · rw [HX.out]
    exact KRow.arg rnC_size (KRow.set2 RL (by omega) _ _)
  · exact Below.setCell (Below.setCell ((B2.out.trans ((ba w2 _).mono B2.out.size)).trans ((ba _ _).mono (by rw [World.size_alloc]; have := B2.out.size; omega))) (Nat.le_succ _) _) (Nat.le_succ _) _

/-- Names and runs lie in different blocks. -/
theorem names_apart {w : World} {B B' : Nat} {v u : Value} {l : List ByteArray} {R : List Rn} (h : RnRow w B v R) (h' : NmRow w B' u l) : ∀ k, u.ownBlock = some k → some k ≠ v.ownBlock := by
  intro k hk e
  obtain ⟨_, h2⟩ := h
  obtain ⟨_, h3⟩ := h'
  rcases h2 with ⟨rfl, _⟩ | ⟨g, cap, cur, rfl, _, hc, _⟩
  · exact absurd e (by intro x; cases x)
  · rcases h3 with ⟨rfl, _⟩ | ⟨g', cap', cur', rfl, _, hc', _⟩
    · cases hk
    · have e1 : g' = k := Option.some.inj hk
      have e2 : k = g := Option.some.inj e
      subst e1 e2
      rw [hc] at hc'
      have := Option.some.inj hc'
      injection this with a b
      exact absurd b (by decide)
set_option maxRecDepth 100000 in
theorem extended_more (N : List ByteArray) (o : List Rn) (x : Rn) (R : List Rn) (eR : R = o ++ [x]) (vN vR : Value) (L : Int) (w : World) (hN : NmArg w vN N) (hs : szs N) (hR : RnArg w vR R) (h : ckC N R = 0) (hL : lg R < L) (hm : L ≤ 1099511627776) :
    Calls Try.prog 40 #[.agg #[vN, vR], .int .i64 L] w fun e w' => ∃ v1 v2 : Value, e = .returned (.agg #[v1, v2]) ∧ NmArg w' v1 N ∧ RnArg w' v2 (exP R (L - lg R)) ∧ Below w.heap.size w w' := by
  have hck := ckC_ok h
  have hrg := vr_range hck.2.2.2.2.2
  have hlen : R.length = o.length + 1 := by rw [eR]; simp
  have hlt : o.length < R.length := by omega
  have hat : R[o.length]'hlt = x := by subst eR; simp
  have hel := el_range hck.2.2.2.2.2 o.length (by omega)
  rw [hat] at hel
  have HL := Lib.hid (fun w' (hb : Below w.heap.size w w') => longC_any N R vN vR w' (hN.keep hb) hs (hR.keep hb) (by omega))
  rw [lgC_yes h] at HL
  have HCp := Lib.hid (fun w' (hb : Below w.heap.size w w') => copiedC_any N R vN vR w' (hN.keep hb) (hR.keep hb) (by omega) (fun j hj => nm_small hck.2.2.2.2.1 j hj) (by omega))
  have HX := Lib.hid (show exP R (L - lg R) = R.set o.length (x.1, x.2 + (L - lg R)) by rw [show exP R (L - lg R) = exP (o ++ [x]) (L - lg R) by rw [← eR], exP_snoc (by omega), eR]; simp)
  obtain ⟨A1, c1, rfl, _⟩ := hN.form
  obtain ⟨A2, c2, rfl⟩ := hR.form
  have B0 := Lib.hid ((ba w (.cells #[.slice A1 N.length c1, .slice A2 R.length c2] 25)).alloc (ba w _).size (.cells #[.slice none 0 0, .slice none 0 0] 25))
  have P0 := Lib.hid ((RowAt.new w 25 #[.slice A1 N.length c1, .slice A2 R.length c2]).alloc (.cells #[.slice none 0 0, .slice none 0 0] 25))
  have Q0' := RowAt.new (w.alloc (.cells #[.slice A1 N.length c1, .slice A2 R.length c2] 25)) 25 #[.slice none 0 0, .slice none 0 0]
  rw [World.size_alloc] at Q0'
  have Q0 := Lib.hid Q0'
  clear Q0' hN hR hs
  have hw := IntWalk.i64_in (L - lg R) (by omega)
  have hz : (L - lg R == 0) = false := by rw [beq_eq_false_iff_ne]; omega
  have hz2 : ((R.length : Int) == 0) = false := by rw [beq_eq_false_iff_ne]; omega
  have hw2 : IntKind.i64.wrap ((R.length : Int) - 1) = ((o.length : Nat) : Int) := by rw [hlen]; rw [IntWalk.i64_in _ (by omega)]; omega
  have hw3 := IntWalk.i64_in (x.2 + (L - lg R)) (by omega)
  have HA := Lib.hid hat
  clear hL hrg hck hlen eR hat
  generalize lg R = S at *
  go_enter Try.func40, Try.ntmps40
  go_wp2_with (first
    | (go_at_call 25; go_must (refine (HL.out _ B0.out).mono ?_; rintro e1 w1 ⟨rfl, b1⟩; have B1 := Lib.hid (B0.out.trans (b1.mono B0.out.size)); have P1 := Lib.hid (P0.out.keep b1); have Q1 := Lib.hid (Q0.out.keep b1); have g0 := P1.out.cell 0; have g1 := P1.out.cell 1; clear b1))
    | (go_at_call 35; go_must (refine (HCp.out _ B1.out).mono ?_; rintro e2 w2 ⟨v1, v2, rfl, r1, r2, b2⟩; obtain ⟨UA, UN, UC, rfl, rfl⟩ := KRow.form r1; obtain ⟨g, VC, rfl⟩ := KRow.full r2 (by omega); have B2 := Lib.hid (B1.out.trans (b2.mono B1.out.size)); have Q2 := Lib.hid (Q1.out.keep b2); have s1 : w.heap.size + 2 ≤ w1.heap.size := Q1.out.lt; have hgl := r2.len; have R2 := Lib.hid r1; have R3 := Lib.hid r2; have R4 := Lib.hid (KRow.alloc r2 (.cells #[.slice UA N.length UC, .slice (some ⟨g, 0, none⟩) R.length VC] 25)); clear r1 r2 b2; have X3 := Lib.hid (RowAt.new w2 25 #[.slice UA N.length UC, .slice (some ⟨g, 0, none⟩) R.length VC]); have x0 := X3.out.cell 0; have x1 := X3.out.cell 1; have y1 := KRow.cell rnC_size R4.out o.length hlt 1 (by omega); have y0 := KRow.frozen R4.out (o.length * 2 + 1); rw [HA.out, show (rnC x)[1]? = some (Value.int .i64 x.2) from rfl] at y1; have QF := Lib.hid ((Q2.out.other ⟨g, o.length * 2 + 1, none⟩ (.int .i64 (x.2 + (L - S))) (by show ¬ g = w.heap.size + 1; omega)).alloc (.cells #[.slice UA N.length UC, .slice (some ⟨g, 0, none⟩) R.length VC] 25)); have X4 := Lib.hid (X3.out.other ⟨g, o.length * 2 + 1, none⟩ (.int .i64 (x.2 + (L - S))) (by show ¬ g = w2.heap.size; omega)); have x2 := X4.out.cell 0; have x3 := X4.out.cell 1; have k0 := QF.out.cell 0; have k1 := QF.out.cell 1; have z0 := QF.out.frozen 0; have z1 := QF.out.frozen 1; clear g0 g1)))
  have e0 := (two_set (v0 := .slice UA N.length UC) (v1 := .slice (some ⟨g, 0, none⟩) R.length VC) k0 k1).1
  have e1 := (two_set (v0 := .slice UA N.length UC) (v1 := .slice (some ⟨g, 0, none⟩) R.length VC) k0 k1).2
  have BZ := Lib.hid ((Below.setCell B2.out (show w.heap.size ≤ (⟨g, o.length * 2 + 1, none⟩ : Addr).block by show w.heap.size ≤ g; omega) (.int .i64 (x.2 + (L - S)))).alloc (Nat.le_trans B2.out.size (by rw [World.size_setCell]; exact Nat.le_refl _)) (.cells #[.slice UA N.length UC, .slice (some ⟨g, 0, none⟩) R.length VC] 25))
  refine bodyPost_ret (v := .agg #[.slice UA N.length UC, .slice (some ⟨g, 0, none⟩) R.length VC]) (by simp [results, Try.results40, go_sem, e0, e1]) rfl ⟨_, _, rfl, ?_, ?_, ?_⟩
  · exact KRow.name (KRow.set2 (KRow.alloc (KRow.kept R2.out (fun q _ hne => heap_setCell_other _ _ _ q (fun e => hne (by rw [e]; rfl))) (names_apart R3.out R2.out)) _) (by omega) _ _)
  · rw [HX.out]
    exact KRow.arg rnC_size (KRow.set2 (KRow.alloc (KRow.cellSet rnC_size R3.out o.length 1 hlt (by omega) (.int .i64 (x.2 + (L - S))) (x.1, x.2 + (L - S)) (by rw [HA.out]; rfl)) _) (by omega) _ _)
  · exact Below.setCell (Below.setCell BZ.out (Nat.le_succ _) _) (Nat.le_succ _) _
end Go.Proofs.Yteccafndplaklaa

namespace Go.Proofs.Yteccafndplaklaa
open Go
set_option linter.unusedVariables false
set_option linter.unusedSimpArgs false

/-! Rename. -/
def rnE (N : List ByteArray) (R : List Rn) (o s : ByteArray) : Int := if ckC N R ≠ 0 then ckC N R else if ix N o < 0 then 8 else if nmB s = false then 4 else if 0 ≤ ix N s ∧ ix N s ≠ ix N o then 9 else 0
def rnN (N : List ByteArray) (R : List Rn) (o s : ByteArray) : List ByteArray := if rnE N R o s = 0 then N.set (ixN N o) s else []
def rnR (N : List ByteArray) (R : List Rn) (o s : ByteArray) : List Rn := if rnE N R o s = 0 then R else []
theorem rn_c {N : List ByteArray} {R : List Rn} {o s : ByteArray} (h : ¬ ckC N R = 0) : rnE N R o s = ckC N R := by unfold rnE; rw [if_pos h]
theorem rn_8 {N : List ByteArray} {R : List Rn} {o s : ByteArray} (h : ckC N R = 0) (h1 : ix N o < 0) : rnE N R o s = 8 := by unfold rnE; rw [if_neg (fun x => x h), if_pos h1]
theorem rn_4 {N : List ByteArray} {R : List Rn} {o s : ByteArray} (h : ckC N R = 0) (h1 : ¬ ix N o < 0) (h2 : nmB s = false) : rnE N R o s = 4 := by unfold rnE; rw [if_neg (fun x => x h), if_neg h1, if_pos h2]
theorem rn_9 {N : List ByteArray} {R : List Rn} {o s : ByteArray} (h : ckC N R = 0) (h1 : ¬ ix N o < 0) (h2 : nmB s = true) (h3 : 0 ≤ ix N s ∧ ix N s ≠ ix N o) : rnE N R o s = 9 := by unfold rnE; rw [if_neg (fun x => x h), if_neg h1, if_neg (by rw [h2]; decide), if_pos h3]
theorem rn_0 {N : List ByteArray} {R : List Rn} {o s : ByteArray} (h : ckC N R = 0) (h1 : ¬ ix N o < 0) (h2 : nmB s = true) (h3 : ¬ (0 ≤ ix N s ∧ ix N s ≠ ix N o)) : rnE N R o s = 0 := by unfold rnE; rw [if_neg (fun x => x h), if_neg h1, if_neg (by rw [h2]; decide), if_neg h3]
theorem rnN_0 {N : List ByteArray} {R : List Rn} {o s : ByteArray} (h : rnE N R o s = 0) : rnN N R o s = N.set (ixN N o) s := by unfold rnN; rw [if_pos h]
theorem rnN_no {N : List ByteArray} {R : List Rn} {o s : ByteArray} (h : ¬ rnE N R o s = 0) : rnN N R o s = [] := by unfold rnN; rw [if_neg h]
theorem rnR_0 {N : List ByteArray} {R : List Rn} {o s : ByteArray} (h : rnE N R o s = 0) : rnR N R o s = R := by unfold rnR; rw [if_pos h]
theorem rnR_no {N : List ByteArray} {R : List Rn} {o s : ByteArray} (h : ¬ rnE N R o s = 0) : rnR N R o s = [] := by unfold rnR; rw [if_neg h]
theorem ix_at {N : List ByteArray} {s : ByteArray} (h : 0 ≤ ix N s) : ∃ (j : Nat) (hj : j < N.length), ix N s = j ∧ N[j] = s := by
  have key : ∀ (l : List ByteArray) (k : Nat), 0 ≤ ixF l s k → ∃ (j : Nat) (hj : j < l.length), ixF l s k = ((k + j : Nat) : Int) ∧ l[j] = s := by
    intro l
    induction l with
    | nil => intro k h; simp [ixF] at h
    | cons x r ih =>
      intro k h
      simp only [ixF] at h ⊢
      split
      · rename_i e; exact ⟨0, by simp, by simp, eq_of_toList e⟩
      · rename_i e
        rw [if_neg e] at h
        obtain ⟨j, hj, e1, e2⟩ := ih (k + 1) h
        exact ⟨j + 1, by simpa using hj, by rw [e1]; congr 1; omega, by simpa using e2⟩
  obtain ⟨j, hj, e1, e2⟩ := key N 0 h
  exact ⟨j, hj, by unfold ix; rw [e1]; simp, e2⟩
/-- The new name stands twice exactly if another channel has it. -/
theorem rn_twice {N : List ByteArray} {o s : ByteArray} (hN : ckN N = 0) (ho : 0 ≤ ix N o) : dpT (N.set (ixN N o) s) (N.set (ixN N o) s).length = decide (0 ≤ ix N s ∧ ix N s ≠ ix N o) := by
  obtain ⟨k, hk, e1, e2⟩ := ix_at ho
  have ek : ixN N o = k := by unfold ixN; rw [e1]; rfl
  rw [ek]
  have hs := nodup_set (s := s) (ckN_nodup hN) hk
  by_cases h : 0 ≤ ix N s ∧ ix N s ≠ ix N o
  · rw [decide_eq_true h, dp_iff, hs]
    obtain ⟨j, hj, f1, f2⟩ := ix_at h.1
    intro hn
    have := hn j hj f2
    apply h.2
    rw [f1, e1, this]
  · rw [decide_eq_false h, dp_no, hs]
    intro j hj e
    subst e
    rw [ix_own hN hj, e1] at h
    omega

/-! Delay. -/
def dlE (N : List ByteArray) (R : List Rn) (b : Int) : Int := if ckC N R ≠ 0 then ckC N R else if b < 0 ∨ 1099511627776 - lg R < b ∨ (0 < b ∧ R.length = 0) then 2 else 0
def dlN (N : List ByteArray) (R : List Rn) (b : Int) : List ByteArray := if dlE N R b = 0 then N else []
def dlR (N : List ByteArray) (R : List Rn) (b : Int) : List Rn := if dlE N R b = 0 then jn (dl R b) else []
theorem dl_c {N : List ByteArray} {R : List Rn} {b : Int} (h : ¬ ckC N R = 0) : dlE N R b = ckC N R := by unfold dlE; rw [if_pos h]
theorem dl_2 {N : List ByteArray} {R : List Rn} {b : Int} (h : ckC N R = 0) (h1 : b < 0 ∨ 1099511627776 - lg R < b ∨ (0 < b ∧ R.length = 0)) : dlE N R b = 2 := by unfold dlE; rw [if_neg (fun x => x h), if_pos h1]
theorem dl_0 {N : List ByteArray} {R : List Rn} {b : Int} (h : ckC N R = 0) (h1 : ¬ (b < 0 ∨ 1099511627776 - lg R < b ∨ (0 < b ∧ R.length = 0))) : dlE N R b = 0 := by unfold dlE; rw [if_neg (fun x => x h), if_neg h1]
theorem dl_ok {N : List ByteArray} {R : List Rn} {b : Int} (h : dlE N R b = 0) : ckC N R = 0 ∧ 0 ≤ b ∧ b ≤ 1099511627776 - lg R ∧ (0 < b → 0 < R.length) := by
  unfold dlE at h
  split at h
  · rename_i h1; exact absurd h h1
  · rename_i h1
    split at h
    · omega
    · exact ⟨by simpa using h1, by omega, by omega, by omega⟩
theorem dlN_0 {N : List ByteArray} {R : List Rn} {b : Int} (h : dlE N R b = 0) : dlN N R b = N := by unfold dlN; rw [if_pos h]
theorem dlN_no {N : List ByteArray} {R : List Rn} {b : Int} (h : ¬ dlE N R b = 0) : dlN N R b = [] := by unfold dlN; rw [if_neg h]
theorem dlR_0 {N : List ByteArray} {R : List Rn} {b : Int} (h : dlE N R b = 0) : dlR N R b = jn (dl R b) := by unfold dlR; rw [if_pos h]
theorem dlR_no {N : List ByteArray} {R : List Rn} {b : Int} (h : ¬ dlE N R b = 0) : dlR N R b = [] := by unfold dlR; rw [if_neg h]
theorem dl_len (R : List Rn) (b : Int) : (dl R b).length = R.length := by cases R <;> rfl
theorem dl_lg2 {R : List Rn} {b : Int} (h : 0 < b → 0 < R.length) (h0 : 0 ≤ b) : lg (dl R b) = lg R + b := by
  cases R with
  | nil => simp only [List.length_nil] at h; simp only [dl, lg]; omega
  | cons r l => exact dl_lg (by simp)
/-- The delayed capture is valid, also before it is made clean. -/
theorem ckC_dl {N : List ByteArray} {R : List Rn} {b : Int} (h : dlE N R b = 0) : ckC N (dl R b) = 0 ∧ ckC N (jn (dl R b)) = 0 ∧ lg (jn (dl R b)) = lg R + b := by
  obtain ⟨h0, h1, h2, h3⟩ := dl_ok h
  obtain ⟨c1, c2, c3, c4, c5, c6⟩ := ckC_ok h0
  obtain ⟨v1, v2, v3⟩ := (vr_iff _ R 0 (by omega)).1 c6
  have e := dl_lg2 h3 h1
  have hv : vr (mk N.length) 0 (dl R b) = true := (vr_iff _ _ 0 (by omega)).2 ⟨dl_lv v1, dl_ps v2 h1, by omega⟩
  have hl := jn_len (dl R b)
  have hd := dl_len R b
  exact ⟨ckC_0 (by omega) c2 hv, ckC_0 (by omega) c2 (jn_vr hv), by rw [jn_lg, e]⟩
theorem jn_nil_iff (l : List Rn) : (jn l).length = 0 ↔ l.length = 0 := by
  rcases nil_or_snoc l with rfl | ⟨o, x, rfl⟩
  · simp [jn]
  · have := (pt_len (jn o) x).2.2
    rw [jn_snoc]
    simp only [List.length_append, List.length_cons, List.length_nil]
    omega
/-- Delaying twice. -/
theorem dl_law {N : List ByteArray} {R : List Rn} {m n : Int} (h : dlE N R m = 0) (hn : 0 ≤ n) : dlE N (dlR N R m) n = dlE N R (m + n) ∧ dlR N (dlR N R m) n = dlR N R (m + n) := by
  obtain ⟨h0, h1, h2, h3⟩ := dl_ok h
  obtain ⟨k1, k2, k3⟩ := ckC_dl h
  obtain ⟨v1, v2, v3⟩ := (vr_iff _ R 0 (by omega)).1 (ckC_ok h0).2.2.2.2.2
  have hz : (jn (dl R m)).length = 0 ↔ R.length = 0 := by rw [jn_nil_iff, dl_len]
  have e : dlE N (dlR N R m) n = dlE N R (m + n) := by
    rw [dlR_0 h]
    by_cases hc : n < 0 ∨ 1099511627776 - lg (jn (dl R m)) < n ∨ (0 < n ∧ (jn (dl R m)).length = 0)
    · rw [dl_2 k2 hc, dl_2 h0 (by rw [k3, hz] at hc; omega)]
    · rw [dl_0 k2 hc, dl_0 h0 (by rw [k3, hz] at hc; omega)]
  refine ⟨e, ?_⟩
  by_cases hd : dlE N R (m + n) = 0
  · rw [dlR_0 hd, dlR_0 (by rw [e]; exact hd), dlR_0 h, dl_twice v2 h1 hn]
  · rw [dlR_no hd, dlR_no (by rw [e]; exact hd)]

/-! Scale (f says where a time goes; it is only asked up to the length). -/
theorem ckC_scr {N : List ByteArray} {R : List Rn} {f : Int → Int} (h : ckC N R = 0) (hf : ∀ a b, 0 ≤ a → a ≤ b → f a ≤ f b) (h0 : f 0 = 0) (hl : f (lg R) ≤ 1099511627776) : ckC N (scr f 0 R) = 0 ∧ ckC N (jn (scr f 0 R)) = 0 ∧ lg (scr f 0 R) = f (lg R) := by
  obtain ⟨c1, c2, c3, c4, c5, c6⟩ := ckC_ok h
  obtain ⟨v1, v2, v3⟩ := (vr_iff _ R 0 (by omega)).1 c6
  have e := scr_lg hf 0 (by omega) v2
  rw [Int.zero_add, h0, Int.sub_zero] at e
  have hv : vr (mk N.length) 0 (scr f 0 R) = true := (vr_iff _ _ 0 (by omega)).2 ⟨scr_lv f 0 v1, scr_ps f 0 R, by omega⟩
  have hs := scr_len f 0 R
  have hj := jn_len (scr f 0 R)
  exact ⟨ckC_0 (by omega) c2 hv, ckC_0 (by omega) c2 (jn_vr hv), e⟩
/-- Where a ratio's Scale sends a time. -/
def fs (n d k : Int) : Int := n * k / d
theorem fs_mono {n d : Int} (hn : 0 ≤ n) (hd : 1 ≤ d) (a b : Int) (_ : 0 ≤ a) (h : a ≤ b) : fs n d a ≤ fs n d b := Int.ediv_le_ediv (by omega) (Int.mul_le_mul_of_nonneg_left h hn)
theorem fs_zero (n d : Int) : fs n d 0 = 0 := by simp [fs]
theorem fs_one (n k : Int) : fs n 1 k = n * k := by simp [fs]
theorem fs_nonneg {n d k : Int} (hn : 0 ≤ n) (hd : 1 ≤ d) (hk : 0 ≤ k) : 0 ≤ fs n d k := by have := fs_mono hn hd 0 k (by omega) hk; rw [fs_zero] at this; exact this
end Go.Proofs.Yteccafndplaklaa

namespace Go.Proofs.Yteccafndplaklaa
open Go Go.RowKit Go.Joins
set_option linter.unusedVariables false
set_option linter.unusedSimpArgs false

theorem scaleIn_any (n d k : Int) (w : World) (hv : Sr.validB n d = true) (hn : 0 < n) (hk0 : 0 ≤ k) (hk : k ≤ 4294967296) :
    Calls Try.prog 46 #[.agg #[.int .i64 n, .int .i64 d], .int .i64 k] w fun e w' => e = .returned (.tuple #[.int .i64 (fs n d k), .int .i64 0]) ∧ Below w.heap.size w w' := by
  have hb := Sr.valid_bd hv
  refine (Sr.sc_any n d k w (by omega) (by omega) (by omega) (by omega) (by omega) (by omega)).mono ?_
  rintro e w' ⟨rfl, b⟩
  refine ⟨?_, b⟩
  rw [hv]
  simp only [Sr.scV, Sr.scE]
  rw [if_neg (by omega), if_neg (by omega)]
  rfl

set_option maxRecDepth 100000 in
theorem scaledRuns_any (m : Int) (R : List Rn) (V : Value) (n d : Int) (w : World) (hR : RnArg w V R) (hr : R.length ≤ 262144) (hv : vr m 0 R = true) (hV : Sr.validB n d = true) (hn : 0 < n) (hl : lg R ≤ 4294967296) (hf : fs n d (lg R) ≤ 1099511627776) :
    Calls Try.prog 47 #[V, .agg #[.int .i64 n, .int .i64 d]] w fun e w' => ∃ v : Value, e = .returned v ∧ RnRow w' w.heap.size v (scr (fs n d) 0 R) ∧ Below w.heap.size w w' := by
  have HSC := Lib.hid (fun k w h0 h1 => scaleIn_any n d k w hV hn h0 h1)
  have hvb := Sr.valid_bd hV
  have HMono := Lib.hid (fs_mono (n := n) (d := d) (by omega) (by omega))
  have HZ := Lib.hid (fs_zero n d)
  obtain ⟨A, c, rfl, hA⟩ := hR
  have HA := Lib.hid hA
  have HV := Lib.hid hv
  have HF := Lib.hid hf
  clear hA hv hV hf
  obtain ⟨W0, hW0⟩ : ∃ W0, W0 = w.alloc (.cells #[.int .i64 n, .int .i64 d] 37) := ⟨_, rfl⟩
  have B0 := Lib.hid (show Below w.heap.size w W0 by rw [hW0]; exact ba w _)
  have P0 := Lib.hid (show RowAt W0 w.heap.size 37 #[.int .i64 n, .int .i64 d] by subst hW0; exact RowAt.new w _ _)
  go_enter Try.func47, Try.ntmps47
  go_wp2
  rw [← hW0]
  clear hW0
  go_loopw [5, 6, 7, 14] (fun v e f i wr => ∃ (j : Nat) (E F : Int), j ≤ R.length ∧ i = .int .i64 j ∧ e = .int .i64 E ∧ f = .int .i64 F ∧ Hid (E = lg (R.take j)) ∧ Hid (F = fs n d (lg (R.take j))) ∧ Hid (RnRow wr (w.heap.size + 1) v (scr (fs n d) 0 (R.take j))) ∧ Hid (Below (w.heap.size + 1) W0 wr)) (fun _ _ _ i _ => R.length - (intOf i).toNat)
  case atStart => exact ⟨0, 0, 0, Nat.zero_le _, rfl, rfl, rfl, Lib.hid rfl, Lib.hid HZ.out.symm, Lib.hid (KRow.nil _ _), Lib.hid (Below.refl _ _)⟩
  case round =>
    obtain ⟨j, E, F, hj, rfl, rfl, rfl, HE, HFF, HR, HC⟩ := hrel
    have HB := Lib.hid (B0.out.trans (HC.out.mono (Nat.le_succ _)))
    have PR := Lib.hid (P0.out.below HC.out (Nat.lt_succ_self _))
    have hsz : w.heap.size + 1 ≤ wr.heap.size := PR.out.lt
    by_cases hjl : j < R.length
    · obtain ⟨g, o, rfl, hg, hcell⟩ := HA.out (by omega)
      have f0 := (HB.out.cell (p := ⟨g, o + j * 2, none⟩) hg).trans (hcell j hjl 0 (by omega))
      have f1 := (HB.out.cell (p := ⟨g, o + (j * 2 + 1), none⟩) hg).trans (hcell j hjl 1 (by omega))
      have hel := el_range HV.out j hjl
      have t0 := lg_take_range HV.out j
      have t1 := lg_take_range HV.out (j + 1)
      have e1 := lg_take R j hjl
      have HST := Lib.hid (scr_take (fs n d) R j hjl)
      have HLEN := Lib.hid (scr_len (fs n d) 0 (R.take j))
      rw [List.length_take] at HLEN
      have hE := HE.out
      have m1 := HMono.out (lg (R.take j)) (lg (R.take j) + R[j].2) (by omega) (by omega)
      have m2 := HMono.out (lg (R.take j) + R[j].2) (lg R) (by omega) (by omega)
      have m0 := HMono.out 0 (lg (R.take j)) (by omega) (by omega)
      rw [HZ.out] at m0
      have hF1 := HF.out
      have hFF : F = fs n d E := by rw [hE]; exact HFF.out
      have HE2 := Lib.hid e1
      rw [← hE] at m1 m2 m0 HST e1 t0
      rw [e1] at t1
      clear hcell
      have c0 : (rnC R[j])[0]? = some (.int .i64 R[j].1) := rfl
      have c1' : (rnC R[j])[1]? = some (.int .i64 R[j].2) := rfl
      rw [c0] at f0
      rw [c1', ← Nat.add_assoc] at f1
      have hw1 := IntWalk.i64_in (E + R[j].2) (by omega)
      have HEN := Lib.hid (show E + R[j].2 = lg (R.take (j + 1)) by rw [HE2.out, hE])
      have HFN := Lib.hid (show fs n d (E + R[j].2) = fs n d (lg (R.take (j + 1))) by rw [HEN.out])
      have SC := Lib.hid (fun w => HSC.out (E + R[j].2) w (by omega) (by omega))
      rw [← hFF] at m1 HST m0
      clear c0 c1' HE HFF HSC HE2 hE hFF e1 t0 t1 HF
      generalize R[j].1 = L at *
      generalize R[j].2 = T at *
      generalize fs n d (E + T) = G at *
      have PRa := Lib.hid (PR.out.alloc (.cells #[.int .i64 L, .int .i64 T] 48))
      have q0 := PRa.out.cell 0
      have q1 := PRa.out.cell 1
      have BW := Lib.hid (ba wr (.cells #[.int .i64 L, .int .i64 T] 48))
      have PB := Lib.hid (RowAt.new wr 48 #[.int .i64 L, .int .i64 T])
      obtain ⟨UA, UN, UC, rfl, hUN⟩ := KRow.form HR.out
      clear hUN
      have hw2 := IntWalk.i64_in (G - F) (by omega)
      by_cases hFG : F < G
      · rw [if_pos hFG] at HST
        go_wp2_with (first
          | (go_at_call 46; go_must (refine (SC.out _).mono ?_; rintro e1 w1 ⟨rfl, b1⟩; have PB1 := Lib.hid (PB.out.keep b1); have g0 := PB1.out.cell 0; have HR1 := Lib.hid (KRow.keep (KRow.keep HR.out BW.out) b1); have BX := BW.out.trans (b1.mono BW.out.size); have HC1 := Lib.hid (HC.out.trans (BX.mono hsz)); have hsz1 := Nat.le_trans hsz BX.size; clear b1 BX))
          | (at_builtin; go_must (refine wpList_append_rn rfl _ _ rfl rfl rfl rfl rfl HR1.out hsz1 (by have := HLEN.out; omega) ?_; intro v6 w6 r6 b6; have HR6 := Lib.hid (show RnRow w6 (w.heap.size + 1) v6 (scr (fs n d) 0 (R.take (j + 1))) by rw [HST.out]; exact r6); have HC6 := Lib.hid (HC1.out.trans b6); clear r6 b6))
          | fail)
        go_roundw
        case rel => exact ⟨j + 1, E + T, G, by omega, by go_num, rfl, rfl, HEN, HFN, HR6, HC6⟩
        case measure => simp [intOf]; omega
      · rw [if_neg hFG, List.append_nil] at HST
        go_wp2_with (first
          | (go_at_call 46; go_must (refine (SC.out _).mono ?_; rintro e1 w1 ⟨rfl, b1⟩; have PB1 := Lib.hid (PB.out.keep b1); have g0 := PB1.out.cell 0; have HR1 := Lib.hid (KRow.keep (KRow.keep HR.out BW.out) b1); have BX := BW.out.trans (b1.mono BW.out.size); have HC1 := Lib.hid (HC.out.trans (BX.mono hsz)); have hsz1 := Nat.le_trans hsz BX.size; clear b1 BX))
          | fail)
        go_roundw
        case rel => exact ⟨j + 1, E + T, G, by omega, by go_num, rfl, rfl, HEN, HFN, Lib.hid (by rw [HST.out]; exact HR1.out), HC1⟩
        case measure => simp [intOf]; omega
    · have : j = R.length := by omega
      subst this
      have HX := Lib.hid (show RnRow wr w.heap.size _ (scr (fs n d) 0 R) by have := HR.out; rw [List.take_length] at this; exact KRow.mono this (Nat.le_succ _))
      go_wp2
      go_returns
      exact ⟨_, rfl, HX.out, HB.out⟩
end Go.Proofs.Yteccafndplaklaa

namespace Go.Proofs.Yteccafndplaklaa
open Go
set_option linter.unusedVariables false
set_option linter.unusedSimpArgs false

theorem mk_two5 (m n : Nat) {a b : Int} (h0 : 0 ≤ a) (h1 : a ≤ mk m) (h2 : 0 ≤ b) (h3 : b ≤ mk n) : 0 ≤ a + b * 2 ^ m ∧ a + b * 2 ^ m ≤ mk (m + n) := by
  unfold mk at *
  have hm : (0 : Int) < 2 ^ m := Int.pow_pos (by omega)
  have e : (2 : Int) ^ (m + n) = 2 ^ m * 2 ^ n := Int.pow_add 2 m n
  have h4 : b * 2 ^ m ≤ (2 ^ n - 1) * 2 ^ m := Int.mul_le_mul_of_nonneg_right h3 (by omega)
  have h5 : 0 ≤ b * 2 ^ m := Int.mul_nonneg h2 (by omega)
  have e2 : ((2 : Int) ^ n - 1) * 2 ^ m = 2 ^ m * 2 ^ n - 2 ^ m := by rw [Int.sub_mul, Int.one_mul, Int.mul_comm]
  rw [e2] at h4
  rw [e]
  omega
theorem mrg_lv5 (m n : Nat) : ∀ (k : Nat) (x y : List Rn), x.length + y.length ≤ k → lv (mk m) x → lv (mk n) y → lv (mk (m + n)) (mrg m x y) := by
  intro k
  induction k with
  | zero =>
    intro x y hk _ _
    have : x = [] := List.eq_nil_of_length_eq_zero (by omega)
    subst this
    rw [mrg_nil]; exact lv_nil _
  | succ k ih =>
    intro x y hk hx hy
    cases x with
    | nil => rw [mrg_nil]; exact lv_nil _
    | cons r x =>
      cases y with
      | nil => rw [mrg_nil2]; exact lv_nil _
      | cons s y =>
        obtain ⟨l, t⟩ := r
        obtain ⟨u, d⟩ := s
        rw [lv_cons] at hx hy
        have hb := mk_two5 m n hx.1.1 hx.1.2 hy.1.1 hy.1.2
        simp only [List.length_cons] at hk
        rcases Int.lt_trichotomy t d with c | c | c
        · rw [mrg_lt c, lv_cons]
          exact ⟨hb, ih x ((u, d - t) :: y) (by simp only [List.length_cons]; omega) hx.2 (lv_cons.2 hy)⟩
        · subst c
          rw [mrg_eq, lv_cons]
          exact ⟨hb, ih x y (by omega) hx.2 hy.2⟩
        · rw [mrg_gt c, lv_cons]
          exact ⟨hb, ih ((l, t - d) :: x) y (by simp only [List.length_cons]; omega) (lv_cons.2 hx) hy.2⟩
/-- 'x | y << n' of levels. -/
theorem or_two (a b i : Nat) (ha : a < 2 ^ i) (hb : b ≤ 65535) (hi : i ≤ 16) : bits .or .i64 (a : Int) ((b * 2 ^ i : Nat) : Int) = ((a + b * 2 ^ i : Nat) : Int) := by
  have hp : 2 ^ i ≤ 2 ^ 16 := Nat.pow_le_pow_right (by omega) hi
  have hx : b * 2 ^ i ≤ 65535 * 2 ^ 16 := Nat.mul_le_mul hb hp
  have ho : a ||| b * 2 ^ i = a + b * 2 ^ i := by
    rw [Nat.mul_comm, Nat.or_comm, ← Nat.two_pow_add_eq_or_of_lt ha, Nat.add_comm]
  have e1 : (BitVec.ofInt 64 (a : Int)).toNat = a := by rw [BitVec.toNat_ofInt]; omega
  have e2 : (BitVec.ofInt 64 ((b * 2 ^ i : Nat) : Int)).toNat = b * 2 ^ i := by rw [BitVec.toNat_ofInt]; omega
  show IntKind.i64.wrap ((BitVec.ofInt 64 a ||| BitVec.ofInt 64 ((b * 2 ^ i : Nat) : Int)).toNat : Int) = _
  rw [BitVec.toNat_or, e1, e2, ho, IntKind.wrap_i64]
  omega
theorem or_lev {l m : Int} {n : Nat} (h0 : 0 ≤ l) (h1 : l ≤ mk n) (h2 : 0 ≤ m) (h3 : m ≤ 65535) (hn : n ≤ 16) : bits .or .i64 l (m * 2 ^ n) = l + m * 2 ^ n ∧ IntKind.i64.wrap (m * 2 ^ n) = m * 2 ^ n := by
  obtain ⟨a, rfl⟩ : ∃ a : Nat, l = a := ⟨l.toNat, by omega⟩
  obtain ⟨c, rfl⟩ : ∃ c : Nat, m = c := ⟨m.toNat, by omega⟩
  have e : (2 : Int) ^ n = ((2 ^ n : Nat) : Int) := by simp
  unfold mk at h1
  rw [e] at h1 ⊢
  have hp : 2 ^ n ≤ 2 ^ 16 := Nat.pow_le_pow_right (by omega) hn
  have hx : c * 2 ^ n ≤ 65535 * 2 ^ 16 := Nat.mul_le_mul (by omega) hp
  have h := or_two a c n (by omega) (by omega) hn
  rw [Int.natCast_mul] at h
  refine ⟨by rw [h, Int.natCast_add, Int.natCast_mul], ?_⟩
  rw [← Int.natCast_mul]
  exact IntWalk.i64_in _ (by omega)
/-- What stays: the rest of the one, the rest of the other, and what is there so far, make the whole. -/
def MgI (a b : Nat) (XL YL : List Rn) (i k : Nat) (out MM : List Rn) : Prop :=
  i ≤ XL.length ∧ k ≤ YL.length ∧ ps (XL.drop i) ∧ ps (YL.drop k) ∧ lv (mk a) (XL.drop i) ∧ lv (mk b) (YL.drop k) ∧ lg (XL.drop i) ≤ 1099511627776 ∧ lg (YL.drop k) ≤ 1099511627776 ∧ out ++ mrg a (XL.drop i) (YL.drop k) = MM
theorem MgI.start {a b : Nat} {X Y : List Rn} (h1 : ps X) (h2 : ps Y) (h3 : lv (mk a) X) (h4 : lv (mk b) Y) (h5 : lg X ≤ 1099511627776) (h6 : lg Y ≤ 1099511627776) : MgI a b X Y 0 0 [] (mrg a X Y) :=
  ⟨Nat.zero_le _, Nat.zero_le _, h1, h2, h3, h4, h5, h6, rfl⟩
theorem MgI.done {a b : Nat} {XL YL : List Rn} {i k : Nat} {out MM : List Rn} (h : MgI a b XL YL i k out MM) (hd : ¬ (i < XL.length ∧ k < YL.length)) : out = MM := by
  obtain ⟨h1, h2, _, _, _, _, _, _, h3⟩ := h
  rcases Nat.lt_or_ge i XL.length with c | c
  · have : YL.drop k = [] := List.drop_eq_nil_of_le (by omega)
    rw [this, mrg_nil2, List.append_nil] at h3
    exact h3
  · have : XL.drop i = [] := List.drop_eq_nil_of_le c
    rw [this, mrg_nil, List.append_nil] at h3
    exact h3
theorem set_drop1 (l : List Rn) (i : Nat) (x : Rn) : (l.set i x).drop (i + 1) = l.drop (i + 1) := by
  apply List.ext_getElem?
  intro q
  rw [List.getElem?_drop, List.getElem?_drop, List.getElem?_set_ne (by omega)]
theorem set_drop0 (l : List Rn) (i : Nat) (hi : i < l.length) (x : Rn) : (l.set i x).drop i = x :: l.drop (i + 1) := by
  rw [List.drop_eq_getElem_cons (by rw [List.length_set]; exact hi), set_drop1]
  simp
theorem MgI.step {a b : Nat} {XL YL : List Rn} {i k : Nat} {out MM : List Rn} (h : MgI a b XL YL i k out MM) (hi : i < XL.length) (hk : k < YL.length) {l t m u : Int} (hl : l = XL[i].1) (ht : t = XL[i].2) (hm : m = YL[k].1) (hu : u = YL[k].2) :
    (0 ≤ l ∧ l ≤ mk a) ∧ (0 ≤ m ∧ m ≤ mk b) ∧ (1 ≤ t ∧ t ≤ 1099511627776) ∧ (1 ≤ u ∧ u ≤ 1099511627776) ∧ out.length < MM.length ∧
      (t < u → MgI a b (XL.set i (l, 0)) (YL.set k (m, u - t)) (i + 1) k (out ++ [(l + m * 2 ^ a, t)]) MM) ∧
      (t = u → MgI a b (XL.set i (l, 0)) (YL.set k (m, 0)) (i + 1) (k + 1) (out ++ [(l + m * 2 ^ a, t)]) MM) ∧
      (u < t → MgI a b (XL.set i (l, t - u)) (YL.set k (m, 0)) i (k + 1) (out ++ [(l + m * 2 ^ a, u)]) MM) := by
  obtain ⟨h1, h2, h3, h4, h5, h6, h7, h8, h9⟩ := h
  have eX : XL.drop i = (l, t) :: XL.drop (i + 1) := by rw [List.drop_eq_getElem_cons hi, hl, ht]
  have eY : YL.drop k = (m, u) :: YL.drop (k + 1) := by rw [List.drop_eq_getElem_cons hk, hm, hu]
  rw [eX] at h3 h5 h7 h9
  rw [eY] at h4 h6 h8 h9
  rw [ps_cons] at h3 h4
  rw [lv_cons] at h5 h6
  have p1 := ps_nonneg h3.2
  have p2 := ps_nonneg h4.2
  have g1 : t + lg (XL.drop (i + 1)) ≤ 1099511627776 := h7
  have g2 : u + lg (YL.drop (k + 1)) ≤ 1099511627776 := h8
  have h3' : 1 ≤ t := h3.1
  have h4' : 1 ≤ u := h4.1
  have hlt : ∀ x c, mrg a ((l, t) :: XL.drop (i + 1)) ((m, u) :: YL.drop (k + 1)) = x :: c → out.length < MM.length ∧ (out ++ [x]) ++ c = MM := by
    intro x c e
    rw [e] at h9
    refine ⟨by rw [← h9, List.length_append, List.length_cons]; omega, by rw [List.append_assoc]; exact h9⟩
  have hlen : out.length < MM.length := by
    rcases Int.lt_trichotomy t u with c | c | c
    · exact (hlt _ _ (mrg_lt c)).1
    · subst c; exact (hlt _ _ mrg_eq).1
    · exact (hlt _ _ (mrg_gt c)).1
  refine ⟨h5.1, h6.1, ⟨h3', by omega⟩, ⟨h4', by omega⟩, hlen, fun c => ?_, fun c => ?_, fun c => ?_⟩
  · refine ⟨by rw [List.length_set]; omega, by rw [List.length_set]; omega, ?_, ?_, ?_, ?_, ?_, ?_, ?_⟩
    · rw [set_drop1]; exact h3.2
    · rw [set_drop0 _ _ hk, ps_cons]; exact ⟨by show 1 ≤ u - t; omega, h4.2⟩
    · rw [set_drop1]; exact h5.2
    · rw [set_drop0 _ _ hk, lv_cons]; exact h6
    · rw [set_drop1]; omega
    · rw [set_drop0 _ _ hk]; show (u - t) + lg _ ≤ _; omega
    · rw [set_drop1, set_drop0 _ _ hk]; exact (hlt _ _ (mrg_lt c)).2
  · subst c
    refine ⟨by rw [List.length_set]; omega, by rw [List.length_set]; omega, ?_, ?_, ?_, ?_, ?_, ?_, ?_⟩
    · rw [set_drop1]; exact h3.2
    · rw [set_drop1]; exact h4.2
    · rw [set_drop1]; exact h5.2
    · rw [set_drop1]; exact h6.2
    · rw [set_drop1]; omega
    · rw [set_drop1]; omega
    · rw [set_drop1, set_drop1]; exact (hlt _ _ mrg_eq).2
  · refine ⟨by rw [List.length_set]; omega, by rw [List.length_set]; omega, ?_, ?_, ?_, ?_, ?_, ?_, ?_⟩
    · rw [set_drop0 _ _ hi, ps_cons]; exact ⟨by show 1 ≤ t - u; omega, h3.2⟩
    · rw [set_drop1]; exact h4.2
    · rw [set_drop0 _ _ hi, lv_cons]; exact h5
    · rw [set_drop1]; exact h6.2
    · rw [set_drop0 _ _ hi]; show (t - u) + lg _ ≤ _; omega
    · rw [set_drop1]; omega
    · rw [set_drop0 _ _ hi, set_drop1]; exact (hlt _ _ (mrg_gt c)).2
end Go.Proofs.Yteccafndplaklaa

namespace Go.Proofs.Yteccafndplaklaa
open Go Go.RowKit Go.Joins
set_option linter.unusedVariables false
set_option linter.unusedSimpArgs false

def slE (N : List ByteArray) (R : List Rn) (f t : Int) : Int := if ckC N R ≠ 0 then ckC N R else if f < 0 ∨ t ≤ f ∨ lg R < t then 2 else 0
theorem slE_n {N : List ByteArray} {R : List Rn} {f t : Int} (h : ¬ ckC N R = 0) : slE N R f t = ckC N R := by unfold slE; rw [if_pos h]
theorem slE_2 {N : List ByteArray} {R : List Rn} {f t : Int} (h : ckC N R = 0) (h1 : f < 0 ∨ t ≤ f ∨ lg R < t) : slE N R f t = 2 := by unfold slE; rw [if_neg (fun x => x h), if_pos h1]
theorem slE_0 {N : List ByteArray} {R : List Rn} {f t : Int} (h : ckC N R = 0) (h1 : ¬ (f < 0 ∨ t ≤ f ∨ lg R < t)) : slE N R f t = 0 := by unfold slE; rw [if_neg (fun x => x h), if_neg h1]
def slN (N : List ByteArray) (R : List Rn) (f t : Int) : List ByteArray := if slE N R f t = 0 then N else []
def slR (N : List ByteArray) (R : List Rn) (f t : Int) : List Rn := if slE N R f t = 0 then prt R f t else []
theorem slN_0 {N : List ByteArray} {R : List Rn} {f t : Int} (h : slE N R f t = 0) : slN N R f t = N ∧ slR N R f t = prt R f t := by unfold slN slR; rw [if_pos h, if_pos h]; exact ⟨rfl, rfl⟩
theorem slN_n {N : List ByteArray} {R : List Rn} {f t : Int} (h : ¬ slE N R f t = 0) : slN N R f t = [] ∧ slR N R f t = [] := by unfold slN slR; rw [if_neg h, if_neg h]; exact ⟨rfl, rfl⟩

/-- Two cells of an old block, behind calls and a store into the next one. -/
theorem heldP {w W W' : World} {b : Nat} {x0 x1 : Value} (h : W.cell? ⟨b, 0, none⟩ = some x0 ∧ W.cell? ⟨b, 1, none⟩ = some x1 ∧ Below w.heap.size w W ∧ b < W.heap.size) (hb : Below W.heap.size W W') : W'.cell? ⟨b, 0, none⟩ = some x0 ∧ W'.cell? ⟨b, 1, none⟩ = some x1 ∧ Below w.heap.size w W' ∧ b < W'.heap.size := held2 h hb
theorem heldPS {w W : World} {b : Nat} {x0 x1 : Value} (h : W.cell? ⟨b, 0, none⟩ = some x0 ∧ W.cell? ⟨b, 1, none⟩ = some x1 ∧ Below w.heap.size w W ∧ b < W.heap.size) (hw : w.heap.size ≤ b + 1) (u v : Value) :
    ((W.setCell ⟨b + 1, 0, none⟩ u).setCell ⟨b + 1, 1, none⟩ v).cell? ⟨b, 0, none⟩ = some x0 ∧ ((W.setCell ⟨b + 1, 0, none⟩ u).setCell ⟨b + 1, 1, none⟩ v).cell? ⟨b, 1, none⟩ = some x1 ∧ Below w.heap.size w ((W.setCell ⟨b + 1, 0, none⟩ u).setCell ⟨b + 1, 1, none⟩ v) ∧ b < ((W.setCell ⟨b + 1, 0, none⟩ u).setCell ⟨b + 1, 1, none⟩ v).heap.size := by
  obtain ⟨h0, h1, h2, h3⟩ := h
  have e : ∀ (X : World) (i j : Nat) (y : Value), (X.setCell ⟨b + 1, i, none⟩ y).cell? ⟨b, j, none⟩ = X.cell? ⟨b, j, none⟩ := fun X i j y => World.cell?_setCell_other _ _ _ _ (fun e => by have := congrArg Addr.block e; simp only at this; omega)
  refine ⟨by rw [e, e]; exact h0, by rw [e, e]; exact h1, Below.setCell (Below.setCell h2 hw _) hw _, by rw [World.size_setCell, World.size_setCell]; exact h3⟩

theorem step_store_at2 {P : Program} {ops : Array Oper} {o : Oper} {a : Act} {w : World} {K : Act → World → Prop} {Q : Exit → Act → World → Prop} {E : Prop} {b : Nat} {T : TypeId} {old : Array Value} (h : RowAt w b T old)
    (cells : Array Value) (x y : Operand) (ty : TypeId) (hgd : o.guard = none) (ho : o.op = .store ty x y) (hx : a.eval x = .pointer (some ⟨b, 0, none⟩)) (hy : a.eval y = .agg cells)
    (hi : (P.info? ty).map (·.size) = some cells.size) (hold : old.size = cells.size) (h1 : cells.toList.all (·.oneCell') = true)
    (hk : ∀ w', RowAt w' b T cells → Below b w w' → (∀ k, k ≠ b → w'.heap[k]? = w.heap[k]?) → K (a.put o.dst undef) w') : if Region.wanted o (yielded ops a.tmps) = true then Oper.wp P o a w K Q else E := by
  have hw : Region.wanted o (yielded ops a.tmps) = true := by simp [Region.wanted, hgd]
  rw [if_pos hw]
  exact wp_store_row ty x y ho b cells hx hy T old h hi hold (by simpa using h1) (hk _ (setRow_heap w b old cells T (0, 0) h) (below_setRow (Below.refl _ _) (Nat.le_refl _) cells) (fun k hk => setRow_other w b cells k hk))
theorem heldQ {w W W' : World} {b : Nat} {x0 x1 : Value} (h : W.cell? ⟨b, 0, none⟩ = some x0 ∧ W.cell? ⟨b, 1, none⟩ = some x1 ∧ Below w.heap.size w W ∧ b < W.heap.size) (hk : ∀ k, k ≠ b + 1 → W'.heap[k]? = W.heap[k]?) (hb : Below (b + 1) W W') (hw : w.heap.size ≤ b + 1 := by omega) :
    W'.cell? ⟨b, 0, none⟩ = some x0 ∧ W'.cell? ⟨b, 1, none⟩ = some x1 ∧ Below w.heap.size w W' ∧ b < W'.heap.size := by
  obtain ⟨h0, h1, h2, h3⟩ := h
  have := hb.size
  exact ⟨(World.cell?_of_block (hk b (by omega))).trans h0, (World.cell?_of_block (hk b (by omega))).trans h1, h2.trans (hb.mono hw), by omega⟩

set_option maxRecDepth 20000 in
set_option maxHeartbeats 8000000 in
theorem slice_any (N : List ByteArray) (R : List Rn) (vN vR : Value) (F T : Int) (w : World) (hN : NmArg w vN N) (hs : szs N) (hR : RnArg w vR R) (hn : R.length ≤ 1099511627776) :
    Calls Try.prog 71 #[.agg #[vN, vR], .int .i64 F, .int .i64 T] w fun e w' => ∃ v1 v2 : Value, e = .returned (.tuple #[.agg #[v1, v2], .int .i64 (slE N R F T)]) ∧ NmRow w' w.heap.size v1 (slN N R F T) ∧ RnRow w' w.heap.size v2 (slR N R F T) ∧ Below w.heap.size w w' := by
  have HK := Lib.hid (fun w' (hb : Below w.heap.size w w') => check_any N R vN vR w' (hN.keep hb) hs (hR.keep hb) hn)
  have HL := Lib.hid (fun h w' (hb : Below w.heap.size w w') => long_any (mk N.length) R vR w' (hR.keep hb) hn (ckC_ok h).2.2.2.2.2)
  have HP := Lib.hid (fun h w' (hb : Below w.heap.size w w') h1 h2 h3 h4 => part_any (mk N.length) R vR F T w' (hR.keep hb) (ckC_ok h).1 (ckC_ok h).2.2.2.2.2 h1 h2 h3 h4)
  have HCp := Lib.hid (fun w' (hb : Below w.heap.size w w') h1 h2 => copied_any N vN w' (hN.keep hb) h1 h2)
  obtain ⟨A1, c1, rfl, hA1, hA1'⟩ := hN.form
  obtain ⟨A2, c2, rfl⟩ := hR.form
  clear hA1' hN hR hA1 hs
  have B0 := Lib.hid ((ba w (.cells #[.slice A1 N.length c1, .slice A2 R.length c2] 25)).alloc (ba w _).size (.cells #[.slice none 0 0, .slice none 0 0] 25))
  have P0 := Lib.hid ((RowAt.new w 25 #[.slice A1 N.length c1, .slice A2 R.length c2]).alloc (.cells #[.slice none 0 0, .slice none 0 0] 25))
  have Q0' := RowAt.new (w.alloc (.cells #[.slice A1 N.length c1, .slice A2 R.length c2] 25)) 25 #[.slice none 0 0, .slice none 0 0]
  rw [World.size_alloc] at Q0'
  have Q0 := Lib.hid Q0'
  clear Q0'
  by_cases hz : ckC N R = 0
  · have hck := ckC_ok hz
    have HL2 := Lib.hid (HL.out hz)
    have HP2 := Lib.hid (HP.out hz)
    have HCp2 := Lib.hid (fun w' hb => HCp.out w' hb (by omega) (fun j h => nm_small hck.2.2.2.2.1 j h))
    have hrg := vr_range hck.2.2.2.2.2
    have E2 := Lib.hid (fun h => slE_2 (f := F) (t := T) hz h); have E0 := Lib.hid (fun h => slE_0 (f := F) (t := T) hz h)
    rw [hz] at HK
    clear hz HL HP HCp hck
    by_cases hbad : F < 0 ∨ T ≤ F ∨ lg R < T
    · have he := E2.out hbad
      have hs := slN_n (N := N) (R := R) (f := F) (t := T) (by rw [he]; decide)
      have HE := Lib.hid he; have HS1 := Lib.hid hs.1; have HS2 := Lib.hid hs.2
      clear he hs E0 E2 HP2 HCp2
      generalize lg R = S at *
      by_cases d1 : F < 0
      · clear hbad
        go_enter Try.func71, Try.ntmps71
        go_wp2_with (first
          | (go_at_call 24; go_must (refine (HK.out _ B0.out).mono ?_; rintro e1 w1 ⟨rfl, b1⟩; have B1 := Lib.hid (B0.out.trans (b1.mono B0.out.size)); have P1 := Lib.hid (P0.out.keep b1); have Q1 := Lib.hid (Q0.out.keep b1); have g0 := P1.out.cell 0; have g1 := P1.out.cell 1; have k0 := Q1.out.cell 0; have k1 := Q1.out.cell 1; have z0 := Q1.out.frozen 0; have z1 := Q1.out.frozen 1; clear b1)))
        have e0 : ((w1.setCell ⟨w.heap.size + 1, 0, none⟩ (.slice none 0 0)).setCell ⟨w.heap.size + 1, 1, none⟩ (.slice none 0 0)).cell? ⟨w.heap.size + 1, 0, none⟩ = some (.slice none 0 0) := (two_set k0 k1).1
        have e1 : ((w1.setCell ⟨w.heap.size + 1, 0, none⟩ (.slice none 0 0)).setCell ⟨w.heap.size + 1, 1, none⟩ (.slice none 0 0)).cell? ⟨w.heap.size + 1, 1, none⟩ = some (.slice none 0 0) := (two_set k0 k1).2
        refine bodyPost_ret (v := .tuple #[.agg #[.slice none 0 0, .slice none 0 0], .int .i64 2]) (by simp [results, Try.results71, go_sem, e0, e1]) rfl ⟨_, _, by rw [HE.out], by rw [HS1.out]; exact KRow.nil _ _, by rw [HS2.out]; exact KRow.nil _ _, Below.setCell (Below.setCell B1.out (Nat.le_succ _) _) (Nat.le_succ _) _⟩
      by_cases d2 : T ≤ F
      · have d1' : decide (T ≤ F) = true := decide_eq_true d2
        clear hbad
        go_enter Try.func71, Try.ntmps71
        go_wp2_with (first
          | (go_at_call 24; go_must (refine (HK.out _ B0.out).mono ?_; rintro e1 w1 ⟨rfl, b1⟩; have B1 := Lib.hid (B0.out.trans (b1.mono B0.out.size)); have P1 := Lib.hid (P0.out.keep b1); have Q1 := Lib.hid (Q0.out.keep b1); have g0 := P1.out.cell 0; have g1 := P1.out.cell 1; have k0 := Q1.out.cell 0; have k1 := Q1.out.cell 1; have z0 := Q1.out.frozen 0; have z1 := Q1.out.frozen 1; clear b1)))
        have e0 : ((w1.setCell ⟨w.heap.size + 1, 0, none⟩ (.slice none 0 0)).setCell ⟨w.heap.size + 1, 1, none⟩ (.slice none 0 0)).cell? ⟨w.heap.size + 1, 0, none⟩ = some (.slice none 0 0) := (two_set k0 k1).1
        have e1 : ((w1.setCell ⟨w.heap.size + 1, 0, none⟩ (.slice none 0 0)).setCell ⟨w.heap.size + 1, 1, none⟩ (.slice none 0 0)).cell? ⟨w.heap.size + 1, 1, none⟩ = some (.slice none 0 0) := (two_set k0 k1).2
        refine bodyPost_ret (v := .tuple #[.agg #[.slice none 0 0, .slice none 0 0], .int .i64 2]) (by simp [results, Try.results71, go_sem, e0, e1]) rfl ⟨_, _, by rw [HE.out], by rw [HS1.out]; exact KRow.nil _ _, by rw [HS2.out]; exact KRow.nil _ _, Below.setCell (Below.setCell B1.out (Nat.le_succ _) _) (Nat.le_succ _) _⟩
      · have d1' : decide (T ≤ F) = false := decide_eq_false d2
        have d3 : S < T := by omega
        clear hbad
        go_enter Try.func71, Try.ntmps71
        go_wp2_with (first
          | (go_at_call 24; go_must (refine (HK.out _ B0.out).mono ?_; rintro e1 w1 ⟨rfl, b1⟩; have B1 := Lib.hid (B0.out.trans (b1.mono B0.out.size)); have P1 := Lib.hid (P0.out.keep b1); have Q1 := Lib.hid (Q0.out.keep b1); have g0 := P1.out.cell 0; have g1 := P1.out.cell 1; clear b1))
          | (go_at_call 52; go_must (refine (HL2.out _ B1.out).mono ?_; rintro e2 w2 ⟨rfl, b2⟩; have B2 := Lib.hid (B1.out.trans (b2.mono B1.out.size)); have Q2 := Lib.hid (Q1.out.keep b2); have k0 := Q2.out.cell 0; have k1 := Q2.out.cell 1; have z0 := Q2.out.frozen 0; have z1 := Q2.out.frozen 1; clear b2)))
        have e0 : ((w2.setCell ⟨w.heap.size + 1, 0, none⟩ (.slice none 0 0)).setCell ⟨w.heap.size + 1, 1, none⟩ (.slice none 0 0)).cell? ⟨w.heap.size + 1, 0, none⟩ = some (.slice none 0 0) := (two_set k0 k1).1
        have e1 : ((w2.setCell ⟨w.heap.size + 1, 0, none⟩ (.slice none 0 0)).setCell ⟨w.heap.size + 1, 1, none⟩ (.slice none 0 0)).cell? ⟨w.heap.size + 1, 1, none⟩ = some (.slice none 0 0) := (two_set k0 k1).2
        refine bodyPost_ret (v := .tuple #[.agg #[.slice none 0 0, .slice none 0 0], .int .i64 2]) (by simp [results, Try.results71, go_sem, e0, e1]) rfl ⟨_, _, by rw [HE.out], by rw [HS1.out]; exact KRow.nil _ _, by rw [HS2.out]; exact KRow.nil _ _, Below.setCell (Below.setCell B2.out (Nat.le_succ _) _) (Nat.le_succ _) _⟩
    · have he := E0.out hbad
      have hs := slN_0 (N := N) (R := R) (f := F) (t := T) he
      have HE := Lib.hid he; have HS1 := Lib.hid hs.1; have HS2 := Lib.hid hs.2
      have HP3 := Lib.hid (fun w' hb => HP2.out w' hb (by omega) (by omega) (by omega) (by omega))
      clear he hs E0 E2 HP2
      generalize lg R = S at *
      have d0 : ¬ F < 0 := by omega
      have d1 : decide (T ≤ F) = false := decide_eq_false (by omega)
      have d3 : ¬ S < T := by omega
      clear hbad
      go_enter Try.func71, Try.ntmps71
      go_wp2_with (first
        | (go_at_call 24; go_must (refine (HK.out _ B0.out).mono ?_; rintro e1 w1 ⟨rfl, b1⟩; have B1 := Lib.hid (B0.out.trans (b1.mono B0.out.size)); have P1 := Lib.hid (P0.out.keep b1); have Q1 := Lib.hid (Q0.out.keep b1); have g0 := P1.out.cell 0; have g1 := P1.out.cell 1; clear b1))
        | (go_at_call 52; go_must (refine (HL2.out _ B1.out).mono ?_; rintro e2 w2 ⟨rfl, b2⟩; have B2 := Lib.hid (B1.out.trans (b2.mono B1.out.size)); have P2 := Lib.hid (P1.out.keep b2); have Q2 := Lib.hid (Q1.out.keep b2); clear b2 g0 g1)))
      have S0 := Lib.hid (show w2.drew.cell? ⟨w.heap.size, 0, none⟩ = some (.slice A1 N.length c1) ∧ w2.drew.cell? ⟨w.heap.size, 1, none⟩ = some (.slice A2 R.length c2) ∧ Below w.heap.size w w2.drew ∧ w.heap.size < w2.drew.heap.size from ⟨P2.out.cell 0, P2.out.cell 1, B2.out.drew, P2.out.lt⟩)
      have q2 := Lib.hid (show RowAt w2.drew (w.heap.size + 1) 25 #[.slice none 0 0, .slice none 0 0] from Q2.out)
      have s2 := Lib.hid (show w.heap.size + 2 ≤ w2.drew.heap.size from Q2.out.lt)
      have HCX := Lib.hid (fun w' (h : w'.cell? ⟨w.heap.size, 0, none⟩ = some (.slice A1 N.length c1) ∧ w'.cell? ⟨w.heap.size, 1, none⟩ = some (.slice A2 R.length c2) ∧ Below w.heap.size w w' ∧ w.heap.size < w'.heap.size) => HCp2.out w' h.2.2.1)
      have HPX := Lib.hid (fun w' (h : w'.cell? ⟨w.heap.size, 0, none⟩ = some (.slice A1 N.length c1) ∧ w'.cell? ⟨w.heap.size, 1, none⟩ = some (.slice A2 R.length c2) ∧ Below w.heap.size w w' ∧ w.heap.size < w'.heap.size) => HP3.out w' h.2.2.1)
      refine wp_region_held_drew (S := fun w' => w'.cell? ⟨w.heap.size, 0, none⟩ = some (.slice A1 N.length c1) ∧ w'.cell? ⟨w.heap.size, 1, none⟩ = some (.slice A2 R.length c2) ∧ Below w.heap.size w w' ∧ w.heap.size < w'.heap.size) (by kernel_rfl) ?_ (fun hH => ?_)
      · exact S0.out
      refine wpAnyH_take (i := 0) (oi := { dst := some 30, op := Go.Op.fieldAddr 25 (Go.Operand.tmp 3) 0, type := 0, pos := "capture.go:108", after := #[], guard := none }) (v := ?_) rfl ?_ ?_ ?_ ?_ (Or.inl ⟨?_, ?_⟩) hH ?_
      rotate_left
      · kernel_rfl
      · kernel_rfl
      · kernel_rfl
      · exact fun _ _ _ h => h
      · kernel_rfl
      · intro wS hSw
        try dsimp only at hSw
        go_simp
        try with_reducible rfl
      try simp only [Act.put, List.setIfInBounds_toArray, List.set_cons_zero, List.set_cons_succ]
      refine wpAnyH_take (i := 1) (oi := { dst := some 31, op := Go.Op.load 22 (Go.Operand.tmp 30), type := 22, pos := "capture.go:108", after := #[{ on := 0, ground := Go.Ground.data }], guard := none }) (v := ?_) rfl ?_ ?_ ?_ ?_ (Or.inl ⟨?_, ?_⟩) hH ?_
      rotate_left
      · kernel_rfl
      · kernel_rfl
      · kernel_rfl
      · exact fun _ _ _ h => h
      · kernel_rfl
      · intro wS hSw
        try dsimp only at hSw
        go_simp
        try with_reducible rfl
      try simp only [Act.put, List.setIfInBounds_toArray, List.set_cons_zero, List.set_cons_succ]
      refine wpAnyH_take (i := 3) (oi := { dst := some 33, op := Go.Op.fieldAddr 25 (Go.Operand.tmp 3) 1, type := 0, pos := "capture.go:108", after := #[], guard := none }) (v := ?_) rfl ?_ ?_ ?_ ?_ (Or.inl ⟨?_, ?_⟩) hH ?_
      rotate_left
      · kernel_rfl
      · kernel_rfl
      · kernel_rfl
      · exact fun _ _ _ h => h
      · kernel_rfl
      · intro wS hSw
        try dsimp only at hSw
        go_simp
        try with_reducible rfl
      try simp only [Act.put, List.setIfInBounds_toArray, List.set_cons_zero, List.set_cons_succ]
      refine wpAnyH_take (i := 4) (oi := { dst := some 34, op := Go.Op.load 23 (Go.Operand.tmp 33), type := 23, pos := "capture.go:108", after := #[{ on := 3, ground := Go.Ground.data }], guard := none }) (v := ?_) rfl ?_ ?_ ?_ ?_ (Or.inl ⟨?_, ?_⟩) hH ?_
      rotate_left
      · kernel_rfl
      · kernel_rfl
      · kernel_rfl
      · exact fun _ _ _ h => h
      · kernel_rfl
      · intro wS hSw
        try dsimp only at hSw
        go_simp
        try with_reducible rfl
      try simp only [Act.put, List.setIfInBounds_toArray, List.set_cons_zero, List.set_cons_succ]
      refine wpAnyH_take (i := 5) (oi := { dst := some 35, op := Go.Op.move (Go.Operand.tmp 1), type := 3, pos := "capture.go:108", after := #[], guard := none }) (v := ?_) rfl ?_ ?_ ?_ ?_ (Or.inl ⟨?_, ?_⟩) hH ?_
      rotate_left
      · kernel_rfl
      · kernel_rfl
      · kernel_rfl
      · exact fun _ _ _ h => h
      · kernel_rfl
      · intro wS hSw
        try dsimp only at hSw
        go_simp
        try with_reducible rfl
      try simp only [Act.put, List.setIfInBounds_toArray, List.set_cons_zero, List.set_cons_succ]
      refine wpAnyH_take (i := 6) (oi := { dst := some 36, op := Go.Op.move (Go.Operand.tmp 2), type := 3, pos := "capture.go:108", after := #[], guard := none }) (v := ?_) rfl ?_ ?_ ?_ ?_ (Or.inl ⟨?_, ?_⟩) hH ?_
      rotate_left
      · kernel_rfl
      · kernel_rfl
      · kernel_rfl
      · exact fun _ _ _ h => h
      · kernel_rfl
      · intro wS hSw
        try dsimp only at hSw
        go_simp
        try with_reducible rfl
      try simp only [Act.put, List.setIfInBounds_toArray, List.set_cons_zero, List.set_cons_succ]
      refine wpAnyH_ready (rs := [2]) (by kernel_rfl) (by simp) ?_
      refine AllReadyH.cons (o := { dst := some 32, op := Go.Op.call { callee := Go.Callee.value (Go.Operand.func 59), args := #[Go.Operand.tmp 31], argTypes := #[22] }, type := 22, pos := "capture.go:108", after := #[{ on := 1, ground := Go.Ground.data }], guard := none }) rfl (fun K hK => ?_) AllReadyH.nil
      go_simp
      refine (HCX.out _ S0.out).mono ?_
      rintro e5 w5 ⟨v5, rfl, r5, b5⟩
      obtain ⟨NA, NN, NC, rfl, rfl⟩ := KRow.form r5
      try go_wp2_with fail
      have h5 := Lib.hid (heldP S0.out b5)
      have q5 := Lib.hid (q2.out.keep b5)
      have R5 := Lib.hid (KRow.mono r5 s2.out)
      have s5 := Lib.hid (Nat.le_trans s2.out b5.size)
      refine hK.out _ _ ?_ (fun hH1 => ?_)
      · exact h5.out
      clear hK K hH r5 b5
      try simp only [Act.put, List.setIfInBounds_toArray, List.set_cons_zero, List.set_cons_succ]
      refine wpAnyH_ready (rs := [7]) (by kernel_rfl) (by simp) ?_
      refine AllReadyH.cons (o := { dst := some 37, op := Go.Op.call { callee := Go.Callee.value (Go.Operand.func 55), args := #[Go.Operand.tmp 34, Go.Operand.tmp 35, Go.Operand.tmp 36], argTypes := #[23, 3, 3] }, type := 23, pos := "capture.go:108", after := #[{ on := 4, ground := Go.Ground.data }, { on := 5, ground := Go.Ground.data }, { on := 6, ground := Go.Ground.data }, { on := 2, ground := Go.Ground.chain }], guard := none }) rfl (fun K hK => ?_) AllReadyH.nil
      go_simp
      refine (HPX.out _ h5.out).mono ?_
      rintro e6 w6 ⟨v6, rfl, r6, b6⟩
      obtain ⟨RA, RN, RC, rfl, rfl⟩ := KRow.form r6
      try go_wp2_with fail
      have h6 := Lib.hid (heldP h5.out b6)
      have q6 := Lib.hid (q5.out.keep b6)
      have R5' := Lib.hid (KRow.keep R5.out b6)
      have R6 := Lib.hid (KRow.mono r6 s5.out)
      refine hK.out _ _ ?_ (fun hH2 => ?_)
      · exact h6.out
      clear hK K hH1 r6 b6
      try simp only [Act.put, List.setIfInBounds_toArray, List.set_cons_zero, List.set_cons_succ]
      refine wpAnyH_take (i := 8) (oi := { dst := some 38, op := Go.Op.build 25 #[(0, Go.Operand.tmp 32), (1, Go.Operand.tmp 37)], type := 25, pos := "capture.go:108", after := #[{ on := 2, ground := Go.Ground.data }, { on := 7, ground := Go.Ground.data }], guard := none }) (v := ?_) rfl ?_ ?_ ?_ ?_ (Or.inl ⟨?_, ?_⟩) hH2 ?_
      rotate_left
      · kernel_rfl
      · kernel_rfl
      · kernel_rfl
      · exact fun _ _ _ h => h
      · kernel_rfl
      · intro wS hSw
        try dsimp only at hSw
        go_simp
        try with_reducible rfl
      try simp only [Act.put, List.setIfInBounds_toArray, List.set_cons_zero, List.set_cons_succ]
      refine wpAnyH_ready (rs := [9]) (by kernel_rfl) (by simp) ?_
      refine AllReadyH.cons (o := { dst := none, op := Go.Op.store 25 (Go.Operand.tmp 6) (Go.Operand.tmp 38), type := 0, pos := "capture.go:108", after := #[{ on := 8, ground := Go.Ground.data }, { on := 7, ground := Go.Ground.chain }, { on := 0, ground := Go.Ground.phase }, { on := 1, ground := Go.Ground.phase }, { on := 2, ground := Go.Ground.phase }, { on := 3, ground := Go.Ground.phase }, { on := 4, ground := Go.Ground.phase }, { on := 5, ground := Go.Ground.phase }, { on := 6, ground := Go.Ground.phase }, { on := 7, ground := Go.Ground.phase }, { on := 8, ground := Go.Ground.phase }], guard := none }) rfl (fun K hK => ?_) AllReadyH.nil
      refine step_store_at2 q6.out #[.slice NA N.length NC, .slice RA (prt R F T).length RC] (.tmp 6) (.tmp 38) 25 rfl rfl rfl rfl (by kernel_rfl) rfl rfl ?_
      intro w8 r8 b8 k8
      have h8 := Lib.hid (heldQ h6.out k8 b8)
      refine hK.out _ _ ?_ (fun hH3 => ?_)
      · exact h8.out
      have X8 := Lib.hid r8
      have N8 := Lib.hid (KRow.others R5'.out k8 (Nat.lt_succ_self _))
      have P8 := Lib.hid (KRow.others R6.out k8 (Nat.lt_succ_self _))
      clear hK K hH2 r8 b8 k8
      try simp only [Act.put, List.setIfInBounds_toArray, List.set_cons_zero, List.set_cons_succ]
      refine wpAnyH_take (i := 10) (oi := { dst := some 7, op := Go.Op.assign (Go.Operand.const (Go.Value.int Go.IntKind.i64 0)), type := 28, pos := "capture.go:108", after := #[{ on := 9, ground := Go.Ground.chain }, { on := 0, ground := Go.Ground.phase }, { on := 1, ground := Go.Ground.phase }, { on := 2, ground := Go.Ground.phase }, { on := 3, ground := Go.Ground.phase }, { on := 4, ground := Go.Ground.phase }, { on := 5, ground := Go.Ground.phase }, { on := 6, ground := Go.Ground.phase }, { on := 7, ground := Go.Ground.phase }, { on := 8, ground := Go.Ground.phase }, { on := 9, ground := Go.Ground.phase }], guard := none }) (v := ?_) rfl ?_ ?_ ?_ ?_ (Or.inl ⟨?_, ?_⟩) hH3 ?_
      rotate_left
      · kernel_rfl
      · kernel_rfl
      · kernel_rfl
      · exact fun _ _ _ h => h
      · kernel_rfl
      · intro wS hSw
        try dsimp only at hSw
        go_simp
        try with_reducible rfl
      try simp only [Act.put, List.setIfInBounds_toArray, List.set_cons_zero, List.set_cons_succ]
      refine wpAnyH_done (by kernel_rfl) ?_ _
      have e0 : w8.cell? ⟨w.heap.size + 1, 0, none⟩ = some (.slice NA N.length NC) := X8.out.cell 0
      have e1 : w8.cell? ⟨w.heap.size + 1, 1, none⟩ = some (.slice RA (prt R F T).length RC) := X8.out.cell 1
      go_wp2
      refine bodyPost_ret (v := .tuple #[.agg #[.slice NA N.length NC, .slice RA (prt R F T).length RC], .int .i64 0]) (by simp [results, Try.results71, go_sem, e0, e1]) rfl ⟨_, _, by rw [HE.out], by rw [HS1.out]; exact N8.out.mono (Nat.le_trans (Nat.le_succ _) (Nat.le_succ _)), by rw [HS2.out]; exact P8.out.mono (Nat.le_trans (Nat.le_succ _) (Nat.le_succ _)), h8.out.2.2.1⟩
  · have he := slE_n (f := F) (t := T) hz
    have hs := slN_n (N := N) (R := R) (f := F) (t := T) (by rw [he]; exact hz)
    have HE := Lib.hid he; have HS1 := Lib.hid hs.1; have HS2 := Lib.hid hs.2
    have hz' : (ckC N R == 0) = false := by simpa using hz
    clear hz he hs HL HP HCp
    generalize ckC N R = r at *
    go_enter Try.func71, Try.ntmps71
    go_wp2_with (first
      | (go_at_call 24; go_must (refine (HK.out _ B0.out).mono ?_; rintro e1 w1 ⟨rfl, b1⟩; have B1 := Lib.hid (B0.out.trans (b1.mono B0.out.size)); have Q1 := Lib.hid (Q0.out.keep b1); have k0 := Q1.out.cell 0; have k1 := Q1.out.cell 1; have z0 := Q1.out.frozen 0; have z1 := Q1.out.frozen 1; clear b1)))
    have e0 : ((w1.setCell ⟨w.heap.size + 1, 0, none⟩ (.slice none 0 0)).setCell ⟨w.heap.size + 1, 1, none⟩ (.slice none 0 0)).cell? ⟨w.heap.size + 1, 0, none⟩ = some (.slice none 0 0) := (two_set k0 k1).1
    have e1 : ((w1.setCell ⟨w.heap.size + 1, 0, none⟩ (.slice none 0 0)).setCell ⟨w.heap.size + 1, 1, none⟩ (.slice none 0 0)).cell? ⟨w.heap.size + 1, 1, none⟩ = some (.slice none 0 0) := (two_set k0 k1).2
    refine bodyPost_ret (v := .tuple #[.agg #[.slice none 0 0, .slice none 0 0], .int .i64 r]) (by simp [results, Try.results71, go_sem, e0, e1]) rfl ⟨_, _, by rw [HE.out], by rw [HS1.out]; exact KRow.nil _ _, by rw [HS2.out]; exact KRow.nil _ _, Below.setCell (Below.setCell B1.out (Nat.le_succ _) _) (Nat.le_succ _) _⟩

end Go.Proofs.Yteccafndplaklaa

namespace Go.Proofs.Yteccafndplaklaa
open Go Go.RowKit Go.Joins
set_option linter.unusedVariables false
set_option linter.unusedSimpArgs false

theorem extended_any (N : List ByteArray) (R : List Rn) (vN vR : Value) (L : Int) (w : World) (hN : NmArg w vN N) (hs : szs N) (hR : RnArg w vR R) (h : ckC N R = 0) (hL : lg R ≤ L) (hm : L ≤ 1099511627776) :
    Calls Try.prog 40 #[.agg #[vN, vR], .int .i64 L] w fun e w' => ∃ v1 v2 : Value, e = .returned (.agg #[v1, v2]) ∧ NmArg w' v1 N ∧ RnArg w' v2 (exP R (L - lg R)) ∧ Below w.heap.size w w' := by
  by_cases he : L = lg R
  · exact extended_same N R vN vR L w hN hs hR h he
  · rcases nil_or_snoc R with rfl | ⟨o, x, hx⟩
    · exact extended_none N vN vR L w hN hs hR h (by have : lg [] = 0 := rfl; omega) hm
    · exact extended_more N o x R hx vN vR L w hN hs hR h (by omega) hm

theorem KRow.apart {α : Type} {enc : α → Array Value} {k : Nat} {T : TypeId} {w w' : World} {B b : Nat} {v : Value} {l : List α} (h : KRow enc k T w B v l) (hk : ∀ q, q ≠ b → w'.heap[q]? = w.heap[q]?) (hb : v.ownBlock ≠ some b) : KRow enc k T w' B v l := by
  refine ⟨h.1, h.2.imp id fun ⟨g, cap, cur, e, h1, h2, h3⟩ => ⟨g, cap, cur, e, h1, ?_, h3⟩⟩
  rw [hk g (fun x => hb (by rw [e, x]; rfl))]; exact h2
theorem KRow.off {α : Type} {enc : α → Array Value} {k : Nat} {T T' : TypeId} {w : World} {B b : Nat} {v : Value} {l : List α} {cs : Array Value} (h : KRow enc k T w B v l) (hx : RowAt w b T' cs) (hT : T ≠ T') : v.ownBlock ≠ some b := by
  intro e
  obtain ⟨_, h2⟩ := h
  rcases h2 with ⟨rfl, _⟩ | ⟨g, cap, cur, rfl, _, hc, _⟩
  · cases e
  · have e1 : g = b := Option.some.inj e
    subst e1
    rw [show w.heap[g]? = _ from hx] at hc
    have := Option.some.inj hc
    injection this with a b
    exact hT b.symm
theorem heldX {w W W' : World} {b bx : Nat} {x0 x1 : Value} (h : W.cell? ⟨b, 0, none⟩ = some x0 ∧ W.cell? ⟨b, 1, none⟩ = some x1 ∧ Below w.heap.size w W ∧ b < W.heap.size) (hk : ∀ k, k ≠ bx → W'.heap[k]? = W.heap[k]?) (hb : Below bx W W') (hx : b + 2 ≤ bx) (hw : w.heap.size ≤ b := by omega) :
    W'.cell? ⟨b, 0, none⟩ = some x0 ∧ W'.cell? ⟨b, 1, none⟩ = some x1 ∧ Below w.heap.size w W' ∧ b < W'.heap.size := by
  obtain ⟨h0, h1, h2, h3⟩ := h
  have := hb.size
  exact ⟨(World.cell?_of_block (hk b (by omega))).trans h0, (World.cell?_of_block (hk b (by omega))).trans h1, h2.trans (hb.mono (by omega)), by omega⟩
theorem prt_whole {R : List Rn} (h : ps R) : prt R 0 (lg R) = jn R := by unfold prt; rw [sl_all h (Int.le_refl _) (by omega)]

set_option maxRecDepth 100000 in
set_option maxHeartbeats 8000000 in
theorem clean12_any (N : List ByteArray) (R : List Rn) (vN vR : Value) (w : World) (hN : NmArg w vN N) (hs : szs N) (hR : RnArg w vR R) (h : ckC N R = 0) :
    Calls Try.prog 44 #[.agg #[vN, vR]] w fun e w' => ∃ v1 v2 : Value, e = .returned (.agg #[v1, v2]) ∧ (∀ B, B ≤ w.heap.size → NmRow w B vN N → RnRow w B vR R → NmRow w' B v1 N ∧ RnRow w' B v2 (jn R)) ∧ NmArg w' v1 N ∧ RnArg w' v2 (jn R) ∧ Below w.heap.size w w' := by
  have hck := ckC_ok h
  have hps := ((vr_iff _ R 0 (by omega)).1 hck.2.2.2.2.2).2.1
  have hrg := vr_range hck.2.2.2.2.2
  have HL := Lib.hid (fun w' (hb : Below w.heap.size w w') => longC_any N R vN vR w' (hN.keep hb) hs (hR.keep hb) (by omega))
  rw [lgC_yes h] at HL
  have HS0 := Lib.hid (fun w' (hb : Below w.heap.size w w') => slice_any N R vN vR 0 (lg R) w' (hN.keep hb) hs (hR.keep hb) (by omega))
  have HNA := Lib.hid hN
  have HRA := Lib.hid hR
  obtain ⟨A1, c1, rfl, _⟩ := hN.form
  obtain ⟨A2, c2, rfl⟩ := hR.form
  have B0 := Lib.hid ((ba w (.cells #[.slice A1 N.length c1, .slice A2 R.length c2] 25)).alloc (ba w _).size (.cells #[.slice none 0 0, .slice none 0 0] 25))
  have P0 := Lib.hid ((RowAt.new w 25 #[.slice A1 N.length c1, .slice A2 R.length c2]).alloc (.cells #[.slice none 0 0, .slice none 0 0] 25))
  have Q0' := RowAt.new (w.alloc (.cells #[.slice A1 N.length c1, .slice A2 R.length c2] 25)) 25 #[.slice none 0 0, .slice none 0 0]
  rw [World.size_alloc] at Q0'
  obtain ⟨W1, hW1⟩ : ∃ W1, W1 = (w.alloc (.cells #[.slice A1 N.length c1, .slice A2 R.length c2] 25)).alloc (.cells #[.slice none 0 0, .slice none 0 0] 25) := ⟨_, rfl⟩
  rw [← hW1] at B0 P0 Q0'
  have Q1 := Lib.hid Q0'
  clear Q0' hN hR hs
  by_cases h0 : R.length = 0
  · have e0 : R = [] := List.eq_nil_of_length_eq_zero h0
    subst e0
    have hz : (((([] : List Rn).length : Nat) : Int) == 0) = true := rfl
    have g0 := P0.out.cell 0
    have g1 := P0.out.cell 1
    have k0 := Q1.out.cell 0
    have k1 := Q1.out.cell 1
    have z0 := Q1.out.frozen 0
    have z1 := Q1.out.frozen 1
    subst hW1
    clear HL HS0 hck hps hrg h h0
    go_enter Try.func44, Try.ntmps44
    go_wp2
    have e0 := (two_set (v0 := .slice A1 N.length c1) (v1 := .slice A2 ([] : List Rn).length c2) k0 k1).1
    have e1 := (two_set (v0 := .slice A1 N.length c1) (v1 := .slice A2 ([] : List Rn).length c2) k0 k1).2
    have BF : ∀ o, Below w.heap.size w ((w.alloc (.cells #[.slice A1 N.length c1, .slice A2 ([] : List Rn).length c2] 25)).alloc o) := fun o => (ba w _).alloc (ba w _).size o
    refine bodyPost_ret (v := .agg #[.slice A1 N.length c1, .slice A2 ([] : List Rn).length c2]) (by simp [results, Try.results44, go_sem, e0, e1]) rfl ⟨_, _, rfl, fun B hB h1 h2 => ⟨KRow.keep h1 (BF _), KRow.keep h2 (BF _)⟩, HNA.out.keep (BF _), HRA.out.keep (BF _), BF _⟩
  · have hz : ((R.length : Int) == 0) = false := by rw [beq_eq_false_iff_ne]; omega
    have hl := ps_len hps
    have he : slE N R 0 (lg R) = 0 := slE_0 h (by omega)
    have HSl := Lib.hid (show ∀ w', Below w.heap.size w w' → Calls Try.prog 71 #[.agg #[.slice A1 N.length c1, .slice A2 R.length c2], .int .i64 0, .int .i64 (lg R)] w' fun e w'' => ∃ v1 v2 : Value, e = .returned (.tuple #[.agg #[v1, v2], .int .i64 0]) ∧ NmRow w'' w'.heap.size v1 N ∧ RnRow w'' w'.heap.size v2 (jn R) ∧ Below w'.heap.size w' w'' by
      intro w' hb
      have := HS0.out w' hb
      rw [he, (slN_0 he).1, (slN_0 he).2, prt_whole hps] at this
      exact this)
    have g0 := P0.out.cell 0
    have g1 := P0.out.cell 1
    have S0 := Lib.hid (show W1.drew.cell? ⟨w.heap.size, 0, none⟩ = some (.slice A1 N.length c1) ∧ W1.drew.cell? ⟨w.heap.size, 1, none⟩ = some (.slice A2 R.length c2) ∧ Below w.heap.size w W1.drew ∧ w.heap.size < W1.drew.heap.size from ⟨P0.out.cell 0, P0.out.cell 1, B0.out.drew, P0.out.lt⟩)
    have Q0 := Lib.hid (show RowAt W1.drew (w.heap.size + 1) 25 #[.slice none 0 0, .slice none 0 0] from Q1.out)
    have s0 := Lib.hid (show w.heap.size + 2 ≤ W1.drew.heap.size from Q1.out.lt)
    generalize lg R = G at *
    clear HS0 hck hps hrg h h0 hl he
    go_enter Try.func44, Try.ntmps44
    go_wp2
    rw [← hW1]
    clear hW1 g0 g1
    refine wp_region_held_drew (S := fun w' => w'.cell? ⟨w.heap.size, 0, none⟩ = some (.slice A1 N.length c1) ∧ w'.cell? ⟨w.heap.size, 1, none⟩ = some (.slice A2 R.length c2) ∧ Below w.heap.size w w' ∧ w.heap.size < w'.heap.size) (by kernel_rfl) ?_ (fun hH => ?_)
    · exact S0.out
    generalize W1.drew = WD at *
    refine wpAnyH_take (i := 0) (oi := { dst := some 11, op := Go.Op.load 25 (Go.Operand.tmp 1), type := 25, pos := "remap.go:179", after := #[], guard := none }) (v := ?_) rfl ?_ ?_ ?_ ?_ (Or.inl ⟨?_, ?_⟩) hH ?_
    rotate_left
    · kernel_rfl
    · kernel_rfl
    · kernel_rfl
    · exact fun _ _ _ h => h
    · kernel_rfl
    · intro wS hSw
      try dsimp only at hSw
      go_simp
      try with_reducible rfl
    try simp only [Act.put, List.setIfInBounds_toArray, List.set_cons_zero, List.set_cons_succ]
    refine wpAnyH_take (i := 1) (oi := { dst := some 12, op := Go.Op.load 25 (Go.Operand.tmp 1), type := 25, pos := "remap.go:179", after := #[], guard := none }) (v := ?_) rfl ?_ ?_ ?_ ?_ (Or.inl ⟨?_, ?_⟩) hH ?_
    rotate_left
    · kernel_rfl
    · kernel_rfl
    · kernel_rfl
    · exact fun _ _ _ h => h
    · kernel_rfl
    · intro wS hSw
      try dsimp only at hSw
      go_simp
      try with_reducible rfl
    try simp only [Act.put, List.setIfInBounds_toArray, List.set_cons_zero, List.set_cons_succ]
    refine wpAnyH_ready (rs := [2, 7]) (by kernel_rfl) (by simp) ?_
    refine AllReadyH.cons (o := { dst := some 13, op := Go.Op.call { callee := Go.Callee.value (Go.Operand.func 25), args := #[Go.Operand.tmp 12], argTypes := #[25] }, type := 3, pos := "remap.go:179", after := #[{ on := 1, ground := Go.Ground.data }], guard := none }) rfl (fun K hK => ?_) (AllReadyH.cons (o := { dst := some 3, op := Go.Op.alloc 25, type := 0, pos := "remap.go:179", after := #[], guard := none }) rfl (fun K hK => ?_) AllReadyH.nil)
    · go_simp
      refine (HL.out _ S0.out.2.2.1).mono ?_
      rintro eL2 wL2 ⟨rfl, bL2⟩
      try go_wp2_with fail
      have SL2 := Lib.hid (heldP S0.out bL2)
      have QL2 := Lib.hid (Q0.out.keep bL2)
      have sL2 := Lib.hid (Nat.le_trans s0.out bL2.size)
      clear bL2
      refine hK.out _ _ ?_ (fun hH1 => ?_)
      · exact SL2.out
      clear hK K hH
      try simp only [Act.put, List.setIfInBounds_toArray, List.set_cons_zero, List.set_cons_succ]
      refine wpAnyH_ready (rs := [3, 7]) (by kernel_rfl) (by simp) ?_
      refine AllReadyH.cons (o := { dst := some 14, op := Go.Op.call { callee := Go.Callee.value (Go.Operand.func 71), args := #[Go.Operand.tmp 11, Go.Operand.const (Go.Value.int Go.IntKind.i64 0), Go.Operand.tmp 13], argTypes := #[25, 3, 3] }, type := 29, pos := "remap.go:179", after := #[{ on := 0, ground := Go.Ground.data }, { on := 2, ground := Go.Ground.data }, { on := 2, ground := Go.Ground.chain }], guard := none }) rfl (fun K hK => ?_) (AllReadyH.cons (o := { dst := some 3, op := Go.Op.alloc 25, type := 0, pos := "remap.go:179", after := #[], guard := none }) rfl (fun K hK => ?_) AllReadyH.nil)
      · go_simp
        refine (HSl.out _ SL2.out.2.2.1).mono ?_
        rintro eC4 wC4 ⟨uC4, vC4, rfl, rC4, tC4, bC4⟩
        obtain ⟨NA, NN, NC, rfl, rfl⟩ := KRow.form rC4
        obtain ⟨RA, RN, RC, rfl, rfl⟩ := KRow.form tC4
        try go_wp2_with fail
        have SC4 := Lib.hid (heldP SL2.out bC4)
        have QC4 := Lib.hid (QL2.out.keep bC4)
        have RNC4 := Lib.hid (KRow.mono rC4 sL2.out)
        have RRC4 := Lib.hid (KRow.mono tC4 sL2.out)
        have sC4 := Lib.hid (Nat.le_trans sL2.out bC4.size)
        clear bC4 rC4 tC4
        refine hK.out _ _ ?_ (fun hH3 => ?_)
        · exact SC4.out
        clear hK K hH1
        try simp only [Act.put, List.setIfInBounds_toArray, List.set_cons_zero, List.set_cons_succ]
        refine wpAnyH_take (i := 4) (oi := { dst := some 10, op := Go.Op.move (Go.Operand.tmp 14), type := 29, pos := "remap.go:179", after := #[{ on := 3, ground := Go.Ground.data }], guard := none }) (v := ?_) rfl ?_ ?_ ?_ ?_ (Or.inl ⟨?_, ?_⟩) hH3 ?_
        rotate_left
        · kernel_rfl
        · kernel_rfl
        · kernel_rfl
        · exact fun _ _ _ h => h
        · kernel_rfl
        · intro wS hSw
          try dsimp only at hSw
          go_simp
          try with_reducible rfl
        try simp only [Act.put, List.setIfInBounds_toArray, List.set_cons_zero, List.set_cons_succ]
        refine wpAnyH_take (i := 5) (oi := { dst := some 15, op := Go.Op.extract (Go.Operand.tmp 10) 0, type := 25, pos := "remap.go:179", after := #[{ on := 4, ground := Go.Ground.data }], guard := none }) (v := ?_) rfl ?_ ?_ ?_ ?_ (Or.inl ⟨?_, ?_⟩) hH3 ?_
        rotate_left
        · kernel_rfl
        · kernel_rfl
        · kernel_rfl
        · exact fun _ _ _ h => h
        · kernel_rfl
        · intro wS hSw
          try dsimp only at hSw
          go_simp
          try with_reducible rfl
        try simp only [Act.put, List.setIfInBounds_toArray, List.set_cons_zero, List.set_cons_succ]
        refine wpAnyH_take (i := 6) (oi := { dst := some 16, op := Go.Op.extract (Go.Operand.tmp 10) 1, type := 28, pos := "remap.go:179", after := #[{ on := 4, ground := Go.Ground.data }, { on := 8, ground := Go.Ground.gcOnly Go.Departure.lateStores }], guard := none }) (v := ?_) rfl ?_ ?_ ?_ ?_ (Or.inl ⟨?_, ?_⟩) hH3 ?_
        rotate_left
        · kernel_rfl
        · kernel_rfl
        · kernel_rfl
        · exact fun _ _ _ h => h
        · kernel_rfl
        · intro wS hSw
          try dsimp only at hSw
          go_simp
          try with_reducible rfl
        try simp only [Act.put, List.setIfInBounds_toArray, List.set_cons_zero, List.set_cons_succ]
        refine wpAnyH_ready (rs := [7]) (by kernel_rfl) (by simp) ?_
        refine AllReadyH.cons (o := { dst := some 3, op := Go.Op.alloc 25, type := 0, pos := "remap.go:179", after := #[], guard := none }) rfl (fun K hK => ?_) AllReadyH.nil
        · obtain ⟨wA6, hA6⟩ : ∃ wA6, wA6 = World.alloc wC4 (.cells #[.slice none 0 0, .slice none 0 0] 25) := ⟨_, rfl⟩
          have SA6 := Lib.hid (show wA6.cell? ⟨w.heap.size, 0, none⟩ = some (.slice A1 N.length c1) ∧ wA6.cell? ⟨w.heap.size, 1, none⟩ = some (.slice A2 R.length c2) ∧ Below w.heap.size w wA6 ∧ w.heap.size < wA6.heap.size by rw [hA6]; exact heldP SC4.out (ba _ _))
          have QA6 := Lib.hid (show RowAt wA6 (w.heap.size + 1) 25 #[.slice none 0 0, .slice none 0 0] by rw [hA6]; exact QC4.out.alloc _)
          have XA6 := Lib.hid (show RowAt wA6 wC4.heap.size 25 #[.slice none 0 0, .slice none 0 0] by rw [hA6]; exact RowAt.new _ _ _)
          have sA6 := Lib.hid (show w.heap.size + 2 ≤ wA6.heap.size by rw [hA6, World.size_alloc]; have := sC4.out; omega)
          have xs := Lib.hid (show w.heap.size + 2 ≤ wC4.heap.size from sC4.out)
          have RNA6 := Lib.hid (by have := KRow.alloc RNC4.out (.cells #[.slice none 0 0, .slice none 0 0] 25); rw [← hA6] at this; exact this)
          have RRA6 := Lib.hid (by have := KRow.alloc RRC4.out (.cells #[.slice none 0 0, .slice none 0 0] 25); rw [← hA6] at this; exact this)
          go_simp
          rw [← hA6]
          clear hA6
          generalize wC4.heap.size = bx at *
          refine hK.out _ _ ?_ (fun hH5 => ?_)
          · exact SA6.out
          clear hK K hH3
          try simp only [Act.put, List.setIfInBounds_toArray, List.set_cons_zero, List.set_cons_succ]
          refine wpAnyH_ready (rs := [8]) (by kernel_rfl) (by simp) ?_
          refine AllReadyH.cons (o := { dst := none, op := Go.Op.store 25 (Go.Operand.tmp 3) (Go.Operand.tmp 15), type := 0, pos := "remap.go:179", after := #[{ on := 7, ground := Go.Ground.data }, { on := 5, ground := Go.Ground.data }, { on := 3, ground := Go.Ground.chain }, { on := 0, ground := Go.Ground.phase }, { on := 1, ground := Go.Ground.phase }, { on := 2, ground := Go.Ground.phase }, { on := 3, ground := Go.Ground.phase }, { on := 4, ground := Go.Ground.phase }, { on := 5, ground := Go.Ground.phase }, { on := 6, ground := Go.Ground.textOnly Go.Departure.lateStores }, { on := 7, ground := Go.Ground.phase }], guard := none }) rfl (fun K hK => ?_) AllReadyH.nil
          · refine step_store_at2 XA6.out #[.slice NA N.length NC, .slice RA (jn R).length RC] (.tmp 3) (.tmp 15) 25 rfl rfl rfl rfl (by kernel_rfl) rfl rfl ?_
            intro wT8 rT8 bT8 kT8
            have ST8 := Lib.hid (heldX SA6.out kT8 bT8 xs.out)
            have QT8 := Lib.hid (show RowAt wT8 (w.heap.size + 1) 25 #[.slice none 0 0, .slice none 0 0] from (kT8 (w.heap.size + 1) (by have := xs.out; omega)).trans QA6.out)
            have XT8 := Lib.hid rT8
            have RNT8 := Lib.hid (KRow.apart RNA6.out kT8 (KRow.off RNA6.out XA6.out (by decide)))
            have RRT8 := Lib.hid (KRow.apart RRA6.out kT8 (KRow.off RRA6.out XA6.out (by decide)))
            clear rT8 bT8 kT8
            refine hK.out _ _ ?_ (fun hH7 => ?_)
            · exact ST8.out
            clear hK K hH5
            try simp only [Act.put, List.setIfInBounds_toArray, List.set_cons_zero, List.set_cons_succ]
            refine wpAnyH_take (i := 9) (oi := { dst := some 4, op := Go.Op.assign (Go.Operand.tmp 16), type := 28, pos := "remap.go:179", after := #[{ on := 6, ground := Go.Ground.data }, { on := 8, ground := Go.Ground.chain }, { on := 0, ground := Go.Ground.phase }, { on := 1, ground := Go.Ground.phase }, { on := 2, ground := Go.Ground.phase }, { on := 3, ground := Go.Ground.phase }, { on := 4, ground := Go.Ground.phase }, { on := 5, ground := Go.Ground.phase }, { on := 6, ground := Go.Ground.phase }, { on := 7, ground := Go.Ground.phase }, { on := 8, ground := Go.Ground.phase }], guard := none }) (v := ?_) rfl ?_ ?_ ?_ ?_ (Or.inl ⟨?_, ?_⟩) hH7 ?_
            rotate_left
            · kernel_rfl
            · kernel_rfl
            · kernel_rfl
            · exact fun _ _ _ h => h
            · kernel_rfl
            · intro wS hSw
              try dsimp only at hSw
              go_simp
              try with_reducible rfl
            try simp only [Act.put, List.setIfInBounds_toArray, List.set_cons_zero, List.set_cons_succ]
            refine wpAnyH_done (by kernel_rfl) ?_ _
            have y0 : wT8.cell? ⟨bx, 0, none⟩ = some (.slice NA N.length NC) := XT8.out.cell 0
            have y1 : wT8.cell? ⟨bx, 1, none⟩ = some (.slice RA (jn R).length RC) := XT8.out.cell 1
            have k0 := QT8.out.cell 0
            have k1 := QT8.out.cell 1
            have z0 := QT8.out.frozen 0
            have z1 := QT8.out.frozen 1
            go_wp2
            have e0 := (two_set (v0 := .slice NA N.length NC) (v1 := .slice RA (jn R).length RC) k0 k1).1
            have e1 := (two_set (v0 := .slice NA N.length NC) (v1 := .slice RA (jn R).length RC) k0 k1).2
            refine bodyPost_ret (v := .agg #[.slice NA N.length NC, .slice RA (jn R).length RC]) (by simp [results, Try.results44, go_sem, e0, e1]) rfl ⟨_, _, rfl, fun B hB _ _ => ⟨KRow.mono (KRow.set2 RNT8.out (Nat.lt_succ_self _) _ _) (by omega), KRow.mono (KRow.set2 RRT8.out (Nat.lt_succ_self _) _ _) (by omega)⟩, KRow.name (KRow.set2 RNT8.out (Nat.lt_succ_self _) _ _), KRow.arg rnC_size (KRow.set2 RRT8.out (Nat.lt_succ_self _) _ _), Below.setCell (Below.setCell ST8.out.2.2.1 (Nat.le_succ _) _) (Nat.le_succ _) _⟩
      · obtain ⟨wA10, hA10⟩ : ∃ wA10, wA10 = World.alloc wL2 (.cells #[.slice none 0 0, .slice none 0 0] 25) := ⟨_, rfl⟩
        have SA10 := Lib.hid (show wA10.cell? ⟨w.heap.size, 0, none⟩ = some (.slice A1 N.length c1) ∧ wA10.cell? ⟨w.heap.size, 1, none⟩ = some (.slice A2 R.length c2) ∧ Below w.heap.size w wA10 ∧ w.heap.size < wA10.heap.size by rw [hA10]; exact heldP SL2.out (ba _ _))
        have QA10 := Lib.hid (show RowAt wA10 (w.heap.size + 1) 25 #[.slice none 0 0, .slice none 0 0] by rw [hA10]; exact QL2.out.alloc _)
        have XA10 := Lib.hid (show RowAt wA10 wL2.heap.size 25 #[.slice none 0 0, .slice none 0 0] by rw [hA10]; exact RowAt.new _ _ _)
        have sA10 := Lib.hid (show w.heap.size + 2 ≤ wA10.heap.size by rw [hA10, World.size_alloc]; have := sL2.out; omega)
        have xs := Lib.hid (show w.heap.size + 2 ≤ wL2.heap.size from sL2.out)
        go_simp
        rw [← hA10]
        clear hA10
        generalize wL2.heap.size = bx at *
        refine hK.out _ _ ?_ (fun hH9 => ?_)
        · exact SA10.out
        clear hK K hH1
        try simp only [Act.put, List.setIfInBounds_toArray, List.set_cons_zero, List.set_cons_succ]
        refine wpAnyH_ready (rs := [3]) (by kernel_rfl) (by simp) ?_
        refine AllReadyH.cons (o := { dst := some 14, op := Go.Op.call { callee := Go.Callee.value (Go.Operand.func 71), args := #[Go.Operand.tmp 11, Go.Operand.const (Go.Value.int Go.IntKind.i64 0), Go.Operand.tmp 13], argTypes := #[25, 3, 3] }, type := 29, pos := "remap.go:179", after := #[{ on := 0, ground := Go.Ground.data }, { on := 2, ground := Go.Ground.data }, { on := 2, ground := Go.Ground.chain }], guard := none }) rfl (fun K hK => ?_) AllReadyH.nil
        · go_simp
          refine (HSl.out _ SA10.out.2.2.1).mono ?_
          rintro eC12 wC12 ⟨uC12, vC12, rfl, rC12, tC12, bC12⟩
          obtain ⟨NA, NN, NC, rfl, rfl⟩ := KRow.form rC12
          obtain ⟨RA, RN, RC, rfl, rfl⟩ := KRow.form tC12
          try go_wp2_with fail
          have SC12 := Lib.hid (heldP SA10.out bC12)
          have QC12 := Lib.hid (QA10.out.keep bC12)
          have RNC12 := Lib.hid (KRow.mono rC12 sA10.out)
          have RRC12 := Lib.hid (KRow.mono tC12 sA10.out)
          have sC12 := Lib.hid (Nat.le_trans sA10.out bC12.size)
          have XC12 := Lib.hid (XA10.out.keep bC12)
          clear bC12 rC12 tC12
          refine hK.out _ _ ?_ (fun hH11 => ?_)
          · exact SC12.out
          clear hK K hH9
          try simp only [Act.put, List.setIfInBounds_toArray, List.set_cons_zero, List.set_cons_succ]
          refine wpAnyH_take (i := 4) (oi := { dst := some 10, op := Go.Op.move (Go.Operand.tmp 14), type := 29, pos := "remap.go:179", after := #[{ on := 3, ground := Go.Ground.data }], guard := none }) (v := ?_) rfl ?_ ?_ ?_ ?_ (Or.inl ⟨?_, ?_⟩) hH11 ?_
          rotate_left
          · kernel_rfl
          · kernel_rfl
          · kernel_rfl
          · exact fun _ _ _ h => h
          · kernel_rfl
          · intro wS hSw
            try dsimp only at hSw
            go_simp
            try with_reducible rfl
          try simp only [Act.put, List.setIfInBounds_toArray, List.set_cons_zero, List.set_cons_succ]
          refine wpAnyH_take (i := 5) (oi := { dst := some 15, op := Go.Op.extract (Go.Operand.tmp 10) 0, type := 25, pos := "remap.go:179", after := #[{ on := 4, ground := Go.Ground.data }], guard := none }) (v := ?_) rfl ?_ ?_ ?_ ?_ (Or.inl ⟨?_, ?_⟩) hH11 ?_
          rotate_left
          · kernel_rfl
          · kernel_rfl
          · kernel_rfl
          · exact fun _ _ _ h => h
          · kernel_rfl
          · intro wS hSw
            try dsimp only at hSw
            go_simp
            try with_reducible rfl
          try simp only [Act.put, List.setIfInBounds_toArray, List.set_cons_zero, List.set_cons_succ]
          refine wpAnyH_take (i := 6) (oi := { dst := some 16, op := Go.Op.extract (Go.Operand.tmp 10) 1, type := 28, pos := "remap.go:179", after := #[{ on := 4, ground := Go.Ground.data }, { on := 8, ground := Go.Ground.gcOnly Go.Departure.lateStores }], guard := none }) (v := ?_) rfl ?_ ?_ ?_ ?_ (Or.inl ⟨?_, ?_⟩) hH11 ?_
          rotate_left
          · kernel_rfl
          · kernel_rfl
          · kernel_rfl
          · exact fun _ _ _ h => h
          · kernel_rfl
          · intro wS hSw
            try dsimp only at hSw
            go_simp
            try with_reducible rfl
          try simp only [Act.put, List.setIfInBounds_toArray, List.set_cons_zero, List.set_cons_succ]
          refine wpAnyH_ready (rs := [8]) (by kernel_rfl) (by simp) ?_
          refine AllReadyH.cons (o := { dst := none, op := Go.Op.store 25 (Go.Operand.tmp 3) (Go.Operand.tmp 15), type := 0, pos := "remap.go:179", after := #[{ on := 7, ground := Go.Ground.data }, { on := 5, ground := Go.Ground.data }, { on := 3, ground := Go.Ground.chain }, { on := 0, ground := Go.Ground.phase }, { on := 1, ground := Go.Ground.phase }, { on := 2, ground := Go.Ground.phase }, { on := 3, ground := Go.Ground.phase }, { on := 4, ground := Go.Ground.phase }, { on := 5, ground := Go.Ground.phase }, { on := 6, ground := Go.Ground.textOnly Go.Departure.lateStores }, { on := 7, ground := Go.Ground.phase }], guard := none }) rfl (fun K hK => ?_) AllReadyH.nil
          · refine step_store_at2 XC12.out #[.slice NA N.length NC, .slice RA (jn R).length RC] (.tmp 3) (.tmp 15) 25 rfl rfl rfl rfl (by kernel_rfl) rfl rfl ?_
            intro wT14 rT14 bT14 kT14
            have ST14 := Lib.hid (heldX SC12.out kT14 bT14 xs.out)
            have QT14 := Lib.hid (show RowAt wT14 (w.heap.size + 1) 25 #[.slice none 0 0, .slice none 0 0] from (kT14 (w.heap.size + 1) (by have := xs.out; omega)).trans QC12.out)
            have XT14 := Lib.hid rT14
            have RNT14 := Lib.hid (KRow.apart RNC12.out kT14 (KRow.off RNC12.out XC12.out (by decide)))
            have RRT14 := Lib.hid (KRow.apart RRC12.out kT14 (KRow.off RRC12.out XC12.out (by decide)))
            clear rT14 bT14 kT14
            refine hK.out _ _ ?_ (fun hH13 => ?_)
            · exact ST14.out
            clear hK K hH11
            try simp only [Act.put, List.setIfInBounds_toArray, List.set_cons_zero, List.set_cons_succ]
            refine wpAnyH_take (i := 9) (oi := { dst := some 4, op := Go.Op.assign (Go.Operand.tmp 16), type := 28, pos := "remap.go:179", after := #[{ on := 6, ground := Go.Ground.data }, { on := 8, ground := Go.Ground.chain }, { on := 0, ground := Go.Ground.phase }, { on := 1, ground := Go.Ground.phase }, { on := 2, ground := Go.Ground.phase }, { on := 3, ground := Go.Ground.phase }, { on := 4, ground := Go.Ground.phase }, { on := 5, ground := Go.Ground.phase }, { on := 6, ground := Go.Ground.phase }, { on := 7, ground := Go.Ground.phase }, { on := 8, ground := Go.Ground.phase }], guard := none }) (v := ?_) rfl ?_ ?_ ?_ ?_ (Or.inl ⟨?_, ?_⟩) hH13 ?_
            rotate_left
            · kernel_rfl
            · kernel_rfl
            · kernel_rfl
            · exact fun _ _ _ h => h
            · kernel_rfl
            · intro wS hSw
              try dsimp only at hSw
              go_simp
              try with_reducible rfl
            try simp only [Act.put, List.setIfInBounds_toArray, List.set_cons_zero, List.set_cons_succ]
            refine wpAnyH_done (by kernel_rfl) ?_ _
            have y0 : wT14.cell? ⟨bx, 0, none⟩ = some (.slice NA N.length NC) := XT14.out.cell 0
            have y1 : wT14.cell? ⟨bx, 1, none⟩ = some (.slice RA (jn R).length RC) := XT14.out.cell 1
            have k0 := QT14.out.cell 0
            have k1 := QT14.out.cell 1
            have z0 := QT14.out.frozen 0
            have z1 := QT14.out.frozen 1
            go_wp2
            have e0 := (two_set (v0 := .slice NA N.length NC) (v1 := .slice RA (jn R).length RC) k0 k1).1
            have e1 := (two_set (v0 := .slice NA N.length NC) (v1 := .slice RA (jn R).length RC) k0 k1).2
            refine bodyPost_ret (v := .agg #[.slice NA N.length NC, .slice RA (jn R).length RC]) (by simp [results, Try.results44, go_sem, e0, e1]) rfl ⟨_, _, rfl, fun B hB _ _ => ⟨KRow.mono (KRow.set2 RNT14.out (Nat.lt_succ_self _) _ _) (by omega), KRow.mono (KRow.set2 RRT14.out (Nat.lt_succ_self _) _ _) (by omega)⟩, KRow.name (KRow.set2 RNT14.out (Nat.lt_succ_self _) _ _), KRow.arg rnC_size (KRow.set2 RRT14.out (Nat.lt_succ_self _) _ _), Below.setCell (Below.setCell ST14.out.2.2.1 (Nat.le_succ _) _) (Nat.le_succ _) _⟩
    · obtain ⟨wA16, hA16⟩ : ∃ wA16, wA16 = World.alloc WD (.cells #[.slice none 0 0, .slice none 0 0] 25) := ⟨_, rfl⟩
      have SA16 := Lib.hid (show wA16.cell? ⟨w.heap.size, 0, none⟩ = some (.slice A1 N.length c1) ∧ wA16.cell? ⟨w.heap.size, 1, none⟩ = some (.slice A2 R.length c2) ∧ Below w.heap.size w wA16 ∧ w.heap.size < wA16.heap.size by rw [hA16]; exact heldP S0.out (ba _ _))
      have QA16 := Lib.hid (show RowAt wA16 (w.heap.size + 1) 25 #[.slice none 0 0, .slice none 0 0] by rw [hA16]; exact Q0.out.alloc _)
      have XA16 := Lib.hid (show RowAt wA16 WD.heap.size 25 #[.slice none 0 0, .slice none 0 0] by rw [hA16]; exact RowAt.new _ _ _)
      have sA16 := Lib.hid (show w.heap.size + 2 ≤ wA16.heap.size by rw [hA16, World.size_alloc]; have := s0.out; omega)
      have xs := Lib.hid (show w.heap.size + 2 ≤ WD.heap.size from s0.out)
      go_simp
      rw [← hA16]
      clear hA16
      generalize WD.heap.size = bx at *
      refine hK.out _ _ ?_ (fun hH15 => ?_)
      · exact SA16.out
      clear hK K hH
      try simp only [Act.put, List.setIfInBounds_toArray, List.set_cons_zero, List.set_cons_succ]
      refine wpAnyH_ready (rs := [2]) (by kernel_rfl) (by simp) ?_
      refine AllReadyH.cons (o := { dst := some 13, op := Go.Op.call { callee := Go.Callee.value (Go.Operand.func 25), args := #[Go.Operand.tmp 12], argTypes := #[25] }, type := 3, pos := "remap.go:179", after := #[{ on := 1, ground := Go.Ground.data }], guard := none }) rfl (fun K hK => ?_) AllReadyH.nil
      · go_simp
        refine (HL.out _ SA16.out.2.2.1).mono ?_
        rintro eL18 wL18 ⟨rfl, bL18⟩
        try go_wp2_with fail
        have SL18 := Lib.hid (heldP SA16.out bL18)
        have QL18 := Lib.hid (QA16.out.keep bL18)
        have sL18 := Lib.hid (Nat.le_trans sA16.out bL18.size)
        have XL18 := Lib.hid (XA16.out.keep bL18)
        clear bL18
        refine hK.out _ _ ?_ (fun hH17 => ?_)
        · exact SL18.out
        clear hK K hH15
        try simp only [Act.put, List.setIfInBounds_toArray, List.set_cons_zero, List.set_cons_succ]
        refine wpAnyH_ready (rs := [3]) (by kernel_rfl) (by simp) ?_
        refine AllReadyH.cons (o := { dst := some 14, op := Go.Op.call { callee := Go.Callee.value (Go.Operand.func 71), args := #[Go.Operand.tmp 11, Go.Operand.const (Go.Value.int Go.IntKind.i64 0), Go.Operand.tmp 13], argTypes := #[25, 3, 3] }, type := 29, pos := "remap.go:179", after := #[{ on := 0, ground := Go.Ground.data }, { on := 2, ground := Go.Ground.data }, { on := 2, ground := Go.Ground.chain }], guard := none }) rfl (fun K hK => ?_) AllReadyH.nil
        · go_simp
          refine (HSl.out _ SL18.out.2.2.1).mono ?_
          rintro eC20 wC20 ⟨uC20, vC20, rfl, rC20, tC20, bC20⟩
          obtain ⟨NA, NN, NC, rfl, rfl⟩ := KRow.form rC20
          obtain ⟨RA, RN, RC, rfl, rfl⟩ := KRow.form tC20
          try go_wp2_with fail
          have SC20 := Lib.hid (heldP SL18.out bC20)
          have QC20 := Lib.hid (QL18.out.keep bC20)
          have RNC20 := Lib.hid (KRow.mono rC20 sL18.out)
          have RRC20 := Lib.hid (KRow.mono tC20 sL18.out)
          have sC20 := Lib.hid (Nat.le_trans sL18.out bC20.size)
          have XC20 := Lib.hid (XL18.out.keep bC20)
          clear bC20 rC20 tC20
          refine hK.out _ _ ?_ (fun hH19 => ?_)
          · exact SC20.out
          clear hK K hH17
          try simp only [Act.put, List.setIfInBounds_toArray, List.set_cons_zero, List.set_cons_succ]
          refine wpAnyH_take (i := 4) (oi := { dst := some 10, op := Go.Op.move (Go.Operand.tmp 14), type := 29, pos := "remap.go:179", after := #[{ on := 3, ground := Go.Ground.data }], guard := none }) (v := ?_) rfl ?_ ?_ ?_ ?_ (Or.inl ⟨?_, ?_⟩) hH19 ?_
          rotate_left
          · kernel_rfl
          · kernel_rfl
          · kernel_rfl
          · exact fun _ _ _ h => h
          · kernel_rfl
          · intro wS hSw
            try dsimp only at hSw
            go_simp
            try with_reducible rfl
          try simp only [Act.put, List.setIfInBounds_toArray, List.set_cons_zero, List.set_cons_succ]
          refine wpAnyH_take (i := 5) (oi := { dst := some 15, op := Go.Op.extract (Go.Operand.tmp 10) 0, type := 25, pos := "remap.go:179", after := #[{ on := 4, ground := Go.Ground.data }], guard := none }) (v := ?_) rfl ?_ ?_ ?_ ?_ (Or.inl ⟨?_, ?_⟩) hH19 ?_
          rotate_left
          · kernel_rfl
          · kernel_rfl
          · kernel_rfl
          · exact fun _ _ _ h => h
          · kernel_rfl
          · intro wS hSw
            try dsimp only at hSw
            go_simp
            try with_reducible rfl
          try simp only [Act.put, List.setIfInBounds_toArray, List.set_cons_zero, List.set_cons_succ]
          refine wpAnyH_take (i := 6) (oi := { dst := some 16, op := Go.Op.extract (Go.Operand.tmp 10) 1, type := 28, pos := "remap.go:179", after := #[{ on := 4, ground := Go.Ground.data }, { on := 8, ground := Go.Ground.gcOnly Go.Departure.lateStores }], guard := none }) (v := ?_) rfl ?_ ?_ ?_ ?_ (Or.inl ⟨?_, ?_⟩) hH19 ?_
          rotate_left
          · kernel_rfl
          · kernel_rfl
          · kernel_rfl
          · exact fun _ _ _ h => h
          · kernel_rfl
          · intro wS hSw
            try dsimp only at hSw
            go_simp
            try with_reducible rfl
          try simp only [Act.put, List.setIfInBounds_toArray, List.set_cons_zero, List.set_cons_succ]
          refine wpAnyH_ready (rs := [8]) (by kernel_rfl) (by simp) ?_
          refine AllReadyH.cons (o := { dst := none, op := Go.Op.store 25 (Go.Operand.tmp 3) (Go.Operand.tmp 15), type := 0, pos := "remap.go:179", after := #[{ on := 7, ground := Go.Ground.data }, { on := 5, ground := Go.Ground.data }, { on := 3, ground := Go.Ground.chain }, { on := 0, ground := Go.Ground.phase }, { on := 1, ground := Go.Ground.phase }, { on := 2, ground := Go.Ground.phase }, { on := 3, ground := Go.Ground.phase }, { on := 4, ground := Go.Ground.phase }, { on := 5, ground := Go.Ground.phase }, { on := 6, ground := Go.Ground.textOnly Go.Departure.lateStores }, { on := 7, ground := Go.Ground.phase }], guard := none }) rfl (fun K hK => ?_) AllReadyH.nil
          · refine step_store_at2 XC20.out #[.slice NA N.length NC, .slice RA (jn R).length RC] (.tmp 3) (.tmp 15) 25 rfl rfl rfl rfl (by kernel_rfl) rfl rfl ?_
            intro wT22 rT22 bT22 kT22
            have ST22 := Lib.hid (heldX SC20.out kT22 bT22 xs.out)
            have QT22 := Lib.hid (show RowAt wT22 (w.heap.size + 1) 25 #[.slice none 0 0, .slice none 0 0] from (kT22 (w.heap.size + 1) (by have := xs.out; omega)).trans QC20.out)
            have XT22 := Lib.hid rT22
            have RNT22 := Lib.hid (KRow.apart RNC20.out kT22 (KRow.off RNC20.out XC20.out (by decide)))
            have RRT22 := Lib.hid (KRow.apart RRC20.out kT22 (KRow.off RRC20.out XC20.out (by decide)))
            clear rT22 bT22 kT22
            refine hK.out _ _ ?_ (fun hH21 => ?_)
            · exact ST22.out
            clear hK K hH19
            try simp only [Act.put, List.setIfInBounds_toArray, List.set_cons_zero, List.set_cons_succ]
            refine wpAnyH_take (i := 9) (oi := { dst := some 4, op := Go.Op.assign (Go.Operand.tmp 16), type := 28, pos := "remap.go:179", after := #[{ on := 6, ground := Go.Ground.data }, { on := 8, ground := Go.Ground.chain }, { on := 0, ground := Go.Ground.phase }, { on := 1, ground := Go.Ground.phase }, { on := 2, ground := Go.Ground.phase }, { on := 3, ground := Go.Ground.phase }, { on := 4, ground := Go.Ground.phase }, { on := 5, ground := Go.Ground.phase }, { on := 6, ground := Go.Ground.phase }, { on := 7, ground := Go.Ground.phase }, { on := 8, ground := Go.Ground.phase }], guard := none }) (v := ?_) rfl ?_ ?_ ?_ ?_ (Or.inl ⟨?_, ?_⟩) hH21 ?_
            rotate_left
            · kernel_rfl
            · kernel_rfl
            · kernel_rfl
            · exact fun _ _ _ h => h
            · kernel_rfl
            · intro wS hSw
              try dsimp only at hSw
              go_simp
              try with_reducible rfl
            try simp only [Act.put, List.setIfInBounds_toArray, List.set_cons_zero, List.set_cons_succ]
            refine wpAnyH_done (by kernel_rfl) ?_ _
            have y0 : wT22.cell? ⟨bx, 0, none⟩ = some (.slice NA N.length NC) := XT22.out.cell 0
            have y1 : wT22.cell? ⟨bx, 1, none⟩ = some (.slice RA (jn R).length RC) := XT22.out.cell 1
            have k0 := QT22.out.cell 0
            have k1 := QT22.out.cell 1
            have z0 := QT22.out.frozen 0
            have z1 := QT22.out.frozen 1
            go_wp2
            have e0 := (two_set (v0 := .slice NA N.length NC) (v1 := .slice RA (jn R).length RC) k0 k1).1
            have e1 := (two_set (v0 := .slice NA N.length NC) (v1 := .slice RA (jn R).length RC) k0 k1).2
            refine bodyPost_ret (v := .agg #[.slice NA N.length NC, .slice RA (jn R).length RC]) (by simp [results, Try.results44, go_sem, e0, e1]) rfl ⟨_, _, rfl, fun B hB _ _ => ⟨KRow.mono (KRow.set2 RNT22.out (Nat.lt_succ_self _) _ _) (by omega), KRow.mono (KRow.set2 RRT22.out (Nat.lt_succ_self _) _ _) (by omega)⟩, KRow.name (KRow.set2 RNT22.out (Nat.lt_succ_self _) _ _), KRow.arg rnC_size (KRow.set2 RRT22.out (Nat.lt_succ_self _) _ _), Below.setCell (Below.setCell ST22.out.2.2.1 (Nat.le_succ _) _) (Nat.le_succ _) _⟩
end Go.Proofs.Yteccafndplaklaa

namespace Go.Proofs.Yteccafndplaklaa
open Go Go.RowKit Go.Joins
set_option linter.unusedVariables false
set_option linter.unusedSimpArgs false

theorem grown_row {α : Type} {enc : α → Array Value} {T : TypeId} (w : World) (n G : Nat) (z : Value) (hz : z.cells.size = 1) (hG : n ≤ G) (hm : G ≤ maxLen) (X : Array Value) (hX : X = (([] : List Value).toArray ++ Builtin.zeroCells z.cells (0 + n - 0) ++ Builtin.zeroCells z.cells (G - (0 + n)))) :
    KRow enc 1 T (w.drew.alloc (.cells X T)) w.heap.size (.slice (some ⟨w.heap.size, 0, none⟩) 0 G) [] := by
  refine ⟨rfl, Or.inr ⟨w.heap.size, G, X, rfl, Nat.le_refl _, ?_, Nat.zero_le _, hm, ?_, rfl⟩⟩
  · rw [heap_alloc]; exact if_pos rfl
  · subst hX
    simp only [Array.size_append, size_zeroCells, hz, List.size_toArray, List.length_nil]
    omega

theorem growN_any (n : Nat) (w : World) (hn : n ≤ 65536) :
    Calls Try.prog 68 #[.slice none 0 0, .int .i64 n] w fun e w' => ∃ v : Value, e = .returned v ∧ KRow nmC 1 9 w' w.heap.size v [] ∧ Below w.heap.size w w' := by
  rcases Nat.eq_zero_or_pos n with h0 | h0
  · subst h0
    refine (Any8.slices_Grow_room Try.growN none 0 0 0 w (Nat.le_refl _) (by omega) (by omega) (by omega)).mono ?_
    rintro e w' ⟨rfl, rfl⟩
    exact ⟨_, rfl, KRow.nil _ _, Below.refl _ _⟩
  · obtain ⟨i0, hi0, hz0, hz1, hz2⟩ := info_parts name_info
    have hzs : ((.string ⟨#[]⟩) : Value).cells.size = 1 := rfl
    refine (Any8.slices_Grow_grow Try.growN i0 (.string ⟨#[]⟩) hi0 hz0 (by rw [hz1]; omega) none 0 0 n [] w (Nat.le_refl _) (by omega) (by rw [hz2]; omega) (by omega) (by simp) (fun _ => rfl) (fun a h => by cases h)).mono ?_
    rintro e w' ⟨rfl, rfl⟩
    refine ⟨_, rfl, grown_row w n _ (.string ⟨#[]⟩) hzs (Nat.le_trans (by omega) (grownCap_ge w (0 + n) 0 _)) (grownCap_le_maxLen w (0 + n) 0 _ (by unfold maxLen; omega)) _ rfl, ?_⟩
    exact (Below.refl _ _).drew.alloc (Nat.le_refl _) _

set_option maxRecDepth 100000 in
set_option maxHeartbeats 4000000 in
theorem concatN_rows (X Y : List ByteArray) (vX vY : Value) (g : Nat) (w : World) (h0 : w.cell? ⟨g, 0, none⟩ = some vX) (h1 : w.cell? ⟨g, 1, none⟩ = some vY) (hg : g < w.heap.size) (hX : KArg nmC 1 w vX X) (hY : KArg nmC 1 w vY Y) (hx : X.length ≤ 4096) (hy : Y.length ≤ 4096) :
    Calls Try.prog 39 #[.slice (some ⟨g, 0, none⟩) 2 2] w fun e w' => ∃ v : Value, e = .returned v ∧ KRow nmC 1 9 w' w.heap.size v (X ++ Y) ∧ Below w.heap.size w w' := by
  have HX := Lib.hid hX
  have HY := Lib.hid hY
  obtain ⟨A1, c1, rfl⟩ := hX.form
  obtain ⟨A2, c2, rfl⟩ := hY.form
  have H0 := Lib.hid h0
  have H1 := Lib.hid h1
  have HG := Lib.hid hg
  obtain ⟨p, hp⟩ : ∃ p, p = X.length := ⟨_, rfl⟩
  obtain ⟨q, hq⟩ : ∃ q, q = Y.length := ⟨_, rfl⟩
  rw [← hp] at h0 hx HX H0
  rw [← hq] at h1 hy HY H1
  have HP := Lib.hid hp
  have HQ := Lib.hid hq
  clear hp hq hX hY hg
  have e1 := IntWalk.i64_in (0 + (p : Int)) (by omega)
  have e2 := IntWalk.i64_in ((p : Int) + q) (by omega)
  have d1 : ¬ ((p : Int) < 0) := by omega
  have d2 : ¬ ((p : Int) + q < 0) := by omega
  have HGr := fun w' => growN_any (p + q) w' (by omega)
  simp only [Int.natCast_add] at HGr
  have HGr := Lib.hid HGr
  clear h0 h1
  go_enter Try.func39, Try.ntmps39
  go_wp2
  go_loop [3, 11] (fun s i => (s = .int .i64 0 ∧ i = .int .i64 0) ∨ (s = .int .i64 p ∧ i = .int .i64 1) ∨ (s = .int .i64 ((p : Int) + q) ∧ i = .int .i64 2)) (fun s i => 2 - (intOf i).toNat)
  case atStart => exact Or.inl ⟨rfl, rfl⟩
  case round =>
    rcases hrel with ⟨rfl, rfl⟩ | ⟨rfl, rfl⟩ | ⟨rfl, rfl⟩
    · have f0 := H0.out
      go_wp2
      go_round
      case rel => exact Or.inr (Or.inl ⟨by go_num, rfl⟩)
      case measure => simp [intOf]
    · have f0 := H1.out
      go_wp2
      go_round
      case rel => exact Or.inr (Or.inr ⟨by go_num, rfl⟩)
      case measure => simp [intOf]
    · go_wp2_with (first
        | (go_at_call 68; go_must (refine (HGr.out _).mono ?_; rintro e5 w5 ⟨v5, rfl, r5, b5⟩; obtain ⟨UA, UN, UC, rfl, rfl⟩ := KRow.form r5; have R5 := Lib.hid r5; have B5 := Lib.hid b5; clear r5 b5)))
      go_loopw [6, 27] (fun v i wr => ∃ Z : List ByteArray, Hid (KRow nmC 1 9 wr w.heap.size v Z) ∧ Hid (Below w.heap.size w wr) ∧ ((i = .int .i64 0 ∧ Hid (Z = [])) ∨ (i = .int .i64 1 ∧ Hid (Z = X)) ∨ (i = .int .i64 2 ∧ Hid (Z = X ++ Y)))) (fun v i wr => 2 - (intOf i).toNat)
      case atStart => exact ⟨[], R5, B5, Or.inl ⟨rfl, Lib.hid rfl⟩⟩
      case round =>
        obtain ⟨Z, HR, HB, hc⟩ := hrel
        have f0 := (HB.out.cell (p := ⟨g, 0, none⟩) HG.out).trans H0.out
        have f1 := (HB.out.cell (p := ⟨g, 1, none⟩) HG.out).trans H1.out
        have KX := Lib.hid (HX.out.keep HB.out)
        have KY := Lib.hid (HY.out.keep HB.out)
        obtain ⟨VA, VN, VC, rfl, hVN⟩ := KRow.form HR.out
        clear hVN
        rcases hc with ⟨rfl, HZ⟩ | ⟨rfl, HZ⟩ | ⟨rfl, HZ⟩
        · go_wp2_with (first
            | (at_builtin; go_must (refine wpList_append_arg Try.underlying22 name_info rfl (by omega) nmC_size nmC_one rfl _ _ rfl rfl rfl HR.out KX.out HB.out.size (by have := HZ.out; have := HP.out; subst Z; simp only [List.length_nil]; omega) (by have := HZ.out; have := HP.out; subst Z; simp only [List.length_nil]; omega) ?_; intro v6 w6 r6 b6; have R6 := Lib.hid (show KRow nmC 1 9 w6 w.heap.size v6 X by have e := HZ.out; rw [e, List.nil_append] at r6; exact r6); have B6 := Lib.hid (HB.out.trans b6); clear r6 b6)))
          go_roundw
          case rel => exact ⟨X, R6, B6, Or.inr (Or.inl ⟨rfl, Lib.hid rfl⟩)⟩
          case measure => simp [intOf]
        · go_wp2_with (first
            | (at_builtin; go_must (refine wpList_append_arg Try.underlying22 name_info rfl (by omega) nmC_size nmC_one rfl _ _ rfl rfl rfl HR.out KY.out HB.out.size (by have := HZ.out; have := HP.out; have := HQ.out; subst Z; omega) (by have := HZ.out; have := HP.out; have := HQ.out; subst Z; omega) ?_; intro v6 w6 r6 b6; have R6 := Lib.hid (show KRow nmC 1 9 w6 w.heap.size v6 (X ++ Y) by have e := HZ.out; rw [e] at r6; exact r6); have B6 := Lib.hid (HB.out.trans b6); clear r6 b6)))
          go_roundw
          case rel => exact ⟨X ++ Y, R6, B6, Or.inr (Or.inr ⟨rfl, Lib.hid rfl⟩)⟩
          case measure => simp [intOf]
        · go_wp2
          go_returns
          exact ⟨_, rfl, by have e := HZ.out; have r := HR.out; rw [e] at r; exact r, HB.out⟩

theorem growW_any (n : Nat) (w : World) (hn : n ≤ 65536) :
    Calls Try.prog 69 #[.slice none 0 0, .int .i64 n] w fun e w' => ∃ v : Value, e = .returned v ∧ KRow slC 1 23 w' w.heap.size v [] ∧ Below w.heap.size w w' := by
  rcases Nat.eq_zero_or_pos n with h0 | h0
  · subst h0
    refine (Any8.slices_Grow_room Try.growW none 0 0 0 w (Nat.le_refl _) (by omega) (by omega) (by omega)).mono ?_
    rintro e w' ⟨rfl, rfl⟩
    exact ⟨_, rfl, KRow.nil _ _, Below.refl _ _⟩
  · obtain ⟨i0, hi0, hz0, hz1, hz2⟩ := info_parts sl_info
    have hzs : ((.slice none 0 0) : Value).cells.size = 1 := rfl
    refine (Any8.slices_Grow_grow Try.growW i0 (.slice none 0 0) hi0 hz0 (by rw [hz1]; omega) none 0 0 n [] w (Nat.le_refl _) (by omega) (by rw [hz2]; omega) (by omega) (by simp) (fun _ => rfl) (fun a h => by cases h)).mono ?_
    rintro e w' ⟨rfl, rfl⟩
    refine ⟨_, rfl, grown_row w n _ (.slice none 0 0) hzs (Nat.le_trans (by omega) (grownCap_ge w (0 + n) 0 _)) (grownCap_le_maxLen w (0 + n) 0 _ (by unfold maxLen; omega)) _ rfl, ?_⟩
    exact (Below.refl _ _).drew.alloc (Nat.le_refl _) _

set_option maxRecDepth 100000 in
set_option maxHeartbeats 4000000 in
theorem concatW_rows (X Y : List Sl) (vX vY : Value) (g : Nat) (w : World) (h0 : w.cell? ⟨g, 0, none⟩ = some vX) (h1 : w.cell? ⟨g, 1, none⟩ = some vY) (hg : g < w.heap.size) (hX : KArg slC 1 w vX X) (hY : KArg slC 1 w vY Y) (hx : X.length ≤ 4096) (hy : Y.length ≤ 4096) :
    Calls Try.prog 41 #[.slice (some ⟨g, 0, none⟩) 2 2] w fun e w' => ∃ v : Value, e = .returned v ∧ KRow slC 1 23 w' w.heap.size v (X ++ Y) ∧ Below w.heap.size w w' := by
  have HX := Lib.hid hX
  have HY := Lib.hid hY
  obtain ⟨A1, c1, rfl⟩ := hX.form
  obtain ⟨A2, c2, rfl⟩ := hY.form
  have H0 := Lib.hid h0
  have H1 := Lib.hid h1
  have HG := Lib.hid hg
  obtain ⟨p, hp⟩ : ∃ p, p = X.length := ⟨_, rfl⟩
  obtain ⟨q, hq⟩ : ∃ q, q = Y.length := ⟨_, rfl⟩
  rw [← hp] at h0 hx HX H0
  rw [← hq] at h1 hy HY H1
  have HP := Lib.hid hp
  have HQ := Lib.hid hq
  clear hp hq hX hY hg
  have e1 := IntWalk.i64_in (0 + (p : Int)) (by omega)
  have e2 := IntWalk.i64_in ((p : Int) + q) (by omega)
  have d1 : ¬ ((p : Int) < 0) := by omega
  have d2 : ¬ ((p : Int) + q < 0) := by omega
  have HGr := fun w' => growW_any (p + q) w' (by omega)
  simp only [Int.natCast_add] at HGr
  have HGr := Lib.hid HGr
  clear h0 h1
  go_enter Try.func41, Try.ntmps41
  go_wp2
  go_loop [3, 11] (fun s i => (s = .int .i64 0 ∧ i = .int .i64 0) ∨ (s = .int .i64 p ∧ i = .int .i64 1) ∨ (s = .int .i64 ((p : Int) + q) ∧ i = .int .i64 2)) (fun s i => 2 - (intOf i).toNat)
  case atStart => exact Or.inl ⟨rfl, rfl⟩
  case round =>
    rcases hrel with ⟨rfl, rfl⟩ | ⟨rfl, rfl⟩ | ⟨rfl, rfl⟩
    · have f0 := H0.out
      go_wp2
      go_round
      case rel => exact Or.inr (Or.inl ⟨by go_num, rfl⟩)
      case measure => simp [intOf]
    · have f0 := H1.out
      go_wp2
      go_round
      case rel => exact Or.inr (Or.inr ⟨by go_num, rfl⟩)
      case measure => simp [intOf]
    · go_wp2_with (first
        | (go_at_call 69; go_must (refine (HGr.out _).mono ?_; rintro e5 w5 ⟨v5, rfl, r5, b5⟩; obtain ⟨UA, UN, UC, rfl, rfl⟩ := KRow.form r5; have R5 := Lib.hid r5; have B5 := Lib.hid b5; clear r5 b5)))
      go_loopw [6, 27] (fun v i wr => ∃ Z : List Sl, Hid (KRow slC 1 23 wr w.heap.size v Z) ∧ Hid (Below w.heap.size w wr) ∧ ((i = .int .i64 0 ∧ Hid (Z = [])) ∨ (i = .int .i64 1 ∧ Hid (Z = X)) ∨ (i = .int .i64 2 ∧ Hid (Z = X ++ Y)))) (fun v i wr => 2 - (intOf i).toNat)
      case atStart => exact ⟨[], R5, B5, Or.inl ⟨rfl, Lib.hid rfl⟩⟩
      case round =>
        obtain ⟨Z, HR, HB, hc⟩ := hrel
        have f0 := (HB.out.cell (p := ⟨g, 0, none⟩) HG.out).trans H0.out
        have f1 := (HB.out.cell (p := ⟨g, 1, none⟩) HG.out).trans H1.out
        have KX := Lib.hid (HX.out.keep HB.out)
        have KY := Lib.hid (HY.out.keep HB.out)
        obtain ⟨VA, VN, VC, rfl, hVN⟩ := KRow.form HR.out
        clear hVN
        rcases hc with ⟨rfl, HZ⟩ | ⟨rfl, HZ⟩ | ⟨rfl, HZ⟩
        · go_wp2_with (first
            | (at_builtin; go_must (refine wpList_append_arg Try.underlying51 sl_info rfl (by omega) slC_size slC_one rfl _ _ rfl rfl rfl HR.out KX.out HB.out.size (by have := HZ.out; have := HP.out; subst Z; simp only [List.length_nil]; omega) (by have := HZ.out; have := HP.out; subst Z; simp only [List.length_nil]; omega) ?_; intro v6 w6 r6 b6; have R6 := Lib.hid (show KRow slC 1 23 w6 w.heap.size v6 X by have e := HZ.out; rw [e, List.nil_append] at r6; exact r6); have B6 := Lib.hid (HB.out.trans b6); clear r6 b6)))
          go_roundw
          case rel => exact ⟨X, R6, B6, Or.inr (Or.inl ⟨rfl, Lib.hid rfl⟩)⟩
          case measure => simp [intOf]
        · go_wp2_with (first
            | (at_builtin; go_must (refine wpList_append_arg Try.underlying51 sl_info rfl (by omega) slC_size slC_one rfl _ _ rfl rfl rfl HR.out KY.out HB.out.size (by have := HZ.out; have := HP.out; have := HQ.out; subst Z; omega) (by have := HZ.out; have := HP.out; have := HQ.out; subst Z; omega) ?_; intro v6 w6 r6 b6; have R6 := Lib.hid (show KRow slC 1 23 w6 w.heap.size v6 (X ++ Y) by have e := HZ.out; rw [e] at r6; exact r6); have B6 := Lib.hid (HB.out.trans b6); clear r6 b6)))
          go_roundw
          case rel => exact ⟨X ++ Y, R6, B6, Or.inr (Or.inr ⟨rfl, Lib.hid rfl⟩)⟩
          case measure => simp [intOf]
        · go_wp2
          go_returns
          exact ⟨_, rfl, by have e := HZ.out; have r := HR.out; rw [e] at r; exact r, HB.out⟩

theorem concatW_any (ws us : List (List Rn)) (vX vY : Value) (g : Nat) (w : World) (h0 : w.cell? ⟨g, 0, none⟩ = some vX) (h1 : w.cell? ⟨g, 1, none⟩ = some vY) (hg : g < w.heap.size) (hX : WvArg w vX ws) (hY : WvArg w vY us) (hx : ws.length ≤ 4096) (hy : us.length ≤ 4096) :
    Calls Try.prog 41 #[.slice (some ⟨g, 0, none⟩) 2 2] w fun e w' => ∃ v : Value, e = .returned v ∧ WvArg w' v (ws ++ us) ∧ Below w.heap.size w w' := by
  obtain ⟨S, s1, s2, s3⟩ := hX
  obtain ⟨U, u1, u2, u3⟩ := hY
  refine (concatW_rows S U vX vY g w h0 h1 hg s1 u1 (by omega) (by omega)).mono ?_
  rintro e w' ⟨v, rfl, r, b⟩
  refine ⟨v, rfl, ⟨S ++ U, KRow.arg slC_size r, by simp [s2, u2], fun i h h' => ?_⟩, b⟩
  by_cases hi : i < ws.length
  · rw [List.getElem_append_left hi, List.getElem_append_left (by omega)]
    exact (s3 i hi (by omega)).keep b
  · rw [List.getElem_append_right (by omega), List.getElem_append_right (by omega)]
    simp only [s2]
    exact (u3 (i - ws.length) (by simp only [List.length_append] at h; omega) (by simp only [List.length_append] at h; omega)).keep b
theorem concatN_any (A B : List ByteArray) (vX vY : Value) (g : Nat) (w : World) (h0 : w.cell? ⟨g, 0, none⟩ = some vX) (h1 : w.cell? ⟨g, 1, none⟩ = some vY) (hg : g < w.heap.size) (hX : NmArg w vX A) (hY : NmArg w vY B) (hx : A.length ≤ 4096) (hy : B.length ≤ 4096) :
    Calls Try.prog 39 #[.slice (some ⟨g, 0, none⟩) 2 2] w fun e w' => ∃ v : Value, e = .returned v ∧ NmRow w' w.heap.size v (A ++ B) ∧ Below w.heap.size w w' := concatN_rows A B vX vY g w h0 h1 hg hX.1 hY.1 hx hy
end Go.Proofs.Yteccafndplaklaa

namespace Go.Proofs.Yteccafndplaklaa
open Go Go.RowKit Go.Joins
set_option linter.unusedVariables false
set_option linter.unusedSimpArgs false

theorem rn_nil (w : World) : RnArg w (.slice none 0 0) [] := KRow.arg (T := 48) rnC_size (KRow.nil w 0)
theorem nm_nil (w : World) : NmArg w (.slice none 0 0) [] := KRow.name (KRow.nil w 0)
set_option maxRecDepth 100000 in
set_option maxHeartbeats 8000000 in
theorem select_any (N : List ByteArray) (R : List Rn) (M : List ByteArray) (vN vR vM : Value) (w : World) (hN : NmArg w vN N) (hs : szs N) (hR : RnArg w vR R) (hn : R.length ≤ 16000) (hM : NmArg w vM M) (hsM : szs M) (hm : M.length ≤ 4096) (hnn : N.length ≤ 4096) :
    Calls Try.prog 12 #[.agg #[vN, vR], vM] w fun e w' => ∃ v1 v2 : Value, e = .returned (.tuple #[.agg #[v1, v2], .int .i64 (seE N R M)]) ∧ NmArg w' v1 (seN N R M) ∧ RnArg w' v2 (seR N R M) ∧ Below w.heap.size w w' := by
  have HK := Lib.hid (fun w' (hb : Below w.heap.size w w') => check_any N R vN vR w' (hN.keep hb) hs (hR.keep hb) (by omega))
  have HS := Lib.hid (fun w' (hb : Below w.heap.size w w') => checkSelected_any N M vN vM w' (hN.keep hb) (hM.keep hb) hsM (by omega) (by omega))
  have HW := Lib.hid (fun w' (hb : Below w.heap.size w w') => waves_any N R M vN vR vM w' (hN.keep hb) hs (hR.keep hb) (by omega) (hM.keep hb) (by omega))
  have HB := Lib.hid (fun ws V w' (hb : Below w.heap.size w w') hW hsl => build_any M ws vM V w' (hM.keep hb) hsM hW hsl)
  obtain ⟨A1, c1, rfl, _⟩ := hN.form
  obtain ⟨A2, c2, rfl⟩ := hR.form
  obtain ⟨A3, c3, rfl, _⟩ := hM.form
  have B0 := Lib.hid ((ba w (.cells #[.slice A1 N.length c1, .slice A2 R.length c2] 25)).alloc (ba w _).size (.cells #[.slice none 0 0, .slice none 0 0] 25))
  have P0 := Lib.hid ((RowAt.new w 25 #[.slice A1 N.length c1, .slice A2 R.length c2]).alloc (.cells #[.slice none 0 0, .slice none 0 0] 25))
  have Q0' := RowAt.new (w.alloc (.cells #[.slice A1 N.length c1, .slice A2 R.length c2] 25)) 25 #[.slice none 0 0, .slice none 0 0]
  rw [World.size_alloc] at Q0'
  have Q0 := Lib.hid Q0'
  clear Q0' hN hR hM hs hsM
  by_cases hz : ckC N R = 0
  · by_cases hy : ckS N M = 0
    · have he : seE N R M = 0 := by rw [se_s hz]; exact hy
      obtain ⟨q1, q2, q3⟩ := se_build he
      have hM16 : M.length ≤ 16 := (ckN_ok (ckS_ok (ckC_ok hz).2.1 hy).1).2.1
      have q4 : ((M.length : Int)) * (R.length : Int) ≤ 16 * 16000 := Int.mul_le_mul (by omega) (by omega) (by omega) (by omega)
      have HBB := Lib.hid (show ∀ V w', Below w.heap.size w w' → WvArg w' V (wvs N R M) → Calls Try.prog 28 #[.slice A3 M.length c3, V] w' fun e w'' => ∃ v1 v2 : Value, e = .returned (.tuple #[.agg #[v1, v2], .int .i64 0]) ∧ NmRow w'' w'.heap.size v1 (seN N R M) ∧ RnRow w'' w'.heap.size v2 (seR N R M) ∧ Below w'.heap.size w' w'' by
        intro V w' hb hW
        refine (HB.out _ V w' hb hW (fun _ _ => by omega)).mono ?_
        rintro e w'' ⟨v1, v2, N', out, rfl, hBd, b⟩
        rw [q1]
        obtain ⟨x1, x2, x3, _, _⟩ := hBd
        obtain ⟨y1, y2⟩ := x3 q1
        refine ⟨v1, v2, rfl, ?_, ?_, b⟩
        · rw [seN_0 he, ← y1]; exact x1
        · rw [← q3 out y2]; exact x2)
      have HE := Lib.hid he
      rw [hz] at HK
      rw [hy] at HS
      clear hz hy he q1 q2 q3 q4 HB hM16
      have g0 := P0.out.cell 0
      have g1 := P0.out.cell 1
      go_enter Try.func12, Try.ntmps12
      go_wp2_with (first
        | (go_at_call 24; go_must (refine (HK.out _ B0.out).mono ?_; rintro e1 w1 ⟨rfl, b1⟩; have B1 := Lib.hid (B0.out.trans (b1.mono B0.out.size)); have P1 := Lib.hid (P0.out.keep b1); have Q1 := Lib.hid (Q0.out.keep b1); have g0 := P1.out.cell 0; have g1 := P1.out.cell 1; clear b1))
        | (go_at_call 27; go_must (refine (HS.out _ B1.out).mono ?_; rintro e2 w2 ⟨rfl, b2⟩; have B2 := Lib.hid (B1.out.trans (b2.mono B1.out.size)); have P2 := Lib.hid (P1.out.keep b2); have Q2 := Lib.hid (Q1.out.keep b2); have g0 := P2.out.cell 0; have g1 := P2.out.cell 1; clear b2))
        | (go_at_call 29; go_must (refine (HW.out _ B2.out).mono ?_; rintro e3 w3 ⟨v3, rfl, r3, b3⟩; have R3 := Lib.hid r3.arg; have B3 := Lib.hid (B2.out.trans (b3.mono B2.out.size)); have P3 := Lib.hid (P2.out.keep b3); have Q3 := Lib.hid (Q2.out.keep b3); clear r3 b3 g0 g1))
        | (go_at_call 28; go_must (refine (HBB.out _ _ B3.out R3.out).mono ?_; rintro e4 w4 ⟨v1, v2, rfl, r1, r2, b4⟩; obtain ⟨UA, UN, UC, rfl, hUN⟩ := KRow.form r1; obtain ⟨VA, VN, VC, rfl, hVN⟩ := KRow.form r2; clear hUN hVN; have s3 : w.heap.size + 2 ≤ w3.heap.size := Q3.out.lt; have R4 := Lib.hid (KRow.mono r1 s3); have R5 := Lib.hid (KRow.mono r2 s3); have B4 := Lib.hid (B3.out.trans (b4.mono B3.out.size)); have Q4 := Lib.hid (Q3.out.keep b4); have k0 := Q4.out.cell 0; have k1 := Q4.out.cell 1; have z0 := Q4.out.frozen 0; have z1 := Q4.out.frozen 1; clear r1 r2 b4)))
      have e0 := (two_set (v0 := .slice UA UN UC) (v1 := .slice VA VN VC) k0 k1).1
      have e1 := (two_set (v0 := .slice UA UN UC) (v1 := .slice VA VN VC) k0 k1).2
      refine bodyPost_ret (v := .tuple #[.agg #[.slice UA UN UC, .slice VA VN VC], .int .i64 0]) (by simp [results, Try.results12, go_sem, e0, e1]) rfl ⟨_, _, by rw [HE.out], KRow.name (KRow.set2 R4.out (Nat.lt_succ_self _) _ _), KRow.arg rnC_size (KRow.set2 R5.out (Nat.lt_succ_self _) _ _), Below.setCell (Below.setCell B4.out (Nat.le_succ _) _) (Nat.le_succ _) _⟩
    · have he : seE N R M = ckS N M := se_s hz
      have hne : ¬ seE N R M = 0 := by rw [he]; exact hy
      have HN0 := Lib.hid (seN_no hne)
      have HR0 := Lib.hid (seR_no hne)
      have HE := Lib.hid he
      have hyz : (ckS N M == 0) = false := by simpa using hy
      rw [hz] at HK
      clear hz he hne HB HW
      generalize ckS N M = r at *
      clear hy
      have g0 := P0.out.cell 0
      have g1 := P0.out.cell 1
      go_enter Try.func12, Try.ntmps12
      go_wp2_with (first
        | (go_at_call 24; go_must (refine (HK.out _ B0.out).mono ?_; rintro e1 w1 ⟨rfl, b1⟩; have B1 := Lib.hid (B0.out.trans (b1.mono B0.out.size)); have P1 := Lib.hid (P0.out.keep b1); have Q1 := Lib.hid (Q0.out.keep b1); have g0 := P1.out.cell 0; have g1 := P1.out.cell 1; clear b1))
        | (go_at_call 27; go_must (refine (HS.out _ B1.out).mono ?_; rintro e2 w2 ⟨rfl, b2⟩; have B2 := Lib.hid (B1.out.trans (b2.mono B1.out.size)); have Q2 := Lib.hid (Q1.out.keep b2); have k0 := Q2.out.cell 0; have k1 := Q2.out.cell 1; have z0 := Q2.out.frozen 0; have z1 := Q2.out.frozen 1; clear b2)))
      have e0 := (two_set (v0 := .slice none 0 0) (v1 := .slice none 0 0) k0 k1).1
      have e1 := (two_set (v0 := .slice none 0 0) (v1 := .slice none 0 0) k0 k1).2
      refine bodyPost_ret (v := .tuple #[.agg #[.slice none 0 0, .slice none 0 0], .int .i64 r]) (by simp [results, Try.results12, go_sem, e0, e1]) rfl ⟨_, _, by rw [HE.out], by rw [HN0.out]; exact nm_nil _, by rw [HR0.out]; exact rn_nil _, Below.setCell (Below.setCell B2.out (Nat.le_succ _) _) (Nat.le_succ _) _⟩
  · have he : seE N R M = ckC N R := se_c hz
    have hne : ¬ seE N R M = 0 := by rw [he]; exact hz
    have HN0 := Lib.hid (seN_no hne)
    have HR0 := Lib.hid (seR_no hne)
    have HE := Lib.hid he
    have hyz : (ckC N R == 0) = false := by simpa using hz
    clear he hne HB HW HS
    generalize ckC N R = r at *
    clear hz
    have g0 := P0.out.cell 0
    have g1 := P0.out.cell 1
    go_enter Try.func12, Try.ntmps12
    go_wp2_with (first
      | (go_at_call 24; go_must (refine (HK.out _ B0.out).mono ?_; rintro e1 w1 ⟨rfl, b1⟩; have B1 := Lib.hid (B0.out.trans (b1.mono B0.out.size)); have Q1 := Lib.hid (Q0.out.keep b1); have k0 := Q1.out.cell 0; have k1 := Q1.out.cell 1; have z0 := Q1.out.frozen 0; have z1 := Q1.out.frozen 1; clear b1)))
    have e0 := (two_set (v0 := .slice none 0 0) (v1 := .slice none 0 0) k0 k1).1
    have e1 := (two_set (v0 := .slice none 0 0) (v1 := .slice none 0 0) k0 k1).2
    refine bodyPost_ret (v := .tuple #[.agg #[.slice none 0 0, .slice none 0 0], .int .i64 r]) (by simp [results, Try.results12, go_sem, e0, e1]) rfl ⟨_, _, by rw [HE.out], by rw [HN0.out]; exact nm_nil _, by rw [HR0.out]; exact rn_nil _, Below.setCell (Below.setCell B1.out (Nat.le_succ _) _) (Nat.le_succ _) _⟩
end Go.Proofs.Yteccafndplaklaa

namespace Go.Proofs.Yteccafndplaklaa
open Go Go.RowKit Go.Joins
set_option linter.unusedVariables false
set_option linter.unusedSimpArgs false

theorem heldB {w W W' : World} {b : Nat} {x0 x1 : Value} (h : W.cell? ⟨b, 0, none⟩ = some x0 ∧ W.cell? ⟨b, 1, none⟩ = some x1 ∧ Below w.heap.size w W ∧ b < W.heap.size) (hb : Below W.heap.size W W') : W'.cell? ⟨b, 0, none⟩ = some x0 ∧ W'.cell? ⟨b, 1, none⟩ = some x1 ∧ Below w.heap.size w W' ∧ b < W'.heap.size := held2 h hb
set_option maxRecDepth 100000 in
set_option maxHeartbeats 8000000 in
theorem rename_any (N : List ByteArray) (R : List Rn) (o s : ByteArray) (vN vR : Value) (w : World) (hN : NmArg w vN N) (hs : szs N) (hR : RnArg w vR R) (hn : R.length ≤ 16000) (hnn : N.length ≤ 4096) (hsz : s.size ≤ 140737488351232) :
    Calls Try.prog 15 #[.agg #[vN, vR], .string o, .string s] w fun e w' => ∃ v1 v2 : Value, e = .returned (.tuple #[.agg #[v1, v2], .int .i64 (rnE N R o s)]) ∧ NmArg w' v1 (rnN N R o s) ∧ RnArg w' v2 (rnR N R o s) ∧ Below w.heap.size w w' := by
  have HK := Lib.hid (fun w' (hb : Below w.heap.size w w') => check_any N R vN vR w' (hN.keep hb) hs (hR.keep hb) (by omega))
  have HI := Lib.hid (fun w' (hb : Below w.heap.size w w') => index_any N vN o w' (hN.keep hb) (by omega))
  have HNm := Lib.hid (fun w' => show Calls Try.prog 34 #[.string s] w' fun e w'' => e = .returned (.bool (nmB s)) ∧ Below w'.heap.size w' w'' from name_any s w' (by omega))
  have HCp' := fun (h : ckC N R = 0) w' (hb : Below w.heap.size w w') => copiedC_any N R vN vR w' (hN.keep hb) (hR.keep hb) (by omega) (fun j hj => nm_small (ckC_ok h).2.2.2.2.1 j hj) (by omega)
  have HCl := Lib.hid (fun w' => clone_any s w' hsz)
  obtain ⟨A1, c1, rfl, _⟩ := hN.form
  obtain ⟨A2, c2, rfl⟩ := hR.form
  have B0 := Lib.hid ((ba w (.cells #[.slice A1 N.length c1, .slice A2 R.length c2] 25)).alloc (ba w _).size (.cells #[.slice none 0 0, .slice none 0 0] 25))
  have P0 := Lib.hid ((RowAt.new w 25 #[.slice A1 N.length c1, .slice A2 R.length c2]).alloc (.cells #[.slice none 0 0, .slice none 0 0] 25))
  have Q0' := RowAt.new (w.alloc (.cells #[.slice A1 N.length c1, .slice A2 R.length c2] 25)) 25 #[.slice none 0 0, .slice none 0 0]
  rw [World.size_alloc] at Q0'
  have Q0 := Lib.hid Q0'
  clear Q0' hN hR
  have g0 := P0.out.cell 0
  have g1 := P0.out.cell 1
  by_cases hz : ckC N R = 0
  · have hck := ckC_ok hz
    have hn0 := hck.2.2.1
    have HCp := Lib.hid (HCp' hz)
    rw [hz] at HK
    clear HCp'
    by_cases hi : ix N o < 0
    · have he := rn_8 (s := s) hz hi
      have hne : ¬ rnE N R o s = 0 := by rw [he]; exact by decide
      have HN0 := Lib.hid (rnN_no hne)
      have HR0 := Lib.hid (rnR_no hne)
      have HE := Lib.hid he
      clear hne he
      clear hz hck HCp HCl HNm
      generalize ix N o = i at *
      go_enter Try.func15, Try.ntmps15
      go_wp2_with (first
        | (go_at_call 24; go_must (refine (HK.out _ B0.out).mono ?_; rintro e1 w1 ⟨rfl, b1⟩; have B1 := Lib.hid (B0.out.trans (b1.mono B0.out.size)); have P1 := Lib.hid (P0.out.keep b1); have Q1 := Lib.hid (Q0.out.keep b1); have g0 := P1.out.cell 0; have g1 := P1.out.cell 1; have k0 := Q1.out.cell 0; have k1 := Q1.out.cell 1; have z0 := Q1.out.frozen 0; have z1 := Q1.out.frozen 1; clear b1))
        | (go_at_call 33; go_must (refine (HI.out _ B1.out).mono ?_; rintro e2 w2 ⟨rfl, rfl⟩)))
      have e0 := (two_set (v0 := .slice none 0 0) (v1 := .slice none 0 0) k0 k1).1
      have e1 := (two_set (v0 := .slice none 0 0) (v1 := .slice none 0 0) k0 k1).2
      refine bodyPost_ret (v := .tuple #[.agg #[.slice none 0 0, .slice none 0 0], .int .i64 8]) (by simp [results, Try.results15, go_sem, e0, e1]) rfl ⟨_, _, by rw [HE.out], by rw [HN0.out]; exact nm_nil _, by rw [HR0.out]; exact rn_nil _, Below.setCell (Below.setCell B1.out (Nat.le_succ _) _) (Nat.le_succ _) _⟩
    · cases hnm : nmB s with
      | false =>
        have he := rn_4 hz hi hnm
        have hne : ¬ rnE N R o s = 0 := by rw [he]; exact by decide
        have HN0 := Lib.hid (rnN_no hne)
        have HR0 := Lib.hid (rnR_no hne)
        have HE := Lib.hid he
        clear hne he
        rw [hnm] at HNm
        have hi' : ¬ ix N o < 0 := hi
        clear hz hck HCp HCl hi
        generalize ix N o = i at *
        go_enter Try.func15, Try.ntmps15
        go_wp2_with (first
          | (go_at_call 24; go_must (refine (HK.out _ B0.out).mono ?_; rintro e1 w1 ⟨rfl, b1⟩; have B1 := Lib.hid (B0.out.trans (b1.mono B0.out.size)); have P1 := Lib.hid (P0.out.keep b1); have Q1 := Lib.hid (Q0.out.keep b1); have g0 := P1.out.cell 0; have g1 := P1.out.cell 1; have k0 := Q1.out.cell 0; have k1 := Q1.out.cell 1; have z0 := Q1.out.frozen 0; have z1 := Q1.out.frozen 1; clear b1))
          | (go_at_call 33; go_must (refine (HI.out _ B1.out).mono ?_; rintro e2 w2 ⟨rfl, rfl⟩))
          | (go_at_call 34; go_must (refine (HNm.out _).mono ?_; rintro e3 w3 ⟨rfl, b3⟩; have B3 := Lib.hid (B1.out.trans (b3.mono B1.out.size)); have P3 := Lib.hid (P1.out.keep b3); have QQ := Lib.hid (Q1.out.keep b3); have g0 := P3.out.cell 0; have g1 := P3.out.cell 1; have k0 := QQ.out.cell 0; have k1 := QQ.out.cell 1; have z0 := QQ.out.frozen 0; have z1 := QQ.out.frozen 1; clear b3)))
        have e0 := (two_set (v0 := .slice none 0 0) (v1 := .slice none 0 0) k0 k1).1
        have e1 := (two_set (v0 := .slice none 0 0) (v1 := .slice none 0 0) k0 k1).2
        refine bodyPost_ret (v := .tuple #[.agg #[.slice none 0 0, .slice none 0 0], .int .i64 4]) (by simp [results, Try.results15, go_sem, e0, e1]) rfl ⟨_, _, by rw [HE.out], by rw [HN0.out]; exact nm_nil _, by rw [HR0.out]; exact rn_nil _, Below.setCell (Below.setCell B3.out (Nat.le_succ _) _) (Nat.le_succ _) _⟩
      | true =>
        rw [hnm] at HNm
        obtain ⟨j, hj, ej, _⟩ := ix_at (show 0 ≤ ix N o by omega)
        have HTW := Lib.hid (rn_twice (s := s) hck.2.1 (show 0 ≤ ix N o by omega))
        have eN : ixN N o = j := by unfold ixN; rw [ej]; rfl
        rw [eN] at HTW
        have HSet := Lib.hid (show szs (N.set j s) from fun x hx => by
          rcases List.mem_or_eq_of_mem_set hx with h | h
          · exact hs x h
          · subst h; omega)
        have HAny := Lib.hid (fun V w' (h : NmArg w' V (N.set j s)) => anyTwice_any (N.set j s) V w' h HSet.out (by rw [List.length_set]; omega))
        have hjn : (j : Int) < (N.length : Int) := by omega
        by_cases hd : 0 ≤ ix N s ∧ ix N s ≠ ix N o
        · have he := rn_9 hz hi hnm hd
          have hne : ¬ rnE N R o s = 0 := by rw [he]; exact by decide
          have HN0 := Lib.hid (rnN_no hne)
          have HR0 := Lib.hid (rnR_no hne)
          have HE := Lib.hid he
          clear hne he
          have hD : dpT (N.set j s) (N.set j s).length = true := by rw [HTW.out]; exact decide_eq_true hd
          rw [hD] at HAny
          rw [ej] at HI
          clear hz hck hd hi hnm HTW ej hD eN
          go_enter Try.func15, Try.ntmps15
          go_wp2_with (first
            | (go_at_call 24; go_must (refine (HK.out _ B0.out).mono ?_; rintro e1 w1 ⟨rfl, b1⟩; have B1 := Lib.hid (B0.out.trans (b1.mono B0.out.size)); have P1 := Lib.hid (P0.out.keep b1); have Q1 := Lib.hid (Q0.out.keep b1); have g0 := P1.out.cell 0; have g1 := P1.out.cell 1; have k0 := Q1.out.cell 0; have k1 := Q1.out.cell 1; have z0 := Q1.out.frozen 0; have z1 := Q1.out.frozen 1; clear b1))
            | (go_at_call 33; go_must (refine (HI.out _ B1.out).mono ?_; rintro e2 w2 ⟨rfl, rfl⟩))
            | (go_at_call 34; go_must (refine (HNm.out _).mono ?_; rintro e3 w3 ⟨rfl, b3⟩; have B3 := Lib.hid (B1.out.trans (b3.mono B1.out.size)); have P3 := Lib.hid (P1.out.keep b3); have QQ := Lib.hid (Q1.out.keep b3); have g0 := P3.out.cell 0; have g1 := P3.out.cell 1; have k0 := QQ.out.cell 0; have k1 := QQ.out.cell 1; have z0 := QQ.out.frozen 0; have z1 := QQ.out.frozen 1; clear b3))
            | (go_at_call 35; go_must (refine (HCp.out _ B3.out).mono ?_; rintro e4 w4 ⟨v1, v2, rfl, r1, r2, b4⟩; obtain ⟨g, UC, rfl⟩ := KRow.full r1 hn0; obtain ⟨VA, VN, VC, rfl, rfl⟩ := KRow.form r2; have B4 := Lib.hid (B3.out.trans (b4.mono B3.out.size)); have Q4 := Lib.hid (QQ.out.keep b4); have s4 := QQ.out.lt; have R1 := Lib.hid (KRow.mono r1 (show w.heap.size + 2 ≤ _ from s4)); have R2 := Lib.hid (KRow.mono r2 (show w.heap.size + 2 ≤ _ from s4)); clear r1 r2 b4 g0 g1 k0 k1 z0 z1; have X4 := Lib.hid (RowAt.new w4 25 #[.slice (some ⟨g, 0, none⟩) N.length UC, .slice VA R.length VC]); have x0 := X4.out.cell 0; have x1 := X4.out.cell 1)))
          obtain ⟨W4, hW4⟩ : ∃ W4, W4 = w4.alloc (.cells #[.slice (some ⟨g, 0, none⟩) N.length UC, .slice VA R.length VC] 25) := ⟨_, rfl⟩
          rw [← hW4]
          rw [← hW4] at X4
          have BW := Lib.hid (show Below w.heap.size w W4 by rw [hW4]; exact B4.out.alloc B4.out.size _)
          have QW := Lib.hid (show RowAt W4 (w.heap.size + 1) 25 #[.slice none 0 0, .slice none 0 0] by rw [hW4]; exact Q4.out.alloc _)
          have R1W := Lib.hid (show NmRow W4 (w.heap.size + 2) (.slice (some ⟨g, 0, none⟩) N.length UC) N by rw [hW4]; exact KRow.alloc R1.out _)
          have R2W := Lib.hid (show RnRow W4 (w.heap.size + 2) (.slice VA R.length VC) R by rw [hW4]; exact KRow.alloc R2.out _)
          clear hW4 x0 x1 B4 Q4 R1 R2
          generalize w4.heap.size = bx at *
          have S0 := Lib.hid (show W4.drew.cell? ⟨bx, 0, none⟩ = some (.slice (some ⟨g, 0, none⟩) N.length UC) ∧ W4.drew.cell? ⟨bx, 1, none⟩ = some (.slice VA R.length VC) ∧ Below w.heap.size w W4.drew ∧ bx < W4.drew.heap.size from ⟨X4.out.cell 0, X4.out.cell 1, BW.out.drew, X4.out.lt⟩)
          have Q3 := Lib.hid (show RowAt W4.drew (w.heap.size + 1) 25 #[.slice none 0 0, .slice none 0 0] from QW.out)
          have X3 := Lib.hid (show RowAt W4.drew bx 25 #[.slice (some ⟨g, 0, none⟩) N.length UC, .slice VA R.length VC] from X4.out)
          have R13 := Lib.hid (show NmRow W4.drew (w.heap.size + 2) (.slice (some ⟨g, 0, none⟩) N.length UC) N from R1W.out)
          have R23 := Lib.hid (show RnRow W4.drew (w.heap.size + 2) (.slice VA R.length VC) R from R2W.out)
          clear X4 BW QW R1W R2W
          refine wp_region_held_drew (S := fun w' => w'.cell? ⟨bx, 0, none⟩ = some (.slice (some ⟨g, 0, none⟩) N.length UC) ∧ w'.cell? ⟨bx, 1, none⟩ = some (.slice VA R.length VC) ∧ Below w.heap.size w w' ∧ bx < w'.heap.size) (by kernel_rfl) ?_ (fun hH => ?_)
          · exact S0.out
          generalize W4.drew = WD at *
          refine wpAnyH_take (i := 0) (oi := { dst := some 30, op := Go.Op.fieldAddr 25 (Go.Operand.tmp 10) 0, type := 0, pos := "remap.go:38", after := #[], guard := none }) (v := ?_) rfl ?_ ?_ ?_ ?_ (Or.inl ⟨?_, ?_⟩) hH ?_
          rotate_left
          · kernel_rfl
          · kernel_rfl
          · kernel_rfl
          · exact fun _ _ _ h => h
          · kernel_rfl
          · intro wS hSw
            try dsimp only at hSw
            go_simp
            try with_reducible rfl
          try simp only [Act.put, List.setIfInBounds_toArray, List.set_cons_zero, List.set_cons_succ]
          refine wpAnyH_take (i := 1) (oi := { dst := some 31, op := Go.Op.load 22 (Go.Operand.tmp 30), type := 22, pos := "remap.go:38", after := #[{ on := 0, ground := Go.Ground.data }], guard := none }) (v := ?_) rfl ?_ ?_ ?_ ?_ (Or.inl ⟨?_, ?_⟩) hH ?_
          rotate_left
          · kernel_rfl
          · kernel_rfl
          · kernel_rfl
          · exact fun _ _ _ h => h
          · kernel_rfl
          · intro wS hSw
            try dsimp only at hSw
            go_simp
            try with_reducible rfl
          try simp only [Act.put, List.setIfInBounds_toArray, List.set_cons_zero, List.set_cons_succ]
          refine wpAnyH_take (i := 2) (oi := { dst := some 32, op := Go.Op.move (Go.Operand.tmp 9), type := 3, pos := "remap.go:38", after := #[], guard := none }) (v := ?_) rfl ?_ ?_ ?_ ?_ (Or.inl ⟨?_, ?_⟩) hH ?_
          rotate_left
          · kernel_rfl
          · kernel_rfl
          · kernel_rfl
          · exact fun _ _ _ h => h
          · kernel_rfl
          · intro wS hSw
            try dsimp only at hSw
            go_simp
            try with_reducible rfl
          try simp only [Act.put, List.setIfInBounds_toArray, List.set_cons_zero, List.set_cons_succ]
          refine wpAnyH_take (i := 3) (oi := { dst := some 33, op := Go.Op.move (Go.Operand.tmp 2), type := 9, pos := "remap.go:38", after := #[], guard := none }) (v := ?_) rfl ?_ ?_ ?_ ?_ (Or.inl ⟨?_, ?_⟩) hH ?_
          rotate_left
          · kernel_rfl
          · kernel_rfl
          · kernel_rfl
          · exact fun _ _ _ h => h
          · kernel_rfl
          · intro wS hSw
            try dsimp only at hSw
            go_simp
            try with_reducible rfl
          try simp only [Act.put, List.setIfInBounds_toArray, List.set_cons_zero, List.set_cons_succ]
          refine wpAnyH_ready (rs := [4]) (by kernel_rfl) (by simp) ?_
          refine AllReadyH.cons (o := { dst := some 34, op := Go.Op.call { callee := Go.Callee.value (Go.Operand.func 36), args := #[Go.Operand.tmp 33], argTypes := #[9] }, type := 9, pos := "remap.go:38", after := #[{ on := 3, ground := Go.Ground.data }], guard := none }) rfl (fun K hK => ?_) AllReadyH.nil
          · go_simp
            refine (HCl.out _).mono ?_
            rintro e5 w5 ⟨rfl, b5⟩
            try go_wp2_with fail
            have S5 := Lib.hid (heldB S0.out b5)
            have Q5 := Lib.hid (Q3.out.keep b5)
            have X5 := Lib.hid (X3.out.keep b5)
            have R15 := Lib.hid (KRow.keep R13.out b5)
            have R25 := Lib.hid (KRow.keep R23.out b5)
            have x0 := (NmRow.one R15.out j hj).1
            have z0 := (NmRow.one R15.out j hj).2
            clear b5
            refine hK.out _ _ ?_ (fun hH1 => ?_)
            · exact S5.out
            clear hK K hH
            try simp only [Act.put, List.setIfInBounds_toArray, List.set_cons_zero, List.set_cons_succ]
            refine wpAnyH_take (i := 5) (oi := { dst := some 35, op := Go.Op.indexAddr 22 (Go.Operand.tmp 31) (Go.Operand.tmp 32), type := 0, pos := "remap.go:38", after := #[{ on := 1, ground := Go.Ground.data }, { on := 2, ground := Go.Ground.data }, { on := 0, ground := Go.Ground.phase }, { on := 1, ground := Go.Ground.phase }, { on := 2, ground := Go.Ground.phase }, { on := 3, ground := Go.Ground.phase }, { on := 4, ground := Go.Ground.phase }], guard := none }) (v := ?_) rfl ?_ ?_ ?_ ?_ (Or.inl ⟨?_, ?_⟩) hH1 ?_
            rotate_left
            · kernel_rfl
            · kernel_rfl
            · kernel_rfl
            · exact fun _ _ _ h => h
            · kernel_rfl
            · intro wS hSw
              try dsimp only at hSw
              go_simp
              try with_reducible rfl
            try simp only [Act.put, List.setIfInBounds_toArray, List.set_cons_zero, List.set_cons_succ]
            refine wpAnyH_ready (rs := [6]) (by kernel_rfl) (by simp) ?_
            refine AllReadyH.cons (o := { dst := none, op := Go.Op.store 9 (Go.Operand.tmp 35) (Go.Operand.tmp 34), type := 0, pos := "remap.go:38", after := #[{ on := 5, ground := Go.Ground.data }, { on := 4, ground := Go.Ground.data }, { on := 4, ground := Go.Ground.chain }, { on := 0, ground := Go.Ground.phase }, { on := 1, ground := Go.Ground.phase }, { on := 2, ground := Go.Ground.phase }, { on := 3, ground := Go.Ground.phase }, { on := 4, ground := Go.Ground.phase }], guard := none }) rfl (fun K hK => ?_) AllReadyH.nil
            · go_simp
              have gx : ¬ g = bx := fun e => KRow.off R15.out X5.out (by decide) (by rw [e]; rfl)
              have gs := (KRow.len R15.out).2.2.1
              obtain ⟨w6, h6⟩ : ∃ w6, w6 = w5.setCell ⟨g, j, none⟩ (.string s) := ⟨_, rfl⟩
              try rw [← h6]
              have S6 := Lib.hid (show w6.cell? ⟨bx, 0, none⟩ = some (.slice (some ⟨g, 0, none⟩) N.length UC) ∧ w6.cell? ⟨bx, 1, none⟩ = some (.slice VA R.length VC) ∧ Below w.heap.size w w6 ∧ bx < w6.heap.size by rw [h6]; exact ⟨(X5.out.other _ _ gx).cell 0, (X5.out.other _ _ gx).cell 1, Below.setCell S5.out.2.2.1 (show w.heap.size ≤ g by omega) _, by rw [World.size_setCell]; exact S5.out.2.2.2⟩)
              have X6 := Lib.hid (show RowAt w6 bx 25 #[.slice (some ⟨g, 0, none⟩) N.length UC, .slice VA R.length VC] by rw [h6]; exact X5.out.other _ _ gx)
              have Q6 := Lib.hid (show RowAt w6 (w.heap.size + 1) 25 #[.slice none 0 0, .slice none 0 0] by rw [h6]; exact Q5.out.other _ _ (show g ≠ w.heap.size + 1 by omega))
              have R16 := Lib.hid (show NmRow w6 (w.heap.size + 2) (.slice (some ⟨g, 0, none⟩) N.length UC) (N.set j s) by rw [h6]; exact NmRow.set R15.out j hj s)
              have R26 := Lib.hid (show RnRow w6 (w.heap.size + 2) (.slice VA R.length VC) R by rw [h6]; exact KRow.apart (b := g) R25.out (fun q hq => heap_setCell_other _ _ _ q hq) (fun e => names_apart R25.out R15.out g rfl e.symm))
              clear h6
              refine hK.out _ _ ?_ (fun hH2 => ?_)
              · exact S6.out
              clear hK K hH1
              try simp only [Act.put, List.setIfInBounds_toArray, List.set_cons_zero, List.set_cons_succ]
              refine wpAnyH_done (by kernel_rfl) ?_ _
              have g0 := X6.out.cell 0
              have g1 := X6.out.cell 1
              clear x0 z0 gx
              go_wp2_with (first
                | (go_at_call 37; go_must (refine (HAny.out _ _ (KRow.name R16.out)).mono ?_; rintro e7 w7 ⟨rfl, b7⟩; have B7 := Lib.hid (S6.out.2.2.1.trans (b7.mono S6.out.2.2.1.size)); have Q7 := Lib.hid (Q6.out.keep b7); have X7 := Lib.hid (X6.out.keep b7); have R17 := Lib.hid (KRow.keep R16.out b7); have R27 := Lib.hid (KRow.keep R26.out b7); have g0 := X7.out.cell 0; have g1 := X7.out.cell 1; have k0 := Q7.out.cell 0; have k1 := Q7.out.cell 1; have z0 := Q7.out.frozen 0; have z1 := Q7.out.frozen 1; clear b7)))
              have e0 := (two_set (v0 := .slice none 0 0) (v1 := .slice none 0 0) k0 k1).1
              have e1 := (two_set (v0 := .slice none 0 0) (v1 := .slice none 0 0) k0 k1).2
              refine bodyPost_ret (v := .tuple #[.agg #[.slice none 0 0, .slice none 0 0], .int .i64 9]) (by simp [results, Try.results15, go_sem, e0, e1]) rfl ⟨_, _, by rw [HE.out], by rw [HN0.out]; exact nm_nil _, by rw [HR0.out]; exact rn_nil _, Below.setCell (Below.setCell B7.out (Nat.le_succ _) _) (Nat.le_succ _) _⟩
        · have he := rn_0 hz hi hnm hd
          have HN0 := Lib.hid (show rnN N R o s = N.set j s by rw [rnN_0 he, eN])
          have HR0 := Lib.hid (rnR_0 he)
          have HE := Lib.hid he
          have hD : dpT (N.set j s) (N.set j s).length = false := by rw [HTW.out]; exact decide_eq_false hd
          rw [hD] at HAny
          rw [ej] at HI
          clear hz hck hd hi hnm HTW ej hD eN he
          go_enter Try.func15, Try.ntmps15
          go_wp2_with (first
            | (go_at_call 24; go_must (refine (HK.out _ B0.out).mono ?_; rintro e1 w1 ⟨rfl, b1⟩; have B1 := Lib.hid (B0.out.trans (b1.mono B0.out.size)); have P1 := Lib.hid (P0.out.keep b1); have Q1 := Lib.hid (Q0.out.keep b1); have g0 := P1.out.cell 0; have g1 := P1.out.cell 1; have k0 := Q1.out.cell 0; have k1 := Q1.out.cell 1; have z0 := Q1.out.frozen 0; have z1 := Q1.out.frozen 1; clear b1))
            | (go_at_call 33; go_must (refine (HI.out _ B1.out).mono ?_; rintro e2 w2 ⟨rfl, rfl⟩))
            | (go_at_call 34; go_must (refine (HNm.out _).mono ?_; rintro e3 w3 ⟨rfl, b3⟩; have B3 := Lib.hid (B1.out.trans (b3.mono B1.out.size)); have P3 := Lib.hid (P1.out.keep b3); have QQ := Lib.hid (Q1.out.keep b3); have g0 := P3.out.cell 0; have g1 := P3.out.cell 1; have k0 := QQ.out.cell 0; have k1 := QQ.out.cell 1; have z0 := QQ.out.frozen 0; have z1 := QQ.out.frozen 1; clear b3))
            | (go_at_call 35; go_must (refine (HCp.out _ B3.out).mono ?_; rintro e4 w4 ⟨v1, v2, rfl, r1, r2, b4⟩; obtain ⟨g, UC, rfl⟩ := KRow.full r1 hn0; obtain ⟨VA, VN, VC, rfl, rfl⟩ := KRow.form r2; have B4 := Lib.hid (B3.out.trans (b4.mono B3.out.size)); have Q4 := Lib.hid (QQ.out.keep b4); have s4 := QQ.out.lt; have R1 := Lib.hid (KRow.mono r1 (show w.heap.size + 2 ≤ _ from s4)); have R2 := Lib.hid (KRow.mono r2 (show w.heap.size + 2 ≤ _ from s4)); clear r1 r2 b4 g0 g1 k0 k1 z0 z1; have X4 := Lib.hid (RowAt.new w4 25 #[.slice (some ⟨g, 0, none⟩) N.length UC, .slice VA R.length VC]); have x0 := X4.out.cell 0; have x1 := X4.out.cell 1)))
          obtain ⟨W4, hW4⟩ : ∃ W4, W4 = w4.alloc (.cells #[.slice (some ⟨g, 0, none⟩) N.length UC, .slice VA R.length VC] 25) := ⟨_, rfl⟩
          rw [← hW4]
          rw [← hW4] at X4
          have BW := Lib.hid (show Below w.heap.size w W4 by rw [hW4]; exact B4.out.alloc B4.out.size _)
          have QW := Lib.hid (show RowAt W4 (w.heap.size + 1) 25 #[.slice none 0 0, .slice none 0 0] by rw [hW4]; exact Q4.out.alloc _)
          have R1W := Lib.hid (show NmRow W4 (w.heap.size + 2) (.slice (some ⟨g, 0, none⟩) N.length UC) N by rw [hW4]; exact KRow.alloc R1.out _)
          have R2W := Lib.hid (show RnRow W4 (w.heap.size + 2) (.slice VA R.length VC) R by rw [hW4]; exact KRow.alloc R2.out _)
          clear hW4 x0 x1 B4 Q4 R1 R2
          generalize w4.heap.size = bx at *
          have S0 := Lib.hid (show W4.drew.cell? ⟨bx, 0, none⟩ = some (.slice (some ⟨g, 0, none⟩) N.length UC) ∧ W4.drew.cell? ⟨bx, 1, none⟩ = some (.slice VA R.length VC) ∧ Below w.heap.size w W4.drew ∧ bx < W4.drew.heap.size from ⟨X4.out.cell 0, X4.out.cell 1, BW.out.drew, X4.out.lt⟩)
          have Q3 := Lib.hid (show RowAt W4.drew (w.heap.size + 1) 25 #[.slice none 0 0, .slice none 0 0] from QW.out)
          have X3 := Lib.hid (show RowAt W4.drew bx 25 #[.slice (some ⟨g, 0, none⟩) N.length UC, .slice VA R.length VC] from X4.out)
          have R13 := Lib.hid (show NmRow W4.drew (w.heap.size + 2) (.slice (some ⟨g, 0, none⟩) N.length UC) N from R1W.out)
          have R23 := Lib.hid (show RnRow W4.drew (w.heap.size + 2) (.slice VA R.length VC) R from R2W.out)
          clear X4 BW QW R1W R2W
          refine wp_region_held_drew (S := fun w' => w'.cell? ⟨bx, 0, none⟩ = some (.slice (some ⟨g, 0, none⟩) N.length UC) ∧ w'.cell? ⟨bx, 1, none⟩ = some (.slice VA R.length VC) ∧ Below w.heap.size w w' ∧ bx < w'.heap.size) (by kernel_rfl) ?_ (fun hH => ?_)
          · exact S0.out
          generalize W4.drew = WD at *
          refine wpAnyH_take (i := 0) (oi := { dst := some 30, op := Go.Op.fieldAddr 25 (Go.Operand.tmp 10) 0, type := 0, pos := "remap.go:38", after := #[], guard := none }) (v := ?_) rfl ?_ ?_ ?_ ?_ (Or.inl ⟨?_, ?_⟩) hH ?_
          rotate_left
          · kernel_rfl
          · kernel_rfl
          · kernel_rfl
          · exact fun _ _ _ h => h
          · kernel_rfl
          · intro wS hSw
            try dsimp only at hSw
            go_simp
            try with_reducible rfl
          try simp only [Act.put, List.setIfInBounds_toArray, List.set_cons_zero, List.set_cons_succ]
          refine wpAnyH_take (i := 1) (oi := { dst := some 31, op := Go.Op.load 22 (Go.Operand.tmp 30), type := 22, pos := "remap.go:38", after := #[{ on := 0, ground := Go.Ground.data }], guard := none }) (v := ?_) rfl ?_ ?_ ?_ ?_ (Or.inl ⟨?_, ?_⟩) hH ?_
          rotate_left
          · kernel_rfl
          · kernel_rfl
          · kernel_rfl
          · exact fun _ _ _ h => h
          · kernel_rfl
          · intro wS hSw
            try dsimp only at hSw
            go_simp
            try with_reducible rfl
          try simp only [Act.put, List.setIfInBounds_toArray, List.set_cons_zero, List.set_cons_succ]
          refine wpAnyH_take (i := 2) (oi := { dst := some 32, op := Go.Op.move (Go.Operand.tmp 9), type := 3, pos := "remap.go:38", after := #[], guard := none }) (v := ?_) rfl ?_ ?_ ?_ ?_ (Or.inl ⟨?_, ?_⟩) hH ?_
          rotate_left
          · kernel_rfl
          · kernel_rfl
          · kernel_rfl
          · exact fun _ _ _ h => h
          · kernel_rfl
          · intro wS hSw
            try dsimp only at hSw
            go_simp
            try with_reducible rfl
          try simp only [Act.put, List.setIfInBounds_toArray, List.set_cons_zero, List.set_cons_succ]
          refine wpAnyH_take (i := 3) (oi := { dst := some 33, op := Go.Op.move (Go.Operand.tmp 2), type := 9, pos := "remap.go:38", after := #[], guard := none }) (v := ?_) rfl ?_ ?_ ?_ ?_ (Or.inl ⟨?_, ?_⟩) hH ?_
          rotate_left
          · kernel_rfl
          · kernel_rfl
          · kernel_rfl
          · exact fun _ _ _ h => h
          · kernel_rfl
          · intro wS hSw
            try dsimp only at hSw
            go_simp
            try with_reducible rfl
          try simp only [Act.put, List.setIfInBounds_toArray, List.set_cons_zero, List.set_cons_succ]
          refine wpAnyH_ready (rs := [4]) (by kernel_rfl) (by simp) ?_
          refine AllReadyH.cons (o := { dst := some 34, op := Go.Op.call { callee := Go.Callee.value (Go.Operand.func 36), args := #[Go.Operand.tmp 33], argTypes := #[9] }, type := 9, pos := "remap.go:38", after := #[{ on := 3, ground := Go.Ground.data }], guard := none }) rfl (fun K hK => ?_) AllReadyH.nil
          · go_simp
            refine (HCl.out _).mono ?_
            rintro e5 w5 ⟨rfl, b5⟩
            try go_wp2_with fail
            have S5 := Lib.hid (heldB S0.out b5)
            have Q5 := Lib.hid (Q3.out.keep b5)
            have X5 := Lib.hid (X3.out.keep b5)
            have R15 := Lib.hid (KRow.keep R13.out b5)
            have R25 := Lib.hid (KRow.keep R23.out b5)
            have x0 := (NmRow.one R15.out j hj).1
            have z0 := (NmRow.one R15.out j hj).2
            clear b5
            refine hK.out _ _ ?_ (fun hH3 => ?_)
            · exact S5.out
            clear hK K hH
            try simp only [Act.put, List.setIfInBounds_toArray, List.set_cons_zero, List.set_cons_succ]
            refine wpAnyH_take (i := 5) (oi := { dst := some 35, op := Go.Op.indexAddr 22 (Go.Operand.tmp 31) (Go.Operand.tmp 32), type := 0, pos := "remap.go:38", after := #[{ on := 1, ground := Go.Ground.data }, { on := 2, ground := Go.Ground.data }, { on := 0, ground := Go.Ground.phase }, { on := 1, ground := Go.Ground.phase }, { on := 2, ground := Go.Ground.phase }, { on := 3, ground := Go.Ground.phase }, { on := 4, ground := Go.Ground.phase }], guard := none }) (v := ?_) rfl ?_ ?_ ?_ ?_ (Or.inl ⟨?_, ?_⟩) hH3 ?_
            rotate_left
            · kernel_rfl
            · kernel_rfl
            · kernel_rfl
            · exact fun _ _ _ h => h
            · kernel_rfl
            · intro wS hSw
              try dsimp only at hSw
              go_simp
              try with_reducible rfl
            try simp only [Act.put, List.setIfInBounds_toArray, List.set_cons_zero, List.set_cons_succ]
            refine wpAnyH_ready (rs := [6]) (by kernel_rfl) (by simp) ?_
            refine AllReadyH.cons (o := { dst := none, op := Go.Op.store 9 (Go.Operand.tmp 35) (Go.Operand.tmp 34), type := 0, pos := "remap.go:38", after := #[{ on := 5, ground := Go.Ground.data }, { on := 4, ground := Go.Ground.data }, { on := 4, ground := Go.Ground.chain }, { on := 0, ground := Go.Ground.phase }, { on := 1, ground := Go.Ground.phase }, { on := 2, ground := Go.Ground.phase }, { on := 3, ground := Go.Ground.phase }, { on := 4, ground := Go.Ground.phase }], guard := none }) rfl (fun K hK => ?_) AllReadyH.nil
            · go_simp
              have gx : ¬ g = bx := fun e => KRow.off R15.out X5.out (by decide) (by rw [e]; rfl)
              have gs := (KRow.len R15.out).2.2.1
              obtain ⟨w6, h6⟩ : ∃ w6, w6 = w5.setCell ⟨g, j, none⟩ (.string s) := ⟨_, rfl⟩
              try rw [← h6]
              have S6 := Lib.hid (show w6.cell? ⟨bx, 0, none⟩ = some (.slice (some ⟨g, 0, none⟩) N.length UC) ∧ w6.cell? ⟨bx, 1, none⟩ = some (.slice VA R.length VC) ∧ Below w.heap.size w w6 ∧ bx < w6.heap.size by rw [h6]; exact ⟨(X5.out.other _ _ gx).cell 0, (X5.out.other _ _ gx).cell 1, Below.setCell S5.out.2.2.1 (show w.heap.size ≤ g by omega) _, by rw [World.size_setCell]; exact S5.out.2.2.2⟩)
              have X6 := Lib.hid (show RowAt w6 bx 25 #[.slice (some ⟨g, 0, none⟩) N.length UC, .slice VA R.length VC] by rw [h6]; exact X5.out.other _ _ gx)
              have Q6 := Lib.hid (show RowAt w6 (w.heap.size + 1) 25 #[.slice none 0 0, .slice none 0 0] by rw [h6]; exact Q5.out.other _ _ (show g ≠ w.heap.size + 1 by omega))
              have R16 := Lib.hid (show NmRow w6 (w.heap.size + 2) (.slice (some ⟨g, 0, none⟩) N.length UC) (N.set j s) by rw [h6]; exact NmRow.set R15.out j hj s)
              have R26 := Lib.hid (show RnRow w6 (w.heap.size + 2) (.slice VA R.length VC) R by rw [h6]; exact KRow.apart (b := g) R25.out (fun q hq => heap_setCell_other _ _ _ q hq) (fun e => names_apart R25.out R15.out g rfl e.symm))
              clear h6
              refine hK.out _ _ ?_ (fun hH4 => ?_)
              · exact S6.out
              clear hK K hH3
              try simp only [Act.put, List.setIfInBounds_toArray, List.set_cons_zero, List.set_cons_succ]
              refine wpAnyH_done (by kernel_rfl) ?_ _
              have g0 := X6.out.cell 0
              have g1 := X6.out.cell 1
              clear x0 z0 gx
              go_wp2_with (first
                | (go_at_call 37; go_must (refine (HAny.out _ _ (KRow.name R16.out)).mono ?_; rintro e7 w7 ⟨rfl, b7⟩; have B7 := Lib.hid (S6.out.2.2.1.trans (b7.mono S6.out.2.2.1.size)); have Q7 := Lib.hid (Q6.out.keep b7); have X7 := Lib.hid (X6.out.keep b7); have R17 := Lib.hid (KRow.keep R16.out b7); have R27 := Lib.hid (KRow.keep R26.out b7); have g0 := X7.out.cell 0; have g1 := X7.out.cell 1; have k0 := Q7.out.cell 0; have k1 := Q7.out.cell 1; have z0 := Q7.out.frozen 0; have z1 := Q7.out.frozen 1; clear b7)))
              have e0 := (two_set (v0 := .slice (some ⟨g, 0, none⟩) N.length UC) (v1 := .slice VA R.length VC) k0 k1).1
              have e1 := (two_set (v0 := .slice (some ⟨g, 0, none⟩) N.length UC) (v1 := .slice VA R.length VC) k0 k1).2
              refine bodyPost_ret (v := .tuple #[.agg #[.slice (some ⟨g, 0, none⟩) N.length UC, .slice VA R.length VC], .int .i64 0]) (by simp [results, Try.results15, go_sem, e0, e1]) rfl ⟨_, _, by rw [HE.out], by rw [HN0.out]; exact KRow.name (KRow.set2 R17.out (Nat.lt_succ_self _) _ _), by rw [HR0.out]; exact KRow.arg rnC_size (KRow.set2 R27.out (Nat.lt_succ_self _) _ _), Below.setCell (Below.setCell B7.out (Nat.le_succ _) _) (Nat.le_succ _) _⟩
  · have he := rn_c (o := o) (s := s) hz
    have hne : ¬ rnE N R o s = 0 := by rw [he]; exact hz
    have HN0 := Lib.hid (rnN_no hne)
    have HR0 := Lib.hid (rnR_no hne)
    have HE := Lib.hid he
    clear hne he
    have hyz : (ckC N R == 0) = false := by simpa using hz
    clear HCp' HI HNm HCl
    generalize ckC N R = r at *
    clear hz
    go_enter Try.func15, Try.ntmps15
    go_wp2_with (first
      | (go_at_call 24; go_must (refine (HK.out _ B0.out).mono ?_; rintro e1 w1 ⟨rfl, b1⟩; have B1 := Lib.hid (B0.out.trans (b1.mono B0.out.size)); have P1 := Lib.hid (P0.out.keep b1); have Q1 := Lib.hid (Q0.out.keep b1); have g0 := P1.out.cell 0; have g1 := P1.out.cell 1; have k0 := Q1.out.cell 0; have k1 := Q1.out.cell 1; have z0 := Q1.out.frozen 0; have z1 := Q1.out.frozen 1; clear b1)))
    have e0 := (two_set (v0 := .slice none 0 0) (v1 := .slice none 0 0) k0 k1).1
    have e1 := (two_set (v0 := .slice none 0 0) (v1 := .slice none 0 0) k0 k1).2
    refine bodyPost_ret (v := .tuple #[.agg #[.slice none 0 0, .slice none 0 0], .int .i64 r]) (by simp [results, Try.results15, go_sem, e0, e1]) rfl ⟨_, _, by rw [HE.out], by rw [HN0.out]; exact nm_nil _, by rw [HR0.out]; exact rn_nil _, Below.setCell (Below.setCell B1.out (Nat.le_succ _) _) (Nat.le_succ _) _⟩
end Go.Proofs.Yteccafndplaklaa
