/-
  merged.
-/
import Derived.Test.YtillcmddbjhepaaW15
import Derived.Test.YtillcmddbjhepaaM6
import Derived.Deep.LoopGhost
namespace Go.Proofs.Ytillcmddbjhepaa
open Go Go.RowKit Go.Joins
set_option linter.unusedVariables false
set_option linter.unusedSimpArgs false

theorem setRow_other (w : World) (g : Nat) (cells : Array Value) (k : Nat) (h : k ≠ g) : (w.setRow g cells).heap[k]? = w.heap[k]? := by
  unfold World.setRow
  rw [Array.getElem?_modify, if_neg (fun e => h e.symm)]
/-- A whole store into a row of the call's own; all other blocks stand. -/
theorem wpList_store_at2 {P : Program} {ops : Array Oper} {rest : List Oper} {o : Oper} {a : Act} {w : World} {Q : Exit → Act → World → Prop} {B b : Nat} {T : TypeId} {old : Array Value} (h : RowAt w b T old) (hB : B ≤ b)
    (cells : Array Value) (x y : Operand) (ty : TypeId) (hgd : o.guard = none) (ho : o.op = .store ty x y) (hx : a.eval x = .pointer (some ⟨b, 0, none⟩)) (hy : a.eval y = .agg cells)
    (hi : (P.info? ty).map (·.size) = some cells.size) (hold : old.size = cells.size) (h1 : cells.toList.all (·.oneCell') = true)
    (hk : ∀ w', RowAt w' b T cells → Below B w w' → (∀ k, k ≠ b → w'.heap[k]? = w.heap[k]?) → wpList P ops Q rest (a.put o.dst undef) w') : wpList P ops Q (o :: rest) a w :=
  wpList_store_row hgd ty x y ho b cells hx hy T old h hi hold (by simpa using h1) (hk _ (setRow_heap w b old cells T (0, 0) h) (below_setRow (Below.refl _ _) hB cells) (fun k hk => setRow_other w b cells k hk))
theorem KRow.others {α : Type} {enc : α → Array Value} {k : Nat} {T : TypeId} {w w' : World} {B b : Nat} {v : Value} {l : List α} (h : KRow enc k T w B v l) (hk : ∀ q, q ≠ b → w'.heap[q]? = w.heap[q]?) (hb : b < B) : KRow enc k T w' B v l := by
  refine ⟨h.1, h.2.imp id fun ⟨g, cap, cur, e, h1, h2, h3⟩ => ⟨g, cap, cur, e, h1, ?_, h3⟩⟩
  rw [hk g (by omega)]; exact h2
/-- What stands behind the row that grew. -/
theorem rnd6 {w w1 w6 : World} {T T2 : TypeId} {P : Array Value} {v : Value} {x y : Value} (hP : RowAt w1 w.heap.size T P) (hB : Below w.heap.size w w1) (hl : ∀ k, v.ownBlock = some k → k < w1.heap.size) (hs : w.heap.size < w1.heap.size)
    (b6 : Below (w.heap.size + 1) (w1.alloc (.cells #[x, y] T2)) w6) (k6 : ∀ k, k < (w1.alloc (.cells #[x, y] T2)).heap.size → some k ≠ v.ownBlock → w6.heap[k]? = (w1.alloc (.cells #[x, y] T2)).heap[k]?) :
    RowAt w6 w.heap.size T P ∧ Below w.heap.size w w6 ∧ w6.cell? ⟨w1.heap.size, 1, none⟩ = some y ∧ w.heap.size < w6.heap.size := by
  have hsz := World.size_alloc w1 (.cells #[x, y] T2)
  have hs6 := b6.size
  refine ⟨(hP.alloc _).below b6 (Nat.lt_succ_self _), (hB.alloc hB.size _).trans (b6.mono (Nat.le_succ _)), ?_, by omega⟩
  have hc : (w1.alloc (.cells #[x, y] T2)).cell? ⟨w1.heap.size, 1, none⟩ = some y := (RowAt.new w1 T2 #[x, y]).cell 1
  rw [← hc]
  refine kept_at k6 ⟨w1.heap.size, 1, none⟩ (by rw [hsz]; exact Nat.lt_succ_self _) fun e => ?_
  have := hl _ e.symm
  exact absurd this (Nat.lt_irrefl _)

set_option maxRecDepth 20000 in
set_option maxHeartbeats 8000000 in
theorem merged_any (ws : List (List Rn)) (V : Value) (T : Int) (w : World) (hT : WvArg w V ws) (hw : Wv ws T) (hn0 : 0 < ws.length) (hn : ws.length ≤ 16) (hsl : sl2 ws ≤ 262144) :
    Calls Try.prog 16 #[V] w fun e w' => ∃ (v : Value) (out : List Rn), e = .returned (.tuple #[v, .bool true]) ∧ RnRow w' w.heap.size v out ∧ Cb ws T out ∧ out.length ≤ 262144 ∧ Below w.heap.size w w' := by
  have HTk := Lib.hid (fun w' (hb : Below w.heap.size w w') => hT.keep hb)
  obtain ⟨A, c, rfl, hA⟩ := hT.form
  obtain ⟨g, o, rfl, hg, hcell⟩ := hA hn0
  obtain ⟨B0, b0, hz1, hz2⟩ := hcell 0 hn0
  rw [Nat.add_zero] at hz1
  have HZ1 := Lib.hid (fun w' (hb : Below w.heap.size w w') => (hb.cell (p := ⟨g, o, none⟩) hg).trans hz1)
  have HW := Lib.hid hw
  have hTr := hw.T_range hn0
  have hlen0 := (hw 0 hn0).1
  have HC := Lib.hid (fun G Z t w' (hb : Below w.heap.size w w') h1 h2 h3 h4 => common_any ws _ T t G Z w' (hT.keep hb) hw hn0 hn h1 h2 h3 h4)
  have HAd := Lib.hid (fun G Z t d w' (hb : Below w.heap.size w w') h1 h2 h3 h4 h5 => advanced_any ws _ T t d G Z w' (hT.keep hb) hw hn0 hn h1 h2 h3 h4 h5)
  have hz16 : zero16 = List.replicate ws.length (0, 0) ++ List.replicate (16 - ws.length) ((0, 0) : Ps) := by
    unfold zero16; rw [List.replicate_append_replicate]; congr 1; omega
  have P0 := Lib.hid (show RowAt (w.alloc (.cells (kArr rnC zero16) 58)) w.heap.size 58 (kArr rnC (List.replicate ws.length (0, 0) ++ List.replicate (16 - ws.length) ((0, 0) : Ps))) from by rw [← hz16]; exact RowAt.new w _ _)
  have B0' := Lib.hid (ba w (.cells (kArr rnC zero16) 58))
  have hl0' : (0 : Int) < ws.length := by omega
  have hZ0 : (List.replicate ws.length ((0, 0) : Ps) ++ List.replicate (16 - ws.length) ((0, 0) : Ps)).length = 16 := by simp; omega
  clear hA hT hw hz1 hz2 hcell
  go_enter Try.func16, Try.ntmps16
  go_wp2
  go_loopg [4] T.toNat (fun gk v wr => ∃ (t : Int) (G : List Ps) (out : List Rn), gk = (T - t).toNat ∧ 0 ≤ t ∧ t ≤ T ∧ Hid (Pa ws t G) ∧ Hid ((G ++ List.replicate (16 - ws.length) ((0, 0) : Ps)).length = 16) ∧ Hid (Cb ws t out) ∧ Hid ((out.length : Int) ≤ sj G) ∧ Hid (RnRow wr (w.heap.size + 1) v out) ∧ Hid (RowAt wr w.heap.size 58 (kArr rnC (G ++ List.replicate (16 - ws.length) ((0, 0) : Ps)))) ∧ Hid (Below w.heap.size w wr))
  case atStart => exact ⟨0, List.replicate ws.length (0, 0), [], by omega, by omega, by omega, Lib.hid (Pa_start HW.out), Lib.hid hZ0, Lib.hid (Cb_start ws), Lib.hid (by show (0 : Int) ≤ _; have : ∀ n, sj (List.replicate n ((0, 0) : Ps)) = 0 := (by intro n; induction n with | zero => rfl | succ n ih => rw [List.replicate_succ]; simp only [sj, ih]; omega); rw [this]; omega), Lib.hid (KRow.nil _ _), P0, B0'⟩
  case round =>
    obtain ⟨t, G, out, hgk, ht0, htT, HPa, HZ, HCb, HS, HR, HP, HB⟩ := hrel
    have hb := HB.out
    have hG0 : 0 < G.length := by have := HPa.out.1; omega
    obtain ⟨j, hj0, hj1, hj2⟩ := Pa_zero HW.out HPa.out hn0 hG0 htT
    have p := posAt HP.out 0 (by rw [HZ.out]; omega)
    rw [get_app hG0, hj0] at p
    obtain ⟨p0, _, _, _⟩ := p
    rw [Nat.zero_mul] at p0
    have q0 := HZ1.out wr hb
    have hbw := HP.out.lt
    have hsj := Pa_sum HPa.out
    have HJ := Lib.hid hj0
    clear hj0
    by_cases ht : t < T
    · have hjl := hj1 ht
      have hjl' : (j : Int) < ws[0].length := by omega
      clear hj1 hj2
      obtain ⟨hD1, hDT, hDe, hPa2, hCb2, hS2⟩ := round_facts HW.out HPa.out hn0 ht0 ht HCb.out HS.out 1099511627776 (Or.inl rfl)
      have hlg : lg out = t := HCb.out.2.2.1
      have hout : (out.length : Int) ≤ 262144 := by have := HS.out; omega
      have hout2 : ((pt out (lvl ws t, mnF 1099511627776 ws G)).length : Int) ≤ 262144 := by
        have := Pa_sum hPa2
        omega
      have HC2 := Lib.hid (fun w' hb' => HC.out G _ t w' hb' HPa.out HZ.out ht0 ht)
      have HA2 := Lib.hid (fun w' hb' => HAd.out G _ t (mnF 1099511627776 ws G) w' hb' HPa.out HZ.out ht hD1 hDe)
      have CL : Hid (∀ V w', RnRow w' (w.heap.size + 1) V out → w.heap.size + 1 ≤ w'.heap.size → Calls Try.prog 23 #[V, .int .i64 (lvl ws t), .int .i64 (mnF 1099511627776 ws G)] w' fun e w'' => ∃ v : Value, e = .returned v ∧ RnRow w'' (w.heap.size + 1) v (pt out (lvl ws t, mnF 1099511627776 ws G)) ∧ Below (w.heap.size + 1) w' w'' ∧ (∀ k, k < w'.heap.size → some k ≠ V.ownBlock → w''.heap[k]? = w'.heap[k]?)) := Lib.hid (fun V w' h1 h2 => lengthened_any2 out _ V _ _ w' h1 h2 HCb.out.2.1 (by omega) (by omega) (by omega))
      have HZ2 := Lib.hid (show (zw (mnF 1099511627776 ws G) ws G ++ List.replicate (16 - ws.length) ((0, 0) : Ps)).length = 16 by
        have := zw_len (mnF 1099511627776 ws G) ws G HPa.out.1.symm
        have h2 := HZ.out
        rw [List.length_append] at h2 ⊢
        omega)
      have hszG : (kArr rnC (G ++ List.replicate (16 - ws.length) ((0, 0) : Ps))).size = 32 := by rw [kArr_size rnC_size, HZ.out]
      have hszZ : (kArr rnC (zw (mnF 1099511627776 ws G) ws G ++ List.replicate (16 - ws.length) ((0, 0) : Ps))).size = 32 := by rw [kArr_size rnC_size, HZ2.out]
      have hone := kArr_one rnC_one (zw (mnF 1099511627776 ws G) ws G ++ List.replicate (16 - ws.length) ((0, 0) : Ps))
      have HsG := Lib.hid hszG; have HsZ := Lib.hid hszZ; have Hone := Lib.hid hone
      have HPa2 := Lib.hid hPa2; have HCb2 := Lib.hid hCb2; have HS2 := Lib.hid hS2
      have HOl := HR.out.lt
      obtain ⟨UA, UN, UC, rfl, hUN⟩ := HR.out.form
      have hlt2 := Lib.hid HOl
      clear hDe hPa2 hCb2 hS2 hszG hszZ hone hlg HOl hUN
      generalize hq1 : zw (mnF 1099511627776 ws G) ws G = G2 at *
      generalize hq2 : lvl ws t = Lv at *
      generalize hq3 : mnF 1099511627776 ws G = D at *
      clear hq1 hq2 hq3
      generalize hq4 : pt out (Lv, D) = out2 at *
      clear hq4
      generalize ws[0].length = n0 at *
      go_wp2
      go_quiet (fail)
      have rP := Lib.hid (show RowAt (wr.drewN nq) w.heap.size 58 (kArr rnC (G ++ List.replicate (16 - ws.length) ((0, 0) : Ps))) from HP.out)
      have rB := Lib.hid (Go.below_drewN hb nq)
      have rR := Lib.hid (KRow.drewN HR.out nq)
      change Hid (RnRow (wr.drewN nq) _ _ _) at rR
      have rs : Hid (w.heap.size < (wr.drewN nq).heap.size) := Lib.hid hbw
      have rlt : Hid (∀ k, (Value.slice UA UN UC).ownBlock = some k → w.heap.size + 1 ≤ k ∧ k < (wr.drewN nq).heap.size) := Lib.hid hlt2.out
      clear p0 q0
      generalize wr.drewN nq = W at *
      go_wp2_with (first
        | (refine wpList_load_row rfl _ _ rfl _ rfl _ _ _ _ rP6.out Try.underlying58 rfl (by rw [HsG.out]; exact pos_info) ?_)
        | (refine wpList_load_row rfl _ _ rfl _ rfl _ _ _ _ rP.out Try.underlying58 rfl (by rw [HsG.out]; exact pos_info) ?_)
        | (refine wpList_store_at2 rP7.out (Nat.le_refl _) (kArr rnC (G2 ++ List.replicate (16 - ws.length) ((0, 0) : Ps))) _ _ _ rfl rfl rfl rfl (by rw [HsZ.out]; exact pos_info) (by rw [HsG.out, HsZ.out]) Hone.out ?_; intro w9 r9 b9 k9)
        | (go_at_call 22; go_must (refine (HC2.out _ rB.out).mono ?_; rintro e1 w1 ⟨rfl, b1⟩; have rB1 := Lib.hid (rB.out.trans (b1.mono rB.out.size)); have rP1 := Lib.hid (rP.out.keep b1); have rR1 := Lib.hid (KRow.keep rR.out b1); have rs1 := Lib.hid (Nat.lt_of_lt_of_le rs.out b1.size); have rl1 := Lib.hid (fun k hk => Nat.lt_of_lt_of_le (rlt.out k hk).2 b1.size); clear b1))
        | (go_at_call 23; go_must (refine (CL.out _ _ (rR1.out.alloc _) (by rw [World.size_alloc]; exact Nat.le_succ_of_le rs1.out)).mono ?_; rintro e6 w6 ⟨v6, rfl, r6, b6, k6⟩; have x6 := rnd6 rP1.out rB1.out rl1.out rs1.out b6 k6; have rP6 := Lib.hid x6.1; have rB6 := Lib.hid x6.2.1; have c6 := x6.2.2.1; have rs6 := Lib.hid x6.2.2.2; clear x6 b6 k6; obtain ⟨VA, VN, VC, rfl, hVN⟩ := KRow.form r6; have hVN2 : (VN : Int) ≤ 262144 := (by omega); have hVN3 : ¬ (262144 : Int) < VN := (by omega); have rR6 := Lib.hid r6; clear r6 hVN))
        | (go_at_call 24; go_must (refine (HA2.out _ rB6.out).mono ?_; rintro e7 w7 ⟨rfl, b7⟩; have rP7 := Lib.hid (rP6.out.keep b7); have rB7 := Lib.hid (rB6.out.trans (b7.mono rB6.out.size)); have rR7 := Lib.hid (KRow.keep rR6.out b7); clear b7)))
      have B9 := Lib.hid (rB7.out.trans b9)
      have R9 := Lib.hid r9
      have R10 := Lib.hid (KRow.others rR7.out k9 (Nat.lt_succ_self _))
      clear r9 b9 k9
      go_roundg ((T - (t + D)).toNat)
      case measure => omega
      case rel => exact ⟨t + D, G2, out2, rfl, by omega, hDT, HPa2, HZ2, HCb2, HS2, R10, R9, B9⟩
    · have hjn := hj2 ht
      have htT2 : t = T := by omega
      subst htT2
      have HL := Lib.hid (show out.length ≤ 262144 by have := HS.out; omega)
      have hlt : ¬ (j : Int) < ws[0].length := by omega
      have hlt2 : (j : Int) = ws[0].length := by omega
      have hd : decide ((j : Int) < ws[0].length) = false := decide_eq_false (by omega)
      clear hj1 hj2 hjn hlt2
      generalize ws[0].length = n0 at *
      go_wp2
      go_quiet (fail)
      go_wp2
      go_returns
      exact ⟨_, out, rfl, (KRow.drewN HR.out _).mono (Nat.le_succ _), HCb.out, HL.out, Go.below_drewN hb _⟩

end Go.Proofs.Ytillcmddbjhepaa
