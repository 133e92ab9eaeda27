/-
  same; awake.
  The program's All.
  small.
  The specification's Filter.
  The specification's All.
  The walk of the statement GlitchAll.
  The walk of the statement GlitchChannels.
-/
import Derived.Test.YtgihljconpijaaaZ11
import Derived.Test.YtgihljconpijaaaZ10
import Derived.Deep.RegionHeld3
namespace Go.Proofs.Ytgihljconpijaaa
open Go Go.RowKit Go.Joins
set_option linter.unusedVariables false
set_option linter.unusedSimpArgs false

set_option maxRecDepth 20000 in
set_option maxHeartbeats 2000000 in
theorem same_any (l : List Rn) (V V' : Value) (w : World) (h1 : RnArg w V l) (h2 : RnArg w V' l) (hl : l.length ≤ 1099511627776) :
    Calls Try.prog 14 #[V, V'] w fun e w' => e = .returned (.bool true) ∧ Below w.heap.size w w' := by
  obtain ⟨A1, c1, rfl, h1⟩ := h1
  obtain ⟨A2, c2, rfl, h2⟩ := h2
  have H1 := Lib.hid h1; have H2 := Lib.hid h2
  have hl' : (l.length : Int) ≤ 1099511627776 := by omega
  clear h1 h2
  go_enter Try.func14, Try.ntmps14
  go_wp2
  go_loopw [5] (fun x wr => ∃ (k m : Nat), k ≤ l.length ∧ x = .int .i64 k ∧ wr = w.drewN m) (fun x _ => l.length - (intOf x).toNat)
  case atStart => exact ⟨0, 0, by omega, rfl, rfl⟩
  case round =>
    obtain ⟨k, m, hk, rfl, rfl⟩ := hrel
    by_cases hlt : k < l.length
    · obtain ⟨g1, o1, rfl, hg1, hc1⟩ := H1.out (by omega)
      obtain ⟨g2, o2, rfl, hg2, hc2⟩ := H2.out (by omega)
      obtain ⟨a0, a1⟩ := arg_two hc1 k hlt
      obtain ⟨b0, b1⟩ := arg_two hc2 k hlt
      clear hc1 hc2
      generalize l[k].1 = x0 at *
      generalize l[k].2 = x1 at *
      go_wp2
      go_quiet (fail)
      go_wp2
      go_roundw
      case rel => exact ⟨k + 1, m + nq, by omega, by go_num, rfl⟩
      case measure => simp [intOf]; omega
    · go_wp2
      go_returns
      exact ⟨rfl, Go.below_drewN (Below.refl _ _) _⟩

def exL : List Rn := [(0, 5), (1, 2), (0, 3), (1, 1), (0, 4)]
def exM : List Rn := [(0, 15)]
def exI : List Rn := [(0, 5), (1, 2), (0, 8)]
theorem ex_cl : cl exL = exL := by decide +kernel
theorem ex_fl : flP 3 (cl exL) = exM := by
  rw [ex_cl]
  show flP 3 [((0 : Int), (5 : Int)), (1, 2), (0, 3), (1, 1), (0, 4)] = [(0, 15)]
  rw [flP_short (by decide), flP_short (by decide), flP_one]
  decide
theorem ex_cn : cn 3 ((cl exL).drop 1) = 2 := by rw [ex_cl]; decide
theorem ex_in1 : inR exM 5 2 = (exI, 0) := by decide +kernel
theorem ex_in2 : inR exM 14 2 = ([], 2) := by decide +kernel

set_option maxRecDepth 100000 in
set_option maxHeartbeats 8000000 in
theorem awake_any (w : World) : Calls Try.prog 11 #[] w fun e w' => e = .returned (.bool true) ∧ Below w.heap.size w w' := by
  have HF := Lib.hid (fun V W (h : RnArg W V exL) => by have := filterG_any exL 3 V W h; rw [ex_fl] at this; exact this)
  have HN := Lib.hid (fun V W (h : RnArg W V exL) => show Calls Try.prog 12 #[V, .int .i64 3] W fun e w' => e = .returned (.int .i64 2) ∧ Below W.heap.size W w' by have := countG_any exL 3 V W h; rw [ex_cn] at this; exact this)
  have HI := Lib.hid (fun V W (h : RnArg W V exM) => show Calls Try.prog 20 #[V, .int .i64 5, .int .i64 2] W fun e w' => ∃ v : Value, e = .returned (.tuple #[v, .int .i64 0]) ∧ RnRow w' W.heap.size v exI ∧ Below W.heap.size W w' by have := insertG_any exM 5 2 V W h (by decide) (by decide); rw [ex_in1] at this; exact this)
  have HJ := Lib.hid (fun V W (h : RnArg W V exM) => show Calls Try.prog 20 #[V, .int .i64 14, .int .i64 2] W fun e w' => ∃ v : Value, e = .returned (.tuple #[v, .int .i64 2]) ∧ RnRow w' W.heap.size v [] ∧ Below W.heap.size W w' by have := insertG_any exM 14 2 V W h (by decide) (by decide); rw [ex_in2] at this; exact this)
  have HL := Lib.hid (KRow.arg rnC_size (KRow.lit (T := 48) rnC_size w w.heap.size (Nat.le_refl _) exL #[.int .i64 0, .int .i64 5, .int .i64 1, .int .i64 2, .int .i64 0, .int .i64 3, .int .i64 1, .int .i64 1, .int .i64 0, .int .i64 4] rfl 5 rfl (by decide)))
  go_enter Try.func11, Try.ntmps11
  go_wp2_with (first
    | (go_at_call 15; go_must (refine (HF.out _ _ HL.out).mono ?_; rintro e1 w1 ⟨v1, rfl, r1, b1⟩; obtain ⟨UA, UC, rfl⟩ := KRow.full r1 (by decide); rw [show exM.length = 1 from rfl] at r1 ⊢; have R1 := Lib.hid r1; have L1 := Lib.hid (HL.out.keep b1); have B1 := Lib.hid ((ba w _).trans (b1.mono (ba w _).size)); clear r1 b1))
    | (go_at_call 20; go_must (first
        | ((with_reducible refine (HI.out _ _ (KRow.arg rnC_size R1.out)).mono ?_); rintro e2 w2 ⟨v2, rfl, r2, b2⟩; obtain ⟨XA, XC, rfl⟩ := KRow.full r2 (by decide); rw [show exI.length = 3 from rfl] at r2 ⊢; have R2 := Lib.hid r2; have M2 := Lib.hid (R1.out.keep b2); have L2 := Lib.hid (L1.out.keep b2); have B2 := Lib.hid (B1.out.trans (b2.mono B1.out.size)); clear r2 b2)
        | ((with_reducible refine (HJ.out _ _ (KRow.arg rnC_size M2.out)).mono ?_); rintro e3 w3 ⟨v3, rfl, r3, b3⟩; obtain ⟨YA, YN, YC, rfl, hYN⟩ := KRow.form r3; clear hYN; have R3 := Lib.hid (R2.out.keep b3); have M3 := Lib.hid (M2.out.keep b3); have L3 := Lib.hid (L2.out.keep b3); have B3 := Lib.hid (B2.out.trans (b3.mono B2.out.size)); clear r3 b3)))
    | (go_at_call 12; go_must (refine (HN.out _ _ L3.out).mono ?_; rintro e4 w4 ⟨rfl, b4⟩; have m0 := (M3.out.keep b4).cell rnC_size 0 (by decide) 0 (by omega); have m1 := (M3.out.keep b4).cell rnC_size 0 (by decide) 1 (by omega); have x2 := (R3.out.keep b4).cell rnC_size 1 (by decide) 0 (by omega); have x3 := (R3.out.keep b4).cell rnC_size 1 (by decide) 1 (by omega); have x4 := (R3.out.keep b4).cell rnC_size 2 (by decide) 0 (by omega); have x5 := (R3.out.keep b4).cell rnC_size 2 (by decide) 1 (by omega); simp [exM, exI, rnC] at m0 m1 x2 x3 x4 x5; have B4 := Lib.hid (B3.out.trans (b4.mono B3.out.size)); clear b4)))
  go_returns
  exact ⟨rfl, B4.out⟩
end Go.Proofs.Ytgihljconpijaaa

namespace Go.Proofs.Ytgihljconpijaaa.Si
open Go Go.RowKit Go.Joins
set_option linter.unusedVariables false
set_option linter.unusedSimpArgs false

abbrev SlRow (w : World) (B : Nat) (v : Value) (l : List Sl) : Prop := KRow slC 1 22 w B v l
theorem sl_info : (Try.prog.info? 22).map (fun i => (i.zero, i.size, i.bytes)) = some (some (.slice none 0 0), 1, 24) := by kernel_rfl
theorem wpList_append_sl {w : World} {ops : Array Oper} {rest : List Oper} {o : Oper} {a : Act} {Q : Exit → Act → World → Prop} (hgd : o.guard = none) (s x : Operand)
    (ho : o.op = .call { callee := .builtin .append, args := #[s, x], argTypes := #[49, 49] })
    {B c : Nat} {v : Value} {l : List Sl} {g : Nat} {A : Option Addr} {n m : Nat} {ya : Array Value} (hya : ya = #[.slice A n m]) (hs : a.eval s = v) (hx : a.eval x = .slice (some ⟨g, 0, none⟩) 1 c) (hg : g = w.heap.size) (hf : SlRow w B v l) (hB : B ≤ w.heap.size) (hn : l.length + 1 ≤ 1099511627776)
    (h : ∀ v' w', SlRow w' B v' (l ++ [(A, n, m)]) → Below B w w' → (∀ k, k < w.heap.size → some k ≠ v.ownBlock → w'.heap[k]? = w.heap[k]?) → wpList Try.prog ops Q rest (a.put o.dst v') w') : wpList Try.prog ops Q (o :: rest) a (w.alloc (.cells ya 22)) :=
  wpList_append_k2 (P := Try.prog) Try.underlying49 sl_info rfl (by omega) slC_size hgd s x ho (A, n, m) hya hs hx hg hf hB (by subst hya; rfl) (by omega) (by omega) h
/-- Rows of different elements lie in different blocks. -/
theorem rows_apart {w : World} {B B' : Nat} {v u : Value} {S : List Sl} {l : List Rn} (h : SlRow w B v S) (h' : RnRow w B' u l) : ∀ k, u.ownBlock = some k → some k ≠ v.ownBlock := by
  intro k hk e
  obtain ⟨_, h2⟩ := h
  obtain ⟨_, h3⟩ := h'
  rcases h2 with ⟨rfl, _⟩ | ⟨g, cap, cur, rfl, _, hc, _⟩
  · exact absurd e (by intro x; cases x)
  · rcases h3 with ⟨rfl, _⟩ | ⟨g', cap', cur', rfl, _, hc', _⟩
    · cases hk
    · have e1 : g' = k := Option.some.inj hk
      have e2 : k = g := Option.some.inj e
      subst e1 e2
      rw [hc] at hc'
      have := Option.some.inj hc'
      injection this with a b
      exact absurd b (by decide)
theorem KRow.kept {α : Type} {enc : α → Array Value} {k : Nat} {T : TypeId} {w w' : World} {B : Nat} {x v : Value} {l : List α} (h : KRow enc k T w B x l) (hk : ∀ q, q < w.heap.size → some q ≠ v.ownBlock → w'.heap[q]? = w.heap[q]?) (hne : ∀ q, x.ownBlock = some q → some q ≠ v.ownBlock) : KRow enc k T w' B x l := by
  refine ⟨h.1, h.2.imp id fun ⟨g', cap, cur, e, h1, h2, h3⟩ => ⟨g', cap, cur, e, h1, ?_, h3⟩⟩
  have hlt : g' < w.heap.size := (Array.getElem?_eq_some_iff.1 h2).1
  rw [hk g' hlt (hne g' (by rw [e]; rfl))]
  exact h2
theorem elts_step {w5 w6 : World} {B : Nat} {v : Value} {S : List Sl} {ws : List (List Rn)} {j : Nat} (hS : S.length = j) (x : Sl) (hR5 : SlRow w5 B v S) (hj : j < ws.length) (hE : ∀ q (h : q < S.length) (h' : q < ws.length), RnRow w5 B (slV S[q]) ws[q]) (hx : RnRow w5 B (slV x) ws[j]) (hk : ∀ k, k < w5.heap.size → some k ≠ v.ownBlock → w6.heap[k]? = w5.heap[k]?) :
    ∀ q (h : q < (S ++ [x]).length) (h' : q < ws.length), RnRow w6 B (slV (S ++ [x])[q]) ws[q] := by
  intro q h h'
  rw [List.length_append, List.length_singleton] at h
  by_cases hq : q < S.length
  · rw [List.getElem_append_left hq]
    exact KRow.kept (hE q hq h') hk (rows_apart hR5 (hE q hq h'))
  · have e : q = j := by omega
    subst e
    rw [List.getElem_append_right (by omega)]
    simp only [hS, Nat.sub_self, List.getElem_cons_zero]
    exact KRow.kept hx hk (rows_apart hR5 hx)
/-- A row of rows of runs, all of the call's own. -/
def WvRow (w : World) (B : Nat) (v : Value) (ws : List (List Rn)) : Prop := ∃ S : List Sl, SlRow w B v S ∧ S.length = ws.length ∧ ∀ q (h : q < S.length) (h' : q < ws.length), RnRow w B (slV S[q]) ws[q]
theorem WvRow.arg {w : World} {B : Nat} {v : Value} {ws : List (List Rn)} (h : WvRow w B v ws) : WvArg w v ws := by
  obtain ⟨S, h1, h2, h3⟩ := h
  exact ⟨S, KRow.arg slC_size h1, h2, fun i hi hi' => KRow.arg rnC_size (h3 i hi' hi)⟩
theorem WvRow.mono {w : World} {B B' : Nat} {v : Value} {ws : List (List Rn)} (h : WvRow w B v ws) (hB : B' ≤ B) : WvRow w B' v ws := by
  obtain ⟨S, h1, h2, h3⟩ := h
  exact ⟨S, KRow.mono h1 hB, h2, fun i hi hi' => KRow.mono (h3 i hi hi') hB⟩

theorem flW_at (N : List ByteArray) (R : List Rn) (k : Int) (j : Nat) (h : j < (flW N R k).length) (h' : j < N.length) : (flW N R k)[j] = flP k (cl (chR N R N[j]).1) := by simp [flW]
theorem rn_nil (w : World) : RnArg w (.slice none 0 0) [] := KRow.arg (T := 48) rnC_size (KRow.nil w 0)
theorem nm_nil (w : World) : NmArg w (.slice none 0 0) [] := KRow.name (KRow.nil w 0)
set_option maxRecDepth 100000 in
set_option maxHeartbeats 8000000 in
theorem allG_no (N : List ByteArray) (R : List Rn) (k : Int) (vN vR : Value) (w : World) (hN : NmArg w vN N) (hs : szs N) (hR : RnArg w vR R) (hn : R.length ≤ 16000) (hz : ¬ ckC N R = 0) :
    Calls Try.prog 18 #[.agg #[vN, vR], .int .i64 k] w fun e w' => ∃ v1 v2 : Value, e = .returned (.tuple #[.agg #[v1, v2], .int .i64 (ckC N R)]) ∧ NmArg w' v1 [] ∧ RnArg w' v2 [] ∧ Below w.heap.size w w' := by
  have HK := Lib.hid (fun w' (hb : Below w.heap.size w w') => check_any N R vN vR w' (hN.keep hb) hs (hR.keep hb) (by omega))
  obtain ⟨A1, c1, rfl, _⟩ := hN.form
  obtain ⟨A2, c2, rfl⟩ := hR.form
  have B0 := Lib.hid ((ba w (.cells #[.slice A1 N.length c1, .slice A2 R.length c2] 30)).alloc (ba w _).size (.cells #[.slice none 0 0, .slice none 0 0] 30))
  have P0 := Lib.hid ((RowAt.new w 30 #[.slice A1 N.length c1, .slice A2 R.length c2]).alloc (.cells #[.slice none 0 0, .slice none 0 0] 30))
  have Q0' := RowAt.new (w.alloc (.cells #[.slice A1 N.length c1, .slice A2 R.length c2] 30)) 30 #[.slice none 0 0, .slice none 0 0]
  rw [World.size_alloc] at Q0'
  have Q0 := Lib.hid Q0'
  have g0 := P0.out.cell 0
  have g1 := P0.out.cell 1
  have hy : (ckC N R == 0) = false := by simpa using hz
  have hy' : (ckC N R != 0) = true := by simpa using hz
  clear Q0' hN hR hz
  generalize ckC N R = r at *
  go_enter Try.func18, Try.ntmps18
  go_wp2_with (first
    | (go_at_call 27; go_must (refine (HK.out _ B0.out).mono ?_; rintro e1 w1 ⟨rfl, b1⟩; have B1 := Lib.hid (B0.out.trans (b1.mono B0.out.size)); have Q1 := Lib.hid (Q0.out.keep b1); have k0 := Q1.out.cell 0; have k1 := Q1.out.cell 1; have z0 := Q1.out.frozen 0; have z1 := Q1.out.frozen 1; clear b1)))
  have e0 := (two_set (v0 := .slice none 0 0) (v1 := .slice none 0 0) k0 k1).1
  have e1 := (two_set (v0 := .slice none 0 0) (v1 := .slice none 0 0) k0 k1).2
  refine bodyPost_ret (v := .tuple #[.agg #[.slice none 0 0, .slice none 0 0], .int .i64 r]) (by simp [results, Try.results18, go_sem, e0, e1]) rfl ⟨_, _, rfl, nm_nil _, rn_nil _, Below.setCell (Below.setCell B1.out (Nat.le_succ _) _) (Nat.le_succ _) _⟩

set_option maxRecDepth 100000 in
set_option maxHeartbeats 8000000 in
theorem allG_ok (N : List ByteArray) (R : List Rn) (k : Int) (vN vR : Value) (w : World) (hN : NmArg w vN N) (hs : szs N) (hR : RnArg w vR R) (hn : R.length ≤ 16000) (hz : ckC N R = 0) :
    Calls Try.prog 18 #[.agg #[vN, vR], .int .i64 k] w fun e w' => ∃ (v1 v2 : Value) (out : List Rn), e = .returned (.tuple #[.agg #[v1, v2], .int .i64 0]) ∧ NmArg w' v1 N ∧ RnArg w' v2 out ∧ Cb (flW N R k) (Go.Proofs.Ytgihljconpijaaa.lg R) out ∧ out.length ≤ 262144 ∧ Below w.heap.size w w' := by
  have HK := Lib.hid (fun w' (hb : Below w.heap.size w w') => check_any N R vN vR w' (hN.keep hb) hs (hR.keep hb) (by omega))
  rw [hz] at HK
  have HCh := Lib.hid (fun s w' (hb : Below w.heap.size w w') => channel_any N R vN vR s w' (hN.keep hb) hs (hR.keep hb) (by omega))
  obtain ⟨q1, q2, q3⟩ := fl_build k hz
  obtain ⟨_, _, n0, n16, _, _⟩ := ckC_ok hz
  have q4 : ((N.length : Int)) * (R.length : Int) ≤ 16 * 16000 := Int.mul_le_mul (by omega) (by omega) (by omega) (by omega)
  have HBB := Lib.hid (show ∀ V w', Below w.heap.size w w' → WvArg w' V (flW N R k) → Calls Try.prog 31 #[vN, V] w' fun e w'' => ∃ (v1 v2 : Value) (out : List Rn), e = .returned (.tuple #[.agg #[v1, v2], .int .i64 0]) ∧ NmRow w'' w'.heap.size v1 N ∧ RnRow w'' w'.heap.size v2 out ∧ Cb (flW N R k) (Go.Proofs.Ytgihljconpijaaa.lg R) out ∧ out.length ≤ 262144 ∧ Below w'.heap.size w' w'' by
    intro V w' hb hW
    refine (build_any N (flW N R k) vN V w' (hN.keep hb) hs hW (fun _ _ => by omega)).mono ?_
    rintro e w'' ⟨v1, v2, N', out, rfl, ⟨r1, r2, r3, r4, r5⟩, b⟩
    obtain ⟨rfl, hcb⟩ := r3 q1
    rw [q3] at hcb
    rw [q1]
    exact ⟨v1, v2, out, rfl, r1, r2, hcb, r5, b⟩)
  obtain ⟨A1, c1, rfl, _, hA⟩ := hN.form
  have HA := Lib.hid hA
  obtain ⟨A2, c2, rfl⟩ := hR.form
  have B0 := Lib.hid ((ba w (.cells #[.slice A1 N.length c1, .slice A2 R.length c2] 30)).alloc (ba w _).size (.cells #[.slice none 0 0, .slice none 0 0] 30))
  have P0 := Lib.hid ((RowAt.new w 30 #[.slice A1 N.length c1, .slice A2 R.length c2]).alloc (.cells #[.slice none 0 0, .slice none 0 0] 30))
  have Q0' := RowAt.new (w.alloc (.cells #[.slice A1 N.length c1, .slice A2 R.length c2] 30)) 30 #[.slice none 0 0, .slice none 0 0]
  rw [World.size_alloc] at Q0'
  have Q0 := Lib.hid Q0'
  have g0 := P0.out.cell 0
  have g1 := P0.out.cell 1
  have HN16 := Lib.hid n16
  clear Q0' hN hR hz hA q1 q2 q3 q4 n0 n16
  go_enter Try.func18, Try.ntmps18
  go_wp2_with (first
    | (go_at_call 27; go_must (refine (HK.out _ B0.out).mono ?_; rintro e1 w1 ⟨rfl, b1⟩; have B1 := Lib.hid (B0.out.trans (b1.mono B0.out.size)); have P1 := Lib.hid (P0.out.keep b1); have Q1 := Lib.hid (Q0.out.keep b1); have g0 := P1.out.cell 0; have g1 := P1.out.cell 1; clear b1)))
  clear HK B0 P0 Q0
  go_loopw [7, 21] (fun v i wr => ∃ (j : Nat) (S : List Sl), j ≤ N.length ∧ i = .int .i64 j ∧ Hid (S.length = j) ∧ Hid (SlRow wr w1.heap.size v S) ∧ Hid (∀ q (h : q < S.length) (h' : q < (flW N R k).length), RnRow wr w1.heap.size (slV S[q]) (flW N R k)[q]) ∧ Hid (Below w1.heap.size w1 wr)) (fun _ i _ => N.length - (intOf i).toNat)
  case atStart => exact ⟨0, [], Nat.zero_le _, rfl, Lib.hid rfl, Lib.hid (KRow.nil _ _), Lib.hid (fun q h => absurd h (by simp)), Lib.hid (Below.refl _ _)⟩
  case round =>
    obtain ⟨j, S, hj, rfl, hS, HR, HE, HC⟩ := hrel
    have HB := Lib.hid (B1.out.trans (HC.out.mono B1.out.size))
    have hsz : w1.heap.size ≤ wr.heap.size := HC.out.size
    have h16 := HN16.out
    have P2 := Lib.hid (P1.out.keep HC.out)
    have Q2 := Lib.hid (Q1.out.keep HC.out)
    have p0 := P2.out.cell 0
    have p1 := P2.out.cell 1
    obtain ⟨UA, UN, UC, rfl, hUN⟩ := KRow.form HR.out
    clear hUN
    by_cases hjl : j < N.length
    · obtain ⟨g, o, rfl, hg, hcell⟩ := HA.out (by omega)
      have f0 := (HB.out.cell (p := ⟨g, o + j, none⟩) hg).trans (hcell j hjl)
      have hjw : j < (flW N R k).length := by rw [flW_len]; exact hjl
      have QW := Lib.hid (flW_at N R k j hjw hjl)
      clear hcell g0 g1
      have HS40 := Lib.hid (show S.length + 1 ≤ 1099511627776 by have := hS.out; have := HN16.out; omega)
      generalize N[j] = s at *
      have QC := Lib.hid (HCh.out s wr HB.out)
      go_wp2_with (first
        | (go_at_call 28; go_must (refine QC.out.mono ?_; rintro e5 w5 ⟨v5, rfl, r5, b5⟩; obtain ⟨X5, m5, d5, rfl, hm5⟩ := KRow.form r5; clear hm5; have A5 := Lib.hid (KRow.arg rnC_size r5); have HR5 := Lib.hid (KRow.keep HR.out b5); have HE5 := Lib.hid (fun q (h : q < S.length) h' => KRow.keep (HE.out q h h') b5); have HC5 := Lib.hid (HC.out.trans (b5.mono hsz)); have hsz5 := Nat.le_trans hsz b5.size; clear r5 b5))
        | (go_at_call 15; go_must (refine (filterG_any (chR N R s).1 k _ w5 A5.out).mono ?_; rintro e6 w6 ⟨v6, rfl, r6, b6⟩; obtain ⟨X6, m6, d6, rfl, hm6⟩ := KRow.form r6; have HR6 := Lib.hid (KRow.keep HR5.out b6); have HE6 := Lib.hid (fun q (h : q < S.length) h' => KRow.keep (HE5.out q h h') b6); have HX6 := Lib.hid (show RnRow w6 w1.heap.size (.slice X6 m6 d6) (flW N R k)[j] by rw [QW.out]; exact KRow.mono r6 hsz5); have HC6 := Lib.hid (HC5.out.trans (b6.mono hsz5)); have hsz6 := Nat.le_trans hsz5 b6.size; clear r6 b6 hm6))
        | (at_builtin; go_must (refine wpList_append_sl rfl _ _ rfl rfl rfl rfl rfl HR6.out hsz6 HS40.out ?_; intro v7 w7 r7 b7 k7; have HE7 := Lib.hid (elts_step hS.out (X6, m6, d6) HR6.out hjw HE6.out HX6.out k7); have HR7 := Lib.hid r7; have HC7 := Lib.hid (HC6.out.trans b7); clear r7 b7 k7))
        | fail)
      go_roundw
      case rel => exact ⟨j + 1, _, by omega, by go_num, Lib.hid (by rw [List.length_append, hS.out]; rfl), HR7, HE7, HC7⟩
      case measure => simp [intOf]; omega
    · have HW := Lib.hid (WvRow.arg (show WvRow wr w1.heap.size (.slice UA UN UC) (flW N R k) from ⟨S, HR.out, by rw [flW_len, hS.out]; omega, HE.out⟩))
      clear g0 g1
      go_wp2_with (first
        | (go_at_call 31; go_must (refine (HBB.out _ _ HB.out HW.out).mono ?_; rintro e4 w4 ⟨v1, v2, out, rfl, r1, r2, hcb, hol, b4⟩; obtain ⟨VA, VN, VC, rfl, hVN⟩ := KRow.form r1; obtain ⟨XA, XN, XC, rfl, hXN⟩ := KRow.form r2; clear hVN hXN; have s3 : w.heap.size + 2 ≤ wr.heap.size := Q2.out.lt; have R4 := Lib.hid (KRow.mono r1 s3); have R5 := Lib.hid (KRow.mono r2 s3); have B4 := Lib.hid (HB.out.trans (b4.mono HB.out.size)); have Q4 := Lib.hid (Q2.out.keep b4); have k0 := Q4.out.cell 0; have k1 := Q4.out.cell 1; have z0 := Q4.out.frozen 0; have z1 := Q4.out.frozen 1; have HCB := Lib.hid hcb; have HOL := Lib.hid hol; clear r1 r2 b4 hcb hol)))
      have e0 := (two_set (v0 := .slice VA VN VC) (v1 := .slice XA XN XC) k0 k1).1
      have e1 := (two_set (v0 := .slice VA VN VC) (v1 := .slice XA XN XC) k0 k1).2
      refine bodyPost_ret (v := .tuple #[.agg #[.slice VA VN VC, .slice XA XN XC], .int .i64 0]) (by simp [results, Try.results18, go_sem, e0, e1]) rfl ⟨_, _, _, rfl, KRow.name (KRow.set2 R4.out (Nat.lt_succ_self _) _ _), KRow.arg rnC_size (KRow.set2 R5.out (Nat.lt_succ_self _) _ _), HCB.out, HOL.out, Below.setCell (Below.setCell B4.out (Nat.le_succ _) _) (Nat.le_succ _) _⟩
end Go.Proofs.Ytgihljconpijaaa.Si

namespace Go.Proofs.Ytgihljconpijaaa.Si
open Go Go.RowKit Go.Joins
set_option linter.unusedVariables false
set_option linter.unusedSimpArgs false

def Sml (N : List ByteArray) (R : List Rn) : Prop := R.length ≤ 30 ∧ N.length ≤ 17 ∧ ∀ s ∈ N, s.size ≤ 20
set_option maxRecDepth 100000 in
set_option maxHeartbeats 8000000 in
theorem small_any (N : List ByteArray) (R : List Rn) (b : Bool) (vN vR : Value) (w : World) (hN : NmArg w vN N) (hR : RnArg w vR R) (hb : b = true ↔ Sml N R) :
    Calls Try.prog 17 #[.agg #[vN, vR]] w fun e w' => e = .returned (.bool b) ∧ Below w.heap.size w w' := by
  obtain ⟨A1, c1, rfl, _, hA⟩ := hN.form
  have HA := Lib.hid hA
  obtain ⟨A2, c2, rfl⟩ := hR.form
  have B0 := Lib.hid (ba w (.cells #[.slice A1 N.length c1, .slice A2 R.length c2] 30))
  have P0 := RowAt.new w 30 #[.slice A1 N.length c1, .slice A2 R.length c2]
  have HB := Lib.hid hb
  clear hN hR hA hb
  obtain ⟨W, hW⟩ : ∃ W, W = w.alloc (.cells #[.slice A1 N.length c1, .slice A2 R.length c2] 30) := ⟨_, rfl⟩
  rw [← hW] at B0 P0
  have g0 := P0.cell 0
  have g1 := P0.cell 1
  clear P0
  by_cases h1 : R.length ≤ 30
  rotate_left
  · obtain rfl : b = false := by
      cases b with
      | false => rfl
      | true => exact absurd (HB.out.1 rfl).1 h1
    have d1 : (30 : Int) < (R.length : Int) := by omega
    clear h1 HB HA g0 g1
    go_enter Try.func17, Try.ntmps17
    go_wp2
    rw [← hW]
    go_returns
    exact ⟨rfl, B0.out⟩
  have d1 : ¬ (30 : Int) < (R.length : Int) := by omega
  by_cases h2 : N.length ≤ 17
  rotate_left
  · obtain rfl : b = false := by
      cases b with
      | false => rfl
      | true => exact absurd (HB.out.1 rfl).2.1 h2
    have d2 : (17 : Int) < (N.length : Int) := by omega
    clear h1 h2 HB HA g0 g1
    go_enter Try.func17, Try.ntmps17
    go_wp2
    rw [← hW]
    go_returns
    exact ⟨rfl, B0.out⟩
  have d2 : ¬ (17 : Int) < (N.length : Int) := by omega
  have H1 := Lib.hid h1
  clear h1
  go_enter Try.func17, Try.ntmps17
  go_wp2
  rw [← hW]
  clear hW
  go_loop [3] (fun i => ∃ (j : Nat), j ≤ N.length ∧ i = .int .i64 j ∧ Hid (∀ p (hp : p < N.length), p < j → N[p].size ≤ 20)) (fun i => N.length + 1 - (intOf i).toNat)
  case atStart => exact ⟨0, by omega, rfl, Lib.hid (fun p hp h => absurd h (by omega))⟩
  case round =>
    obtain ⟨j, hjl, rfl, HM⟩ := hrel
    by_cases hj : j < N.length
    · obtain ⟨g, o, rfl, hg, hcell⟩ := HA.out (by omega)
      have f0 := (B0.out.cell (p := ⟨g, o + j, none⟩) hg).trans (hcell j hj)
      have d3 : (j : Int) < (N.length : Int) := by omega
      have HJ := Lib.hid hj
      have HW := Lib.hid (show ¬ N[j].size ≤ 20 → b = false by
        intro hn
        cases b with
        | false => rfl
        | true => exact absurd ((HB.out.1 rfl).2.2 N[j] (List.getElem_mem hj)) hn)
      have HN := Lib.hid (show N[j].size ≤ 20 → ∀ p (hp : p < N.length), p < j + 1 → N[p].size ≤ 20 by
        intro hn p hp h
        by_cases e : p = j
        · subst e; exact hn
        · exact HM.out p hp (by omega))
      clear HM hcell
      generalize N[j] = s at *
      by_cases c1 : s.size ≤ 20
      · have c1' : ¬ (20 : Int) < (s.size : Int) := by omega
        have HO := Lib.hid (HN.out c1)
        clear HN HW c1
        go_wp2
        go_round
        case rel => exact ⟨j + 1, HJ.out, by go_num, HO⟩
        case measure => simp [intOf]; omega
      · have c1' : (20 : Int) < (s.size : Int) := by omega
        obtain rfl := HW.out c1
        clear HN HW c1
        go_wp2
        go_returns
        exact ⟨rfl, B0.out⟩
    · obtain rfl : b = true := by
        refine HB.out.2 ⟨H1.out, h2, fun s hs => ?_⟩
        obtain ⟨p, hp, rfl⟩ := List.mem_iff_getElem.1 hs
        exact HM.out p hp (by omega)
      have d3 : ¬ (j : Int) < (N.length : Int) := by omega
      go_wp2
      go_returns
      exact ⟨rfl, B0.out⟩
end Go.Proofs.Ytgihljconpijaaa.Si

namespace Go.Proofs.Ytgihljconpijaaa
open Go Go.RowKit Go.Joins
set_option linter.unusedVariables false
set_option linter.unusedSimpArgs false

theorem shP_no {D : List Rn} {k : Int} {e : Ending} (h : cn k (D.drop 1) = 0) (hs : ShP D k e) : e = .returned (.int .i64 (-1)) := by
  rcases hs with ⟨h1, _⟩ | ⟨i, hi, h1, _, h3, _⟩
  · exact h1
  · have := cn_zero.1 h (i - 1) (by rw [List.length_drop]; omega)
    rw [List.getElem_drop] at this
    simp only [show 1 + (i - 1) = i by omega] at this
    exact absurd h3 this
theorem shP_yes {D : List Rn} {k : Int} (h : cn k (D.drop 1) ≠ 0) : ∃ (m : Nat) (hm : m + 2 < D.length), D[m + 1].2 < k ∧ (∀ j (hj : j < D.length), 1 ≤ j → j < m + 1 → ¬ D[j].2 < k) ∧ ∀ e, ShP D k e → e = .returned (.int .i64 ((m : Int) + 1)) := by
  have hex : ∃ n, ∃ hn : n + 2 < D.length, D[n + 1].2 < k := by
    apply Classical.byContradiction
    intro hno
    apply h
    apply cn_zero.2
    intro j hj
    rw [List.length_drop] at hj
    rw [List.getElem_drop]
    intro hlt
    apply hno
    refine ⟨j, by omega, ?_⟩
    simp only [show 1 + j = j + 1 by omega] at hlt
    exact hlt
  obtain ⟨m, ⟨hm, hs⟩, hmin⟩ := exists_least hex
  have hall : ∀ j (hj : j < D.length), 1 ≤ j → j < m + 1 → ¬ D[j].2 < k := by
    intro j hj h1 h2 hlt
    have := hmin (j - 1) ⟨by omega, by simp only [show j - 1 + 1 = j by omega]; exact hlt⟩
    omega
  refine ⟨m, hm, hs, hall, fun e he => ?_⟩
  rcases he with ⟨_, h0⟩ | ⟨i, hi, h1, rfl, h3, h4⟩
  · exact absurd h0 h
  · have : i = m + 1 := by
      rcases Nat.lt_trichotomy i (m + 1) with c | c | c
      · exact absurd h3 (hall i (by omega) h1 c)
      · exact c
      · exact absurd hs (h4 (m + 1) (by omega) (by omega) c)
    subst this
    simp
/-- One step. -/
theorem stepR0 {k : Int} {F P t : List Rn} {z b d : Rn} (ha : al (P ++ z :: b :: d :: t)) (hg : gd (P ++ z :: b :: d :: t)) (hl : lg (P ++ z :: b :: d :: t) ≤ 1099511627776) (hn : (P ++ z :: b :: d :: t).length ≤ 262144) (hF : flP k (P ++ z :: b :: d :: t) = F) (hP : ∀ x ∈ P.drop 1, ¬ x.2 < k) (hz : P ≠ [] → ¬ z.2 < k) (hs : b.2 < k) :
    ∃ D', cl (P ++ z :: (z.1, b.2) :: d :: t) = D' ∧ al D' ∧ gd D' ∧ lg D' ≤ 1099511627776 ∧ D'.length + 2 = (P ++ z :: b :: d :: t).length ∧ flP k D' = F := by
  obtain ⟨s1, s2, s3, s4⟩ := step_flP ha hg hP hz hs
  have g0 := gd_append.1 hg
  have g1 := gd_cons.1 g0.2
  have g2 := gd_cons.1 g1.2
  have hvl : vl (P ++ z :: (z.1, b.2) :: d :: t) = true := by
    refine (vl_iff _).2 ⟨?_, gd_append.2 ⟨g0.1, gd_cons.2 ⟨g1.1, gd_cons.2 ⟨⟨g1.1.1, g2.1.2⟩, g2.2⟩⟩⟩, ?_⟩
    · simp only [List.length_append, List.length_cons] at hn ⊢; omega
    · have : lg (P ++ z :: (z.1, b.2) :: d :: t) = lg (P ++ z :: b :: d :: t) := by rw [lg_append, lg_append]; rfl
      omega
  refine ⟨_, by rw [cl_yes hvl, jn_three ha hg], s2, s3, by omega, ?_, by rw [← s1]; exact hF⟩
  simp only [List.length_append, List.length_cons]
  omega
theorem stepR {k : Int} {F D : List Rn} (ha : al D) (hg : gd D) (hl : lg D ≤ 1099511627776) (hn : D.length ≤ 262144) (hF : flP k D = F) (m : Nat) (h : m + 2 < D.length) (hs : D[m + 1].2 < k) (hall : ∀ j (hj : j < D.length), 1 ≤ j → j < m + 1 → ¬ D[j].2 < k) :
    ∃ D', cl (D.set (m + 1) (D[m].1, D[m + 1].2)) = D' ∧ al D' ∧ gd D' ∧ lg D' ≤ 1099511627776 ∧ D'.length + 2 = D.length ∧ flP k D' = F := by
  have e : D.take m ++ D[m] :: D[m + 1] :: D[m + 2] :: D.drop (m + 3) = D := by
    rw [← List.drop_eq_getElem_cons, ← List.drop_eq_getElem_cons (by omega), ← List.drop_eq_getElem_cons (by omega), List.take_append_drop]
  have hP : ∀ x ∈ (D.take m).drop 1, ¬ x.2 < k := by
    intro x hx
    obtain ⟨j, hj, rfl⟩ := List.mem_iff_getElem.1 hx
    rw [List.length_drop, List.length_take] at hj
    rw [List.getElem_drop, List.getElem_take]
    exact hall (1 + j) (by omega) (by omega) (by omega)
  have hz : D.take m ≠ [] → ¬ D[m].2 < k := by
    intro hne
    have : 0 < m := by
      rcases Nat.eq_zero_or_pos m with h0 | h0
      · subst h0; exact absurd rfl hne
      · exact h0
    exact hall m (by omega) (by omega) (by omega)
  have hlP : (D.take m).length = m := by rw [List.length_take]; omega
  have hset : D.set (m + 1) (D[m].1, D[m + 1].2) = D.take m ++ D[m] :: (D[m].1, D[m + 1].2) :: D[m + 2] :: D.drop (m + 3) := by
    apply List.ext_getElem?
    intro q
    rw [List.getElem?_set]
    have eq : (D.take m ++ D[m] :: D[m + 1] :: D[m + 2] :: D.drop (m + 3))[q]? = D[q]? := congrArg (fun L : List Rn => L[q]?) e
    by_cases c0 : q < m
    · rw [if_neg (by omega), ← eq, List.getElem?_append_left (by omega), List.getElem?_append_left (by omega)]
    · rw [List.getElem?_append_right (by omega), hlP]
      rw [List.getElem?_append_right (by omega), hlP] at eq
      by_cases c1 : m + 1 = q
      · subst c1
        rw [if_pos rfl, if_pos (by omega)]
        simp
      · rw [if_neg c1, ← eq]
        obtain ⟨r, rfl⟩ : ∃ r, q = m + r := ⟨q - m, by omega⟩
        rw [Nat.add_sub_cancel_left]
        match r, c1 with
        | 0, _ => rfl
        | 1, c1 => exact absurd rfl c1
        | r + 2, _ => rfl
  rw [hset]
  obtain ⟨D', q1, q2, q3, q4, q5, q6⟩ := stepR0 (k := k) (F := F) (P := D.take m) (z := D[m]) (b := D[m + 1]) (d := D[m + 2]) (t := D.drop (m + 3)) (by rw [e]; exact ha) (by rw [e]; exact hg) (by rw [e]; exact hl) (by rw [e]; exact hn) (by rw [e]; exact hF) hP hz hs
  exact ⟨D', q1, q2, q3, q4, q5.trans (congrArg List.length e), q6⟩

set_option maxRecDepth 100000 in
set_option maxHeartbeats 8000000 in
theorem refFilter_any (l : List Rn) (k : Int) (V : Value) (w : World) (hT : RnArg w V l) (hlen : l.length ≤ 262144) :
    Calls Try.prog 16 #[V, .int .i64 k] w fun e w' => ∃ v : Value, e = .returned v ∧ RnRow w' w.heap.size v (flP k (cl l)) ∧ Below w.heap.size w w' := by
  have HV := Lib.hid (refValid_any l V w hT)
  cases hv : vl l with
  | false =>
    rw [hv] at HV
    have HE := Lib.hid (show flP k (cl l) = [] by rw [cl_no (by rw [hv]; decide)]; exact flP_nil k)
    obtain ⟨A, c, rfl⟩ := hT.form
    clear hT hv
    generalize flP k (cl l) = F at *
    go_enter Try.func16, Try.ntmps16
    go_wp2_with (first
      | (go_at_call 22; go_must (refine HV.out.mono ?_; rintro e1 w1 ⟨rfl, rfl⟩)))
    go_returns
    exact ⟨_, rfl, by rw [HE.out]; exact KRow.nil _ _, Below.refl _ _⟩
  | true =>
    rw [hv] at HV
    have HC := Lib.hid (refClean_any l V w hT)
    have hcv := (vl_iff _).1 (cl_vl l)
    obtain ⟨F, hF⟩ : ∃ F, F = flP k (cl l) := ⟨_, rfl⟩
    have HD0 := Lib.hid (show al (cl l) ∧ gd (cl l) ∧ lg (cl l) ≤ 1099511627776 ∧ flP k (cl l) = F ∧ (cl l).length ≤ 262144 from ⟨cl_al l, hcv.2.1, hcv.2.2, hF.symm, hcv.1⟩)
    rw [← hF]
    have HN0 := Lib.hid (show 0 + (cl l).length ≤ l.length by have := cl_len l; omega)
    have HN1 := Lib.hid hlen
    obtain ⟨A, c, rfl⟩ := hT.form
    clear hT hv hcv
    clear hF
    generalize cl l = C at *
    go_enter Try.func16, Try.ntmps16
    go_wp2_with (first
      | (go_at_call 22; go_must (refine HV.out.mono ?_; rintro e0 w0 ⟨rfl, rfl⟩))
      | (go_at_call 29; go_must (refine HC.out.mono ?_; rintro e1 w1 ⟨v1, rfl, r1, b1⟩; have R1 := Lib.hid r1; have B1 := Lib.hid b1; clear r1 b1)))
    go_loopg [5, 6] l.length (fun n vc i wr => ∃ (j : Nat) (D : List Rn), i = .int .i64 j ∧ n + j = l.length ∧ Hid (j + D.length ≤ l.length) ∧ Hid (al D ∧ gd D ∧ lg D ≤ 1099511627776 ∧ flP k D = F ∧ D.length ≤ 262144) ∧ Hid (RnRow wr w.heap.size vc D) ∧ Hid (Below w.heap.size w wr))
    case atStart => exact ⟨0, C, rfl, rfl, HN0, HD0, R1, B1⟩
    case round =>
      obtain ⟨j, D, rfl, hnj, HN, HD, HR, HB⟩ := hrel
      clear R1 B1 HN0 HD0 HC HV
      obtain ⟨UA, UN, UC, rfl, hUN⟩ := KRow.form HR.out
      clear hUN
      by_cases hj : j < l.length
      · have d0 : (j : Int) < (l.length : Int) := by omega
        have HS := Lib.hid (short_any D k _ wr (KRow.arg rnC_size HR.out) HD.out.2.2.2.2)
        by_cases hc : cn k (D.drop 1) = 0
        · have HF := Lib.hid (show D = F from (flP_id k D hc).symm.trans HD.out.2.2.2.1)
          have HX := Lib.hid (fun e => shP_no (e := e) hc)
          clear hc
          go_wp2_with (first
            | (go_at_call 30; go_must (refine HS.out.mono ?_; rintro e2 w2 ⟨hsh, rfl⟩; obtain rfl := HX.out _ hsh; clear hsh)))
          go_returns
          exact ⟨_, rfl, by have h := HR.out; rw [HF.out] at h; exact h, HB.out⟩
        · obtain ⟨m, hm, hs, hall, hX⟩ := shP_yes hc
          have HX := Lib.hid hX
          obtain ⟨D', e1, e2, e3, e4, e5, e6⟩ := stepR HD.out.1 HD.out.2.1 HD.out.2.2.1 HD.out.2.2.2.2 HD.out.2.2.2.1 m hm hs hall
          have E1 := Lib.hid e1
          have HD' := Lib.hid (show al D' ∧ gd D' ∧ lg D' ≤ 1099511627776 ∧ flP k D' = F ∧ D'.length ≤ 262144 from ⟨e2, e3, e4, e6, by have := HD.out.2.2.2.2; omega⟩)
          have E5 := Lib.hid e5
          have HMM := Lib.hid hm
          have hDl := HD.out.2.2.2.2
          have HDL := Lib.hid hDl
          have K0 := Lib.hid (KRow.lit (T := 48) rnC_size wr w.heap.size HB.out.size [] #[] rfl 0 rfl (by decide))
          have K1 := Lib.hid ((KRow.arg rnC_size HR.out).keep (ba wr (.cells #[] 48)))
          have BA := Lib.hid (HB.out.alloc HB.out.size (.cells #[] 48))
          have l3 : (m : Int) + 1 < (D.length : Int) := by omega
          have l4 : (0 : Int) ≤ (m : Int) + 1 := by omega
          have l5 : ((m : Int) + 1).toNat = m + 1 := by omega
          have l6 : (m : Int) < (D.length : Int) := by omega
          have l7 : ¬ (m : Int) + 1 < 0 := by omega
          have w10 := IntWalk.i64_in (m : Int) (by omega)
          clear hX e1 e2 e3 e4 e5 e6 hall hc hDl
          clear hs
          go_wp2_with (first
            | (go_at_call 30; go_must (refine HS.out.mono ?_; rintro e2 w2 ⟨hsh, rfl⟩; obtain rfl := HX.out _ hsh; clear hsh))
            | (at_builtin; go_must (refine wpList_append_arg (o := ⟨some 28, _, _, _, _, _⟩) Try.underlying22 run_info rfl (by omega) rnC_size rnC_one rfl (.tmp 26) (.tmp 27) rfl rfl rfl K0.out K1.out BA.out.size (by have := HDL.out; simp; omega) (by have := HDL.out; simp; omega) ?_; intro v6 w6 r6 b6; rw [List.nil_append] at r6; obtain ⟨VK, VM, rfl⟩ := KRow.full r6 (by omega); have f0 : w6.cell? ⟨VK, m * 2, none⟩ = some (.int .i64 D[m].1) := (RnRow.two r6 m (by omega)).1; have f2 : w6.cell? ⟨VK, (m + 1) * 2, none⟩ = some (.int .i64 D[m + 1].1) := (RnRow.two r6 (m + 1) (by omega)).1; have f1 := r6.frozen ((m + 1) * 2); have R6 := Lib.hid (show RnRow (w6.setCell ⟨VK, (m + 1) * 2, none⟩ (.int .i64 D[m].1)) w.heap.size (.slice (some ⟨VK, 0, none⟩) D.length VM) (D.set (m + 1) (D[m].1, D[m + 1].2)) from (by have := KRow.cellSet rnC_size r6 (m + 1) 0 (by omega) (by omega) (.int .i64 D[m].1) (D[m].1, D[m + 1].2) rfl; rw [Nat.add_zero] at this; exact this)); have B6 := Lib.hid (show Below w.heap.size w (w6.setCell ⟨VK, (m + 1) * 2, none⟩ (.int .i64 D[m].1)) from Below.setCell (BA.out.trans b6) (KRow.len r6).2.2.1 _); clear r6 b6; generalize D[m].1 = x0 at *; generalize D[m + 1].2 = x1 at *; generalize D[m + 1].1 = x2 at *))
            | (go_at_call 29; go_must (refine (refClean_any _ _ _ (KRow.arg rnC_size R6.out)).mono ?_; rintro e7 w7 ⟨v7, rfl, r7, b7⟩; rw [E1.out] at r7; have R7 := Lib.hid (KRow.mono r7 B6.out.size); have B7 := Lib.hid (B6.out.trans (b7.mono B6.out.size)); clear r7 b7)))
          go_roundg (l.length - (j + 1))
          case rel => exact ⟨j + 1, D', by go_num, by omega, Lib.hid (by have a := HN.out; have b := E5.out; omega), HD', R7, B7⟩
          case measure => omega
      · have d0 : ¬ (j : Int) < (l.length : Int) := by omega
        have HF := Lib.hid (show D = F by
          have h0 : D.length = 0 := by have := HN.out; omega
          have hd := HD.out.2.2.2.1
          rw [List.eq_nil_of_length_eq_zero h0] at hd ⊢
          rw [← hd, flP_nil])
        go_wp2
        go_returns
        exact ⟨_, rfl, by have h := HR.out; rw [HF.out] at h; exact h, HB.out⟩
end Go.Proofs.Ytgihljconpijaaa

namespace Go.Proofs.Ytgihljconpijaaa.Si
open Go Go.RowKit Go.Joins
set_option linter.unusedVariables false
set_option linter.unusedSimpArgs false

theorem heldN13 {w W W' : World} {b g o : Nat} {x0 x1 x2 : Value} (h : W.cell? ⟨b, 0, none⟩ = some x0 ∧ W.cell? ⟨b, 1, none⟩ = some x1 ∧ W.cell? ⟨g, o, none⟩ = some x2 ∧ Below w.heap.size w W ∧ b < W.heap.size ∧ g < W.heap.size) (hb : Below W.heap.size W W') : W'.cell? ⟨b, 0, none⟩ = some x0 ∧ W'.cell? ⟨b, 1, none⟩ = some x1 ∧ W'.cell? ⟨g, o, none⟩ = some x2 ∧ Below w.heap.size w W' ∧ b < W'.heap.size ∧ g < W'.heap.size :=
  ⟨(hb.cell (p := ⟨b, 0, none⟩) h.2.2.2.2.1).trans h.1, (hb.cell (p := ⟨b, 1, none⟩) h.2.2.2.2.1).trans h.2.1, (hb.cell (p := ⟨g, o, none⟩) h.2.2.2.2.2).trans h.2.2.1, h.2.2.2.1.trans (hb.mono h.2.2.2.1.size), Nat.lt_of_lt_of_le h.2.2.2.2.1 hb.size, Nat.lt_of_lt_of_le h.2.2.2.2.2 hb.size⟩

set_option maxRecDepth 100000 in
set_option maxHeartbeats 8000000 in
theorem refAll_no (N : List ByteArray) (R : List Rn) (k : Int) (vN vR : Value) (w : World) (hN : NmArg w vN N) (hs : szs N) (hR : RnArg w vR R) (hn : R.length ≤ 16000) (hz : ¬ ckC N R = 0) :
    Calls Try.prog 19 #[.agg #[vN, vR], .int .i64 k] w fun e w' => ∃ v1 v2 : Value, e = .returned (.tuple #[.agg #[v1, v2], .int .i64 (ckC N R)]) ∧ NmArg w' v1 [] ∧ RnArg w' v2 [] ∧ Below w.heap.size w w' := by
  have HK := Lib.hid (fun w' (hb : Below w.heap.size w w') => rcheck_any N R vN vR w' (hN.keep hb) hs (hR.keep hb) (by omega))
  obtain ⟨A1, c1, rfl, _⟩ := hN.form
  obtain ⟨A2, c2, rfl⟩ := hR.form
  have B0 := Lib.hid ((ba w (.cells #[.slice A1 N.length c1, .slice A2 R.length c2] 30)).alloc (ba w _).size (.cells #[.slice none 0 0, .slice none 0 0] 30))
  have P0 := Lib.hid ((RowAt.new w 30 #[.slice A1 N.length c1, .slice A2 R.length c2]).alloc (.cells #[.slice none 0 0, .slice none 0 0] 30))
  have Q0' := RowAt.new (w.alloc (.cells #[.slice A1 N.length c1, .slice A2 R.length c2] 30)) 30 #[.slice none 0 0, .slice none 0 0]
  rw [World.size_alloc] at Q0'
  have Q0 := Lib.hid Q0'
  have g0 := P0.out.cell 0
  have g1 := P0.out.cell 1
  have hy : (ckC N R == 0) = false := by simpa using hz
  have hy' : (ckC N R != 0) = true := by simpa using hz
  clear Q0' hN hR hz
  generalize ckC N R = r at *
  go_enter Try.func19, Try.ntmps19
  go_wp2_with (first
    | (go_at_call 32; go_must (refine (HK.out _ B0.out).mono ?_; rintro e1 w1 ⟨rfl, b1⟩; have B1 := Lib.hid (B0.out.trans (b1.mono B0.out.size)); have Q1 := Lib.hid (Q0.out.keep b1); have k0 := Q1.out.cell 0; have k1 := Q1.out.cell 1; have z0 := Q1.out.frozen 0; have z1 := Q1.out.frozen 1; clear b1)))
  have e0 := (two_set (v0 := .slice none 0 0) (v1 := .slice none 0 0) k0 k1).1
  have e1 := (two_set (v0 := .slice none 0 0) (v1 := .slice none 0 0) k0 k1).2
  refine bodyPost_ret (v := .tuple #[.agg #[.slice none 0 0, .slice none 0 0], .int .i64 r]) (by simp [results, Try.results19, go_sem, e0, e1]) rfl ⟨_, _, rfl, nm_nil _, rn_nil _, Below.setCell (Below.setCell B1.out (Nat.le_succ _) _) (Nat.le_succ _) _⟩

set_option maxRecDepth 100000 in
set_option maxHeartbeats 8000000 in
theorem refAll_ok (N : List ByteArray) (R : List Rn) (k : Int) (vN vR : Value) (w : World) (hN : NmArg w vN N) (hs : szs N) (hR : RnArg w vR R) (hn : R.length ≤ 16000) (hz : ckC N R = 0) :
    Calls Try.prog 19 #[.agg #[vN, vR], .int .i64 k] w fun e w' => ∃ (v1 v2 : Value) (out : List Rn), e = .returned (.tuple #[.agg #[v1, v2], .int .i64 0]) ∧ NmArg w' v1 N ∧ RnArg w' v2 out ∧ Cb (flW N R k) (Go.Proofs.Ytgihljconpijaaa.lg R) out ∧ out.length ≤ 262144 ∧ Below w.heap.size w w' := by
  have HK := Lib.hid (fun w' (hb : Below w.heap.size w w') => rcheck_any N R vN vR w' (hN.keep hb) hs (hR.keep hb) (by omega))
  rw [hz] at HK
  have HCh := Lib.hid (fun s (hm : s ∈ N) w' (hb : Below w.heap.size w w') => show Calls Try.prog 33 #[.agg #[vN, vR], .string s] w' fun e w'' => ∃ v : Value, e = .returned (.tuple #[v, .int .i64 0]) ∧ RnRow w'' w'.heap.size v (chR N R s).1 ∧ Below w'.heap.size w' w'' by
    have h := rchannel_any N R vN vR s w' (hN.keep hb) hs (hR.keep hb) (by omega)
    obtain ⟨q, e⟩ := chr_mem hz hm
    rw [show (chR N R s).2 = 0 by rw [e]] at h
    exact h)
  have HLN := Lib.hid (fun s (hm : s ∈ N) => show (chR N R s).1.length ≤ 262144 by
    obtain ⟨q, e⟩ := chr_mem hz hm
    rw [e]
    exact Nat.le_trans (chn_good hz q).2.2 (by omega))
  obtain ⟨q1, q2, q3⟩ := fl_build k hz
  obtain ⟨_, _, n0, n16, _, _⟩ := ckC_ok hz
  have q4 : ((N.length : Int)) * (R.length : Int) ≤ 16 * 16000 := Int.mul_le_mul (by omega) (by omega) (by omega) (by omega)
  have HBB := Lib.hid (show ∀ V w', Below w.heap.size w w' → WvArg w' V (flW N R k) → Calls Try.prog 34 #[vN, V] w' fun e w'' => ∃ (v1 v2 : Value) (out : List Rn), e = .returned (.tuple #[.agg #[v1, v2], .int .i64 0]) ∧ NmRow w'' w'.heap.size v1 N ∧ RnRow w'' w'.heap.size v2 out ∧ Cb (flW N R k) (Go.Proofs.Ytgihljconpijaaa.lg R) out ∧ out.length ≤ 262144 ∧ Below w'.heap.size w' w'' by
    intro V w' hb hW
    refine (rbuild_any N (flW N R k) vN V w' (hN.keep hb) hs hW (fun _ _ => by omega) (by rw [flW_len]; omega)).mono ?_
    rintro e w'' ⟨v1, v2, N', out, rfl, ⟨r1, r2, r3, r4, r5⟩, b⟩
    obtain ⟨rfl, hcb⟩ := r3 q1
    rw [q3] at hcb
    rw [q1]
    exact ⟨v1, v2, out, rfl, r1, r2, hcb, r5, b⟩)
  obtain ⟨A1, c1, rfl, _, hA⟩ := hN.form
  have HA := Lib.hid hA
  obtain ⟨A2, c2, rfl⟩ := hR.form
  have B0 := Lib.hid ((ba w (.cells #[.slice A1 N.length c1, .slice A2 R.length c2] 30)).alloc (ba w _).size (.cells #[.slice none 0 0, .slice none 0 0] 30))
  have P0 := Lib.hid ((RowAt.new w 30 #[.slice A1 N.length c1, .slice A2 R.length c2]).alloc (.cells #[.slice none 0 0, .slice none 0 0] 30))
  have Q0' := RowAt.new (w.alloc (.cells #[.slice A1 N.length c1, .slice A2 R.length c2] 30)) 30 #[.slice none 0 0, .slice none 0 0]
  rw [World.size_alloc] at Q0'
  have Q0 := Lib.hid Q0'
  have g0 := P0.out.cell 0
  have g1 := P0.out.cell 1
  have HN16 := Lib.hid n16
  clear Q0' hN hR hz hA q1 q2 q3 q4 n0 n16
  go_enter Try.func19, Try.ntmps19
  go_wp2_with (first
    | (go_at_call 32; go_must (refine (HK.out _ B0.out).mono ?_; rintro e1 w1 ⟨rfl, b1⟩; have B1 := Lib.hid (B0.out.trans (b1.mono B0.out.size)); have P1 := Lib.hid (P0.out.keep b1); have Q1 := Lib.hid (Q0.out.keep b1); have g0 := P1.out.cell 0; have g1 := P1.out.cell 1; clear b1)))
  clear HK B0 P0 Q0
  have KL0 := Lib.hid (show SlRow (w1.alloc (.cells #[] 22)) w1.heap.size (.slice (some ⟨w1.heap.size, 0, none⟩) 0 0) [] from KRow.lit (T := 22) slC_size w1 w1.heap.size (Nat.le_refl _) [] #[] rfl 0 rfl (by decide))
  have BL0 := Lib.hid (ba w1 (.cells #[] 22))
  go_loopw [7, 8] (fun v i wr => ∃ (j : Nat) (S : List Sl), j ≤ N.length ∧ i = .int .i64 j ∧ Hid (S.length = j) ∧ Hid (SlRow wr w1.heap.size v S) ∧ Hid (∀ q (h : q < S.length) (h' : q < (flW N R k).length), RnRow wr w1.heap.size (slV S[q]) (flW N R k)[q]) ∧ Hid (Below w1.heap.size w1 wr)) (fun _ i _ => N.length - (intOf i).toNat)
  case atStart => exact ⟨0, [], Nat.zero_le _, rfl, Lib.hid rfl, KL0, Lib.hid (fun q h => absurd h (by simp)), BL0⟩
  case round =>
    obtain ⟨j, S, hj, rfl, hS, HR, HE, HC⟩ := hrel
    have HB := Lib.hid (B1.out.trans (HC.out.mono B1.out.size))
    have hsz : w1.heap.size ≤ wr.heap.size := HC.out.size
    have h16 := HN16.out
    have P2 := Lib.hid (P1.out.keep HC.out)
    have Q2 := Lib.hid (Q1.out.keep HC.out)
    have p0 := P2.out.cell 0
    have p1 := P2.out.cell 1
    obtain ⟨UA, UN, UC, rfl, hUN⟩ := KRow.form HR.out
    clear hUN
    by_cases hjl : j < N.length
    · obtain ⟨g, o, rfl, hg, hcell⟩ := HA.out (by omega)
      have f0 := (HB.out.cell (p := ⟨g, o + j, none⟩) hg).trans (hcell j hjl)
      have hjw : j < (flW N R k).length := by rw [flW_len]; exact hjl
      have QW := Lib.hid (flW_at N R k j hjw hjl)
      clear hcell g0 g1
      have HS40 := Lib.hid (show S.length + 1 ≤ 1099511627776 by have := hS.out; have := HN16.out; omega)
      have HMS := Lib.hid (List.getElem_mem hjl)
      generalize N[j] = s at *
      have HLE := Lib.hid (HLN.out s HMS.out)
      have hjlI : (j : Int) < (N.length : Int) := by omega
      go_wp2
      have S0 : (wr.drew).cell? ⟨w.heap.size, 0, none⟩ = some (.slice (some ⟨g, o, none⟩) N.length c1) ∧ (wr.drew).cell? ⟨w.heap.size, 1, none⟩ = some (.slice A2 R.length c2) ∧ (wr.drew).cell? ⟨g, o + j, none⟩ = some (.string s) ∧ Below w.heap.size w (wr.drew) ∧ w.heap.size < (wr.drew).heap.size ∧ g < (wr.drew).heap.size := ⟨P2.out.cell 0, P2.out.cell 1, f0, HB.out.drew, P2.out.lt, Nat.lt_of_lt_of_le hg HB.out.size⟩
      have QC := Lib.hid (fun w' (hb : Below w.heap.size w w') => HCh.out s HMS.out w' hb)
      go_region_held3 (fun w' => w'.cell? ⟨w.heap.size, 0, none⟩ = some (.slice (some ⟨g, o, none⟩) N.length c1) ∧ w'.cell? ⟨w.heap.size, 1, none⟩ = some (.slice A2 R.length c2) ∧ w'.cell? ⟨g, o + j, none⟩ = some (.string s) ∧ Below w.heap.size w w' ∧ w.heap.size < w'.heap.size ∧ g < w'.heap.size) (first | assumption | go_keep)
        (first
          | (go_at_call 33; refine (QC.out _ (And.left (And.right (And.right (And.right (by assumption)))))).mono ?_; rintro e5 w5 ⟨v5, rfl, r5, b5⟩; obtain ⟨X5, m5, d5, rfl, hm5⟩ := KRow.form r5; clear hm5; have h5 := heldN13 (by assumption) b5)
          | fail)
      have hszD : w1.heap.size ≤ wr.drew.heap.size := hsz
      have A5 := Lib.hid (KRow.arg rnC_size r5)
      have HR5 := Lib.hid (KRow.keep (KRow.drewN HR.out 1) b5)
      have HE5 := Lib.hid (fun q (h : q < S.length) h' => KRow.keep (KRow.drewN (HE.out q h h') 1) b5)
      have HC5 := Lib.hid (HC.out.drew.trans (b5.mono hszD))
      have hsz5 := Nat.le_trans hszD b5.size
      clear r5 b5 h5 S0 f0 p0 p1 hg
      go_wp2_with (first
        | (go_at_call 16; go_must (refine (refFilter_any (chR N R s).1 k _ w5 A5.out HLE.out).mono ?_; rintro e6 w6 ⟨v6, rfl, r6, b6⟩; obtain ⟨X6, m6, d6, rfl, hm6⟩ := KRow.form r6; have HR6 := Lib.hid (KRow.keep HR5.out b6); have HE6 := Lib.hid (fun q (h : q < S.length) h' => KRow.keep (HE5.out q h h') b6); have HX6 := Lib.hid (show RnRow w6 w1.heap.size (.slice X6 m6 d6) (flW N R k)[j] by rw [QW.out]; exact KRow.mono r6 hsz5); have HC6 := Lib.hid (HC5.out.trans (b6.mono hsz5)); have hsz6 := Nat.le_trans hsz5 b6.size; clear r6 b6 hm6))
        | (at_builtin; go_must (refine wpList_append_sl rfl _ _ rfl rfl rfl rfl rfl HR6.out hsz6 HS40.out ?_; intro v7 w7 r7 b7 k7; have HE7 := Lib.hid (elts_step hS.out (X6, m6, d6) HR6.out hjw HE6.out HX6.out k7); have HR7 := Lib.hid r7; have HC7 := Lib.hid (HC6.out.trans b7); clear r7 b7 k7))
        | fail)
      go_roundw
      case rel => exact ⟨j + 1, _, by omega, by go_num, Lib.hid (by rw [List.length_append, hS.out]; rfl), HR7, HE7, HC7⟩
      case measure => simp [intOf]; omega
    · have HW := Lib.hid (WvRow.arg (show WvRow wr w1.heap.size (.slice UA UN UC) (flW N R k) from ⟨S, HR.out, by rw [flW_len, hS.out]; omega, HE.out⟩))
      clear g0 g1
      go_wp2_with (first
        | (go_at_call 34; go_must (refine (HBB.out _ _ HB.out HW.out).mono ?_; rintro e4 w4 ⟨v1, v2, out, rfl, r1, r2, hcb, hol, b4⟩; obtain ⟨VA, VN, VC, rfl, hVN⟩ := KRow.form r1; obtain ⟨XA, XN, XC, rfl, hXN⟩ := KRow.form r2; clear hVN hXN; have s3 : w.heap.size + 2 ≤ wr.heap.size := Q2.out.lt; have R4 := Lib.hid (KRow.mono r1 s3); have R5 := Lib.hid (KRow.mono r2 s3); have B4 := Lib.hid (HB.out.trans (b4.mono HB.out.size)); have Q4 := Lib.hid (Q2.out.keep b4); have k0 := Q4.out.cell 0; have k1 := Q4.out.cell 1; have z0 := Q4.out.frozen 0; have z1 := Q4.out.frozen 1; have HCB := Lib.hid hcb; have HOL := Lib.hid hol; clear r1 r2 b4 hcb hol)))
      have e0 := (two_set (v0 := .slice VA VN VC) (v1 := .slice XA XN XC) k0 k1).1
      have e1 := (two_set (v0 := .slice VA VN VC) (v1 := .slice XA XN XC) k0 k1).2
      refine bodyPost_ret (v := .tuple #[.agg #[.slice VA VN VC, .slice XA XN XC], .int .i64 0]) (by simp [results, Try.results19, go_sem, e0, e1]) rfl ⟨_, _, _, rfl, KRow.name (KRow.set2 R4.out (Nat.lt_succ_self _) _ _), KRow.arg rnC_size (KRow.set2 R5.out (Nat.lt_succ_self _) _ _), HCB.out, HOL.out, Below.setCell (Below.setCell B4.out (Nat.le_succ _) _) (Nat.le_succ _) _⟩
end Go.Proofs.Ytgihljconpijaaa.Si

namespace Go.Proofs.Ytgihljconpijaaa.Si
open Go Go.RowKit Go.Joins
set_option linter.unusedVariables false
set_option linter.unusedSimpArgs false

theorem NmArg.cells {w : World} {A : Option Addr} {n c : Nat} {l : List ByteArray} (h : NmArg w (.slice A n c) l) : 0 < l.length → ∃ g o, A = some ⟨g, o, none⟩ ∧ g < w.heap.size ∧ ∀ j (hj : j < l.length), w.cell? ⟨g, o + j, none⟩ = some (.string l[j]) := by
  obtain ⟨A', c', e, _, h2⟩ := h.form
  injection e with e1 e2 e3
  subst e1
  exact h2
/-- Both answers of All are one. -/
theorem all_two (N : List ByteArray) (R : List Rn) (k : Int) (vN vR : Value) (w : World) (hN : NmArg w vN N) (hs : szs N) (hR : RnArg w vR R) (hS : Sml N R) : ∃ (E : Int) (N' : List ByteArray) (out : List Rn),
    (∀ w', Below w.heap.size w w' → Calls Try.prog 18 #[.agg #[vN, vR], .int .i64 k] w' fun e w'' => ∃ v1 v2 : Value, e = .returned (.tuple #[.agg #[v1, v2], .int .i64 E]) ∧ NmArg w'' v1 N' ∧ RnArg w'' v2 out ∧ Below w'.heap.size w' w'') ∧
    (∀ w', Below w.heap.size w w' → Calls Try.prog 19 #[.agg #[vN, vR], .int .i64 k] w' fun e w'' => ∃ v1 v2 : Value, e = .returned (.tuple #[.agg #[v1, v2], .int .i64 E]) ∧ NmArg w'' v1 N' ∧ RnArg w'' v2 out ∧ Below w'.heap.size w' w'') ∧
    N'.length ≤ 17 ∧ out.length ≤ 262144 ∧ (ckC N R = 0 → E = 0 ∧ N' = N ∧ (Cb (flW N R k) (Go.Proofs.Ytgihljconpijaaa.lg R) out ∨ out = [])) := by
  have h30 := hS.1
  by_cases hz : ckC N R = 0
  · by_cases hex : ∃ out, Cb (flW N R k) (Go.Proofs.Ytgihljconpijaaa.lg R) out ∧ out.length ≤ 262144
    · obtain ⟨out, hc, hl⟩ := hex
      refine ⟨0, N, out, fun w' hb => ?_, fun w' hb => ?_, hS.2.1, hl, fun _ => ⟨rfl, rfl, Or.inl hc⟩⟩
      · refine (allG_ok N R k vN vR w' (hN.keep hb) hs (hR.keep hb) (by omega) hz).mono ?_
        rintro e w'' ⟨v1, v2, o2, rfl, h1, h2, h3, h4, h5⟩
        have he := Cb_unique h3 hc
        subst he
        exact ⟨v1, v2, rfl, h1, h2, h5⟩
      · refine (refAll_ok N R k vN vR w' (hN.keep hb) hs (hR.keep hb) (by omega) hz).mono ?_
        rintro e w'' ⟨v1, v2, o2, rfl, h1, h2, h3, h4, h5⟩
        have he := Cb_unique h3 hc
        subst he
        exact ⟨v1, v2, rfl, h1, h2, h5⟩
    · refine ⟨0, N, [], fun w' hb => ?_, fun w' hb => ?_, hS.2.1, by simp, fun _ => ⟨rfl, rfl, Or.inr rfl⟩⟩
      · refine (allG_ok N R k vN vR w' (hN.keep hb) hs (hR.keep hb) (by omega) hz).mono ?_
        rintro e w'' ⟨v1, v2, o2, rfl, h1, h2, h3, h4, h5⟩
        exact absurd ⟨o2, h3, h4⟩ hex
      · refine (refAll_ok N R k vN vR w' (hN.keep hb) hs (hR.keep hb) (by omega) hz).mono ?_
        rintro e w'' ⟨v1, v2, o2, rfl, h1, h2, h3, h4, h5⟩
        exact absurd ⟨o2, h3, h4⟩ hex
  · exact ⟨ckC N R, [], [], fun w' hb => allG_no N R k vN vR w' (hN.keep hb) hs (hR.keep hb) (by omega) hz, fun w' hb => refAll_no N R k vN vR w' (hN.keep hb) hs (hR.keep hb) (by omega) hz, by simp, by simp, fun h => absurd h hz⟩

set_option maxRecDepth 100000 in
set_option maxHeartbeats 8000000 in
theorem law_all (N : List ByteArray) (R : List Rn) (k : Int) (vN vR : Value) (w : World) (hN : NmArg w vN N) (hs : szs N) (hR : RnArg w vR R) :
    Calls Try.prog 5 #[.agg #[vN, vR], .int .i64 k] w fun e w' => e = .returned (.bool true) ∧ Below w.heap.size w w' := by
  by_cases hS : Sml N R
  · have HSm := Lib.hid (fun w' (hb : Below w.heap.size w w') => small_any N R true vN vR w' (hN.keep hb) (hR.keep hb) (iff_of_true rfl hS))
    obtain ⟨E, N', out, ha, hr, l1, l2, _⟩ := all_two N R k vN vR w hN hs hR hS
    have HA := Lib.hid ha
    have HRf := Lib.hid hr
    have HSame := Lib.hid (fun V V' W h1 h2 => same_any out V V' W h1 h2 (by omega))
    obtain ⟨A1, c1, rfl, _⟩ := hN.form
    obtain ⟨A2, c2, rfl⟩ := hR.form
    have B0 := Lib.hid (ba w (.cells #[.slice A1 N.length c1, .slice A2 R.length c2] 30))
    have P0 := Lib.hid (RowAt.new w 30 #[.slice A1 N.length c1, .slice A2 R.length c2])
    have g0 := P0.out.cell 0
    have g1 := P0.out.cell 1
    clear hN hR ha hr hS
    go_enter Try.func5, Try.ntmps5
    go_wp2_with (first
      | (go_at_call 17; go_must (refine (HSm.out _ B0.out).mono ?_; rintro e1 w1 ⟨rfl, b1⟩; have B1 := Lib.hid (B0.out.trans (b1.mono B0.out.size)); have P1 := Lib.hid (P0.out.keep b1); clear g0 g1; have g0 := P1.out.cell 0; have g1 := P1.out.cell 1; clear b1))
      | (go_at_call 18; go_must (refine (HA.out _ B1.out).mono ?_; rintro e2 w2 ⟨v1, v2, rfl, n2, r2, b2⟩; obtain ⟨UA, UC, rfl, _⟩ := n2.form; obtain ⟨VA, VC, rfl⟩ := r2.form; have B2 := Lib.hid (B1.out.trans (b2.mono B1.out.size)); have P2 := Lib.hid ((P1.out.keep b2).alloc (.cells #[.slice UA N'.length UC, .slice VA out.length VC] 30)); have X2 := Lib.hid (RowAt.new w2 30 #[.slice UA N'.length UC, .slice VA out.length VC]); have N2 := Lib.hid (n2.keep (ba w2 (.cells #[.slice UA N'.length UC, .slice VA out.length VC] 30))); have R2 := Lib.hid (r2.keep (ba w2 (.cells #[.slice UA N'.length UC, .slice VA out.length VC] 30))); have BT2 := Lib.hid (B2.out.alloc B2.out.size (.cells #[.slice UA N'.length UC, .slice VA out.length VC] 30)); clear g0 g1; have g0 := P2.out.cell 0; have g1 := P2.out.cell 1; have x0 := X2.out.cell 0; have x1 := X2.out.cell 1; clear n2 r2 b2))
      | (go_at_call 19; go_must (refine (HRf.out _ BT2.out).mono ?_; rintro e3 w3 ⟨v3, v4, rfl, n3, r3, b3⟩; obtain ⟨CA, CC, rfl, _⟩ := n3.form; obtain ⟨DA, DC, rfl⟩ := r3.form; have B3 := Lib.hid (BT2.out.trans (b3.mono BT2.out.size)); have X3 := Lib.hid ((X2.out.keep b3).alloc (.cells #[.slice CA N'.length CC, .slice DA out.length DC] 30)); have Y3 := Lib.hid (RowAt.new w3 30 #[.slice CA N'.length CC, .slice DA out.length DC]); have N3 := Lib.hid (n3.keep (ba w3 (.cells #[.slice CA N'.length CC, .slice DA out.length DC] 30))); have R3 := Lib.hid (r3.keep (ba w3 (.cells #[.slice CA N'.length CC, .slice DA out.length DC] 30))); have N23 := Lib.hid ((N2.out.keep b3).keep (ba w3 (.cells #[.slice CA N'.length CC, .slice DA out.length DC] 30))); have R23 := Lib.hid ((R2.out.keep b3).keep (ba w3 (.cells #[.slice CA N'.length CC, .slice DA out.length DC] 30))); have BT3 := Lib.hid (B3.out.alloc B3.out.size (.cells #[.slice CA N'.length CC, .slice DA out.length DC] 30)); clear g0 g1 x0 x1; have x0 := X3.out.cell 0; have x1 := X3.out.cell 1; have y0 := Y3.out.cell 0; have y1 := Y3.out.cell 1; clear n3 r3 b3))
      | (go_at_call 14; go_must (refine (HSame.out _ _ _ R23.out R3.out).mono ?_; rintro e4 w4 ⟨rfl, b4⟩; have B4 := Lib.hid (BT3.out.trans (b4.mono BT3.out.size)); have X4 := Lib.hid (X3.out.keep b4); have Y4 := Lib.hid (Y3.out.keep b4); have N4 := Lib.hid (NmArg.cells (N23.out.keep b4)); have N5 := Lib.hid (NmArg.cells (N3.out.keep b4)); clear x0 x1 y0 y1; clear b4)))
    have x0 := X4.out.cell 0
    have y0 := Y4.out.cell 0
    go_loopw [9] (fun x wr => ∃ (i m : Nat), i ≤ N'.length ∧ x = .int .i64 i ∧ wr = w4.drewN m) (fun x _ => N'.length - (intOf x).toNat)
    case atStart => exact ⟨0, 0, by omega, rfl, rfl⟩
    case round =>
      obtain ⟨i, m, hi, rfl, rfl⟩ := hrel
      by_cases hlt : i < N'.length
      · obtain ⟨gA, o1, rfl, hg1, hc1⟩ := N4.out (by omega)
        obtain ⟨gB, o2, rfl, hg2, hc2⟩ := N5.out (by omega)
        have a0 := hc1 i hlt
        have b0 := hc2 i hlt
        clear hc1 hc2
        generalize N'[i] = s at *
        have q1 : (!(s.toList == s.toList)) = false := by rw [(str_eq rfl).1]; rfl
        have q2 : (s.toList == s.toList) = true := (str_eq rfl).1
        go_wp2
        go_quiet (fail)
        go_wp2
        go_roundw
        case rel => exact ⟨i + 1, m + nq, by omega, by go_num, rfl⟩
        case measure => simp [intOf]; omega
      · go_wp2_with (first
          | (go_at_call 11; go_must (refine (awake_any _).mono ?_; rintro ez wz ⟨rfl, bz⟩; have BZ := Lib.hid ((Go.below_drewN B4.out m).trans (bz.mono (Go.below_drewN B4.out m).size)); clear bz)))
        go_returns
        exact ⟨rfl, BZ.out⟩
  · have HSm := Lib.hid (fun w' (hb : Below w.heap.size w w') => small_any N R false vN vR w' (hN.keep hb) (hR.keep hb) (iff_of_false (by decide) hS))
    obtain ⟨A1, c1, rfl, _⟩ := hN.form
    obtain ⟨A2, c2, rfl⟩ := hR.form
    have B0 := Lib.hid (ba w (.cells #[.slice A1 N.length c1, .slice A2 R.length c2] 30))
    have P0 := Lib.hid (RowAt.new w 30 #[.slice A1 N.length c1, .slice A2 R.length c2])
    have g0 := P0.out.cell 0
    have g1 := P0.out.cell 1
    clear hN hR hS
    go_enter Try.func5, Try.ntmps5
    go_wp2_with (first
      | (go_at_call 17; go_must (refine (HSm.out _ B0.out).mono ?_; rintro e1 w1 ⟨rfl, b1⟩; have B1 := Lib.hid (B0.out.trans (b1.mono B0.out.size)); clear b1))
      | (go_at_call 11; go_must (refine (awake_any _).mono ?_; rintro ez wz ⟨rfl, bz⟩; have BZ := Lib.hid (B1.out.trans (bz.mono B1.out.size)); clear bz)))
    go_returns
    exact ⟨rfl, BZ.out⟩
end Go.Proofs.Ytgihljconpijaaa.Si

namespace Go.Proofs.Ytgihljconpijaaa.Si
open Go Go.RowKit Go.Joins
set_option linter.unusedVariables false
set_option linter.unusedSimpArgs false

theorem heldN14 {w W W' : World} {b c g o : Nat} {x0 x1 x2 x3 x4 : Value} (h : W.cell? ⟨b, 0, none⟩ = some x0 ∧ W.cell? ⟨b, 1, none⟩ = some x1 ∧ W.cell? ⟨c, 0, none⟩ = some x3 ∧ W.cell? ⟨c, 1, none⟩ = some x4 ∧ W.cell? ⟨g, o, none⟩ = some x2 ∧ Below w.heap.size w W ∧ b < W.heap.size ∧ c < W.heap.size ∧ g < W.heap.size) (hb : Below W.heap.size W W') :
    W'.cell? ⟨b, 0, none⟩ = some x0 ∧ W'.cell? ⟨b, 1, none⟩ = some x1 ∧ W'.cell? ⟨c, 0, none⟩ = some x3 ∧ W'.cell? ⟨c, 1, none⟩ = some x4 ∧ W'.cell? ⟨g, o, none⟩ = some x2 ∧ Below w.heap.size w W' ∧ b < W'.heap.size ∧ c < W'.heap.size ∧ g < W'.heap.size := by
  obtain ⟨h0, h1, h2, h3, h4, h5, h6, h7, h8⟩ := h
  have := hb.size
  exact ⟨(hb.cell (p := ⟨b, 0, none⟩) h6).trans h0, (hb.cell (p := ⟨b, 1, none⟩) h6).trans h1, (hb.cell (p := ⟨c, 0, none⟩) h7).trans h2, (hb.cell (p := ⟨c, 1, none⟩) h7).trans h3, (hb.cell (p := ⟨g, o, none⟩) h8).trans h4, h5.trans (hb.mono h5.size), by omega, by omega, by omega⟩

set_option maxRecDepth 100000 in
set_option maxHeartbeats 8000000 in
theorem law_channels (N : List ByteArray) (R : List Rn) (k : Int) (vN vR : Value) (w : World) (hN : NmArg w vN N) (hs : szs N) (hR : RnArg w vR R) :
    Calls Try.prog 10 #[.agg #[vN, vR], .int .i64 k] w fun e w' => e = .returned (.bool true) ∧ Below w.heap.size w w' := by
  have HN := Lib.hid hN
  have HR := Lib.hid hR
  obtain ⟨A1, c1, rfl, _, hA⟩ := hN.form
  have HA := Lib.hid hA
  obtain ⟨A2, c2, rfl⟩ := hR.form
  have B0 := Lib.hid (ba w (.cells #[.slice A1 N.length c1, .slice A2 R.length c2] 30))
  have P0 := Lib.hid (RowAt.new w 30 #[.slice A1 N.length c1, .slice A2 R.length c2])
  have g0 := P0.out.cell 0
  have g1 := P0.out.cell 1
  clear hN hR hA
  by_cases hS : Sml N R
  rotate_left
  · have HSm := Lib.hid (fun w' (hb : Below w.heap.size w w') => small_any N R false _ _ w' (HN.out.keep hb) (HR.out.keep hb) (iff_of_false (by decide) hS))
    clear hS HN HR HA
    go_enter Try.func10, Try.ntmps10
    go_wp2_with (first
      | (go_at_call 17; go_must (refine (HSm.out _ B0.out).mono ?_; rintro e1 w1 ⟨rfl, b1⟩; have B1 := Lib.hid (B0.out.trans (b1.mono B0.out.size)); clear b1))
      | (go_at_call 11; go_must (refine (awake_any _).mono ?_; rintro ez wz ⟨rfl, bz⟩; have BZ := Lib.hid (B1.out.trans (bz.mono B1.out.size)); clear bz)))
    go_returns
    exact ⟨rfl, BZ.out⟩
  have HSm := Lib.hid (fun w' (hb : Below w.heap.size w w') => small_any N R true _ _ w' (HN.out.keep hb) (HR.out.keep hb) (iff_of_true rfl hS))
  have h30 := hS.1
  have h17 := hS.2.1
  have HK := Lib.hid (fun w' (hb : Below w.heap.size w w') => check_any N R _ _ w' (HN.out.keep hb) hs (HR.out.keep hb) (by omega))
  clear hS
  by_cases hz : ckC N R = 0
  rotate_left
  · have hy : (ckC N R == 0) = false := by simpa using hz
    have hy' : (ckC N R != 0) = true := by simpa using hz
    clear hz HN HR HA h30 h17
    generalize ckC N R = r at *
    go_enter Try.func10, Try.ntmps10
    go_wp2_with (first
      | (go_at_call 17; go_must (refine (HSm.out _ B0.out).mono ?_; rintro e1 w1 ⟨rfl, b1⟩; have B1 := Lib.hid (B0.out.trans (b1.mono B0.out.size)); have P1 := Lib.hid (P0.out.keep b1); clear g0 g1; have g0 := P1.out.cell 0; have g1 := P1.out.cell 1; clear b1))
      | (go_at_call 27; go_must (refine (HK.out _ B1.out).mono ?_; rintro e2 w2 ⟨rfl, b2⟩; have B2 := Lib.hid (B1.out.trans (b2.mono B1.out.size)); clear b2))
      | (go_at_call 11; go_must (refine (awake_any _).mono ?_; rintro ez wz ⟨rfl, bz⟩; have BZ := Lib.hid (B2.out.trans (bz.mono B2.out.size)); clear bz)))
    go_returns
    exact ⟨rfl, BZ.out⟩
  by_cases hex : ∃ out, Cb (flW N R k) (Go.Proofs.Ytgihljconpijaaa.lg R) out ∧ out.length ≤ 262144
  rotate_left
  · have HX := Lib.hid hex
    have HAl := Lib.hid (fun w' (hb : Below w.heap.size w w') => allG_ok N R k _ _ w' (HN.out.keep hb) hs (HR.out.keep hb) (by omega) hz)
    rw [hz] at HK
    clear hz HN HR HA h30 h17 hex
    go_enter Try.func10, Try.ntmps10
    go_wp2_with (first
      | (go_at_call 17; go_must (refine (HSm.out _ B0.out).mono ?_; rintro e1 w1 ⟨rfl, b1⟩; have B1 := Lib.hid (B0.out.trans (b1.mono B0.out.size)); have P1 := Lib.hid (P0.out.keep b1); clear g0 g1; have g0 := P1.out.cell 0; have g1 := P1.out.cell 1; clear b1))
      | (go_at_call 27; go_must (refine (HK.out _ B1.out).mono ?_; rintro e2 w2 ⟨rfl, b2⟩; have B2 := Lib.hid (B1.out.trans (b2.mono B1.out.size)); have P2 := Lib.hid (P1.out.keep b2); clear g0 g1; have g0 := P2.out.cell 0; have g1 := P2.out.cell 1; clear b2))
      | (go_at_call 18; go_must (refine (HAl.out _ B2.out).mono ?_; rintro e3 w3 ⟨v1, v2, o2, rfl, h1, h2, h3, h4, h5⟩; exact absurd ⟨o2, h3, h4⟩ HX.out)))
  obtain ⟨out, hc, hl⟩ := hex
  obtain ⟨hok, hch⟩ := fl_channels k hz hc hl
  have HAl := Lib.hid (show ∀ w', Below w.heap.size w w' → Calls Try.prog 18 #[.agg #[.slice A1 N.length c1, .slice A2 R.length c2], .int .i64 k] w' fun e w'' => ∃ v1 v2 : Value, e = .returned (.tuple #[.agg #[v1, v2], .int .i64 0]) ∧ NmArg w'' v1 N ∧ RnArg w'' v2 out ∧ Below w'.heap.size w' w'' by
    intro w' hb
    refine (allG_ok N R k _ _ w' (HN.out.keep hb) hs (HR.out.keep hb) (by omega) hz).mono ?_
    rintro e w'' ⟨v1, v2, o2, rfl, h1, h2, h3, h4, h5⟩
    have he := Cb_unique h3 hc
    subst he
    exact ⟨v1, v2, rfl, h1, h2, h5⟩)
  have HCH := Lib.hid hch
  have HC1 := Lib.hid (fun s w' (hb : Below w.heap.size w w') => channel_any N R _ _ s w' (HN.out.keep hb) hs (HR.out.keep hb) (by omega))
  have HC2 := Lib.hid (fun V U s w' (h1 : NmArg w' V N) (h2 : RnArg w' U out) => channel_any N out V U s w' h1 hs h2 (by omega))
  have HFL := Lib.hid (fun i (hi : i < N.length) => show (flP k (cl (chR N R N[i]).1)).length ≤ 1099511627776 from Nat.le_trans ((fl_one k hz (List.getElem_mem hi)).2.2) (by omega))
  rw [hz] at HK
  clear hz HN HR hc hl hok hch h30
  go_enter Try.func10, Try.ntmps10
  go_wp2_with (first
    | (go_at_call 17; go_must (refine (HSm.out _ B0.out).mono ?_; rintro e1 w1 ⟨rfl, b1⟩; have B1 := Lib.hid (B0.out.trans (b1.mono B0.out.size)); have P1 := Lib.hid (P0.out.keep b1); clear g0 g1; have g0 := P1.out.cell 0; have g1 := P1.out.cell 1; clear b1))
    | (go_at_call 27; go_must (refine (HK.out _ B1.out).mono ?_; rintro e2 w2 ⟨rfl, b2⟩; have B2 := Lib.hid (B1.out.trans (b2.mono B1.out.size)); have P2 := Lib.hid (P1.out.keep b2); clear g0 g1; have g0 := P2.out.cell 0; have g1 := P2.out.cell 1; clear b2))
    | (go_at_call 18; go_must (refine (HAl.out _ B2.out).mono ?_; rintro e3 w3 ⟨v1, v2, rfl, n3, r3, b3⟩; obtain ⟨UA, UC, rfl, _⟩ := n3.form; obtain ⟨VA, VC, rfl⟩ := r3.form; have B3 := Lib.hid (B2.out.trans (b3.mono B2.out.size)); have P3 := Lib.hid ((P2.out.keep b3).alloc (.cells #[.slice UA N.length UC, .slice VA out.length VC] 30)); have X3 := Lib.hid (RowAt.new w3 30 #[.slice UA N.length UC, .slice VA out.length VC]); have N3 := Lib.hid (n3.keep (ba w3 (.cells #[.slice UA N.length UC, .slice VA out.length VC] 30))); have R3 := Lib.hid (r3.keep (ba w3 (.cells #[.slice UA N.length UC, .slice VA out.length VC] 30))); have BT3 := Lib.hid (B3.out.alloc B3.out.size (.cells #[.slice UA N.length UC, .slice VA out.length VC] 30)); clear g0 g1; clear n3 r3 b3)))
  clear B0 P0 B1 P1 B2 P2 B3 HSm HK HAl
  generalize hq : w3.heap.size = q3 at *
  generalize w3.alloc (.cells #[.slice UA N.length UC, .slice VA out.length VC] 30) = W at *
  clear hq
  go_loopw [7] (fun x wr => ∃ (i : Nat), i ≤ N.length ∧ x = .int .i64 i ∧ Hid (Below W.heap.size W wr)) (fun x _ => N.length - (intOf x).toNat)
  case atStart => exact ⟨0, by omega, rfl, Lib.hid (Below.refl _ _)⟩
  case round =>
    obtain ⟨i, hi, rfl, HC⟩ := hrel
    have HB := Lib.hid (BT3.out.trans (HC.out.mono BT3.out.size))
    have P4 := Lib.hid (P3.out.keep HC.out)
    have X4 := Lib.hid (X3.out.keep HC.out)
    have p0 := P4.out.cell 0
    have p1 := P4.out.cell 1
    by_cases hil : i < N.length
    · obtain ⟨g, o, rfl, hg, hcell⟩ := HA.out (by omega)
      have f0 := (HB.out.cell (p := ⟨g, o + i, none⟩) hg).trans (hcell i hil)
      obtain ⟨q1, q2, q3'⟩ := HCH.out i hil
      have hfl := HFL.out i hil
      have C1 := HC1.out N[i]
      have C2 := fun V U w' h1 h2 => HC2.out V U N[i] w' h1 h2
      rw [q2] at C1
      rw [q1] at C2
      clear q1 q2 hcell
      generalize N[i] = s at *
      generalize (chR N R s).1 = Z at *
      generalize hF : flP k (cl Z) = F at *
      have HF := Lib.hid hF
      have HCL := Lib.hid q3'
      have HS := Lib.hid (fun V V' W h1 h2 => same_any F V V' W h1 h2 hfl)
      have CC1 := Lib.hid C1
      have CC2 := Lib.hid C2
      clear hF q3' hfl C1 C2
      go_wp2
      have S0 : (wr.drew).cell? ⟨w.heap.size, 0, none⟩ = some (.slice (some ⟨g, o, none⟩) N.length c1) ∧ (wr.drew).cell? ⟨w.heap.size, 1, none⟩ = some (.slice A2 R.length c2) ∧ (wr.drew).cell? ⟨q3, 0, none⟩ = some (.slice UA N.length UC) ∧ (wr.drew).cell? ⟨q3, 1, none⟩ = some (.slice VA out.length VC) ∧ (wr.drew).cell? ⟨g, o + i, none⟩ = some (.string s) ∧ Below w.heap.size w (wr.drew) ∧ w.heap.size < (wr.drew).heap.size ∧ q3 < (wr.drew).heap.size ∧ g < (wr.drew).heap.size := ⟨P4.out.cell 0, P4.out.cell 1, X4.out.cell 0, X4.out.cell 1, f0, HB.out.drew, P4.out.lt, X4.out.lt, Nat.lt_of_lt_of_le hg HB.out.size⟩
      go_region_held3 (fun w' => w'.cell? ⟨w.heap.size, 0, none⟩ = some (.slice (some ⟨g, o, none⟩) N.length c1) ∧ w'.cell? ⟨w.heap.size, 1, none⟩ = some (.slice A2 R.length c2) ∧ w'.cell? ⟨q3, 0, none⟩ = some (.slice UA N.length UC) ∧ w'.cell? ⟨q3, 1, none⟩ = some (.slice VA out.length VC) ∧ w'.cell? ⟨g, o + i, none⟩ = some (.string s) ∧ Below w.heap.size w w' ∧ w.heap.size < w'.heap.size ∧ q3 < w'.heap.size ∧ g < w'.heap.size) (first | assumption | go_keep)
        (first
          | (go_at_call 28; refine (CC1.out _ (And.left (And.right (And.right (And.right (And.right (And.right (by assumption)))))))).mono ?_; rintro e5 w5 ⟨v5, rfl, r5, b5⟩; obtain ⟨X5, m5, d5, rfl, hm5⟩ := KRow.form r5; clear hm5; have h5 := heldN14 (by assumption) b5)
          | fail)
      have hszD : W.heap.size ≤ wr.drew.heap.size := HC.out.size
      have A5 := Lib.hid (KRow.arg rnC_size r5)
      have HC5 := Lib.hid (HC.out.drew.trans (b5.mono hszD))
      have NM5 := Lib.hid (N3.out.keep HC5.out)
      have RM5 := Lib.hid (R3.out.keep HC5.out)
      have S5 := Lib.hid h5
      clear r5 b5 h5 S0 f0 p0 p1 hszD P4 X4 HB HC
      go_wp2
      have NM6 := Lib.hid (fun w' (hb : Below W.heap.size W w') => N3.out.keep hb)
      have S6 : (w5.drew).cell? ⟨w.heap.size, 0, none⟩ = some (.slice (some ⟨g, o, none⟩) N.length c1) ∧ (w5.drew).cell? ⟨w.heap.size, 1, none⟩ = some (.slice A2 R.length c2) ∧ (w5.drew).cell? ⟨q3, 0, none⟩ = some (.slice UA N.length UC) ∧ (w5.drew).cell? ⟨q3, 1, none⟩ = some (.slice VA out.length VC) ∧ (w5.drew).cell? ⟨g, o + i, none⟩ = some (.string s) ∧ Below W.heap.size W (w5.drew) ∧ w.heap.size < (w5.drew).heap.size ∧ q3 < (w5.drew).heap.size ∧ g < (w5.drew).heap.size := ⟨S5.out.1, S5.out.2.1, S5.out.2.2.1, S5.out.2.2.2.1, S5.out.2.2.2.2.1, HC5.out.drew, S5.out.2.2.2.2.2.2.1, S5.out.2.2.2.2.2.2.2.1, S5.out.2.2.2.2.2.2.2.2⟩
      go_region_held3 (fun w' => w'.cell? ⟨w.heap.size, 0, none⟩ = some (.slice (some ⟨g, o, none⟩) N.length c1) ∧ w'.cell? ⟨w.heap.size, 1, none⟩ = some (.slice A2 R.length c2) ∧ w'.cell? ⟨q3, 0, none⟩ = some (.slice UA N.length UC) ∧ w'.cell? ⟨q3, 1, none⟩ = some (.slice VA out.length VC) ∧ w'.cell? ⟨g, o + i, none⟩ = some (.string s) ∧ Below W.heap.size W w' ∧ w.heap.size < w'.heap.size ∧ q3 < w'.heap.size ∧ g < w'.heap.size) (first | assumption | go_keep)
        (first
          | (go_at_call 28; refine (CC2.out _ _ _ (N3.out.keep (And.left (And.right (And.right (And.right (And.right (And.right (by assumption)))))))) (R3.out.keep (And.left (And.right (And.right (And.right (And.right (And.right (by assumption))))))))).mono ?_; rintro e6 w6 ⟨v6, rfl, r6, b6⟩; obtain ⟨X6, m6, d6, rfl, hm6⟩ := KRow.form r6; clear hm6; have h6 := heldN14 (by assumption) b6)
          | fail)
      have A6 := Lib.hid (KRow.arg rnC_size r6)
      have A56 := Lib.hid (A5.out.keep ((Below.refl _ w5).drew.trans b6))
      have HC6 := Lib.hid (HC5.out.drew.trans (b6.mono HC5.out.size))
      clear r6 b6 h6 S6 S5 HC5 A5 NM5 RM5 NM6
      go_wp2_with (first
        | (go_at_call 24; go_must (refine (clean_any F _ w6 A6.out).mono ?_; rintro e7 w7 ⟨v7, rfl, r7, b7⟩; rw [HCL.out] at r7; have A7 := Lib.hid (KRow.arg rnC_size r7); have A57 := Lib.hid (A56.out.keep b7); have HC7 := Lib.hid (HC6.out.trans (b7.mono HC6.out.size)); clear r7 b7))
        | (go_at_call 15; go_must (refine (filterG_any Z k _ w7 A57.out).mono ?_; rintro e8 w8 ⟨v8, rfl, r8, b8⟩; rw [HF.out] at r8; have A8 := Lib.hid (KRow.arg rnC_size r8); have A78 := Lib.hid (A7.out.keep b8); have HC8 := Lib.hid (HC7.out.trans (b8.mono HC7.out.size)); clear r8 b8))
        | (go_at_call 14; go_must (refine (HS.out _ _ _ A78.out A8.out).mono ?_; rintro e9 w9 ⟨rfl, b9⟩; have HC9 := Lib.hid (HC8.out.trans (b9.mono HC8.out.size)); clear b9))
        | fail)
      go_roundw
      case rel => exact ⟨i + 1, by omega, by go_num, HC9⟩
      case measure => simp [intOf]; omega
    · go_wp2_with (first
        | (go_at_call 11; go_must (refine (awake_any _).mono ?_; rintro ez wz ⟨rfl, bz⟩; have BZ := Lib.hid (HB.out.trans (bz.mono HB.out.size)); clear bz)))
      go_returns
      exact ⟨rfl, BZ.out⟩
end Go.Proofs.Ytgihljconpijaaa.Si
