/-
  The iterator over an event's parts, walked.
-/
import Derived.Test.YtcodoakfomddfaaT18
namespace Go.Proofs.Ytcodoakfomddfaa
open Go Go.RowKit Go.Joins Go.Shelf
set_option linter.unusedVariables false
set_option linter.unusedSimpArgs false

attribute [local go_sem] Oper.semAt_some

/-- These blocks are safe and as they were. -/
def Kx (Sf : World → Nat → Prop) (X : Nat → Prop) (W wr : World) : Prop := ∀ b, X b → Sf wr b ∧ wr.heap[b]? = W.heap[b]?
section
variable {J : List Ev → World → Prop} {Sf : World → Nat → Prop} {X : Nat → Prop} {W wr : World}
theorem Kx.row (h : Kx Sf X W wr) {b : Nat} {T : TypeId} {cs : Array Value} (hx : X b) (hr : RowAt W b T cs) : RowAt wr b T cs := (h b hx).2.trans hr
theorem Kx.drew (H : Rnd J Sf) (h : Kx Sf X W wr) (q : Nat) : Kx Sf X W (wr.drewN q) := fun b hb => ⟨H.sdrew q (h b hb).1, (h b hb).2⟩
theorem Kx.alloc (H : Rnd J Sf) {pre : List Ev} (hj : J pre wr) (h : Kx Sf X W wr) (cs : Array Value) (T : TypeId) : Kx Sf X W (wr.alloc (.cells cs T)) := fun b hb => ⟨H.salloc cs T hj (h b hb).1, (Below.heap_alloc wr _ b (H.lt (h b hb).1)).trans (h b hb).2⟩
theorem Kx.set (H : Rnd J Sf) {pre : List Ev} (hj : J pre wr) (h : Kx Sf X W wr) {R : Nat} (i : Nat) (v : Value) (hR : Sf wr R) (hne : ∀ b, X b → b ≠ R) : Kx Sf X W (wr.setCell ⟨R, i, none⟩ v) := fun b hb => ⟨H.sset R i v hj hR (h b hb).1, (Below.heap_setCell wr ⟨R, i, none⟩ v b (hne b hb)).trans (h b hb).2⟩
theorem Kx.step {W3 : World} (h : Kx Sf X W wr) (hk : ∀ b, Sf wr b → Sf W3 b ∧ W3.heap[b]? = wr.heap[b]?) : Kx Sf X W W3 := fun b hb => ⟨(hk b (h b hb).1).1, (hk b (h b hb).1).2.trans (h b hb).2⟩
end

set_option maxRecDepth 100000 in
set_option maxHeartbeats 8000000 in
theorem pieces1_in (m : Nat) (hm : 1 ≤ m) (l Tb Eb B : Nat) (zs : List Int) (TV : Value) (x0 x1 x2 x3 x4 : Int) (x5 : ByteArray) (x6 : Int) (hn : zs.length ≤ 1099511627776)
    (J : List Ev → World → Prop) (Sf : World → Nat → Prop) (H : Rnd J Sf)
    (hY : ∀ pre f t W, J pre W → pre.length ≤ zs.length → YieldAt Fence.wide (m - 1) Try.prog l #[.agg (evA x0 f t x3 x4 x5 x6)] W fun e W' => e = .returned (.bool true) ∧ J (pre ++ [evP x0 x3 x4 x5 x6 (f, t)]) W' ∧ ∀ b, Sf W b → Sf W' b ∧ W'.heap[b]? = W.heap[b]?)
    (W : World) (hT : RowAt W Tb 35 #[TV]) (hE : RowAt W Eb 48 (evA x0 x1 x2 x3 x4 x5 x6)) (sT : Sf W Tb) (sE : Sf W Eb) (hTV : TkRow W B TV (tks zs)) (sV : ∀ g, TV.ownBlock = some g → Sf W g) (h0 : J [] W) :
    CallsIn Fence.wide m Try.prog 52 #[.func (.yield l) #[] #[], .pointer (some ⟨Tb, 0, none⟩), .pointer (some ⟨Eb, 0, none⟩)] W fun e W' => (∃ v, e = .returned v) ∧ J ((pc zs x1 x2).map (evP x0 x3 x4 x5 x6)) W' ∧ ∀ g, TV.ownBlock = some g → W'.heap[g]? = W.heap[g]? := by
  obtain ⟨TA, TN, TC, rfl, hTN⟩ := hTV.form
  subst hTN
  have hT0 : W.cell? ⟨Tb, 0, none⟩ = some (.slice TA (tks zs).length TC) := hT.cell 0
  obtain ⟨c0, c1, c2, c3, c4, c5, c6, _, _⟩ := hE.seven
  have HE := Lib.hid hE
  have HT := Lib.hid hT
  have HV := Lib.hid hTV
  have hTl := tks_len zs
  have CS := Lib.hid (fun Wq (hw : TkRow Wq B (.slice TA (tks zs).length TC) (tks zs)) => search_any (.slice TA (tks zs).length TC) zs x1 B Wq hw hn)
  have HX : Hid (Kx Sf (fun b => b = Tb ∨ b = Eb ∨ (Value.slice TA (tks zs).length TC).ownBlock = some b) W W) := Lib.hid (fun b hb => ⟨by rcases hb with rfl | rfl | hb <;> first | exact sT | exact sE | exact sV b hb, rfl⟩)
  clear hT hE hTV
  refine callsIn_of_wp Try.func52 rfl trivial ?_ rfl
  simp only [Try.ntmps52, List.size_toArray, List.length_cons, List.length_nil, Nat.reduceAdd, Nat.reduceSub, Array.replicate_succ, Array.replicate_zero, List.push_toArray, List.append_toArray, List.nil_append, List.cons_append]
  have HJ0 := Lib.hid h0
  clear h0 sT sE
  gi_wp2_with (refine ⟨trivial, ?_⟩; gi_at_call 53; go_must (refine (callsIn_wide.2 (CS.out _ HV.out)).mono ?_; rintro e Wd ⟨k, fb, q, rfl, hWd, hf1, hf0, hk0⟩; have HJd : Hid (J [] Wd) := Lib.hid (by rw [hWd]; exact H.drew q HJ0.out); have HXd : Hid (Kx Sf (fun b => b = Tb ∨ b = Eb ∨ (Value.slice TA (tks zs).length TC).ownBlock = some b) W Wd) := Lib.hid (by rw [hWd]; exact HX.out.drew H q); clear hWd; obtain ⟨d0, d1, d2, d3, d4, d5, d6, _, _⟩ := (HXd.out.row (Or.inr (Or.inl rfl)) HE.out).seven; have hTd : Wd.cell? ⟨Tb, 0, none⟩ = some (.slice TA (tks zs).length TC) := (HXd.out.row (Or.inl rfl) HT.out).cell 0; have HK := Lib.hid (And.intro hf1 (And.intro hf0 hk0)); clear hf1 hf0 hk0 c0 c1 c2 c3 c4 c5 c6 hT0))
  ·
    have hfb : fb = true := by assumption
    obtain ⟨hk1, hb1⟩ := HK.out.1 hfb
    have e1 : wrap64 ((k : Int) + 1) = ((k + 1 : Nat) : Int) := (IntWalk.wrap64_in _ (by omega)).trans (by omega)
    have HB := Lib.hid hb1
    rw [e1]
    clear hb1 HK e1
    subst hfb
    generalize k + 1 = k at *
    gi_loopw [4] (fun i wr => ∃ (k : Nat) (f : Int) (pre : List Ev), i = .int .i64 k ∧ k ≤ (tks zs).length ∧ pre.length ≤ k ∧ Hid (bhd (tks zs) f k) ∧ Hid (J pre wr) ∧ Hid (Kx Sf (fun b => b = Tb ∨ b = Eb ∨ (Value.slice TA (tks zs).length TC).ownBlock = some b) W wr) ∧ Hid (Sf wr Wd.heap.size ∧ RowAt wr Wd.heap.size 48 (evA x0 f x2 x3 x4 x5 x6)) ∧ Hid ((pc zs x1 x2).map (evP x0 x3 x4 x5 x6) = pre ++ (pc zs f x2).map (evP x0 x3 x4 x5 x6))) (fun i _ => (tks zs).length - (intOf i).toNat)
    case atStart => exact ⟨k, x1, [], rfl, hk1, Nat.zero_le _, HB, Lib.hid (H.alloc _ _ HJd.out), Lib.hid (HXd.out.alloc H HJd.out _ _), Lib.hid ⟨H.new _ _ HJd.out, RowAt.new _ _ _⟩, Lib.hid rfl⟩
    case round =>
      clear HB hk1 d0 d1 d2 d3 d4 d5 d6 hTd
      obtain ⟨k, f, pre, rfl, hk, hpl, HB, HJ, HXr, HR, HP⟩ := hrel
      have hTr : wr.cell? ⟨Tb, 0, none⟩ = some (.slice TA (tks zs).length TC) := (HXr.out.row (Or.inl rfl) HT.out).cell 0
      obtain ⟨_, _, e2, _, _, _, _, _, _⟩ := (HXr.out.row (Or.inr (Or.inl rfl)) HE.out).seven
      obtain ⟨r0, r1, r2, r3, r4, r5, r6, z1, z2⟩ := HR.out.2.seven
      by_cases hkl : k < (tks zs).length
      · obtain ⟨gT, cT, eT⟩ := HV.out.full (by omega)
        obtain ⟨rfl, _⟩ : TA = some ⟨gT, 0, none⟩ ∧ True := by simp only [Value.slice.injEq] at eT; exact ⟨eT.1, trivial⟩
        clear eT
        have hG : wr.cell? ⟨gT, k, none⟩ = some (.int .i64 (tks zs)[k]) := by
          have := (krow_to HV.out fun q e => (HXr.out q (Or.inr (Or.inr e))).2).cell tkC_size k hkl 0 (by omega)
          rw [Nat.mul_one, Nat.add_zero] at this
          exact this
        have HN := Lib.hid (bhd_next (tks_asc zs) hkl)
        by_cases hc : (tks zs)[k] < x2
        · have hn1 := nx_yes HB.out hkl hc
          have HP2 : Hid ((pc zs x1 x2).map (evP x0 x3 x4 x5 x6) = (pre ++ [evP x0 x3 x4 x5 x6 (f, (tks zs)[k])]) ++ (pc zs (tks zs)[k] x2).map (evP x0 x3 x4 x5 x6)) := Lib.hid (by rw [HP.out, pc_yes hn1.2, hn1.1, List.map_cons, List.append_assoc]; rfl)
          generalize (tks zs)[k] = c at *
          clear HP hn1 HB
          have hk2 : decide ((k : Int) < ((tks zs).length : Int)) = true := decide_eq_true (by omega)
          have hc2 : decide (c < x2) = true := decide_eq_true hc
          gi_wp2
          refine wpIn_wide.2 ?_
          go_quiet (fail)
          have hGq : (wr.drewN nq).cell? ⟨gT, k, none⟩ = some (.int .i64 c) := hG
          have HJ1 := Lib.hid (H.drew nq HJ.out)
          have HX1 := Lib.hid (HXr.out.drew H nq)
          have HR1 := Lib.hid (And.intro (H.sdrew nq HR.out.1) (show RowAt (wr.drewN nq) Wd.heap.size _ _ from HR.out.2))
          have hTq : (wr.drewN nq).cell? ⟨Tb, 0, none⟩ = some _ := hTr
          have hr0 : (wr.drewN nq).cell? ⟨Wd.heap.size, 0, none⟩ = some (.int .i64 x0) := r0
          have hr1 : (wr.drewN nq).cell? ⟨Wd.heap.size, 1, none⟩ = some (.int .i64 f) := r1
          have hr2 : (wr.drewN nq).cell? ⟨Wd.heap.size, 2, none⟩ = some (.int .i64 x2) := r2
          have hr3 : (wr.drewN nq).cell? ⟨Wd.heap.size, 3, none⟩ = some (.int .i64 x3) := r3
          have hr4 : (wr.drewN nq).cell? ⟨Wd.heap.size, 4, none⟩ = some (.int .i64 x4) := r4
          have hr5 : (wr.drewN nq).cell? ⟨Wd.heap.size, 5, none⟩ = some (.string x5) := r5
          have hr6 : (wr.drewN nq).cell? ⟨Wd.heap.size, 6, none⟩ = some (.int .i64 x6) := r6
          clear hG hTr e2 r0 r1 r2 r3 r4 r5 r6 z1 z2 HJ HXr HR
          generalize wr.drewN nq = W1 at *
          have HX2 := Lib.hid (HX1.out.alloc H HJ1.out (evA x0 f c x3 x4 x5 x6) 48)
          have HR2 := Lib.hid (And.intro (H.salloc (evA x0 f c x3 x4 x5 x6) 48 HJ1.out HR1.out.1) (HR1.out.2.alloc (.cells (evA x0 f c x3 x4 x5 x6) 48)))
          have hTa : (W1.alloc (.cells (evA x0 f x2 x3 x4 x5 x6) 48)).cell? ⟨Tb, 0, none⟩ = some (.slice (some ⟨gT, 0, none⟩) (tks zs).length TC) := (((HX1.out.row (Or.inl rfl) HT.out)).alloc _).cell 0
          have hGa : (W1.alloc (.cells (evA x0 f x2 x3 x4 x5 x6) 48)).cell? ⟨gT, k, none⟩ = some (.int .i64 c) := (World.cell?_of_block (Below.heap_alloc W1 _ gT (H.lt (HX1.out gT (Or.inr (Or.inr rfl))).1))).trans hGq
          obtain ⟨fn, tmps, assign, body, hy, hRd⟩ := hY pre f c _ (H.alloc (evA x0 f c x3 x4 x5 x6) 48 HJ1.out) (by omega)
          dsimp only [evA] at hy hRd hTa hGa
          gi_wp2
          refine hRd.mono ?_
          rintro e W3 ⟨rfl, hJ3, hk3⟩
          have HX3 := Lib.hid (HX2.out.step hk3)
          have HR3 := Lib.hid (And.intro (hk3 _ HR2.out.1).1 (show RowAt W3 Wd.heap.size 48 (evA x0 f x2 x3 x4 x5 x6) from (hk3 _ HR2.out.1).2.trans HR2.out.2))
          have HJ3 := Lib.hid hJ3
          have hT3 : W3.cell? ⟨Tb, 0, none⟩ = some (.slice (some ⟨gT, 0, none⟩) (tks zs).length TC) := ((HX3.out.row (Or.inl rfl) HT.out)).cell 0
          have hG3 : W3.cell? ⟨gT, k, none⟩ = some (.int .i64 c) := by
            have e3 : W3.heap[gT]? = W1.heap[gT]? := (HX3.out gT (Or.inr (Or.inr rfl))).2.trans (HX1.out gT (Or.inr (Or.inr rfl))).2.symm
            exact (World.cell?_of_block e3).trans hGq
          have hr1b : W3.cell? ⟨Wd.heap.size, 1, none⟩ = some (.int .i64 f) := HR3.out.2.cell 1
          have hz1 := HR3.out.2.frozen 1
          clear hTa hGa hy hRd hk3 hJ3 hTq hGq hr0 hr1 hr2 hr3 hr4 hr5 hr6
          gi_wp2
          go_roundw
          case rel => exact ⟨k + 1, c, pre ++ [evP x0 x3 x4 x5 x6 (f, c)], val_int (by omega), by omega, by rw [List.length_append]; simp only [List.length_cons, List.length_nil]; omega, HN, Lib.hid (H.set Wd.heap.size 1 _ _ _ HJ3.out HR3.out.1 HR3.out.2), Lib.hid (HX3.out.set H HJ3.out 1 _ HR3.out.1 (fun b hb e => by have := H.lt (HXd.out b hb).1; omega)), Lib.hid ⟨H.sset Wd.heap.size 1 _ HJ3.out HR3.out.1 HR3.out.1, HR3.out.2.set 1 (.int .i64 c)⟩, HP2⟩
          case measure => simp [intOf]; omega
        · have HF : Hid ((pc zs x1 x2).map (evP x0 x3 x4 x5 x6) = pre ++ [evP x0 x3 x4 x5 x6 (f, x2)]) := Lib.hid (by rw [HP.out, pc_no (nx_no HB.out fun _ => hc)]; rfl)
          generalize (tks zs)[k] = c at *
          clear HP HB HN
          have hk2 : decide ((k : Int) < ((tks zs).length : Int)) = true := decide_eq_true (by omega)
          have hc2 : decide (c < x2) = false := decide_eq_false hc
          gi_wp2
          refine wpIn_wide.2 ?_
          go_quiet (fail)
          have HJ1 := Lib.hid (H.drew nq HJ.out)
          have HX1 := Lib.hid (HXr.out.drew H nq)
          have HR1 := Lib.hid (And.intro (H.sdrew nq HR.out.1) (show RowAt (wr.drewN nq) Wd.heap.size _ _ from HR.out.2))
          have hTq : (wr.drewN nq).cell? ⟨Tb, 0, none⟩ = some _ := hTr
          have hr0 : (wr.drewN nq).cell? ⟨Wd.heap.size, 0, none⟩ = some (.int .i64 x0) := r0
          have hr1 : (wr.drewN nq).cell? ⟨Wd.heap.size, 1, none⟩ = some (.int .i64 f) := r1
          have hr2 : (wr.drewN nq).cell? ⟨Wd.heap.size, 2, none⟩ = some (.int .i64 x2) := r2
          have hr3 : (wr.drewN nq).cell? ⟨Wd.heap.size, 3, none⟩ = some (.int .i64 x3) := r3
          have hr4 : (wr.drewN nq).cell? ⟨Wd.heap.size, 4, none⟩ = some (.int .i64 x4) := r4
          have hr5 : (wr.drewN nq).cell? ⟨Wd.heap.size, 5, none⟩ = some (.string x5) := r5
          have hr6 : (wr.drewN nq).cell? ⟨Wd.heap.size, 6, none⟩ = some (.int .i64 x6) := r6
          clear hTr r0 r1 r2 r3 r4 r5 r6 z1 z2 HJ HXr HR hTq
          generalize wr.drewN nq = W1 at *
          obtain ⟨fn, tmps, assign, body, hy, hRd⟩ := hY pre f x2 W1 HJ1.out (by omega)
          dsimp only [evA] at hy
          gi_wp2
          refine hRd.mono ?_
          rintro e W3 ⟨rfl, hJ3, hk3⟩
          gi_wp2
          go_end0
          exact ⟨⟨_, rfl⟩, by rw [HF.out]; exact hJ3, fun q e => ((HX1.out.step hk3) q (Or.inr (Or.inr e))).2⟩
      · have HF : Hid ((pc zs x1 x2).map (evP x0 x3 x4 x5 x6) = pre ++ [evP x0 x3 x4 x5 x6 (f, x2)]) := Lib.hid (by rw [HP.out, pc_no (nx_no HB.out fun hi => absurd hi hkl)]; rfl)
        clear HP HB
        have hk2 : decide ((k : Int) < ((tks zs).length : Int)) = false := decide_eq_false (by omega)
        gi_wp2
        refine wpIn_wide.2 ?_
        go_quiet (fail)
        have HJ1 := Lib.hid (H.drew nq HJ.out)
        have HX1 := Lib.hid (HXr.out.drew H nq)
        have HR1 := Lib.hid (And.intro (H.sdrew nq HR.out.1) (show RowAt (wr.drewN nq) Wd.heap.size _ _ from HR.out.2))
        have hTq : (wr.drewN nq).cell? ⟨Tb, 0, none⟩ = some _ := hTr
        have hr0 : (wr.drewN nq).cell? ⟨Wd.heap.size, 0, none⟩ = some (.int .i64 x0) := r0
        have hr1 : (wr.drewN nq).cell? ⟨Wd.heap.size, 1, none⟩ = some (.int .i64 f) := r1
        have hr2 : (wr.drewN nq).cell? ⟨Wd.heap.size, 2, none⟩ = some (.int .i64 x2) := r2
        have hr3 : (wr.drewN nq).cell? ⟨Wd.heap.size, 3, none⟩ = some (.int .i64 x3) := r3
        have hr4 : (wr.drewN nq).cell? ⟨Wd.heap.size, 4, none⟩ = some (.int .i64 x4) := r4
        have hr5 : (wr.drewN nq).cell? ⟨Wd.heap.size, 5, none⟩ = some (.string x5) := r5
        have hr6 : (wr.drewN nq).cell? ⟨Wd.heap.size, 6, none⟩ = some (.int .i64 x6) := r6
        clear hTr r0 r1 r2 r3 r4 r5 r6 z1 z2 HJ HXr HR hTq
        generalize wr.drewN nq = W1 at *
        obtain ⟨fn, tmps, assign, body, hy, hRd⟩ := hY pre f x2 W1 HJ1.out (by omega)
        dsimp only [evA] at hy
        gi_wp2
        refine hRd.mono ?_
        rintro e W3 ⟨rfl, hJ3, hk3⟩
        gi_wp2
        go_end0
        exact ⟨⟨_, rfl⟩, by rw [HF.out]; exact hJ3, fun q e => ((HX1.out.step hk3) q (Or.inr (Or.inr e))).2⟩
  ·
    have hfb : fb = false := by assumption
    obtain ⟨_, hb1, hk1⟩ := HK.out
    have HB := Lib.hid (hb1 hfb)
    clear hb1 HK
    subst hfb
    gi_loopw [4] (fun i wr => ∃ (k : Nat) (f : Int) (pre : List Ev), i = .int .i64 k ∧ k ≤ (tks zs).length ∧ pre.length ≤ k ∧ Hid (bhd (tks zs) f k) ∧ Hid (J pre wr) ∧ Hid (Kx Sf (fun b => b = Tb ∨ b = Eb ∨ (Value.slice TA (tks zs).length TC).ownBlock = some b) W wr) ∧ Hid (Sf wr Wd.heap.size ∧ RowAt wr Wd.heap.size 48 (evA x0 f x2 x3 x4 x5 x6)) ∧ Hid ((pc zs x1 x2).map (evP x0 x3 x4 x5 x6) = pre ++ (pc zs f x2).map (evP x0 x3 x4 x5 x6))) (fun i _ => (tks zs).length - (intOf i).toNat)
    case atStart => exact ⟨k, x1, [], rfl, hk1, Nat.zero_le _, HB, Lib.hid (H.alloc _ _ HJd.out), Lib.hid (HXd.out.alloc H HJd.out _ _), Lib.hid ⟨H.new _ _ HJd.out, RowAt.new _ _ _⟩, Lib.hid rfl⟩
    case round =>
      clear HB hk1 d0 d1 d2 d3 d4 d5 d6 hTd
      obtain ⟨k, f, pre, rfl, hk, hpl, HB, HJ, HXr, HR, HP⟩ := hrel
      have hTr : wr.cell? ⟨Tb, 0, none⟩ = some (.slice TA (tks zs).length TC) := (HXr.out.row (Or.inl rfl) HT.out).cell 0
      obtain ⟨_, _, e2, _, _, _, _, _, _⟩ := (HXr.out.row (Or.inr (Or.inl rfl)) HE.out).seven
      obtain ⟨r0, r1, r2, r3, r4, r5, r6, z1, z2⟩ := HR.out.2.seven
      by_cases hkl : k < (tks zs).length
      · obtain ⟨gT, cT, eT⟩ := HV.out.full (by omega)
        obtain ⟨rfl, _⟩ : TA = some ⟨gT, 0, none⟩ ∧ True := by simp only [Value.slice.injEq] at eT; exact ⟨eT.1, trivial⟩
        clear eT
        have hG : wr.cell? ⟨gT, k, none⟩ = some (.int .i64 (tks zs)[k]) := by
          have := (krow_to HV.out fun q e => (HXr.out q (Or.inr (Or.inr e))).2).cell tkC_size k hkl 0 (by omega)
          rw [Nat.mul_one, Nat.add_zero] at this
          exact this
        have HN := Lib.hid (bhd_next (tks_asc zs) hkl)
        by_cases hc : (tks zs)[k] < x2
        · have hn1 := nx_yes HB.out hkl hc
          have HP2 : Hid ((pc zs x1 x2).map (evP x0 x3 x4 x5 x6) = (pre ++ [evP x0 x3 x4 x5 x6 (f, (tks zs)[k])]) ++ (pc zs (tks zs)[k] x2).map (evP x0 x3 x4 x5 x6)) := Lib.hid (by rw [HP.out, pc_yes hn1.2, hn1.1, List.map_cons, List.append_assoc]; rfl)
          generalize (tks zs)[k] = c at *
          clear HP hn1 HB
          have hk2 : decide ((k : Int) < ((tks zs).length : Int)) = true := decide_eq_true (by omega)
          have hc2 : decide (c < x2) = true := decide_eq_true hc
          gi_wp2
          refine wpIn_wide.2 ?_
          go_quiet (fail)
          have hGq : (wr.drewN nq).cell? ⟨gT, k, none⟩ = some (.int .i64 c) := hG
          have HJ1 := Lib.hid (H.drew nq HJ.out)
          have HX1 := Lib.hid (HXr.out.drew H nq)
          have HR1 := Lib.hid (And.intro (H.sdrew nq HR.out.1) (show RowAt (wr.drewN nq) Wd.heap.size _ _ from HR.out.2))
          have hTq : (wr.drewN nq).cell? ⟨Tb, 0, none⟩ = some _ := hTr
          have hr0 : (wr.drewN nq).cell? ⟨Wd.heap.size, 0, none⟩ = some (.int .i64 x0) := r0
          have hr1 : (wr.drewN nq).cell? ⟨Wd.heap.size, 1, none⟩ = some (.int .i64 f) := r1
          have hr2 : (wr.drewN nq).cell? ⟨Wd.heap.size, 2, none⟩ = some (.int .i64 x2) := r2
          have hr3 : (wr.drewN nq).cell? ⟨Wd.heap.size, 3, none⟩ = some (.int .i64 x3) := r3
          have hr4 : (wr.drewN nq).cell? ⟨Wd.heap.size, 4, none⟩ = some (.int .i64 x4) := r4
          have hr5 : (wr.drewN nq).cell? ⟨Wd.heap.size, 5, none⟩ = some (.string x5) := r5
          have hr6 : (wr.drewN nq).cell? ⟨Wd.heap.size, 6, none⟩ = some (.int .i64 x6) := r6
          clear hG hTr e2 r0 r1 r2 r3 r4 r5 r6 z1 z2 HJ HXr HR
          generalize wr.drewN nq = W1 at *
          have HX2 := Lib.hid (HX1.out.alloc H HJ1.out (evA x0 f c x3 x4 x5 x6) 48)
          have HR2 := Lib.hid (And.intro (H.salloc (evA x0 f c x3 x4 x5 x6) 48 HJ1.out HR1.out.1) (HR1.out.2.alloc (.cells (evA x0 f c x3 x4 x5 x6) 48)))
          have hTa : (W1.alloc (.cells (evA x0 f x2 x3 x4 x5 x6) 48)).cell? ⟨Tb, 0, none⟩ = some (.slice (some ⟨gT, 0, none⟩) (tks zs).length TC) := (((HX1.out.row (Or.inl rfl) HT.out)).alloc _).cell 0
          have hGa : (W1.alloc (.cells (evA x0 f x2 x3 x4 x5 x6) 48)).cell? ⟨gT, k, none⟩ = some (.int .i64 c) := (World.cell?_of_block (Below.heap_alloc W1 _ gT (H.lt (HX1.out gT (Or.inr (Or.inr rfl))).1))).trans hGq
          obtain ⟨fn, tmps, assign, body, hy, hRd⟩ := hY pre f c _ (H.alloc (evA x0 f c x3 x4 x5 x6) 48 HJ1.out) (by omega)
          dsimp only [evA] at hy hRd hTa hGa
          gi_wp2
          refine hRd.mono ?_
          rintro e W3 ⟨rfl, hJ3, hk3⟩
          have HX3 := Lib.hid (HX2.out.step hk3)
          have HR3 := Lib.hid (And.intro (hk3 _ HR2.out.1).1 (show RowAt W3 Wd.heap.size 48 (evA x0 f x2 x3 x4 x5 x6) from (hk3 _ HR2.out.1).2.trans HR2.out.2))
          have HJ3 := Lib.hid hJ3
          have hT3 : W3.cell? ⟨Tb, 0, none⟩ = some (.slice (some ⟨gT, 0, none⟩) (tks zs).length TC) := ((HX3.out.row (Or.inl rfl) HT.out)).cell 0
          have hG3 : W3.cell? ⟨gT, k, none⟩ = some (.int .i64 c) := by
            have e3 : W3.heap[gT]? = W1.heap[gT]? := (HX3.out gT (Or.inr (Or.inr rfl))).2.trans (HX1.out gT (Or.inr (Or.inr rfl))).2.symm
            exact (World.cell?_of_block e3).trans hGq
          have hr1b : W3.cell? ⟨Wd.heap.size, 1, none⟩ = some (.int .i64 f) := HR3.out.2.cell 1
          have hz1 := HR3.out.2.frozen 1
          clear hTa hGa hy hRd hk3 hJ3 hTq hGq hr0 hr1 hr2 hr3 hr4 hr5 hr6
          gi_wp2
          go_roundw
          case rel => exact ⟨k + 1, c, pre ++ [evP x0 x3 x4 x5 x6 (f, c)], val_int (by omega), by omega, by rw [List.length_append]; simp only [List.length_cons, List.length_nil]; omega, HN, Lib.hid (H.set Wd.heap.size 1 _ _ _ HJ3.out HR3.out.1 HR3.out.2), Lib.hid (HX3.out.set H HJ3.out 1 _ HR3.out.1 (fun b hb e => by have := H.lt (HXd.out b hb).1; omega)), Lib.hid ⟨H.sset Wd.heap.size 1 _ HJ3.out HR3.out.1 HR3.out.1, HR3.out.2.set 1 (.int .i64 c)⟩, HP2⟩
          case measure => simp [intOf]; omega
        · have HF : Hid ((pc zs x1 x2).map (evP x0 x3 x4 x5 x6) = pre ++ [evP x0 x3 x4 x5 x6 (f, x2)]) := Lib.hid (by rw [HP.out, pc_no (nx_no HB.out fun _ => hc)]; rfl)
          generalize (tks zs)[k] = c at *
          clear HP HB HN
          have hk2 : decide ((k : Int) < ((tks zs).length : Int)) = true := decide_eq_true (by omega)
          have hc2 : decide (c < x2) = false := decide_eq_false hc
          gi_wp2
          refine wpIn_wide.2 ?_
          go_quiet (fail)
          have HJ1 := Lib.hid (H.drew nq HJ.out)
          have HX1 := Lib.hid (HXr.out.drew H nq)
          have HR1 := Lib.hid (And.intro (H.sdrew nq HR.out.1) (show RowAt (wr.drewN nq) Wd.heap.size _ _ from HR.out.2))
          have hTq : (wr.drewN nq).cell? ⟨Tb, 0, none⟩ = some _ := hTr
          have hr0 : (wr.drewN nq).cell? ⟨Wd.heap.size, 0, none⟩ = some (.int .i64 x0) := r0
          have hr1 : (wr.drewN nq).cell? ⟨Wd.heap.size, 1, none⟩ = some (.int .i64 f) := r1
          have hr2 : (wr.drewN nq).cell? ⟨Wd.heap.size, 2, none⟩ = some (.int .i64 x2) := r2
          have hr3 : (wr.drewN nq).cell? ⟨Wd.heap.size, 3, none⟩ = some (.int .i64 x3) := r3
          have hr4 : (wr.drewN nq).cell? ⟨Wd.heap.size, 4, none⟩ = some (.int .i64 x4) := r4
          have hr5 : (wr.drewN nq).cell? ⟨Wd.heap.size, 5, none⟩ = some (.string x5) := r5
          have hr6 : (wr.drewN nq).cell? ⟨Wd.heap.size, 6, none⟩ = some (.int .i64 x6) := r6
          clear hTr r0 r1 r2 r3 r4 r5 r6 z1 z2 HJ HXr HR hTq
          generalize wr.drewN nq = W1 at *
          obtain ⟨fn, tmps, assign, body, hy, hRd⟩ := hY pre f x2 W1 HJ1.out (by omega)
          dsimp only [evA] at hy
          gi_wp2
          refine hRd.mono ?_
          rintro e W3 ⟨rfl, hJ3, hk3⟩
          gi_wp2
          go_end0
          exact ⟨⟨_, rfl⟩, by rw [HF.out]; exact hJ3, fun q e => ((HX1.out.step hk3) q (Or.inr (Or.inr e))).2⟩
      · have HF : Hid ((pc zs x1 x2).map (evP x0 x3 x4 x5 x6) = pre ++ [evP x0 x3 x4 x5 x6 (f, x2)]) := Lib.hid (by rw [HP.out, pc_no (nx_no HB.out fun hi => absurd hi hkl)]; rfl)
        clear HP HB
        have hk2 : decide ((k : Int) < ((tks zs).length : Int)) = false := decide_eq_false (by omega)
        gi_wp2
        refine wpIn_wide.2 ?_
        go_quiet (fail)
        have HJ1 := Lib.hid (H.drew nq HJ.out)
        have HX1 := Lib.hid (HXr.out.drew H nq)
        have HR1 := Lib.hid (And.intro (H.sdrew nq HR.out.1) (show RowAt (wr.drewN nq) Wd.heap.size _ _ from HR.out.2))
        have hTq : (wr.drewN nq).cell? ⟨Tb, 0, none⟩ = some _ := hTr
        have hr0 : (wr.drewN nq).cell? ⟨Wd.heap.size, 0, none⟩ = some (.int .i64 x0) := r0
        have hr1 : (wr.drewN nq).cell? ⟨Wd.heap.size, 1, none⟩ = some (.int .i64 f) := r1
        have hr2 : (wr.drewN nq).cell? ⟨Wd.heap.size, 2, none⟩ = some (.int .i64 x2) := r2
        have hr3 : (wr.drewN nq).cell? ⟨Wd.heap.size, 3, none⟩ = some (.int .i64 x3) := r3
        have hr4 : (wr.drewN nq).cell? ⟨Wd.heap.size, 4, none⟩ = some (.int .i64 x4) := r4
        have hr5 : (wr.drewN nq).cell? ⟨Wd.heap.size, 5, none⟩ = some (.string x5) := r5
        have hr6 : (wr.drewN nq).cell? ⟨Wd.heap.size, 6, none⟩ = some (.int .i64 x6) := r6
        clear hTr r0 r1 r2 r3 r4 r5 r6 z1 z2 HJ HXr HR hTq
        generalize wr.drewN nq = W1 at *
        obtain ⟨fn, tmps, assign, body, hy, hRd⟩ := hY pre f x2 W1 HJ1.out (by omega)
        dsimp only [evA] at hy
        gi_wp2
        refine hRd.mono ?_
        rintro e W3 ⟨rfl, hJ3, hk3⟩
        gi_wp2
        go_end0
        exact ⟨⟨_, rfl⟩, by rw [HF.out]; exact hJ3, fun q e => ((HX1.out.step hk3) q (Or.inr (Or.inr e))).2⟩

end Go.Proofs.Ytcodoakfomddfaa
