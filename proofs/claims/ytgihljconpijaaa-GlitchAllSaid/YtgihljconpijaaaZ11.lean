/-
  The specification's together.
  The specification's Build.
  Filter.
-/
import Derived.Test.YtgihljconpijaaaZ10
import Derived.Test.YtgihljconpijaaaZ04
import Derived.Deep.LoopGhost
namespace Go.Proofs.Ytgihljconpijaaa
namespace Si
open Go Go.RowKit Go.Joins
set_option linter.unusedVariables false
set_option linter.unusedSimpArgs false

def inC (x : Int) : Array Value := #[.int .i64 x]
theorem inC_size (x : Int) : (inC x).size = 1 := rfl
theorem inC_one (x : Int) : (inC x).toList.all (·.oneCell') = true := rfl
abbrev InRow (w : World) (B : Nat) (v : Value) (l : List Int) : Prop := KRow inC 1 3 w B v l
theorem int_info : (Try.prog.info? 3).map (fun i => (i.zero, i.size, i.bytes)) = some (some (.int .i64 0), 1, 8) := by kernel_rfl
theorem InRow.set {w : World} {B g n c : Nat} {l : List Int} (h : InRow w B (.slice (some ⟨g, 0, none⟩) n c) l) (j : Nat) (hj : j < l.length) (x : Int) :
    InRow (w.setCell ⟨g, j, none⟩ (.int .i64 x)) B (.slice (some ⟨g, 0, none⟩) n c) (l.set j x) := by
  have := KRow.cellSet inC_size h j 0 hj (by omega) (.int .i64 x) x rfl
  rwa [Nat.mul_one, Nat.add_zero] at this
theorem InRow.one {w : World} {B g n c : Nat} {l : List Int} (h : InRow w B (.slice (some ⟨g, 0, none⟩) n c) l) (j : Nat) (hj : j < l.length) : w.cell? ⟨g, j, none⟩ = some (.int .i64 l[j]) ∧ w.frozen? ⟨g, j, none⟩ = false := by
  have := h.cell inC_size j hj 0 (by omega)
  rw [Nat.mul_one, Nat.add_zero] at this
  exact ⟨this, h.frozen _⟩
/-- A row at one address, behind a store into another block. -/
theorem _root_.Go.Proofs.Ytgihljconpijaaa.KRow.apart {α : Type} {enc : α → Array Value} {k : Nat} {T : TypeId} {w : World} {B g n c : Nat} {l : List α} (h : KRow enc k T w B (.slice (some ⟨g, 0, none⟩) n c) l) (a : Addr) (v : Value) (hg : g ≠ a.block) : KRow enc k T (w.setCell a v) B (.slice (some ⟨g, 0, none⟩) n c) l := by
  refine ⟨h.1, h.2.imp id fun ⟨g', cap, cur, e, h1, h2, h3⟩ => ⟨g', cap, cur, e, h1, ?_, h3⟩⟩
  simp only [Value.slice.injEq, Option.some.injEq, Addr.mk.injEq, and_true] at e
  obtain ⟨rfl, _⟩ := e
  rw [heap_setCell_other _ _ _ _ hg]; exact h2

theorem wrap_bit2 {x : Int} {k : Nat} (hx : 0 ≤ x ∧ x ≤ 1) (hk : k ≤ 15) : IntKind.i64.wrap (x * 2 ^ k) = x * 2 ^ k := by
  have e : (2 : Int) ^ k = ((2 ^ k : Nat) : Int) := by simp
  have h2 : 2 ^ k ≤ 2 ^ 15 := Nat.pow_le_pow_right (by omega) hk
  have : x = 0 ∨ x = 1 := by omega
  rw [e]
  generalize 2 ^ k = P at *
  rcases this with rfl | rfl
  · exact IntWalk.i64_in _ (by omega)
  · exact IntWalk.i64_in _ (by omega)
theorem _root_.Go.Proofs.Ytgihljconpijaaa.KRow.keepB {α : Type} {enc : α → Array Value} {k : Nat} {T : TypeId} {w w' : World} {B C g n c : Nat} {l : List α} (h : KRow enc k T w B (.slice (some ⟨g, 0, none⟩) n c) l) (hb : Below C w w') (hg : g < C) : KRow enc k T w' B (.slice (some ⟨g, 0, none⟩) n c) l := by
  refine ⟨h.1, h.2.imp id fun ⟨g', cap, cur, e, h1, h2, h3⟩ => ⟨g', cap, cur, e, h1, ?_, h3⟩⟩
  simp only [Value.slice.injEq, Option.some.injEq, Addr.mk.injEq, and_true] at e
  obtain ⟨rfl, _⟩ := e
  rw [hb.block g hg]; exact h2

set_option maxRecDepth 20000 in
set_option maxHeartbeats 8000000 in
theorem together_any (ws : List (List Rn)) (V : Value) (T : Int) (w : World) (hT : WvArg w V ws) (hw : Wv ws T) (hn0 : 0 < ws.length) (hn : ws.length ≤ 16) (hsl : sl2 ws ≤ 262144) :
    Calls Try.prog 59 #[V] w fun e w' => ∃ (v : Value) (out : List Rn), e = .returned v ∧ RnRow w' w.heap.size v out ∧ Cb ws T out ∧ out.length ≤ 262144 ∧ Below w.heap.size w w' := by
  obtain ⟨A, c, rfl, hA⟩ := hT.form
  obtain ⟨g, o, rfl, hg, hcell⟩ := hA hn0
  have HCell := Lib.hid hcell
  have HW := Lib.hid hw
  have hTr := hw.T_range hn0
  have hl0' : (0 : Int) < ws.length := by omega
  have hn' : (ws.length : Int) ≤ 16 := by omega
  clear hA hT hw hcell
  go_enter Try.func59, Try.ntmps59
  go_wp2_with (first
    | (at_make; go_must (first
        | (refine wpList_make_k (enc := inC) Try.underlying53 int_info (0 : Int) rfl rfl rfl _ _ rfl rfl rfl rfl rfl (by omega) (by omega) (Nat.le_refl _) ?_; intro w2 r2 b2; have R12 := Lib.hid (KRow.keep R1.out b2); have R2 := Lib.hid r2; have B2 := Lib.hid (B1.out.trans (b2.mono B1.out.size)); have m2 := Lib.hid r2.len.2.2.2; clear r2 b2)
        | (refine wpList_make_k (enc := inC) Try.underlying53 int_info (0 : Int) rfl rfl rfl _ _ rfl rfl rfl rfl rfl (by omega) (by omega) (Nat.le_refl _) ?_; intro w1 r1 b1; have R1 := Lib.hid r1; have B1 := Lib.hid b1; have m1 := Lib.hid r1.len.2.2.2; clear r1 b1))))
  have hF0 : (List.replicate ws.length (0 : Int)).length = ws.length := by simp
  have HF0 := Lib.hid hF0
  clear hF0
  have hab : w.heap.size < w1.heap.size := m1.out
  have hb0 : w1.heap.size < w2.heap.size := m2.out
  have HAB := Lib.hid hab
  clear R1 B1
  go_loopw [5] (fun i wr => ∃ (k : Nat) (F : List Int), k ≤ ws.length ∧ i = .int .i64 k ∧ F.length = ws.length ∧ Hid (∀ i (hi : i < ws.length) (h' : i < F.length), F[i] = if i < k then rm ws[i] (0, 0) else 0) ∧ Hid (InRow wr w.heap.size (.slice (some ⟨w.heap.size, 0, none⟩) ws.length ws.length) (List.replicate ws.length 0)) ∧ Hid (InRow wr w1.heap.size (.slice (some ⟨w1.heap.size, 0, none⟩) ws.length ws.length) F) ∧ Hid (Below w.heap.size w wr) ∧ Hid (w1.heap.size < wr.heap.size)) (fun i _ => ws.length - (intOf i).toNat)
  case atStart => exact ⟨0, List.replicate ws.length 0, Nat.zero_le _, rfl, HF0.out, Lib.hid (fun i hi h' => by rw [List.getElem_replicate, if_neg (by omega)]), R12, R2, B2, m2⟩
  case round =>
    obtain ⟨k, F, hk, rfl, hFl, HFk, HRA, HRF, HB, HS⟩ := hrel
    have hb := HB.out
    by_cases hkl : k < ws.length
    · obtain ⟨B, d, hc1, hc2⟩ := HCell.out k hkl
      have f0 := (hb.cell (p := ⟨g, o + k, none⟩) hg).trans hc1
      have hlen := (HW.out k hkl).1
      obtain ⟨q0, q1⟩ := InRow.one HRF.out k (by omega)
      by_cases hw0 : 0 < ws[k].length
      · obtain ⟨B2, d2, he, hrr⟩ := hc2
        simp only [Value.slice.injEq] at he
        obtain ⟨rfl, _, rfl⟩ := he
        obtain ⟨g2, o2, rfl, hg2, hc3⟩ := hrr hw0
        obtain ⟨a0, a1⟩ := arg_two hc3 0 hw0
        rw [Nat.zero_mul, Nat.add_zero] at a1
        have f1 := (hb.cell (p := ⟨g2, o2 + 1, none⟩) hg2).trans a1
        have hrm := rm_start hw0
        have HF2 := Lib.hid (show ∀ i (hi : i < ws.length) (h' : i < (F.set k ws[k][0].2).length), (F.set k ws[k][0].2)[i] = if i < k + 1 then rm ws[i] (0, 0) else 0 by
          intro i hi h'
          by_cases c : k = i
          · subst c; rw [List.getElem_set_self, if_pos (by omega), hrm]
          · rw [List.getElem_set_ne c, HFk.out i hi (by rw [List.length_set] at h'; exact h')]
            by_cases c2 : i < k
            · rw [if_pos c2, if_pos (by omega)]
            · rw [if_neg c2, if_neg (by omega)])
        have HRF2 := Lib.hid (InRow.set HRF.out k (by omega) ws[k][0].2)
        have HRA2 := Lib.hid (KRow.apart HRA.out ⟨w1.heap.size, k, none⟩ (.int .i64 ws[k][0].2) (by show w.heap.size ≠ w1.heap.size; omega))
        have hkl' : (k : Int) < ws.length := by omega
        have hw0' : (0 : Int) < ws[k].length := by omega
        clear hc1 hrr hc3 a0 a1 hrm HFk
        generalize ws[k][0].2 = x1 at *
        generalize ws[k].length = nk at *
        go_wp2
        go_roundw
        case rel => exact ⟨k + 1, F.set k x1, by omega, by go_num, by rw [List.length_set]; exact hFl, HF2, HRA2, HRF2, Lib.hid (Below.setCell hb (by show w.heap.size ≤ w1.heap.size; omega) _), Lib.hid (by rw [World.size_setCell]; exact HS.out)⟩
        case measure => simp [intOf]; omega
      · have hrm := rm_start0 hw0
        have HF2 := Lib.hid (show ∀ i (hi : i < ws.length) (h' : i < F.length), F[i] = if i < k + 1 then rm ws[i] (0, 0) else 0 by
          intro i hi h'
          rw [HFk.out i hi h']
          by_cases c : k = i
          · subst c; rw [if_neg (by omega), if_pos (by omega), hrm]
          · by_cases c2 : i < k
            · rw [if_pos c2, if_pos (by omega)]
            · rw [if_neg c2, if_neg (by omega)])
        have hkl' : (k : Int) < ws.length := by omega
        have hw0' : decide ((0 : Int) < ws[k].length) = false := decide_eq_false (by omega)
        clear hc1 hc2 hrm HFk
        generalize ws[k].length = nk at *
        go_wp2
        go_roundw
        case rel => exact ⟨k + 1, F, by omega, by go_num, hFl, HF2, HRA, HRF, HB, HS⟩
        case measure => simp [intOf]; omega
    · have HSt := Lib.hid (St_start hFl (fun i hi h' => by rw [HFk.out i hi h', if_pos (by omega)]))
      clear HFk
      obtain ⟨wA, hwA⟩ : ∃ wA : World, wA = wr := ⟨_, rfl⟩
      subst hwA
      have RO := Lib.hid (KRow.lit (T := 48) rnC_size wA wA.heap.size (Nat.le_refl _) [] #[] rfl 0 rfl (by decide))
      have RA0 := Lib.hid (HRA.out.alloc (.cells #[] 48)); have RF0 := Lib.hid (HRF.out.alloc (.cells #[] 48)); have BB0 := Lib.hid (hb.alloc hb.size (.cells #[] 48))
      have hPst := Lib.hid (Pa_start HW.out)
      have hSA := HS.out
      go_wp2
      go_loopg [6] T.toNat (fun gk v wr => ∃ (t : Int) (G : List Ps) (AL FL : List Int) (out : List Rn), gk = (T - t).toNat ∧ 0 ≤ t ∧ t ≤ T ∧ AL.length = ws.length ∧ FL.length = ws.length ∧ Hid (Pa ws t G) ∧ Hid (St ws G AL FL) ∧ Hid (Cb ws t out) ∧ Hid ((out.length : Int) ≤ sj G) ∧ Hid (RnRow wr wA.heap.size v out) ∧ Hid (InRow wr w.heap.size (.slice (some ⟨w.heap.size, 0, none⟩) ws.length ws.length) AL) ∧ Hid (InRow wr w1.heap.size (.slice (some ⟨w1.heap.size, 0, none⟩) ws.length ws.length) FL) ∧ Hid (Below w.heap.size w wr) ∧ Hid (wA.heap.size ≤ wr.heap.size))
      case atStart => exact ⟨0, List.replicate ws.length (0, 0), List.replicate ws.length 0, F, [], by omega, by omega, by omega, HF0.out, hFl, hPst, HSt, Lib.hid (Cb_start ws), Lib.hid (by show (0 : Int) ≤ _; have : ∀ n, sj (List.replicate n ((0, 0) : Ps)) = 0 := (by intro n; induction n with | zero => rfl | succ n ih => rw [List.replicate_succ]; simp only [sj, ih]; omega); rw [this]; omega), RO, RA0, RF0, BB0, Lib.hid (by rw [World.size_alloc]; omega)⟩
      case round =>
        obtain ⟨t, G, AL, FL, out, hgk, ht0, htT, hAL, hFL, HPa, HSt2, HCb, HOl, HR, HRA, HRF, HB, HS⟩ := hrel
        have hb := HB.out
        have hGl := HPa.out.1
        have hG0 : 0 < G.length := by omega
        obtain ⟨c0, z0⟩ := InRow.one HRF.out 0 (by omega)
        have hf0 := (HSt2.out.2.2.2 0 hn0 hG0 (by omega) (by omega)).1
        rw [hf0] at c0
        have hsj := Pa_sum HPa.out
        by_cases ht : t < T
        · have hr0 := Pa_rm HW.out HPa.out ht 0 hn0 hG0
          obtain ⟨hD1, hDT, hDe, hPa2, hCb2, hS2⟩ := round_facts HW.out HPa.out hn0 ht0 ht HCb.out HOl.out (rm ws[0] G[0]) (Or.inr ⟨hG0, rfl⟩)
          have hlg : lg out = t := HCb.out.2.2.1
          have hout : (out.length : Int) ≤ 262144 := by have := HOl.out; omega
          have H01 := Lib.hid (Pa_01 HW.out ht0 ht)
          have CL : Hid (∀ V w', RnRow w' wA.heap.size V out → wA.heap.size ≤ w'.heap.size → Calls Try.prog 57 #[V, .agg #[.int .i64 (lvl ws t), .int .i64 (mnF (rm ws[0] G[0]) ws G)]] w' fun e w'' => ∃ v : Value, e = .returned v ∧ RnRow w'' wA.heap.size v (pt out (lvl ws t, mnF (rm ws[0] G[0]) ws G)) ∧ Below wA.heap.size w' w'') := Lib.hid (fun V w' h1 h2 => put_any out _ V _ _ w' h1 h2 HCb.out.2.1 hD1 (by omega) (by omega))
          have HPa2 := Lib.hid hPa2; have HCb2 := Lib.hid hCb2; have HS2 := Lib.hid hS2; have HDe := Lib.hid hDe
          have HM0 := Lib.hid (show mnF (rm ws[0] G[0]) (ws.drop 0) (G.drop 0) = mnF (rm ws[0] G[0]) ws G from rfl)
          obtain ⟨D, hD⟩ : ∃ D, mnF (rm ws[0] G[0]) ws G = D := ⟨_, rfl⟩
          obtain ⟨Lv, hLv⟩ : ∃ Lv, lvl ws t = Lv := ⟨_, rfl⟩
          rw [hD] at CL HPa2 HCb2 HS2 HDe HM0 hD1 hDT
          rw [hLv] at CL HCb2 HS2
          have HLv := Lib.hid hLv
          have hr01 : (0 : Int) < rm ws[0] G[0] := by omega
          have hr1 := hr0.1
          have hr2 := hr0.2.1
          obtain ⟨UA, UN, UC, rfl, hUN⟩ := HR.out.form
          clear hUN hDe hPa2 hCb2 hS2 hD hLv hf0 hlg hr0 z0
          generalize rm ws[0] G[0] = M0 at *
          go_wp2
          go_quiet (fail)
          have HRq := Lib.hid (KRow.drewN HR.out nq); have HRAq := Lib.hid (KRow.drewN HRA.out nq); have HRFq := Lib.hid (KRow.drewN HRF.out nq); have HBq := Lib.hid (Go.below_drewN hb nq)
          have HSq : Hid (wA.heap.size ≤ (wr.drewN nq).heap.size) := HS
          change Hid (RnRow (wr.drewN nq) _ _ _) at HRq
          change Hid (InRow (wr.drewN nq) _ _ _) at HRAq
          change Hid (InRow (wr.drewN nq) _ _ _) at HRFq
          clear c0
          generalize wr.drewN nq = W at *
          go_wp2
          go_loopw [9, 7, 8] (fun i a m wr => ∃ (k q : Nat) (acc mm : Int), k ≤ ws.length ∧ i = .int .i64 k ∧ a = .int .i64 acc ∧ m = .int .i64 mm ∧ 1 ≤ mm ∧ mm ≤ 1099511627776 ∧ Hid (acc = lvl (ws.take k) t) ∧ Hid (mnF mm (ws.drop k) (G.drop k) = D) ∧ wr = W.drewN q) (fun i _ _ _ => ws.length - (intOf i).toNat)
          case atStart => exact ⟨0, 0, 0, M0, Nat.zero_le _, rfl, rfl, rfl, hr1, hr2, Lib.hid rfl, HM0, rfl⟩
          case round =>
            obtain ⟨k, q, acc, mm, hk, rfl, rfl, rfl, hm0, hm1, HAc, HM, rfl⟩ := hrel
            have hbq := HBq.out
            by_cases hkl : k < ws.length
            · have hkG : k < G.length := by omega
              obtain ⟨B, d, hc1, hc2⟩ := HCell.out k hkl
              obtain ⟨j, hj, e1, e2, e3, e4⟩ := Pz_in (HPa.out.2 k hkl hkG) (by rw [(HW.out k hkl).2.2]; exact ht)
              obtain ⟨hsf, hsa⟩ := HSt2.out.2.2.2 k hkl hkG (by omega) (by omega)
              have hsa2 := hsa (by omega)
              obtain ⟨ca, _⟩ := InRow.one HRAq.out k (by omega)
              obtain ⟨cf, _⟩ := InRow.one HRFq.out k (by omega)
              rw [hsa2, e1] at ca
              rw [hsf] at cf
              obtain ⟨B2, d2, he, hrr⟩ := hc2
              simp only [Value.slice.injEq] at he
              obtain ⟨rfl, _, rfl⟩ := he
              obtain ⟨g2, o2, rfl, hg2, hc3⟩ := hrr (by omega)
              obtain ⟨a0, a1⟩ := arg_two hc3 j hj
              have f0 := (hbq.cell (p := ⟨g, o + k, none⟩) hg).trans hc1
              have f1 := (hbq.cell (p := ⟨g2, o2 + j * 2, none⟩) hg2).trans a0
              have hx := (el_range (HW.out k hkl).2.1 j hj).1
              have hlen := (HW.out k hkl).1
              have HM2 := Lib.hid ((mnF_drop mm ws G k hkl hkG).symm.trans HM.out)
              have hrm := Pa_rm HW.out HPa.out ht k hkl hkG
              have hlv := lvl_take ws k hkl t
              rw [Pz_level (HW.out.ps k hkl) (HPa.out.2 k hkl hkG) (by rw [(HW.out k hkl).2.2]; exact ht) (d := 1) hrm.1 (Int.le_refl _) (by omega), ← HAc.out] at hlv
              have hlr := lvl_range (w01_take H01.out k)
              rw [List.length_take, Nat.min_eq_left hk, ← HAc.out] at hlr
              have hgd : ws[k].getD G[k].1.toNat (0, 0) = ws[k][j] := by rw [e1]; simp [hj]
              rw [hgd] at hlv
              change lvl (ws.take (k + 1)) t = acc + ws[k][j].1 * 2 ^ k at hlv
              have HLV := Lib.hid hlv
              have hor := or_step (b := ws[k][j].1) hlr.1 hlr.2 (by omega) (show k ≤ 15 by omega)
              have hk15 : k ≤ 15 := by omega
              have hwb : IntKind.i64.wrap (ws[k][j].1 * 2 ^ k) = ws[k][j].1 * 2 ^ k := wrap_bit2 hx hk15
              have hjl : (j : Int) < ws[k].length := by omega
              have hkl' : (k : Int) < ws.length := by omega
              have hrm1 := hrm.1
              have hrm2 := hrm.2.1
              clear hc1 hrr hc3 a0 a1 hgd hlv HM HAc hsf hsa hsa2 e1 e2 e3 e4 hlr hrm
              generalize ws[k][j].1 = x0 at *
              generalize rm ws[k] G[k] = rk at *
              generalize ws[k].length = nk at *
              obtain ⟨P, hP⟩ : ∃ P, x0 * 2 ^ k = P := ⟨_, rfl⟩
              rw [hP] at hor hwb HLV
              have hwb2 : IntKind.i64.wrap (x0 * 2 ^ k) = P := by rw [hP]; exact hwb
              clear hP hwb hk15
              by_cases hlt : rk < mm
              · have HMm : Hid (mnF rk (ws.drop (k + 1)) (G.drop (k + 1)) = D) := Lib.hid (by rw [← HM2.out, show min mm rk = rk by omega])
                go_wp2
                go_quiet (fail)
                go_wp2
                go_roundw
                case rel => exact ⟨k + 1, q + nq, acc + P, rk, by omega, by go_num, by first | rfl | exact val_int hor, rfl, by omega, by omega, Lib.hid HLV.out.symm, HMm, rfl⟩
                case measure => simp [intOf]; omega
              · have HMm : Hid (mnF mm (ws.drop (k + 1)) (G.drop (k + 1)) = D) := Lib.hid (by rw [← HM2.out, show min mm rk = mm by omega])
                go_wp2
                go_quiet (fail)
                go_wp2
                go_roundw
                case rel => exact ⟨k + 1, q + nq, acc + P, mm, by omega, by go_num, by first | rfl | exact val_int hor, rfl, by omega, by omega, Lib.hid HLV.out.symm, HMm, rfl⟩
                case measure => simp [intOf]; omega
            · have hacc := HAc.out
              rw [List.take_of_length_le (by omega), HLv.out] at hacc
              have hmm := HM.out
              rw [List.drop_eq_nil_of_le (show ws.length ≤ k by omega)] at hmm
              have hmm2 : mm = D := hmm
              subst hacc
              subst hmm2
              clear hmm HM HAc
              have HRp := Lib.hid (KRow.drewN HRq.out q); have HRAp := Lib.hid (KRow.drewN HRAq.out q); have HRFp := Lib.hid (KRow.drewN HRFq.out q); have HBp := Lib.hid (Go.below_drewN hbq q)
              have HSp : Hid (wA.heap.size ≤ (W.drewN q).heap.size) := HSq
              change Hid (RnRow (W.drewN q) _ _ _) at HRp
              change Hid (InRow (W.drewN q) _ _ _) at HRAp
              change Hid (InRow (W.drewN q) _ _ _) at HRFp
              generalize W.drewN q = W2 at *
              go_wp2_with (first
                | (go_at_call 57; go_must (refine (CL.out _ _ HRp.out HSp.out).mono ?_; rintro e6 w6 ⟨v6, rfl, r6, b6⟩; have xA := Lib.hid (KRow.keepB HRAp.out b6 (Nat.lt_trans hab hSA)); have xF := Lib.hid (KRow.keepB HRFp.out b6 hSA); have xB := Lib.hid (HBp.out.trans (b6.mono (Nat.le_of_lt (Nat.lt_trans hab hSA)))); have xS := Lib.hid (Nat.le_trans HSp.out b6.size); obtain ⟨VA, VN, VC, rfl, rfl⟩ := KRow.form r6; have xR := Lib.hid r6; clear r6 b6)))
              have HSt3 := Lib.hid (show St ws (mx mm ws G 0) AL FL by rw [mx_zero]; exact HSt2.out)
              have hw6 : w.heap.size < w6.heap.size := Nat.lt_of_lt_of_le (Nat.lt_trans hab hSA) xS.out
              clear HRp HRAp HRFp HRq HRAq HRFq RA0 RF0 RO
              go_loopw [10] (fun i wr => ∃ (k : Nat) (AL FL : List Int), k ≤ ws.length ∧ i = .int .i64 k ∧ AL.length = ws.length ∧ FL.length = ws.length ∧ Hid (St ws (mx mm ws G k) AL FL) ∧ Hid (RnRow wr wA.heap.size (.slice VA (pt out (acc, mm)).length VC) (pt out (acc, mm))) ∧ Hid (InRow wr w.heap.size (.slice (some ⟨w.heap.size, 0, none⟩) ws.length ws.length) AL) ∧ Hid (InRow wr w1.heap.size (.slice (some ⟨w1.heap.size, 0, none⟩) ws.length ws.length) FL) ∧ Hid (Below w.heap.size w wr) ∧ Hid (wA.heap.size ≤ wr.heap.size)) (fun i _ => ws.length - (intOf i).toNat)
              case atStart => exact ⟨0, AL, FL, Nat.zero_le _, rfl, hAL, hFL, HSt3, xR, xA, xF, xB, xS⟩
              case round =>
                obtain ⟨k, A2, F2, hk, rfl, hA2, hF2, HSk, HRk, HAk, HFk, HBk, HSk2⟩ := hrel
                have hbk := HBk.out
                by_cases hkl : k < ws.length
                · have hkG : k < G.length := by omega
                  obtain ⟨B, d, hc1, hc2⟩ := HCell.out k hkl
                  obtain ⟨j, hj, e1, e2, e3, e4⟩ := Pz_in (HPa.out.2 k hkl hkG) (by rw [(HW.out k hkl).2.2]; exact ht)
                  have hml := mx_len mm ws G hGl.symm k hk
                  have hS4 := HSk.out.2.2.2 k hkl (by omega) (by omega) (by omega)
                  rw [mx_at mm ws G hGl.symm k hkl (by omega)] at hS4
                  obtain ⟨hsf, hsa⟩ := hS4
                  have hsa2 := hsa (by omega)
                  have hrm : rm ws[k] G[k] = ws[k][j].2 - G[k].2 := by unfold rm; rw [e1]; simp [hj]
                  obtain ⟨av1, av2⟩ := av_in (D := mm) hj e1
                  have hDk := HDe.out k hkl hkG
                  have hr1k := Pa_rm HW.out HPa.out ht k hkl hkG
                  have hst := fun a f h1 h2 => St_step (a := a) (f := f) hGl HSk.out hkl h1 h2
                  obtain ⟨ca, za⟩ := InRow.one HAk.out k (by omega)
                  obtain ⟨cf, zf⟩ := InRow.one HFk.out k (by omega)
                  rw [hsa2, e1] at ca
                  rw [hsf] at cf
                  obtain ⟨B2, d2, he, hrr⟩ := hc2
                  simp only [Value.slice.injEq] at he
                  obtain ⟨rfl, _, rfl⟩ := he
                  obtain ⟨g2, o2, rfl, hg2, hc3⟩ := hrr (by omega)
                  have hlen := (HW.out k hkl).1
                  have HFC := Lib.hid (fun w' (hb' : Below w.heap.size w w') => (hb'.cell (p := ⟨g, o + k, none⟩) hg).trans hc1)
                  have hkl' : (k : Int) < ws.length := by omega
                  have hsA2 : A2.set k A2[k] = A2 := set_id (by omega)
                  have T1 := Lib.hid (fun (y : Int) => InRow.set HFk.out k (by omega) y)
                  have T2 := Lib.hid (fun (y : Value) => KRow.apart HAk.out ⟨w1.heap.size, k, none⟩ y (by show w.heap.size ≠ w1.heap.size; omega))
                  have T3 := Lib.hid (fun (y : Value) => show RnRow (wr.setCell ⟨w1.heap.size, k, none⟩ y) wA.heap.size _ _ from KRow.others HRk.out (b := w1.heap.size) (fun q hq => heap_setCell_other _ _ _ _ (fun e => hq e)) hSA)
                  have T4 := Lib.hid (fun (y : Value) => show Below w.heap.size w (wr.setCell ⟨w1.heap.size, k, none⟩ y) from Below.setCell hbk (by show w.heap.size ≤ w1.heap.size; omega) _)
                  have T5 := Lib.hid (fun (y : Value) => show wA.heap.size ≤ (wr.setCell ⟨w1.heap.size, k, none⟩ y).heap.size by rw [World.size_setCell]; exact HSk2.out)
                  by_cases hz : G[k].2 + mm = ws[k][j].2
                  · have hav := av2 hz
                    have hRm : rm ws[k] G[k] = mm := by rw [hrm]; omega
                    rw [hRm] at cf
                    by_cases hj1 : j + 1 < ws[k].length
                    · obtain ⟨a0, a1⟩ := arg_two hc3 (j + 1) hj1
                      have hst2 := Lib.hid (hst ((j : Int) + 1) ws[k][j + 1].2 (by rw [hav]; exact (rm_next hj1).symm) (fun _ => by rw [hav]))
                      have HFD := Lib.hid (fun w' (hb' : Below w.heap.size w w') => (hb'.cell (p := ⟨g2, o2 + (j + 1) * 2 + 1, none⟩) hg2).trans a1)
                      have hj1' : (j : Int) + 1 < ws[k].length := by omega
                      have hjb : (j : Int) + 1 ≤ 262144 := by omega
                      clear hc1 hrr hc3 a0 a1 hsf hsa hsa2 e1 e2 e3 e4 hrm av1 av2 hst hz hav hRm hsA2 hr1k hDk hml
                      generalize ws[k][j + 1].2 = x2 at *
                      generalize ws[k].length = nk at *
                      have hwj : IntKind.i64.wrap ((j : Int) + 1) = (j : Int) + 1 := IntWalk.i64_in _ (by omega)
                      go_wp2
                      have q1 := Lib.hid (T1.out 0); have q2 := Lib.hid (T2.out (.int .i64 0)); have q3 := Lib.hid (T3.out (.int .i64 0)); have q4 := Lib.hid (T4.out (.int .i64 0)); have q5 := Lib.hid (T5.out (.int .i64 0))
                      obtain ⟨cf2, zf2⟩ := InRow.one q1.out k (by rw [List.length_set]; omega)
                      rw [List.getElem_set_self] at cf2
                      have ca2 : (wr.setCell ⟨w1.heap.size, k, none⟩ (.int .i64 0)).cell? ⟨w.heap.size, k, none⟩ = some (.int .i64 j) := (World.cell?_setCell_other _ _ _ _ (fun e => by have := congrArg Addr.block e; simp only at this; omega)).trans ca
                      have f0 := HFC.out _ q4.out
                      clear T1 T2 T3 T4 T5 ca za cf zf
                      generalize wr.setCell ⟨w1.heap.size, k, none⟩ (.int .i64 0) = W3 at *
                      go_wp2
                      go_quiet (fail)
                      have u1 := Lib.hid (show InRow (W3.drewN nq) _ _ _ from KRow.drewN q1.out nq); have u2 := Lib.hid (show InRow (W3.drewN nq) _ _ _ from KRow.drewN q2.out nq); have u3 := Lib.hid (show RnRow (W3.drewN nq) _ _ _ from KRow.drewN q3.out nq); have u4 := Lib.hid (Go.below_drewN q4.out nq); have u5 : Hid (wA.heap.size ≤ (W3.drewN nq).heap.size) := q5
                      have ca3 : (W3.drewN nq).cell? ⟨w.heap.size, k, none⟩ = some (.int .i64 j) := ca2
                      clear q1 q2 q3 q4 q5 ca2 cf2 zf2 f0
                      generalize W3.drewN nq = W4 at *
                      obtain ⟨_, za3⟩ := InRow.one u2.out k (by omega)
                      have T1 := Lib.hid (InRow.set u2.out k (by omega) ((j : Int) + 1))
                      have T2 := Lib.hid (KRow.apart u1.out ⟨w.heap.size, k, none⟩ (.int .i64 ((j : Int) + 1)) (by show w1.heap.size ≠ w.heap.size; omega))
                      have T3 := Lib.hid (show RnRow (W4.setCell ⟨w.heap.size, k, none⟩ (.int .i64 ((j : Int) + 1))) wA.heap.size _ _ from KRow.others u3.out (b := w.heap.size) (fun q hq => heap_setCell_other _ _ _ _ (fun e => hq e)) (Nat.lt_trans hab hSA))
                      have T4 := Lib.hid (show Below w.heap.size w (W4.setCell ⟨w.heap.size, k, none⟩ (.int .i64 ((j : Int) + 1))) from Below.setCell u4.out (Nat.le_refl _) _)
                      have T5 := Lib.hid (show wA.heap.size ≤ (W4.setCell ⟨w.heap.size, k, none⟩ (.int .i64 ((j : Int) + 1))).heap.size by rw [World.size_setCell]; exact u5.out)
                      go_wp2
                      obtain ⟨ca4, _⟩ := InRow.one T1.out k (by rw [List.length_set]; omega)
                      rw [List.getElem_set_self] at ca4
                      have f4 := HFC.out _ T4.out
                      have f5 := HFD.out _ T4.out
                      clear u1 u2 u3 u4 u5 ca3 za3
                      generalize W4.setCell ⟨w.heap.size, k, none⟩ (.int .i64 ((j : Int) + 1)) = W5 at *
                      have hjn : (0 : Int) ≤ (j : Int) + 1 := by omega
                      go_still_tail 14, (by kernel_rfl)
                      change wpList _ _ _ _ _ W5.drew
                      have u1 := Lib.hid (show InRow W5.drew _ _ _ from KRow.drewN T1.out 1); have u2 := Lib.hid (show InRow W5.drew _ _ _ from KRow.drewN T2.out 1); have u3 := Lib.hid (show RnRow W5.drew _ _ _ from KRow.drewN T3.out 1); have u4 := Lib.hid (Below.drew T4.out); have u5 : Hid (wA.heap.size ≤ W5.drew.heap.size) := T5
                      clear T1 T2 T3 T4 T5 ca4 f4 f5
                      generalize W5.drew = W6 at *
                      obtain ⟨cf6, zf6⟩ := InRow.one u2.out k (by rw [List.length_set]; omega)
                      have T1 := Lib.hid (InRow.set u2.out k (by rw [List.length_set]; omega) x2)
                      rw [List.set_set] at T1
                      have T2 := Lib.hid (KRow.apart u1.out ⟨w1.heap.size, k, none⟩ (.int .i64 x2) (by show w.heap.size ≠ w1.heap.size; omega))
                      have T3 := Lib.hid (show RnRow (W6.setCell ⟨w1.heap.size, k, none⟩ (.int .i64 x2)) wA.heap.size _ _ from KRow.others u3.out (b := w1.heap.size) (fun q hq => heap_setCell_other _ _ _ _ (fun e => hq e)) hSA)
                      have T4 := Lib.hid (show Below w.heap.size w (W6.setCell ⟨w1.heap.size, k, none⟩ (.int .i64 x2)) from Below.setCell u4.out (by show w.heap.size ≤ w1.heap.size; omega) _)
                      have T5 := Lib.hid (show wA.heap.size ≤ (W6.setCell ⟨w1.heap.size, k, none⟩ (.int .i64 x2)).heap.size by rw [World.size_setCell]; exact u5.out)
                      go_wp2
                      go_roundw
                      case rel => exact ⟨k + 1, A2.set k ((j : Int) + 1), F2.set k x2, by omega, by go_num, by rw [List.length_set]; exact hA2, by rw [List.length_set]; exact hF2, hst2, T3, T2, T1, T4, T5⟩
                      case measure => simp [intOf]; omega
                    · have hst2 := hst A2[k] 0 (by rw [hav]; exact (rm_end hj1).symm) (fun h => by rw [hav] at h; exact absurd h (by show ¬ (j : Int) + 1 < _; omega))
                      rw [hsA2] at hst2
                      have HST2 := Lib.hid hst2
                      have hj1' : decide ((j : Int) + 1 < ws[k].length) = false := decide_eq_false (by omega)
                      have hwj : IntKind.i64.wrap ((j : Int) + 1) = (j : Int) + 1 := IntWalk.i64_in _ (by omega)
                      clear hc1 hrr hc3 hsf hsa hsa2 e1 e2 e3 e4 hrm av1 av2 hst hz hav hRm hsA2 hr1k hDk hml hst2
                      generalize ws[k].length = nk at *
                      go_wp2
                      have q1 := Lib.hid (T1.out 0); have q2 := Lib.hid (T2.out (.int .i64 0)); have q3 := Lib.hid (T3.out (.int .i64 0)); have q4 := Lib.hid (T4.out (.int .i64 0)); have q5 := Lib.hid (T5.out (.int .i64 0))
                      obtain ⟨cf2, zf2⟩ := InRow.one q1.out k (by rw [List.length_set]; omega)
                      rw [List.getElem_set_self] at cf2
                      have ca2 : (wr.setCell ⟨w1.heap.size, k, none⟩ (.int .i64 0)).cell? ⟨w.heap.size, k, none⟩ = some (.int .i64 j) := (World.cell?_setCell_other _ _ _ _ (fun e => by have := congrArg Addr.block e; simp only at this; omega)).trans ca
                      have f0 := HFC.out _ q4.out
                      clear T1 T2 T3 T4 T5 ca za cf zf
                      generalize wr.setCell ⟨w1.heap.size, k, none⟩ (.int .i64 0) = W3 at *
                      go_wp2
                      go_quiet (fail)
                      go_wp2
                      go_roundw
                      case rel => exact ⟨k + 1, A2, F2.set k 0, by omega, by go_num, hA2, by rw [List.length_set]; exact hF2, HST2, Lib.hid (KRow.drewN q3.out _), Lib.hid (KRow.drewN q2.out _), Lib.hid (KRow.drewN q1.out _), Lib.hid (Go.below_drewN q4.out _), q5⟩
                      case measure => simp [intOf]; omega
                  · obtain ⟨hav, hrv⟩ := av1 hz
                    have hst2 := hst A2[k] (rm ws[k] G[k] - mm) (by rw [hrv, hrm]) (fun h => by rw [hav]; rw [hsa2, e1])
                    rw [hsA2] at hst2
                    have HST2 := Lib.hid hst2
                    have hRb := hr1k.1
                    have hRb2 := hr1k.2.1
                    have hne : (rm ws[k] G[k] - mm == 0) = false := by rw [hrm]; simpa using (show ¬ ws[k][j].2 - G[k].2 - mm = 0 by omega)
                    clear hc1 hrr hc3 hsf hsa hsa2 e1 e2 e3 e4 hrm av1 av2 hst hz hav hrv hsA2 hr1k hml hst2
                    generalize rm ws[k] G[k] = R at *
                    generalize ws[k].length = nk at *
                    go_wp2
                    have q1 := Lib.hid (T1.out (R - mm)); have q2 := Lib.hid (T2.out (.int .i64 (R - mm))); have q3 := Lib.hid (T3.out (.int .i64 (R - mm))); have q4 := Lib.hid (T4.out (.int .i64 (R - mm))); have q5 := Lib.hid (T5.out (.int .i64 (R - mm)))
                    obtain ⟨cf2, _⟩ := InRow.one q1.out k (by rw [List.length_set]; omega)
                    rw [List.getElem_set_self] at cf2
                    obtain ⟨ca2, _⟩ := InRow.one q2.out k (by omega)
                    have f0 := HFC.out _ q4.out
                    clear T1 T2 T3 T4 T5 ca za cf zf
                    generalize wr.setCell ⟨w1.heap.size, k, none⟩ (.int .i64 (R - mm)) = W3 at *
                    go_wp2
                    go_quiet (fail)
                    go_wp2
                    go_roundw
                    case rel => exact ⟨k + 1, A2, F2.set k (R - mm), by omega, by go_num, hA2, by rw [List.length_set]; exact hF2, HST2, Lib.hid (KRow.drewN q3.out _), Lib.hid (KRow.drewN q2.out _), Lib.hid (KRow.drewN q1.out _), Lib.hid (Go.below_drewN q4.out _), q5⟩
                    case measure => simp [intOf]; omega
                · have hkn : k = ws.length := by omega
                  have hSz := HSk.out
                  rw [hkn, mx_all mm ws G hGl.symm] at hSz
                  have HSz := Lib.hid hSz
                  clear hSz hkn HSk
                  go_wp2
                  go_roundg ((T - (t + mm)).toNat)
                  case measure => omega
                  case rel => exact ⟨t + mm, zw mm ws G, A2, F2, pt out (acc, mm), rfl, by omega, hDT, hA2, hF2, HPa2, HSz, HCb2, HS2, HRk, HAk, HFk, HBk, HSk2⟩
        · have htT2 : t = T := by omega
          have hz0 : rm ws[0] G[0] = 0 := by
            obtain ⟨j, h1, h2, h3, h4, h5, h6⟩ := HPa.out.2 0 hn0 hG0
            obtain ⟨j', g1, g2, g3⟩ := Pa_zero HW.out HPa.out hn0 hG0 htT
            have g4 := g3 ht
            have h7 := h6 (by omega)
            unfold rm
            rw [h1, h7]
            have : ws[0].getD ((j : Nat) : Int).toNat (0, 0) = (0, 0) := by
              rw [Int.toNat_natCast, List.getD_eq_getElem?_getD, List.getElem?_eq_none (by omega)]; rfl
            rw [this]; rfl
          rw [hz0] at c0
          subst htT2
          have HL := Lib.hid (show out.length ≤ 262144 by have := HOl.out; omega)
          clear hz0 hf0 z0
          go_wp2
          go_returns
          exact ⟨_, rfl, out, HR.out.mono (Nat.le_of_lt (Nat.lt_trans hab hSA)), HCb.out, HL.out, hb⟩

end Si
end Go.Proofs.Ytgihljconpijaaa

namespace Go.Proofs.Ytgihljconpijaaa
namespace Si
open Go Go.RowKit Go.Joins
set_option linter.unusedVariables false
set_option linter.unusedSimpArgs false

set_option maxRecDepth 20000 in
set_option maxHeartbeats 8000000 in
theorem rbuild_any (N : List ByteArray) (ws : List (List Rn)) (vN vW : Value) (w : World) (hN : NmArg w vN N) (hs : szs N) (hW : WvArg w vW ws) (hsl : ckN N = 0 → ckW ws N.length = 0 → sl2 ws ≤ 262144) (hwl : ws.length ≤ 65536) :
    Calls Try.prog 34 #[vN, vW] w fun e w' => ∃ (v1 v2 : Value) (N' : List ByteArray) (out : List Rn), e = .returned (.tuple #[.agg #[v1, v2], .int .i64 (bdE N ws)]) ∧ Bd w' w.heap.size N ws v1 v2 N' out ∧ Below w.heap.size w w' := by
  have HK := Lib.hid (fun w' (hb : Below w.heap.size w w') => rnames_any N vN w' (hN.keep hb) hs)
  have HMg := Lib.hid (fun T w' (hb : Below w.heap.size w w') h1 h2 h3 h4 => together_any ws vW T w' (hW.keep hb) h1 h2 h3 h4)
  have HNk := Lib.hid (fun w' (hb : Below w.heap.size w w') => hN.keep hb)
  obtain ⟨A1, c1, rfl, hA1, hA1'⟩ := hN.form
  obtain ⟨A2, c2, rfl, hA2⟩ := hW.form
  have HA := Lib.hid hA2
  have B0 := Lib.hid (ba w (.cells #[.slice none 0 0, .slice none 0 0] 30))
  have P0 := Lib.hid (RowAt.new w 30 #[.slice none 0 0, .slice none 0 0])
  clear hA1 hA1' hA2 hN hW hs
  by_cases hz : ckN N = 0
  · obtain ⟨hl0, hl16, hall⟩ := ckN_ok hz
    have HB := bdE_w (ws := ws) hz
    have hnl : (N.length : Int) ≤ 16 := by omega
    rw [hz] at HK
    by_cases hl : ws.length = N.length
    · have H1 := Lib.hid (fun a => HB.trans (ckW_1 hl a)); have H17 := Lib.hid (fun a b => HB.trans (ckW_17 hl a b)); have H0 := Lib.hid (fun a b => HB.trans (ckW_0 hl a b))
      have HMgx := Lib.hid (fun w' hb a b => HMg.out _ w' hb (Wv_of (ckW_0 hl a b) (by omega)) (by omega) (by omega) (hsl hz (ckW_0 hl a b)))
      have hw16 : (ws.length : Int) ≤ 16 := by omega
      have hlen : (ws.length : Int) = (N.length : Int) := by omega
      have hlen3 : ((ws.length : Int) != (N.length : Int)) = false := by rw [bne, beq_iff_eq.2 hlen]; rfl
      have hw0 : 0 < ws.length := by omega
      clear hz hsl HB HMg hall hl hlen hl0
      go_enter Try.func34, Try.ntmps34
      go_wp2_with (first
        | (go_at_call 54; go_must (refine (HK.out _ B0.out).mono ?_; rintro e1 w1 ⟨rfl, b1⟩; have B1 := Lib.hid (B0.out.trans (b1.mono B0.out.size)); have P1 := Lib.hid (P0.out.keep b1); clear b1)))
      go_loopw [7] (fun i wr => ∃ (j m : Nat), j ≤ ws.length ∧ i = .int .i64 j ∧ Hid ((ws.take j).all vl = true) ∧ wr = w1.drewN m) (fun i _ => ws.length - (intOf i).toNat)
      case atStart => exact ⟨0, 0, Nat.zero_le _, rfl, Lib.hid rfl, rfl⟩
      case round =>
        obtain ⟨j, m, hj, rfl, HR, rfl⟩ := hrel
        have hb := Go.below_drewN B1.out m
        have P1m := Lib.hid (P1.out.keep (Go.below_drewN (Below.refl w1.heap.size w1) m))
        by_cases hjl : j < ws.length
        · obtain ⟨g, o, rfl, hg, hcell⟩ := HA.out hw0
          obtain ⟨B, d, hc1, hc2⟩ := hcell j hjl
          have f0 := (B1.out.cell (p := ⟨g, o + j, none⟩) hg).trans hc1
          by_cases hbig : 262144 < ws[j].length
          · have HE := Lib.hid (H1.out (vls_no hjl (vl_big hbig)))
            have hbig' : (262144 : Int) < ws[j].length := by omega
            have g0 := P1m.out.cell 0
            have g1 := P1m.out.cell 1
            have z0 := P1m.out.frozen 0
            have z1 := P1m.out.frozen 1
            clear hc1 hc2 hcell hbig
            generalize ws[j].length = nj at *
            go_wp2
            have e0 : (((w1.drewN m).setCell ⟨w.heap.size, 0, none⟩ (.slice none 0 0)).setCell ⟨w.heap.size, 1, none⟩ (.slice none 0 0)).cell? ⟨w.heap.size, 0, none⟩ = some (.slice none 0 0) := (two_set g0 g1).1
            have e1 : (((w1.drewN m).setCell ⟨w.heap.size, 0, none⟩ (.slice none 0 0)).setCell ⟨w.heap.size, 1, none⟩ (.slice none 0 0)).cell? ⟨w.heap.size, 1, none⟩ = some (.slice none 0 0) := (two_set g0 g1).2
            first
              | refine bodyPost_ret (v := .tuple #[.agg #[.slice none 0 0, .slice none 0 0], .int .i64 1]) (by simp [results, Try.results34, go_sem, e0, e1]) rfl ⟨_, _, [], [], by rw [HE.out], ⟨KRow.nil _ _, KRow.nil _ _, fun h => absurd h (by rw [HE.out]; decide), fun _ => ⟨rfl, rfl⟩, Nat.zero_le _⟩, Below.setCell (Below.setCell hb (Nat.le_refl _) _) (Nat.le_refl _) _⟩
              | refine bodyPost_ret (v := .tuple #[.agg #[.slice none 0 0, .slice none 0 0], .int .i64 1]) (by simp [results, Try.results34, go_sem, e0, e1]) rfl ⟨_, _, by rw [HE.out], ⟨[], [], KRow.nil _ _, KRow.nil _ _, fun h => absurd h (by rw [HE.out]; decide), fun _ => ⟨rfl, rfl⟩, Nat.zero_le _⟩, Below.setCell (Below.setCell hb (Nat.le_refl _) _) (Nat.le_refl _) _⟩
          · have C1 := rruns_any 1 ws[j] _ (w1.drewN m) (hc2.keep hb) (by omega)
            have hv := vl_of (l := ws[j]) (by omega)
            have hbig' : ¬ (262144 : Int) < ws[j].length := by omega
            cases hh : vl ws[j] with
            | true =>
              have HR2 := Lib.hid (vls_take hjl HR.out hh)
              rw [← hv, hh] at C1
              have C2 := Lib.hid C1
              clear C1 hh HR hc1 hc2 hcell hv hbig
              generalize ws[j].length = nj at *
              go_wp2_with (first
                | (go_at_call 55; go_must (refine C2.out.mono ?_; rintro e2 w2 ⟨rfl, rfl⟩)))
              go_roundw
              case rel => exact ⟨j + 1, m, by omega, by go_num, HR2, rfl⟩
              case measure => simp [intOf]; omega
            | false =>
              have HE := Lib.hid (H1.out (vls_no hjl hh))
              rw [← hv, hh] at C1
              have C2 := Lib.hid C1
              have g0 := P1m.out.cell 0
              have g1 := P1m.out.cell 1
              have z0 := P1m.out.frozen 0
              have z1 := P1m.out.frozen 1
              clear C1 hh HR hc1 hc2 hcell hv hbig
              generalize ws[j].length = nj at *
              go_wp2_with (first
                | (go_at_call 55; go_must (refine C2.out.mono ?_; rintro e2 w2 ⟨rfl, rfl⟩)))
              have e0 : (((w1.drewN m).setCell ⟨w.heap.size, 0, none⟩ (.slice none 0 0)).setCell ⟨w.heap.size, 1, none⟩ (.slice none 0 0)).cell? ⟨w.heap.size, 0, none⟩ = some (.slice none 0 0) := (two_set g0 g1).1
              have e1 : (((w1.drewN m).setCell ⟨w.heap.size, 0, none⟩ (.slice none 0 0)).setCell ⟨w.heap.size, 1, none⟩ (.slice none 0 0)).cell? ⟨w.heap.size, 1, none⟩ = some (.slice none 0 0) := (two_set g0 g1).2
              first
                | refine bodyPost_ret (v := .tuple #[.agg #[.slice none 0 0, .slice none 0 0], .int .i64 1]) (by simp [results, Try.results34, go_sem, e0, e1]) rfl ⟨_, _, [], [], by rw [HE.out], ⟨KRow.nil _ _, KRow.nil _ _, fun h => absurd h (by rw [HE.out]; decide), fun _ => ⟨rfl, rfl⟩, Nat.zero_le _⟩, Below.setCell (Below.setCell hb (Nat.le_refl _) _) (Nat.le_refl _) _⟩
                | refine bodyPost_ret (v := .tuple #[.agg #[.slice none 0 0, .slice none 0 0], .int .i64 1]) (by simp [results, Try.results34, go_sem, e0, e1]) rfl ⟨_, _, by rw [HE.out], ⟨[], [], KRow.nil _ _, KRow.nil _ _, fun h => absurd h (by rw [HE.out]; decide), fun _ => ⟨rfl, rfl⟩, Nat.zero_le _⟩, Below.setCell (Below.setCell hb (Nat.le_refl _) _) (Nat.le_refl _) _⟩
        · have hall : ws.all vl = true := by rw [← List.take_of_length_le (show ws.length ≤ j by omega)]; exact HR.out
          have HAll := Lib.hid hall
          have HSm := Lib.hid (sameLg_eq (ws := ws) hw0)
          obtain ⟨T, hT⟩ : ∃ T, lg ws[0] = T := ⟨_, rfl⟩
          rw [hT] at HSm
          have hv0 := vls_at hall 0 hw0
          obtain ⟨g, o, rfl, hg, hcell⟩ := HA.out hw0
          obtain ⟨B0', d0, hz1, hz2⟩ := hcell 0 hw0
          rw [Nat.add_zero] at hz1
          have HZ := Lib.hid (fun w' (hb : Below w.heap.size w w') => (hb.cell (p := ⟨g, o, none⟩) hg).trans hz1)
          have C0 := Lib.hid (fun w' (hb : Below w.heap.size w w') => total_any 1 ws[0] _ w' (hz2.keep hb) (by omega) hv0.2)
          rw [hT] at C0
          have HCell := Lib.hid hcell
          have hw0' : (0 : Int) < ws.length := by omega
          clear HR hall hv0 hz1 hz2 hcell hT
          have HZ1 := HZ.out _ hb
          generalize ws[0].length = n0 at *
          generalize w1.drewN m = wx at *
          go_wp2
          go_loopw [8] (fun i wr2 => ∃ (j m : Nat), j ≤ ws.length ∧ i = .int .i64 j ∧ Hid (slT (ws.take j) T = true) ∧ wr2 = wx.drewN m) (fun i _ => ws.length - (intOf i).toNat)
          case atStart => exact ⟨0, 0, Nat.zero_le _, rfl, Lib.hid rfl, rfl⟩
          case round =>
            rename_i hrel
            obtain ⟨k, m, hk, rfl, HD, rfl⟩ := hrel
            have hb2 := Go.below_drewN hb m
            by_cases hkl : k < ws.length
            · obtain ⟨B, d, hc1, hc2⟩ := HCell.out k hkl
              have f0 := (hb.cell (p := ⟨g, o + k, none⟩) hg).trans hc1
              have hvk := vls_at HAll.out k hkl
              have CK := Lib.hid (fun w' (hb : Below w.heap.size w w') => total_any 1 ws[k] _ w' (hc2.keep hb) (by omega) hvk.2)
              have CKq := Lib.hid (fun q => (CK.out (wx.drewN q) (Go.below_drewN hb q)).mono fun _ _ h => And.intro h.1 h.2.symm)
              have C0q := Lib.hid (fun q => (C0.out (wx.drewN q) (Go.below_drewN hb q)).mono fun _ _ h => And.intro h.1 h.2.symm)
              have HTk := Lib.hid (fun h => slT_take hkl HD.out h)
              have HNk := Lib.hid (fun (h : ¬ lg ws[k] = T) => H17.out HAll.out (HSm.out.trans (slT_no hkl h)))
              clear hc1 hc2 hvk HD
              generalize lg ws[k] = Tk at *
              generalize ws[k].length = nk at *
              by_cases he : Tk = T
              · subst he
                have HT2 := Lib.hid (HTk.out rfl)
                have qT : (Tk == Tk) = true := by simp
                clear HTk HNk
                go_wp2
                go_quiet (first
                  | (go_at_call 58; go_must (first | (with_reducible exact (CKq.out _).mono fun _ _ h => ⟨h.1, _, h.2⟩) | (with_reducible exact (C0q.out _).mono fun _ _ h => ⟨h.1, _, h.2⟩))))
                go_wp2
                go_roundw
                case rel => exact ⟨k + 1, m + nq, by omega, by go_num, HT2, rfl⟩
                case measure => simp [intOf]; omega
              · have HE := Lib.hid (HNk.out he)
                have qT : (Tk == T) = false := by simpa using he
                clear HTk HNk he
                go_wp2
                go_quiet ((go_at_call 58; go_must (first | (with_reducible exact (CKq.out _).mono fun _ _ h => ⟨h.1, _, h.2⟩) | (with_reducible exact (C0q.out _).mono fun _ _ h => ⟨h.1, _, h.2⟩))))
                have PQ := P1m.out.keep (Go.below_drewN (Go.below_drewN (Below.refl wx.heap.size wx) m) nq)
                have hbq := Go.below_drewN (Go.below_drewN hb m) nq
                generalize (wx.drewN m).drewN nq = wq at *
                have g0 := PQ.cell 0
                have g1 := PQ.cell 1
                have z0 := PQ.frozen 0
                have z1 := PQ.frozen 1
                clear PQ CKq C0q CK C0
                go_wp2
                have e0 : ((wq.setCell ⟨w.heap.size, 0, none⟩ (.slice none 0 0)).setCell ⟨w.heap.size, 1, none⟩ (.slice none 0 0)).cell? ⟨w.heap.size, 0, none⟩ = some (.slice none 0 0) := (two_set g0 g1).1
                have e1 : ((wq.setCell ⟨w.heap.size, 0, none⟩ (.slice none 0 0)).setCell ⟨w.heap.size, 1, none⟩ (.slice none 0 0)).cell? ⟨w.heap.size, 1, none⟩ = some (.slice none 0 0) := (two_set g0 g1).2
                first
                  | refine bodyPost_ret (v := .tuple #[.agg #[.slice none 0 0, .slice none 0 0], .int .i64 17]) (by simp [results, Try.results34, go_sem, e0, e1]) rfl ⟨_, _, [], [], by rw [HE.out], ⟨KRow.nil _ _, KRow.nil _ _, fun h => absurd h (by rw [HE.out]; decide), fun _ => ⟨rfl, rfl⟩, Nat.zero_le _⟩, Below.setCell (Below.setCell hbq (Nat.le_refl _) _) (Nat.le_refl _) _⟩
                  | refine bodyPost_ret (v := .tuple #[.agg #[.slice none 0 0, .slice none 0 0], .int .i64 17]) (by simp [results, Try.results34, go_sem, e0, e1]) rfl ⟨_, _, by rw [HE.out], ⟨[], [], KRow.nil _ _, KRow.nil _ _, fun h => absurd h (by rw [HE.out]; decide), fun _ => ⟨rfl, rfl⟩, Nat.zero_le _⟩, Below.setCell (Below.setCell hbq (Nat.le_refl _) _) (Nat.le_refl _) _⟩
            · have hS : slT ws T = true := by rw [← List.take_of_length_le (show ws.length ≤ k by omega)]; exact HD.out
              have hall2 := HSm.out.trans hS
              have HE := Lib.hid (H0.out HAll.out hall2)
              have HMg2 := Lib.hid (fun w' hb => HMgx.out w' hb HAll.out hall2)
              have P2 := Lib.hid (P1m.out.keep (Go.below_drewN (Below.refl wx.heap.size wx) m))
              have B2 := Lib.hid hb2
              generalize wx.drewN m = wy at *
              clear HMgx HSm HD hS hall2 H0 H1 H17 hb2 C0 HZ1 HCell
              go_wp2_with (first
                | (go_at_call 59; go_must (refine (HMg2.out _ B2.out).mono ?_; rintro e3 w3 ⟨v3, out, rfl, r3, q3, l3, b3⟩; obtain ⟨VA, VN, VC, rfl, rfl⟩ := KRow.form r3; have B3 := Lib.hid (B2.out.trans (b3.mono B2.out.size)); have P3 := Lib.hid (P2.out.keep b3); have R3 := Lib.hid (KRow.mono r3 (show w.heap.size + 1 ≤ _ from P2.out.lt)); have Q3 := Lib.hid q3; have L3 := Lib.hid l3; have l3' : (out.length : Int) ≤ 262144 := (by omega); have RL := Lib.hid (KRow.lit (T := 9) nmC_size w3 w3.heap.size (Nat.le_refl _) [] #[] rfl 0 rfl (by decide)); have BL := Lib.hid (ba w3 (.cells #[] 9)); have NL := Lib.hid (HNk.out _ (B3.out.trans (BL.out.mono B3.out.size))).1; clear b3 r3 q3 l3))
                | (refine wpList_append_arg (o := ⟨some 68, _, _, _, _, _⟩) Try.underlying28 name_info rfl (by omega) nmC_size nmC_one rfl (.tmp 66) (.tmp 67) rfl rfl rfl RL.out NL.out (Nat.le_of_lt (by rw [World.size_alloc]; omega)) (by simp; omega) (by simp; omega) ?_; intro v4 w4 r4 b4; rw [List.nil_append] at r4; have bb4 := BL.out.trans b4; obtain ⟨UA, UN, UC, rfl, rfl⟩ := KRow.form r4; have B4 := Lib.hid (B3.out.trans (bb4.mono B3.out.size)); have P4 := Lib.hid (P3.out.keep bb4); have R4 := Lib.hid (KRow.mono r4 (show w.heap.size + 1 ≤ _ from P3.out.lt)); have R34 := Lib.hid (KRow.keep R3.out bb4); have g0 := P4.out.cell 0; have g1 := P4.out.cell 1; have z0 := P4.out.frozen 0; have z1 := P4.out.frozen 1; clear b4 r4 bb4)
                | fail)
              have e0 : ((w4.setCell ⟨w.heap.size, 0, none⟩ (.slice UA N.length UC)).setCell ⟨w.heap.size, 1, none⟩ (.slice VA out.length VC)).cell? ⟨w.heap.size, 0, none⟩ = some (.slice UA N.length UC) := (two_set g0 g1).1
              have e1 : ((w4.setCell ⟨w.heap.size, 0, none⟩ (.slice UA N.length UC)).setCell ⟨w.heap.size, 1, none⟩ (.slice VA out.length VC)).cell? ⟨w.heap.size, 1, none⟩ = some (.slice VA out.length VC) := (two_set g0 g1).2
              first
                | refine bodyPost_ret (v := .tuple #[.agg #[.slice UA N.length UC, .slice VA out.length VC], .int .i64 0]) (by simp [results, Try.results34, go_sem, e0, e1]) rfl ⟨_, _, N, out, by rw [HE.out], ⟨(KRow.set2 R4.out (Nat.lt_succ_self _) _ _).mono (Nat.le_succ _), (KRow.set2 R34.out (Nat.lt_succ_self _) _ _).mono (Nat.le_succ _), fun _ => ⟨rfl, Q3.out⟩, fun h => absurd HE.out h, L3.out⟩, Below.setCell (Below.setCell B4.out (Nat.le_refl _) _) (Nat.le_refl _) _⟩
                | refine bodyPost_ret (v := .tuple #[.agg #[.slice UA N.length UC, .slice VA out.length VC], .int .i64 0]) (by simp [results, Try.results34, go_sem, e0, e1]) rfl ⟨_, _, by rw [HE.out], ⟨N, out, (KRow.set2 R4.out (Nat.lt_succ_self _) _ _).mono (Nat.le_succ _), (KRow.set2 R34.out (Nat.lt_succ_self _) _ _).mono (Nat.le_succ _), fun _ => ⟨rfl, Q3.out⟩, fun h => absurd HE.out h, L3.out⟩, Below.setCell (Below.setCell B4.out (Nat.le_refl _) _) (Nat.le_refl _) _⟩
    · have HE := Lib.hid (HB.trans (ckW_n hl))
      have hne : ((ws.length : Int) == (N.length : Int)) = false := by rw [Bool.eq_false_iff]; intro h; exact hl (by have := beq_iff_eq.1 h; omega)
      clear hz hsl HB HMg hall hl hl0
      go_enter Try.func34, Try.ntmps34
      go_wp2_with (first
        | (go_at_call 54; go_must (refine (HK.out _ B0.out).mono ?_; rintro e1 w1 ⟨rfl, b1⟩; have B1 := Lib.hid (B0.out.trans (b1.mono B0.out.size)); have P1 := Lib.hid (P0.out.keep b1); have g0 := P1.out.cell 0; have g1 := P1.out.cell 1; have z0 := P1.out.frozen 0; have z1 := P1.out.frozen 1; clear b1)))
      have e0 : ((w1.setCell ⟨w.heap.size, 0, none⟩ (.slice none 0 0)).setCell ⟨w.heap.size, 1, none⟩ (.slice none 0 0)).cell? ⟨w.heap.size, 0, none⟩ = some (.slice none 0 0) := (two_set g0 g1).1
      have e1 : ((w1.setCell ⟨w.heap.size, 0, none⟩ (.slice none 0 0)).setCell ⟨w.heap.size, 1, none⟩ (.slice none 0 0)).cell? ⟨w.heap.size, 1, none⟩ = some (.slice none 0 0) := (two_set g0 g1).2
      first
        | refine bodyPost_ret (v := .tuple #[.agg #[.slice none 0 0, .slice none 0 0], .int .i64 1]) (by simp [results, Try.results34, go_sem, e0, e1]) rfl ⟨_, _, [], [], by rw [HE.out], ⟨KRow.nil _ _, KRow.nil _ _, fun h => absurd h (by rw [HE.out]; decide), fun _ => ⟨rfl, rfl⟩, Nat.zero_le _⟩, Below.setCell (Below.setCell B1.out (Nat.le_refl _) _) (Nat.le_refl _) _⟩
        | refine bodyPost_ret (v := .tuple #[.agg #[.slice none 0 0, .slice none 0 0], .int .i64 1]) (by simp [results, Try.results34, go_sem, e0, e1]) rfl ⟨_, _, by rw [HE.out], ⟨[], [], KRow.nil _ _, KRow.nil _ _, fun h => absurd h (by rw [HE.out]; decide), fun _ => ⟨rfl, rfl⟩, Nat.zero_le _⟩, Below.setCell (Below.setCell B1.out (Nat.le_refl _) _) (Nat.le_refl _) _⟩
  · have HB := bdE_n (ws := ws) hz
    have HE := Lib.hid HB
    have HNE := Lib.hid (show ¬ bdE N ws = 0 by rw [HB]; exact hz)
    have hwz : (ckN N == 0) = false := by simpa using hz
    generalize ckN N = r at *
    clear hz hsl HB HMg
    go_enter Try.func34, Try.ntmps34
    go_wp2_with (first
      | (go_at_call 54; go_must (refine (HK.out _ B0.out).mono ?_; rintro e1 w1 ⟨rfl, b1⟩; have B1 := Lib.hid (B0.out.trans (b1.mono B0.out.size)); have P1 := Lib.hid (P0.out.keep b1); have g0 := P1.out.cell 0; have g1 := P1.out.cell 1; have z0 := P1.out.frozen 0; have z1 := P1.out.frozen 1; clear b1)))
    have e0 : ((w1.setCell ⟨w.heap.size, 0, none⟩ (.slice none 0 0)).setCell ⟨w.heap.size, 1, none⟩ (.slice none 0 0)).cell? ⟨w.heap.size, 0, none⟩ = some (.slice none 0 0) := (two_set g0 g1).1
    have e1 : ((w1.setCell ⟨w.heap.size, 0, none⟩ (.slice none 0 0)).setCell ⟨w.heap.size, 1, none⟩ (.slice none 0 0)).cell? ⟨w.heap.size, 1, none⟩ = some (.slice none 0 0) := (two_set g0 g1).2
    refine bodyPost_ret (v := .tuple #[.agg #[.slice none 0 0, .slice none 0 0], .int .i64 r]) (by simp [results, Try.results34, go_sem, e0, e1]) rfl ⟨_, _, [], [], by rw [HE.out], ⟨KRow.nil _ _, KRow.nil _ _, fun h => absurd h HNE.out, fun _ => ⟨rfl, rfl⟩, Nat.zero_le _⟩, Below.setCell (Below.setCell B1.out (Nat.le_refl _) _) (Nat.le_refl _) _⟩

end Si
end Go.Proofs.Ytgihljconpijaaa

namespace Go.Proofs.Ytgihljconpijaaa
open Go Go.RowKit Go.Joins
set_option linter.unusedVariables false
set_option linter.unusedSimpArgs false

/-- Where the filter stands: what is kept already, the run that may still grow, the rest. -/
def FlI (k : Int) (F P : List Rn) (z : Rn) (r : List Rn) : Prop := P ++ flP k (z :: r) = F ∧ gd (P ++ [z] ++ r) ∧ lg (P ++ [z] ++ r) ≤ 1099511627776 ∧ (P ++ [z]).length + r.length ≤ 262144
theorem part_at (r : List Rn) (i : Nat) (h : i + 1 < r.length) : r = r.take i ++ r[i] :: r[i + 1] :: r.drop (i + 2) := by
  rw [← List.drop_eq_getElem_cons, ← List.drop_eq_getElem_cons (by omega), List.take_append_drop]
theorem RnArg.cut {w : World} {g o c : Nat} {l : List Rn} (h : RnArg w (.slice (some ⟨g, o, none⟩) l.length c) l) (i : Nat) (hi : i ≤ l.length) (hc : l.length ≤ c) (hl : 0 < l.length) : RnArg w (.slice (if c = i then some ⟨g, o, none⟩ else some ⟨g, o + i * 2, none⟩) (l.length - i) (c - i)) (l.drop i) := by
  obtain ⟨A', c', e, hA⟩ := h
  obtain ⟨rfl, _, rfl⟩ := Value.slice.inj e
  obtain ⟨g', o', e2, hg, hcl⟩ := hA hl
  obtain ⟨rfl, rfl, _⟩ := Addr.mk.inj (Option.some.inj e2)
  refine ⟨_, _, by rw [List.length_drop], fun h0 => ?_⟩
  rw [List.length_drop] at h0
  refine ⟨g, o + i * 2, by rw [if_neg (by omega)], hg, fun j hj q hq => ?_⟩
  rw [List.length_drop] at hj
  rw [List.getElem_drop, ← hcl (i + j) (by omega) q hq]
  congr 2
  omega
theorem RnArg.head {w : World} {g o c : Nat} {l : List Rn} (h : RnArg w (.slice (some ⟨g, o, none⟩) l.length c) l) (i : Nat) (hi : i ≤ l.length) (hl : 0 < l.length) : RnArg w (.slice (some ⟨g, o, none⟩) i c) (l.take i) := by
  obtain ⟨A', c', e, hA⟩ := h
  obtain ⟨rfl, _, rfl⟩ := Value.slice.inj e
  obtain ⟨g', o', e2, hg, hcl⟩ := hA hl
  obtain ⟨rfl, rfl, _⟩ := Addr.mk.inj (Option.some.inj e2)
  refine ⟨_, _, by rw [List.length_take, Nat.min_eq_left hi], fun h0 => ⟨g, o, rfl, hg, fun j hj q hq => ?_⟩⟩
  rw [List.length_take] at hj
  rw [List.getElem_take, hcl j (by omega) q hq]
theorem rn_one {w : World} {g B : Nat} {x0 x1 : Int} (h : RowAt w g 48 #[.int .i64 x0, .int .i64 x1]) (hB : B ≤ g) : RnRow w B (.slice (some ⟨g, 0, none⟩) 1 1) [(x0, x1)] :=
  ⟨rfl, Or.inr ⟨g, 1, #[.int .i64 x0, .int .i64 x1], rfl, hB, h, Nat.le_refl _, by decide, rfl, rfl⟩⟩
theorem FlI.step {k : Int} {F P : List Rn} {z : Rn} {r : List Rn} (h : FlI k F P z r) (i : Nat) (hi : i + 1 < r.length) (hs : r[i].2 < k) (hl : ∀ j (hj : j < r.length), j < i → ¬ r[j].2 < k) :
    ∃ P' y, P ++ [z] ++ r.take i = P' ++ [y] ∧ FlI k F P' (y.1, y.2 + (r[i].2 + r[i + 1].2)) (r.drop (i + 2)) ∧ 1 ≤ y.2 ∧ y.2 ≤ 1099511627776 ∧ 1 ≤ r[i].2 ∧ 1 ≤ r[i + 1].2 ∧ y.2 + (r[i].2 + r[i + 1].2) ≤ 1099511627776 := by
  obtain ⟨h1, h2, h3, h4⟩ := h
  have e := part_at r i hi
  have hT : ∀ x ∈ r.take i, ¬ x.2 < k := by
    intro x hx
    obtain ⟨j, hj, rfl⟩ := List.mem_iff_getElem.1 hx
    rw [List.length_take] at hj
    rw [List.getElem_take]
    exact hl j (by omega) (by omega)
  have hln : (r.take i).length = i := by rw [List.length_take]; omega
  generalize r[i] = b at *
  generalize r[i + 1] = c at *
  have hd : (r.drop (i + 2)).length = r.length - (i + 2) := List.length_drop
  generalize r.drop (i + 2) = t at *
  generalize r.take i = T at *
  subst e
  obtain ⟨Q, y, hQ⟩ : ∃ Q y, z :: T = Q ++ [y] := by
    rcases nil_or_snoc (z :: T) with h | ⟨o, x, h⟩
    · cases h
    · exact ⟨o, x, h⟩
  have eX : P ++ [z] ++ T = (P ++ Q) ++ [y] := by rw [List.append_assoc, List.append_assoc, ← hQ]; rfl
  have eA : P ++ [z] ++ (T ++ b :: c :: t) = (P ++ Q) ++ (y :: b :: c :: t) := by rw [← List.append_assoc, eX]; simp
  have eL : (P ++ Q).length + 1 = P.length + 1 + T.length := by have := congrArg List.length eX; simp at this; simp; omega
  rw [eA] at h2 h3
  have g0 := gd_append.1 h2
  have g1 := gd_cons.1 g0.2
  have g2 := gd_cons.1 g1.2
  have g3 := gd_cons.1 g2.2
  have p1 := gd_nonneg g0.1
  have p2 := gd_nonneg g3.2
  rw [lg_append] at h3
  have e3 : lg (y :: b :: c :: t) = y.2 + (b.2 + (c.2 + lg t)) := rfl
  rw [e3] at h3
  have hy1 := g1.1.2
  have hb1 := g2.1.2
  have hc1 := g3.1.2
  refine ⟨P ++ Q, y, eX, ⟨?_, ?_, ?_, ?_⟩, hy1, by omega, hb1, hc1, by omega⟩
  · rw [← h1, List.append_assoc]
    congr 1
    have e5 : z :: (T ++ b :: c :: t) = Q ++ y :: b :: c :: t := by
      show (z :: T) ++ b :: c :: t = _
      rw [hQ, List.append_assoc]; rfl
    have hq : ∀ x ∈ Q.drop 1, ¬ x.2 < k := by
      intro x hx
      cases Q with
      | nil => cases hx
      | cons q Q =>
        simp only [List.cons_append, List.cons.injEq] at hQ
        obtain ⟨_, rfl⟩ := hQ
        rw [List.drop_one, List.tail_cons] at hx
        exact hT x (List.mem_append_left _ hx)
    have hy : Q ≠ [] → ¬ y.2 < k := by
      intro hne
      cases Q with
      | nil => exact absurd rfl hne
      | cons q Q =>
        simp only [List.cons_append, List.cons.injEq] at hQ
        obtain ⟨_, rfl⟩ := hQ
        exact hT y (List.mem_append_right _ (List.mem_singleton.2 rfl))
    rw [e5, flP_pre k Q y _ hq hy, flP_short hs, Int.add_assoc]
  · rw [List.append_assoc]
    exact gd_append.2 ⟨g0.1, gd_cons.2 ⟨⟨g1.1.1, by show 1 ≤ y.2 + (b.2 + c.2); omega⟩, g3.2⟩⟩
  · rw [List.append_assoc, lg_append]
    show lg (P ++ Q) + (y.2 + (b.2 + c.2) + lg t) ≤ _
    omega
  · simp only [List.length_append, List.length_cons, List.length_nil] at h4 eL ⊢
    omega
theorem FlI.done {k : Int} {F P : List Rn} {z : Rn} {r : List Rn} (h : FlI k F P z r) (hl : ∀ j (hj : j + 1 < r.length), ¬ r[j].2 < k) : P ++ [z] ++ r = F := by
  rw [← h.1, flP_id k (z :: r) (by rw [List.drop_one, List.tail_cons]; exact cn_zero.2 hl), List.append_assoc]
  rfl

set_option maxRecDepth 100000 in
set_option maxHeartbeats 8000000 in
theorem filterG_any (l : List Rn) (k : Int) (V : Value) (w : World) (hT : RnArg w V l) :
    Calls Try.prog 15 #[V, .int .i64 k] w fun e w' => ∃ v : Value, e = .returned v ∧ RnRow w' w.heap.size v (flP k (cl l)) ∧ Below w.heap.size w w' := by
  have HC := Lib.hid (clean_any l V w hT)
  have HV := (vl_iff _).1 (cl_vl l)
  obtain ⟨A, c, rfl⟩ := hT.form
  clear hT
  generalize cl l = C at *
  cases C with
  | nil =>
    have HF := Lib.hid (flP_nil k)
    clear HV
    go_enter Try.func15, Try.ntmps15
    go_wp2
    go_step3
    go_wp2_with (first
      | (go_at_call 24; go_must (refine HC.out.mono ?_; rintro e1 w1 ⟨v1, rfl, r1, b1⟩; obtain ⟨UA, UN, UC, rfl, rfl⟩ := KRow.form r1; have B1 := Lib.hid b1; clear r1 b1)))
    try rw [Exit.noGoto_ret]
    go_returns
    exact ⟨_, rfl, by rw [HF.out]; exact KRow.nil _ _, B1.out⟩
  | cons z0 r0 =>
    have I0 := Lib.hid (show FlI k (flP k (z0 :: r0)) [] z0 r0 from ⟨rfl, HV.2.1, HV.2.2, by have := HV.1; simp at this ⊢; omega⟩)
    have hle := HV.1
    rw [List.length_cons] at hle
    clear HV
    generalize flP k (z0 :: r0) = F at *
    go_enter Try.func15, Try.ntmps15
    have hz : ((((r0.length : Int) + 1) == 0) = false) := by rw [beq_eq_false_iff_ne]; omega
    go_wp2
    go_step3
    go_wp2_with (first
      | (go_at_call 24; go_must (refine HC.out.mono ?_; rintro e1 w1 ⟨v1, rfl, r1, b1⟩; obtain ⟨UA, UC, rfl⟩ := KRow.full r1 (by simp); have R1 := Lib.hid r1; have B1 := Lib.hid b1; clear r1 b1)))
    have HR := Lib.hid (KRow.arg rnC_size R1.out)
    have hcap := KRow.len R1.out
    have f0 : w1.drew.cell? ⟨UA, 0, none⟩ = some (.int .i64 z0.1) := (RnRow.two R1.out 0 (by simp)).1
    have f1 : w1.drew.cell? ⟨UA, 1, none⟩ = some (.int .i64 z0.2) := (RnRow.two R1.out 0 (by simp)).2.1
    obtain ⟨x0, x1⟩ := z0
    have S0 := Lib.hid (show w1.drew.cell? ⟨UA, 0, none⟩ = some (.int .i64 x0) ∧ w1.drew.cell? ⟨UA, 1, none⟩ = some (.int .i64 x1) from ⟨f0, f1⟩)
    have G0 := Lib.hid (show UA < w1.drew.heap.size from hcap.2.2.2)
    refine wp_region_held_drew (S := fun w' => w'.cell? ⟨UA, 0, none⟩ = some (.int .i64 x0) ∧ w'.cell? ⟨UA, 1, none⟩ = some (.int .i64 x1)) (by kernel_rfl) ?_ (fun hH => ?_)
    · exact S0.out
    have hWB := Lib.hid (show Below w1.heap.size w1 w1.drew from (Below.refl _ _).drew)
    have hWS := Lib.hid (show w1.drew.heap.size = w1.heap.size from rfl)
    have hs1 : (1 : Int) ≤ (r0.length : Int) + 1 := by omega
    clear f0 f1
    generalize w1.drew = WD at *
    refine wpAnyH_take (i := 0) (oi := { dst := some 14, op := Go.Op.move (Go.Operand.tmp 5), type := 22, pos := "glitch.go:31", after := #[], guard := none }) (v := ?_) rfl ?_ ?_ ?_ ?_ (Or.inl ⟨?_, ?_⟩) hH ?_
    rotate_left
    · kernel_rfl
    · kernel_rfl
    · kernel_rfl
    · exact fun _ _ _ h => h
    · kernel_rfl
    · intro wS hSw
      try dsimp only at hSw
      go_simp
      try with_reducible rfl
    try simp only [Act.put, List.setIfInBounds_toArray, List.set_cons_zero, List.set_cons_succ]
    refine wpAnyH_take (i := 1) (oi := { dst := some 15, op := Go.Op.indexAddr 22 (Go.Operand.tmp 14) (Go.Operand.const (Go.Value.int Go.IntKind.i64 0)), type := 0, pos := "glitch.go:31", after := #[{ on := 0, ground := Go.Ground.data }], guard := none }) (v := ?_) rfl ?_ ?_ ?_ ?_ (Or.inl ⟨?_, ?_⟩) hH ?_
    rotate_left
    · kernel_rfl
    · kernel_rfl
    · kernel_rfl
    · exact fun _ _ _ h => h
    · kernel_rfl
    · intro wS hSw
      try dsimp only at hSw
      go_simp
      try with_reducible rfl
    try simp only [Act.put, List.setIfInBounds_toArray, List.set_cons_zero, List.set_cons_succ]
    refine wpAnyH_take (i := 2) (oi := { dst := some 16, op := Go.Op.load 48 (Go.Operand.tmp 15), type := 48, pos := "glitch.go:31", after := #[{ on := 1, ground := Go.Ground.data }], guard := none }) (v := ?_) rfl ?_ ?_ ?_ ?_ (Or.inl ⟨?_, ?_⟩) hH ?_
    rotate_left
    · kernel_rfl
    · kernel_rfl
    · kernel_rfl
    · exact fun _ _ _ h => h
    · kernel_rfl
    · intro wS hSw
      try dsimp only at hSw
      go_simp
      try with_reducible rfl
    try simp only [Act.put, List.setIfInBounds_toArray, List.set_cons_zero, List.set_cons_succ]
    refine wpAnyH_take (i := 4) (oi := { dst := some 18, op := Go.Op.move (Go.Operand.tmp 5), type := 22, pos := "glitch.go:31", after := #[], guard := none }) (v := ?_) rfl ?_ ?_ ?_ ?_ (Or.inl ⟨?_, ?_⟩) hH ?_
    rotate_left
    · kernel_rfl
    · kernel_rfl
    · kernel_rfl
    · exact fun _ _ _ h => h
    · kernel_rfl
    · intro wS hSw
      try dsimp only at hSw
      go_simp
      try with_reducible rfl
    try simp only [Act.put, List.setIfInBounds_toArray, List.set_cons_zero, List.set_cons_succ]
    refine wpAnyH_take (i := 5) (oi := { dst := some 19, op := Go.Op.slice 22 (Go.Operand.tmp 18) (some (Go.Operand.const (Go.Value.int Go.IntKind.i64 1))) none none, type := 22, pos := "glitch.go:31", after := #[{ on := 4, ground := Go.Ground.data }], guard := none }) (v := ?_) rfl ?_ ?_ ?_ ?_ (Or.inl ⟨?_, ?_⟩) hH ?_
    rotate_left
    · kernel_rfl
    · kernel_rfl
    · kernel_rfl
    · exact fun _ _ _ h => h
    · kernel_rfl
    · intro wS hSw
      try dsimp only at hSw
      go_simp
      try with_reducible rfl
    try simp only [Act.put, List.setIfInBounds_toArray, List.set_cons_zero, List.set_cons_succ]
    refine wpAnyH_ready (rs := [3]) (by kernel_rfl) (by simp) ?_
    refine AllReadyH.cons (o := { dst := some 17, op := Go.Op.buildSlice 22 1 #[(0, Go.Operand.tmp 16)], type := 22, pos := "glitch.go:31", after := #[{ on := 2, ground := Go.Ground.data }], guard := none }) rfl (fun K hK => ?_) AllReadyH.nil
    · obtain ⟨wA2, hA2⟩ : ∃ wA2, wA2 = World.alloc WD (.cells #[.int .i64 x0, .int .i64 x1] 48) := ⟨_, rfl⟩
      have SA2 := Lib.hid (show wA2.cell? ⟨UA, 0, none⟩ = some (.int .i64 x0) ∧ wA2.cell? ⟨UA, 1, none⟩ = some (.int .i64 x1) by rw [hA2]; exact ⟨((ba _ _).cell (p := ⟨UA, 0, none⟩) G0.out).trans S0.out.1, ((ba _ _).cell (p := ⟨UA, 1, none⟩) G0.out).trans S0.out.2⟩)
      have XA2 := Lib.hid (show RowAt wA2 WD.heap.size 48 #[.int .i64 x0, .int .i64 x1] by rw [hA2]; exact RowAt.new _ _ _)
      have BA2 := Lib.hid (show Below WD.heap.size WD wA2 by rw [hA2]; exact ba _ _)
      go_simp
      rw [← hA2]
      clear hA2
      refine hK.out _ _ ?_ (fun hH1 => ?_)
      · exact SA2.out
      clear hK K hH
      try simp only [Act.put, List.setIfInBounds_toArray, List.set_cons_zero, List.set_cons_succ]
      refine wpAnyH_take (i := 6) (oi := { dst := some 6, op := Go.Op.assign (Go.Operand.tmp 17), type := 22, pos := "glitch.go:31", after := #[{ on := 3, ground := Go.Ground.data }, { on := 0, ground := Go.Ground.phase }, { on := 1, ground := Go.Ground.phase }, { on := 2, ground := Go.Ground.phase }, { on := 3, ground := Go.Ground.phase }, { on := 4, ground := Go.Ground.textOnly Go.Departure.lateStores }, { on := 5, ground := Go.Ground.textOnly Go.Departure.lateStoresUnsure }], guard := none }) (v := ?_) rfl ?_ ?_ ?_ ?_ (Or.inl ⟨?_, ?_⟩) hH1 ?_
      rotate_left
      · kernel_rfl
      · kernel_rfl
      · kernel_rfl
      · exact fun _ _ _ h => h
      · kernel_rfl
      · intro wS hSw
        try dsimp only at hSw
        go_simp
        try with_reducible rfl
      try simp only [Act.put, List.setIfInBounds_toArray, List.set_cons_zero, List.set_cons_succ]
      refine wpAnyH_take (i := 7) (oi := { dst := some 7, op := Go.Op.assign (Go.Operand.tmp 19), type := 22, pos := "glitch.go:31", after := #[{ on := 5, ground := Go.Ground.data }, { on := 6, ground := Go.Ground.chain }, { on := 0, ground := Go.Ground.phase }, { on := 1, ground := Go.Ground.phase }, { on := 2, ground := Go.Ground.phase }, { on := 3, ground := Go.Ground.phase }, { on := 4, ground := Go.Ground.phase }, { on := 5, ground := Go.Ground.phase }, { on := 6, ground := Go.Ground.phase }], guard := none }) (v := ?_) rfl ?_ ?_ ?_ ?_ (Or.inl ⟨?_, ?_⟩) hH1 ?_
      rotate_left
      · kernel_rfl
      · kernel_rfl
      · kernel_rfl
      · exact fun _ _ _ h => h
      · kernel_rfl
      · intro wS hSw
        try dsimp only at hSw
        go_simp
        try with_reducible rfl
      try simp only [Act.put, List.setIfInBounds_toArray, List.set_cons_zero, List.set_cons_succ]
      refine wpAnyH_done (by kernel_rfl) ?_ _
      generalize hAD : (if UC = 1 then (some ⟨UA, 0, none⟩ : Option Addr) else some ⟨UA, 2, none⟩) = AD at *
      have HAR := Lib.hid (show RnArg w1 (.slice AD r0.length (UC - 1)) r0 by rw [← hAD]; have := RnArg.cut HR.out 1 (by simp) hcap.2.1 (by simp); simpa using this)
      have hBs := BA2.out.size
      have HK := Lib.hid (show RnRow wA2 w1.heap.size (.slice (some ⟨WD.heap.size, 0, none⟩) 1 1) [(x0, x1)] from rn_one XA2.out (by rw [hWS.out]; exact Nat.le_refl _))
      have HBW := Lib.hid (show Below w1.heap.size w1 wA2 from hWB.out.trans (by rw [← hWS.out]; exact BA2.out))
      have hUC : r0.length ≤ UC - 1 := by have := hcap.2.1; simp at this; omega
      clear hAD hcap HC R1 HR S0 G0 SA2 XA2 BA2 hWB
      try clear hH1
      go_wp2
      go_step3
      go_wp2
      generalize UC - 1 = UC at *
      go_loopg [6, 7] r0.length (fun n kp rs wr => ∃ (P : List Rn) (z : Rn) (r : List Rn) (AR : Option Addr) (c : Nat), n = r.length ∧ rs = .slice AR r.length c ∧ r.length ≤ c ∧ Hid (FlI k F P z r) ∧ Hid (RnRow wr w1.heap.size kp (P ++ [z])) ∧ Hid (RnArg w1 (.slice AR r.length c) r) ∧ Hid (Below w1.heap.size w1 wr))
      case atStart => exact ⟨[], (x0, x1), r0, AD, UC, rfl, rfl, hUC, I0, HK, HAR, HBW⟩
      case round =>
        obtain ⟨P, z, r, AR, c, hn, rfl, hcr, HI, HX, HA, HB⟩ := hrel
        have hrl : r.length ≤ 262144 := by have := HI.out.2.2.2; omega
        have hw0 := IntWalk.i64_in ((r.length : Int) - 1) (by omega)
        clear HK HAR HBW I0 hUC hle hz hs1 hBs
        obtain ⟨UK, UN, UM, rfl, hUN⟩ := KRow.form HX.out
        clear hUN
        subst hn
        go_wp2
        go_loopg [6, 7, 23] r.length (fun n kp rs i wi => ∃ j : Nat, kp = .slice UK UN UM ∧ rs = .slice AR r.length c ∧ i = .int .i64 j ∧ n + j = r.length ∧ wi = wr ∧ Hid (∀ q (hq : q < r.length), q < j → ¬ r[q].2 < k))
        case atStart => exact ⟨0, rfl, rfl, rfl, rfl, rfl, Lib.hid (fun q hq h => absurd h (by omega))⟩
        case round =>
          obtain ⟨j, rfl, rfl, rfl, hnj, rfl, HM⟩ := hrel
          by_cases hj : j + 1 < r.length
          · obtain ⟨A', c', e, hA⟩ := HA.out
            obtain ⟨rfl, _, rfl⟩ := Value.slice.inj e
            obtain ⟨g, o, rfl, hg, hcl⟩ := hA (by omega)
            have a0 := (HB.out.cell (p := ⟨g, o + j * 2 + 1, none⟩) hg).trans (arg_two hcl j (by omega)).2
            have a1 := (HB.out.cell (p := ⟨g, o + (j + 1) * 2 + 1, none⟩) hg).trans (arg_two hcl (j + 1) hj).2
            have d0 : (j : Int) < (r.length : Int) - 1 := by omega
            have d0' : decide ((j : Int) < (r.length : Int) - 1) = true := decide_eq_true d0
            have hjl : (j : Int) < (r.length : Int) := by omega
            have HJ := Lib.hid hj
            have hgr := Lib.hid hg
            clear hA hcl e hg
            by_cases ht : r[j].2 < k
            · obtain ⟨P', y, eX, hI, y1, y2, b1, c1, ys⟩ := HI.out.step j hj ht HM.out
              have EX := Lib.hid eX
              have HI2 := Lib.hid hI
              have HT := Lib.hid ht
              have ht' : decide (r[j].2 < k) = true := decide_eq_true ht
              have HTK := Lib.hid (RnArg.head (HA.out.keep HB.out) j (by omega) (by omega))
              have hln := HI.out.2.2.2
              have Hln := Lib.hid (show (P ++ [z]).length + (r.take j).length ≤ 262144 by rw [List.length_take]; omega)
              clear eX hI hln
              generalize r[j].2 = bt at *
              generalize r[j + 1].2 = ct at *
              go_wp2_with (first
                | (at_builtin; go_must (refine wpList_append_arg (o := ⟨some 37, _, _, _, _, _⟩) Try.underlying22 run_info rfl (by omega) rnC_size rnC_one rfl (.tmp 33) (.tmp 36) rfl rfl rfl HX.out HTK.out HB.out.size (by have := Hln.out; omega) (by have := Hln.out; omega) ?_; intro v6 w6 r6 b6; rw [EX.out] at r6; obtain ⟨VK, VM, rfl⟩ := KRow.full r6 (by simp); rw [show (P' ++ [y]).length = P'.length + 1 by simp] at r6 ⊢; have R6 := Lib.hid r6; have B6 := Lib.hid b6; clear r6 b6)))
              have a2 := (B6.out.cell (p := ⟨g, o + j * 2 + 1, none⟩) hgr.out).trans a0
              have a3 := (B6.out.cell (p := ⟨g, o + (j + 1) * 2 + 1, none⟩) hgr.out).trans a1
              have a4 := R6.out.cell rnC_size P'.length (by simp) 1 (by omega)
              have a5 := R6.out.frozen (P'.length * 2 + 1)
              have hgl : (P' ++ [y])[P'.length]'(by simp) = y := by simp
              rw [hgl] at a4
              have HM6 := Lib.hid (show P'.length + 1 ≤ 262144 by have := HI2.out.2.2.2; simp at this; omega)
              obtain ⟨y0, yt⟩ := y
              have R7 := Lib.hid (show RnRow (w6.drew.setCell ⟨VK, P'.length * 2 + 1, none⟩ (.int .i64 (yt + (bt + ct)))) w1.heap.size (.slice (some ⟨VK, 0, none⟩) (P'.length + 1) VM) (P' ++ [(y0, yt + (bt + ct))]) from by
                have := KRow.cellSet rnC_size (KRow.drewN R6.out 1) P'.length 1 (by simp) (by omega) (.int .i64 (yt + (bt + ct))) (y0, yt + (bt + ct)) (by rw [hgl]; rfl)
                rw [show (P' ++ [(y0, yt)]).set P'.length (y0, yt + (bt + ct)) = P' ++ [(y0, yt + (bt + ct))] by simp] at this
                exact this)
              have B7 := Lib.hid (show Below w1.heap.size w1 (w6.drew.setCell ⟨VK, P'.length * 2 + 1, none⟩ (.int .i64 (yt + (bt + ct)))) from Below.setCell (HB.out.trans B6.out).drew (KRow.len R6.out).2.2.1 _)
              have f2 : w6.drew.cell? ⟨g, o + j * 2 + 1, none⟩ = some (.int .i64 bt) := a2
              have f3 : w6.drew.cell? ⟨g, o + (j + 1) * 2 + 1, none⟩ = some (.int .i64 ct) := a3
              have f4 : w6.drew.cell? ⟨VK, P'.length * 2 + 1, none⟩ = some (.int .i64 yt) := a4
              have f5 : w6.drew.frozen? ⟨VK, P'.length * 2 + 1, none⟩ = false := a5
              clear a2 a3 a4 a5 hgl a0 a1 R6 B6 HTK HX EX
              have EL := Lib.hid (show (P' ++ [(y0, yt + (bt + ct))]).length = P'.length + 1 by simp)
              generalize hpl : P'.length = m at *
              clear hpl
              have m6 := HM6.out
              have w10 := IntWalk.i64_in (m : Int) (by omega)
              have w11 := IntWalk.i64_in ((j : Int) + 1) (by omega)
              have w12 := IntWalk.i64_in ((j : Int) + 2) (by omega)
              have w13 := IntWalk.i64_in (bt + ct) (by have := HI2.out.2.2.1; omega)
              have w14 := IntWalk.i64_in (yt + (bt + ct)) (by simp only at ys y1; omega)
              have l3 : (m : Int) < (m : Int) + 1 := by omega
              have l4 : (0 : Int) ≤ (j : Int) + 1 := by omega
              have l5 : ((j : Int) + 1).toNat = j + 1 := by omega
              have l6 : (0 : Int) ≤ (j : Int) + 2 := by omega
              have l7 : ((j : Int) + 2).toNat = j + 2 := by omega
              have l1 : (j : Int) + 1 < (r.length : Int) := by omega
              have l2 : (j : Int) + 2 ≤ (r.length : Int) := by omega
              go_still_tail 22, (by kernel_rfl)
              change wpList _ _ _ _ _ w6.drew
              generalize w6.drew = W at *
              have HCR := Lib.hid hcr
              have HAC := Lib.hid (RnArg.cut HA.out (j + 2) (by omega) hcr (by omega))
              by_cases hcj : c = j + 2
              · have HC2 := Lib.hid hcj
                have hcj' : (c = j + 2) = True := eq_true hcj
                clear hcj
                go_wp2
                go_roundg (r.length - (j + 2))
                case rel => exact ⟨P', (y0, yt + (bt + ct)), r.drop (j + 2), some ⟨g, o, none⟩, c - (j + 2), by rw [List.length_drop], by rw [List.length_drop], by rw [List.length_drop]; have := HCR.out; omega, HI2, R7, Lib.hid (by have a := HAC.out; rw [if_pos HC2.out] at a; rw [List.length_drop]; exact a), B7⟩
                case measure => omega
              · have HC2 := Lib.hid hcj
                go_wp2
                go_roundg (r.length - (j + 2))
                case rel => exact ⟨P', (y0, yt + (bt + ct)), r.drop (j + 2), some ⟨g, o + (j + 2) * 2, none⟩, c - (j + 2), by rw [List.length_drop], by rw [List.length_drop], by rw [List.length_drop]; have := HCR.out; omega, HI2, R7, Lib.hid (by have a := HAC.out; rw [if_neg HC2.out] at a; rw [List.length_drop]; exact a), B7⟩
                case measure => omega
            · have HT := Lib.hid ht
              have ht' : decide (r[j].2 < k) = false := decide_eq_false ht
              generalize r[j].2 = bt at a0 ht ht'
              go_wp2
              go_roundg (r.length - (j + 1))
              case rel => exact ⟨j + 1, rfl, rfl, by go_num, by omega, rfl, Lib.hid (fun q hq a => by
                by_cases e : q = j
                · subst e; exact HT.out
                · exact HM.out q hq (by omega))⟩
              case measure => omega
          · have d0 : ¬ (j : Int) < (r.length : Int) - 1 := by omega
            have d0' : decide ((j : Int) < (r.length : Int) - 1) = false := decide_eq_false d0
            have HE := Lib.hid (HI.out.done fun q hq => HM.out q (by omega) (by omega))
            have HTK := Lib.hid (HA.out.keep HB.out)
            have Hln := Lib.hid (HI.out.2.2.2)
            go_wp2_with (first
              | (at_builtin; go_must (refine wpList_append_arg (o := ⟨some 67, _, _, _, _, _⟩) Try.underlying22 run_info rfl (by omega) rnC_size rnC_one rfl (.tmp 65) (.tmp 66) rfl rfl rfl HX.out HTK.out HB.out.size (by have := Hln.out; omega) (by have := Hln.out; omega) ?_; intro v6 w6 r6 b6; rw [HE.out] at r6; obtain ⟨VK, VN, VM, rfl, hVN⟩ := KRow.form r6; clear hVN; have R6 := Lib.hid r6; have B6 := Lib.hid b6; clear r6 b6)))
            try rw [Exit.noGoto_ret]
            go_returns
            exact ⟨_, rfl, R6.out.mono B1.out.size, B1.out.trans ((HB.out.trans B6.out).mono B1.out.size)⟩
end Go.Proofs.Ytgihljconpijaaa
