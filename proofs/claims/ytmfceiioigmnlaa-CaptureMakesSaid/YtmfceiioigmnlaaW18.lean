/-
  The specification's together.
-/
import Derived.Test.YtmfceiioigmnlaaW17
import Derived.Test.YtmfceiioigmnlaaM7
namespace Go.Proofs.Ytmfceiioigmnlaa
open Go Go.RowKit Go.Joins
set_option linter.unusedVariables false
set_option linter.unusedSimpArgs false

def inC (x : Int) : Array Value := #[.int .i64 x]
theorem inC_size (x : Int) : (inC x).size = 1 := rfl
theorem inC_one (x : Int) : (inC x).toList.all (·.oneCell') = true := rfl
abbrev InRow (w : World) (B : Nat) (v : Value) (l : List Int) : Prop := KRow inC 1 3 w B v l
theorem int_info : (Try.prog.info? 3).map (fun i => (i.zero, i.size, i.bytes)) = some (some (.int .i64 0), 1, 8) := by kernel_rfl
theorem InRow.set {w : World} {B g n c : Nat} {l : List Int} (h : InRow w B (.slice (some ⟨g, 0, none⟩) n c) l) (j : Nat) (hj : j < l.length) (x : Int) :
    InRow (w.setCell ⟨g, j, none⟩ (.int .i64 x)) B (.slice (some ⟨g, 0, none⟩) n c) (l.set j x) := by
  have := KRow.cellSet inC_size h j 0 hj (by omega) (.int .i64 x) x rfl
  rwa [Nat.mul_one, Nat.add_zero] at this
theorem InRow.one {w : World} {B g n c : Nat} {l : List Int} (h : InRow w B (.slice (some ⟨g, 0, none⟩) n c) l) (j : Nat) (hj : j < l.length) : w.cell? ⟨g, j, none⟩ = some (.int .i64 l[j]) ∧ w.frozen? ⟨g, j, none⟩ = false := by
  have := h.cell inC_size j hj 0 (by omega)
  rw [Nat.mul_one, Nat.add_zero] at this
  exact ⟨this, h.frozen _⟩
/-- A row at one address, behind a store into another block. -/
theorem KRow.apart {α : Type} {enc : α → Array Value} {k : Nat} {T : TypeId} {w : World} {B g n c : Nat} {l : List α} (h : KRow enc k T w B (.slice (some ⟨g, 0, none⟩) n c) l) (a : Addr) (v : Value) (hg : g ≠ a.block) : KRow enc k T (w.setCell a v) B (.slice (some ⟨g, 0, none⟩) n c) l := by
  refine ⟨h.1, h.2.imp id fun ⟨g', cap, cur, e, h1, h2, h3⟩ => ⟨g', cap, cur, e, h1, ?_, h3⟩⟩
  simp only [Value.slice.injEq, Option.some.injEq, Addr.mk.injEq, and_true] at e
  obtain ⟨rfl, _⟩ := e
  rw [heap_setCell_other _ _ _ _ hg]; exact h2

theorem wrap_bit2 {x : Int} {k : Nat} (hx : 0 ≤ x ∧ x ≤ 1) (hk : k ≤ 15) : IntKind.i64.wrap (x * 2 ^ k) = x * 2 ^ k := by
  have e : (2 : Int) ^ k = ((2 ^ k : Nat) : Int) := by simp
  have h2 : 2 ^ k ≤ 2 ^ 15 := Nat.pow_le_pow_right (by omega) hk
  have : x = 0 ∨ x = 1 := by omega
  rw [e]
  generalize 2 ^ k = P at *
  rcases this with rfl | rfl
  · exact IntWalk.i64_in _ (by omega)
  · exact IntWalk.i64_in _ (by omega)
theorem KRow.keepB {α : Type} {enc : α → Array Value} {k : Nat} {T : TypeId} {w w' : World} {B C g n c : Nat} {l : List α} (h : KRow enc k T w B (.slice (some ⟨g, 0, none⟩) n c) l) (hb : Below C w w') (hg : g < C) : KRow enc k T w' B (.slice (some ⟨g, 0, none⟩) n c) l := by
  refine ⟨h.1, h.2.imp id fun ⟨g', cap, cur, e, h1, h2, h3⟩ => ⟨g', cap, cur, e, h1, ?_, h3⟩⟩
  simp only [Value.slice.injEq, Option.some.injEq, Addr.mk.injEq, and_true] at e
  obtain ⟨rfl, _⟩ := e
  rw [hb.block g hg]; exact h2

set_option maxRecDepth 20000 in
set_option maxHeartbeats 8000000 in
theorem together_any (ws : List (List Rn)) (V : Value) (T : Int) (w : World) (hT : WvArg w V ws) (hw : Wv ws T) (hn0 : 0 < ws.length) (hn : ws.length ≤ 16) (hsl : sl2 ws ≤ 262144) :
    Calls Try.prog 48 #[V] w fun e w' => ∃ (v : Value) (out : List Rn), e = .returned v ∧ RnRow w' w.heap.size v out ∧ Cb ws T out ∧ out.length ≤ 262144 ∧ Below w.heap.size w w' := by
  obtain ⟨A, c, rfl, hA⟩ := hT.form
  obtain ⟨g, o, rfl, hg, hcell⟩ := hA hn0
  have HCell := Lib.hid hcell
  have HW := Lib.hid hw
  have hTr := hw.T_range hn0
  have hl0' : (0 : Int) < ws.length := by omega
  have hn' : (ws.length : Int) ≤ 16 := by omega
  clear hA hT hw hcell
  go_enter Try.func48, Try.ntmps48
  go_wp2_with (first
    | (at_make; go_must (first
        | (refine wpList_make_k (enc := inC) Try.underlying77 int_info (0 : Int) rfl rfl rfl _ _ rfl rfl rfl rfl rfl (by omega) (by omega) (Nat.le_refl _) ?_; intro w2 r2 b2; have R12 := Lib.hid (KRow.keep R1.out b2); have R2 := Lib.hid r2; have B2 := Lib.hid (B1.out.trans (b2.mono B1.out.size)); have m2 := Lib.hid r2.len.2.2.2; clear r2 b2)
        | (refine wpList_make_k (enc := inC) Try.underlying77 int_info (0 : Int) rfl rfl rfl _ _ rfl rfl rfl rfl rfl (by omega) (by omega) (Nat.le_refl _) ?_; intro w1 r1 b1; have R1 := Lib.hid r1; have B1 := Lib.hid b1; have m1 := Lib.hid r1.len.2.2.2; clear r1 b1))))
  have hF0 : (List.replicate ws.length (0 : Int)).length = ws.length := by simp
  have HF0 := Lib.hid hF0
  clear hF0
  have hab : w.heap.size < w1.heap.size := m1.out
  have hb0 : w1.heap.size < w2.heap.size := m2.out
  have HAB := Lib.hid hab
  clear R1 B1
  go_loopw [5] (fun i wr => ∃ (k : Nat) (F : List Int), k ≤ ws.length ∧ i = .int .i64 k ∧ F.length = ws.length ∧ Hid (∀ i (hi : i < ws.length) (h' : i < F.length), F[i] = if i < k then rm ws[i] (0, 0) else 0) ∧ Hid (InRow wr w.heap.size (.slice (some ⟨w.heap.size, 0, none⟩) ws.length ws.length) (List.replicate ws.length 0)) ∧ Hid (InRow wr w1.heap.size (.slice (some ⟨w1.heap.size, 0, none⟩) ws.length ws.length) F) ∧ Hid (Below w.heap.size w wr) ∧ Hid (w1.heap.size < wr.heap.size)) (fun i _ => ws.length - (intOf i).toNat)
  case atStart => exact ⟨0, List.replicate ws.length 0, Nat.zero_le _, rfl, HF0.out, Lib.hid (fun i hi h' => by rw [List.getElem_replicate, if_neg (by omega)]), R12, R2, B2, m2⟩
  case round =>
    obtain ⟨k, F, hk, rfl, hFl, HFk, HRA, HRF, HB, HS⟩ := hrel
    have hb := HB.out
    by_cases hkl : k < ws.length
    · obtain ⟨B, d, hc1, hc2⟩ := HCell.out k hkl
      have f0 := (hb.cell (p := ⟨g, o + k, none⟩) hg).trans hc1
      have hlen := (HW.out k hkl).1
      obtain ⟨q0, q1⟩ := InRow.one HRF.out k (by omega)
      by_cases hw0 : 0 < ws[k].length
      · obtain ⟨B2, d2, he, hrr⟩ := hc2
        simp only [Value.slice.injEq] at he
        obtain ⟨rfl, _, rfl⟩ := he
        obtain ⟨g2, o2, rfl, hg2, hc3⟩ := hrr hw0
        obtain ⟨a0, a1⟩ := arg_two hc3 0 hw0
        rw [Nat.zero_mul, Nat.add_zero] at a1
        have f1 := (hb.cell (p := ⟨g2, o2 + 1, none⟩) hg2).trans a1
        have hrm := rm_start hw0
        have HF2 := Lib.hid (show ∀ i (hi : i < ws.length) (h' : i < (F.set k ws[k][0].2).length), (F.set k ws[k][0].2)[i] = if i < k + 1 then rm ws[i] (0, 0) else 0 by
          intro i hi h'
          by_cases c : k = i
          · subst c; rw [List.getElem_set_self, if_pos (by omega), hrm]
          · rw [List.getElem_set_ne c, HFk.out i hi (by rw [List.length_set] at h'; exact h')]
            by_cases c2 : i < k
            · rw [if_pos c2, if_pos (by omega)]
            · rw [if_neg c2, if_neg (by omega)])
        have HRF2 := Lib.hid (InRow.set HRF.out k (by omega) ws[k][0].2)
        have HRA2 := Lib.hid (KRow.apart HRA.out ⟨w1.heap.size, k, none⟩ (.int .i64 ws[k][0].2) (by show w.heap.size ≠ w1.heap.size; omega))
        have hkl' : (k : Int) < ws.length := by omega
        have hw0' : (0 : Int) < ws[k].length := by omega
        clear hc1 hrr hc3 a0 a1 hrm HFk
        generalize ws[k][0].2 = x1 at *
        generalize ws[k].length = nk at *
        go_wp2
        go_roundw
        case rel => exact ⟨k + 1, F.set k x1, by omega, by go_num, by rw [List.length_set]; exact hFl, HF2, HRA2, HRF2, Lib.hid (Below.setCell hb (by show w.heap.size ≤ w1.heap.size; omega) _), Lib.hid (by rw [World.size_setCell]; exact HS.out)⟩
        case measure => simp [intOf]; omega
      · have hrm := rm_start0 hw0
        have HF2 := Lib.hid (show ∀ i (hi : i < ws.length) (h' : i < F.length), F[i] = if i < k + 1 then rm ws[i] (0, 0) else 0 by
          intro i hi h'
          rw [HFk.out i hi h']
          by_cases c : k = i
          · subst c; rw [if_neg (by omega), if_pos (by omega), hrm]
          · by_cases c2 : i < k
            · rw [if_pos c2, if_pos (by omega)]
            · rw [if_neg c2, if_neg (by omega)])
        have hkl' : (k : Int) < ws.length := by omega
        have hw0' : decide ((0 : Int) < ws[k].length) = false := decide_eq_false (by omega)
        clear hc1 hc2 hrm HFk
        generalize ws[k].length = nk at *
        go_wp2
        go_roundw
        case rel => exact ⟨k + 1, F, by omega, by go_num, hFl, HF2, HRA, HRF, HB, HS⟩
        case measure => simp [intOf]; omega
    · have HSt := Lib.hid (St_start hFl (fun i hi h' => by rw [HFk.out i hi h', if_pos (by omega)]))
      clear HFk
      obtain ⟨wA, hwA⟩ : ∃ wA : World, wA = wr := ⟨_, rfl⟩
      subst hwA
      have RO := Lib.hid (KRow.lit (T := 49) rnC_size wA wA.heap.size (Nat.le_refl _) [] #[] rfl 0 rfl (by decide))
      have RA0 := Lib.hid (HRA.out.alloc (.cells #[] 49)); have RF0 := Lib.hid (HRF.out.alloc (.cells #[] 49)); have BB0 := Lib.hid (hb.alloc hb.size (.cells #[] 49))
      have hPst := Lib.hid (Pa_start HW.out)
      have hSA := HS.out
      go_wp2
      go_loopg [6] T.toNat (fun gk v wr => ∃ (t : Int) (G : List Ps) (AL FL : List Int) (out : List Rn), gk = (T - t).toNat ∧ 0 ≤ t ∧ t ≤ T ∧ AL.length = ws.length ∧ FL.length = ws.length ∧ Hid (Pa ws t G) ∧ Hid (St ws G AL FL) ∧ Hid (Cb ws t out) ∧ Hid ((out.length : Int) ≤ sj G) ∧ Hid (RnRow wr wA.heap.size v out) ∧ Hid (InRow wr w.heap.size (.slice (some ⟨w.heap.size, 0, none⟩) ws.length ws.length) AL) ∧ Hid (InRow wr w1.heap.size (.slice (some ⟨w1.heap.size, 0, none⟩) ws.length ws.length) FL) ∧ Hid (Below w.heap.size w wr) ∧ Hid (wA.heap.size ≤ wr.heap.size))
      case atStart => exact ⟨0, List.replicate ws.length (0, 0), List.replicate ws.length 0, F, [], by omega, by omega, by omega, HF0.out, hFl, hPst, HSt, Lib.hid (Cb_start ws), Lib.hid (by show (0 : Int) ≤ _; have : ∀ n, sj (List.replicate n ((0, 0) : Ps)) = 0 := (by intro n; induction n with | zero => rfl | succ n ih => rw [List.replicate_succ]; simp only [sj, ih]; omega); rw [this]; omega), RO, RA0, RF0, BB0, Lib.hid (by rw [World.size_alloc]; omega)⟩
      case round =>
        obtain ⟨t, G, AL, FL, out, hgk, ht0, htT, hAL, hFL, HPa, HSt2, HCb, HOl, HR, HRA, HRF, HB, HS⟩ := hrel
        have hb := HB.out
        have hGl := HPa.out.1
        have hG0 : 0 < G.length := by omega
        obtain ⟨c0, z0⟩ := InRow.one HRF.out 0 (by omega)
        have hf0 := (HSt2.out.2.2.2 0 hn0 hG0 (by omega) (by omega)).1
        rw [hf0] at c0
        have hsj := Pa_sum HPa.out
        by_cases ht : t < T
        · have hr0 := Pa_rm HW.out HPa.out ht 0 hn0 hG0
          obtain ⟨hD1, hDT, hDe, hPa2, hCb2, hS2⟩ := round_facts HW.out HPa.out hn0 ht0 ht HCb.out HOl.out (rm ws[0] G[0]) (Or.inr ⟨hG0, rfl⟩)
          have hlg : lg out = t := HCb.out.2.2.1
          have hout : (out.length : Int) ≤ 262144 := by have := HOl.out; omega
          have H01 := Lib.hid (Pa_01 HW.out ht0 ht)
          have CL : Hid (∀ V w', RnRow w' wA.heap.size V out → wA.heap.size ≤ w'.heap.size → Calls Try.prog 41 #[V, .agg #[.int .i64 (lvl ws t), .int .i64 (mnF (rm ws[0] G[0]) ws G)]] w' fun e w'' => ∃ v : Value, e = .returned v ∧ RnRow w'' wA.heap.size v (pt out (lvl ws t, mnF (rm ws[0] G[0]) ws G)) ∧ Below wA.heap.size w' w'') := Lib.hid (fun V w' h1 h2 => put_any out _ V _ _ w' h1 h2 HCb.out.2.1 hD1 (by omega) (by omega))
          have HPa2 := Lib.hid hPa2; have HCb2 := Lib.hid hCb2; have HS2 := Lib.hid hS2; have HDe := Lib.hid hDe
          have HM0 := Lib.hid (show mnF (rm ws[0] G[0]) (ws.drop 0) (G.drop 0) = mnF (rm ws[0] G[0]) ws G from rfl)
          obtain ⟨D, hD⟩ : ∃ D, mnF (rm ws[0] G[0]) ws G = D := ⟨_, rfl⟩
          obtain ⟨Lv, hLv⟩ : ∃ Lv, lvl ws t = Lv := ⟨_, rfl⟩
          rw [hD] at CL HPa2 HCb2 HS2 HDe HM0 hD1 hDT
          rw [hLv] at CL HCb2 HS2
          have HLv := Lib.hid hLv
          have hr01 : (0 : Int) < rm ws[0] G[0] := by omega
          have hr1 := hr0.1
          have hr2 := hr0.2.1
          obtain ⟨UA, UN, UC, rfl, hUN⟩ := HR.out.form
          clear hUN hDe hPa2 hCb2 hS2 hD hLv hf0 hlg hr0 z0
          generalize rm ws[0] G[0] = M0 at *
          go_wp2
          go_quiet (fail)
          have HRq := Lib.hid (KRow.drewN HR.out nq); have HRAq := Lib.hid (KRow.drewN HRA.out nq); have HRFq := Lib.hid (KRow.drewN HRF.out nq); have HBq := Lib.hid (Go.below_drewN hb nq)
          have HSq : Hid (wA.heap.size ≤ (wr.drewN nq).heap.size) := HS
          change Hid (RnRow (wr.drewN nq) _ _ _) at HRq
          change Hid (InRow (wr.drewN nq) _ _ _) at HRAq
          change Hid (InRow (wr.drewN nq) _ _ _) at HRFq
          clear c0
          generalize wr.drewN nq = W at *
          go_wp2
          go_loopw [9, 7, 8] (fun i a m wr => ∃ (k q : Nat) (acc mm : Int), k ≤ ws.length ∧ i = .int .i64 k ∧ a = .int .i64 acc ∧ m = .int .i64 mm ∧ 1 ≤ mm ∧ mm ≤ 1099511627776 ∧ Hid (acc = lvl (ws.take k) t) ∧ Hid (mnF mm (ws.drop k) (G.drop k) = D) ∧ wr = W.drewN q) (fun i _ _ _ => ws.length - (intOf i).toNat)
          case atStart => exact ⟨0, 0, 0, M0, Nat.zero_le _, rfl, rfl, rfl, hr1, hr2, Lib.hid rfl, HM0, rfl⟩
          case round =>
            obtain ⟨k, q, acc, mm, hk, rfl, rfl, rfl, hm0, hm1, HAc, HM, rfl⟩ := hrel
            have hbq := HBq.out
            by_cases hkl : k < ws.length
            · have hkG : k < G.length := by omega
              obtain ⟨B, d, hc1, hc2⟩ := HCell.out k hkl
              obtain ⟨j, hj, e1, e2, e3, e4⟩ := Pz_in (HPa.out.2 k hkl hkG) (by rw [(HW.out k hkl).2.2]; exact ht)
              obtain ⟨hsf, hsa⟩ := HSt2.out.2.2.2 k hkl hkG (by omega) (by omega)
              have hsa2 := hsa (by omega)
              obtain ⟨ca, _⟩ := InRow.one HRAq.out k (by omega)
              obtain ⟨cf, _⟩ := InRow.one HRFq.out k (by omega)
              rw [hsa2, e1] at ca
              rw [hsf] at cf
              obtain ⟨B2, d2, he, hrr⟩ := hc2
              simp only [Value.slice.injEq] at he
              obtain ⟨rfl, _, rfl⟩ := he
              obtain ⟨g2, o2, rfl, hg2, hc3⟩ := hrr (by omega)
              obtain ⟨a0, a1⟩ := arg_two hc3 j hj
              have f0 := (hbq.cell (p := ⟨g, o + k, none⟩) hg).trans hc1
              have f1 := (hbq.cell (p := ⟨g2, o2 + j * 2, none⟩) hg2).trans a0
              have hx := (el_range (HW.out k hkl).2.1 j hj).1
              have hlen := (HW.out k hkl).1
              have HM2 := Lib.hid ((mnF_drop mm ws G k hkl hkG).symm.trans HM.out)
              have hrm := Pa_rm HW.out HPa.out ht k hkl hkG
              have hlv := lvl_take ws k hkl t
              rw [Pz_level (HW.out.ps k hkl) (HPa.out.2 k hkl hkG) (by rw [(HW.out k hkl).2.2]; exact ht) (d := 1) hrm.1 (Int.le_refl _) (by omega), ← HAc.out] at hlv
              have hlr := lvl_range (w01_take H01.out k)
              rw [List.length_take, Nat.min_eq_left hk, ← HAc.out] at hlr
              have hgd : ws[k].getD G[k].1.toNat (0, 0) = ws[k][j] := by rw [e1]; simp [hj]
              rw [hgd] at hlv
              change lvl (ws.take (k + 1)) t = acc + ws[k][j].1 * 2 ^ k at hlv
              have HLV := Lib.hid hlv
              have hor := or_step (b := ws[k][j].1) hlr.1 hlr.2 (by omega) (show k ≤ 15 by omega)
              have hk15 : k ≤ 15 := by omega
              have hwb : IntKind.i64.wrap (ws[k][j].1 * 2 ^ k) = ws[k][j].1 * 2 ^ k := wrap_bit2 hx hk15
              have hjl : (j : Int) < ws[k].length := by omega
              have hkl' : (k : Int) < ws.length := by omega
              have hrm1 := hrm.1
              have hrm2 := hrm.2.1
              clear hc1 hrr hc3 a0 a1 hgd hlv HM HAc hsf hsa hsa2 e1 e2 e3 e4 hlr hrm
              generalize ws[k][j].1 = x0 at *
              generalize rm ws[k] G[k] = rk at *
              generalize ws[k].length = nk at *
              obtain ⟨P, hP⟩ : ∃ P, x0 * 2 ^ k = P := ⟨_, rfl⟩
              rw [hP] at hor hwb HLV
              have hwb2 : IntKind.i64.wrap (x0 * 2 ^ k) = P := by rw [hP]; exact hwb
              clear hP hwb hk15
              by_cases hlt : rk < mm
              · have HMm : Hid (mnF rk (ws.drop (k + 1)) (G.drop (k + 1)) = D) := Lib.hid (by rw [← HM2.out, show min mm rk = rk by omega])
                go_wp2
                go_quiet (fail)
                go_wp2
                go_roundw
                case rel => exact ⟨k + 1, q + nq, acc + P, rk, by omega, by go_num, by first | rfl | exact val_int hor, rfl, by omega, by omega, Lib.hid HLV.out.symm, HMm, rfl⟩
                case measure => simp [intOf]; omega
              · have HMm : Hid (mnF mm (ws.drop (k + 1)) (G.drop (k + 1)) = D) := Lib.hid (by rw [← HM2.out, show min mm rk = mm by omega])
                go_wp2
                go_quiet (fail)
                go_wp2
                go_roundw
                case rel => exact ⟨k + 1, q + nq, acc + P, mm, by omega, by go_num, by first | rfl | exact val_int hor, rfl, by omega, by omega, Lib.hid HLV.out.symm, HMm, rfl⟩
                case measure => simp [intOf]; omega
            · have hacc := HAc.out
              rw [List.take_of_length_le (by omega), HLv.out] at hacc
              have hmm := HM.out
              rw [List.drop_eq_nil_of_le (show ws.length ≤ k by omega)] at hmm
              have hmm2 : mm = D := hmm
              subst hacc
              subst hmm2
              clear hmm HM HAc
              have HRp := Lib.hid (KRow.drewN HRq.out q); have HRAp := Lib.hid (KRow.drewN HRAq.out q); have HRFp := Lib.hid (KRow.drewN HRFq.out q); have HBp := Lib.hid (Go.below_drewN hbq q)
              have HSp : Hid (wA.heap.size ≤ (W.drewN q).heap.size) := HSq
              change Hid (RnRow (W.drewN q) _ _ _) at HRp
              change Hid (InRow (W.drewN q) _ _ _) at HRAp
              change Hid (InRow (W.drewN q) _ _ _) at HRFp
              generalize W.drewN q = W2 at *
              go_wp2_with (first
                | (go_at_call 41; go_must (refine (CL.out _ _ HRp.out HSp.out).mono ?_; rintro e6 w6 ⟨v6, rfl, r6, b6⟩; have xA := Lib.hid (KRow.keepB HRAp.out b6 (Nat.lt_trans hab hSA)); have xF := Lib.hid (KRow.keepB HRFp.out b6 hSA); have xB := Lib.hid (HBp.out.trans (b6.mono (Nat.le_of_lt (Nat.lt_trans hab hSA)))); have xS := Lib.hid (Nat.le_trans HSp.out b6.size); obtain ⟨VA, VN, VC, rfl, rfl⟩ := KRow.form r6; have xR := Lib.hid r6; clear r6 b6)))
              have HSt3 := Lib.hid (show St ws (mx mm ws G 0) AL FL by rw [mx_zero]; exact HSt2.out)
              have hw6 : w.heap.size < w6.heap.size := Nat.lt_of_lt_of_le (Nat.lt_trans hab hSA) xS.out
              clear HRp HRAp HRFp HRq HRAq HRFq RA0 RF0 RO
              go_loopw [10] (fun i wr => ∃ (k : Nat) (AL FL : List Int), k ≤ ws.length ∧ i = .int .i64 k ∧ AL.length = ws.length ∧ FL.length = ws.length ∧ Hid (St ws (mx mm ws G k) AL FL) ∧ Hid (RnRow wr wA.heap.size (.slice VA (pt out (acc, mm)).length VC) (pt out (acc, mm))) ∧ Hid (InRow wr w.heap.size (.slice (some ⟨w.heap.size, 0, none⟩) ws.length ws.length) AL) ∧ Hid (InRow wr w1.heap.size (.slice (some ⟨w1.heap.size, 0, none⟩) ws.length ws.length) FL) ∧ Hid (Below w.heap.size w wr) ∧ Hid (wA.heap.size ≤ wr.heap.size)) (fun i _ => ws.length - (intOf i).toNat)
              case atStart => exact ⟨0, AL, FL, Nat.zero_le _, rfl, hAL, hFL, HSt3, xR, xA, xF, xB, xS⟩
              case round =>
                obtain ⟨k, A2, F2, hk, rfl, hA2, hF2, HSk, HRk, HAk, HFk, HBk, HSk2⟩ := hrel
                have hbk := HBk.out
                by_cases hkl : k < ws.length
                · have hkG : k < G.length := by omega
                  obtain ⟨B, d, hc1, hc2⟩ := HCell.out k hkl
                  obtain ⟨j, hj, e1, e2, e3, e4⟩ := Pz_in (HPa.out.2 k hkl hkG) (by rw [(HW.out k hkl).2.2]; exact ht)
                  have hml := mx_len mm ws G hGl.symm k hk
                  have hS4 := HSk.out.2.2.2 k hkl (by omega) (by omega) (by omega)
                  rw [mx_at mm ws G hGl.symm k hkl (by omega)] at hS4
                  obtain ⟨hsf, hsa⟩ := hS4
                  have hsa2 := hsa (by omega)
                  have hrm : rm ws[k] G[k] = ws[k][j].2 - G[k].2 := by unfold rm; rw [e1]; simp [hj]
                  obtain ⟨av1, av2⟩ := av_in (D := mm) hj e1
                  have hDk := HDe.out k hkl hkG
                  have hr1k := Pa_rm HW.out HPa.out ht k hkl hkG
                  have hst := fun a f h1 h2 => St_step (a := a) (f := f) hGl HSk.out hkl h1 h2
                  obtain ⟨ca, za⟩ := InRow.one HAk.out k (by omega)
                  obtain ⟨cf, zf⟩ := InRow.one HFk.out k (by omega)
                  rw [hsa2, e1] at ca
                  rw [hsf] at cf
                  obtain ⟨B2, d2, he, hrr⟩ := hc2
                  simp only [Value.slice.injEq] at he
                  obtain ⟨rfl, _, rfl⟩ := he
                  obtain ⟨g2, o2, rfl, hg2, hc3⟩ := hrr (by omega)
                  have hlen := (HW.out k hkl).1
                  have HFC := Lib.hid (fun w' (hb' : Below w.heap.size w w') => (hb'.cell (p := ⟨g, o + k, none⟩) hg).trans hc1)
                  have hkl' : (k : Int) < ws.length := by omega
                  have hsA2 : A2.set k A2[k] = A2 := set_id (by omega)
                  have T1 := Lib.hid (fun (y : Int) => InRow.set HFk.out k (by omega) y)
                  have T2 := Lib.hid (fun (y : Value) => KRow.apart HAk.out ⟨w1.heap.size, k, none⟩ y (by show w.heap.size ≠ w1.heap.size; omega))
                  have T3 := Lib.hid (fun (y : Value) => show RnRow (wr.setCell ⟨w1.heap.size, k, none⟩ y) wA.heap.size _ _ from KRow.others HRk.out (b := w1.heap.size) (fun q hq => heap_setCell_other _ _ _ _ (fun e => hq e)) hSA)
                  have T4 := Lib.hid (fun (y : Value) => show Below w.heap.size w (wr.setCell ⟨w1.heap.size, k, none⟩ y) from Below.setCell hbk (by show w.heap.size ≤ w1.heap.size; omega) _)
                  have T5 := Lib.hid (fun (y : Value) => show wA.heap.size ≤ (wr.setCell ⟨w1.heap.size, k, none⟩ y).heap.size by rw [World.size_setCell]; exact HSk2.out)
                  by_cases hz : G[k].2 + mm = ws[k][j].2
                  · have hav := av2 hz
                    have hRm : rm ws[k] G[k] = mm := by rw [hrm]; omega
                    rw [hRm] at cf
                    by_cases hj1 : j + 1 < ws[k].length
                    · obtain ⟨a0, a1⟩ := arg_two hc3 (j + 1) hj1
                      have hst2 := Lib.hid (hst ((j : Int) + 1) ws[k][j + 1].2 (by rw [hav]; exact (rm_next hj1).symm) (fun _ => by rw [hav]))
                      have HFD := Lib.hid (fun w' (hb' : Below w.heap.size w w') => (hb'.cell (p := ⟨g2, o2 + (j + 1) * 2 + 1, none⟩) hg2).trans a1)
                      have hj1' : (j : Int) + 1 < ws[k].length := by omega
                      have hjb : (j : Int) + 1 ≤ 262144 := by omega
                      clear hc1 hrr hc3 a0 a1 hsf hsa hsa2 e1 e2 e3 e4 hrm av1 av2 hst hz hav hRm hsA2 hr1k hDk hml
                      generalize ws[k][j + 1].2 = x2 at *
                      generalize ws[k].length = nk at *
                      have hwj : IntKind.i64.wrap ((j : Int) + 1) = (j : Int) + 1 := IntWalk.i64_in _ (by omega)
                      go_wp2
                      have q1 := Lib.hid (T1.out 0); have q2 := Lib.hid (T2.out (.int .i64 0)); have q3 := Lib.hid (T3.out (.int .i64 0)); have q4 := Lib.hid (T4.out (.int .i64 0)); have q5 := Lib.hid (T5.out (.int .i64 0))
                      obtain ⟨cf2, zf2⟩ := InRow.one q1.out k (by rw [List.length_set]; omega)
                      rw [List.getElem_set_self] at cf2
                      have ca2 : (wr.setCell ⟨w1.heap.size, k, none⟩ (.int .i64 0)).cell? ⟨w.heap.size, k, none⟩ = some (.int .i64 j) := (World.cell?_setCell_other _ _ _ _ (fun e => by have := congrArg Addr.block e; simp only at this; omega)).trans ca
                      have f0 := HFC.out _ q4.out
                      clear T1 T2 T3 T4 T5 ca za cf zf
                      generalize wr.setCell ⟨w1.heap.size, k, none⟩ (.int .i64 0) = W3 at *
                      go_wp2
                      go_quiet (fail)
                      have u1 := Lib.hid (show InRow (W3.drewN nq) _ _ _ from KRow.drewN q1.out nq); have u2 := Lib.hid (show InRow (W3.drewN nq) _ _ _ from KRow.drewN q2.out nq); have u3 := Lib.hid (show RnRow (W3.drewN nq) _ _ _ from KRow.drewN q3.out nq); have u4 := Lib.hid (Go.below_drewN q4.out nq); have u5 : Hid (wA.heap.size ≤ (W3.drewN nq).heap.size) := q5
                      have ca3 : (W3.drewN nq).cell? ⟨w.heap.size, k, none⟩ = some (.int .i64 j) := ca2
                      clear q1 q2 q3 q4 q5 ca2 cf2 zf2 f0
                      generalize W3.drewN nq = W4 at *
                      obtain ⟨_, za3⟩ := InRow.one u2.out k (by omega)
                      have T1 := Lib.hid (InRow.set u2.out k (by omega) ((j : Int) + 1))
                      have T2 := Lib.hid (KRow.apart u1.out ⟨w.heap.size, k, none⟩ (.int .i64 ((j : Int) + 1)) (by show w1.heap.size ≠ w.heap.size; omega))
                      have T3 := Lib.hid (show RnRow (W4.setCell ⟨w.heap.size, k, none⟩ (.int .i64 ((j : Int) + 1))) wA.heap.size _ _ from KRow.others u3.out (b := w.heap.size) (fun q hq => heap_setCell_other _ _ _ _ (fun e => hq e)) (Nat.lt_trans hab hSA))
                      have T4 := Lib.hid (show Below w.heap.size w (W4.setCell ⟨w.heap.size, k, none⟩ (.int .i64 ((j : Int) + 1))) from Below.setCell u4.out (Nat.le_refl _) _)
                      have T5 := Lib.hid (show wA.heap.size ≤ (W4.setCell ⟨w.heap.size, k, none⟩ (.int .i64 ((j : Int) + 1))).heap.size by rw [World.size_setCell]; exact u5.out)
                      go_wp2
                      obtain ⟨ca4, _⟩ := InRow.one T1.out k (by rw [List.length_set]; omega)
                      rw [List.getElem_set_self] at ca4
                      have f4 := HFC.out _ T4.out
                      have f5 := HFD.out _ T4.out
                      clear u1 u2 u3 u4 u5 ca3 za3
                      generalize W4.setCell ⟨w.heap.size, k, none⟩ (.int .i64 ((j : Int) + 1)) = W5 at *
                      have hjn : (0 : Int) ≤ (j : Int) + 1 := by omega
                      go_still_tail 14, (by kernel_rfl)
                      change wpList _ _ _ _ _ W5.drew
                      have u1 := Lib.hid (show InRow W5.drew _ _ _ from KRow.drewN T1.out 1); have u2 := Lib.hid (show InRow W5.drew _ _ _ from KRow.drewN T2.out 1); have u3 := Lib.hid (show RnRow W5.drew _ _ _ from KRow.drewN T3.out 1); have u4 := Lib.hid (Below.drew T4.out); have u5 : Hid (wA.heap.size ≤ W5.drew.heap.size) := T5
                      clear T1 T2 T3 T4 T5 ca4 f4 f5
                      generalize W5.drew = W6 at *
                      obtain ⟨cf6, zf6⟩ := InRow.one u2.out k (by rw [List.length_set]; omega)
                      have T1 := Lib.hid (InRow.set u2.out k (by rw [List.length_set]; omega) x2)
                      rw [List.set_set] at T1
                      have T2 := Lib.hid (KRow.apart u1.out ⟨w1.heap.size, k, none⟩ (.int .i64 x2) (by show w.heap.size ≠ w1.heap.size; omega))
                      have T3 := Lib.hid (show RnRow (W6.setCell ⟨w1.heap.size, k, none⟩ (.int .i64 x2)) wA.heap.size _ _ from KRow.others u3.out (b := w1.heap.size) (fun q hq => heap_setCell_other _ _ _ _ (fun e => hq e)) hSA)
                      have T4 := Lib.hid (show Below w.heap.size w (W6.setCell ⟨w1.heap.size, k, none⟩ (.int .i64 x2)) from Below.setCell u4.out (by show w.heap.size ≤ w1.heap.size; omega) _)
                      have T5 := Lib.hid (show wA.heap.size ≤ (W6.setCell ⟨w1.heap.size, k, none⟩ (.int .i64 x2)).heap.size by rw [World.size_setCell]; exact u5.out)
                      go_wp2
                      go_roundw
                      case rel => exact ⟨k + 1, A2.set k ((j : Int) + 1), F2.set k x2, by omega, by go_num, by rw [List.length_set]; exact hA2, by rw [List.length_set]; exact hF2, hst2, T3, T2, T1, T4, T5⟩
                      case measure => simp [intOf]; omega
                    · have hst2 := hst A2[k] 0 (by rw [hav]; exact (rm_end hj1).symm) (fun h => by rw [hav] at h; exact absurd h (by show ¬ (j : Int) + 1 < _; omega))
                      rw [hsA2] at hst2
                      have HST2 := Lib.hid hst2
                      have hj1' : decide ((j : Int) + 1 < ws[k].length) = false := decide_eq_false (by omega)
                      have hwj : IntKind.i64.wrap ((j : Int) + 1) = (j : Int) + 1 := IntWalk.i64_in _ (by omega)
                      clear hc1 hrr hc3 hsf hsa hsa2 e1 e2 e3 e4 hrm av1 av2 hst hz hav hRm hsA2 hr1k hDk hml hst2
                      generalize ws[k].length = nk at *
                      go_wp2
                      have q1 := Lib.hid (T1.out 0); have q2 := Lib.hid (T2.out (.int .i64 0)); have q3 := Lib.hid (T3.out (.int .i64 0)); have q4 := Lib.hid (T4.out (.int .i64 0)); have q5 := Lib.hid (T5.out (.int .i64 0))
                      obtain ⟨cf2, zf2⟩ := InRow.one q1.out k (by rw [List.length_set]; omega)
                      rw [List.getElem_set_self] at cf2
                      have ca2 : (wr.setCell ⟨w1.heap.size, k, none⟩ (.int .i64 0)).cell? ⟨w.heap.size, k, none⟩ = some (.int .i64 j) := (World.cell?_setCell_other _ _ _ _ (fun e => by have := congrArg Addr.block e; simp only at this; omega)).trans ca
                      have f0 := HFC.out _ q4.out
                      clear T1 T2 T3 T4 T5 ca za cf zf
                      generalize wr.setCell ⟨w1.heap.size, k, none⟩ (.int .i64 0) = W3 at *
                      go_wp2
                      go_quiet (fail)
                      go_wp2
                      go_roundw
                      case rel => exact ⟨k + 1, A2, F2.set k 0, by omega, by go_num, hA2, by rw [List.length_set]; exact hF2, HST2, Lib.hid (KRow.drewN q3.out _), Lib.hid (KRow.drewN q2.out _), Lib.hid (KRow.drewN q1.out _), Lib.hid (Go.below_drewN q4.out _), q5⟩
                      case measure => simp [intOf]; omega
                  · obtain ⟨hav, hrv⟩ := av1 hz
                    have hst2 := hst A2[k] (rm ws[k] G[k] - mm) (by rw [hrv, hrm]) (fun h => by rw [hav]; rw [hsa2, e1])
                    rw [hsA2] at hst2
                    have HST2 := Lib.hid hst2
                    have hRb := hr1k.1
                    have hRb2 := hr1k.2.1
                    have hne : (rm ws[k] G[k] - mm == 0) = false := by rw [hrm]; simpa using (show ¬ ws[k][j].2 - G[k].2 - mm = 0 by omega)
                    clear hc1 hrr hc3 hsf hsa hsa2 e1 e2 e3 e4 hrm av1 av2 hst hz hav hrv hsA2 hr1k hml hst2
                    generalize rm ws[k] G[k] = R at *
                    generalize ws[k].length = nk at *
                    go_wp2
                    have q1 := Lib.hid (T1.out (R - mm)); have q2 := Lib.hid (T2.out (.int .i64 (R - mm))); have q3 := Lib.hid (T3.out (.int .i64 (R - mm))); have q4 := Lib.hid (T4.out (.int .i64 (R - mm))); have q5 := Lib.hid (T5.out (.int .i64 (R - mm)))
                    obtain ⟨cf2, _⟩ := InRow.one q1.out k (by rw [List.length_set]; omega)
                    rw [List.getElem_set_self] at cf2
                    obtain ⟨ca2, _⟩ := InRow.one q2.out k (by omega)
                    have f0 := HFC.out _ q4.out
                    clear T1 T2 T3 T4 T5 ca za cf zf
                    generalize wr.setCell ⟨w1.heap.size, k, none⟩ (.int .i64 (R - mm)) = W3 at *
                    go_wp2
                    go_quiet (fail)
                    go_wp2
                    go_roundw
                    case rel => exact ⟨k + 1, A2, F2.set k (R - mm), by omega, by go_num, hA2, by rw [List.length_set]; exact hF2, HST2, Lib.hid (KRow.drewN q3.out _), Lib.hid (KRow.drewN q2.out _), Lib.hid (KRow.drewN q1.out _), Lib.hid (Go.below_drewN q4.out _), q5⟩
                    case measure => simp [intOf]; omega
                · have hkn : k = ws.length := by omega
                  have hSz := HSk.out
                  rw [hkn, mx_all mm ws G hGl.symm] at hSz
                  have HSz := Lib.hid hSz
                  clear hSz hkn HSk
                  go_wp2
                  go_roundg ((T - (t + mm)).toNat)
                  case measure => omega
                  case rel => exact ⟨t + mm, zw mm ws G, A2, F2, pt out (acc, mm), rfl, by omega, hDT, hA2, hF2, HPa2, HSz, HCb2, HS2, HRk, HAk, HFk, HBk, HSk2⟩
        · have htT2 : t = T := by omega
          have hz0 : rm ws[0] G[0] = 0 := by
            obtain ⟨j, h1, h2, h3, h4, h5, h6⟩ := HPa.out.2 0 hn0 hG0
            obtain ⟨j', g1, g2, g3⟩ := Pa_zero HW.out HPa.out hn0 hG0 htT
            have g4 := g3 ht
            have h7 := h6 (by omega)
            unfold rm
            rw [h1, h7]
            have : ws[0].getD ((j : Nat) : Int).toNat (0, 0) = (0, 0) := by
              rw [Int.toNat_natCast, List.getD_eq_getElem?_getD, List.getElem?_eq_none (by omega)]; rfl
            rw [this]; rfl
          rw [hz0] at c0
          subst htT2
          have HL := Lib.hid (show out.length ≤ 262144 by have := HOl.out; omega)
          clear hz0 hf0 z0
          go_wp2
          go_returns
          exact ⟨_, rfl, out, HR.out.mono (Nat.le_of_lt (Nat.lt_trans hab hSA)), HCb.out, HL.out, hb⟩

end Go.Proofs.Ytmfceiioigmnlaa
