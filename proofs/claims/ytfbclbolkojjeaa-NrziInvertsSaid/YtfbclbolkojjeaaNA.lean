/-
  Layer 16: the walk of ideal (the events of items).
-/
import Derived.Test.YtfbclbolkojjeaaN9
namespace Go.Proofs.Ytfbclbolkojjeaa
open Go Go.RowKit Go.Joins
set_option linter.unusedVariables false
set_option linter.unusedSimpArgs false

def idE (a : Int) (b : UInt8) : Ev := ⟨2, a, a + 1, if b = 49 then 1 else 0, 0, [], 0⟩
def idB : Int → List UInt8 → List Ev
  | _, [] => []
  | a, b :: r => idE a b :: idB (a + 1) r
theorem idB_snoc (a : Int) (l : List UInt8) (b : UInt8) : idB a (l ++ [b]) = idB a l ++ [idE (a + l.length) b] := by
  induction l generalizing a with
  | nil => simp [idB]
  | cons c l ih =>
    rw [List.cons_append, idB, idB, ih, List.length_cons, List.cons_append]
    congr 3
    congr 1
    omega
theorem idB_len (a : Int) (l : List UInt8) : (idB a l).length = l.length := by
  induction l generalizing a with
  | nil => rfl
  | cons c l ih => rw [idB, List.length_cons, List.length_cons, ih]
def idT (l : List It) : Int := l.foldl (fun a e => a + e.g + (e.d.size : Int)) 0
def idF (s : Int × List Ev) (e : It) : Int × List Ev := (s.1 + e.g + (e.d.size : Int), s.2 ++ idB (s.1 + e.g) e.d.data.toList)
def idP (l : List It) : Int × List Ev := l.foldl idF (0, [])
def idI (l : List It) : List Ev := (idP l).2
theorem idP_snoc {l : List It} {j : Nat} (hj : j < l.length) : idP (l.take (j + 1)) = idF (idP (l.take j)) l[j] := by
  unfold idP
  rw [List.take_succ_eq_append_getElem hj, List.foldl_append]
  rfl
/-- What bounds the times. -/
def Bdd (e : It) : Prop := 0 ≤ e.g ∧ e.g ≤ 1048576 ∧ e.d.size ≤ 4096
theorem idP_bd {l : List It} (h : ∀ j (hj : j < l.length), Bdd l[j]) : ∀ j, j ≤ l.length → 0 ≤ (idP (l.take j)).1 ∧ (idP (l.take j)).1 ≤ j * 1052672 ∧ (idP (l.take j)).2.length ≤ j * 4096 := by
  intro j
  induction j with
  | zero => intro _; simp [idP]
  | succ j ih =>
    intro hj
    obtain ⟨h1, h2, h3⟩ := ih (by omega)
    obtain ⟨b1, b2, b3⟩ := h j (by omega)
    rw [idP_snoc (by omega)]
    unfold idF
    simp only [List.length_append, idB_len]
    rw [← size_len]
    omega

set_option maxRecDepth 20000 in
set_option maxHeartbeats 8000000 in
theorem ideal_any (l : List It) (V : Value) (w : World) (hT : ItArg w V l) (hl : l.length ≤ 1024) (hB : ∀ j (hj : j < l.length), Bdd l[j]) :
    Calls Try.prog 47 #[V] w fun e w' => ∃ v, e = .returned v ∧ EvRow w' w.heap.size v (idI l) ∧ Below w.heap.size w w' := by
  obtain ⟨A, c, rfl, hA⟩ := hT
  have HA := Lib.hid hA
  have hl' : (l.length : Int) ≤ 1024 := by omega
  have HR0 := Lib.hid (KRow.lit (T := 44) evC_size w w.heap.size (Nat.le_refl _) [] #[] rfl 0 rfl (by decide))
  have HB0 := Lib.hid (ba w (.cells #[] 44))
  have HBD := Lib.hid (idP_bd hB)
  have HBJ := Lib.hid hB
  clear hA hB
  go_enter Try.func47, Try.ntmps47
  go_wp2
  go_loopw [5, 3, 4] (fun i r a wr => ∃ (j : Nat) (A : Int) (O : List Ev), j ≤ l.length ∧ i = .int .i64 j ∧ a = .int .i64 A ∧ Hid (idP (l.take j) = (A, O)) ∧ Hid (EvRow wr w.heap.size r O) ∧ Hid (Below w.heap.size w wr)) (fun i _ _ _ => l.length - (intOf i).toNat)
  case atStart => exact ⟨0, 0, [], Nat.zero_le _, rfl, rfl, Lib.hid rfl, HR0, HB0⟩
  case round =>
    obtain ⟨j, A0, O, hj, rfl, rfl, HP, HR, HB⟩ := hrel
    have hb := HB.out
    by_cases hjl : j < l.length
    · obtain ⟨g, o, rfl, hg, hc⟩ := HA.out (by omega)
      obtain ⟨a0, a1, a2, a3, a4⟩ := arg_five hc j hjl
      have f0 := (hb.cell (p := ⟨g, o + j * 5, none⟩) hg).trans a0
      have f3 := Lib.hid (fun W (hB : Below w.heap.size w W) => (hB.cell (p := ⟨g, o + j * 5 + 3, none⟩) hg).trans a3)
      obtain ⟨p1, p2, p3⟩ := HBD.out j hj
      rw [HP.out] at p1 p2 p3
      simp only at p1 p2 p3
      obtain ⟨d1, d2, d3⟩ := HBJ.out j hjl
      have HN := Lib.hid ((idP_snoc hjl).trans (by rw [HP.out] : idF (idP (l.take j)) l[j] = idF (A0, O) l[j]))
      have HF : Hid (idF (A0, O) l[j] = (A0 + l[j].g + (l[j].d.size : Int), O ++ idB (A0 + l[j].g) l[j].d.data.toList)) := Lib.hid rfl
      clear a0 a1 a2 a3 a4 hc HP
      generalize idF (A0, O) l[j] = ne at *
      generalize l[j].g = x0 at *
      generalize l[j].d = xd at *
      have hxd : (xd.size : Int) ≤ 4096 := by omega
      have q1 : 0 ≤ A0 + x0 := by omega
      have q2 : A0 + x0 ≤ 1099511627776 := by omega
      go_wp2
      clear f0
      go_loopw [6, 4, 3] (fun i a r ws => ∃ (k : Nat), k ≤ xd.size ∧ i = .int .i64 k ∧ a = .int .i64 (A0 + x0 + k) ∧ Hid (EvRow ws w.heap.size r (O ++ idB (A0 + x0) (xd.data.toList.take k))) ∧ Hid (Below w.heap.size w ws)) (fun i _ _ _ => xd.size - (intOf i).toNat)
      case atStart => exact ⟨0, Nat.zero_le _, rfl, val_int (by omega), Lib.hid (by rw [List.take_zero]; simpa [idB] using HR.out), HB⟩
      case round =>
        obtain ⟨k, hk, rfl, rfl, HRk, HBk⟩ := hrel
        have hbk := HBk.out
        have f3k := f3.out _ hbk
        have f3a := Lib.hid (fun o => f3.out _ (hbk.alloc hbk.size o))
        have hgs := Nat.lt_of_lt_of_le hg hbk.size
        by_cases hkl : k < xd.size
        · have hS := idB_snoc (A0 + x0) (xd.data.toList.take k) xd[k]
          rw [← take_snoc xd k hkl, List.length_take, ← size_len, Nat.min_eq_left (by omega)] at hS
          have hlen : (O ++ idB (A0 + x0) (xd.data.toList.take k)).length ≤ 10000000 := by rw [List.length_append, idB_len, List.length_take]; omega
          have HS : Hid (O ++ idB (A0 + x0) (xd.data.toList.take (k + 1)) = (O ++ idB (A0 + x0) (xd.data.toList.take k)) ++ [idE (A0 + x0 + k) xd[k]]) := Lib.hid (by rw [hS, List.append_assoc])
          have HE : Hid (idE (A0 + x0 + k) xd[k] = ⟨2, A0 + x0 + k, A0 + x0 + k + 1, if xd[k] = 49 then 1 else 0, 0, [], 0⟩) := Lib.hid rfl
          have hb49 : ((xd[k].toNat : Int) == 49) = decide (xd[k] = 49) := by
            by_cases e : xd[k] = 49
            · rw [e]; rfl
            · have e' : xd[k].toNat ≠ 49 := fun h => e (UInt8.toNat_inj.1 h)
              rw [decide_eq_false e]; simp; omega
          clear hS
          generalize idE (A0 + x0 + k) xd[k] = ev at *
          generalize O ++ idB (A0 + x0) (xd.data.toList.take k) = L at *
          obtain ⟨RA, RN, RC, rfl, hRN⟩ := HRk.out.form
          clear hRN
          have hR1 := Lib.hid (fun o => HRk.out.alloc o)
          have hB1 := Lib.hid (fun o => hbk.alloc hbk.size o)
          by_cases h49 : xd[k] = 49
          · have h49' : decide (xd[k] = 49) = true := decide_eq_true h49
            rw [h49'] at hb49
            obtain rfl : ev = ⟨2, A0 + x0 + k, A0 + x0 + k + 1, 1, 0, [], 0⟩ := by rw [HE.out, if_pos h49]
            clear h49 h49' HE
            go_wp2_with (at_builtin; go_must (refine wpList_append_k (P := Try.prog) Try.underlying36 ev_info rfl (by omega) evC_size rfl _ _ rfl (⟨2, A0 + x0 + k, A0 + x0 + k + 1, 1, 0, [], 0⟩ : Ev) rfl rfl rfl (by simp only [World.size_alloc]) (hR1.out _) (by rw [World.size_alloc]; have := hbk.size; omega) rfl (by omega) (by omega) ?_; intro v4 w4 r4 b4; have R4 := Lib.hid r4; have B4 := Lib.hid ((hB1.out _).trans b4); clear r4 b4))
            go_roundw
            case rel => exact ⟨k + 1, by omega, val_int (by omega), val_int (by omega), Lib.hid (by rw [HS.out]; exact R4.out), B4⟩
            case measure => simp [intOf]; omega
          · have h49' : decide (xd[k] = 49) = false := decide_eq_false h49
            rw [h49'] at hb49
            obtain rfl : ev = ⟨2, A0 + x0 + k, A0 + x0 + k + 1, 0, 0, [], 0⟩ := by rw [HE.out, if_neg h49]
            clear h49 h49' HE
            go_wp2_with (at_builtin; go_must (refine wpList_append_k (P := Try.prog) Try.underlying36 ev_info rfl (by omega) evC_size rfl _ _ rfl (⟨2, A0 + x0 + k, A0 + x0 + k + 1, 0, 0, [], 0⟩ : Ev) rfl rfl rfl (by simp only [World.size_alloc]) (hR1.out _) (by rw [World.size_alloc]; have := hbk.size; omega) rfl (by omega) (by omega) ?_; intro v4 w4 r4 b4; have R4 := Lib.hid r4; have B4 := Lib.hid ((hB1.out _).trans b4); clear r4 b4))
            go_roundw
            case rel => exact ⟨k + 1, by omega, val_int (by omega), val_int (by omega), Lib.hid (by rw [HS.out]; exact R4.out), B4⟩
            case measure => simp [intOf]; omega
        · obtain rfl : k = xd.size := by omega
          have ht : xd.data.toList.take xd.size = xd.data.toList := List.take_of_length_le (by rw [← size_len]; omega)
          rw [ht] at HRk
          go_wp2
          go_roundw
          case rel => exact ⟨j + 1, A0 + x0 + xd.size, O ++ idB (A0 + x0) xd.data.toList, by omega, val_int (by omega), rfl, Lib.hid (by rw [HN.out, HF.out]), HRk, HBk⟩
          case measure => simp [intOf]; omega
    · have he : l.take j = l := List.take_of_length_le (by omega)
      rw [he] at HP
      have HO : Hid (idI l = O) := Lib.hid (by unfold idI; rw [HP.out])
      clear he
      go_wp2
      go_returns
      exact ⟨_, rfl, by rw [HO.out]; exact HR.out, hb⟩

end Go.Proofs.Ytfbclbolkojjeaa
