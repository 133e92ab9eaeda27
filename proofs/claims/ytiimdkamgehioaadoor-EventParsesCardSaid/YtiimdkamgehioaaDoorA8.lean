/-
  The walks of Shift, the program's and the specification's.
-/
import Derived.Test.YtiimdkamgehioaaDoorA7
namespace Go.Proofs.YtiimdkamgehioaaDoor
open Go Go.RowKit Go.Joins
set_option linter.unusedVariables false
set_option linter.unusedSimpArgs false

theorem vE_VeP (k f t v a : Int) (s : ByteArray) (u : Int) : decide (VeP k f t v a s.size u) = vE ⟨k, f, t, v, a, s.data.toList, u⟩ := by
  unfold vE VeP
  rw [size_len]
def shOk (b : Int) (e : Ev) : Bool := decide (-e.f ≤ b) && decide (b ≤ 1099511627776 - e.t)
def shM (b : Int) (e : Ev) : Ev := { e with f := e.f + b, t := e.t + b }
def shErr (l : List Ev) (b : Int) : Int := if l.all vE = false then 1 else if l.all (shOk b) = false then 2 else 0
def shL (l : List Ev) (b : Int) : List Ev := if shErr l b = 0 then l.map (shM b) else []
theorem all_false_of {l : List Ev} {p : Ev → Bool} {k : Nat} (h : k < l.length) (hk : p l[k] = false) : l.all p = false := by
  cases h2 : l.all p with
  | false => rfl
  | true => rw [List.all_eq_true] at h2; rw [h2 _ (List.getElem_mem h)] at hk; cases hk
theorem all_true_of {l : List Ev} {p : Ev → Bool} (h : ∀ j (hj : j < l.length), p l[j] = true) : l.all p = true := by
  rw [List.all_eq_true]
  intro x hx
  obtain ⟨j, hj, rfl⟩ := List.mem_iff_getElem.1 hx
  exact h j hj
theorem sh_arg {l : List Ev} {b : Int} (h : l.all vE = false) : shErr l b = 1 ∧ shL l b = [] := by
  have h1 : shErr l b = 1 := by unfold shErr; rw [if_pos h]
  exact ⟨h1, by unfold shL; rw [h1]; rfl⟩
theorem sh_range {l : List Ev} {b : Int} (h : l.all vE = true) (h2 : l.all (shOk b) = false) : shErr l b = 2 ∧ shL l b = [] := by
  have h1 : shErr l b = 2 := by unfold shErr; rw [if_neg (by simp [h]), if_pos h2]
  exact ⟨h1, by unfold shL; rw [h1]; rfl⟩
theorem sh_ok {l : List Ev} {b : Int} (h : l.all vE = true) (h2 : l.all (shOk b) = true) : shErr l b = 0 ∧ shL l b = l.map (shM b) := by
  have h1 : shErr l b = 0 := by unfold shErr; rw [if_neg (by simp [h]), if_neg (by simp [h2])]
  exact ⟨h1, by unfold shL; rw [h1]; rfl⟩
theorem sh_valid {b : Int} {e : Ev} (h : vE e = true) : vE (shM b e) = shOk b e := by
  unfold vE at h ⊢
  unfold shOk shM
  have h := of_decide_eq_true h
  rw [← Bool.decide_and, decide_eq_decide]
  simp only
  omega

set_option maxRecDepth 20000 in
set_option maxHeartbeats 4000000 in
theorem shift_any (l : List Ev) (V : Value) (b : Int) (w : World) (h1 : EvArg w V l) (hl : l.length ≤ 1000) (hd : ∀ j (h : j < l.length), l[j].d.length ≤ 140737488351232) (hb0 : -9223372036854775808 ≤ b) (hb1 : b ≤ 9223372036854775807) :
    Calls Tryd.prog 18 #[V, .int .i64 b] w fun e w' => ∃ v, e = .returned (.tuple #[v, .int .i64 (shErr l b)]) ∧ EvRow w' w.heap.size v (shL l b) ∧ Below w.heap.size w w' := by
  obtain ⟨A1, c1, rfl, h1⟩ := h1
  have hl' : (l.length : Int) ≤ 1000 := by omega
  have H1 := Lib.hid h1; have HD := Lib.hid hd
  have HA := Lib.hid (fun h => sh_arg (l := l) (b := b) h); have HR := Lib.hid (fun h h2 => sh_range (l := l) (b := b) h h2); have HO := Lib.hid (fun h h2 => sh_ok (l := l) (b := b) h h2)
  clear h1 hd
  have CV := Lib.hid (fun k f t v a s u W hs => valid_xy k f t v a s u W hs)
  generalize shErr l b = E at *
  generalize shL l b = L at *
  go_enter Tryd.func18, Tryd.ntmps18
  go_wp2
  go_loopw [13] (fun x wr => ∃ (k : Nat), k ≤ l.length ∧ x = .int .i64 k ∧ Hid (∀ j (hj : j < l.length), j < k → vE l[j] = true) ∧ Hid (Below w.heap.size w wr)) (fun x _ => l.length - (intOf x).toNat)
  case atStart => exact ⟨0, by omega, rfl, Lib.hid (fun j _ h => by omega), Lib.hid (Below.refl _ _)⟩
  case round =>
    obtain ⟨k, hk, rfl, HV, HB⟩ := hrel
    have hb := HB.out
    by_cases hlt : k < l.length
    · obtain ⟨g1, o1, rfl, hg1, hc1⟩ := H1.out (by omega)
      have H2 : ∀ j (hj : j < l.length) i, i < 7 → wr.cell? ⟨g1, o1 + j * 7 + i, none⟩ = (evC l[j])[i]? := fun j hj i hi => (hb.cell (p := ⟨g1, o1 + j * 7 + i, none⟩) hg1).trans (hc1 j hj i hi)
      obtain ⟨a0, a1, a2, a3, a4, a5, a6⟩ := arg_seven H2 k hlt
      have d0 := HD.out k hlt
      have hve := vE_VeP l[k].k l[k].f l[k].t l[k].v l[k].a ⟨l[k].d.toArray⟩ l[k].u
      have hvk : vE ⟨l[k].k, l[k].f, l[k].t, l[k].v, l[k].a, (⟨l[k].d.toArray⟩ : ByteArray).data.toList, l[k].u⟩ = vE l[k] := rfl
      rw [hvk] at hve
      have K1 := fun W => CV.out l[k].k l[k].f l[k].t l[k].v l[k].a ⟨l[k].d.toArray⟩ l[k].u W (by rw [size_mk]; exact d0)
      rw [hve] at K1
      have KV := Lib.hid K1
      clear hc1 H2 hve hvk K1 d0
      cases hv : vE l[k] with
      | false =>
        rw [hv] at KV
        obtain ⟨rfl, rfl⟩ := HA.out (all_false_of hlt hv)
        clear hv
        generalize (⟨l[k].d.toArray⟩ : ByteArray) = x5 at *; generalize l[k].k = x0 at *; generalize l[k].f = x1 at *; generalize l[k].t = x2 at *; generalize l[k].v = x3 at *; generalize l[k].a = x4 at *; generalize l[k].u = x6 at *
        go_wp2_with (first
          | (go_at_call 11; go_must (refine (KV.out _).mono ?_; rintro e1 w1 ⟨rfl, rfl⟩)))
        go_returns
        exact ⟨_, rfl, KRow.nil _ _, (by repeat' (first | with_reducible exact Below.refl _ _ | with_reducible exact Nat.le_refl _ | with_reducible assumption | with_reducible refine below_drewN ?_ _ | with_reducible refine Below.drew ?_ | with_reducible refine Below.trans ?_ (Below.mono (by assumption) ?_) | with_reducible refine Below.alloc ?_ ?_ _ | with_reducible refine Below.setCell ?_ ?_ _ | with_reducible refine le_setCell ?_ _ _ | with_reducible refine le_alloc ?_ _ | with_reducible refine le_drewN ?_ _ | with_reducible refine le_drew ?_ | with_reducible refine Nat.le_trans ?_ (Below.size (by assumption)) | (simp only [World.size_alloc, World.size_setCell]; omega)))⟩
      | true =>
        rw [hv] at KV
        have HVK := Lib.hid hv
        clear hv
        generalize (⟨l[k].d.toArray⟩ : ByteArray) = x5 at *; generalize l[k].k = x0 at *; generalize l[k].f = x1 at *; generalize l[k].t = x2 at *; generalize l[k].v = x3 at *; generalize l[k].a = x4 at *; generalize l[k].u = x6 at *
        go_wp2_with (first
          | (go_at_call 11; go_must (refine (KV.out _).mono ?_; rintro e1 w1 ⟨rfl, rfl⟩)))
        go_roundw
        case rel => exact ⟨k + 1, by omega, by go_num, Lib.hid (fun j hj hk => by
          by_cases e : j = k
          · subst e; exact HVK.out
          · exact HV.out j hj (by omega)), Lib.hid (by repeat' (first | with_reducible exact Below.refl _ _ | with_reducible exact Nat.le_refl _ | with_reducible assumption | with_reducible refine below_drewN ?_ _ | with_reducible refine Below.drew ?_ | with_reducible refine Below.trans ?_ (Below.mono (by assumption) ?_) | with_reducible refine Below.alloc ?_ ?_ _ | with_reducible refine Below.setCell ?_ ?_ _ | with_reducible refine le_setCell ?_ _ _ | with_reducible refine le_alloc ?_ _ | with_reducible refine le_drewN ?_ _ | with_reducible refine le_drew ?_ | with_reducible refine Nat.le_trans ?_ (Below.size (by assumption)) | (simp only [World.size_alloc, World.size_setCell]; omega)))⟩
        case measure => simp [intOf]; omega
    · have hva : ∀ j (hj : j < l.length), vE l[j] = true := fun j hj => HV.out j hj (by omega)
      have HVA := Lib.hid hva
      clear hva HV
      have HVB : ∀ j (hj : j < l.length), 0 ≤ l[j].f ∧ l[j].f ≤ 1099511627776 ∧ 0 ≤ l[j].t ∧ l[j].t ≤ 1099511627776 := fun j hj => by
        have := HVA.out j hj
        unfold vE at this
        have := of_decide_eq_true this
        omega
      have HVB := Lib.hid HVB
      go_wp2
      go_loopw [23, 8] (fun x r wr => ∃ (k : Nat), k ≤ l.length ∧ x = .int .i64 k ∧ Hid (∀ j (hj : j < l.length), j < k → shOk b l[j] = true) ∧ Hid (EvRow wr w.heap.size r ((l.take k).map (shM b))) ∧ Hid (Below w.heap.size w wr)) (fun x _ _ => l.length - (intOf x).toNat)
      case atStart => exact ⟨0, by omega, rfl, Lib.hid (fun j _ h => by omega), Lib.hid (KRow.nil _ _), HB⟩
      case round =>
        clear HB hb
        obtain ⟨k, hk, rfl, HV, HRW, HB⟩ := hrel
        have hb := HB.out
        by_cases hlt : k < l.length
        · obtain ⟨g1, o1, rfl, hg1, hc1⟩ := H1.out (by omega)
          have H2 : ∀ j (hj : j < l.length) i, i < 7 → wr.cell? ⟨g1, o1 + j * 7 + i, none⟩ = (evC l[j])[i]? := fun j hj i hi => (hb.cell (p := ⟨g1, o1 + j * 7 + i, none⟩) hg1).trans (hc1 j hj i hi)
          obtain ⟨a0, a1, a2, a3, a4, a5, a6⟩ := arg_seven H2 k hlt
          obtain ⟨v0, v1, v2, v3⟩ := HVB.out k hlt
          have hok : shOk b l[k] = (decide (-l[k].f ≤ b) && decide (b ≤ 1099511627776 - l[k].t)) := rfl
          have hst : (l.take (k + 1)).map (shM b) = (l.take k).map (shM b) ++ [⟨l[k].k, l[k].f + b, l[k].t + b, l[k].v, l[k].a, (⟨l[k].d.toArray⟩ : ByteArray).data.toList, l[k].u⟩] := by
            rw [List.take_succ_eq_append_getElem hlt, List.map_append]; rfl
          have HL : ((l.take k).map (shM b)).length ≤ 1000 := by rw [List.length_map, List.length_take]; omega
          have HL := Lib.hid HL
          have HST := Lib.hid hst
          clear hc1 H2 hst
          cases hv : shOk b l[k] with
          | false =>
            obtain ⟨rfl, rfl⟩ := HR.out (all_true_of HVA.out) (all_false_of hlt hv)
            rw [hv] at hok
            clear hv
            generalize (⟨l[k].d.toArray⟩ : ByteArray) = x5 at *; generalize l[k].k = x0 at *; generalize l[k].f = x1 at *; generalize l[k].t = x2 at *; generalize l[k].v = x3 at *; generalize l[k].a = x4 at *; generalize l[k].u = x6 at *
            by_cases i1 : b < -x1
            · have d1 := decide_eq_true i1
              clear hok
              go_wp2
              go_returns
              exact ⟨_, rfl, KRow.nil _ _, (by repeat' (first | with_reducible exact Below.refl _ _ | with_reducible exact Nat.le_refl _ | with_reducible assumption | with_reducible refine below_drewN ?_ _ | with_reducible refine Below.drew ?_ | with_reducible refine Below.trans ?_ (Below.mono (by assumption) ?_) | with_reducible refine Below.alloc ?_ ?_ _ | with_reducible refine Below.setCell ?_ ?_ _ | with_reducible refine le_setCell ?_ _ _ | with_reducible refine le_alloc ?_ _ | with_reducible refine le_drewN ?_ _ | with_reducible refine le_drew ?_ | with_reducible refine Nat.le_trans ?_ (Below.size (by assumption)) | (simp only [World.size_alloc, World.size_setCell]; omega)))⟩
            · have i2 : 1099511627776 - x2 < b := by
                rw [eq_comm, Bool.and_eq_false_iff, decide_eq_false_iff_not, decide_eq_false_iff_not] at hok
                omega
              have d1 := decide_eq_false i1
              clear hok
              go_wp2
              go_returns
              exact ⟨_, rfl, KRow.nil _ _, (by repeat' (first | with_reducible exact Below.refl _ _ | with_reducible exact Nat.le_refl _ | with_reducible assumption | with_reducible refine below_drewN ?_ _ | with_reducible refine Below.drew ?_ | with_reducible refine Below.trans ?_ (Below.mono (by assumption) ?_) | with_reducible refine Below.alloc ?_ ?_ _ | with_reducible refine Below.setCell ?_ ?_ _ | with_reducible refine le_setCell ?_ _ _ | with_reducible refine le_alloc ?_ _ | with_reducible refine le_drewN ?_ _ | with_reducible refine le_drew ?_ | with_reducible refine Nat.le_trans ?_ (Below.size (by assumption)) | (simp only [World.size_alloc, World.size_setCell]; omega)))⟩
          | true =>
            rw [hv] at hok
            have HVK := Lib.hid hv
            clear hv
            generalize (⟨l[k].d.toArray⟩ : ByteArray) = x5 at *; generalize l[k].k = x0 at *; generalize l[k].f = x1 at *; generalize l[k].t = x2 at *; generalize l[k].v = x3 at *; generalize l[k].a = x4 at *; generalize l[k].u = x6 at *
            rw [eq_comm, Bool.and_eq_true, decide_eq_true_eq, decide_eq_true_eq] at hok
            obtain ⟨i1, i2⟩ := hok
            have d1 : decide (b < -x1) = false := decide_eq_false (by omega)
            have d2 : decide (1099511627776 - x2 < b) = false := decide_eq_false (by omega)
            go_wp2_with (first
              | (at_builtin; go_must (refine wpList_append_ev rfl _ _ rfl rfl rfl rfl (by first | rfl | simp only [World.size_alloc]) (HRW.out.alloc _) (le_alloc hb.size _) (by have := HL.out; omega) ?_; intro v5 w5 R5 b5; have B5 := Lib.hid ((hb.alloc hb.size _).trans b5))))
            go_roundw
            case rel => exact ⟨k + 1, by omega, by go_num, Lib.hid (fun j hj hk => by
              by_cases e : j = k
              · subst e; exact HVK.out
              · exact HV.out j hj (by omega)), Lib.hid (by rw [HST.out]; exact R5), B5⟩
            case measure => simp [intOf]; omega
        · have he : l.take k = l := List.take_of_length_le (by omega)
          obtain ⟨rfl, rfl⟩ := HO.out (all_true_of HVA.out) (all_true_of fun j hj => HV.out j hj (by omega))
          rw [he] at HRW
          go_wp2
          go_returns
          exact ⟨_, rfl, HRW.out, hb⟩

set_option maxRecDepth 20000 in
set_option maxHeartbeats 4000000 in
theorem refShift_any (l : List Ev) (V : Value) (b : Int) (w : World) (h1 : EvArg w V l) (hl : l.length ≤ 1000) (hd : ∀ j (h : j < l.length), l[j].d.length ≤ 140737488351232) (hb0 : -9223372036854775808 ≤ b) (hb1 : b ≤ 9223372036854775807) :
    Calls Tryd.prog 19 #[V, .int .i64 b] w fun e w' => ∃ v, e = .returned (.tuple #[v, .int .i64 (shErr l b)]) ∧ EvRow w' w.heap.size v (shL l b) ∧ Below w.heap.size w w' := by
  obtain ⟨A1, c1, rfl, h1⟩ := h1
  have hl' : (l.length : Int) ≤ 1000 := by omega
  have H1 := Lib.hid h1; have HD := Lib.hid hd
  have HA := Lib.hid (fun h => sh_arg (l := l) (b := b) h); have HR := Lib.hid (fun h h2 => sh_range (l := l) (b := b) h h2); have HO := Lib.hid (fun h h2 => sh_ok (l := l) (b := b) h h2)
  clear h1 hd
  have CV := Lib.hid (fun k f t v a s u W hs => refValid_xy k f t v a s u W hs)
  generalize shErr l b = E at *
  generalize shL l b = L at *
  go_enter Tryd.func19, Tryd.ntmps19
  go_wp2
  go_loopw [6] (fun x wr => ∃ (k : Nat), k ≤ l.length ∧ x = .int .i64 k ∧ Hid (∀ j (hj : j < l.length), j < k → vE l[j] = true) ∧ Hid (Below w.heap.size w wr)) (fun x _ => l.length - (intOf x).toNat)
  case atStart => exact ⟨0, by omega, rfl, Lib.hid (fun j _ h => by omega), Lib.hid (Below.refl _ _)⟩
  case round =>
    obtain ⟨k, hk, rfl, HV, HB⟩ := hrel
    have hb := HB.out
    by_cases hlt : k < l.length
    · obtain ⟨g1, o1, rfl, hg1, hc1⟩ := H1.out (by omega)
      have H2 : ∀ j (hj : j < l.length) i, i < 7 → wr.cell? ⟨g1, o1 + j * 7 + i, none⟩ = (evC l[j])[i]? := fun j hj i hi => (hb.cell (p := ⟨g1, o1 + j * 7 + i, none⟩) hg1).trans (hc1 j hj i hi)
      obtain ⟨a0, a1, a2, a3, a4, a5, a6⟩ := arg_seven H2 k hlt
      have d0 := HD.out k hlt
      have hve := vE_VeP l[k].k l[k].f l[k].t l[k].v l[k].a ⟨l[k].d.toArray⟩ l[k].u
      have hvk : vE ⟨l[k].k, l[k].f, l[k].t, l[k].v, l[k].a, (⟨l[k].d.toArray⟩ : ByteArray).data.toList, l[k].u⟩ = vE l[k] := rfl
      rw [hvk] at hve
      have K1 := fun W => CV.out l[k].k l[k].f l[k].t l[k].v l[k].a ⟨l[k].d.toArray⟩ l[k].u W (by rw [size_mk]; exact d0)
      rw [hve] at K1
      have KV := Lib.hid K1
      clear hc1 H2 hve hvk K1 d0
      cases hv : vE l[k] with
      | false =>
        rw [hv] at KV
        obtain ⟨rfl, rfl⟩ := HA.out (all_false_of hlt hv)
        clear hv
        generalize (⟨l[k].d.toArray⟩ : ByteArray) = x5 at *; generalize l[k].k = x0 at *; generalize l[k].f = x1 at *; generalize l[k].t = x2 at *; generalize l[k].v = x3 at *; generalize l[k].a = x4 at *; generalize l[k].u = x6 at *
        go_wp2_with (first
          | (go_at_call 12; go_must (refine (KV.out _).mono ?_; rintro e1 w1 ⟨rfl, rfl⟩)))
        go_returns
        exact ⟨_, rfl, KRow.nil _ _, (by repeat' (first | with_reducible exact Below.refl _ _ | with_reducible exact Nat.le_refl _ | with_reducible assumption | with_reducible refine below_drewN ?_ _ | with_reducible refine Below.drew ?_ | with_reducible refine Below.trans ?_ (Below.mono (by assumption) ?_) | with_reducible refine Below.alloc ?_ ?_ _ | with_reducible refine Below.setCell ?_ ?_ _ | with_reducible refine le_setCell ?_ _ _ | with_reducible refine le_alloc ?_ _ | with_reducible refine le_drewN ?_ _ | with_reducible refine le_drew ?_ | with_reducible refine Nat.le_trans ?_ (Below.size (by assumption)) | (simp only [World.size_alloc, World.size_setCell]; omega)))⟩
      | true =>
        rw [hv] at KV
        have HVK := Lib.hid hv
        clear hv
        generalize (⟨l[k].d.toArray⟩ : ByteArray) = x5 at *; generalize l[k].k = x0 at *; generalize l[k].f = x1 at *; generalize l[k].t = x2 at *; generalize l[k].v = x3 at *; generalize l[k].a = x4 at *; generalize l[k].u = x6 at *
        go_wp2_with (first
          | (go_at_call 12; go_must (refine (KV.out _).mono ?_; rintro e1 w1 ⟨rfl, rfl⟩)))
        go_roundw
        case rel => exact ⟨k + 1, by omega, by go_num, Lib.hid (fun j hj hk => by
          by_cases e : j = k
          · subst e; exact HVK.out
          · exact HV.out j hj (by omega)), Lib.hid (by repeat' (first | with_reducible exact Below.refl _ _ | with_reducible exact Nat.le_refl _ | with_reducible assumption | with_reducible refine below_drewN ?_ _ | with_reducible refine Below.drew ?_ | with_reducible refine Below.trans ?_ (Below.mono (by assumption) ?_) | with_reducible refine Below.alloc ?_ ?_ _ | with_reducible refine Below.setCell ?_ ?_ _ | with_reducible refine le_setCell ?_ _ _ | with_reducible refine le_alloc ?_ _ | with_reducible refine le_drewN ?_ _ | with_reducible refine le_drew ?_ | with_reducible refine Nat.le_trans ?_ (Below.size (by assumption)) | (simp only [World.size_alloc, World.size_setCell]; omega)))⟩
        case measure => simp [intOf]; omega
    · have hva : ∀ j (hj : j < l.length), vE l[j] = true := fun j hj => HV.out j hj (by omega)
      have HVA := Lib.hid hva
      clear hva HV
      have HVB : ∀ j (hj : j < l.length), 0 ≤ l[j].f ∧ l[j].f ≤ 1099511627776 ∧ 0 ≤ l[j].t ∧ l[j].t ≤ 1099511627776 := fun j hj => by
        have := HVA.out j hj
        unfold vE at this
        have := of_decide_eq_true this
        omega
      have HVB := Lib.hid HVB
      have HRB2 : (0 < l.length ∧ (b < -1099511627776 ∨ 1099511627776 < b)) ∨ (l.length = 0 ∨ 0 < l.length ∧ -1099511627776 ≤ b ∧ b ≤ 1099511627776) := by omega
      rcases HRB2 with ⟨hp, hr⟩ | hr
      · have hbad : shOk b l[0] = false := by
          obtain ⟨v0, v1, v2, v3⟩ := HVB.out 0 hp
          unfold shOk
          rw [Bool.and_eq_false_iff, decide_eq_false_iff_not, decide_eq_false_iff_not]
          omega
        obtain ⟨rfl, rfl⟩ := HR.out (all_true_of HVA.out) (all_false_of hp hbad)
        have hp' : (0 : Int) < l.length := by omega
        clear hbad
        rcases hr with i1 | i1
        · have d1 := decide_eq_true i1
          go_wp2
          go_returns
          exact ⟨_, rfl, KRow.nil _ _, hb⟩
        · have d1 : decide (b < -1099511627776) = false := decide_eq_false (by omega)
          have d2 := decide_eq_true i1
          go_wp2
          go_returns
          exact ⟨_, rfl, KRow.nil _ _, hb⟩
      · have HRB : 0 < l.length → -1099511627776 ≤ b ∧ b ≤ 1099511627776 := by omega
        have HRB := Lib.hid HRB
        rcases hr with hr | ⟨hr1, hr2, hr3⟩
        all_goals
          (first | (have hr0 : (l.length : Int) = 0 := by omega) | (have hr0 : (0 : Int) < l.length := (by omega); have d1 : decide (b < -1099511627776) = false := decide_eq_false (by omega); have d2 : decide (1099511627776 < b) = false := decide_eq_false (by omega)))
          go_wp2
          try clear hr0
          try clear hr
          try clear hr1
          try clear hr2 hr3 d1 d2
          go_loopw [8, 7] (fun x r wr => ∃ (k : Nat), k ≤ l.length ∧ x = .int .i64 k ∧ Hid (∀ j (hj : j < l.length), j < k → shOk b l[j] = true) ∧ Hid (EvRow wr w.heap.size r ((l.take k).map (shM b))) ∧ Hid (Below w.heap.size w wr)) (fun x _ _ => l.length - (intOf x).toNat)
          case atStart => exact ⟨0, by omega, rfl, Lib.hid (fun j _ h => by omega), Lib.hid (KRow.lit evC_size _ _ hb.size [] #[] rfl 0 rfl (by simp)), Lib.hid (hb.alloc hb.size _)⟩
          case round =>
            clear HB hb
            obtain ⟨k, hk, rfl, HV, HRW, HB⟩ := hrel
            have hb := HB.out
            by_cases hlt : k < l.length
            · obtain ⟨g1, o1, rfl, hg1, hc1⟩ := H1.out (by omega)
              have H2 : ∀ j (hj : j < l.length) i, i < 7 → wr.cell? ⟨g1, o1 + j * 7 + i, none⟩ = (evC l[j])[i]? := fun j hj i hi => (hb.cell (p := ⟨g1, o1 + j * 7 + i, none⟩) hg1).trans (hc1 j hj i hi)
              obtain ⟨a0, a1, a2, a3, a4, a5, a6⟩ := arg_seven H2 k hlt
              obtain ⟨v0, v1, v2, v3⟩ := HVB.out k hlt
              obtain ⟨rb1, rb2⟩ := HRB.out (by omega)
              have hst : (l.take (k + 1)).map (shM b) = (l.take k).map (shM b) ++ [⟨l[k].k, l[k].f + b, l[k].t + b, l[k].v, l[k].a, (⟨l[k].d.toArray⟩ : ByteArray).data.toList, l[k].u⟩] := by
                rw [List.take_succ_eq_append_getElem hlt, List.map_append]; rfl
              have HL : ((l.take k).map (shM b)).length ≤ 1000 := by rw [List.length_map, List.length_take]; omega
              have HL := Lib.hid HL
              have HST := Lib.hid hst
              have hve := vE_VeP l[k].k (l[k].f + b) (l[k].t + b) l[k].v l[k].a ⟨l[k].d.toArray⟩ l[k].u
              have hvk : vE ⟨l[k].k, l[k].f + b, l[k].t + b, l[k].v, l[k].a, (⟨l[k].d.toArray⟩ : ByteArray).data.toList, l[k].u⟩ = shOk b l[k] := sh_valid (HVA.out k hlt)
              rw [hvk] at hve
              have d0 := HD.out k hlt
              have K1 := fun W => CV.out l[k].k (l[k].f + b) (l[k].t + b) l[k].v l[k].a ⟨l[k].d.toArray⟩ l[k].u W (by rw [size_mk]; exact d0)
              rw [hve] at K1
              have KV := Lib.hid K1
              clear hc1 H2 hst hve hvk K1 d0
              cases hv : shOk b l[k] with
              | false =>
                obtain ⟨rfl, rfl⟩ := HR.out (all_true_of HVA.out) (all_false_of hlt hv)
                rw [hv] at KV
                clear hv
                generalize (⟨l[k].d.toArray⟩ : ByteArray) = x5 at *; generalize l[k].k = x0 at *; generalize l[k].f = x1 at *; generalize l[k].t = x2 at *; generalize l[k].v = x3 at *; generalize l[k].a = x4 at *; generalize l[k].u = x6 at *
                go_wp2_with (first
                  | (go_at_call 12; go_must (refine (KV.out _).mono ?_; rintro e1 w1 ⟨rfl, rfl⟩)))
                go_returns
                exact ⟨_, rfl, KRow.nil _ _, (by repeat' (first | with_reducible exact Below.refl _ _ | with_reducible exact Nat.le_refl _ | with_reducible assumption | with_reducible refine below_drewN ?_ _ | with_reducible refine Below.drew ?_ | with_reducible refine Below.trans ?_ (Below.mono (by assumption) ?_) | with_reducible refine Below.alloc ?_ ?_ _ | with_reducible refine Below.setCell ?_ ?_ _ | with_reducible refine le_setCell ?_ _ _ | with_reducible refine le_alloc ?_ _ | with_reducible refine le_drewN ?_ _ | with_reducible refine le_drew ?_ | with_reducible refine Nat.le_trans ?_ (Below.size (by assumption)) | (simp only [World.size_alloc, World.size_setCell]; omega)))⟩
              | true =>
                have HVK := Lib.hid hv
                rw [hv] at KV
                clear hv
                generalize (⟨l[k].d.toArray⟩ : ByteArray) = x5 at *; generalize l[k].k = x0 at *; generalize l[k].f = x1 at *; generalize l[k].t = x2 at *; generalize l[k].v = x3 at *; generalize l[k].a = x4 at *; generalize l[k].u = x6 at *
                go_wp2_with (first
                  | (go_at_call 12; go_must (refine (KV.out _).mono ?_; rintro e1 w1 ⟨rfl, rfl⟩))
                  | (at_builtin; go_must (refine wpList_append_ev rfl _ _ rfl rfl rfl rfl (by first | rfl | simp only [World.size_alloc]) ((HRW.out.alloc _).alloc _) (le_alloc (le_alloc hb.size _) _) (by have := HL.out; omega) ?_; intro v5 w5 R5 b5; have B5 := Lib.hid (((hb.alloc hb.size _).alloc (le_alloc hb.size _) _).trans b5))))
                go_roundw
                case rel => exact ⟨k + 1, by omega, by go_num, Lib.hid (fun j hj hk => by
                  by_cases e : j = k
                  · subst e; exact HVK.out
                  · exact HV.out j hj (by omega)), Lib.hid (by rw [HST.out]; exact R5), B5⟩
                case measure => simp [intOf]; omega
            · have he : l.take k = l := List.take_of_length_le (by omega)
              obtain ⟨rfl, rfl⟩ := HO.out (all_true_of HVA.out) (all_true_of fun j hj => HV.out j hj (by omega))
              rw [he] at HRW
              go_wp2
              go_returns
              exact ⟨_, rfl, HRW.out, hb⟩

end Go.Proofs.YtiimdkamgehioaaDoor
