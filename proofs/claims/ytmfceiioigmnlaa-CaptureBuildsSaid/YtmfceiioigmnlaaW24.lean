/-
  slices.Equal of names and of runs, the law's sameRuns.
-/
import Derived.Test.YtmfceiioigmnlaaW9
namespace Go.Proofs.Ytmfceiioigmnlaa
open Go Go.RowKit Go.Joins
set_option linter.unusedVariables false
set_option linter.unusedSimpArgs false

theorem take_next {α : Type} {l l' : List α} {k : Nat} (hk : k < l.length) (hk' : k < l'.length) (h : l.take k = l'.take k) (e : l[k] = l'[k]) : l.take (k + 1) = l'.take (k + 1) := by
  rw [List.take_succ_eq_append_getElem hk, List.take_succ_eq_append_getElem hk', h, e]
theorem take_end {α : Type} {l l' : List α} {k : Nat} (hk : ¬ k < l.length) (hl : l.length = l'.length) (h : l.take k = l'.take k) : l = l' := by
  rw [List.take_of_length_le (by omega), List.take_of_length_le (by omega)] at h
  exact h
theorem at_ne {α : Type} {l l' : List α} {k : Nat} (hk : k < l.length) (hk' : k < l'.length) (h : ¬ l[k] = l'[k]) : ¬ l = l' := by
  intro e
  subst e
  exact h rfl
theorem rn_pair {a b : Rn} : a = b ↔ a.1 = b.1 ∧ a.2 = b.2 := Prod.ext_iff

set_option maxRecDepth 20000 in
set_option maxHeartbeats 2000000 in
theorem eqRuns_any (b : Bool) (l l' : List Rn) (V V' : Value) (w : World) (h1 : RnArg w V l) (h2 : RnArg w V' l') (hl : l.length ≤ 1099511627776) (hl' : l'.length ≤ 1099511627776) (hb1 : l = l' → b = true) (hb2 : ¬ l = l' → b = false) :
    Calls Try.prog 50 #[V, V'] w fun e w' => e = .returned (.bool b) ∧ Below w.heap.size w w' := by
  obtain ⟨A1, c1, rfl, h1⟩ := h1
  obtain ⟨A2, c2, rfl, h2⟩ := h2
  have H1 := Lib.hid h1; have H2 := Lib.hid h2
  have B1 := Lib.hid hb1; have B2 := Lib.hid hb2
  have hl1 : (l.length : Int) ≤ 1099511627776 := by omega
  have hl2 : (l'.length : Int) ≤ 1099511627776 := by omega
  clear h1 h2 hb1 hb2
  by_cases hlen : l.length = l'.length
  · have HLn := Lib.hid hlen
    have hle : ((l.length : Int) == (l'.length : Int)) = true := beq_iff_eq.2 (by omega)
    clear hlen
    go_enter Try.func50, Try.ntmps50
    go_wp2
    go_loopw [13] (fun x wr => ∃ (k m : Nat), k ≤ l.length ∧ x = .int .i64 k ∧ Hid (l.take k = l'.take k) ∧ wr = w.drewN m) (fun x _ => l.length - (intOf x).toNat)
    case atStart => exact ⟨0, 0, by omega, rfl, Lib.hid rfl, rfl⟩
    case round =>
      obtain ⟨k, m, hk, rfl, HT, rfl⟩ := hrel
      by_cases hlt : k < l.length
      · have hlt' : k < l'.length := by have := HLn.out; omega
        obtain ⟨g1, o1, rfl, hg1, hc1⟩ := H1.out (by omega)
        obtain ⟨g2, o2, rfl, hg2, hc2⟩ := H2.out (by omega)
        obtain ⟨a0, a1⟩ := arg_two hc1 k hlt
        obtain ⟨b0, b1⟩ := arg_two hc2 k hlt'
        have HN := Lib.hid (fun (h : l[k] = l'[k]) => take_next hlt hlt' HT.out h)
        have HX := Lib.hid (fun (h : ¬ l[k] = l'[k]) => B2.out (at_ne hlt hlt' h))
        simp only [rn_pair] at HN HX
        clear hc1 hc2 HT
        generalize l[k].1 = x0 at *
        generalize l[k].2 = x1 at *
        generalize l'[k].1 = y0 at *
        generalize l'[k].2 = y1 at *
        by_cases e0 : x0 = y0
        · by_cases e1 : x1 = y1
          · have HN2 := Lib.hid (HN.out ⟨e0, e1⟩)
            subst e0 e1
            clear HN HX
            go_wp2
            go_quiet (fail)
            go_wp2
            go_roundw
            case rel => exact ⟨k + 1, m + nq, by omega, by go_num, HN2, rfl⟩
            case measure => simp [intOf]; omega
          · have hx := HX.out (fun h => e1 h.2)
            subst e0 hx
            have q1 : (x1 == y1) = false := by simpa using e1
            have q2 : (y1 == x1) = false := by simpa using fun h => e1 h.symm
            clear HN HX B1 B2
            go_wp2
            go_quiet (fail)
            go_wp2
            go_returns
            exact ⟨rfl, Go.below_drewN (Go.below_drewN (Below.refl _ _) _) _⟩
        · have hx := HX.out (fun h => e0 h.1)
          subst hx
          have q1 : (x0 == y0) = false := by simpa using e0
          have q2 : (y0 == x0) = false := by simpa using fun h => e0 h.symm
          clear HN HX B1 B2
          go_wp2
          go_quiet (fail)
          go_wp2
          go_returns
          exact ⟨rfl, Go.below_drewN (Go.below_drewN (Below.refl _ _) _) _⟩
      · have hx := B1.out (take_end hlt HLn.out HT.out)
        subst hx
        clear B1 B2 HT
        go_wp2
        go_returns
        exact ⟨rfl, Go.below_drewN (Below.refl _ _) _⟩
  · have hx := B2.out (fun e => hlen (by rw [e]))
    subst hx
    have hle : ((l.length : Int) == (l'.length : Int)) = false := by rw [Bool.eq_false_iff]; intro h; exact hlen (by have := beq_iff_eq.1 h; omega)
    clear hlen B1 B2 H1 H2
    generalize l.length = n at *
    generalize l'.length = n' at *
    go_enter Try.func50, Try.ntmps50
    go_wp2
    go_returns
    exact ⟨rfl, Below.refl _ _⟩

set_option maxRecDepth 20000 in
set_option maxHeartbeats 2000000 in
theorem eqNames_any (b : Bool) (l l' : List ByteArray) (V V' : Value) (w : World) (h1 : NmArg w V l) (h2 : NmArg w V' l') (hl : l.length ≤ 1099511627776) (hl' : l'.length ≤ 1099511627776) (hb1 : l = l' → b = true) (hb2 : ¬ l = l' → b = false) :
    Calls Try.prog 49 #[V, V'] w fun e w' => e = .returned (.bool b) ∧ Below w.heap.size w w' := by
  obtain ⟨A1, c1, rfl, _, q1⟩ := h1.form
  obtain ⟨A2, c2, rfl, _, q2⟩ := h2.form
  have H1 := Lib.hid q1; have H2 := Lib.hid q2
  have B1 := Lib.hid hb1; have B2 := Lib.hid hb2
  have hl1 : (l.length : Int) ≤ 1099511627776 := by omega
  have hl2 : (l'.length : Int) ≤ 1099511627776 := by omega
  clear h1 h2 hb1 hb2 q1 q2
  by_cases hlen : l.length = l'.length
  · have HLn := Lib.hid hlen
    have hle : ((l.length : Int) == (l'.length : Int)) = true := beq_iff_eq.2 (by omega)
    clear hlen
    go_enter Try.func49, Try.ntmps49
    go_wp2
    go_loopw [13] (fun x wr => ∃ (k m : Nat), k ≤ l.length ∧ x = .int .i64 k ∧ Hid (l.take k = l'.take k) ∧ wr = w.drewN m) (fun x _ => l.length - (intOf x).toNat)
    case atStart => exact ⟨0, 0, by omega, rfl, Lib.hid rfl, rfl⟩
    case round =>
      obtain ⟨k, m, hk, rfl, HT, rfl⟩ := hrel
      by_cases hlt : k < l.length
      · have hlt' : k < l'.length := by have := HLn.out; omega
        obtain ⟨g1, o1, rfl, hg1, hc1⟩ := H1.out (by omega)
        obtain ⟨g2, o2, rfl, hg2, hc2⟩ := H2.out (by omega)
        have a0 := hc1 k hlt
        have b0 := hc2 k hlt'
        have HN := Lib.hid (fun (h : l[k] = l'[k]) => take_next hlt hlt' HT.out h)
        have HX := Lib.hid (fun (h : ¬ l[k] = l'[k]) => B2.out (at_ne hlt hlt' h))
        clear hc1 hc2 HT
        generalize l[k] = x0 at *
        generalize l'[k] = y0 at *
        by_cases e0 : x0 = y0
        · have HN2 := Lib.hid (HN.out e0)
          subst e0
          clear HN HX
          have q1 : (x0.toList == x0.toList) = true := (str_eq rfl).1
          go_wp2
          go_quiet (fail)
          go_wp2
          go_roundw
          case rel => exact ⟨k + 1, m + nq, by omega, by go_num, HN2, rfl⟩
          case measure => simp [intOf]; omega
        · have hx := HX.out e0
          subst hx
          obtain ⟨q1, q2⟩ := str_ne (a := x0) (b := y0) (fun h => e0 (eq_of_toList h))
          clear HN HX B1 B2 e0
          go_wp2
          go_quiet (fail)
          go_wp2
          go_returns
          exact ⟨rfl, Go.below_drewN (Go.below_drewN (Below.refl _ _) _) _⟩
      · have hx := B1.out (take_end hlt HLn.out HT.out)
        subst hx
        clear B1 B2 HT
        go_wp2
        go_returns
        exact ⟨rfl, Go.below_drewN (Below.refl _ _) _⟩
  · have hx := B2.out (fun e => hlen (by rw [e]))
    subst hx
    have hle : ((l.length : Int) == (l'.length : Int)) = false := by rw [Bool.eq_false_iff]; intro h; exact hlen (by have := beq_iff_eq.1 h; omega)
    clear hlen B1 B2 H1 H2
    generalize l.length = n at *
    generalize l'.length = n' at *
    go_enter Try.func49, Try.ntmps49
    go_wp2
    go_returns
    exact ⟨rfl, Below.refl _ _⟩

set_option maxRecDepth 20000 in
set_option maxHeartbeats 2000000 in
theorem sameRuns_any (l : List Rn) (V V' : Value) (w : World) (h1 : RnArg w V l) (h2 : RnArg w V' l) (hl : l.length ≤ 1099511627776) :
    Calls Try.prog 22 #[V, V'] w fun e w' => e = .returned (.bool true) ∧ Below w.heap.size w w' := by
  obtain ⟨A1, c1, rfl, h1⟩ := h1
  obtain ⟨A2, c2, rfl, h2⟩ := h2
  have H1 := Lib.hid h1; have H2 := Lib.hid h2
  have hl' : (l.length : Int) ≤ 1099511627776 := by omega
  clear h1 h2
  go_enter Try.func22, Try.ntmps22
  go_wp2
  go_loopw [5] (fun x wr => ∃ (k m : Nat), k ≤ l.length ∧ x = .int .i64 k ∧ wr = w.drewN m) (fun x _ => l.length - (intOf x).toNat)
  case atStart => exact ⟨0, 0, by omega, rfl, rfl⟩
  case round =>
    obtain ⟨k, m, hk, rfl, rfl⟩ := hrel
    by_cases hlt : k < l.length
    · obtain ⟨g1, o1, rfl, hg1, hc1⟩ := H1.out (by omega)
      obtain ⟨g2, o2, rfl, hg2, hc2⟩ := H2.out (by omega)
      obtain ⟨a0, a1⟩ := arg_two hc1 k hlt
      obtain ⟨b0, b1⟩ := arg_two hc2 k hlt
      clear hc1 hc2
      generalize l[k].1 = x0 at *
      generalize l[k].2 = x1 at *
      go_wp2
      go_quiet (fail)
      go_wp2
      go_roundw
      case rel => exact ⟨k + 1, m + nq, by omega, by go_num, rfl⟩
      case measure => simp [intOf]; omega
    · go_wp2
      go_returns
      exact ⟨rfl, Go.below_drewN (Below.refl _ _) _⟩

end Go.Proofs.Ytmfceiioigmnlaa
