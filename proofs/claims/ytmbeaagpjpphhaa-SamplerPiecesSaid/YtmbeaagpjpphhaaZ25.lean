/-
  The walk of chained.
-/
import Derived.Test.YtmbeaagpjpphhaaZ24
import Derived.BigQuiet
namespace Go.Proofs.Ytmbeaagpjpphhaa
open Go Go.RowKit Go.Joins
set_option linter.unusedVariables false
set_option linter.unusedSimpArgs false

theorem csP_iff (k f t v a : Int) (d : List UInt8) (u : Int) : CsP ⟨k, f, t, v, a, d, u⟩ ↔ k = 1 ∧ ¬ f < 0 ∧ ¬ t ≤ f ∧ ¬ 1099511627776 < t ∧ ¬ v < 0 ∧ ¬ 1 < v ∧ u = 0 ∧ a = 0 ∧ d = [] := by
  unfold CsP
  constructor
  · rintro ⟨h1, h2, h3, h4, h5, h6, h7, h8⟩
    simp only at *
    exact ⟨h1, by omega, by omega, by omega, by omega, by omega, h6, h7, h8⟩
  · rintro ⟨h1, h2, h3, h4, h5, h6, h7, h8, h9⟩
    simp only at *
    exact ⟨h1, by omega, by omega, by omega, by omega, h7, h8, h9⟩

set_option maxRecDepth 20000 in
set_option maxHeartbeats 8000000 in
theorem chained_any (l : List Ev) (V : Value) (w : World) (hT : EvArg w V l) (hl : l.length ≤ 140737488351232) (q : Bool) (hq1 : CsG l → q = true) (hq0 : ¬ CsG l → q = false) :
    Calls Try.prog 33 #[V] w fun e w' => e = .returned (.bool q) ∧ Below w.heap.size w w' := by
  have HT : Hid ((∀ j (h : j < l.length), CsP l[j]) → (∀ n (h : n + 1 < l.length), l[n + 1].f = l[n].t) → q = true) := Lib.hid fun h1 h2 => hq1 ⟨h1, h2⟩
  have HF1 : Hid (∀ j (h : j < l.length), ¬ CsP l[j] → q = false) := Lib.hid fun j h h1 => hq0 fun h2 => h1 (h2.1 j h)
  have HF2 : Hid (∀ n (h : n + 1 < l.length), l[n + 1].f ≠ l[n].t → q = false) := Lib.hid fun j h h1 => hq0 fun h2 => h1 (h2.2 j h)
  clear hq1 hq0
  obtain ⟨A, c, rfl, hA⟩ := hT
  have HA := Lib.hid hA
  have hl' : (l.length : Int) ≤ 140737488351232 := by omega
  clear hA
  go_enter Try.func33, Try.ntmps33
  go_wp2
  go_loopw [3] (fun i wr => ∃ (j : Nat), j ≤ l.length ∧ i = .int .i64 j ∧ Hid (∀ i (h : i < l.length), i < j → CsP l[i]) ∧ Hid (∀ n (h : n + 1 < l.length), n + 1 < j → l[n + 1].f = l[n].t) ∧ Hid (Below w.heap.size w wr)) (fun i _ => l.length - (intOf i).toNat)
  case atStart => exact ⟨0, Nat.zero_le _, rfl, Lib.hid (fun i h h0 => by omega), Lib.hid (fun i h h0 => by omega), Lib.hid (Below.refl _ _)⟩
  case round =>
    obtain ⟨j, hj, rfl, HG, HN, HB⟩ := hrel
    have hb := HB.out
    by_cases hjl : j < l.length
    · obtain ⟨g, o, rfl, hg, hc⟩ := HA.out (by omega)
      obtain ⟨a0, a1, a2, a3, a4, a5, a6⟩ := arg_seven hc j hjl
      have f0 := (hb.cell (p := ⟨g, o + j * 7, none⟩) hg).trans a0
      have f1 := (hb.cell (p := ⟨g, o + j * 7 + 1, none⟩) hg).trans a1
      have f2 := (hb.cell (p := ⟨g, o + j * 7 + 2, none⟩) hg).trans a2
      have f3 := (hb.cell (p := ⟨g, o + j * 7 + 3, none⟩) hg).trans a3
      have f4 := (hb.cell (p := ⟨g, o + j * 7 + 4, none⟩) hg).trans a4
      have f5 := (hb.cell (p := ⟨g, o + j * 7 + 5, none⟩) hg).trans a5
      have f6 := (hb.cell (p := ⟨g, o + j * 7 + 6, none⟩) hg).trans a6
      have HI := Lib.hid (csP_iff l[j].k l[j].f l[j].t l[j].v l[j].a l[j].d l[j].u)
      have HF1j := Lib.hid (HF1.out j hjl)
      have HFJ : Hid (∀ n (h : n + 1 = j), l[j].f ≠ (l[n]'(by omega)).t → q = false) := Lib.hid (by
        intro n h h1; subst h; exact HF2.out n hjl h1)
      have HNJ : Hid ((∀ n (h : n + 1 = j), l[j].f = (l[n]'(by omega)).t) → ∀ n (h : n + 1 < l.length), n + 1 < j + 1 → l[n + 1].f = l[n].t) := Lib.hid (by
        intro h1 n h h2
        by_cases hn : n + 1 = j
        · subst hn; exact h1 n rfl
        · exact HN.out n h (by omega))
      have HGJ : Hid (CsP l[j] → ∀ i (h : i < l.length), i < j + 1 → CsP l[i]) := Lib.hid (by
        intro h1 i h h2
        by_cases hn : i = j
        · subst hn; exact h1
        · exact HG.out i h (by omega))
      have HCP : Hid (CsP l[j] ↔ CsP ⟨l[j].k, l[j].f, l[j].t, l[j].v, l[j].a, l[j].d, l[j].u⟩) := Lib.hid Iff.rfl
      have hbz : Below w.heap.size w (wr.alloc (.cells #[.int .i64 l[j].k, .int .i64 l[j].f, .int .i64 l[j].t, .int .i64 l[j].v, .int .i64 l[j].a, .string ⟨l[j].d.toArray⟩, .int .i64 l[j].u] 44)) := hb.alloc hb.size _
      have HBZ := Lib.hid hbz
      clear a0 a1 a2 a3 a4 a5 a6 hbz
      generalize l[j].d = xd at *
      generalize l[j].k = x0 at *
      generalize l[j].f = x1 at *
      generalize l[j].t = x2 at *
      generalize l[j].v = x3 at *
      generalize l[j].a = x4 at *
      generalize l[j].u = x6 at *
      by_cases h1 : x0 = 1
      rotate_left
      · have d1 : (x0 != 1) = true := by simpa using h1
        obtain rfl : q = false := HF1j.out (fun h => h1 (HI.out.1 (HCP.out.1 h)).1)
        clear HI HCP HF1j HF1 HF2 HT HGJ HG HN HNJ HFJ
        clear h1
        go_wp2
        go_big_quiet (fail)
        go_wp2
        go_returns
        exact ⟨rfl, Go.below_drewN HBZ.out _⟩
      by_cases h2 : ¬ x1 < 0
      rotate_left
      · have d2 : decide (x1 < 0) = true := decide_eq_true (Classical.not_not.1 h2)
        obtain rfl : q = false := HF1j.out (fun h => h2 (HI.out.1 (HCP.out.1 h)).2.1)
        clear HI HCP HF1j HF1 HF2 HT HGJ HG HN HNJ HFJ
        subst h1
        clear h2
        go_wp2
        go_big_quiet (fail)
        go_wp2
        go_returns
        exact ⟨rfl, Go.below_drewN HBZ.out _⟩
      have d2 : decide (x1 < 0) = false := decide_eq_false h2
      by_cases h3 : ¬ x2 ≤ x1
      rotate_left
      · have d3 : decide (x2 ≤ x1) = true := decide_eq_true (Classical.not_not.1 h3)
        obtain rfl : q = false := HF1j.out (fun h => h3 (HI.out.1 (HCP.out.1 h)).2.2.1)
        clear HI HCP HF1j HF1 HF2 HT HGJ HG HN HNJ HFJ
        subst h1
        clear h3 h2
        go_wp2
        go_big_quiet (fail)
        go_wp2
        go_returns
        exact ⟨rfl, Go.below_drewN HBZ.out _⟩
      have d3 : decide (x2 ≤ x1) = false := decide_eq_false h3
      by_cases h4 : ¬ 1099511627776 < x2
      rotate_left
      · have d4 : decide (1099511627776 < x2) = true := decide_eq_true (Classical.not_not.1 h4)
        obtain rfl : q = false := HF1j.out (fun h => h4 (HI.out.1 (HCP.out.1 h)).2.2.2.1)
        clear HI HCP HF1j HF1 HF2 HT HGJ HG HN HNJ HFJ
        subst h1
        clear h4 h2 h3
        go_wp2
        go_big_quiet (fail)
        go_wp2
        go_returns
        exact ⟨rfl, Go.below_drewN HBZ.out _⟩
      have d4 : decide (1099511627776 < x2) = false := decide_eq_false h4
      by_cases h5 : ¬ x3 < 0
      rotate_left
      · have d5 : decide (x3 < 0) = true := decide_eq_true (Classical.not_not.1 h5)
        obtain rfl : q = false := HF1j.out (fun h => h5 (HI.out.1 (HCP.out.1 h)).2.2.2.2.1)
        clear HI HCP HF1j HF1 HF2 HT HGJ HG HN HNJ HFJ
        subst h1
        clear h5 h2 h3 h4
        go_wp2
        go_big_quiet (fail)
        go_wp2
        go_returns
        exact ⟨rfl, Go.below_drewN HBZ.out _⟩
      have d5 : decide (x3 < 0) = false := decide_eq_false h5
      by_cases h6 : ¬ 1 < x3
      rotate_left
      · have d6 : decide (1 < x3) = true := decide_eq_true (Classical.not_not.1 h6)
        obtain rfl : q = false := HF1j.out (fun h => h6 (HI.out.1 (HCP.out.1 h)).2.2.2.2.2.1)
        clear HI HCP HF1j HF1 HF2 HT HGJ HG HN HNJ HFJ
        subst h1
        clear h6 h2 h3 h4 h5
        go_wp2
        go_big_quiet (fail)
        go_wp2
        go_returns
        exact ⟨rfl, Go.below_drewN HBZ.out _⟩
      have d6 : decide (1 < x3) = false := decide_eq_false h6
      by_cases h7 : x6 = 0
      rotate_left
      · have d7 : (x6 != 0) = true := by simpa using h7
        obtain rfl : q = false := HF1j.out (fun h => h7 (HI.out.1 (HCP.out.1 h)).2.2.2.2.2.2.1)
        clear HI HCP HF1j HF1 HF2 HT HGJ HG HN HNJ HFJ
        subst h1
        clear h7 h2 h3 h4 h5 h6
        go_wp2
        go_big_quiet (fail)
        go_wp2
        go_returns
        exact ⟨rfl, Go.below_drewN HBZ.out _⟩
      by_cases h8 : x4 = 0
      rotate_left
      · have d8 : (x4 != 0) = true := by simpa using h8
        obtain rfl : q = false := HF1j.out (fun h => h8 (HI.out.1 (HCP.out.1 h)).2.2.2.2.2.2.2.1)
        clear HI HCP HF1j HF1 HF2 HT HGJ HG HN HNJ HFJ
        subst h1
        subst h7
        clear h8 h2 h3 h4 h5 h6
        go_wp2
        go_big_quiet (fail)
        go_wp2
        go_returns
        exact ⟨rfl, Go.below_drewN HBZ.out _⟩
      by_cases h9 : xd = []
      rotate_left
      · have d9 : (!((⟨xd.toArray⟩ : ByteArray).toList == (⟨#[]⟩ : ByteArray).toList)) = true := by rw [ByteArray.toList_eq, ByteArray.toList_eq]; simpa using h9
        have d9b : (⟨xd.toArray⟩ : ByteArray).toList.isEmpty = false := by rw [ByteArray.toList_eq]; cases xd with | nil => exact absurd rfl h9 | cons _ _ => rfl
        have d9c : (!(⟨xd.toArray⟩ : ByteArray).toList.isEmpty) = true := by rw [d9b]; rfl
        generalize (⟨xd.toArray⟩ : ByteArray) = S at *
        obtain rfl : q = false := HF1j.out (fun h => h9 (HI.out.1 (HCP.out.1 h)).2.2.2.2.2.2.2.2)
        clear HI HCP HF1j HF1 HF2 HT HGJ HG HN HNJ HFJ
        subst h1
        subst h7
        subst h8
        clear h9 h2 h3 h4 h5 h6
        go_wp2
        go_big_quiet (fail)
        go_wp2
        go_returns
        exact ⟨rfl, Go.below_drewN HBZ.out _⟩
      have HGj := Lib.hid (HGJ.out (HCP.out.2 (HI.out.2 ⟨h1, h2, h3, h4, h5, h6, h7, h8, h9⟩)))
      subst h1 h7 h8 h9
      clear h2 h3 h4 h5 h6 HI HCP HF1j HF1 HF2 HT HGJ HG HN
      by_cases hz : 0 < j
      rotate_left
      · have HNj := Lib.hid (HNJ.out (fun n h => by omega))
        have e0 : decide ((0 : Int) < (j : Int)) = false := decide_eq_false (by omega)
        have e1 : decide (0 < j) = false := decide_eq_false hz
        clear HNJ HFJ
        go_wp2
        go_big_quiet (fail)
        go_wp2
        go_roundw
        case rel => exact ⟨j + 1, by omega, val_int (by omega), HGj, HNj, Lib.hid (Go.below_drewN HBZ.out _)⟩
        case measure => simp [intOf]; omega
      obtain ⟨n, rfl⟩ : ∃ n, j = n + 1 := ⟨j - 1, by omega⟩
      · obtain ⟨b0, b1, b2, b3, b4, b5, b6⟩ := arg_seven hc n (by omega)
        have g2 := (hb.cell (p := ⟨g, o + n * 7 + 2, none⟩) hg).trans b2
        have HFJ' := Lib.hid (HFJ.out n rfl)
        have HNJ' : Hid (x1 = (l[n]'(by omega)).t → ∀ n_1 (h : n_1 + 1 < l.length), n_1 + 1 < n + 1 + 1 → l[n_1 + 1].f = l[n_1].t) := Lib.hid (fun h => HNJ.out (fun m hm => by obtain rfl : m = n := (by omega); exact h))
        clear HFJ HNJ b0 b1 b2 b3 b4 b5 b6
        generalize l[n].t = y2 at *
        have q1 : IntKind.i64.wrap (((n + 1 : Nat) : Int) - 1) = (n : Int) := by rw [IntWalk.i64_in _ (by omega)]; omega
        have q2 : (0 : Int) < ((n + 1 : Nat) : Int) := by omega
        have q3 : (0 : Int) ≤ (n : Int) := by omega
        have q4 : (n : Int) < l.length := by omega
        have q5 : decide ((0 : Int) < ((n + 1 : Nat) : Int)) = true := decide_eq_true q2
        have q6 : decide (0 < n + 1) = true := decide_eq_true (by omega)
        have mg : g < wr.heap.size := Nat.lt_of_lt_of_le hg hb.size
        by_cases hy : x1 = y2
        · have HNj := Lib.hid (HNJ'.out hy)
          subst hy
          clear HNJ' HFJ'
          have hyy : (x1 != x1) = false := by simp
          go_wp2
          go_big_quiet (fail)
          go_wp2
          go_roundw
          case rel => exact ⟨n + 1 + 1, by omega, val_int (by omega), HGj, HNj, Lib.hid (Go.below_drewN HBZ.out _)⟩
          case measure => simp [intOf]; omega
        · have hyy : (x1 != y2) = true := by simpa using hy
          obtain rfl : q = false := HFJ'.out hy
          clear HNJ' HFJ'
          go_wp2
          go_big_quiet (fail)
          go_wp2
          go_returns
          exact ⟨rfl, Go.below_drewN HBZ.out _⟩
    · obtain rfl : q = true := HT.out (fun i h => HG.out i h (by omega)) (fun n h => HN.out n h (by omega))
      clear HT HF1 HF2 HG HN HA
      go_wp2
      go_returns
      exact ⟨rfl, hb⟩

end Go.Proofs.Ytmbeaagpjpphhaa
