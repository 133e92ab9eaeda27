/-
  slices.Delete and slices.BinarySearch on a row of ticks of the call's own; turned.
-/
import Derived.Test.YtemmljngglnccaaT1
namespace Go.Proofs.Ytemmljngglnccaa
open Go Go.RowKit Go.Joins Go.Sort
set_option linter.unusedVariables false
set_option linter.unusedSimpArgs false

theorem delete_any (q : List Int) (B g c i : Nat) (w : World) (hR : InRow w B (.slice (some ⟨g, 0, none⟩) q.length c) q) (hB : B ≤ w.heap.size) (hi : i < q.length) :
    Calls Try.prog 61 #[.slice (some ⟨g, 0, none⟩) q.length c, .int .i64 i, .int .i64 ((i + 1 : Nat) : Int)] w fun e w' => ∃ v : Value, e = .returned v ∧ InRow w' B v (q.take i ++ q.drop (i + 1)) ∧ Below B w w' := by
  have hrow := hR
  obtain ⟨_, hR2⟩ := hR
  rcases hR2 with ⟨h, _⟩ | ⟨g', cap, cur, he, hBg, hheap, hnc, hcm, hsz, htake⟩
  · cases h
  · have h1 := Value.slice.inj he
    obtain ⟨h2, _, h4⟩ := h1
    obtain rfl : g = g' := by have := Option.some.inj h2; exact congrArg Addr.block this
    subst h4
    have hC : RowAt w g 3 cur := hheap
    have hm63 : maxLen = 9223372036854775807 := rfl
    have hcell : ∀ j (hj : j < q.length), w.cell? ⟨g, 0 + j, none⟩ = some (.int .i64 q[j]) := by
      intro j hj
      have := KRow.cell inC_size hrow j hj 0 (by omega)
      rw [Nat.mul_one, Nat.add_zero] at this
      rw [Nat.zero_add, this]; rfl
    have hH : Holds (Value.int .i64) w g 0 q.toArray := by
      intro j hj
      have hj' : j < q.length := by simpa using hj
      refine ⟨?_, hC.frozen _⟩
      rw [hcell j hj']
      simp [hj']
    refine (Try.slices_Delete_int g 0 c i (i + 1) q w hH hnc (by omega) (by omega) (by omega)).mono ?_
    rintro e w' ⟨rfl, m, rfl⟩
    have hlen : (q.take i ++ q.drop (i + 1)).length = q.length - (i + 1 - i) := by simp only [List.length_append, List.length_take, List.length_drop]; omega
    obtain ⟨d, hd⟩ : ∃ d, d = q.take i ++ q.drop (i + 1) ++ List.replicate (i + 1 - i) 0 := ⟨_, rfl⟩
    have hdl : d.length = q.length := by rw [hd, List.length_append, hlen, List.length_replicate]; omega
    rw [← hd]
    have hH2 : Holds (Value.int .i64) (Sort.ahead w m) g 0 q.toArray := hH
    have r : RowAt (putRow (Value.int .i64) (Sort.ahead w m) g 0 d.toArray) g 3 (putCells (Value.int .i64) 0 d.toArray cur) := by
      show (putRow (Value.int .i64) (Sort.ahead w m) g 0 d.toArray).heap[g]? = _
      simp [putRow, mapBlock, Sort.ahead, Array.getElem?_modify, hheap, onCells]
    have hg : w.grownBy (putRow (Value.int .i64) (Sort.ahead w m) g 0 d.toArray) (some g) := by
      refine ⟨rfl, rfl, rfl, by simp [Sort.ahead], fun k hk hne => ?_⟩
      have : g ≠ k := fun e => hne (by rw [e])
      simp [putRow, mapBlock, Sort.ahead, Array.getElem?_modify, this]
    rw [show q.length - (i + 1 - i) = (q.take i ++ q.drop (i + 1)).length from hlen.symm]
    refine ⟨_, rfl, row_of_cells r (by simp [putCells]; omega) (by omega) hcm hBg ?_, (Below.refl B w).grown hg hB (fun k hk => by rw [← Option.some.inj hk]; exact hBg)⟩
    intro j hj
    have hjd : j < d.length := by omega
    have := cell?_putRow (Value.int .i64) (Sort.ahead w m) g 0 q.toArray d.toArray hH2 (by simpa using hdl) j (by simpa using hjd)
    rw [Nat.zero_add] at this
    rw [this]
    have e1 : d.toArray[j]! = d[j] := by simp [hjd]
    rw [e1]
    have e2 : d[j] = (q.take i ++ q.drop (i + 1))[j] := by
      subst hd
      rw [List.getElem_append_left hj]
    rw [e2]

/-! The place that a search finds. -/
theorem cnt_split (q : List Int) (x : Int) (hs : q.Pairwise (· < ·)) : q.countP (· < x) ≤ q.length ∧ (∀ j (h : j < q.length), j < q.countP (· < x) → q[j] < x) ∧ (∀ h : q.countP (· < x) < q.length, x ≤ q[q.countP (· < x)]) := by
  induction q with
  | nil => exact ⟨Nat.le_refl _, fun j h => absurd h (by simp), fun h => absurd h (by simp)⟩
  | cons e q ih =>
    rw [List.pairwise_cons] at hs
    obtain ⟨i1, i2, i3⟩ := ih hs.2
    by_cases he : e < x
    · have hc : (e :: q).countP (· < x) = q.countP (· < x) + 1 := by rw [List.countP_cons]; simp [he]
      simp only [hc, List.length_cons]
      refine ⟨by omega, fun j h hj => ?_, fun h => ?_⟩
      · cases j with
        | zero => exact he
        | succ j => exact i2 j (by omega) (by omega)
      · simp only [List.getElem_cons_succ]
        exact i3 (by omega)
    · have h0 : q.countP (· < x) = 0 := by
        rw [List.countP_eq_zero]
        intro a ha
        have := hs.1 a ha
        simp only [decide_eq_true_eq]; omega
      have hc : (e :: q).countP (· < x) = 0 := by rw [List.countP_cons, h0]; simp [he]
      simp only [hc, List.length_cons]
      refine ⟨by omega, fun j h hj => absurd hj (by omega), fun h => ?_⟩
      simp only [List.getElem_cons_zero]; omega
theorem cnt_found (q : List Int) (x : Int) (hs : q.Pairwise (· < ·)) : q.contains x = true ↔ ∃ h : q.countP (· < x) < q.length, q[q.countP (· < x)] = x := by
  obtain ⟨i1, i2, i3⟩ := cnt_split q x hs
  constructor
  · intro h
    have hx : x ∈ q := by simpa using h
    obtain ⟨j, hj, rfl⟩ := List.getElem_of_mem hx
    have h1 : ¬ j < q.countP (· < q[j]) := fun h => by have := i2 j hj h; omega
    have h2 : q.countP (· < q[j]) < q.length := by omega
    refine ⟨h2, ?_⟩
    by_cases h3 : q.countP (· < q[j]) = j
    · simp only [h3]
    · have := List.pairwise_iff_getElem.1 hs _ j h2 hj (by omega)
      have := i3 h2
      omega
  · rintro ⟨h, e⟩
    have : x ∈ q := by rw [← e]; exact List.getElem_mem h
    simpa using this
theorem oe_pair {n : Int} (q : List Int) : ∀ b : Int, oe b q n = true → q.Pairwise (· < ·) ∧ ∀ e ∈ q, b < e := by
  induction q with
  | nil => intro b _; exact ⟨List.Pairwise.nil, fun e h => by cases h⟩
  | cons e q ih =>
    intro b h
    rw [oe_cons] at h
    obtain ⟨p1, p2⟩ := ih e h.2.2
    refine ⟨List.pairwise_cons.2 ⟨p2, p1⟩, fun a ha => ?_⟩
    rcases List.mem_cons.1 ha with rfl | ha
    · exact h.1
    · have := p2 a ha; omega
theorem tn_found {q : List Int} {x : Int} (hs : q.Pairwise (· < ·)) (h : q.contains x = true) : ∃ i : Nat, i < q.length ∧ q.countP (· < x) = i ∧ tn q x = q.take i ++ q.drop (i + 1) := by
  obtain ⟨i1, i2, i3⟩ := cnt_split q x hs
  obtain ⟨h1, h2⟩ := (cnt_found q x hs).1 h
  refine ⟨_, h1, rfl, ?_⟩
  rw [tn_at q _ i1 i2 i3, dif_pos h1, if_pos h2]
theorem tn_not {q : List Int} {x : Int} (hs : q.Pairwise (· < ·)) (h : q.contains x = false) : ∃ i : Nat, i ≤ q.length ∧ q.countP (· < x) = i ∧ tn q x = q.take i ++ x :: q.drop i := by
  obtain ⟨i1, i2, i3⟩ := cnt_split q x hs
  refine ⟨_, i1, rfl, ?_⟩
  rw [tn_at q _ i1 i2 i3]
  by_cases h1 : q.countP (· < x) < q.length
  · rw [dif_pos h1, if_neg (fun h2 => by rw [(cnt_found q x hs).2 ⟨h1, h2⟩] at h; cases h)]
  · rw [dif_neg h1, show q.countP (· < x) = q.length by omega, List.take_length, List.drop_length]

set_option maxRecDepth 20000 in
theorem bs_nil (x : Int) (w : World) : Calls Try.prog 60 #[.slice none 0 0, .int .i64 x] w fun e w' => e = .returned (.tuple #[.int .i64 0, .bool false]) ∧ Below w.heap.size w w' := by
  go_enter Try.func60, Try.ntmps60
  go_wp2
  go_loopw [7, 8] (fun i j wr => i = .int .i64 0 ∧ j = .int .i64 0 ∧ wr = w) (fun _ _ _ => 0)
  case atStart => exact ⟨rfl, rfl, rfl⟩
  case round =>
    obtain ⟨rfl, rfl, rfl⟩ := hrel
    go_wp2
    go_returns
    exact ⟨rfl, Below.refl _ _⟩

theorem search_any (q : List Int) (B : Nat) (V : Value) (x : Int) (w : World) (hR : InRow w B V q) (hs : q.Pairwise (· < ·)) (hl : q.length ≤ 300000) :
    Calls Try.prog 60 #[V, .int .i64 x] w fun e w' => e = .returned (.tuple #[.int .i64 (q.countP (· < x) : Nat), .bool (q.contains x)]) ∧ Below w.heap.size w w' := by
  rcases Nat.eq_zero_or_pos q.length with h0 | h0
  · have hq : q = [] := List.eq_nil_of_length_eq_zero h0
    subst hq
    obtain ⟨_, hR2⟩ := hR
    rcases hR2 with ⟨rfl, _⟩ | ⟨g, cap, cur, rfl, hBg, hheap, hnc, hcm, hsz, htake⟩
    · exact bs_nil x w
    · refine (Try.slices_BinarySearch_int g 0 0 cap [] x w (by simp) (by omega) (fun j hj => absurd hj (by simp)) (by simp)).mono ?_
      rintro e w' ⟨rfl, m, rfl⟩
      exact ⟨rfl, Go.below_drewN (Below.refl _ _) _⟩
  · obtain ⟨g, c, rfl⟩ := KRow.full hR h0
    refine (Try.slices_BinarySearch_int g 0 q.length c q x w (Nat.le_refl _) (by omega) (fun j hj => ?_) (by rw [List.take_length]; exact hs.imp (fun h => by omega))).mono ?_
    · have := KRow.cell inC_size hR j hj 0 (by omega)
      rw [Nat.mul_one, Nat.add_zero] at this
      rw [Nat.zero_add, this, List.getD_eq_getElem?_getD, List.getElem?_eq_getElem hj]
      rfl
    · rintro e w' ⟨rfl, m, rfl⟩
      rw [List.take_length]
      exact ⟨rfl, Go.below_drewN (Below.refl _ _) _⟩

set_option maxRecDepth 100000 in
set_option maxHeartbeats 4000000 in
theorem turned_any (q : List Int) (B : Nat) (V : Value) (x : Int) (w : World) (hR : InRow w B V q) (hB : B ≤ w.heap.size) (hs : q.Pairwise (· < ·)) (hl : q.length ≤ 300000) :
    Calls Try.prog 37 #[V, .int .i64 x] w fun e w' => ∃ v : Value, e = .returned v ∧ InRow w' B v (tn q x) ∧ Below B w w' := by
  have HS' := search_any q B V x w hR hs hl
  cases hc : q.contains x with
  | true =>
    obtain ⟨i, hi, e1, e2⟩ := tn_found hs hc
    rw [hc, e1] at HS'
    have HS := Lib.hid HS'
    have hpos : 0 < q.length := by omega
    obtain ⟨g, c, rfl⟩ := KRow.full hR hpos
    have HD := fun w' (hb : Below w.heap.size w w') => delete_any q B g c i w' (hR.keep hb) (Nat.le_trans hB hb.size) hi
    simp only [Int.natCast_add, Int.natCast_one] at HD
    have HD := Lib.hid HD
    have HT := Lib.hid e2
    have hw := IntWalk.i64_in ((i : Int) + 1) (by omega)
    have HBh := Lib.hid hB
    clear HS' hR hs hc e1 e2 hB
    generalize tn q x = t at *
    generalize q.take i ++ q.drop (i + 1) = t' at *
    generalize q.length = n at *
    go_enter Try.func37, Try.ntmps37
    go_wp2_with (first
      | (go_at_call 60; go_must (refine HS.out.mono ?_; rintro e1 w1 ⟨rfl, b1⟩; have B1 := Lib.hid b1; clear b1))
      | (go_at_call 61; go_must (refine (HD.out _ B1.out).mono ?_; rintro e2 w2 ⟨v2, rfl, r2, b2⟩; have R2 := Lib.hid r2; have B2 := Lib.hid ((B1.out.mono HBh.out).trans b2); clear r2 b2)))
    go_returns
    exact ⟨_, rfl, by rw [HT.out]; exact R2.out, B2.out⟩
  | false =>
    obtain ⟨i, hi, e1, e2⟩ := tn_not hs hc
    rw [hc, e1] at HS'
    have HS := Lib.hid HS'
    obtain ⟨A, n, c, rfl, hn⟩ := KRow.form hR
    subst hn
    have HI := Lib.hid (fun w' (hb : Below w.heap.size w w') => insert_any q B _ x i w' (hR.keep hb) (Nat.le_trans hB hb.size) hi hl)
    have HT := Lib.hid e2
    have HBh := Lib.hid hB
    clear HS' hR hs hc e1 e2 hB
    generalize tn q x = t at *
    generalize q.take i ++ x :: q.drop i = t' at *
    generalize q.length = n at *
    go_enter Try.func37, Try.ntmps37
    go_wp2_with (first
      | (go_at_call 60; go_must (refine HS.out.mono ?_; rintro e1 w1 ⟨rfl, b1⟩; have B1 := Lib.hid b1; clear b1))
      | (go_at_call 62; go_must (refine (HI.out _ B1.out).mono ?_; rintro e2 w2 ⟨v2, rfl, r2, b2⟩; have R2 := Lib.hid r2; have B2 := Lib.hid ((B1.out.mono HBh.out).trans b2); clear r2 b2)))
    go_returns
    exact ⟨_, rfl, by rw [HT.out]; exact R2.out, B2.out⟩
end Go.Proofs.Ytemmljngglnccaa
