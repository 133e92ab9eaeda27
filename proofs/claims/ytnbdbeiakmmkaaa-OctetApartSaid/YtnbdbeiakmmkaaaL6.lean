/-
  The walk of the statement OctetApart.
-/
import Derived.Test.YtnbdbeiakmmkaaaW4
namespace Go.Proofs.Ytnbdbeiakmmkaaa
open Go.RowKit
set_option linter.unusedVariables false

theorem law_apart_big (A : Option Addr) (m c k : Nat) (s : ByteArray) (w : World) (hk : k < 18446744073709551616) (h : 1048576 < m ∨ 1048576 < s.size) (hm : m ≤ 140737488351232) (hs : s.size ≤ 140737488351232) :
    Calls Try.prog 8 #[.slice A m c, .int .u64 k, .string s] w fun e w' => e = .returned (.bool true) ∧ Below w.heap.size w w' := by
  by_cases h1 : 1048576 < m
  · go_enter Try.func8, Try.ntmps8
    go_wp2_with (go_at_call 9; go_must (refine (awake_any _).mono ?_; rintro e w1 ⟨rfl, hb⟩))
    go_returns
    exact ⟨rfl, hb⟩
  · have h2 : 1048576 < s.size := by omega
    clear h
    go_enter Try.func8, Try.ntmps8
    go_wp2_with (go_at_call 9; go_must (refine (awake_any _).mono ?_; rintro e w1 ⟨rfl, hb⟩))
    go_returns
    exact ⟨rfl, hb⟩

/-- A row of the call's own: a cell of it, its mark, its string, behind what leaves it alone. -/
theorem Own.cell {w : World} {B g n c : Nat} {l : List UInt8} (h : Own w B g n c l) (j : Nat) (hj : j < n) : ∃ u, w.cell? ⟨g, j, none⟩ = some u := by
  have hl := h.len
  rw [World.ownsRow.cellAt h j (by omega)]
  exact ⟨_, cells_at l j (by omega)⟩
theorem Own.mark {w : World} {B g n c : Nat} {l : List UInt8} (h : Own w B g n c l) (j : Nat) : w.frozen? ⟨g, j, none⟩ = false := World.ownsRow.frozenAt h j

set_option maxRecDepth 20000 in
set_option maxHeartbeats 2000000 in
theorem law_apart (A : Option Addr) (m c k : Nat) (l : List UInt8) (s : ByteArray) (w : World) (hr : Rd w w.heap.size A l) (hn : m = l.length) (hc : m ≤ c) (hnil : A = none → c = 0) (hk : k < 18446744073709551616) (hm : m ≤ 1048576) (hs : s.size ≤ 1048576) :
    Calls Try.prog 8 #[.slice A m c, .int .u64 k, .string s] w fun e w' => e = .returned (.bool true) ∧ Below w.heap.size w w' := by
  have C1 := putu_any A m c l k w hr hn hc hnil hk (by omega)
  have C2 : ∀ (w' : World) (K : Int), Below w.heap.size w w' → K = ((k / 2 : Nat) : Int) → Calls Try.prog 12 #[.slice A m c, .int .u64 K] w' (Made w' (l ++ put (k / 2))) := fun w' K hb h => by
    subst h
    exact putu_any A m c l (k / 2) w' ((hr.below hb (Nat.le_refl _)).more hb.size) hn hc hnil (by omega) (by omega)
  have hp1 := put_pos k
  have hp2 := put_pos (k / 2)
  have ht1 := put_ten hk
  have ht2 := put_ten (n := k / 2) (by omega)
  obtain ⟨T, hT⟩ : ∃ T : ByteArray, (⟨(l ++ put k).toArray⟩ : ByteArray) = T := ⟨_, rfl⟩
  have hTl : T.data.toList = l ++ put k := by rw [← hT]
  have hTs : T.size = m + (put k).length := by rw [size_len, hTl, List.length_append, hn]
  have C3 : ∀ w', Calls Try.prog 13 #[.string T, .int .i64 m] w' fun e w'' => e = .returned (.tuple #[.int .u64 k, .int .i64 (m + (put k).length : Nat), .int .i64 (0 : Nat)]) ∧ w' = w'' := fun w' => by
    have h := taku_any T m w' (by omega)
    rw [hTl] at h
    have e := tu_put l [] k hk
    rw [List.append_nil, ← hn] at e
    unfold tuVal tuV tuN tuE at h
    rw [e] at h
    exact h
  have C4 : ∀ w', Calls Try.prog 13 #[.string (T ++ s), .int .i64 m] w' fun e w'' => e = .returned (.tuple #[.int .u64 k, .int .i64 (m + (put k).length : Nat), .int .i64 (0 : Nat)]) ∧ w' = w'' := fun w' => by
    have h := taku_any (T ++ s) m w' (by rw [ByteArray.size_append]; omega)
    rw [show (T ++ s).data.toList = l ++ put k ++ s.data.toList by simp [hTl]] at h
    have e := tu_put l s.data.toList k hk
    rw [← hn] at e
    unfold tuVal tuV tuN tuE at h
    rw [e] at h
    exact h
  have H1 := Lib.hid C1; have H2 := Lib.hid C2; have H3 := Lib.hid C3; have H4 := Lib.hid C4
  have HT := Lib.hid hT
  have HL := Lib.hid hn
  have hTs' : T.size ≤ 1048586 := by omega
  generalize hL : (put k).length = L at H3 H4 hp1
  generalize hL2 : (put (k / 2)).length = L2 at hp2
  have HL1 := Lib.hid hL; have HL2 := Lib.hid hL2
  clear C1 C2 C3 C4 hT hTl hTs hr hn hnil hL hL2 ht1 ht2
  go_enter Try.func8, Try.ntmps8
  go_wp2_with (first
    | (go_at_call_of 12 (Value.int .u64 (k : Int)); go_must (refine H1.out.mono ?_; rintro e w1 ⟨g1, n1, c1, rfl, o1, b1⟩; have q1 := Lib.hid o1.len; have r1 : (m : Int) < n1 := (by have e1 := q1.out; rw [List.length_append] at e1; have := HL.out; have := HL1.out; omega)))
    | (go_at_call_of 13 (Value.string T); go_must (refine (H3.out _).mono ?_; rintro e w3 ⟨rfl, rfl⟩))
    | (go_at_call 13; go_must (refine (H4.out _).mono ?_; rintro e w3 ⟨rfl, rfl⟩))
    | (go_at_call 9; go_must (refine (awake_any _).mono ?_; rintro e w5 ⟨rfl, b5⟩))
    | (go_at_call 12; go_must (refine (H2.out _ _ b1 (by omega)).mono ?_; rintro e w2 ⟨g2, n2, c2, rfl, o2, b2⟩; have q2 := Lib.hid o2.len; have r2 : (m : Int) < n2 := (by have e1 := q2.out; rw [List.length_append] at e1; have := HL.out; have := HL2.out; omega); have hk1 := conv_rd o1.rd n1 c1 q1.out.symm w2 (fun p hp => b2.cell hp); have hk2 := fun v => conv_rd o1.rd n1 c1 q1.out.symm (w2.setCell ⟨g2, m, none⟩ v) (fun p hp => (World.cell?_setCell_other _ _ _ _ (fun e => by subst e; exact absurd hp (Nat.not_lt.2 o2.lt.1))).trans (b2.cell hp)); rw [HT.out] at hk1 hk2; obtain ⟨u, hu⟩ := o2.cell m (by omega); have hf := o2.mark m)))
  go_returns
  have hb2 := b1.trans (b2.mono b1.size)
  exact ⟨rfl, (hb2.setCell (p := ⟨g2, m, none⟩) (Nat.le_trans b1.size o2.lt.1) _).trans (b5.mono (by rw [World.size_setCell]; exact hb2.size))⟩

end Go.Proofs.Ytnbdbeiakmmkaaa
