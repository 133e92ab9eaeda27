/-
  The specification's takeEntry.
  The program's fields: nothing.
  The program's fields: exactly's function value (its captured n lies in a box).
  The program's fields: number's function value (the captured limit and the captured pointer lie in boxes).
  Stored captures, plain mathematics: the table of a head, the whole head, the blocks.
  The program's fields: rest's, text's and four's function values.
  The program's fields: text's and four's function values.
  The program's fields: four's function value.
  reader's function value: it calls the fields that it is handed, one after the other.
  The program's fields, made and called: what each of them leads to.
-/
import Derived.Test.YtillcmddbjhepaaGreatDoorZ23
import Derived.Test.YtillcmddbjhepaaGreatDoorZ18
import Derived.Test.YtillcmddbjhepaaGreatDoorZ06
import Derived.RegionTactic
import Derived.ChangeAlike
import Derived.Deep.RegionHeld3
import Derived.StillTailTactics
namespace Go.Proofs.YtillcmddbjhepaaGreatDoor
open Go Go.RowKit Go.Joins
set_option linter.unusedVariables false
set_option linter.unusedSimpArgs false

/-- An entry of the head: first, size, sum; where it ends; its error. -/
def rE (l : List UInt8) (a : Nat) : (Nat × Nat × Nat) × Nat × Nat :=
  if (rN l a 1099511627776).2.2 ≠ 0 then ((0, 0, 0), 0, (rN l a 1099511627776).2.2)
  else if (rN l (rN l a 1099511627776).2.1 1048576).2.2 ≠ 0 then ((0, 0, 0), 0, (rN l (rN l a 1099511627776).2.1 1048576).2.2)
  else (((rN l a 1099511627776).1, (rN l (rN l a 1099511627776).2.1 1048576).1, (rF l (rN l (rN l a 1099511627776).2.1 1048576).2.1).1), (rF l (rN l (rN l a 1099511627776).2.1 1048576).2.1).2)
def enV (p : Nat × Nat × Nat) : Value := .agg #[.int .i64 p.1, .int .i64 p.2.1, .int .i64 p.2.2]
def rEV (p : (Nat × Nat × Nat) × Nat × Nat) : Value := .tuple #[enV p.1, .int .i64 p.2.1, .int .i64 p.2.2]
theorem rEV_of {p : (Nat × Nat × Nat) × Nat × Nat} {f n s y z : Nat} (h : p = ((f, n, s), y, z)) : Ending.returned (.tuple #[.agg #[.int .i64 (f : Int), .int .i64 (n : Int), .int .i64 (s : Int)], .int .i64 (y : Int), .int .i64 (z : Int)]) = .returned (rEV p) := by subst h; rfl
theorem rN_next (l : List UInt8) (a m : Nat) (ha : a ≤ l.length) : (rN l a m).2.1 ≤ l.length := by
  have h := Sb.tu_bounds l a
  unfold rN
  split
  · exact Nat.zero_le _
  · split
    · exact Nat.zero_le _
    · first | exact h.2.1 | exact h.2 | exact h.1 | (show Sb.tuN l a ≤ l.length; omega)

theorem new3 {w w1 : World} {x y z : Value} {t : TypeId} (hb : Below (w.alloc (.cells #[x, y, z] t)).heap.size (w.alloc (.cells #[x, y, z] t)) w1) :
    w1.cell? ⟨w.heap.size, 0, none⟩ = some x ∧ w1.cell? ⟨w.heap.size, 1, none⟩ = some y ∧ w1.cell? ⟨w.heap.size, 2, none⟩ = some z ∧ w1.frozen? ⟨w.heap.size, 0, none⟩ = false ∧ w1.frozen? ⟨w.heap.size, 1, none⟩ = false ∧ w1.frozen? ⟨w.heap.size, 2, none⟩ = false ∧ w.heap.size < w1.heap.size ∧ Below w.heap.size w w1 := by
  have hl : w.heap.size < (w.alloc (.cells #[x, y, z] t)).heap.size := by rw [World.size_alloc]; omega
  refine ⟨?_, ?_, ?_, ?_, ?_, ?_, Nat.lt_of_lt_of_le hl hb.size, ((Below.refl w.heap.size w).alloc (Nat.le_refl _) _).trans (hb.mono (Nat.le_of_lt hl))⟩
  · rw [hb.cell (p := ⟨w.heap.size, 0, none⟩) hl, World.cell?_alloc_at _ _ _ _ rfl]; rfl
  · rw [hb.cell (p := ⟨w.heap.size, 1, none⟩) hl, World.cell?_alloc_at _ _ _ _ rfl]; rfl
  · rw [hb.cell (p := ⟨w.heap.size, 2, none⟩) hl, World.cell?_alloc_at _ _ _ _ rfl]; rfl
  · rw [hb.frozen (p := ⟨w.heap.size, 0, none⟩) hl, World.frozen?_alloc_at _ _ _ _ rfl]
  · rw [hb.frozen (p := ⟨w.heap.size, 1, none⟩) hl, World.frozen?_alloc_at _ _ _ _ rfl]
  · rw [hb.frozen (p := ⟨w.heap.size, 2, none⟩) hl, World.frozen?_alloc_at _ _ _ _ rfl]
theorem keep3 {w w1 w2 : World} {x y z : Value}
    (h : w1.cell? ⟨w.heap.size, 0, none⟩ = some x ∧ w1.cell? ⟨w.heap.size, 1, none⟩ = some y ∧ w1.cell? ⟨w.heap.size, 2, none⟩ = some z ∧ w1.frozen? ⟨w.heap.size, 0, none⟩ = false ∧ w1.frozen? ⟨w.heap.size, 1, none⟩ = false ∧ w1.frozen? ⟨w.heap.size, 2, none⟩ = false ∧ w.heap.size < w1.heap.size ∧ Below w.heap.size w w1) (hb : Below w1.heap.size w1 w2) :
    w2.cell? ⟨w.heap.size, 0, none⟩ = some x ∧ w2.cell? ⟨w.heap.size, 1, none⟩ = some y ∧ w2.cell? ⟨w.heap.size, 2, none⟩ = some z ∧ w2.frozen? ⟨w.heap.size, 0, none⟩ = false ∧ w2.frozen? ⟨w.heap.size, 1, none⟩ = false ∧ w2.frozen? ⟨w.heap.size, 2, none⟩ = false ∧ w.heap.size < w2.heap.size ∧ Below w.heap.size w w2 := by
  obtain ⟨c0, c1, c2, f0, f1, f2, hl, b⟩ := h
  exact ⟨(hb.cell (p := ⟨w.heap.size, 0, none⟩) hl).trans c0, (hb.cell (p := ⟨w.heap.size, 1, none⟩) hl).trans c1, (hb.cell (p := ⟨w.heap.size, 2, none⟩) hl).trans c2, (hb.frozen (p := ⟨w.heap.size, 0, none⟩) hl).trans f0, (hb.frozen (p := ⟨w.heap.size, 1, none⟩) hl).trans f1, (hb.frozen (p := ⟨w.heap.size, 2, none⟩) hl).trans f2, Nat.lt_of_lt_of_le hl hb.size, b.trans (hb.mono (Nat.le_of_lt hl))⟩

theorem set3 {w1 : World} {b : Nat} {x y z : Value} (c0 : w1.cell? ⟨b, 0, none⟩ = some x) (c1 : w1.cell? ⟨b, 1, none⟩ = some y) (c2 : w1.cell? ⟨b, 2, none⟩ = some z) :
    (∀ u, (w1.setCell ⟨b, 0, none⟩ u).cell? ⟨b, 0, none⟩ = some u) ∧ (∀ u v, ((w1.setCell ⟨b, 0, none⟩ u).setCell ⟨b, 1, none⟩ v).cell? ⟨b, 1, none⟩ = some v) ∧ (∀ u v t, (((w1.setCell ⟨b, 0, none⟩ u).setCell ⟨b, 1, none⟩ v).setCell ⟨b, 2, none⟩ t).cell? ⟨b, 2, none⟩ = some t) :=
  ⟨fun u => World.cell?_setCell_same _ _ _ c0, fun u v => World.cell?_setCell_same _ _ _ (by rw [World.cell?_setCell_other _ _ _ _ (by simp)]; exact c1), fun u v t => World.cell?_setCell_same _ _ _ (by rw [World.cell?_setCell_other _ _ _ _ (by simp), World.cell?_setCell_other _ _ _ _ (by simp)]; exact c2)⟩

theorem post3 {w w1 : World} (h : Below w.heap.size w w1) (x y z : Value) : Below w.heap.size w (((w1.setCell ⟨w.heap.size, 0, none⟩ x).setCell ⟨w.heap.size, 1, none⟩ y).setCell ⟨w.heap.size, 2, none⟩ z) :=
  Below.setCell (p := ⟨w.heap.size, 2, none⟩) (Below.setCell (p := ⟨w.heap.size, 1, none⟩) (Below.setCell (p := ⟨w.heap.size, 0, none⟩) h (Nat.le_refl _) x) (Nat.le_refl _) y) (Nat.le_refl _) z

set_option maxRecDepth 20000 in
set_option maxHeartbeats 2000000 in
theorem rtakeEntry_any (s : ByteArray) (a : Nat) (w : World) (hs : s.size ≤ 9223372036854775807) (ha : a ≤ s.size) :
    Calls Tryz.prog 85 #[.string s, .int .i64 a] w fun e w' => e = .returned (rEV (rE s.data.toList a)) ∧ Below w.heap.size w w' := by
  have hsl := size_len s
  have hq1 := rN_next s.data.toList a 1099511627776 (by omega)
  have CT1 : Hid (∀ w : World, Calls Tryz.prog 76 #[.string s, .int .i64 a, .int .i64 1099511627776] w fun e w' => e = .returned (r3 (rN s.data.toList a 1099511627776)) ∧ Below w.heap.size w w') := Lib.hid (fun w => rtakeNumber_any s a 1099511627776 w hs (by decide))
  have CT2 : Hid (∀ w : World, Calls Tryz.prog 76 #[.string s, .int .i64 (rN s.data.toList a 1099511627776).2.1, .int .i64 1048576] w fun e w' => e = .returned (r3 (rN s.data.toList (rN s.data.toList a 1099511627776).2.1 1048576)) ∧ Below w.heap.size w w') := Lib.hid (fun w => rtakeNumber_any s (rN s.data.toList a 1099511627776).2.1 1048576 w hs (by decide))
  have hq2 := rN_next s.data.toList (rN s.data.toList a 1099511627776).2.1 1048576 hq1
  have CT3 := Lib.hid (fun w => rtakeFour_any s (rN s.data.toList (rN s.data.toList a 1099511627776).2.1 1048576).2.1 w hs (by omega))
  obtain ⟨q, hq⟩ : ∃ q, rE s.data.toList a = q := ⟨_, rfl⟩
  rw [hq]
  unfold rE at hq
  generalize rF s.data.toList (rN s.data.toList (rN s.data.toList a 1099511627776).2.1 1048576).2.1 = p3 at *
  generalize rN s.data.toList (rN s.data.toList a 1099511627776).2.1 1048576 = p2 at *
  generalize rN s.data.toList a 1099511627776 = p1 at *
  obtain ⟨x1, y1, z1⟩ := p1
  obtain ⟨x2, y2, z2⟩ := p2
  obtain ⟨x3, y3, z3⟩ := p3
  have CA : Hid (∀ w : World, Calls Tryz.prog 76 #[.string s, .int .i64 a, .int .i64 1099511627776] w fun e w' => e = .returned (.tuple #[.int .i64 (x1 : Int), .int .i64 (y1 : Int), .int .i64 (z1 : Int)]) ∧ Below w.heap.size w w') := CT1
  have CB : Hid (∀ w : World, Calls Tryz.prog 76 #[.string s, .int .i64 (y1 : Int), .int .i64 1048576] w fun e w' => e = .returned (.tuple #[.int .i64 (x2 : Int), .int .i64 (y2 : Int), .int .i64 (z2 : Int)]) ∧ Below w.heap.size w w') := CT2
  have CC : Hid (∀ w : World, Calls Tryz.prog 86 #[.string s, .int .i64 (y2 : Int)] w fun e w' => e = .returned (.tuple #[.int .i64 (x3 : Int), .int .i64 (y3 : Int), .int .i64 (z3 : Int)]) ∧ Below w.heap.size w w') := CT3
  clear CT1 CT2 CT3
  simp only [] at hq
  clear hq1 hq2 hsl
  have HQ := Lib.hid hq
  clear hq
  by_cases h1 : z1 = 0
  · by_cases h2 : z2 = 0
    · subst h1; subst h2
      have HP : Hid (q = ((x1, x2, x3), y3, z3)) := Lib.hid (by rw [← HQ.out]; rfl)
      clear HQ
      go_enter Tryz.func85, Tryz.ntmps85
      go_wp2_with (first
        | (go_at_call 76; go_must (first | (refine (CA.out _).mono ?_; rintro e w1 ⟨rfl, b1⟩; clear CA; have H1 := Lib.hid (new3 b1); clear b1; obtain ⟨c0, c1, c2, f0, f1, f2, l1, _⟩ := H1.out) | (refine (CB.out _).mono ?_; rintro e w2 ⟨rfl, b2⟩; clear CB; have H2 := Lib.hid (keep3 H1.out b2); clear b2 c0 c1 c2 f0 f1 f2 l1; obtain ⟨c0, c1, c2, f0, f1, f2, l1, _⟩ := H2.out)))
        | (go_at_call 86; go_must (refine (CC.out _).mono ?_; rintro e w3 ⟨rfl, b3⟩; clear CC; have H3 := Lib.hid (keep3 H2.out b3); clear b3 c0 c1 c2 f0 f1 f2 l1; obtain ⟨c0, c1, c2, f0, f1, f2, l1, _⟩ := H3.out))
        | fail)
      obtain ⟨e0, e1, e2⟩ := set3 c0 c1 c2
      refine bodyPost_ret (v := .tuple #[.agg #[.int .i64 (x1 : Int), .int .i64 (x2 : Int), .int .i64 (x3 : Int)], .int .i64 (y3 : Int), .int .i64 (z3 : Int)]) (by simp [results, Tryz.results85, go_sem, e0, e1, e2]) rfl ⟨rEV_of HP.out, post3 H3.out.2.2.2.2.2.2.2 _ _ _⟩
    · subst h1
      have h2' : ((z2 : Int) != 0) = true := by simp; omega
      have HP : Hid (q = ((0, 0, 0), 0, z2)) := Lib.hid (by rw [← HQ.out, if_neg (by simp), if_pos h2])
      clear HQ
      go_enter Tryz.func85, Tryz.ntmps85
      go_wp2_with (first
        | (go_at_call 76; go_must (first | (refine (CA.out _).mono ?_; rintro e w1 ⟨rfl, b1⟩; clear CA; have H1 := Lib.hid (new3 b1); clear b1; obtain ⟨c0, c1, c2, f0, f1, f2, l1, _⟩ := H1.out) | (refine (CB.out _).mono ?_; rintro e w2 ⟨rfl, b2⟩; clear CB; have H2 := Lib.hid (keep3 H1.out b2); clear b2 c0 c1 c2 f0 f1 f2 l1; obtain ⟨c0, c1, c2, f0, f1, f2, l1, _⟩ := H2.out)))
        | fail)
      obtain ⟨e0, e1, e2⟩ := set3 c0 c1 c2
      refine bodyPost_ret (v := .tuple #[.agg #[.int .i64 0, .int .i64 0, .int .i64 0], .int .i64 0, .int .i64 (z2 : Int)]) (by simp [results, Tryz.results85, go_sem, e0, e1, e2]) rfl ⟨rEV_of HP.out, post3 H2.out.2.2.2.2.2.2.2 _ _ _⟩
  · have h1' : ((z1 : Int) != 0) = true := by simp; omega
    have HP : Hid (q = ((0, 0, 0), 0, z1)) := Lib.hid (by rw [← HQ.out, if_pos h1])
    clear HQ
    go_enter Tryz.func85, Tryz.ntmps85
    go_wp2_with (first
      | (go_at_call 76; go_must (refine (CA.out _).mono ?_; rintro e w1 ⟨rfl, b1⟩; clear CA; have H1 := Lib.hid (new3 b1); clear b1; obtain ⟨c0, c1, c2, f0, f1, f2, l1, _⟩ := H1.out))
      | fail)
    obtain ⟨e0, e1, e2⟩ := set3 c0 c1 c2
    refine bodyPost_ret (v := .tuple #[.agg #[.int .i64 0, .int .i64 0, .int .i64 0], .int .i64 0, .int .i64 (z1 : Int)]) (by simp [results, Tryz.results85, go_sem, e0, e1, e2]) rfl ⟨rEV_of HP.out, post3 H1.out.2.2.2.2.2.2.2 _ _ _⟩

end Go.Proofs.YtillcmddbjhepaaGreatDoor

namespace Go.Proofs.YtillcmddbjhepaaGreatDoor
open Go Go.RowKit Go.Joins
set_option linter.unusedVariables false
set_option linter.unusedSimpArgs false

theorem nothing_any (s : ByteArray) (a : Nat) (w : World) (hs : s.size ≤ 9223372036854775807) (ha : a ≤ s.size) :
    Calls Tryz.prog 80 #[.string s, .int .i64 a] w fun e w' => e = .returned (if a < s.size then .tuple #[.int .i64 0, .int .i64 4] else .tuple #[.int .i64 a, .int .i64 0]) ∧ Below w.heap.size w w' := by
  by_cases h : a < s.size
  · have h1 : (a : Int) < s.size := by omega
    rw [if_pos h]
    go_enter Tryz.func80, Tryz.ntmps80
    go_wp2
    go_returns
    exact ⟨rfl, Below.refl _ _⟩
  · have h1 : ¬ (a : Int) < s.size := by omega
    rw [if_neg h]
    go_enter Tryz.func80, Tryz.ntmps80
    go_wp2
    go_returns
    exact ⟨rfl, Below.refl _ _⟩

end Go.Proofs.YtillcmddbjhepaaGreatDoor

namespace Go.Proofs.YtillcmddbjhepaaGreatDoor
open Go Go.RowKit Go.Joins
set_option linter.unusedVariables false
set_option linter.unusedSimpArgs false

/-- The number n alone: where it ends, its error. -/
def rX (l : List UInt8) (a n : Nat) : Nat × Nat := (Sb.tuN l a, if Sb.tuE l a = 0 then (if Sb.tuV l a = n then 0 else 12) else Sb.tuE l a)

set_option maxRecDepth 20000 in
set_option maxHeartbeats 2000000 in
theorem exactly1_any (s : ByteArray) (a n g : Nat) (w : World) (hs : s.size ≤ 9223372036854775807) (hn : n ≤ 9223372036854775807) (hg : w.cell? ⟨g, 0, none⟩ = some (.int .i64 n)) :
    Calls Tryz.prog 117 #[.string s, .int .i64 a, .pointer (some ⟨g, 0, none⟩)] w fun e w' => e = .returned (.tuple #[.int .i64 (rX s.data.toList a n).1, .int .i64 (rX s.data.toList a n).2]) ∧ Below w.heap.size w w' := by
  have CT := Lib.hid (Sb.taku_any s a w hs)
  have hb := Sb.tu_bounds s.data.toList a
  unfold Sb.tuVal at CT
  unfold rX
  generalize Sb.tuV s.data.toList a = V at *
  generalize Sb.tuN s.data.toList a = M at *
  generalize Sb.tuE s.data.toList a = E at *
  have hu : IntKind.u64.wrap (n : Int) = n := IntWalk.u64_in (n : Int) (by omega)
  by_cases h0 : E = 0
  · subst h0
    by_cases h1 : V = n
    · have h1' : ((V : Int) != (n : Int)) = false := by simp; omega
      rw [if_pos rfl, if_pos h1]
      go_enter Tryz.func117, Tryz.ntmps117
      go_wp2_with (first
        | (go_at_call 102; go_must (refine CT.out.mono ?_; rintro e w1 ⟨rfl, rfl⟩))
        | fail)
      go_returns
      exact ⟨rfl, Below.refl _ _⟩
    · have h1' : ((V : Int) != (n : Int)) = true := by simp; omega
      rw [if_pos rfl, if_neg h1]
      go_enter Tryz.func117, Tryz.ntmps117
      go_wp2_with (first
        | (go_at_call 102; go_must (refine CT.out.mono ?_; rintro e w1 ⟨rfl, rfl⟩))
        | fail)
      go_returns
      exact ⟨rfl, Below.refl _ _⟩
  · have h0' : ((E : Int) == 0) = false := by simp; omega
    rw [if_neg h0]
    go_enter Tryz.func117, Tryz.ntmps117
    go_wp2_with (first
        | (go_at_call 102; go_must (refine CT.out.mono ?_; rintro e w1 ⟨rfl, rfl⟩))
        | fail)
    go_returns
    exact ⟨rfl, Below.refl _ _⟩

end Go.Proofs.YtillcmddbjhepaaGreatDoor

namespace Go.Proofs.YtillcmddbjhepaaGreatDoor
open Go Go.RowKit Go.Joins
set_option linter.unusedVariables false
set_option linter.unusedSimpArgs false

/-- A number of at most m, as the program's field reads it: where it ends, its error. -/
def rM (l : List UInt8) (a m : Nat) : Nat × Nat := (Sb.tuN l a, if Sb.tuE l a = 0 then (if m < Sb.tuV l a then 6 else 0) else Sb.tuE l a)

set_option maxRecDepth 20000 in
set_option maxHeartbeats 2000000 in
theorem number1_any (s : ByteArray) (a m g h x : Nat) (o : Nat) (old : Value) (w : World) (hs : s.size ≤ 9223372036854775807) (hm : m ≤ 9223372036854775807) (hg : w.cell? ⟨g, 0, none⟩ = some (.int .i64 m)) (hh : w.cell? ⟨h, 0, none⟩ = some (.pointer (some ⟨x, o, none⟩))) (hx : w.cell? ⟨x, o, none⟩ = some old) (hf : w.frozen? ⟨x, o, none⟩ = false) :
    Calls Tryz.prog 101 #[.string s, .int .i64 a, .pointer (some ⟨g, 0, none⟩), .pointer (some ⟨h, 0, none⟩)] w fun e w' => e = .returned (.tuple #[.int .i64 (rM s.data.toList a m).1, .int .i64 (rM s.data.toList a m).2]) ∧ w' = w.setCell ⟨x, o, none⟩ (.int .i64 (IntKind.i64.wrap (Sb.tuV s.data.toList a : Int))) := by
  have CT := Lib.hid (Sb.taku_any s a w hs)
  have hb := Sb.tu_bounds s.data.toList a
  unfold Sb.tuVal at CT
  unfold rM
  generalize Sb.tuV s.data.toList a = V at *
  generalize Sb.tuN s.data.toList a = M at *
  generalize Sb.tuE s.data.toList a = E at *
  have hu : IntKind.u64.wrap (m : Int) = m := IntWalk.u64_in (m : Int) (by omega)
  obtain ⟨U, hU⟩ : ∃ U, IntKind.i64.wrap (V : Int) = U := ⟨_, rfl⟩
  by_cases h0 : E = 0
  · subst h0
    by_cases h1 : m < V
    · have h1' : (m : Int) < (V : Int) := by omega
      rw [if_pos rfl, if_pos h1]
      go_enter Tryz.func101, Tryz.ntmps101
      go_wp2_with (first
        | (go_at_call 102; go_must (refine CT.out.mono ?_; rintro e w1 ⟨rfl, rfl⟩))
        | fail)
      go_returns
      exact ⟨rfl, by rw [hU]⟩
    · have h1' : ¬ (m : Int) < (V : Int) := by omega
      rw [if_pos rfl, if_neg h1]
      go_enter Tryz.func101, Tryz.ntmps101
      go_wp2_with (first
        | (go_at_call 102; go_must (refine CT.out.mono ?_; rintro e w1 ⟨rfl, rfl⟩))
        | fail)
      go_returns
      exact ⟨rfl, by rw [hU]⟩
  · have h0' : ((E : Int) == 0) = false := by simp; omega
    rw [if_neg h0]
    go_enter Tryz.func101, Tryz.ntmps101
    go_wp2_with (first
        | (go_at_call 102; go_must (refine CT.out.mono ?_; rintro e w1 ⟨rfl, rfl⟩))
        | fail)
    go_returns
    exact ⟨rfl, by rw [hU]⟩

end Go.Proofs.YtillcmddbjhepaaGreatDoor

namespace Go.Proofs.YtillcmddbjhepaaGreatDoor
set_option linter.unusedSimpArgs false
open Go
set_option linter.unusedVariables false

abbrev En : Type := Nat × Nat × Nat
def tEn (l : List UInt8) : Nat → Nat → List En × Nat × Nat
  | 0, a => ([], a, 0)
  | k + 1, a => if (rE l a).2.2 = 0 then cL (rE l a).1 (tEn l k (rE l a).2.1) else ([], 0, (rE l a).2.2)
theorem tEn_ok {l : List UInt8} {k a : Nat} (h : (rE l a).2.2 = 0) : tEn l (k + 1) a = cL (rE l a).1 (tEn l k (rE l a).2.1) := by rw [tEn, if_pos h]
theorem tEn_no {l : List UInt8} {k a : Nat} (h : ¬ (rE l a).2.2 = 0) : tEn l (k + 1) a = ([], 0, (rE l a).2.2) := by rw [tEn, if_neg h]
theorem tEn_bad (l : List UInt8) (k a : Nat) : (tEn l k a).2.2 ≠ 0 → tEn l k a = ([], 0, (tEn l k a).2.2) := by
  rcases k with _ | k
  · intro h; exact absurd rfl h
  · rw [tEn]
    by_cases h0 : (rE l a).2.2 = 0
    · rw [if_pos h0]; exact cL_bad _ _
    · rw [if_neg h0]; intro _; rfl
theorem rN_le (l : List UInt8) (a m : Nat) : (rN l a m).1 ≤ m ∧ (rN l a m).2.2 ≤ 6 := by
  unfold rN
  have h := Sb.tu_bounds l a
  by_cases h1 : Sb.tuE l a = 0
  · rw [if_neg (by omega)]
    by_cases h2 : m < Sb.tuV l a
    · rw [if_pos h2]; exact ⟨Nat.zero_le _, by decide⟩
    · rw [if_neg h2]; exact ⟨by show Sb.tuV l a ≤ m; omega, by show 0 ≤ 6; omega⟩
  · rw [if_pos h1]; exact ⟨Nat.zero_le _, by show Sb.tuE l a ≤ 6; omega⟩
theorem f4_lt (l : List UInt8) (a : Nat) : f4 l a < 4294967296 := by
  unfold f4
  have h0 := (l.getD a 0).toNat_lt
  have h1 := (l.getD (a + 1) 0).toNat_lt
  have h2 := (l.getD (a + 2) 0).toNat_lt
  have h3 := (l.getD (a + 3) 0).toNat_lt
  omega
theorem rE_ok {l : List UInt8} {a : Nat} (h : (rE l a).2.2 = 0) : (rN l a 1099511627776).2.2 = 0 ∧ (rN l (rN l a 1099511627776).2.1 1048576).2.2 = 0 ∧
    ¬ l.length < (rN l (rN l a 1099511627776).2.1 1048576).2.1 + 4 ∧ rE l a = (((rN l a 1099511627776).1, (rN l (rN l a 1099511627776).2.1 1048576).1, f4 l (rN l (rN l a 1099511627776).2.1 1048576).2.1), (rN l (rN l a 1099511627776).2.1 1048576).2.1 + 4, 0) := by
  unfold rE at h ⊢
  by_cases h1 : (rN l a 1099511627776).2.2 = 0
  · rw [if_neg (by simpa using h1)] at h ⊢
    by_cases h2 : (rN l (rN l a 1099511627776).2.1 1048576).2.2 = 0
    · rw [if_neg (by simpa using h2)] at h ⊢
      unfold rF at h ⊢
      by_cases h3 : l.length < (rN l (rN l a 1099511627776).2.1 1048576).2.1 + 4
      · rw [if_pos h3] at h; exact absurd (show (5 : Nat) = 0 from h) (by decide)
      · rw [if_neg h3]; exact ⟨h1, h2, h3, rfl⟩
    · rw [if_pos h2] at h; exact absurd h h2
  · rw [if_pos h1] at h; exact absurd h h1
theorem rE_bd {l : List UInt8} {a : Nat} (h : (rE l a).2.2 = 0) : (rE l a).1.1 ≤ 1099511627776 ∧ (rE l a).1.2.1 ≤ 1048576 ∧ (rE l a).1.2.2 < 4294967296 ∧ (rE l a).2.1 ≤ l.length := by
  obtain ⟨_, _, h3, e⟩ := rE_ok h
  rw [e]
  refine ⟨(rN_le _ _ _).1, (rN_le _ _ _).1, f4_lt _ _, ?_⟩
  show (rN l (rN l a 1099511627776).2.1 1048576).2.1 + 4 ≤ l.length
  omega
def okE (x : En) : Prop := x.1 ≤ 1099511627776 ∧ x.2.1 ≤ 1048576 ∧ x.2.2 < 4294967296
theorem tEn_len {l : List UInt8} : ∀ {k a : Nat} {E : List En} {b : Nat}, tEn l k a = (E, b, 0) → E.length = k ∧ (∀ x ∈ E, okE x) ∧ (a ≤ l.length → b ≤ l.length)
  | 0, a, E, b, h => by
    rw [tEn] at h
    injection h with h1 h2; injection h2 with h2 h3
    subst h1 h2
    exact ⟨rfl, by simp, id⟩
  | k + 1, a, E, b, h => by
    by_cases h0 : (rE l a).2.2 = 0
    · rw [tEn_ok h0] at h
      obtain ⟨t, h1, rfl⟩ := cL_inv h
      obtain ⟨e1, e2, e3⟩ := tEn_len h1
      have hb := rE_bd h0
      refine ⟨by rw [List.length_cons, e1], fun x hx => ?_, fun _ => e3 hb.2.2.2⟩
      rcases List.mem_cons.1 hx with rfl | hx
      · exact ⟨hb.1, hb.2.1, hb.2.2.1⟩
      · exact e2 x hx
    · rw [tEn_no h0] at h
      injection h with h1 h2; injection h2 with h2 h3
      exact absurd h3 h0

/-- A head: names, runs, length, table, where the blocks begin; and the error. -/
abbrev Hd : Type := List ByteArray × Nat × Nat × List En × Nat
def noH : Hd := ([], 0, 0, [], 0)
def rH6 (l : List UInt8) (N : List ByteArray) (R T : Nat) (E : List En) (a : Nat) : Hd × Nat :=
  if l.length < a + 4 then (noH, 5) else if f4 l a = ck (l.take a) then ((N, R, T, E, a + 4), 0) else (noH, 12)
def rH5 (l : List UInt8) (N : List ByteArray) (R T a : Nat) : Hd × Nat :=
  if (tEn l (bkN R) a).2.2 = 0 then rH6 l N R T (tEn l (bkN R) a).1 (tEn l (bkN R) a).2.1 else (noH, (tEn l (bkN R) a).2.2)
def rH4 (l : List UInt8) (N : List ByteArray) (R T a : Nat) : Hd × Nat :=
  if Sb.tuE l a = 0 then (if Sb.tuV l a = bkN R then rH5 l N R T (Sb.tuN l a) else (noH, 12)) else (noH, Sb.tuE l a)
def rH3 (l : List UInt8) (N : List ByteArray) (R a : Nat) : Hd × Nat :=
  if (rN l a 1099511627776).2.2 = 0 then rH4 l N R (rN l a 1099511627776).1 (rN l a 1099511627776).2.1 else (noH, (rN l a 1099511627776).2.2)
def rH2 (l : List UInt8) (N : List ByteArray) (a : Nat) : Hd × Nat :=
  if (rN l a 262144).2.2 = 0 then rH3 l N (rN l a 262144).1 (rN l a 262144).2.1 else (noH, (rN l a 262144).2.2)
def rH1 (l : List UInt8) : Hd × Nat :=
  if (rNm l 3).2.2 = 0 then rH2 l (rNm l 3).1 (rNm l 3).2.1 else (noH, (rNm l 3).2.2)
/-- The fields of a head. -/
def rH (l : List UInt8) : Hd × Nat :=
  if l.length < 3 then (noH, 5) else if l.take 2 = [83, 66] then (if l.getD 2 0 = 1 then rH1 l else (noH, 18)) else (noH, 4)

/-- Where block k ends. -/
def eT (E : List En) (T k : Nat) : Nat := if h : k + 1 < E.length then E[k + 1].1 else T
/-- The blocks divide the capture. -/
def asc (E : List En) (T : Nat) : Prop := (if h : 0 < E.length then E[0].1 else T) = 0 ∧ ∀ k (hk : k < E.length), E[k].1 < eT E T k
instance (E : List En) (T : Nat) : Decidable (asc E T) := by
  unfold asc; exact inferInstance
def szE (E : List En) : Nat := (E.map (·.2.1)).sum
/-- A head, checked. -/
def rd (l : List UInt8) : Hd × Nat :=
  if (rH l).2 = 0 then
    (if asc (rH l).1.2.2.2.1 (rH l).1.2.2.1 then
      (if l.length - (rH l).1.2.2.2.2 < szE (rH l).1.2.2.2.1 then (noH, 5) else if szE (rH l).1.2.2.2.1 < l.length - (rH l).1.2.2.2.2 then (noH, 4) else rH l)
    else (noH, 12))
  else (noH, (rH l).2)

/-- Runs: n of them, of levels up to m. -/
def rB (s : List UInt8) (m : Nat) : Nat → Nat → Option (List Si.Rn × Nat)
  | 0, a => some ([], a)
  | n + 1, a =>
    if (rN s a m).2.2 = 0 ∧ (rN s (rN s a m).2.1 1099511627776).2.2 = 0 ∧ (rN s (rN s a m).2.1 1099511627776).1 ≠ 0 then
      (rB s m n (rN s (rN s a m).2.1 1099511627776).2.1).map fun r => ((((rN s a m).1 : Int), ((rN s (rN s a m).2.1 1099511627776).1 : Int)) :: r.1, r.2)
    else none
/-- The runs of a block: n of them, levels up to m, checksum c, d ticks. -/
def rBk (s : List UInt8) (m n c d : Nat) : Option (List Si.Rn) :=
  if ck s = c then (match rB s m n 0 with | none => none | some (L, a) => if a = s.length ∧ Si.lg L = d then some L else none) else none

end Go.Proofs.YtillcmddbjhepaaGreatDoor

namespace Go.Proofs.YtillcmddbjhepaaGreatDoor
open Go Go.RowKit Go.Joins
set_option linter.unusedVariables false
set_option linter.unusedSimpArgs false

set_option maxRecDepth 20000 in
set_option maxHeartbeats 1000000 in
theorem rest1_any (s : ByteArray) (a g x o : Nat) (T : TypeId) (cs : Array Value) (old : Value) (w : World) (hs : s.size ≤ 9223372036854775807) (ha : a ≤ s.size) (hg : w.cell? ⟨g, 0, none⟩ = some (.pointer (some ⟨x, o, none⟩))) (hx : RowAt w x T cs) (ho : cs[o]? = some old) :
    Calls Tryz.prog 105 #[.string s, .int .i64 a, .pointer (some ⟨g, 0, none⟩)] w fun e w' => e = .returned (.tuple #[.int .i64 s.size, .int .i64 0]) ∧ RowAt w' x T (cs.setIfInBounds o (.string (s.extract a s.size))) ∧ Kp [x] w w' := by
  have hai : (a : Int) ≤ s.size := by omega
  have h1 : w.drew.cell? ⟨x, o, none⟩ = some old := (hx.cell o).trans ho
  have h2 : w.drew.frozen? ⟨x, o, none⟩ = false := hx.frozen o
  have h3 : w.drew.cell? ⟨g, 0, none⟩ = some (.pointer (some ⟨x, o, none⟩)) := hg
  have h4 : (s.size : Int) ≤ 9223372036854775807 := by omega
  have HX := Lib.hid hx
  clear hx ho
  go_enter Tryz.func105, Tryz.ntmps105
  go_wp2
  go_region
  go_wp2
  go_returns
  exact ⟨rfl, HX.out.set o _, (Kp.setCell (p := ⟨x, o, none⟩) (Kp.refl [x] w) (.inl (by simp)) _).drew⟩

end Go.Proofs.YtillcmddbjhepaaGreatDoor

namespace Go.Proofs.YtillcmddbjhepaaGreatDoor
open Go Go.RowKit Go.Joins
set_option linter.unusedVariables false
set_option linter.unusedSimpArgs false

theorem pow_256 (k : Nat) : 256 ^ k = 2 ^ (8 * k) := by rw [show (256 : Nat) = 2 ^ 8 from rfl, ← Nat.pow_mul]
theorem or_byte {n k c : Nat} (hk : k ≤ 3) (hn : n < 256 ^ k) (hc : c < 256) : n ||| 256 ^ k * c = n + 256 ^ k * c := by
  rw [pow_256] at hn ⊢
  rw [Nat.or_comm, ← Nat.two_pow_add_eq_or_of_lt hn, Nat.add_comm]
def f4p (l : List UInt8) (a : Nat) : Nat → Nat
  | 0 => 0
  | k + 1 => f4p l a k + 256 ^ k * (l.getD (a + k) 0).toNat
theorem f4p_lt (l : List UInt8) (a : Nat) : ∀ k, f4p l a k < 256 ^ k
  | 0 => by simp [f4p]
  | k + 1 => by
    have h := f4p_lt l a k
    have h2 := Nat.mul_le_mul_left (256 ^ k) (show (l.getD (a + k) 0).toNat ≤ 255 by have := (l.getD (a + k) 0).toNat_lt; omega)
    rw [f4p, Nat.pow_succ]; omega
theorem f4p_four (l : List UInt8) (a : Nat) : f4p l a 4 = f4 l a := by
  unfold f4; simp only [f4p, Nat.add_zero]; omega

set_option maxRecDepth 20000 in
set_option maxHeartbeats 1000000 in
theorem text1_any (s : ByteArray) (a m g h x o : Nat) (T : TypeId) (cs : Array Value) (old : Value) (w : World) (hs : s.size ≤ 140737488351232) (hm : m ≤ 9223372036854775807) (hg : w.cell? ⟨g, 0, none⟩ = some (.int .i64 m)) (hgl : g < w.heap.size) (hh : w.cell? ⟨h, 0, none⟩ = some (.pointer (some ⟨x, o, none⟩))) (hhl : h < w.heap.size) (hx : RowAt w x T cs) (ho : cs[o]? = some old) :
    Calls Tryz.prog 115 #[.string s, .int .i64 a, .pointer (some ⟨g, 0, none⟩), .pointer (some ⟨h, 0, none⟩)] w fun e w' => e = .returned (.tuple #[.int .i64 (Sb.tcN s.data.toList a m + Sb.tcV s.data.toList a m : Nat), .int .i64 (Sb.tcE s.data.toList a m)]) ∧ RowAt w' x T (cs.setIfInBounds o (.string ⟨(Sb.ttS s.data.toList a m).toArray⟩)) ∧ Kp [x] w w' := by
  have CT := Lib.hid (fun w => Sb.takt_any s a m w hs (by omega) (by omega))
  unfold Sb.ttVal at CT
  generalize (⟨(Sb.ttS s.data.toList a m).toArray⟩ : ByteArray) = Z at *
  generalize (Sb.tcN s.data.toList a m + Sb.tcV s.data.toList a m : Nat) = M at *
  generalize Sb.tcE s.data.toList a m = E at *
  have HX := Lib.hid hx
  have h1 : w.drew.cell? ⟨x, o, none⟩ = some old := (hx.cell o).trans ho
  have h2 : w.drew.frozen? ⟨x, o, none⟩ = false := hx.frozen o
  have h3 : w.drew.cell? ⟨h, 0, none⟩ = some (.pointer (some ⟨x, o, none⟩)) := hh
  have h4 : w.drew.cell? ⟨g, 0, none⟩ = some (.int .i64 m) := hg
  have hxl := hx.lt
  have HS := Lib.hid (fun W (b : Below w.heap.size w.drew W) => show W.cell? ⟨h, 0, none⟩ = some (.pointer (some ⟨x, o, none⟩)) ∧ W.cell? ⟨g, 0, none⟩ = some (.int .i64 m) ∧ W.cell? ⟨x, o, none⟩ = some old ∧ W.frozen? ⟨x, o, none⟩ = false from ⟨(b.cell (p := ⟨h, 0, none⟩) hhl).trans h3, (b.cell (p := ⟨g, 0, none⟩) hgl).trans h4, (b.cell (p := ⟨x, o, none⟩) hxl).trans h1, (b.frozen (p := ⟨x, o, none⟩) hxl).trans h2⟩)
  clear hx ho
  go_enter Tryz.func115, Tryz.ntmps115
  go_wp2
  go_region_with (go_at_call 116; refine (CT.out _).mono ?_; rintro e w1 ⟨rfl, b1⟩; have B1 := Lib.hid b1; obtain ⟨q1, q2, q3, q4⟩ := HS.out w1 b1; clear b1)
  all_goals
    go_wp2
    go_returns
    refine ⟨rfl, ?_, ?_⟩
    · exact RowAt.set (RowAt.keep (w := w.drew) HX.out B1.out) o _
    · exact Kp.setCell (p := ⟨x, o, none⟩) (((Kp.refl [x] w).drew).then_below B1.out) (.inl (by simp)) _
end Go.Proofs.YtillcmddbjhepaaGreatDoor

namespace Go.Proofs.YtillcmddbjhepaaGreatDoor
open Go Go.RowKit Go.Joins
set_option linter.unusedVariables false
set_option linter.unusedSimpArgs false

theorem or_i64 (a b : Nat) (ha : a < 9223372036854775808) (hb : b < 9223372036854775808) : bits .or .i64 (a : Int) (b : Int) = ((a ||| b : Nat) : Int) := by
  have hx : a ||| b < 2 ^ 63 := Nat.or_lt_two_pow (by omega) (by omega)
  have h1 : (BitVec.ofInt 64 (a : Int)).toNat = a := by
    rw [BitVec.ofInt_natCast, BitVec.toNat_ofNat]; exact Nat.mod_eq_of_lt (by omega)
  have h2 : (BitVec.ofInt 64 (b : Int)).toNat = b := by
    rw [BitVec.ofInt_natCast, BitVec.toNat_ofNat]; exact Nat.mod_eq_of_lt (by omega)
  show IntKind.i64.wrap ((BitVec.ofInt 64 (a : Int) ||| BitVec.ofInt 64 (b : Int)).toNat : Int) = _
  rw [BitVec.toNat_or, h1, h2]
  exact IntWalk.i64_in _ (by omega)
theorem four_step {v c k : Nat} (hk : k ≤ 3) (hv : v < 256 ^ k) (hc : c < 256) : bits .or .i64 (v : Int) (IntKind.i64.wrap ((c : Int) * 2 ^ (8 * k))) = ((v + 256 ^ k * c : Nat) : Int) := by
  have hp : 256 ^ k ≤ 256 ^ 3 := Nat.pow_le_pow_right (by omega) hk
  have hm := Nat.mul_le_mul hp (show c ≤ 255 by omega)
  have e : (c : Int) * 2 ^ (8 * k) = ((256 ^ k * c : Nat) : Int) := by rw [pow_256, Int.natCast_mul, Int.natCast_pow, Int.mul_comm]; rfl
  rw [e, IntWalk.i64_in _ (by omega), or_i64 v _ (by omega) (by omega), or_byte hk hv hc]

/-- Four bytes, as the program's field reads them: where they end, the error. -/
def rF2 (l : List UInt8) (a : Nat) : Nat × Nat := if l.length < a + 4 then (0, 5) else (a + 4, 0)

set_option maxRecDepth 20000 in
set_option maxHeartbeats 1000000 in
theorem four1_any (s : ByteArray) (a g x o : Nat) (T : TypeId) (cs : Array Value) (old : Value) (w : World) (hs : s.size ≤ 140737488351232) (ha : a ≤ s.size) (hg : w.cell? ⟨g, 0, none⟩ = some (.pointer (some ⟨x, o, none⟩))) (hgl : g < w.heap.size) (hgx : g ≠ x) (hx : RowAt w x T cs) (ho : cs[o]? = some old) :
    Calls Tryz.prog 118 #[.string s, .int .i64 a, .pointer (some ⟨g, 0, none⟩)] w fun e w' => e = .returned (.tuple #[.int .i64 (rF2 s.data.toList a).1, .int .i64 (rF2 s.data.toList a).2]) ∧ (∃ u, RowAt w' x T (cs.setIfInBounds o u) ∧ ((rF2 s.data.toList a).2 = 0 → u = .int .i64 (f4 s.data.toList a))) ∧ Kp [x] w w' := by
  have hsl := size_len s
  have hoc : o < cs.size := (Array.getElem?_eq_some_iff.1 ho).1
  have h1 : w.cell? ⟨x, o, none⟩ = some old := (hx.cell o).trans ho
  have h2 : w.frozen? ⟨x, o, none⟩ = false := hx.frozen o
  by_cases h4 : s.size < a + 4
  · have HP := Lib.hid (show rF2 s.data.toList a = (0, 5) by unfold rF2; rw [if_pos (by omega)])
    have h4' : (s.size : Int) - (a : Int) < 4 := by omega
    have HX := Lib.hid hx
    have HS := Lib.hid (show cs.setIfInBounds o old = cs by
      obtain ⟨hlt, e⟩ := Array.getElem?_eq_some_iff.1 ho
      subst e
      apply Array.toList_inj.1; rw [Array.toList_setIfInBounds, ← Array.getElem_toList hlt]; exact List.set_getElem_self _)
    clear hsl hx ho hgx
    rw [HP.out]
    go_enter Tryz.func118, Tryz.ntmps118
    go_wp2
    go_returns
    exact ⟨rfl, ⟨old, by rw [HS.out]; exact HX.out, fun h => absurd h (by decide)⟩, Kp.refl _ _⟩
  · have HP := Lib.hid (show rF2 s.data.toList a = (a + 4, 0) by unfold rF2; rw [if_neg (by omega)])
    have h4' : ¬ (s.size : Int) - (a : Int) < 4 := by omega
    have hai : (a : Int) + 4 ≤ s.size := by omega
    have hai2 : (a : Int) + 4 ≤ 9223372036854775807 := by omega
    have HXL := Lib.hid hx.lt
    have HG := Lib.hid hgl
    have HNE := Lib.hid hgx
    have HX0 := Lib.hid (hx.set o (.int .i64 0))
    have HK0 := Lib.hid (Kp.setCell (p := ⟨x, o, none⟩) (Kp.refl [x] w) (.inl (by simp)) (.int .i64 0))
    have HCG := Lib.hid hg
    have HL4 := Lib.hid (f4p_four s.data.toList a)
    have HOC := Lib.hid hoc
    clear hsl hx ho hgx hgl hoc
    rw [HP.out]
    go_enter Tryz.func118, Tryz.ntmps118
    go_wp2
    go_loopw [15] (fun i wr => ∃ k v : Nat, k ≤ 4 ∧ i = .int .i64 k ∧ Hid (v = f4p s.data.toList a k) ∧ Hid (RowAt wr x T (cs.setIfInBounds o (.int .i64 v))) ∧ Hid (Kp [x] w wr)) (fun i _ => 4 - (intOf i).toNat)
    case atStart => exact ⟨0, 0, by omega, rfl, Lib.hid rfl, HX0, HK0⟩
    case round =>
      obtain ⟨k, v, hk, rfl, HV, HR, HK⟩ := hrel
      by_cases hkl : k < 4
      · have hv : v < 256 ^ k := by rw [HV.out]; exact f4p_lt _ _ _
        obtain ⟨ak, hak⟩ : ∃ ak : Nat, a + k = ak := ⟨_, rfl⟩
        have hn : ak < s.size := by omega
        have hki : (ak : Int) < s.size := by omega
        have hkj : (a : Int) + (k : Int) = (ak : Int) := by omega
        have hc := s[ak].toNat_lt
        have HV2 := Lib.hid (show v + 256 ^ k * s[ak].toNat = f4p s.data.toList a (k + 1) by
          rw [f4p, HV.out, hak, List.getD_eq_getElem?_getD, List.getElem?_eq_getElem (by rw [← size_len]; exact hn)]; rfl)
        have hb := four_step (by omega) hv hc
        have e1 : wr.drew.cell? ⟨x, o, none⟩ = some (.int .i64 v) := by
          refine (HR.out.cell o).trans ?_
          rw [Array.getElem?_setIfInBounds, if_pos rfl, if_pos HOC.out]
        have e2 : wr.drew.frozen? ⟨x, o, none⟩ = false := HR.out.frozen o
        have e3 : wr.drew.cell? ⟨g, 0, none⟩ = some (.pointer (some ⟨x, o, none⟩)) := (HK.out.cell (p := ⟨g, 0, none⟩) HG.out (by simpa using HNE.out)).trans HCG.out
        obtain ⟨xk, hxk⟩ : ∃ xk, s[ak].toNat = xk := ⟨_, rfl⟩
        rw [hxk] at HV2 hb hc
        have hxw : IntKind.i64.wrap (xk : Int) = xk := IntWalk.i64_in _ (by omega)
        have HB := Lib.hid hb
        clear hb hak hv
        skip
        clear h4 h4' hai hai2
        go_wp2
        go_region
        go_wp2
        have hz : bits .or .i64 (v : Int) (wrap64 ((xk : Int) * 2 ^ (k * 8))) = ((v + 256 ^ k * xk : Nat) : Int) := by rw [Nat.mul_comm k 8]; exact (congrArg (bits .or .i64 (v : Int)) (IntWalk.i64_left _).symm).trans HB.out
        rw [hz]
        have hs2 : (cs.setIfInBounds o (Value.int .i64 v)).setIfInBounds o (.int .i64 ((v + 256 ^ k * xk : Nat) : Int)) = cs.setIfInBounds o (.int .i64 ((v + 256 ^ k * xk : Nat) : Int)) := by
          apply Array.toList_inj.1; simp
        refine ⟨⟨k + 1, v + 256 ^ k * xk, by omega, val_int (by omega), HV2, Lib.hid ?_, Lib.hid ((Kp.setCell (p := ⟨x, o, none⟩) HK.out (.inl (by simp)) _).drew)⟩, ?_⟩
        · rw [← hs2]; exact RowAt.set HR.out o _
        · simp [intOf]; omega
      · have h4k : k = 4 := by omega
        subst h4k
        go_wp2
        go_returns
        exact ⟨rfl, ⟨.int .i64 v, HR.out, fun _ => by rw [HV.out, HL4.out]⟩, HK.out⟩
end Go.Proofs.YtillcmddbjhepaaGreatDoor

namespace Go.Proofs.YtillcmddbjhepaaGreatDoor
open Go Go.RowKit Go.Joins
set_option linter.unusedVariables false
set_option linter.unusedSimpArgs false

/-- A field's function value, called at a of s. -/
def FCall (F : Value) (s : ByteArray) (a : Nat) (w : World) (R : Nat → Nat → World → Prop) : Prop :=
  ∃ (f : Nat) (caps : Array Value), F = .func (.func f) #[] caps ∧ (∀ (xs : Array Value) (w : World), (callFunc f xs).run Tryz.prog w = .ok (.enter f xs) w) ∧
    Calls Tryz.prog f (#[.string s, .int .i64 a] ++ caps) w fun e w' => ∃ (n er : Nat), e = .returned (.tuple #[.int .i64 n, .int .i64 er]) ∧ R n er w'

theorem wpList_field {w : World} {ops : Array Oper} {rest : List Oper} {o : Oper} {a : Act} {Q : Exit → Act → World → Prop} (hgd : o.guard = none) (f x y : Operand) (ty : Array TypeId)
    (ho : o.op = .call { callee := .value f, args := #[x, y], argTypes := ty }) (s : ByteArray) (at_ : Nat) {F : Value} (hF : a.eval f = F) (hx : a.eval x = .string s) (hy : a.eval y = .int .i64 at_) {R : Nat → Nat → World → Prop} (hC : FCall F s at_ w R)
    (h : ∀ (n er : Nat) w', R n er w' → wpList Tryz.prog ops Q rest (a.put o.dst (.tuple #[.int .i64 n, .int .i64 er])) w') : wpList Tryz.prog ops Q (o :: rest) a w := by
  refine wpList_plain hgd fun K hK => ?_
  obtain ⟨g, caps, rfl, he, hc⟩ := hC
  unfold Oper.wp execOp
  simp only [ho, resolve, Deferred.ofValue, Sem.run_bind, Sem.run_pure, Result.andThen_ok, List.map_toArray, List.map_cons, List.map_nil, hF, hx, hy, invoke, he]
  refine hc.mono ?_
  rintro e w' ⟨n, er, rfl, hR⟩
  exact hK _ _ (h n er w' hR)

/-- What reader's function value reads: the string, the place, the fields. -/
def RdOk (s : ByteArray) (gs ga g : Nat) (fs0 : Array Value) (a : Nat) (w : World) : Prop := RowAt w gs 9 #[.string s] ∧ RowAt w ga 3 #[.int .i64 a] ∧ RowAt w g 106 fs0
/-- What the fields, from a on, lead to. -/
def wpF (s : ByteArray) (gs ga g : Nat) (fs0 : Array Value) : List Value → Nat → World → (Nat → Nat → World → Prop) → Prop
  | [], a, w, Q => Q 0 a w
  | F :: fs, a, w, Q => FCall F s a w fun n er w' => RdOk s gs ga g fs0 a w' ∧ (er = 0 → wpF s gs ga g fs0 fs n (w'.setCell ⟨ga, 0, none⟩ (.int .i64 n)) Q) ∧ (er ≠ 0 → Q er a w')
theorem RdOk.step {s : ByteArray} {gs ga g : Nat} {fs0 : Array Value} {a : Nat} {w : World} (h : RdOk s gs ga g fs0 a w) (h1 : gs ≠ ga) (h2 : g ≠ ga) (n : Nat) : RdOk s gs ga g fs0 n (w.setCell ⟨ga, 0, none⟩ (.int .i64 n)) :=
  ⟨h.1.other _ _ (fun e => h1 e.symm), h.2.1.set1 _, h.2.2.other _ _ (fun e => h2 e.symm)⟩
def QF (Q : Nat → Nat → World → Prop) (e : Ending) (w' : World) : Prop := ∃ er a' : Nat, e = .returned (.int .i64 er) ∧ Q er a' w'

set_option maxRecDepth 20000 in
set_option maxHeartbeats 1000000 in
theorem reader1_any (s : ByteArray) (gs ga g : Nat) (fs : List Value) (a : Nat) (w : World) (Q : Nat → Nat → World → Prop) (h1 : gs ≠ ga) (h2 : g ≠ ga)
    (hr : RdOk s gs ga g fs.toArray a w) (hq : wpF s gs ga g fs.toArray fs a w Q) (hl : fs.length ≤ 100) :
    Calls Tryz.prog 99 #[.slice (some ⟨g, 0, none⟩) fs.length fs.length, .pointer (some ⟨gs, 0, none⟩), .pointer (some ⟨ga, 0, none⟩)] w (QF Q) := by
  have HR := Lib.hid hr
  have HQ := Lib.hid hq
  have H1 := Lib.hid h1
  have H2 := Lib.hid h2
  clear hr hq h1 h2
  go_enter Tryz.func99, Tryz.ntmps99
  go_wp2
  go_loopw [11] (fun i wr => ∃ k a : Nat, k ≤ fs.length ∧ i = .int .i64 k ∧ Hid (RdOk s gs ga g fs.toArray a wr) ∧ Hid (wpF s gs ga g fs.toArray (fs.drop k) a wr Q)) (fun i _ => fs.length - (intOf i).toNat)
  case atStart => exact ⟨0, a, Nat.zero_le _, rfl, HR, HQ⟩
  case round =>
    clear HR HQ
    obtain ⟨k, a, hk, rfl, HR, HQ⟩ := hrel
    by_cases hkl : k < fs.length
    · obtain ⟨F, hF⟩ : ∃ F, fs[k] = F := ⟨_, rfl⟩
      have HQ2 := HQ.out
      rw [List.drop_eq_getElem_cons hkl, hF] at HQ2
      have HC := Lib.hid HQ2
      have c0 : wr.cell? ⟨g, k, none⟩ = some F := by
        rw [HR.out.2.2.cell k]; simp [hkl, hF]
      have c1 := HR.out.1.get1
      have c2 := HR.out.2.1.get1
      have hki : (k : Int) < fs.length := by omega
      clear HQ HQ2 hF
      go_wp2_with (refine wpList_field (R := fun n er w' => RdOk s gs ga g fs.toArray a w' ∧ (er = 0 → wpF s gs ga g fs.toArray (fs.drop (k + 1)) n (w'.setCell ⟨ga, 0, none⟩ (.int .i64 n)) Q) ∧ (er ≠ 0 → Q er a w')) rfl (.tmp 16) (.tmp 17) (.tmp 18) _ rfl s a rfl rfl rfl HC.out ?_; rintro n er w1 ⟨r1, q1, q2⟩; have R1 := Lib.hid r1; have Q1 := Lib.hid q1; have Q2 := Lib.hid q2; have d1 : w1.cell? ⟨ga, 0, none⟩ = some (.int .i64 a) := r1.2.1.get1; have d2 : w1.frozen? ⟨ga, 0, none⟩ = false := r1.2.1.frozen 0; clear r1 q1 q2)
      · rename_i he
        have hn0 : er ≠ 0 := by intro e; subst e; simp at he
        go_wp2
        go_returns
        exact ⟨er, a, rfl, Q2.out hn0⟩
      · rename_i he
        have hn0 : er = 0 := by simpa using he
        go_roundw
        case rel => exact ⟨k + 1, n, by omega, by go_num, Lib.hid (R1.out.step H1.out H2.out n), Lib.hid (Q1.out hn0)⟩
        case measure => simp [intOf]; omega
    · have hke : k = fs.length := by omega
      subst hke
      have HQ2 := HQ.out
      rw [List.drop_length] at HQ2
      have HE := Lib.hid HQ2
      clear HQ HQ2
      go_wp2
      go_returns
      exact ⟨0, a, rfl, HE.out⟩

end Go.Proofs.YtillcmddbjhepaaGreatDoor

namespace Go.Proofs.YtillcmddbjhepaaGreatDoor
open Go Go.RowKit Go.Joins
set_option linter.unusedVariables false
set_option linter.unusedSimpArgs false

theorem FCall.mono {F : Value} {s : ByteArray} {a : Nat} {w : World} {R R' : Nat → Nat → World → Prop} (h : FCall F s a w R) (hi : ∀ n er w', R n er w' → R' n er w') : FCall F s a w R' := by
  obtain ⟨f, caps, e, h1, h2⟩ := h
  exact ⟨f, caps, e, h1, h2.mono fun e w' ⟨n, er, he, hr⟩ => ⟨n, er, he, hi _ _ _ hr⟩⟩

/-- A field that sets the cell o of block x to a number of at most m: its boxes lie from B on. -/
def NumF (B : Nat) (w : World) (F : Value) (x o m : Nat) : Prop := ∃ g h, B ≤ g ∧ B ≤ h ∧ F = .func (.func 101) #[] #[.pointer (some ⟨g, 0, none⟩), .pointer (some ⟨h, 0, none⟩)] ∧ RowAt w g 3 #[.int .i64 m] ∧ RowAt w h 108 #[.pointer (some ⟨x, o, none⟩)]
def TxtF (B : Nat) (w : World) (F : Value) (x o m : Nat) : Prop := ∃ g h, B ≤ g ∧ B ≤ h ∧ F = .func (.func 115) #[] #[.pointer (some ⟨g, 0, none⟩), .pointer (some ⟨h, 0, none⟩)] ∧ RowAt w g 3 #[.int .i64 m] ∧ RowAt w h 112 #[.pointer (some ⟨x, o, none⟩)]
def ExF (B : Nat) (w : World) (F : Value) (n : Nat) : Prop := ∃ g, B ≤ g ∧ F = .func (.func 117) #[] #[.pointer (some ⟨g, 0, none⟩)] ∧ RowAt w g 3 #[.int .i64 n]
def FourF (B : Nat) (w : World) (F : Value) (x o : Nat) : Prop := ∃ g, B ≤ g ∧ F = .func (.func 118) #[] #[.pointer (some ⟨g, 0, none⟩)] ∧ RowAt w g 108 #[.pointer (some ⟨x, o, none⟩)]
def RestF (B : Nat) (w : World) (F : Value) (x o : Nat) : Prop := ∃ g, B ≤ g ∧ F = .func (.func 105) #[] #[.pointer (some ⟨g, 0, none⟩)] ∧ RowAt w g 112 #[.pointer (some ⟨x, o, none⟩)]
theorem notin {X : List Nat} {B g : Nat} (hX : ∀ k ∈ X, k < B) (h : B ≤ g) : g ∉ X := fun hx => by have := hX g hx; omega
theorem NumF.keep {B : Nat} {w w' : World} {F : Value} {x o m : Nat} {X : List Nat} (h : NumF B w F x o m) (hk : Kp X w w') (hX : ∀ k ∈ X, k < B) : NumF B w' F x o m := by
  obtain ⟨g, h, h1, h2, e, r1, r2⟩ := h
  exact ⟨g, h, h1, h2, e, hk.row r1 (notin hX h1), hk.row r2 (notin hX h2)⟩
theorem TxtF.keep {B : Nat} {w w' : World} {F : Value} {x o m : Nat} {X : List Nat} (h : TxtF B w F x o m) (hk : Kp X w w') (hX : ∀ k ∈ X, k < B) : TxtF B w' F x o m := by
  obtain ⟨g, h, h1, h2, e, r1, r2⟩ := h
  exact ⟨g, h, h1, h2, e, hk.row r1 (notin hX h1), hk.row r2 (notin hX h2)⟩
theorem ExF.keep {B : Nat} {w w' : World} {F : Value} {n : Nat} {X : List Nat} (h : ExF B w F n) (hk : Kp X w w') (hX : ∀ k ∈ X, k < B) : ExF B w' F n := by
  obtain ⟨g, h1, e, r1⟩ := h
  exact ⟨g, h1, e, hk.row r1 (notin hX h1)⟩
theorem FourF.keep {B : Nat} {w w' : World} {F : Value} {x o : Nat} {X : List Nat} (h : FourF B w F x o) (hk : Kp X w w') (hX : ∀ k ∈ X, k < B) : FourF B w' F x o := by
  obtain ⟨g, h1, e, r1⟩ := h
  exact ⟨g, h1, e, hk.row r1 (notin hX h1)⟩
theorem RestF.keep {B : Nat} {w w' : World} {F : Value} {x o : Nat} {X : List Nat} (h : RestF B w F x o) (hk : Kp X w w') (hX : ∀ k ∈ X, k < B) : RestF B w' F x o := by
  obtain ⟨g, h1, e, r1⟩ := h
  exact ⟨g, h1, e, hk.row r1 (notin hX h1)⟩
theorem NumF.mono {B B' : Nat} {w : World} {F : Value} {x o m : Nat} (h : NumF B w F x o m) (hB : B' ≤ B) : NumF B' w F x o m := by
  obtain ⟨g, h, h1, h2, e, r1, r2⟩ := h
  exact ⟨g, h, by omega, by omega, e, r1, r2⟩
theorem FourF.mono {B B' : Nat} {w : World} {F : Value} {x o : Nat} (h : FourF B w F x o) (hB : B' ≤ B) : FourF B' w F x o := by
  obtain ⟨g, h1, e, r1⟩ := h
  exact ⟨g, by omega, e, r1⟩

def MadeF (P : World → Value → Prop) (w : World) (e : Ending) (w' : World) : Prop := ∃ F, e = .returned F ∧ P w' F ∧ Below w.heap.size w w'
set_option maxRecDepth 20000 in
theorem number_any (x o m : Nat) (w : World) : Calls Tryz.prog 69 #[.pointer (some ⟨x, o, none⟩), .int .i64 m] w (MadeF (fun w' F => NumF w.heap.size w' F x o m) w) := by
  go_enter Tryz.func69, Tryz.ntmps69
  go_wp2
  go_returns
  exact ⟨_, rfl, ⟨w.heap.size + 1, w.heap.size, by omega, by omega, by first | rfl | simp, RowAt.at (by rw [World.size_alloc]), (RowAt.new w _ _).alloc _⟩, (ba w _).trans ((ba _ _).mono (le_alloc (Nat.le_refl _) _))⟩
set_option maxRecDepth 20000 in
theorem text_any (x o m : Nat) (w : World) : Calls Tryz.prog 100 #[.pointer (some ⟨x, o, none⟩), .int .i64 m] w (MadeF (fun w' F => TxtF w.heap.size w' F x o m) w) := by
  go_enter Tryz.func100, Tryz.ntmps100
  go_wp2
  go_returns
  exact ⟨_, rfl, ⟨w.heap.size + 1, w.heap.size, by omega, by omega, by first | rfl | simp, RowAt.at (by rw [World.size_alloc]), (RowAt.new w _ _).alloc _⟩, (ba w _).trans ((ba _ _).mono (le_alloc (Nat.le_refl _) _))⟩
set_option maxRecDepth 20000 in
theorem exactly_any (n : Nat) (w : World) : Calls Tryz.prog 103 #[.int .i64 n] w (MadeF (fun w' F => ExF w.heap.size w' F n) w) := by
  go_enter Tryz.func103, Tryz.ntmps103
  go_wp2
  go_returns
  exact ⟨_, rfl, ⟨w.heap.size, by omega, by first | rfl | simp, RowAt.new w _ _⟩, ba w _⟩
set_option maxRecDepth 20000 in
theorem mkfour_any (x o : Nat) (w : World) : Calls Tryz.prog 104 #[.pointer (some ⟨x, o, none⟩)] w (MadeF (fun w' F => FourF w.heap.size w' F x o) w) := by
  go_enter Tryz.func104, Tryz.ntmps104
  go_wp2
  go_returns
  exact ⟨_, rfl, ⟨w.heap.size, by omega, by first | rfl | simp, RowAt.new w _ _⟩, ba w _⟩
set_option maxRecDepth 20000 in
theorem rest_any (x o : Nat) (w : World) : Calls Tryz.prog 72 #[.pointer (some ⟨x, o, none⟩)] w (MadeF (fun w' F => RestF w.heap.size w' F x o) w) := by
  go_enter Tryz.func72, Tryz.ntmps72
  go_wp2
  go_returns
  exact ⟨_, rfl, ⟨w.heap.size, by omega, by first | rfl | simp, RowAt.new w _ _⟩, ba w _⟩
/-- reader: the string's box and the place's. -/
def RdF (B : Nat) (w : World) (F : Value) (s : ByteArray) (gs ga a : Nat) : Prop := B ≤ gs ∧ B ≤ ga ∧ gs ≠ ga ∧ F = .func (.func 99) #[] #[.pointer (some ⟨gs, 0, none⟩), .pointer (some ⟨ga, 0, none⟩)] ∧ RowAt w gs 9 #[.string s] ∧ RowAt w ga 3 #[.int .i64 a]
set_option maxRecDepth 20000 in
theorem reader_any (s : ByteArray) (a : Nat) (w : World) : Calls Tryz.prog 67 #[.string s, .int .i64 a] w (MadeF (fun w' F => RdF w.heap.size w' F s w.heap.size (w.heap.size + 1) a) w) := by
  go_enter Tryz.func67, Tryz.ntmps67
  go_wp2
  go_returns
  exact ⟨_, rfl, ⟨by omega, by omega, by omega, by first | rfl | simp, (RowAt.new w _ _).alloc _, RowAt.at (by rw [World.size_alloc])⟩, (ba w _).trans ((ba _ _).mono (le_alloc (Nat.le_refl _) _))⟩

end Go.Proofs.YtillcmddbjhepaaGreatDoor
