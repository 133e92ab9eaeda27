/-
  slices.Chunk over runs: its function value hands out the blocks' slices, one after the other.
-/
import Derived.RangeFuncBox
import Derived.RangeFuncLeaves
import Derived.Shelf.Abstract
import Derived.WalkKit
import Derived.OwnWalkIn
import Derived.TacticsInMore
import Derived.LoopNIn
import Derived.LoopIn
import Derived.Maps.AppendAt
import Derived.Test.YtillcmddbjhepaaGreatDoorZ08
namespace Go.Proofs.YtillcmddbjhepaaGreatDoor
open Go Go.RowKit Go.Shelf
set_option linter.unusedVariables false
set_option linter.unusedSimpArgs false

attribute [local go_sem] Oper.semAt_some

/-- The slice of block k. -/
def ckV (g o n k : Nat) : Value := .slice (some ⟨g, o + 16 * k * 2, none⟩) (szN n k) (szN n k)
/-- What a round keeps: the two boxes that the function value holds. -/
def KpC (b1 b2 : Nat) (W W' : World) : Prop := W'.heap[b1]? = W.heap[b1]? ∧ W'.heap[b2]? = W.heap[b2]?
theorem finTake (nb k : Nat) (h : k < nb) : (List.finRange nb).take (k + 1) = (List.finRange nb).take k ++ [⟨k, h⟩] := by
  rw [List.take_succ_eq_append_getElem (by simpa using h)]; simp

set_option maxRecDepth 100000 in
set_option maxHeartbeats 4000000 in
theorem chunk1_in (n : Nat) (hn : 1 ≤ n) (l b1 b2 g o len cap : Nat) (hlen : len ≤ 262144) (hcap : len ≤ cap) (J Jx : List (Fin (bkN len)) → World → Prop)
    (hY : ∀ pre x W, J pre W → pre.length < bkN len → YieldAt Fence.wide (n - 1) Tryz.prog l #[ckV g o len x.1] W fun e W' =>
      (e = .returned (.bool true) ∧ J (pre ++ [x]) W' ∧ KpC b1 b2 W W') ∨ (e = .returned (.bool false) ∧ Jx (pre ++ [x]) W'))
    (B0 : Nat) (hJ : AbidesFrom B0 J) (W : World) (h1 : W.cell? ⟨b1, 0, none⟩ = some (.slice (some ⟨g, o, none⟩) len cap)) (h2 : W.cell? ⟨b2, 0, none⟩ = some (.int .i64 16)) (h0 : J [] W) :
    CallsIn Fence.wide n Tryz.prog 91 #[.func (.yield l) #[] #[], .pointer (some ⟨b1, 0, none⟩), .pointer (some ⟨b2, 0, none⟩)] W fun e W' => (∃ v, e = .returned v) ∧
      ((∃ ys, ys = List.finRange (bkN len) ∧ J ys W') ∨ (∃ pre, True ∧ Jx pre W')) := by
  refine callsIn_of_wp Tryz.func91 rfl trivial ?_ rfl
  simp only [Tryz.ntmps91, List.size_toArray, List.length_cons, List.length_nil, Nat.reduceAdd, Nat.reduceSub, Array.replicate_succ, Array.replicate_zero, List.push_toArray, List.append_toArray, List.nil_append, List.cons_append]
  gi_wp2
  gi_loopw [4] (fun i wr => ∃ k : Nat, k ≤ bkN len ∧ i = .int .i64 (16 * k : Nat) ∧ J ((List.finRange (bkN len)).take k) wr ∧ wr.cell? ⟨b1, 0, none⟩ = some (.slice (some ⟨g, o, none⟩) len cap) ∧ wr.cell? ⟨b2, 0, none⟩ = some (.int .i64 16))
    (fun i _ => 16 * bkN len - (intOf i).toNat)
  case atStart => exact ⟨0, Nat.zero_le _, rfl, h0, h1, h2⟩
  case round =>
    obtain ⟨k, hk, rfl, hJs, c1, c2⟩ := hrel
    have hd : J ((List.finRange (bkN len)).take k) wr.drew := hJ _ wr wr.drew none hJs ⟨rfl, rfl, rfl, Nat.le_refl _, fun _ _ _ => rfl⟩ (by intro r e; cases e)
    have d1 : wr.drew.cell? ⟨b1, 0, none⟩ = some (.slice (some ⟨g, o, none⟩) len cap) := c1
    have d2 : wr.drew.cell? ⟨b2, 0, none⟩ = some (.int .i64 16) := c2
    by_cases hlt : k < bkN len
    · obtain ⟨q1, q2, q3⟩ := szN_at hlt
      have hzle := szN_le len k
      obtain ⟨p, hp⟩ : ∃ p, 16 * k = p := ⟨_, rfl⟩
      obtain ⟨fn, tmps, assign, body, hy, hR⟩ := hY _ ⟨k, hlt⟩ wr.drew hd (by rw [List.length_take, List.length_finRange]; omega)
      unfold ckV at hy
      dsimp only at hy
      have hz : szN len k = min (len - p) 16 := by unfold szN; rw [hp]
      have hrl : 16 * (k + 1) = p + 16 := by omega
      rw [hz] at hy q2
      rw [hp] at hy q1 ⊢
      clear q3 hzle hz
      obtain ⟨d, hdd⟩ : ∃ d, len - p = d := ⟨_, rfl⟩
      rw [hdd] at hy
      have h3 : (p : Int) < len := by omega
      have h7 : (p : Int) ≤ cap := by omega
      have h8 : (len : Int) ≤ cap := by omega
      have h9 : p + d = len := by omega
      have h10 : (p : Int) + (d : Int) = (len : Int) := by omega
      by_cases h16 : d < 16
      · rw [Nat.min_eq_left (by omega)] at hy
        have h11 : (d : Int) < 16 := by omega
        gi_wp2
        gi_region
        gi_wp2
        refine hR.mono ?_
        rintro e W3 (⟨rfl, hJ3, hk3⟩ | ⟨rfl, hJx3⟩)
        · have k1 : W3.cell? ⟨b1, 0, none⟩ = some (.slice (some ⟨g, o, none⟩) len cap) := (World.cell?_of_block hk3.1).trans d1
          have k2 : W3.cell? ⟨b2, 0, none⟩ = some (.int .i64 16) := (World.cell?_of_block hk3.2).trans d2
          have hp16 : (p : Int) + 16 ≤ 9223372036854775807 := by omega
          gi_wp2
          go_roundw
          case rel => exact ⟨k + 1, by omega, by first | exact val_int (by omega) | (rw [hrl]; exact val_int (by omega)), by rw [finTake _ k hlt]; exact hJ3, k1, k2⟩
          case measure => simp [intOf]; omega
        · gi_wp2
          refine bodyPost_ret (results_none rfl _ _ _) rfl ?_
          exact ⟨⟨_, rfl⟩, .inr ⟨_, trivial, hJx3⟩⟩
      · rw [Nat.min_eq_right (by omega)] at hy
        have h11 : ¬ (d : Int) < 16 := by omega
        obtain ⟨e, he⟩ : ∃ e, p + 16 = e := ⟨_, rfl⟩
        have h12 : (p : Int) + 16 = (e : Int) := by omega
        have h13 : e - p = 16 := by omega
        have h14 : (e : Int) ≤ cap := by omega
        have h15 : (p : Int) ≤ e := by omega
        clear he
        gi_wp2
        gi_region
        gi_wp2
        refine hR.mono ?_
        rintro e W3 (⟨rfl, hJ3, hk3⟩ | ⟨rfl, hJx3⟩)
        · have k1 : W3.cell? ⟨b1, 0, none⟩ = some (.slice (some ⟨g, o, none⟩) len cap) := (World.cell?_of_block hk3.1).trans d1
          have k2 : W3.cell? ⟨b2, 0, none⟩ = some (.int .i64 16) := (World.cell?_of_block hk3.2).trans d2
          have hp16 : (p : Int) + 16 ≤ 9223372036854775807 := by omega
          gi_wp2
          go_roundw
          case rel => exact ⟨k + 1, by omega, by first | exact val_int (by omega) | (rw [hrl]; exact val_int (by omega)), by rw [finTake _ k hlt]; exact hJ3, k1, k2⟩
          case measure => simp [intOf]; omega
        · gi_wp2
          refine bodyPost_ret (results_none rfl _ _ _) rfl ?_
          exact ⟨⟨_, rfl⟩, .inr ⟨_, trivial, hJx3⟩⟩
    · have hkb : k = bkN len := by omega
      have hge : ¬ ((16 * k : Nat) : Int) < len := by unfold bkN at hkb; omega
      have htk : (List.finRange (bkN len)).take k = List.finRange (bkN len) := List.take_of_length_le (by rw [List.length_finRange]; omega)
      rw [htk] at hJs
      clear hd hkb
      gi_wp2
      go_end0
      first | exact ⟨⟨_, rfl⟩, .inl hJs⟩ | exact .inl hJs | exact ⟨⟨_, rfl⟩, .inl ⟨_, rfl, hJs⟩⟩

set_option maxRecDepth 100000 in
set_option maxHeartbeats 1000000 in
/-- No runs: no round. -/
theorem chunk0_in (n : Nat) (l b1 b2 : Nat) (A : Option Addr) (cap : Nat) (J : List (Fin (bkN 0)) → World → Prop)
    (W : World) (h1 : W.cell? ⟨b1, 0, none⟩ = some (.slice A 0 cap)) (h0 : J [] W) :
    CallsIn Fence.wide n Tryz.prog 91 #[.func (.yield l) #[] #[], .pointer (some ⟨b1, 0, none⟩), .pointer (some ⟨b2, 0, none⟩)] W fun e W' => (∃ v, e = .returned v) ∧ J [] W' := by
  refine callsIn_of_wp Tryz.func91 rfl trivial ?_ rfl
  simp only [Tryz.ntmps91, List.size_toArray, List.length_cons, List.length_nil, Nat.reduceAdd, Nat.reduceSub, Array.replicate_succ, Array.replicate_zero, List.push_toArray, List.append_toArray, List.nil_append, List.cons_append]
  gi_wp2
  gi_loopw [4] (fun i wr => i = .int .i64 0 ∧ J [] wr ∧ wr.cell? ⟨b1, 0, none⟩ = some (.slice A 0 cap)) (fun _ _ => 0)
  case atStart => exact ⟨rfl, h0, h1⟩
  case round =>
    obtain ⟨rfl, hJs, c1⟩ := hrel
    gi_wp2
    go_end0
    first | exact ⟨⟨_, rfl⟩, hJs⟩ | exact hJs

/-- What the function value gives: all blocks' slices in order, or a part of them, where a round has left. -/
theorem chunk_stops (n : Nat) (hn : 1 ≤ n) (b1 b2 len cap : Nat) (A : Option Addr) (g o : Nat) (hA : 0 < len → A = some ⟨g, o, none⟩) (hlen : len ≤ 262144) (hcap : len ≤ cap) (w : World) (hb1 : b1 < w.heap.size) (hb2 : b2 < w.heap.size)
    (h1 : w.cell? ⟨b1, 0, none⟩ = some (.slice A len cap)) (h2 : w.cell? ⟨b2, 0, none⟩ = some (.int .i64 16)) :
    SeqStopsK Fence.wide n Tryz.prog 91 #[.pointer (some ⟨b1, 0, none⟩), .pointer (some ⟨b2, 0, none⟩)] (fun x : Fin (bkN len) => #[ckV g o len x.1]) (KpC b1 b2) (fun ys => ys = List.finRange (bkN len)) (fun _ => True) (bkN len) w := fun l J Jx W hW hJ _ hY h0 => by
  have c1 := (hW.cell (p := ⟨b1, 0, none⟩) hb1).trans h1
  have c2 := (hW.cell (p := ⟨b2, 0, none⟩) hb2).trans h2
  rcases Nat.eq_zero_or_pos len with hl | hl
  · subst hl
    exact (chunk0_in n l b1 b2 A cap J W c1 h0).mono fun e W' ⟨he, hj⟩ => ⟨he, .inl ⟨_, rfl, hj⟩⟩
  · obtain rfl := hA hl
    exact chunk1_in n hn l b1 b2 g o len cap hlen hcap J Jx hY _ hJ W c1 c2 h0

set_option maxHeartbeats 1000000 in
/-- slices.Chunk. -/
theorem chunk_in (n : Nat) (a : Option Addr) (len cap : Nat) (w : World) :
    CallsIn Fence.wide n Tryz.prog 54 #[.slice a len cap, .int .i64 16] w fun e w' => e = .returned (.func (.func 91) #[] #[.pointer (some ⟨w.heap.size, 0, none⟩), .pointer (some ⟨w.heap.size + 1, 0, none⟩)]) ∧ w' = (w.alloc (.cells #[.slice a len cap] 23)).alloc (.cells #[.int .i64 16] 3) := by
  refine callsIn_of_wp Tryz.func54 rfl trivial ?_ rfl
  simp only [Tryz.ntmps54, List.size_toArray, List.length_cons, List.length_nil, Nat.reduceAdd, Nat.reduceSub, Array.replicate_succ, Array.replicate_zero, List.push_toArray, List.append_toArray, List.nil_append, List.cons_append]
  gi_wp2
  go_ret
  exact ⟨rfl, rfl⟩

end Go.Proofs.YtillcmddbjhepaaGreatDoor
