/-
  The iterator over an event's parts.
-/
import Derived.Test.YtcodoakfomddfaaT17
namespace Go.Proofs.Ytcodoakfomddfaa
open Go Go.RowKit Go.Joins Go.Shelf
set_option linter.unusedVariables false
set_option linter.unusedSimpArgs false

attribute [local go_sem] Oper.semAt_some

theorem krow_to {α : Type} {enc : α → Array Value} {k : Nat} {T : TypeId} {W W' : World} {B : Nat} {v : Value} {l : List α} (h : KRow enc k T W B v l) (hk : ∀ q, v.ownBlock = some q → W'.heap[q]? = W.heap[q]?) : KRow enc k T W' B v l := by
  refine ⟨h.1, h.2.imp id fun ⟨g, cap, cur, e, h1, h2, h3⟩ => ⟨g, cap, cur, e, h1, ?_, h3⟩⟩
  rw [hk g (by rw [e]; rfl)]; exact h2

/-- What the rounds and the iterator owe one another: J is what the rounds keep; a block that is safe is left alone by them, and the iterator may write it. -/
structure Rnd (J : List Ev → World → Prop) (Sf : World → Nat → Prop) : Prop where
  lt : ∀ {W b}, Sf W b → b < W.heap.size
  drew : ∀ {pre W} (q : Nat), J pre W → J pre (W.drewN q)
  sdrew : ∀ {W b} (q : Nat), Sf W b → Sf (W.drewN q) b
  alloc : ∀ {pre W} (cs : Array Value) (T : TypeId), J pre W → J pre (W.alloc (.cells cs T))
  salloc : ∀ {pre W b} (cs : Array Value) (T : TypeId), J pre W → Sf W b → Sf (W.alloc (.cells cs T)) b
  new : ∀ {pre W} (cs : Array Value) (T : TypeId), J pre W → Sf (W.alloc (.cells cs T)) W.heap.size
  set : ∀ {pre W} (b i : Nat) (v : Value) (T : TypeId) (cs : Array Value), J pre W → Sf W b → RowAt W b T cs → J pre (W.setCell ⟨b, i, none⟩ v)
  sset : ∀ {pre W c} (b i : Nat) (v : Value), J pre W → Sf W b → Sf W c → Sf (W.setCell ⟨b, i, none⟩ v) c

set_option maxHeartbeats 1000000 in
theorem pieces_any (x0 x1 x2 x3 x4 : Int) (x5 : ByteArray) (x6 : Int) (a : Option Addr) (len cap : Nat) (w : World) :
    Calls Try.prog 37 #[.agg (evA x0 x1 x2 x3 x4 x5 x6), .slice a len cap] w fun e w' => e = .returned (.func (.func 52) #[] #[.pointer (some ⟨w.heap.size + 1, 0, none⟩), .pointer (some ⟨w.heap.size, 0, none⟩)]) ∧ w' = (w.alloc (.cells (evA x0 x1 x2 x3 x4 x5 x6) 48)).alloc (.cells #[.slice a len cap] 35) := by
  go_enter Try.func37, Try.ntmps37
  go_wp2
  go_returns
  exact ⟨rfl, rfl⟩

theorem search_any (TV : Value) (zs : List Int) (f : Int) (B : Nat) (W : World) (h : TkRow W B TV (tks zs)) (hn : zs.length ≤ 1099511627776) :
    Calls Try.prog 53 #[TV, .int .i64 f] W fun e W' => ∃ (k : Nat) (b : Bool) (q : Nat), e = .returned (.tuple #[.int .i64 k, .bool b]) ∧ W' = W.drewN q ∧ (b = true → k + 1 ≤ (tks zs).length ∧ bhd (tks zs) f (k + 1)) ∧ (b = false → bhd (tks zs) f k) ∧ k ≤ (tks zs).length := by
  have hl := tks_len zs
  by_cases h0 : 0 < (tks zs).length
  · obtain ⟨g, c, rfl⟩ := h.full h0
    refine (Try.slices_BinarySearch_int g 0 (tks zs).length c (tks zs) f W (Nat.le_refl _) (by omega) (fun j hj => ?_) (by rw [List.take_length]; exact tks_le zs)).mono ?_
    · have := h.cell tkC_size j hj 0 (by omega)
      rw [show j * 1 + 0 = 0 + j by omega] at this
      rw [this]
      simp [tkC, hj]
    · rintro e W' ⟨rfl, q, rfl⟩
      rw [List.take_length]
      obtain ⟨h1, h2⟩ := bhd_start (tks_asc zs) f
      exact ⟨_, _, q, rfl, rfl, h1, h2, (cnt_first (tks_asc zs) f).1⟩
  · have e0 : tks zs = [] := List.eq_nil_of_length_eq_zero (by omega)
    obtain ⟨A, N, c, rfl, hN⟩ := h.form
    rw [e0] at hN
    obtain rfl : N = 0 := hN
    refine (Try.slices_BinarySearch_int_empty A c f W).mono ?_
    rintro e W' ⟨rfl, rfl⟩
    refine ⟨0, false, 0, rfl, rfl, (fun h => by cases h), fun _ => ?_, Nat.zero_le _⟩
    rw [e0]
    exact ⟨fun j hj => by simp at hj, fun j hj => by simp at hj⟩

end Go.Proofs.Ytcodoakfomddfaa
