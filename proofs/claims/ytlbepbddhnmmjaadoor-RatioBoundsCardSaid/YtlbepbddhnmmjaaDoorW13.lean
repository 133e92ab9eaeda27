/-
  The walk of Text of package ratio.
-/
import Derived.Test.YtlbepbddhnmmjaaDoorW5
import Derived.Test.YtlbepbddhnmmjaaDoorW7
import Derived.Test.YtlbepbddhnmmjaaDoorShelf
import Derived.Deep.RegionHeld3
import Derived.WalkSmall
import Derived.ShutString
namespace Go.Proofs.YtlbepbddhnmmjaaDoor
open Go.RowKit Go.Sort

/-- The library's table of the powers of ten, as its text lays it. -/
def Pow (w : World) : Prop := Lib.TabIs Tryd.prog w "internal/strconv.uint64pow10" .u64 Lib.pow10Tab
theorem gPow : Tryd.prog.globalNamed "internal/strconv.uint64pow10" = some 1 := by kernel_rfl
theorem pow_below {B : Nat} {w w' : World} (hb : Below B w w') (hB : 1 < B) (h : Pow w) : Pow w' := var?_below hb gPow hB h
theorem below_grow (w : World) (k : Nat) (os : Array Obj) : Below w.heap.size w (grow (w.drewN k) os) :=
  ⟨rfl, rfl, rfl, by simp [grow], fun i hi => by simp [grow]; rw [Array.getElem?_append_left hi]⟩
theorem itoa_at (n : Int) (t : ByteArray) (w : World) (h0 : -9223372036854775808 ≤ n) (h1 : n ≤ 9223372036854775807) (hp : Pow w) (ht : Hid (t = ⟨(Lib.itoa n).toArray⟩)) :
    Calls Tryd.prog 43 #[.int .i64 n] w fun e w' => e = .returned (.string t) ∧ Below w.heap.size w w' := by
  rw [ht.out]
  exact (Tryd.strconv_Itoa n h0 h1 w hp).mono fun e w' ⟨he, k, os, hw⟩ => ⟨he, by rw [hw]; exact below_grow w k os⟩

/-- What holds of the world while the text is made. -/
theorem itoa_held (n : Int) (t : ByteArray) (b : Nat) (x y : Value) (w0 w : World) (h0 : -9223372036854775808 ≤ n) (h1 : n ≤ 9223372036854775807) (ht : Hid (t = ⟨(Lib.itoa n).toArray⟩)) (hg : 1 < w0.heap.size)
    (hS : w.cell? ⟨b, 0, none⟩ = some x ∧ w.cell? ⟨b, 1, none⟩ = some y ∧ Pow w ∧ Below w0.heap.size w0 w ∧ b < w.heap.size) :
    Calls Tryd.prog 43 #[.int .i64 n] w fun e w' => e = .returned (.string t) ∧ (w'.cell? ⟨b, 0, none⟩ = some x ∧ w'.cell? ⟨b, 1, none⟩ = some y ∧ Pow w' ∧ Below w0.heap.size w0 w' ∧ b < w'.heap.size) := by
  obtain ⟨hx, hy, hp, hb, hz⟩ := hS
  exact (itoa_at n t w h0 h1 hp ht).mono fun e w' ⟨he, hw⟩ => ⟨he, by rw [hw.cell hz]; exact hx, by rw [hw.cell hz]; exact hy, pow_below hw (by have := hb.size; omega) hp, hb.trans (hw.mono hb.size), by have := hw.size; omega⟩

/-- The string form. -/
def txV (n d : Int) : List UInt8 := if validB n d = true then (if d = 1 then Lib.itoa n else Lib.itoa n ++ [47] ++ Lib.itoa d) else []

set_option maxHeartbeats 4000000 in
theorem text_bad (n d : Int) (w : World) (hn0 : -9223372036854775808 ≤ n) (hn1 : n ≤ 9223372036854775807) (hd0 : -9223372036854775808 ≤ d) (hd1 : d ≤ 9223372036854775807) (hv : validB n d = false) :
    Calls Tryd.prog 14 #[.agg #[.int .i64 n, .int .i64 d]] w fun e w' => e = .returned (.string ⟨#[]⟩) ∧ Below w.heap.size w w' := by
  go_enter Tryd.func14, Tryd.ntmps14
  go_wp2_with (go_at_call 12; refine (valid_any _ _ _ hn0 hn1 hd0 hd1).mono ?_; rintro e wa ⟨rfl, ba⟩; obtain ⟨a0, a1, asz⟩ := one2 ba)
  go_returns
  exact ⟨rfl, (((Below.refl _ _).alloc (Nat.le_refl _) _).trans (ba.mono (by simp)))⟩

set_option maxHeartbeats 4000000 in
theorem text_one (n : Int) (t : ByteArray) (w : World) (hn0 : -9223372036854775808 ≤ n) (hn1 : n ≤ 9223372036854775807) (hv : validB n 1 = true) (hp : Pow w) (hg : 1 < w.heap.size) (ht : Hid (t = ⟨(Lib.itoa n).toArray⟩)) :
    Calls Tryd.prog 14 #[.agg #[.int .i64 n, .int .i64 1]] w fun e w' => e = .returned (.string t) ∧ Below w.heap.size w w' := by
  go_enter Tryd.func14, Tryd.ntmps14
  go_wp2_with (first | (go_at_call 12; refine (valid_any _ _ _ hn0 hn1 (by omega) (by omega)).mono ?_; rintro e wa ⟨rfl, ba⟩; obtain ⟨a0, a1, asz⟩ := one2 ba; have hb0 := ((Below.refl _ _).alloc (Nat.le_refl _) _).trans (ba.mono (by simp)); have hp' := pow_below hb0 hg hp) | (go_at_call 43; refine (itoa_at _ t _ hn0 hn1 hp' ht).mono ?_; rintro e wb ⟨rfl, bb⟩))
  go_returns
  exact ⟨rfl, hb0.trans (bb.mono hb0.size)⟩

set_option maxHeartbeats 4000000 in
theorem text_two (n d : Int) (t u : ByteArray) (w : World) (hn0 : -9223372036854775808 ≤ n) (hn1 : n ≤ 9223372036854775807) (hd0 : -9223372036854775808 ≤ d) (hd1 : d ≤ 9223372036854775807) (hv : validB n d = true) (h1 : (d == 1) = false) (hp : Pow w) (hg : 1 < w.heap.size)
    (ht : Hid (t = ⟨(Lib.itoa n).toArray⟩)) (hu : Hid (u = ⟨(Lib.itoa d).toArray⟩)) (tz : t.size ≤ 2000000000) (uz : u.size ≤ 2000000000) :
    Calls Tryd.prog 14 #[.agg #[.int .i64 n, .int .i64 d]] w fun e w' => e = .returned (.string (t ++ ⟨#[47]⟩ ++ u)) ∧ Below w.heap.size w w' := by
  have z1 : ¬ 9223372036854775807 < t.size + 1 := by omega
  have z2 : ¬ 9223372036854775807 < t.size + 1 + u.size := by omega
  go_enter Tryd.func14, Tryd.ntmps14
  go_wp2_with (go_at_call 12; refine (valid_any _ _ _ hn0 hn1 hd0 hd1).mono ?_; rintro e wa ⟨rfl, ba⟩; obtain ⟨a0, a1, asz⟩ := one2 ba; have hb0 := ((Below.refl _ _).alloc (Nat.le_refl _) _).trans (ba.mono (by simp)); have hp' := pow_below hb0 hg hp)
  go_region_held3 (fun w' => w'.cell? ⟨w.heap.size, 0, none⟩ = some (.int .i64 n) ∧ w'.cell? ⟨w.heap.size, 1, none⟩ = some (.int .i64 d) ∧ Pow w' ∧ Below w.heap.size w w' ∧ w.heap.size < w'.heap.size) (first | exact ⟨a0, a1, hp', hb0.drew, asz⟩ | assumption | go_keep)
    (first | (go_at_call_of 43 (Value.int .i64 n); refine (itoa_held n t w.heap.size _ _ w _ hn0 hn1 ht hg (by assumption)).mono ?_; rintro e w' ⟨rfl, hs⟩) | (go_at_call_of 43 (Value.int .i64 d); refine (itoa_held d u w.heap.size _ _ w _ hd0 hd1 hu hg (by assumption)).mono ?_; rintro e w' ⟨rfl, hs⟩))
  all_goals go_wp2
  all_goals go_returns
  all_goals (refine ⟨rfl, ?_⟩; rename_i hh; exact hh.2.2.2.1)

end Go.Proofs.YtlbepbddhnmmjaaDoor
