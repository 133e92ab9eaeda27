/-
  Text of package ratio, and of its specification: for every ratio, the same answer. Then the chapter's examples.
-/
import Derived.Test.YtlbepbddhnmmjaaDoorW6
import Derived.Test.YtlbepbddhnmmjaaDoorW12
import Derived.Test.YtlbepbddhnmmjaaDoorW14
namespace Go.Proofs.YtlbepbddhnmmjaaDoor
open Go.RowKit

theorem itoa_le (n : Int) : (Lib.itoa n).length ≤ n.natAbs + 2 := by
  unfold Lib.itoa
  split
  · have := decDigits_le n.natAbs; simp only [List.length_cons]; omega
  · have := decDigits_le n.toNat; omega
theorem join3 (x y : List UInt8) : (⟨x.toArray⟩ : ByteArray) ++ ⟨#[47]⟩ ++ ⟨y.toArray⟩ = ⟨(x ++ [47] ++ y).toArray⟩ :=
  ByteArray.ext (by rw [ByteArray.data_append, ByteArray.data_append]; simp)
theorem join2 (x : List UInt8) : (⟨#[45]⟩ : ByteArray) ++ ⟨x.toArray⟩ = ⟨(45 :: x).toArray⟩ :=
  ByteArray.ext (by rw [ByteArray.data_append]; simp)

theorem text_any (n d : Int) (w : World) (hn0 : -9223372036854775808 ≤ n) (hn1 : n ≤ 9223372036854775807) (hd0 : -9223372036854775808 ≤ d) (hd1 : d ≤ 9223372036854775807) (hp : Pow w) (hg : 1 < w.heap.size) :
    Calls Tryd.prog 14 #[.agg #[.int .i64 n, .int .i64 d]] w fun e w' => e = .returned (.string ⟨(txV n d).toArray⟩) ∧ Below w.heap.size w w' := by
  cases hv : validB n d
  · have e : txV n d = [] := by rw [txV, hv, if_neg (by simp)]
    rw [e]; exact text_bad n d w hn0 hn1 hd0 hd1 hv
  · have hb := valid_bd hv
    by_cases h1 : d = 1
    · subst h1
      have e : txV n 1 = Lib.itoa n := by rw [txV, hv, if_pos rfl, if_pos rfl]
      rw [e]; exact text_one n _ w hn0 hn1 hv hp hg (Lib.hid rfl)
    · have e : txV n d = Lib.itoa n ++ [47] ++ Lib.itoa d := by rw [txV, hv, if_pos rfl, if_neg h1]
      rw [e, ← join3]
      exact text_two n d _ _ w hn0 hn1 hd0 hd1 hv (by rw [beq_eq_false_iff_ne]; exact h1) hp hg (Lib.hid rfl) (Lib.hid rfl) (by rw [size_mk]; have := itoa_le n; omega) (by rw [size_mk]; have := itoa_le d; omega)

theorem rtext_any (n d : Int) (w : World) (hn0 : -9223372036854775808 ≤ n) (hn1 : n ≤ 9223372036854775807) (hd0 : -9223372036854775808 ≤ d) (hd1 : d ≤ 9223372036854775807) :
    Calls Tryd.prog 15 #[.agg #[.int .i64 n, .int .i64 d]] w fun e w' => e = .returned (.string ⟨(txV n d).toArray⟩) ∧ Below w.heap.size w w' := by
  cases hv : validB n d
  · have e : txV n d = [] := by rw [txV, hv, if_neg (by simp)]
    rw [e]; exact rtext_bad n d w hn0 hn1 hd0 hd1 hv
  · have hb := valid_bd hv
    have la : n.natAbs ≤ 1073741824 := by omega
    have tz : (⟨(Lib.decDigits n.natAbs).toArray⟩ : ByteArray).size ≤ 2000000000 := by rw [size_mk]; have := decDigits_le n.natAbs; omega
    have uz : (⟨(Lib.decDigits d.natAbs).toArray⟩ : ByteArray).size ≤ 2000000000 := by rw [size_mk]; have := decDigits_le d.natAbs; omega
    have ed : Lib.itoa d = Lib.decDigits d.natAbs := by rw [Lib.itoa, if_neg (by omega), show d.toNat = d.natAbs by omega]
    by_cases hneg : n < 0
    · have en : Lib.itoa n = 45 :: Lib.decDigits n.natAbs := by rw [Lib.itoa, if_pos hneg]
      by_cases h1 : d = 1
      · subst h1
        have e : txV n 1 = Lib.itoa n := by rw [txV, hv, if_pos rfl, if_pos rfl]
        rw [e, en, ← join2]; exact rtext_n1 n _ _ w hn0 hn1 hv hneg (Lib.hid rfl) la tz (Lib.hid rfl)
      · have e : txV n d = Lib.itoa n ++ [47] ++ Lib.itoa d := by rw [txV, hv, if_pos rfl, if_neg h1]
        rw [e, ← join3, en, ed, ← join2]
        exact rtext_n2 n d _ _ w hn0 hn1 hv hneg (Lib.hid rfl) la tz (Lib.hid rfl) (by rw [beq_eq_false_iff_ne]; exact h1) (by rw [bne_iff_ne]; exact h1) d.natAbs (by omega) _ uz (Lib.hid rfl)
    · have en : Lib.itoa n = Lib.decDigits n.natAbs := by rw [Lib.itoa, if_neg hneg, show n.toNat = n.natAbs by omega]
      by_cases h1 : d = 1
      · subst h1
        have e : txV n 1 = Lib.itoa n := by rw [txV, hv, if_pos rfl, if_pos rfl]
        rw [e, en]; exact rtext_p1 n _ _ w hn0 hn1 hv (by omega) (Lib.hid rfl) la tz (Lib.hid rfl)
      · have e : txV n d = Lib.itoa n ++ [47] ++ Lib.itoa d := by rw [txV, hv, if_pos rfl, if_neg h1]
        rw [e, ← join3, en, ed]
        exact rtext_p2 n d _ _ w hn0 hn1 hv (by omega) (Lib.hid rfl) la tz (Lib.hid rfl) (by rw [beq_eq_false_iff_ne]; exact h1) (by rw [bne_iff_ne]; exact h1) d.natAbs (by omega) _ uz (Lib.hid rfl)

/-- What the examples need of the world: two variables of Go's library. -/
def Env (m : Int) (w : World) : Prop := Pow w ∧ w.cell? ⟨0, 0, none⟩ = some (.int .i64 m) ∧ 1 < w.heap.size ∧ 0 < w.heap.size
theorem Env.below {m : Int} {w w' : World} (h : Env m w) (hb : Below w.heap.size w w') : Env m w' :=
  ⟨pow_below hb h.2.2.1 h.1, by rw [hb.cell h.2.2.2]; exact h.2.1, Nat.lt_of_lt_of_le h.2.2.1 hb.size, Nat.lt_of_lt_of_le h.2.2.2 hb.size⟩

theorem ex_make (w : World) : Calls Tryd.prog 17 #[.int .i64 6, .int .i64 (-8)] w fun e w' => e = .returned (.tuple #[.agg #[.int .i64 (-3), .int .i64 4], .int .i64 0]) ∧ Below w.heap.size w w' :=
  make_any 6 (-8) w (by omega) (by omega) (by omega) (by omega)
theorem ex_scale (w : World) : Calls Tryd.prog 27 #[.agg #[.int .i64 (-3), .int .i64 4], .int .i64 5] w fun e w' => e = .returned (.tuple #[.int .i64 (-4), .int .i64 0]) ∧ Below w.heap.size w w' :=
  sc_any (-3) 4 5 w (by omega) (by omega) (by omega) (by omega) (by omega) (by omega)
theorem ex_parse1 (m : Int) (w : World) (h : Env m w) : Calls Tryd.prog 35 #[.string ⟨#[50, 47, 52]⟩] w fun e w' => e = .returned (.tuple #[.agg #[.int .i64 0, .int .i64 0], .int .i64 4]) ∧ Below w.heap.size w w' :=
  parse_any ⟨#[50, 47, 52]⟩ m w (by decide) h.2.1 h.2.2.2
theorem ex_parse2 (m : Int) (w : World) (h : Env m w) : Calls Tryd.prog 35 #[.string ⟨#[55]⟩] w fun e w' => e = .returned (.tuple #[.agg #[.int .i64 7, .int .i64 1], .int .i64 0]) ∧ Below w.heap.size w w' :=
  parse_any ⟨#[55]⟩ m w (by decide) h.2.1 h.2.2.2
theorem ex_text (m : Int) (w : World) (h : Env m w) : Calls Tryd.prog 14 #[.agg #[.int .i64 (-3), .int .i64 4]] w fun e w' => e = .returned (.string ⟨#[45, 51, 47, 52]⟩) ∧ Below w.heap.size w w' := by
  have ht : txV (-3) 4 = [45, 51, 47, 52] := by
    rw [txV, if_pos (by decide), if_neg (by decide), Lib.itoa, Lib.itoa, if_pos (by decide), if_neg (by decide), Lib.decDigits, dif_pos (by decide), Lib.decDigits, dif_pos (by decide)]
    rfl
  have := text_any (-3) 4 w (by omega) (by omega) (by omega) (by omega) h.1 h.2.2.1
  rw [ht] at this; exact this
theorem ex_floor (w : World) : Calls Tryd.prog 31 #[.agg #[.int .i64 (-3), .int .i64 4]] w fun e w' => e = .returned (.int .i64 (-1)) ∧ Below w.heap.size w w' :=
  fl_any (-3) 4 w (by omega) (by omega) (by omega) (by omega)
theorem ex_round (w : World) : Calls Tryd.prog 33 #[.agg #[.int .i64 1, .int .i64 2]] w fun e w' => e = .returned (.int .i64 1) ∧ Below w.heap.size w w' :=
  rd_any 1 2 w (by omega) (by omega) (by omega) (by omega)
theorem ex_cmp (w : World) : Calls Tryd.prog 29 #[.agg #[.int .i64 (-3), .int .i64 4], .agg #[.int .i64 1, .int .i64 2]] w fun e w' => e = .returned (.int .i64 (-1)) ∧ Below w.heap.size w w' :=
  cmp_any (-3) 4 1 2 w (by omega) (by omega) (by omega) (by omega) (by omega) (by omega) (by omega) (by omega)

end Go.Proofs.YtlbepbddhnmmjaaDoor
