/-
  What the proofs of all statements of this seat share: from the row's premises to the walks'.
-/
import Derived.Test.YtljbhbpddokelaaDoorG0
import Derived.Test.YtljbhbpddokelaaDoorP1
import Derived.Test.YtljbhbpddokelaaDoorW13
import Derived.Test.YtljbhbpddokelaaDoorTie
import Derived.SizedLaws
import Derived.ChangeMaps5
import Derived.Stop.LaidErr
namespace Go.Proofs.YtljbhbpddokelaaDoor
open Go Go.ChangeShapes Go.WideShapes Go.ChangeAt Go.RowKit
set_option linter.unusedVariables false

/-- A string that came in is no longer than the reach. -/
theorem string_reach {H : Type} {s : ByteArray} {ts : List TypeId} {ds : List (DataW H)} {j : Nat} {t : TypeId} (hw : (DataW.weightsEach Tryd.prog ts ds).all (· ≤ reachBytes) = true) (ht : ts[j]? = some t) (hd : ds[j]? = some (.lit (.string s.data.toList))) : s.size ≤ 140737488351232 := by
  have := sized_string hw ht hd
  have e : reachBytes = 140737488351232 := rfl
  rw [size_len]
  omega

/-- The listed variables, as every row of this seat lists them. -/
def listed : List (String × DataW Unit) := [("signalbench/check.named", Rows.laid_signalbench_check_named)]
/-- The door's own heap meets the condition. -/
theorem door_met (os : Os) (args : Array Value) : laidMetH Tryd.prog listed ((World.doorLaid Tryd.prog 400 os).forCall (fun _ _ => 0) ⟨#[], args, []⟩).memory :=
  laidMetH_of_parts3 (fuel := 8) (laidMet_of_run' 8 (by kernel_rfl) (by kernel_rfl)) (by kernel_rfl) (by kernel_rfl)
theorem env_of {W : World} (h : laidMetH Tryd.prog listed W) : Env W := by
  rw [MakeChecks.laidMetH_plain _ _ _ (by kernel_rfl)] at h
  have ht : TabHas Tryd.prog W "signalbench/check.named" tab := tabHas_of_head (f := 8) (t := 48) gNamed (by kernel_rfl) (by kernel_rfl) h
  have hc := ht.cell gNamed 0
  exact ⟨ht, World.block_lt_of_cell? W _ (u := .string ⟨#[99, 97, 110, 49, 53]⟩) hc⟩

/-- A description among the arguments. -/
theorem open_crc {H : Type} {enc : TypeId × Value → H} {W : World} {base b : Nat} {sp : Nat → Bool} {hd : Bool} {v : Value} {d : DataW H} {p : List MemPlace} (hv : Value.okWide Tryd.prog W .any base 23 v) (h : DataW.Trod enc Tryd.prog W b sp hd 23 v d p) :
    ∃ (x0 x1 x2 x3 : Int) (R : Bool), v = crV x0 x1 x2 x3 R := by
  obtain ⟨cs, n, rfl, hsz, hx⟩ := open_struct Tryd.underlying23 hv h
  have h5 : cs.size = 5 := hsz.trans (by kernel_rfl)
  rw [arr5 h5]
  obtain ⟨y0, k0⟩ := hx 0 _ rfl (by kernel_rfl) (by show 0 < cs.size; omega)
  obtain ⟨y1, k1⟩ := hx 1 _ rfl (by kernel_rfl) (by show 1 < cs.size; omega)
  obtain ⟨y2, k2⟩ := hx 2 _ rfl (by kernel_rfl) (by show 2 < cs.size; omega)
  obtain ⟨y3, k3⟩ := hx 3 _ rfl (by kernel_rfl) (by show 3 < cs.size; omega)
  obtain ⟨y4, k4⟩ := hx 4 _ rfl (by kernel_rfl) (by show 4 < cs.size; omega)
  obtain ⟨x0, e0, _, _⟩ := DataW.trod_int Tryd.underlying3 k0
  obtain ⟨x1, e1, _, _⟩ := DataW.trod_int Tryd.underlying3 k1
  obtain ⟨x2, e2, _, _⟩ := DataW.trod_int Tryd.underlying3 k2
  obtain ⟨x3, e3, _, _⟩ := DataW.trod_int Tryd.underlying3 k3
  obtain ⟨R, e4, _⟩ := DataW.trod_bool Tryd.underlying4 k4
  simp only [List.cons.injEq, and_true] at e0 e1 e2 e3 e4
  refine ⟨x0, x1, x2, x3, R, ?_⟩
  show Value.agg #[cs.getD 0 default, cs.getD 1 default, cs.getD 2 default, cs.getD 3 default, cs.getD 4 default] = _
  have f0 : cs.getD 0 default = .int .i64 x0 := e0
  have f1 : cs.getD 1 default = .int .i64 x1 := e1
  have f2 : cs.getD 2 default = .int .i64 x2 := e2
  have f3 : cs.getD 3 default = .int .i64 x3 := e3
  have f4 : cs.getD 4 default = .bool R := e4
  rw [f0, f1, f2, f3, f4]
  rfl

/-- Two integers among the arguments. -/
theorem open_two {H : Type} {enc : TypeId × Value → H} {W : World} {base b : Nat} {sp : Nat → Bool} {hd : Bool} {v : Value} {d : DataW H} {p : List MemPlace} (hv : Value.okWide Tryd.prog W .any base 38 v) (h : DataW.Trod enc Tryd.prog W b sp hd 38 v d p) :
    ∃ (x y : Int), v = .agg #[.int .i64 x, .int .i64 y] ∧ (-9223372036854775808 ≤ x ∧ x ≤ 9223372036854775807) ∧ (-9223372036854775808 ≤ y ∧ y ≤ 9223372036854775807) := by
  obtain ⟨cs, n, rfl, hsz, hx⟩ := open_arr Tryd.underlying38 (by kernel_rfl) hv h
  have h2 : cs.size = 2 := hsz.trans (by kernel_rfl)
  rw [arr2 h2]
  obtain ⟨y0, k0⟩ := hx 0 (by decide) (by omega)
  obtain ⟨y1, k1⟩ := hx 1 (by decide) (by omega)
  obtain ⟨x0, e0, _, w0⟩ := DataW.trod_int Tryd.underlying3 k0
  obtain ⟨x1, e1, _, w1⟩ := DataW.trod_int Tryd.underlying3 k1
  simp only [List.cons.injEq, and_true] at e0 e1
  exact ⟨x0, x1, by rw [e0, e1], bounds_i64 w0, bounds_i64 w1⟩
/-- Three strings among the arguments. -/
theorem open_three {H : Type} {enc : TypeId × Value → H} {W : World} {base b : Nat} {sp : Nat → Bool} {hd : Bool} {v : Value} {d : DataW H} {p : List MemPlace} (hv : Value.okWide Tryd.prog W .any base 42 v) (h : DataW.Trod enc Tryd.prog W b sp hd 42 v d p) :
    ∃ (x y z : ByteArray), v = .agg #[.string x, .string y, .string z] ∧ x.size ≤ 9223372036854775807 ∧ y.size ≤ 9223372036854775807 ∧ z.size ≤ 9223372036854775807 := by
  obtain ⟨cs, n, rfl, hsz, hx⟩ := open_arr Tryd.underlying42 (by kernel_rfl) hv h
  have h3 : cs.size = 3 := hsz.trans (by kernel_rfl)
  rw [arr3 h3]
  obtain ⟨y0, k0⟩ := hx 0 (by decide) (by omega)
  obtain ⟨y1, k1⟩ := hx 1 (by decide) (by omega)
  obtain ⟨y2, k2⟩ := hx 2 (by decide) (by omega)
  obtain ⟨x0, e0, _, w0⟩ := DataW.trod_string Tryd.underlying9 k0
  obtain ⟨x1, e1, _, w1⟩ := DataW.trod_string Tryd.underlying9 k1
  obtain ⟨x2, e2, _, w2⟩ := DataW.trod_string Tryd.underlying9 k2
  simp only [List.cons.injEq, and_true] at e0 e1 e2
  simp only [maxLen] at w0 w1 w2
  exact ⟨x0, x1, x2, by rw [e0, e1, e2], by omega, by omega, by omega⟩

end Go.Proofs.YtljbhbpddokelaaDoor
