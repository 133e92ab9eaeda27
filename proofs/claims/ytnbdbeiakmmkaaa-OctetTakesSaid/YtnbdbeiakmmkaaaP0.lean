/-
  What the proofs of all statements of this seat share: from the row's premises to the walks', what a slice of bytes that came in gives.
-/
import Derived.Test.YtnbdbeiakmmkaaaB1
import Derived.SizedLaws
import Derived.Deep.CondSized
import Derived.Lib.SlBytesRowKit
namespace Go.Proofs.Ytnbdbeiakmmkaaa
open Go Go.ChangeShapes Go.WideShapes Go.ChangeAt Go.RowKit
set_option linter.unusedVariables false

theorem cells_byte : Try.prog.cellsOf 5 = 1 := by kernel_rfl
theorem bytes_byte : Try.prog.bytesOf 5 = 1 := by kernel_rfl

theorem lits_length {H : Type} (k : IntKind) (zs : List Int) : (lits (H := H) k zs).length = zs.length := by simp [lits]

theorem bulk_pos {H : Type} (d : DataW H) : 1 ≤ Rows.uptoBulk d := by
  cases d with
  | lit l => cases l <;> simp [Rows.uptoBulk]
  | nil => simp [Rows.uptoBulk]
  | ptr d => simp [Rows.uptoBulk]
  | slice elems spare => simp [Rows.uptoBulk]
  | agg parts => simp [Rows.uptoBulk]
  | iface t d => simp [Rows.uptoBulk]
  | map entries => simp [Rows.uptoBulk]
  | held h => simp [Rows.uptoBulk]
theorem bulk_all {H : Type} (l : List (DataW H)) : l.length ≤ Rows.uptoBulkAll l := by
  induction l with
  | nil => simp [Rows.uptoBulkAll]
  | cons x r ih => have := bulk_pos x; simp only [Rows.uptoBulkAll, List.length_cons]; omega

/-- A slice of bytes that came in. -/
theorem open_bytes {H : Type} {enc : TypeId × Value → H} {W : World} {base : Nat} {v : Value} {d : DataW H} {p : List MemPlace} (hv : Value.okWide Try.prog W .any base 22 v) (h : DataW.Trod enc Try.prog W 0 (fun _ => true) true 22 v d p) :
    ∃ (A : Option Addr) (n c : Nat) (l : List UInt8), v = .slice A n c ∧ n = l.length ∧ n ≤ c ∧ (A = none → c = 0) ∧ Rd W W.heap.size A l ∧ n ≤ Rows.uptoBulk d ∧
      (∀ (ts : List TypeId) (ds : List (DataW H)) (j : Nat), (DataW.weightsEach Try.prog ts ds).all (· ≤ reachBytes) = true → ts[j]? = some 22 → ds[j]? = some d → n ≤ 140737488351232) := by
  obtain ⟨A, n, c, rfl⟩ := okWide_slice Try.underlying22 hv
  obtain ⟨xs, hx, hc, hin, _, hr, hnil⟩ := opened_bytes Try.underlying22 Try.underlying5 cells_byte h
  have hl : (xs.map fun x => UInt8.ofNat x.toNat).length = n := by simpa using hx
  have hlen : n = 0 ∨ ∃ es sp, d = .slice es sp ∧ n ≤ es.length := by
    obtain ⟨fuel, hf⟩ := h
    rcases open_ints Try.underlying22 Try.underlying5 cells_byte hf with ⟨hcs, _⟩ | ⟨a, len', cap', zs, hcs, _, hl', hm, hz, hx', _, _⟩
    · simp [Value.cells] at hcs
      exact .inl hcs.2.1
    · simp [Value.cells] at hcs
      obtain ⟨rfl, rfl, rfl⟩ := hcs
      simp only [Prod.mk.injEq] at hx'
      simp only [if_true] at hz
      exact .inr ⟨_, _, hx'.1, by rw [lits_length, List.length_take]; omega⟩
  refine ⟨A, n, c, xs.map fun x => UInt8.ofNat x.toNat, rfl, hl.symm, hc, hnil, fun h0 => ?_, ?_, ?_⟩
  · rw [hl] at h0
    obtain ⟨b, o, e, hcell⟩ := hin.at h0
    refine ⟨b, o, e, World.block_lt_of_cell? W ⟨b, o + 0, none⟩ (hcell 0 h0), fun j hj => ?_⟩
    rw [hl] at hj
    have hjx : j < xs.length := by omega
    have hb := hr xs[j] (List.getElem_mem hjx)
    rw [hcell j hj]
    simp only [List.getElem_map, List.getD, List.getElem?_eq_getElem hjx, Option.getD_some]
    have : (UInt8.ofNat xs[j].toNat).toNat = xs[j].toNat := by simp; omega
    rw [this]
    congr 2
    omega
  · rcases hlen with h0 | ⟨es, sp, rfl, h1⟩
    · omega
    · have := bulk_all es
      simp only [Rows.uptoBulk]
      omega
  · intro ts ds j hw ht hd
    rcases hlen with h0 | ⟨es, sp, rfl, h1⟩
    · omega
    · have := sized_slice hw ht hd Try.underlying22
      rw [bytes_byte] at this
      have e : reachBytes = 140737488351232 := rfl
      omega

/-- A string that came in is no longer than the reach. -/
theorem string_reach {H : Type} {s : ByteArray} {ts : List TypeId} {ds : List (DataW H)} {j : Nat} {t : TypeId} (hw : (DataW.weightsEach Try.prog ts ds).all (· ≤ reachBytes) = true) (ht : ts[j]? = some t) (hd : ds[j]? = some (.lit (.string s.data.toList))) : s.size ≤ 140737488351232 := by
  have := sized_string hw ht hd
  have e : reachBytes = 140737488351232 := rfl
  rw [size_len]
  omega

end Go.Proofs.Ytnbdbeiakmmkaaa
