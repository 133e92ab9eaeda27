/-
  A row of the call's own, sorted by the library: what slices.SortFunc's contract asks of it and what it leaves.
-/
import Derived.Test.YtddphdohjceonaaDoorK0
import Derived.Shelf.SlSortCmp.WholeK
namespace Go.Proofs.YtddphdohjceonaaDoor
open Go Go.RowKit Go.Joins Go.Sort Go.Lib Go.Shelf
set_option linter.unusedVariables false

section
variable {α : Type} [Inhabited α] {enc : α → Array Value} {k : Nat} {T : TypeId}

theorem get_kCs (hk : ∀ x, (enc x).size = k) (l : List α) (t : Nat) (ht : t < l.length * k) : (kCs enc l)[t]? = some (flatK (fun x => (enc x).toList) k l.toArray)[t]! := by
  have k0 : 0 < k := by rcases Nat.eq_zero_or_pos k with h | h; subst h; simp at ht; exact h
  have hj : t / k < l.length := Nat.div_lt_of_lt_mul (by rw [Nat.mul_comm]; exact ht)
  have hi : t % k < k := Nat.mod_lt _ k0
  have e : t = t / k * k + t % k := by rw [Nat.mul_comm]; exact (Nat.div_add_mod t k).symm
  rw [get_flatK _ _ _ _ (by simpa using ht)]
  have h1 := kCs_at hk l (t / k) hj (t % k) hi
  rw [← e] at h1
  have h2 : (l.toArray[t / k]! : α) = l[t / k] := by
    rw [getElem!_pos l.toArray (t / k) (by simpa using hj)]; simp
  rw [h1, h2]
  have h3 : t % k < (enc l[t / k]).size := by rw [hk]; exact hi
  rw [Array.getElem?_eq_getElem h3, getElem!_pos _ _ (by simpa using h3)]
  simp
theorem KRow.holds (hk : ∀ x, (enc x).size = k) {w : World} {B g n c : Nat} {l : List α} (h : KRow enc k T w B (.slice (some ⟨g, 0, none⟩) n c) l) : HoldsK (fun x => (enc x).toList) k w g 0 l.toArray := by
  intro t ht
  rw [size_flatK] at ht
  have ht' : t < l.length * k := by simpa using ht
  have hn : n = l.length := by
    obtain ⟨A, N, c', e, hN⟩ := KRow.form h
    simp only [Value.slice.injEq] at e
    omega
  subst hn
  rw [Nat.zero_add]
  refine ⟨?_, World.ownsRow.frozenAt h t⟩
  rw [World.ownsRow.cellAt h t ht']
  exact get_kCs hk l t ht'
/-- What the sort leaves. -/
theorem KRow.sorted (hk : ∀ x, (enc x).size = k) {w : World} {B g n c : Nat} {l : List α} (h : KRow enc k T w B (.slice (some ⟨g, 0, none⟩) n c) l) (d' : Array α) (hd : d'.size = l.length) (m : Nat) (os : Array Obj) :
    KRow enc k T (sortWorldK (fun x => (enc x).toList) k w g 0 m d' os) B (.slice (some ⟨g, 0, none⟩) n c) d'.toList ∧ Below B w (sortWorldK (fun x => (enc x).toList) k w g 0 m d' os) := by
  obtain ⟨h1, h2⟩ := h
  rcases h2 with ⟨h2, _⟩ | ⟨g', cap, cur, h2, hB, hcell, hn, hcap, hsz, htk⟩
  · simp at h2
  · simp only [Value.slice.injEq, Option.some.injEq, Addr.mk.injEq, and_true] at h2
    obtain ⟨rfl, rfl, rfl⟩ := h2
    have hlt : g < w.heap.size := (Array.getElem?_eq_some_iff.1 hcell).1
    have hb : ∀ i, i ≠ g → i < w.heap.size → (sortWorldK (fun x => (enc x).toList) k w g 0 m d' os).heap[i]? = w.heap[i]? := by
      intro i hi hi2
      unfold sortWorldK putRowK putRow mapBlock grow
      simp only
      rw [Array.getElem?_append_left (by simpa using hi2), Array.getElem?_modify, if_neg (by omega)]
      rfl
    have hg : (sortWorldK (fun x => (enc x).toList) k w g 0 m d' os).heap[g]? = some (.cells (putCells id 0 (flatK (fun x => (enc x).toList) k d') cur) T (0, 0)) := by
      unfold sortWorldK putRowK putRow mapBlock grow
      simp only
      rw [Array.getElem?_append_left (by simpa using hlt), Array.getElem?_modify, if_pos rfl]
      show (w.heap[g]?).map _ = _
      rw [hcell]
      rfl
    have hdl : d'.toList.length = l.length := by simpa using hd
    refine ⟨⟨by rw [kCs_len hk], .inr ⟨g, c, _, by rw [hdl], hB, hg, by rw [hdl]; exact hn, hcap, by simp [putCells, hsz], ?_⟩⟩, ⟨rfl, rfl, rfl, size_sortWorldK_c _ _ _ _ _ _ _ _, fun i hi => hb i (by omega) (by omega)⟩⟩
    apply List.ext_getElem?
    intro t
    by_cases ht : t < d'.toList.length * k
    · have hc : d'.toList.length * k ≤ c * k := Nat.mul_le_mul_right k (by rw [hdl]; exact hn)
      rw [List.getElem?_take_of_lt ht, get_kCs hk _ t ht, Array.getElem?_toList]
      unfold putCells
      rw [Array.getElem?_mapIdx, Array.getElem?_eq_getElem (by omega)]
      simp only [Option.map_some, Nat.zero_le, true_and, Nat.zero_add, size_flatK, Nat.sub_zero, id]
      rw [if_pos (by simpa using ht)]
    · rw [List.getElem?_eq_none (by rw [List.length_take]; omega), List.getElem?_eq_none (by rw [kCs_len hk]; omega)]
end

/-- What 'PermIn' and 'SortedIn' say of lists. -/
theorem perm_of_in {α : Type} [Inhabited α] {d d' : Array α} (h : PermIn 0 d.size d d') : d'.size = d.size ∧ d'.toList.Perm d.toList := by
  obtain ⟨h1, _, h3⟩ := h
  refine ⟨h1, ?_⟩
  rw [show d'.extract 0 d.size = d' by rw [← h1]; exact Array.extract_size, Array.extract_size] at h3
  exact h3
theorem sorted_of_in {α : Type} [Inhabited α] {lt : α → α → Bool} {d : Array α} (h : SortedIn lt 0 d.size d) : d.toList.Pairwise fun a b => lt b a = false := by
  rw [List.pairwise_iff_getElem]
  intro i j hi hj hij
  have := h i j (Nat.zero_le _) hij (by simpa using hj)
  rw [getElem!_pos d j (by simpa using hj), getElem!_pos d i (by simpa using hi)] at this
  simpa using this

end Go.Proofs.YtddphdohjceonaaDoor
