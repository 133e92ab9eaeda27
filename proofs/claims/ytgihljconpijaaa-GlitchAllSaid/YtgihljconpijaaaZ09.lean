/-
  A tick turned in a row of ticks of the call's own: slices.BinarySearch, slices.Delete, slices.Insert by the shelf; turned.
  slices.Delete and slices.BinarySearch on a row of ticks of the call's own; turned.
  Insert.
-/
import Derived.Test.YtgihljconpijaaaShelf
import Derived.Test.YtgihljconpijaaaZ01
import Derived.Test.YtgihljconpijaaaZ03
import Derived.Test.YtgihljconpijaaaZ06
import Derived.Test.YtgihljconpijaaaZ04
namespace Go.Proofs.Ytgihljconpijaaa
open Go Go.RowKit Go.Joins
set_option linter.unusedVariables false
set_option linter.unusedSimpArgs false

/-- A row out of a block's cells. -/
theorem row_of_cells {w : World} {g B cap : Nat} {cs : Array Value} {l : List Int} (h : RowAt w g 3 cs) (hcap : cap = cs.size) (hn : l.length ≤ cap) (hm : cap ≤ maxLen) (hB : B ≤ g) (hv : ∀ j (hj : j < l.length), w.cell? ⟨g, j, none⟩ = some (.int .i64 l[j])) : InRow w B (.slice (some ⟨g, 0, none⟩) l.length cap) l := by
  have e : cs.toList.take (l.length * 1) = kCs inC l := by
    apply List.ext_getElem?
    intro j
    by_cases hj : j < l.length
    · have h1 := hv j hj
      rw [h.cell] at h1
      have h2 := kCs_at inC_size l j hj 0 (by omega)
      rw [Nat.mul_one, Nat.add_zero] at h2
      rw [h2, List.getElem?_take, if_pos (by omega)]
      rw [← Array.getElem?_toList] at h1
      exact h1
    · rw [List.getElem?_eq_none (by rw [List.length_take]; omega), List.getElem?_eq_none (by rw [kCs_len inC_size]; omega)]
  exact ⟨kCs_len inC_size l, Or.inr ⟨g, cap, cs, rfl, hB, h, hn, hm, by omega, e⟩⟩
theorem setCells_row {w : World} {g : Nat} {T : TypeId} (vs : List Value) : ∀ (o : Nat) (w : World) (cs : Array Value), RowAt w g T cs → ∃ cs', RowAt (w.setCells g o vs) g T cs' ∧ cs'.size = cs.size := by
  induction vs with
  | nil => intro o w cs h; exact ⟨cs, h, rfl⟩
  | cons v vs ih =>
    intro o w cs h
    obtain ⟨cs', h1, h2⟩ := ih (o + 1) (w.setCell ⟨g, o, none⟩ v) _ (h.set o v)
    exact ⟨cs', h1, by rw [h2]; simp⟩
theorem Below.setCells {B g : Nat} (vs : List Value) : ∀ (o : Nat) {w W : World}, Below B w W → B ≤ g → Below B w (W.setCells g o vs) := by
  induction vs with
  | nil => intro o w W h _; exact h
  | cons v vs ih => intro o w W h hB; exact ih (o + 1) (Below.setCell h hB v) hB
theorem ins_len (q : List Int) (i : Nat) (x : Int) (hi : i ≤ q.length) : (q.take i ++ x :: q.drop i).length = q.length + 1 := by
  simp only [List.length_append, List.length_take, List.length_cons, List.length_drop]; omega
theorem ins_get (q : List Int) (i : Nat) (x : Int) (hi : i ≤ q.length) (j : Nat) (hj : j < (q.take i ++ x :: q.drop i).length) :
    (q.take i ++ x :: q.drop i)[j] = if h : j < i then q[j]'(by omega) else if h2 : j = i then x else q[j - 1]'(by rw [ins_len q i x hi] at hj; omega) := by
  by_cases h : j < i
  · rw [dif_pos h, List.getElem_append_left (by rw [List.length_take]; omega), List.getElem_take]
  · rw [dif_neg h, List.getElem_append_right (by rw [List.length_take]; omega)]
    by_cases h2 : j = i
    · rw [dif_pos h2]
      have : j - (q.take i).length = 0 := by rw [List.length_take]; omega
      simp only [this, List.getElem_cons_zero]
    · rw [dif_neg h2]
      have : j - (q.take i).length = (j - 1 - i) + 1 := by rw [List.length_take]; omega
      simp only [this, List.getElem_cons_succ, List.getElem_drop, show i + (j - 1 - i) = j - 1 by omega]
theorem one_int (l : List Int) : ∀ v ∈ l.map (Value.int .i64), v.oneCell' = true := by
  intro v hv
  obtain ⟨x, _, rfl⟩ := List.mem_map.1 hv
  rfl
theorem shape_row {w : World} {b : Nat} {T : TypeId} {cs : Array Value} (h : RowAt w b T cs) : w.shape? b = some (T, cs.size) := by
  unfold World.shape?
  rw [show w.heap[b]? = _ from h]

set_option maxHeartbeats 2000000 in
theorem insert_any (q : List Int) (B : Nat) (V : Value) (x : Int) (i : Nat) (w : World) (hR : InRow w B V q) (hB : B ≤ w.heap.size) (hi : i ≤ q.length) (hl : q.length ≤ 300000) :
    Calls Try.prog 62 #[V, .int .i64 i, .slice (some ⟨w.heap.size, 0, none⟩) 1 1] (w.alloc (.cells #[.int .i64 x] 3)) fun e w' => ∃ v : Value, e = .returned v ∧ InRow w' B v (q.take i ++ x :: q.drop i) ∧ Below B w w' := by
  have hX : RowAt (w.alloc (.cells #[.int .i64 x] 3)) w.heap.size 3 #[.int .i64 x] := RowAt.new w _ _
  have hS : (w.alloc (.cells #[.int .i64 x] 3)).heap.size = w.heap.size + 1 := World.size_alloc _ _
  have hBW : Below B w (w.alloc (.cells #[.int .i64 x] 3)) := (Below.refl B w).alloc hB _
  have hvs : ∀ j v, [Value.int .i64 x][j]? = some v → (w.alloc (.cells #[.int .i64 x] 3)).cell? ⟨w.heap.size, 0 + j, none⟩ = some v := by
    intro j v hv
    cases j with
    | zero => rw [hX.cell]; exact hv
    | succ j => cases hv
  have et : Try.insI_ren.t 3 = 3 := rfl
  have h1v : ∀ v ∈ [Value.int .i64 x], v.oneCell' = true := by intro v hv; rw [List.mem_singleton.1 hv]; rfl
  have hrow := hR
  obtain ⟨_, hR2⟩ := hR
  rcases hR2 with ⟨rfl, h0⟩ | ⟨g, cap, cur, rfl, hBg, hheap, hnc, hcm, hsz, htake⟩
  · have hq : q = [] := List.eq_nil_of_length_eq_zero h0
    subst hq
    obtain rfl : i = 0 := by simpa using hi
    generalize w.alloc (.cells #[.int .i64 x] 3) = W1 at *
    refine (Any2.slices_Insert_int_end_grow Try.insI none 0 0 w.heap.size 0 1 1 [] [.int .i64 x] W1 (by omega) (by omega) (by omega) (by omega) rfl rfl (fun _ => rfl) (fun a h => by cases h) hvs h1v).mono ?_
    rintro e w' ⟨rfl, rfl⟩
    rw [et]
    obtain ⟨G, hG⟩ : ∃ G, G = grownCap W1 (0 + 1) 0 3 := ⟨_, rfl⟩
    have g1 : 0 + 1 ≤ G := by rw [hG]; exact grownCap_ge W1 (0 + 1) 0 _
    have g2 : G ≤ maxLen := by rw [hG]; exact grownCap_le_maxLen W1 (0 + 1) 0 _ (by unfold maxLen; omega)
    have hrw : RowAt (W1.drew.alloc (.cells (([] ++ [Value.int .i64 x]).toArray ++ Builtin.zeroCells (Value.int .i64 0).cells (G - (0 + 1))) 3)) W1.drew.heap.size 3 _ := RowAt.new _ _ _
    rw [hG] at hrw
    refine ⟨_, rfl, row_of_cells (l := [x]) hrw ?_ ?_ ?_ (by show B ≤ W1.heap.size; omega) ?_, hBW.drew.alloc (by show B ≤ W1.heap.size; omega) _⟩
    · show grownCap W1 (0 + 1) 0 3 = _
      have hz : (Value.int IntKind.i64 0).cells.size = 1 := rfl
      simp only [Array.size_append, size_zeroCells, hz, List.nil_append, List.size_toArray, List.length_cons, List.length_nil]
      omega
    · show 1 ≤ grownCap W1 (0 + 1) 0 3; omega
    · show grownCap W1 (0 + 1) 0 3 ≤ maxLen; omega
    · intro j hj
      obtain rfl : j = 0 := by simp at hj; omega
      exact (hrw.cell 0).trans (by rw [Array.getElem?_append_left (by simp)]; rfl)
  · have hgl : g < w.heap.size := (Array.getElem?_eq_some_iff.1 hheap).1
    have hC : RowAt (w.alloc (.cells #[.int .i64 x] 3)) g 3 cur := RowAt.alloc (show RowAt w g 3 cur from hheap) _
    have hcs : ∀ j v, (q.map (Value.int .i64))[j]? = some v → (w.alloc (.cells #[.int .i64 x] 3)).cell? ⟨g, 0 + j, none⟩ = some v := by
      intro j v hv
      rw [List.getElem?_map] at hv
      by_cases hj : j < q.length
      · rw [List.getElem?_eq_getElem hj] at hv
        have := KRow.cell inC_size (KRow.alloc hrow (.cells #[.int .i64 x] 3)) j hj 0 (by omega)
        rw [Nat.mul_one, Nat.add_zero] at this
        rw [Nat.zero_add, this]
        simpa [inC] using hv
      · rw [List.getElem?_eq_none (by omega)] at hv; cases hv
    have hcl : (q.map (Value.int .i64)).length = q.length := List.length_map _
    have hsp : ∀ j, j < cap → ((w.alloc (.cells #[.int .i64 x] 3)).cell? ⟨g, j, none⟩).isSome = true := by
      intro j hj
      rw [hC.cell, Array.getElem?_eq_getElem (by omega)]; rfl
    have hcell : ∀ j (hj : j < q.length), (w.alloc (.cells #[.int .i64 x] 3)).cell? ⟨g, j, none⟩ = some (.int .i64 q[j]) := by
      intro j hj
      have := hcs j (.int .i64 q[j]) (by rw [List.getElem?_map, List.getElem?_eq_getElem hj]; rfl)
      rwa [Nat.zero_add] at this
    generalize w.alloc (.cells #[.int .i64 x] 3) = W1 at *
    have hm63 : maxLen = 9223372036854775807 := rfl
    by_cases hroom : q.length + 1 ≤ cap
    · by_cases hin : i < q.length
      · refine (Any2.slices_Insert_int_shift Try.insI g 0 q.length cap i w.heap.size 0 1 1 (q.map (Value.int .i64)) [.int .i64 x] W1 hin (by omega) hroom (by omega) (by omega) hcl rfl hcs (fun j hj => by rw [Nat.zero_add]; exact hsp j (by omega)) (fun j hj => hC.frozen _) hvs (one_int q) h1v 3 3 1 cur.size (shape_row hX) (shape_row hC) (by omega) (hX.frozen _) (hX.frozen _)).mono ?_
        rintro e w' ⟨rfl, rfl⟩
        obtain ⟨cs1, r1, s1⟩ := setCells_row (w := W1.drew) ((q.map (Value.int .i64)).drop i) (0 + (i + 1)) W1.drew cur hC
        obtain ⟨cs2, r2, s2⟩ := setCells_row (w := W1.drew) [Value.int .i64 x] (0 + i) _ cs1 r1
        have hlen := ins_len q i x hi
        rw [show q.length + 1 = (q.take i ++ x :: q.drop i).length from hlen.symm]
        refine ⟨_, rfl, row_of_cells r2 (by omega) (by omega) hcm hBg ?_, Below.setCells _ _ (Below.setCells _ _ hBW.drew hBg) hBg⟩
        have hdl : ((q.map (Value.int .i64)).drop i).length = q.length - i := by simp
        intro j hj
        rw [hlen] at hj
        rw [ins_get q i x hi j (by omega)]
        have isS : ∀ k, k < 1 → ((W1.drew.setCells g (0 + (i + 1)) ((q.map (Value.int .i64)).drop i)).cell? ⟨g, 0 + i + k, none⟩).isSome = true := by
          intro k hk
          rw [r1.cell, Array.getElem?_eq_getElem (by omega)]; rfl
        have isS1 : ∀ k, k < ((q.map (Value.int .i64)).drop i).length → (W1.drew.cell? ⟨g, 0 + (i + 1) + k, none⟩).isSome = true := by
          intro k hk
          exact hsp _ (by omega)
        by_cases c1 : j < i
        · rw [dif_pos c1, World.cell?_setCells_out g _ _ _ ⟨g, j, none⟩ (fun _ _ => Or.inl (by show j < 0 + i; omega)), World.cell?_setCells_out g _ _ _ ⟨g, j, none⟩ (fun _ _ => Or.inl (by show j < 0 + (i + 1); omega))]
          exact hcell j (by omega)
        · rw [dif_neg c1]
          by_cases c2 : j = i
          · rw [dif_pos c2]
            have := World.cell?_setCells_in g [Value.int .i64 x] (0 + i) _ (fun k hk => isS k (by simpa using hk)) 0 (by simp)
            rw [show 0 + i + 0 = j by omega] at this
            exact this
          · rw [dif_neg c2, World.cell?_setCells_out g _ _ _ ⟨g, j, none⟩ (fun _ _ => Or.inr (by show 0 + i + 1 ≤ j; omega))]
            have := World.cell?_setCells_in g ((q.map (Value.int .i64)).drop i) (0 + (i + 1)) W1.drew isS1 (j - 1 - i) (by omega)
            rw [show 0 + (i + 1) + (j - 1 - i) = j by omega] at this
            rw [this]
            simp [show i + (j - 1 - i) = j - 1 by omega]
      · obtain rfl : i = q.length := by omega
        refine (Any2.slices_Insert_int_end_room Try.insI g 0 q.length cap w.heap.size 0 1 1 [.int .i64 x] W1 (by omega) hroom (by omega) rfl (fun j hj => by rw [Nat.zero_add]; exact hsp _ (by omega)) (fun j hj => hC.frozen _) hvs h1v).mono ?_
        rintro e w' ⟨rfl, rfl⟩
        obtain ⟨cs2, r2, s2⟩ := setCells_row (w := W1) [Value.int .i64 x] (0 + q.length) _ cur hC
        have hlen := ins_len q q.length x hi
        rw [show q.length + 1 = (q.take q.length ++ x :: q.drop q.length).length from hlen.symm]
        refine ⟨_, rfl, row_of_cells r2 (by omega) (by omega) hcm hBg ?_, Below.setCells _ _ hBW hBg⟩
        intro j hj
        rw [hlen] at hj
        rw [ins_get q q.length x hi j (by omega)]
        by_cases c1 : j < q.length
        · rw [dif_pos c1, World.cell?_setCells_out g _ _ _ ⟨g, j, none⟩ (fun _ _ => Or.inl (by show j < 0 + q.length; omega))]
          exact hcell j c1
        · rw [dif_neg c1, dif_pos (by omega)]
          have := World.cell?_setCells_in g [Value.int .i64 x] (0 + q.length) W1 (fun k hk => hsp _ (by simp at hk; omega)) 0 (by simp)
          rw [show 0 + q.length + 0 = j by omega] at this
          exact this
    · have hlen := ins_len q i x hi
      obtain ⟨G, hG⟩ : ∃ G, G = grownCap W1 (q.length + 1) cap 3 := ⟨_, rfl⟩
      have g1 : q.length + 1 ≤ G := by rw [hG]; exact grownCap_ge W1 _ _ _
      have g2 : G ≤ maxLen := by rw [hG]; exact grownCap_le_maxLen W1 _ _ _ (by unfold maxLen; omega)
      have hz : (Value.int IntKind.i64 0).cells.size = 1 := rfl
      by_cases hin : i < q.length
      · refine (Any2.slices_Insert_int_grow Try.insI g 0 q.length cap i w.heap.size 0 1 1 (q.map (Value.int .i64)) [.int .i64 x] W1 hin (by omega) hnc (by omega) (by omega) hcl rfl hcs hvs (one_int q) h1v).mono ?_
        rintro e w' ⟨rfl, rfl⟩
        rw [et, show grownCap W1 (q.length + 1) cap 3 = G from hG.symm]
        obtain ⟨big, hbig⟩ : ∃ big, big = ((q.map (Value.int .i64)).take i).toArray ++ Builtin.zeroCells (Value.int .i64 0).cells (q.length + 1 - i) ++ Builtin.zeroCells (Value.int .i64 0).cells (G - (q.length + 1)) := ⟨_, rfl⟩
        rw [← hbig]
        have hbs : big.size = G := by
          rw [hbig]
          simp only [Array.size_append, size_zeroCells, hz, List.size_toArray, List.length_take, List.length_map]
          omega
        have r0 : RowAt (W1.alloc (.cells big 3)).drew W1.heap.size 3 big := RowAt.new W1 _ _
        obtain ⟨cs1, r1, s1⟩ := setCells_row (w := W1) [Value.int .i64 x] i _ big r0
        have r1' : RowAt (((W1.alloc (.cells big 3)).drew.setCells W1.heap.size i [Value.int .i64 x]).drew) W1.heap.size 3 cs1 := r1
        obtain ⟨cs2, r2, s2⟩ := setCells_row (w := W1) ((q.map (Value.int .i64)).drop i) (i + 1) _ cs1 r1'
        have hBB : B ≤ W1.heap.size := by omega
        rw [show q.length + 1 = (q.take i ++ x :: q.drop i).length from hlen.symm]
        refine ⟨_, rfl, row_of_cells r2 (by omega) (by omega) g2 hBB ?_, Below.setCells _ _ (Below.setCells _ _ (hBW.alloc hBB _).drew hBB).drew hBB⟩
        have hdl : ((q.map (Value.int .i64)).drop i).length = q.length - i := by simp
        intro j hj
        rw [hlen] at hj
        rw [ins_get q i x hi j (by omega)]
        have isS0 : ∀ k, k < 1 → ((W1.alloc (.cells big 3)).drew.cell? ⟨W1.heap.size, i + k, none⟩).isSome = true := by
          intro k hk
          rw [r0.cell, Array.getElem?_eq_getElem (by omega)]; rfl
        have isS1 : ∀ k, k < ((q.map (Value.int .i64)).drop i).length → ((((W1.alloc (.cells big 3)).drew.setCells W1.heap.size i [Value.int .i64 x]).drew).cell? ⟨W1.heap.size, i + 1 + k, none⟩).isSome = true := by
          intro k hk
          rw [r1'.cell, Array.getElem?_eq_getElem (by omega)]; rfl
        by_cases c1 : j < i
        · rw [dif_pos c1, World.cell?_setCells_out W1.heap.size _ _ _ ⟨W1.heap.size, j, none⟩ (fun _ _ => Or.inl (by show j < i + 1; omega))]
          show ((W1.alloc (.cells big 3)).drew.setCells W1.heap.size i [Value.int .i64 x]).cell? ⟨W1.heap.size, j, none⟩ = _
          rw [World.cell?_setCells_out W1.heap.size _ _ _ ⟨W1.heap.size, j, none⟩ (fun _ _ => Or.inl (by show j < i; omega)), r0.cell, hbig, Array.append_assoc, Array.getElem?_append_left (by simp; omega)]
          simp [List.getElem?_take, c1, show j < q.length by omega]
        · rw [dif_neg c1]
          by_cases c2 : j = i
          · rw [dif_pos c2, World.cell?_setCells_out W1.heap.size _ _ _ ⟨W1.heap.size, j, none⟩ (fun _ _ => Or.inl (by show j < i + 1; omega))]
            have := World.cell?_setCells_in W1.heap.size [Value.int .i64 x] i _ (fun k hk => isS0 k (by simpa using hk)) 0 (by simp)
            rw [show i + 0 = j by omega] at this
            exact this
          · rw [dif_neg c2]
            have := World.cell?_setCells_in W1.heap.size ((q.map (Value.int .i64)).drop i) (i + 1) _ isS1 (j - 1 - i) (by omega)
            rw [show i + 1 + (j - 1 - i) = j by omega] at this
            rw [this]
            simp [show i + (j - 1 - i) = j - 1 by omega]
      · obtain rfl : i = q.length := by omega
        refine (Any2.slices_Insert_int_end_grow Try.insI (some ⟨g, 0, none⟩) q.length cap w.heap.size 0 1 1 (q.map (Value.int .i64)) [.int .i64 x] W1 (by omega) hnc (by omega) (by omega) hcl rfl (fun h => by cases h) (fun a ha j v hv => by
          have := hcs j v hv
          rw [← Option.some.inj ha, Addr.add_lit]
          exact this) hvs h1v).mono ?_
        rintro e w' ⟨rfl, rfl⟩
        rw [et, show grownCap W1 (q.length + 1) cap 3 = G from hG.symm]
        have r2 : RowAt (W1.drew.alloc (.cells ((q.map (Value.int .i64) ++ [Value.int .i64 x]).toArray ++ Builtin.zeroCells (Value.int .i64 0).cells (G - (q.length + 1))) 3)) W1.drew.heap.size 3 _ := RowAt.new _ _ _
        have hBB : B ≤ W1.heap.size := by omega
        rw [show q.length + 1 = (q.take q.length ++ x :: q.drop q.length).length from hlen.symm] at r2 ⊢
        refine ⟨_, rfl, row_of_cells r2 ?_ (by omega) g2 hBB ?_, hBW.drew.alloc hBB _⟩
        · rw [hlen]
          simp only [Array.size_append, size_zeroCells, hz, List.size_toArray, List.length_append, List.length_map, List.length_cons, List.length_nil]
          omega
        · intro j hj
          rw [ins_get q q.length x hi j hj]
          rw [hlen] at hj
          have e0 : (W1.drew.alloc (.cells ((q.map (Value.int .i64) ++ [Value.int .i64 x]).toArray ++ Builtin.zeroCells (Value.int .i64 0).cells (G - (q.take q.length ++ x :: q.drop q.length).length)) 3)).cell? ⟨W1.heap.size, j, none⟩ = _ := r2.cell j
          rw [e0, Array.getElem?_append_left (by simp; omega)]
          by_cases c1 : j < q.length
          · rw [dif_pos c1]; simp [List.getElem?_append_left, c1]
          · rw [dif_neg c1, dif_pos (by omega)]
            obtain rfl : j = q.length := by omega
            simp
end Go.Proofs.Ytgihljconpijaaa

namespace Go.Proofs.Ytgihljconpijaaa
open Go Go.RowKit Go.Joins Go.Sort
set_option linter.unusedVariables false
set_option linter.unusedSimpArgs false

theorem delete_any (q : List Int) (B g c i : Nat) (w : World) (hR : InRow w B (.slice (some ⟨g, 0, none⟩) q.length c) q) (hB : B ≤ w.heap.size) (hi : i < q.length) :
    Calls Try.prog 61 #[.slice (some ⟨g, 0, none⟩) q.length c, .int .i64 i, .int .i64 ((i + 1 : Nat) : Int)] w fun e w' => ∃ v : Value, e = .returned v ∧ InRow w' B v (q.take i ++ q.drop (i + 1)) ∧ Below B w w' := by
  have hrow := hR
  obtain ⟨_, hR2⟩ := hR
  rcases hR2 with ⟨h, _⟩ | ⟨g', cap, cur, he, hBg, hheap, hnc, hcm, hsz, htake⟩
  · cases h
  · have h1 := Value.slice.inj he
    obtain ⟨h2, _, h4⟩ := h1
    obtain rfl : g = g' := by have := Option.some.inj h2; exact congrArg Addr.block this
    subst h4
    have hC : RowAt w g 3 cur := hheap
    have hm63 : maxLen = 9223372036854775807 := rfl
    have hcell : ∀ j (hj : j < q.length), w.cell? ⟨g, 0 + j, none⟩ = some (.int .i64 q[j]) := by
      intro j hj
      have := KRow.cell inC_size hrow j hj 0 (by omega)
      rw [Nat.mul_one, Nat.add_zero] at this
      rw [Nat.zero_add, this]; rfl
    have hH : Holds (Value.int .i64) w g 0 q.toArray := by
      intro j hj
      have hj' : j < q.length := by simpa using hj
      refine ⟨?_, hC.frozen _⟩
      rw [hcell j hj']
      simp [hj']
    refine (Try.slices_Delete_int g 0 c i (i + 1) q w hH hnc (by omega) (by omega) (by omega)).mono ?_
    rintro e w' ⟨rfl, m, rfl⟩
    have hlen : (q.take i ++ q.drop (i + 1)).length = q.length - (i + 1 - i) := by simp only [List.length_append, List.length_take, List.length_drop]; omega
    obtain ⟨d, hd⟩ : ∃ d, d = q.take i ++ q.drop (i + 1) ++ List.replicate (i + 1 - i) 0 := ⟨_, rfl⟩
    have hdl : d.length = q.length := by rw [hd, List.length_append, hlen, List.length_replicate]; omega
    rw [← hd]
    have hH2 : Holds (Value.int .i64) (Sort.ahead w m) g 0 q.toArray := hH
    have r : RowAt (putRow (Value.int .i64) (Sort.ahead w m) g 0 d.toArray) g 3 (putCells (Value.int .i64) 0 d.toArray cur) := by
      show (putRow (Value.int .i64) (Sort.ahead w m) g 0 d.toArray).heap[g]? = _
      simp [putRow, mapBlock, Sort.ahead, Array.getElem?_modify, hheap, onCells]
    have hg : w.grownBy (putRow (Value.int .i64) (Sort.ahead w m) g 0 d.toArray) (some g) := by
      refine ⟨rfl, rfl, rfl, by simp [Sort.ahead], fun k hk hne => ?_⟩
      have : g ≠ k := fun e => hne (by rw [e])
      simp [putRow, mapBlock, Sort.ahead, Array.getElem?_modify, this]
    rw [show q.length - (i + 1 - i) = (q.take i ++ q.drop (i + 1)).length from hlen.symm]
    refine ⟨_, rfl, row_of_cells r (by simp [putCells]; omega) (by omega) hcm hBg ?_, (Below.refl B w).grown hg hB (fun k hk => by rw [← Option.some.inj hk]; exact hBg)⟩
    intro j hj
    have hjd : j < d.length := by omega
    have := cell?_putRow (Value.int .i64) (Sort.ahead w m) g 0 q.toArray d.toArray hH2 (by simpa using hdl) j (by simpa using hjd)
    rw [Nat.zero_add] at this
    rw [this]
    have e1 : d.toArray[j]! = d[j] := by simp [hjd]
    rw [e1]
    have e2 : d[j] = (q.take i ++ q.drop (i + 1))[j] := by
      subst hd
      rw [List.getElem_append_left hj]
    rw [e2]

/-! The place that a search finds. -/
theorem cnt_split (q : List Int) (x : Int) (hs : q.Pairwise (· < ·)) : q.countP (· < x) ≤ q.length ∧ (∀ j (h : j < q.length), j < q.countP (· < x) → q[j] < x) ∧ (∀ h : q.countP (· < x) < q.length, x ≤ q[q.countP (· < x)]) := by
  induction q with
  | nil => exact ⟨Nat.le_refl _, fun j h => absurd h (by simp), fun h => absurd h (by simp)⟩
  | cons e q ih =>
    rw [List.pairwise_cons] at hs
    obtain ⟨i1, i2, i3⟩ := ih hs.2
    by_cases he : e < x
    · have hc : (e :: q).countP (· < x) = q.countP (· < x) + 1 := by rw [List.countP_cons]; simp [he]
      simp only [hc, List.length_cons]
      refine ⟨by omega, fun j h hj => ?_, fun h => ?_⟩
      · cases j with
        | zero => exact he
        | succ j => exact i2 j (by omega) (by omega)
      · simp only [List.getElem_cons_succ]
        exact i3 (by omega)
    · have h0 : q.countP (· < x) = 0 := by
        rw [List.countP_eq_zero]
        intro a ha
        have := hs.1 a ha
        simp only [decide_eq_true_eq]; omega
      have hc : (e :: q).countP (· < x) = 0 := by rw [List.countP_cons, h0]; simp [he]
      simp only [hc, List.length_cons]
      refine ⟨by omega, fun j h hj => absurd hj (by omega), fun h => ?_⟩
      simp only [List.getElem_cons_zero]; omega
theorem cnt_found (q : List Int) (x : Int) (hs : q.Pairwise (· < ·)) : q.contains x = true ↔ ∃ h : q.countP (· < x) < q.length, q[q.countP (· < x)] = x := by
  obtain ⟨i1, i2, i3⟩ := cnt_split q x hs
  constructor
  · intro h
    have hx : x ∈ q := by simpa using h
    obtain ⟨j, hj, rfl⟩ := List.getElem_of_mem hx
    have h1 : ¬ j < q.countP (· < q[j]) := fun h => by have := i2 j hj h; omega
    have h2 : q.countP (· < q[j]) < q.length := by omega
    refine ⟨h2, ?_⟩
    by_cases h3 : q.countP (· < q[j]) = j
    · simp only [h3]
    · have := List.pairwise_iff_getElem.1 hs _ j h2 hj (by omega)
      have := i3 h2
      omega
  · rintro ⟨h, e⟩
    have : x ∈ q := by rw [← e]; exact List.getElem_mem h
    simpa using this
theorem oe_pair {n : Int} (q : List Int) : ∀ b : Int, oe b q n = true → q.Pairwise (· < ·) ∧ ∀ e ∈ q, b < e := by
  induction q with
  | nil => intro b _; exact ⟨List.Pairwise.nil, fun e h => by cases h⟩
  | cons e q ih =>
    intro b h
    rw [oe_cons] at h
    obtain ⟨p1, p2⟩ := ih e h.2.2
    refine ⟨List.pairwise_cons.2 ⟨p2, p1⟩, fun a ha => ?_⟩
    rcases List.mem_cons.1 ha with rfl | ha
    · exact h.1
    · have := p2 a ha; omega
theorem tn_found {q : List Int} {x : Int} (hs : q.Pairwise (· < ·)) (h : q.contains x = true) : ∃ i : Nat, i < q.length ∧ q.countP (· < x) = i ∧ tn q x = q.take i ++ q.drop (i + 1) := by
  obtain ⟨i1, i2, i3⟩ := cnt_split q x hs
  obtain ⟨h1, h2⟩ := (cnt_found q x hs).1 h
  refine ⟨_, h1, rfl, ?_⟩
  rw [tn_at q _ i1 i2 i3, dif_pos h1, if_pos h2]
theorem tn_not {q : List Int} {x : Int} (hs : q.Pairwise (· < ·)) (h : q.contains x = false) : ∃ i : Nat, i ≤ q.length ∧ q.countP (· < x) = i ∧ tn q x = q.take i ++ x :: q.drop i := by
  obtain ⟨i1, i2, i3⟩ := cnt_split q x hs
  refine ⟨_, i1, rfl, ?_⟩
  rw [tn_at q _ i1 i2 i3]
  by_cases h1 : q.countP (· < x) < q.length
  · rw [dif_pos h1, if_neg (fun h2 => by rw [(cnt_found q x hs).2 ⟨h1, h2⟩] at h; cases h)]
  · rw [dif_neg h1, show q.countP (· < x) = q.length by omega, List.take_length, List.drop_length]

set_option maxRecDepth 20000 in
theorem bs_nil (x : Int) (w : World) : Calls Try.prog 60 #[.slice none 0 0, .int .i64 x] w fun e w' => e = .returned (.tuple #[.int .i64 0, .bool false]) ∧ Below w.heap.size w w' := by
  go_enter Try.func60, Try.ntmps60
  go_wp2
  go_loopw [7, 8] (fun i j wr => i = .int .i64 0 ∧ j = .int .i64 0 ∧ wr = w) (fun _ _ _ => 0)
  case atStart => exact ⟨rfl, rfl, rfl⟩
  case round =>
    obtain ⟨rfl, rfl, rfl⟩ := hrel
    go_wp2
    go_returns
    exact ⟨rfl, Below.refl _ _⟩

theorem search_any (q : List Int) (B : Nat) (V : Value) (x : Int) (w : World) (hR : InRow w B V q) (hs : q.Pairwise (· < ·)) (hl : q.length ≤ 300000) :
    Calls Try.prog 60 #[V, .int .i64 x] w fun e w' => e = .returned (.tuple #[.int .i64 (q.countP (· < x) : Nat), .bool (q.contains x)]) ∧ Below w.heap.size w w' := by
  rcases Nat.eq_zero_or_pos q.length with h0 | h0
  · have hq : q = [] := List.eq_nil_of_length_eq_zero h0
    subst hq
    obtain ⟨_, hR2⟩ := hR
    rcases hR2 with ⟨rfl, _⟩ | ⟨g, cap, cur, rfl, hBg, hheap, hnc, hcm, hsz, htake⟩
    · exact bs_nil x w
    · refine (Try.slices_BinarySearch_int g 0 0 cap [] x w (by simp) (by omega) (fun j hj => absurd hj (by simp)) (by simp)).mono ?_
      rintro e w' ⟨rfl, m, rfl⟩
      exact ⟨rfl, Go.below_drewN (Below.refl _ _) _⟩
  · obtain ⟨g, c, rfl⟩ := KRow.full hR h0
    refine (Try.slices_BinarySearch_int g 0 q.length c q x w (Nat.le_refl _) (by omega) (fun j hj => ?_) (by rw [List.take_length]; exact hs.imp (fun h => by omega))).mono ?_
    · have := KRow.cell inC_size hR j hj 0 (by omega)
      rw [Nat.mul_one, Nat.add_zero] at this
      rw [Nat.zero_add, this, List.getD_eq_getElem?_getD, List.getElem?_eq_getElem hj]
      rfl
    · rintro e w' ⟨rfl, m, rfl⟩
      rw [List.take_length]
      exact ⟨rfl, Go.below_drewN (Below.refl _ _) _⟩

set_option maxRecDepth 100000 in
set_option maxHeartbeats 4000000 in
theorem turned_any (q : List Int) (B : Nat) (V : Value) (x : Int) (w : World) (hR : InRow w B V q) (hB : B ≤ w.heap.size) (hs : q.Pairwise (· < ·)) (hl : q.length ≤ 300000) :
    Calls Try.prog 37 #[V, .int .i64 x] w fun e w' => ∃ v : Value, e = .returned v ∧ InRow w' B v (tn q x) ∧ Below B w w' := by
  have HS' := search_any q B V x w hR hs hl
  cases hc : q.contains x with
  | true =>
    obtain ⟨i, hi, e1, e2⟩ := tn_found hs hc
    rw [hc, e1] at HS'
    have HS := Lib.hid HS'
    have hpos : 0 < q.length := by omega
    obtain ⟨g, c, rfl⟩ := KRow.full hR hpos
    have HD := fun w' (hb : Below w.heap.size w w') => delete_any q B g c i w' (hR.keep hb) (Nat.le_trans hB hb.size) hi
    simp only [Int.natCast_add, Int.natCast_one] at HD
    have HD := Lib.hid HD
    have HT := Lib.hid e2
    have hw := IntWalk.i64_in ((i : Int) + 1) (by omega)
    have HBh := Lib.hid hB
    clear HS' hR hs hc e1 e2 hB
    generalize tn q x = t at *
    generalize q.take i ++ q.drop (i + 1) = t' at *
    generalize q.length = n at *
    go_enter Try.func37, Try.ntmps37
    go_wp2_with (first
      | (go_at_call 60; go_must (refine HS.out.mono ?_; rintro e1 w1 ⟨rfl, b1⟩; have B1 := Lib.hid b1; clear b1))
      | (go_at_call 61; go_must (refine (HD.out _ B1.out).mono ?_; rintro e2 w2 ⟨v2, rfl, r2, b2⟩; have R2 := Lib.hid r2; have B2 := Lib.hid ((B1.out.mono HBh.out).trans b2); clear r2 b2)))
    go_returns
    exact ⟨_, rfl, by rw [HT.out]; exact R2.out, B2.out⟩
  | false =>
    obtain ⟨i, hi, e1, e2⟩ := tn_not hs hc
    rw [hc, e1] at HS'
    have HS := Lib.hid HS'
    obtain ⟨A, n, c, rfl, hn⟩ := KRow.form hR
    subst hn
    have HI := Lib.hid (fun w' (hb : Below w.heap.size w w') => insert_any q B _ x i w' (hR.keep hb) (Nat.le_trans hB hb.size) hi hl)
    have HT := Lib.hid e2
    have HBh := Lib.hid hB
    clear HS' hR hs hc e1 e2 hB
    generalize tn q x = t at *
    generalize q.take i ++ x :: q.drop i = t' at *
    generalize q.length = n at *
    go_enter Try.func37, Try.ntmps37
    go_wp2_with (first
      | (go_at_call 60; go_must (refine HS.out.mono ?_; rintro e1 w1 ⟨rfl, b1⟩; have B1 := Lib.hid b1; clear b1))
      | (go_at_call 62; go_must (refine (HI.out _ B1.out).mono ?_; rintro e2 w2 ⟨v2, rfl, r2, b2⟩; have R2 := Lib.hid r2; have B2 := Lib.hid ((B1.out.mono HBh.out).trans b2); clear r2 b2)))
    go_returns
    exact ⟨_, rfl, by rw [HT.out]; exact R2.out, B2.out⟩
end Go.Proofs.Ytgihljconpijaaa

namespace Go.Proofs.Ytgihljconpijaaa
open Go Go.RowKit Go.Joins
set_option linter.unusedVariables false
set_option linter.unusedSimpArgs false

theorem es_good {l : List Rn} (h : vl l = true) (h0 : 1 ≤ lg l) : oe 0 (es (cl l)) (lg l) = true ∧ ((atV l 0).1 = 0 ∨ (atV l 0).1 = 1) ∧ (es (cl l)).length ≤ 262144 := by
  obtain ⟨v1, v2, v3⟩ := (vl_iff l).1 h
  have hne : l ≠ [] := by rintro rfl; simp only [lg] at h0; omega
  obtain ⟨w1, w2⟩ := again h hne
  rw [lgV_yes h] at w2
  have hlv : (atV l 0).1 = 0 ∨ (atV l 0).1 = 1 := by
    rcases atV_one l 0 with h | h
    · exact h.2
    · rw [h] at w1; cases w1
  have hl := es_len (cl l)
  have hc := cl_len l
  refine ⟨?_, hlv, by omega⟩
  cases hc : oe 0 (es (cl l)) (lg l) with
  | true => rfl
  | false =>
    by_cases hh : 262144 ≤ (es (cl l)).length
    · rw [feR_6 hlv (by omega) hh] at w2; exact absurd (show (6 : Int) = 0 from congrArg Prod.snd w2) (by decide)
    · rw [feR_7 hlv (by omega) hh hc] at w2; exact absurd (show (7 : Int) = 0 from congrArg Prod.snd w2) (by decide)

set_option maxRecDepth 100000 in
set_option maxHeartbeats 8000000 in
theorem insertG_any (l : List Rn) (a t : Int) (V : Value) (w : World) (hT : RnArg w V l) (ha1 : a ≤ 9223372036854775807) (ht1 : t ≤ 9223372036854775807) :
    Calls Try.prog 20 #[V, .int .i64 a, .int .i64 t] w (RnRes (inR l a t) w) := by
  have HV := Lib.hid (fun w' (hb : Below w.heap.size w w') => valid_any l V w' (hT.keep hb))
  cases hv : vl l with
  | false =>
    have HR := Lib.hid (inR_1 (l := l) (a := a) (t := t) (by rw [hv]; decide))
    rw [hv] at HV
    obtain ⟨A, c, rfl⟩ := hT.form
    clear hv hT
    go_enter Try.func20, Try.ntmps20
    go_wp2_with (first
      | (go_at_call 23; go_must (refine (HV.out _ (Below.refl _ _)).mono ?_; rintro e1 w1 ⟨rfl, b1⟩; have B1 := Lib.hid b1; clear b1)))
    go_returns
    exact RnRes.no HR.out B1.out
  | true =>
    have HL := fun w' (hb : Below w.heap.size w w') => long_any l V w' (hT.keep hb)
    rw [hv] at HV
    rw [lgV_yes hv] at HL
    have HL := Lib.hid HL
    obtain ⟨v1, v2, v3⟩ := (vl_iff l).1 hv
    have hg0 := gd_nonneg v2
    by_cases hbad : a < 0 ∨ t < 1 ∨ lg l - a < t
    · have HR := Lib.hid (inR_2 hv hbad)
      obtain ⟨A, c, rfl⟩ := hT.form
      clear hv hT v1 v2
      generalize lg l = G at *
      by_cases d1 : a < 0
      · have d1' : decide (a < 0) = true := decide_eq_true d1
        clear hbad
        go_enter Try.func20, Try.ntmps20
        go_wp2_with (first
          | (go_at_call 23; go_must (refine (HV.out _ (Below.refl _ _)).mono ?_; rintro e1 w1 ⟨rfl, b1⟩; have B1 := Lib.hid b1; clear b1))
          | (go_at_call 25; go_must (refine (HL.out _ B1.out).mono ?_; rintro e2 w2 ⟨rfl, b2⟩; have B2 := Lib.hid (B1.out.trans (b2.mono B1.out.size)); clear b2)))
        go_returns
        exact RnRes.no HR.out B2.out
      have d1' : decide (a < 0) = false := decide_eq_false d1
      by_cases d2 : t < 1
      · have d2' : decide (t < 1) = true := decide_eq_true d2
        clear hbad
        go_enter Try.func20, Try.ntmps20
        go_wp2_with (first
          | (go_at_call 23; go_must (refine (HV.out _ (Below.refl _ _)).mono ?_; rintro e1 w1 ⟨rfl, b1⟩; have B1 := Lib.hid b1; clear b1))
          | (go_at_call 25; go_must (refine (HL.out _ B1.out).mono ?_; rintro e2 w2 ⟨rfl, b2⟩; have B2 := Lib.hid (B1.out.trans (b2.mono B1.out.size)); clear b2)))
        go_returns
        exact RnRes.no HR.out B2.out
      have d2' : decide (t < 1) = false := decide_eq_false d2
      have d3 : G - a < t := by omega
      have d3' : decide (G - a < t) = true := decide_eq_true d3
      have hw := IntWalk.i64_in (G - a) (by omega)
      clear hbad
      go_enter Try.func20, Try.ntmps20
      go_wp2_with (first
        | (go_at_call 23; go_must (refine (HV.out _ (Below.refl _ _)).mono ?_; rintro e1 w1 ⟨rfl, b1⟩; have B1 := Lib.hid b1; clear b1))
        | (go_at_call 25; go_must (refine (HL.out _ B1.out).mono ?_; rintro e2 w2 ⟨rfl, b2⟩; have B2 := Lib.hid (B1.out.trans (b2.mono B1.out.size)); clear b2)))
      go_returns
      exact RnRes.no HR.out B2.out
    · have d1 : ¬ a < 0 := by omega
      have d2 : ¬ t < 1 := by omega
      have d3 : ¬ lg l - a < t := by omega
      have d1' : decide (a < 0) = false := decide_eq_false d1
      have d2' : decide (t < 1) = false := decide_eq_false d2
      have d3' : decide (lg l - a < t) = false := decide_eq_false d3
      have hw := IntWalk.i64_in (lg l - a) (by omega)
      have hw2 := IntWalk.i64_in (a + t) (by omega)
      obtain ⟨g1, g2, g3⟩ := es_good hv (by omega)
      obtain ⟨p1, _⟩ := oe_pair _ 0 g1
      have HA := fun w' (hb : Below w.heap.size w w') => at_any l V 0 w' (hT.keep hb) (by omega)
      have HE := Lib.hid (fun w' (hb : Below w.heap.size w w') => edges_any l V w' (hT.keep hb))
      have hins := fun v q q' h1 h2 h3 => ins_edges (l := l) (a := a) (t := t) (v := v) (q := q) (q' := q') hv (by omega) (by omega) (by omega) h1 h2 h3
      obtain ⟨A, c, rfl⟩ := hT.form
      obtain ⟨L0, O0⟩ : ∃ x : Int × Bool, x = atV l 0 := ⟨_, rfl⟩
      obtain ⟨f, o⟩ := L0
      rw [← O0] at HA hins g2
      simp only at g2 hins
      have HA := Lib.hid (show ∀ w', Below w.heap.size w w' → Calls Try.prog 35 #[.slice A l.length c, .int .i64 0] w' fun e w'' => e = .returned (.tuple #[.int .i64 f, .bool o]) ∧ Below w'.heap.size w' w'' from HA)
      clear O0 hT
      have hw3 := IntWalk.i64_in (1 - f) (by omega)
      by_cases hz : a = 0
      · have hz' : (a == 0) = true := by rw [beq_iff_eq]; exact hz
        by_cases hs : a + t < lg l
        · have hs' : decide (a + t < lg l) = true := decide_eq_true hs
          have hI := hins _ _ _ (if_pos hz).symm (if_pos hz).symm (if_pos hs).symm
          have HT2 := Lib.hid (fun V' w' (h1 : InRow w' w.heap.size V' (es (cl l))) (hb : w.heap.size ≤ w'.heap.size) => turned_any (es (cl l)) w.heap.size V' (a + t) w' h1 hb p1 (by omega))
          have HF0 := (fun V' w' (h1 : InArg w' V' (tn (es (cl l)) (a + t))) => hI ▸ from_any (1 - f) (tn (es (cl l)) (a + t)) V' (lg l) w' h1)
          clear hins hI g1 p1 hv v1 v2 hz
          generalize inR l a t = P at *
          obtain ⟨PR, PE⟩ := P
          generalize tn (es (cl l)) (a + t) = q2 at *
          generalize es (cl l) = q at *
          generalize lg l = G at *
          have HF := Lib.hid (show ∀ V' w', InArg w' V' q2 → Calls Try.prog 38 #[.int .i64 (1 - f), V', .int .i64 G] w' fun e w'' => ∃ v : Value, e = .returned (.tuple #[v, .int .i64 PE]) ∧ RnRow w'' w'.heap.size v PR ∧ Below w'.heap.size w' w'' from HF0)
          clear HF0
          go_enter Try.func20, Try.ntmps20
          go_wp2_with (first
            | (go_at_call 23; go_must (refine (HV.out _ (Below.refl _ _)).mono ?_; rintro e1 w1 ⟨rfl, b1⟩; have B1 := Lib.hid b1; clear b1))
            | (go_at_call 25; go_must (refine (HL.out _ B1.out).mono ?_; rintro e2 w2 ⟨rfl, b2⟩; have B2 := Lib.hid (B1.out.trans (b2.mono B1.out.size)); clear b2))
            | (go_at_call 35; go_must (refine (HA.out _ B2.out).mono ?_; rintro e3 w3 ⟨rfl, b3⟩; have B3 := Lib.hid (B2.out.trans (b3.mono B2.out.size)); clear b3))
            | (go_at_call 36; go_must (refine (HE.out _ B3.out).mono ?_; rintro e4 w4 ⟨v4, rfl, r4, b4⟩; obtain ⟨EA, EN, EC, rfl, rfl⟩ := KRow.form r4; have B4 := Lib.hid (B3.out.trans (b4.mono B3.out.size)); have R4 := Lib.hid (KRow.mono r4 B3.out.size); clear r4 b4))
            | (go_at_call 37; go_must (have tok := R4.out; refine (HT2.out _ _ R4.out B4.out.size).mono ?_; rintro e6 w6 ⟨v6, rfl, r6, b6⟩; obtain ⟨GA, GN, GC, rfl, rfl⟩ := KRow.form r6; have B6 := Lib.hid (B4.out.trans b6); have R6 := Lib.hid r6; clear r6 b6))
            | (go_at_call 38; go_must (refine (HF.out _ _ (KRow.arg inC_size R6.out)).mono ?_; rintro e7 w7 ⟨v7, rfl, r7, b7⟩; obtain ⟨HA', HN, HC, rfl, hHN⟩ := KRow.form r7; clear hHN; have B7 := Lib.hid (B6.out.trans (b7.mono B6.out.size)); have R7 := Lib.hid (KRow.mono r7 B6.out.size); clear r7 b7)))
          go_returns
          exact ⟨_, rfl, R7.out, B7.out⟩
        · have hs' : decide (a + t < lg l) = false := decide_eq_false hs
          have hI := hins _ _ _ (if_pos hz).symm (if_pos hz).symm (if_neg hs).symm
          have HF0 := (fun V' w' (h1 : InArg w' V' (es (cl l))) => hI ▸ from_any (1 - f) (es (cl l)) V' (lg l) w' h1)
          clear hins hI g1 p1 hv v1 v2 hz
          generalize inR l a t = P at *
          obtain ⟨PR, PE⟩ := P
          generalize es (cl l) = q at *
          generalize lg l = G at *
          have HF := Lib.hid (show ∀ V' w', InArg w' V' q → Calls Try.prog 38 #[.int .i64 (1 - f), V', .int .i64 G] w' fun e w'' => ∃ v : Value, e = .returned (.tuple #[v, .int .i64 PE]) ∧ RnRow w'' w'.heap.size v PR ∧ Below w'.heap.size w' w'' from HF0)
          clear HF0
          go_enter Try.func20, Try.ntmps20
          go_wp2_with (first
            | (go_at_call 23; go_must (refine (HV.out _ (Below.refl _ _)).mono ?_; rintro e1 w1 ⟨rfl, b1⟩; have B1 := Lib.hid b1; clear b1))
            | (go_at_call 25; go_must (refine (HL.out _ B1.out).mono ?_; rintro e2 w2 ⟨rfl, b2⟩; have B2 := Lib.hid (B1.out.trans (b2.mono B1.out.size)); clear b2))
            | (go_at_call 35; go_must (refine (HA.out _ B2.out).mono ?_; rintro e3 w3 ⟨rfl, b3⟩; have B3 := Lib.hid (B2.out.trans (b3.mono B2.out.size)); clear b3))
            | (go_at_call 36; go_must (refine (HE.out _ B3.out).mono ?_; rintro e4 w4 ⟨v4, rfl, r4, b4⟩; obtain ⟨EA, EN, EC, rfl, rfl⟩ := KRow.form r4; have B4 := Lib.hid (B3.out.trans (b4.mono B3.out.size)); have R4 := Lib.hid (KRow.mono r4 B3.out.size); clear r4 b4))
            | (go_at_call 38; go_must (refine (HF.out _ _ (KRow.arg inC_size R4.out)).mono ?_; rintro e7 w7 ⟨v7, rfl, r7, b7⟩; obtain ⟨HA', HN, HC, rfl, hHN⟩ := KRow.form r7; clear hHN; have B7 := Lib.hid (B4.out.trans (b7.mono B4.out.size)); have R7 := Lib.hid (KRow.mono r7 B4.out.size); clear r7 b7)))
          go_returns
          exact ⟨_, rfl, R7.out, B7.out⟩
      · have hz' : (a == 0) = false := by rw [beq_eq_false_iff_ne]; exact hz
        have HT1 := Lib.hid (fun V' w' (h1 : InRow w' w.heap.size V' (es (cl l))) (hb : w.heap.size ≤ w'.heap.size) => turned_any (es (cl l)) w.heap.size V' a w' h1 hb p1 (by omega))
        obtain ⟨p2, _⟩ := oe_pair _ 0 (oe_tn (es (cl l)) 0 g1 (show 0 < a by omega) (show a < lg l by omega))
        have hl2 := tn_len (es (cl l)) a
        by_cases hs : a + t < lg l
        · have hs' : decide (a + t < lg l) = true := decide_eq_true hs
          have hI := hins _ _ _ (if_neg hz).symm (if_neg hz).symm (if_pos hs).symm
          have HT2 := Lib.hid (fun V' w' (h1 : InRow w' w.heap.size V' (tn (es (cl l)) a)) (hb : w.heap.size ≤ w'.heap.size) => turned_any (tn (es (cl l)) a) w.heap.size V' (a + t) w' h1 hb p2 (by omega))
          have HF0 := (fun V' w' (h1 : InArg w' V' (tn (tn (es (cl l)) a) (a + t))) => hI ▸ from_any f (tn (tn (es (cl l)) a) (a + t)) V' (lg l) w' h1)
          clear hins hI g1 p1 p2 hl2 hv v1 v2 hz
          generalize inR l a t = P at *
          obtain ⟨PR, PE⟩ := P
          generalize tn (tn (es (cl l)) a) (a + t) = q2 at *
          generalize tn (es (cl l)) a = q1 at *
          generalize es (cl l) = q at *
          generalize lg l = G at *
          have HF := Lib.hid (show ∀ V' w', InArg w' V' q2 → Calls Try.prog 38 #[.int .i64 f, V', .int .i64 G] w' fun e w'' => ∃ v : Value, e = .returned (.tuple #[v, .int .i64 PE]) ∧ RnRow w'' w'.heap.size v PR ∧ Below w'.heap.size w' w'' from HF0)
          clear HF0
          go_enter Try.func20, Try.ntmps20
          go_wp2_with (first
            | (go_at_call 23; go_must (refine (HV.out _ (Below.refl _ _)).mono ?_; rintro e1 w1 ⟨rfl, b1⟩; have B1 := Lib.hid b1; clear b1))
            | (go_at_call 25; go_must (refine (HL.out _ B1.out).mono ?_; rintro e2 w2 ⟨rfl, b2⟩; have B2 := Lib.hid (B1.out.trans (b2.mono B1.out.size)); clear b2))
            | (go_at_call 35; go_must (refine (HA.out _ B2.out).mono ?_; rintro e3 w3 ⟨rfl, b3⟩; have B3 := Lib.hid (B2.out.trans (b3.mono B2.out.size)); clear b3))
            | (go_at_call 36; go_must (refine (HE.out _ B3.out).mono ?_; rintro e4 w4 ⟨v4, rfl, r4, b4⟩; obtain ⟨EA, EN, EC, rfl, rfl⟩ := KRow.form r4; have B4 := Lib.hid (B3.out.trans (b4.mono B3.out.size)); have R4 := Lib.hid (KRow.mono r4 B3.out.size); clear r4 b4))
            | (go_at_call 37; go_must (first | (have tok := R5.out; refine (HT2.out _ _ R5.out B5.out.size).mono ?_; rintro e6 w6 ⟨v6, rfl, r6, b6⟩; obtain ⟨GA, GN, GC, rfl, rfl⟩ := KRow.form r6; have B6 := Lib.hid (B5.out.trans b6); have R6 := Lib.hid r6; clear r6 b6) | (have tok := R4.out; refine (HT1.out _ _ R4.out B4.out.size).mono ?_; rintro e5 w5 ⟨v5, rfl, r5, b5⟩; obtain ⟨FA, FN', FC, rfl, rfl⟩ := KRow.form r5; have B5 := Lib.hid (B4.out.trans b5); have R5 := Lib.hid r5; clear r5 b5)))
            | (go_at_call 38; go_must (refine (HF.out _ _ (KRow.arg inC_size R6.out)).mono ?_; rintro e7 w7 ⟨v7, rfl, r7, b7⟩; obtain ⟨HA', HN, HC, rfl, hHN⟩ := KRow.form r7; clear hHN; have B7 := Lib.hid (B6.out.trans (b7.mono B6.out.size)); have R7 := Lib.hid (KRow.mono r7 B6.out.size); clear r7 b7)))
          go_returns
          exact ⟨_, rfl, R7.out, B7.out⟩
        · have hs' : decide (a + t < lg l) = false := decide_eq_false hs
          have hI := hins _ _ _ (if_neg hz).symm (if_neg hz).symm (if_neg hs).symm
          have HF0 := (fun V' w' (h1 : InArg w' V' (tn (es (cl l)) a)) => hI ▸ from_any f (tn (es (cl l)) a) V' (lg l) w' h1)
          clear hins hI g1 p1 p2 hl2 hv v1 v2 hz
          generalize inR l a t = P at *
          obtain ⟨PR, PE⟩ := P
          generalize tn (es (cl l)) a = q1 at *
          generalize es (cl l) = q at *
          generalize lg l = G at *
          have HF := Lib.hid (show ∀ V' w', InArg w' V' q1 → Calls Try.prog 38 #[.int .i64 f, V', .int .i64 G] w' fun e w'' => ∃ v : Value, e = .returned (.tuple #[v, .int .i64 PE]) ∧ RnRow w'' w'.heap.size v PR ∧ Below w'.heap.size w' w'' from HF0)
          clear HF0
          go_enter Try.func20, Try.ntmps20
          go_wp2_with (first
            | (go_at_call 23; go_must (refine (HV.out _ (Below.refl _ _)).mono ?_; rintro e1 w1 ⟨rfl, b1⟩; have B1 := Lib.hid b1; clear b1))
            | (go_at_call 25; go_must (refine (HL.out _ B1.out).mono ?_; rintro e2 w2 ⟨rfl, b2⟩; have B2 := Lib.hid (B1.out.trans (b2.mono B1.out.size)); clear b2))
            | (go_at_call 35; go_must (refine (HA.out _ B2.out).mono ?_; rintro e3 w3 ⟨rfl, b3⟩; have B3 := Lib.hid (B2.out.trans (b3.mono B2.out.size)); clear b3))
            | (go_at_call 36; go_must (refine (HE.out _ B3.out).mono ?_; rintro e4 w4 ⟨v4, rfl, r4, b4⟩; obtain ⟨EA, EN, EC, rfl, rfl⟩ := KRow.form r4; have B4 := Lib.hid (B3.out.trans (b4.mono B3.out.size)); have R4 := Lib.hid (KRow.mono r4 B3.out.size); clear r4 b4))
            | (go_at_call 37; go_must (have tok := R4.out; refine (HT1.out _ _ R4.out B4.out.size).mono ?_; rintro e5 w5 ⟨v5, rfl, r5, b5⟩; obtain ⟨FA, FN', FC, rfl, rfl⟩ := KRow.form r5; have B5 := Lib.hid (B4.out.trans b5); have R5 := Lib.hid r5; clear r5 b5))
            | (go_at_call 38; go_must (refine (HF.out _ _ (KRow.arg inC_size R5.out)).mono ?_; rintro e7 w7 ⟨v7, rfl, r7, b7⟩; obtain ⟨HA', HN, HC, rfl, hHN⟩ := KRow.form r7; clear hHN; have B7 := Lib.hid (B5.out.trans (b7.mono B5.out.size)); have R7 := Lib.hid (KRow.mono r7 B5.out.size); clear r7 b7)))
          go_returns
          exact ⟨_, rfl, R7.out, B7.out⟩
end Go.Proofs.Ytgihljconpijaaa
