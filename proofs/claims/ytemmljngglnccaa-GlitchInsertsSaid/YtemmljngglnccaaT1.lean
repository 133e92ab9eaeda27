/-
  A tick turned in a row of ticks of the call's own: slices.BinarySearch, slices.Delete, slices.Insert by the shelf; turned.
-/
import Derived.Test.YtemmljngglnccaaShelf
import Derived.Test.YtemmljngglnccaaR2
import Derived.Test.YtemmljngglnccaaR0
import Derived.Test.YtemmljngglnccaaW6
namespace Go.Proofs.Ytemmljngglnccaa
open Go Go.RowKit Go.Joins
set_option linter.unusedVariables false
set_option linter.unusedSimpArgs false

/-- A row out of a block's cells. -/
theorem row_of_cells {w : World} {g B cap : Nat} {cs : Array Value} {l : List Int} (h : RowAt w g 3 cs) (hcap : cap = cs.size) (hn : l.length ≤ cap) (hm : cap ≤ maxLen) (hB : B ≤ g) (hv : ∀ j (hj : j < l.length), w.cell? ⟨g, j, none⟩ = some (.int .i64 l[j])) : InRow w B (.slice (some ⟨g, 0, none⟩) l.length cap) l := by
  have e : cs.toList.take (l.length * 1) = kCs inC l := by
    apply List.ext_getElem?
    intro j
    by_cases hj : j < l.length
    · have h1 := hv j hj
      rw [h.cell] at h1
      have h2 := kCs_at inC_size l j hj 0 (by omega)
      rw [Nat.mul_one, Nat.add_zero] at h2
      rw [h2, List.getElem?_take, if_pos (by omega)]
      rw [← Array.getElem?_toList] at h1
      exact h1
    · rw [List.getElem?_eq_none (by rw [List.length_take]; omega), List.getElem?_eq_none (by rw [kCs_len inC_size]; omega)]
  exact ⟨kCs_len inC_size l, Or.inr ⟨g, cap, cs, rfl, hB, h, hn, hm, by omega, e⟩⟩
theorem setCells_row {w : World} {g : Nat} {T : TypeId} (vs : List Value) : ∀ (o : Nat) (w : World) (cs : Array Value), RowAt w g T cs → ∃ cs', RowAt (w.setCells g o vs) g T cs' ∧ cs'.size = cs.size := by
  induction vs with
  | nil => intro o w cs h; exact ⟨cs, h, rfl⟩
  | cons v vs ih =>
    intro o w cs h
    obtain ⟨cs', h1, h2⟩ := ih (o + 1) (w.setCell ⟨g, o, none⟩ v) _ (h.set o v)
    exact ⟨cs', h1, by rw [h2]; simp⟩
theorem Below.setCells {B g : Nat} (vs : List Value) : ∀ (o : Nat) {w W : World}, Below B w W → B ≤ g → Below B w (W.setCells g o vs) := by
  induction vs with
  | nil => intro o w W h _; exact h
  | cons v vs ih => intro o w W h hB; exact ih (o + 1) (Below.setCell h hB v) hB
theorem ins_len (q : List Int) (i : Nat) (x : Int) (hi : i ≤ q.length) : (q.take i ++ x :: q.drop i).length = q.length + 1 := by
  simp only [List.length_append, List.length_take, List.length_cons, List.length_drop]; omega
theorem ins_get (q : List Int) (i : Nat) (x : Int) (hi : i ≤ q.length) (j : Nat) (hj : j < (q.take i ++ x :: q.drop i).length) :
    (q.take i ++ x :: q.drop i)[j] = if h : j < i then q[j]'(by omega) else if h2 : j = i then x else q[j - 1]'(by rw [ins_len q i x hi] at hj; omega) := by
  by_cases h : j < i
  · rw [dif_pos h, List.getElem_append_left (by rw [List.length_take]; omega), List.getElem_take]
  · rw [dif_neg h, List.getElem_append_right (by rw [List.length_take]; omega)]
    by_cases h2 : j = i
    · rw [dif_pos h2]
      have : j - (q.take i).length = 0 := by rw [List.length_take]; omega
      simp only [this, List.getElem_cons_zero]
    · rw [dif_neg h2]
      have : j - (q.take i).length = (j - 1 - i) + 1 := by rw [List.length_take]; omega
      simp only [this, List.getElem_cons_succ, List.getElem_drop, show i + (j - 1 - i) = j - 1 by omega]
theorem one_int (l : List Int) : ∀ v ∈ l.map (Value.int .i64), v.oneCell' = true := by
  intro v hv
  obtain ⟨x, _, rfl⟩ := List.mem_map.1 hv
  rfl
theorem shape_row {w : World} {b : Nat} {T : TypeId} {cs : Array Value} (h : RowAt w b T cs) : w.shape? b = some (T, cs.size) := by
  unfold World.shape?
  rw [show w.heap[b]? = _ from h]

set_option maxHeartbeats 2000000 in
theorem insert_any (q : List Int) (B : Nat) (V : Value) (x : Int) (i : Nat) (w : World) (hR : InRow w B V q) (hB : B ≤ w.heap.size) (hi : i ≤ q.length) (hl : q.length ≤ 300000) :
    Calls Try.prog 62 #[V, .int .i64 i, .slice (some ⟨w.heap.size, 0, none⟩) 1 1] (w.alloc (.cells #[.int .i64 x] 3)) fun e w' => ∃ v : Value, e = .returned v ∧ InRow w' B v (q.take i ++ x :: q.drop i) ∧ Below B w w' := by
  have hX : RowAt (w.alloc (.cells #[.int .i64 x] 3)) w.heap.size 3 #[.int .i64 x] := RowAt.new w _ _
  have hS : (w.alloc (.cells #[.int .i64 x] 3)).heap.size = w.heap.size + 1 := World.size_alloc _ _
  have hBW : Below B w (w.alloc (.cells #[.int .i64 x] 3)) := (Below.refl B w).alloc hB _
  have hvs : ∀ j v, [Value.int .i64 x][j]? = some v → (w.alloc (.cells #[.int .i64 x] 3)).cell? ⟨w.heap.size, 0 + j, none⟩ = some v := by
    intro j v hv
    cases j with
    | zero => rw [hX.cell]; exact hv
    | succ j => cases hv
  have et : Try.insI_ren.t 3 = 3 := rfl
  have h1v : ∀ v ∈ [Value.int .i64 x], v.oneCell' = true := by intro v hv; rw [List.mem_singleton.1 hv]; rfl
  have hrow := hR
  obtain ⟨_, hR2⟩ := hR
  rcases hR2 with ⟨rfl, h0⟩ | ⟨g, cap, cur, rfl, hBg, hheap, hnc, hcm, hsz, htake⟩
  · have hq : q = [] := List.eq_nil_of_length_eq_zero h0
    subst hq
    obtain rfl : i = 0 := by simpa using hi
    generalize w.alloc (.cells #[.int .i64 x] 3) = W1 at *
    refine (Any2.slices_Insert_int_end_grow Try.insI none 0 0 w.heap.size 0 1 1 [] [.int .i64 x] W1 (by omega) (by omega) (by omega) (by omega) rfl rfl (fun _ => rfl) (fun a h => by cases h) hvs h1v).mono ?_
    rintro e w' ⟨rfl, rfl⟩
    rw [et]
    obtain ⟨G, hG⟩ : ∃ G, G = grownCap W1 (0 + 1) 0 3 := ⟨_, rfl⟩
    have g1 : 0 + 1 ≤ G := by rw [hG]; exact grownCap_ge W1 (0 + 1) 0 _
    have g2 : G ≤ maxLen := by rw [hG]; exact grownCap_le_maxLen W1 (0 + 1) 0 _ (by unfold maxLen; omega)
    have hrw : RowAt (W1.drew.alloc (.cells (([] ++ [Value.int .i64 x]).toArray ++ Builtin.zeroCells (Value.int .i64 0).cells (G - (0 + 1))) 3)) W1.drew.heap.size 3 _ := RowAt.new _ _ _
    rw [hG] at hrw
    refine ⟨_, rfl, row_of_cells (l := [x]) hrw ?_ ?_ ?_ (by show B ≤ W1.heap.size; omega) ?_, hBW.drew.alloc (by show B ≤ W1.heap.size; omega) _⟩
    · show grownCap W1 (0 + 1) 0 3 = _
      have hz : (Value.int IntKind.i64 0).cells.size = 1 := rfl
      simp only [Array.size_append, size_zeroCells, hz, List.nil_append, List.size_toArray, List.length_cons, List.length_nil]
      omega
    · show 1 ≤ grownCap W1 (0 + 1) 0 3; omega
    · show grownCap W1 (0 + 1) 0 3 ≤ maxLen; omega
    · intro j hj
      obtain rfl : j = 0 := by simp at hj; omega
      exact (hrw.cell 0).trans (by rw [Array.getElem?_append_left (by simp)]; rfl)
  · have hgl : g < w.heap.size := (Array.getElem?_eq_some_iff.1 hheap).1
    have hC : RowAt (w.alloc (.cells #[.int .i64 x] 3)) g 3 cur := RowAt.alloc (show RowAt w g 3 cur from hheap) _
    have hcs : ∀ j v, (q.map (Value.int .i64))[j]? = some v → (w.alloc (.cells #[.int .i64 x] 3)).cell? ⟨g, 0 + j, none⟩ = some v := by
      intro j v hv
      rw [List.getElem?_map] at hv
      by_cases hj : j < q.length
      · rw [List.getElem?_eq_getElem hj] at hv
        have := KRow.cell inC_size (KRow.alloc hrow (.cells #[.int .i64 x] 3)) j hj 0 (by omega)
        rw [Nat.mul_one, Nat.add_zero] at this
        rw [Nat.zero_add, this]
        simpa [inC] using hv
      · rw [List.getElem?_eq_none (by omega)] at hv; cases hv
    have hcl : (q.map (Value.int .i64)).length = q.length := List.length_map _
    have hsp : ∀ j, j < cap → ((w.alloc (.cells #[.int .i64 x] 3)).cell? ⟨g, j, none⟩).isSome = true := by
      intro j hj
      rw [hC.cell, Array.getElem?_eq_getElem (by omega)]; rfl
    have hcell : ∀ j (hj : j < q.length), (w.alloc (.cells #[.int .i64 x] 3)).cell? ⟨g, j, none⟩ = some (.int .i64 q[j]) := by
      intro j hj
      have := hcs j (.int .i64 q[j]) (by rw [List.getElem?_map, List.getElem?_eq_getElem hj]; rfl)
      rwa [Nat.zero_add] at this
    generalize w.alloc (.cells #[.int .i64 x] 3) = W1 at *
    have hm63 : maxLen = 9223372036854775807 := rfl
    by_cases hroom : q.length + 1 ≤ cap
    · by_cases hin : i < q.length
      · refine (Any2.slices_Insert_int_shift Try.insI g 0 q.length cap i w.heap.size 0 1 1 (q.map (Value.int .i64)) [.int .i64 x] W1 hin (by omega) hroom (by omega) (by omega) hcl rfl hcs (fun j hj => by rw [Nat.zero_add]; exact hsp j (by omega)) (fun j hj => hC.frozen _) hvs (one_int q) h1v 3 3 1 cur.size (shape_row hX) (shape_row hC) (by omega) (hX.frozen _) (hX.frozen _)).mono ?_
        rintro e w' ⟨rfl, rfl⟩
        obtain ⟨cs1, r1, s1⟩ := setCells_row (w := W1.drew) ((q.map (Value.int .i64)).drop i) (0 + (i + 1)) W1.drew cur hC
        obtain ⟨cs2, r2, s2⟩ := setCells_row (w := W1.drew) [Value.int .i64 x] (0 + i) _ cs1 r1
        have hlen := ins_len q i x hi
        rw [show q.length + 1 = (q.take i ++ x :: q.drop i).length from hlen.symm]
        refine ⟨_, rfl, row_of_cells r2 (by omega) (by omega) hcm hBg ?_, Below.setCells _ _ (Below.setCells _ _ hBW.drew hBg) hBg⟩
        have hdl : ((q.map (Value.int .i64)).drop i).length = q.length - i := by simp
        intro j hj
        rw [hlen] at hj
        rw [ins_get q i x hi j (by omega)]
        have isS : ∀ k, k < 1 → ((W1.drew.setCells g (0 + (i + 1)) ((q.map (Value.int .i64)).drop i)).cell? ⟨g, 0 + i + k, none⟩).isSome = true := by
          intro k hk
          rw [r1.cell, Array.getElem?_eq_getElem (by omega)]; rfl
        have isS1 : ∀ k, k < ((q.map (Value.int .i64)).drop i).length → (W1.drew.cell? ⟨g, 0 + (i + 1) + k, none⟩).isSome = true := by
          intro k hk
          exact hsp _ (by omega)
        by_cases c1 : j < i
        · rw [dif_pos c1, World.cell?_setCells_out g _ _ _ ⟨g, j, none⟩ (fun _ _ => Or.inl (by show j < 0 + i; omega)), World.cell?_setCells_out g _ _ _ ⟨g, j, none⟩ (fun _ _ => Or.inl (by show j < 0 + (i + 1); omega))]
          exact hcell j (by omega)
        · rw [dif_neg c1]
          by_cases c2 : j = i
          · rw [dif_pos c2]
            have := World.cell?_setCells_in g [Value.int .i64 x] (0 + i) _ (fun k hk => isS k (by simpa using hk)) 0 (by simp)
            rw [show 0 + i + 0 = j by omega] at this
            exact this
          · rw [dif_neg c2, World.cell?_setCells_out g _ _ _ ⟨g, j, none⟩ (fun _ _ => Or.inr (by show 0 + i + 1 ≤ j; omega))]
            have := World.cell?_setCells_in g ((q.map (Value.int .i64)).drop i) (0 + (i + 1)) W1.drew isS1 (j - 1 - i) (by omega)
            rw [show 0 + (i + 1) + (j - 1 - i) = j by omega] at this
            rw [this]
            simp [show i + (j - 1 - i) = j - 1 by omega]
      · obtain rfl : i = q.length := by omega
        refine (Any2.slices_Insert_int_end_room Try.insI g 0 q.length cap w.heap.size 0 1 1 [.int .i64 x] W1 (by omega) hroom (by omega) rfl (fun j hj => by rw [Nat.zero_add]; exact hsp _ (by omega)) (fun j hj => hC.frozen _) hvs h1v).mono ?_
        rintro e w' ⟨rfl, rfl⟩
        obtain ⟨cs2, r2, s2⟩ := setCells_row (w := W1) [Value.int .i64 x] (0 + q.length) _ cur hC
        have hlen := ins_len q q.length x hi
        rw [show q.length + 1 = (q.take q.length ++ x :: q.drop q.length).length from hlen.symm]
        refine ⟨_, rfl, row_of_cells r2 (by omega) (by omega) hcm hBg ?_, Below.setCells _ _ hBW hBg⟩
        intro j hj
        rw [hlen] at hj
        rw [ins_get q q.length x hi j (by omega)]
        by_cases c1 : j < q.length
        · rw [dif_pos c1, World.cell?_setCells_out g _ _ _ ⟨g, j, none⟩ (fun _ _ => Or.inl (by show j < 0 + q.length; omega))]
          exact hcell j c1
        · rw [dif_neg c1, dif_pos (by omega)]
          have := World.cell?_setCells_in g [Value.int .i64 x] (0 + q.length) W1 (fun k hk => hsp _ (by simp at hk; omega)) 0 (by simp)
          rw [show 0 + q.length + 0 = j by omega] at this
          exact this
    · have hlen := ins_len q i x hi
      obtain ⟨G, hG⟩ : ∃ G, G = grownCap W1 (q.length + 1) cap 3 := ⟨_, rfl⟩
      have g1 : q.length + 1 ≤ G := by rw [hG]; exact grownCap_ge W1 _ _ _
      have g2 : G ≤ maxLen := by rw [hG]; exact grownCap_le_maxLen W1 _ _ _ (by unfold maxLen; omega)
      have hz : (Value.int IntKind.i64 0).cells.size = 1 := rfl
      by_cases hin : i < q.length
      · refine (Any2.slices_Insert_int_grow Try.insI g 0 q.length cap i w.heap.size 0 1 1 (q.map (Value.int .i64)) [.int .i64 x] W1 hin (by omega) hnc (by omega) (by omega) hcl rfl hcs hvs (one_int q) h1v).mono ?_
        rintro e w' ⟨rfl, rfl⟩
        rw [et, show grownCap W1 (q.length + 1) cap 3 = G from hG.symm]
        obtain ⟨big, hbig⟩ : ∃ big, big = ((q.map (Value.int .i64)).take i).toArray ++ Builtin.zeroCells (Value.int .i64 0).cells (q.length + 1 - i) ++ Builtin.zeroCells (Value.int .i64 0).cells (G - (q.length + 1)) := ⟨_, rfl⟩
        rw [← hbig]
        have hbs : big.size = G := by
          rw [hbig]
          simp only [Array.size_append, size_zeroCells, hz, List.size_toArray, List.length_take, List.length_map]
          omega
        have r0 : RowAt (W1.alloc (.cells big 3)).drew W1.heap.size 3 big := RowAt.new W1 _ _
        obtain ⟨cs1, r1, s1⟩ := setCells_row (w := W1) [Value.int .i64 x] i _ big r0
        have r1' : RowAt (((W1.alloc (.cells big 3)).drew.setCells W1.heap.size i [Value.int .i64 x]).drew) W1.heap.size 3 cs1 := r1
        obtain ⟨cs2, r2, s2⟩ := setCells_row (w := W1) ((q.map (Value.int .i64)).drop i) (i + 1) _ cs1 r1'
        have hBB : B ≤ W1.heap.size := by omega
        rw [show q.length + 1 = (q.take i ++ x :: q.drop i).length from hlen.symm]
        refine ⟨_, rfl, row_of_cells r2 (by omega) (by omega) g2 hBB ?_, Below.setCells _ _ (Below.setCells _ _ (hBW.alloc hBB _).drew hBB).drew hBB⟩
        have hdl : ((q.map (Value.int .i64)).drop i).length = q.length - i := by simp
        intro j hj
        rw [hlen] at hj
        rw [ins_get q i x hi j (by omega)]
        have isS0 : ∀ k, k < 1 → ((W1.alloc (.cells big 3)).drew.cell? ⟨W1.heap.size, i + k, none⟩).isSome = true := by
          intro k hk
          rw [r0.cell, Array.getElem?_eq_getElem (by omega)]; rfl
        have isS1 : ∀ k, k < ((q.map (Value.int .i64)).drop i).length → ((((W1.alloc (.cells big 3)).drew.setCells W1.heap.size i [Value.int .i64 x]).drew).cell? ⟨W1.heap.size, i + 1 + k, none⟩).isSome = true := by
          intro k hk
          rw [r1'.cell, Array.getElem?_eq_getElem (by omega)]; rfl
        by_cases c1 : j < i
        · rw [dif_pos c1, World.cell?_setCells_out W1.heap.size _ _ _ ⟨W1.heap.size, j, none⟩ (fun _ _ => Or.inl (by show j < i + 1; omega))]
          show ((W1.alloc (.cells big 3)).drew.setCells W1.heap.size i [Value.int .i64 x]).cell? ⟨W1.heap.size, j, none⟩ = _
          rw [World.cell?_setCells_out W1.heap.size _ _ _ ⟨W1.heap.size, j, none⟩ (fun _ _ => Or.inl (by show j < i; omega)), r0.cell, hbig, Array.append_assoc, Array.getElem?_append_left (by simp; omega)]
          simp [List.getElem?_take, c1, show j < q.length by omega]
        · rw [dif_neg c1]
          by_cases c2 : j = i
          · rw [dif_pos c2, World.cell?_setCells_out W1.heap.size _ _ _ ⟨W1.heap.size, j, none⟩ (fun _ _ => Or.inl (by show j < i + 1; omega))]
            have := World.cell?_setCells_in W1.heap.size [Value.int .i64 x] i _ (fun k hk => isS0 k (by simpa using hk)) 0 (by simp)
            rw [show i + 0 = j by omega] at this
            exact this
          · rw [dif_neg c2]
            have := World.cell?_setCells_in W1.heap.size ((q.map (Value.int .i64)).drop i) (i + 1) _ isS1 (j - 1 - i) (by omega)
            rw [show i + 1 + (j - 1 - i) = j by omega] at this
            rw [this]
            simp [show i + (j - 1 - i) = j - 1 by omega]
      · obtain rfl : i = q.length := by omega
        refine (Any2.slices_Insert_int_end_grow Try.insI (some ⟨g, 0, none⟩) q.length cap w.heap.size 0 1 1 (q.map (Value.int .i64)) [.int .i64 x] W1 (by omega) hnc (by omega) (by omega) hcl rfl (fun h => by cases h) (fun a ha j v hv => by
          have := hcs j v hv
          rw [← Option.some.inj ha, Addr.add_lit]
          exact this) hvs h1v).mono ?_
        rintro e w' ⟨rfl, rfl⟩
        rw [et, show grownCap W1 (q.length + 1) cap 3 = G from hG.symm]
        have r2 : RowAt (W1.drew.alloc (.cells ((q.map (Value.int .i64) ++ [Value.int .i64 x]).toArray ++ Builtin.zeroCells (Value.int .i64 0).cells (G - (q.length + 1))) 3)) W1.drew.heap.size 3 _ := RowAt.new _ _ _
        have hBB : B ≤ W1.heap.size := by omega
        rw [show q.length + 1 = (q.take q.length ++ x :: q.drop q.length).length from hlen.symm] at r2 ⊢
        refine ⟨_, rfl, row_of_cells r2 ?_ (by omega) g2 hBB ?_, hBW.drew.alloc hBB _⟩
        · rw [hlen]
          simp only [Array.size_append, size_zeroCells, hz, List.size_toArray, List.length_append, List.length_map, List.length_cons, List.length_nil]
          omega
        · intro j hj
          rw [ins_get q q.length x hi j hj]
          rw [hlen] at hj
          have e0 : (W1.drew.alloc (.cells ((q.map (Value.int .i64) ++ [Value.int .i64 x]).toArray ++ Builtin.zeroCells (Value.int .i64 0).cells (G - (q.take q.length ++ x :: q.drop q.length).length)) 3)).cell? ⟨W1.heap.size, j, none⟩ = _ := r2.cell j
          rw [e0, Array.getElem?_append_left (by simp; omega)]
          by_cases c1 : j < q.length
          · rw [dif_pos c1]; simp [List.getElem?_append_left, c1]
          · rw [dif_neg c1, dif_pos (by omega)]
            obtain rfl : j = q.length := by omega
            simp
end Go.Proofs.Ytemmljngglnccaa
