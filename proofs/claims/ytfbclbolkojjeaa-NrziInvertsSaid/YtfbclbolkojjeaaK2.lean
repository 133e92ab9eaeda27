/-
  Rows of elements of k cells, more: made by 'make' (full, or empty with room), filled by 'copy', appended from a slice that came in, cut to their first elements, one element stored.
-/
import Derived.Test.YtfbclbolkojjeaaK0
import Derived.Laws.MakeOwn
import Derived.Laws.CopyRow
namespace Go.Proofs.Ytfbclbolkojjeaa
open Go Go.RowKit Go.Joins
set_option linter.unusedVariables false

section
variable {α : Type} {enc : α → Array Value} {k : Nat} {T : TypeId}

theorem kCs_take (hk : ∀ x, (enc x).size = k) (l : List α) (n : Nat) : kCs enc (l.take n) = (kCs enc l).take (n * k) := by
  induction l generalizing n with
  | nil => simp [kCs]
  | cons t l ih =>
    have e4 : (enc t).toList.length = k := by rw [Array.length_toList, hk]
    cases n with
    | zero => simp [kCs]
    | succ n =>
      have e5 : (n + 1) * k - k = n * k := by rw [Nat.add_mul]; omega
      have e6 : (enc t).toList.take ((n + 1) * k) = (enc t).toList := List.take_of_length_le (by rw [e4, Nat.add_mul]; omega)
      rw [List.take_succ_cons, kCs_cons, kCs_cons, ih, List.take_append, e4, e5, e6]
theorem kCs_drop (hk : ∀ x, (enc x).size = k) (l : List α) (n : Nat) : kCs enc (l.drop n) = (kCs enc l).drop (n * k) := by
  induction l generalizing n with
  | nil => simp [kCs]
  | cons t l ih =>
    have e4 : (enc t).toList.length = k := by rw [Array.length_toList, hk]
    cases n with
    | zero => simp
    | succ n =>
      have e5 : (n + 1) * k - k = n * k := by rw [Nat.add_mul]; omega
      have e6 : (enc t).toList.drop ((n + 1) * k) = [] := List.drop_of_length_le (by rw [e4, Nat.add_mul]; omega)
      rw [List.drop_succ_cons, kCs_cons, ih, List.drop_append, e4, e5, e6, List.nil_append]
theorem kCs_one (h1 : ∀ x, (enc x).toList.all (·.oneCell') = true) (l : List α) : ∀ u ∈ kCs enc l, u.oneCell' = true := by
  intro u hu
  unfold kCs at hu
  obtain ⟨t, _, hu⟩ := List.mem_flatMap.1 hu
  exact List.all_eq_true.1 (h1 t) u hu
theorem kCs_set1 (hk : ∀ x, (enc x).size = k) (l : List α) (j : Nat) (hj : j < l.length) (y : α) :
    kCs enc (l.set j y) = (kCs enc l).take (j * k) ++ (enc y).toList ++ (kCs enc l).drop (j * k + k) := by
  rw [List.set_eq_take_append_cons_drop, if_pos hj, kCs_append, kCs_cons, kCs_take hk, kCs_drop hk, List.append_assoc, show (j + 1) * k = j * k + k by rw [Nat.add_mul]; omega]
/-- The cells of a slice of elements that came in, from its address on. -/
theorem KArg.cells (hk : ∀ x, (enc x).size = k) (hpos : 0 < k) {w : World} {a : Addr} {n c : Nat} {l : List α} (h : KArg enc k w (.slice (some a) n c) l) : ∀ j u, (kCs enc l)[j]? = some u → w.cell? (a.add j) = some u := by
  intro j u hu
  obtain ⟨A, c', e, hA⟩ := h
  simp only [Value.slice.injEq] at e
  obtain ⟨rfl, rfl, rfl⟩ := e
  have hj : j < (kCs enc l).length := (List.getElem?_eq_some_iff.1 hu).1
  rw [kCs_len hk] at hj
  have h0 : 0 < l.length := by
    rcases Nat.eq_zero_or_pos l.length with h | h
    · rw [h, Nat.zero_mul] at hj; omega
    · exact h
  obtain ⟨g, o, e, hg, hc⟩ := hA h0
  injection e with e
  subst e
  have hq : j / k < l.length := Nat.div_lt_of_lt_mul (by rw [Nat.mul_comm]; exact hj)
  have hm : j % k < k := Nat.mod_lt _ hpos
  have hd : j / k * k + j % k = j := Nat.div_add_mod' j k
  have h2 := hc (j / k) hq (j % k) hm
  rw [Nat.add_assoc, hd] at h2
  rw [Addr.add_lit, h2, ← kCs_at hk l (j / k) hq (j % k) hm, hd]
  exact hu
theorem KArg.form {w : World} {v : Value} {l : List α} (h : KArg enc k w v l) : ∃ A c, v = .slice A l.length c := by
  obtain ⟨A, c, rfl, _⟩ := h; exact ⟨A, c, rfl⟩

theorem kCs_replicate (z : α) (hk : (enc z).size = k) (n : Nat) : (madeCells (enc z) (n * k)).toList = kCs enc (List.replicate n z) := by
  rcases Nat.eq_zero_or_pos k with h0 | h0
  · subst h0
    have : ∀ n, kCs enc (List.replicate n z) = [] := by
      intro n
      induction n with
      | zero => rfl
      | succ n ih => rw [List.replicate_succ, kCs_cons, ih]; simpa using Array.eq_empty_of_size_eq_zero hk
    rw [this]; simp [madeCells]
  apply List.ext_getElem?
  intro j
  have hx : (madeCells (enc z) (n * k)).toList[j]? = if j < n * k then some ((enc z)[j % k]!) else none := by
    unfold madeCells
    rw [hk]
    by_cases hj : j < n * k <;> simp [hj]
  rw [hx]
  have hlen : (kCs enc (List.replicate n z)).length = n * k := by
    clear hx
    induction n with
    | zero => simp [kCs]
    | succ n ih => rw [List.replicate_succ, kCs_cons, List.length_append, ih, Array.length_toList, hk, Nat.add_mul]; omega
  by_cases hj : j < n * k
  · rw [if_pos hj]
    have hm : j % k < k := Nat.mod_lt _ h0
    have hq : j / k < n := Nat.div_lt_of_lt_mul (by rw [Nat.mul_comm]; exact hj)
    have hd : j / k * k + j % k = j := Nat.div_add_mod' j k
    have key : ∀ (m q : Nat), q < m → (kCs enc (List.replicate m z))[q * k + j % k]? = (enc z)[j % k]? := by
      intro m
      induction m with
      | zero => intro q hq; omega
      | succ m ih =>
        intro q hq
        have e4 : (enc z).toList.length = k := by rw [Array.length_toList, hk]
        rw [List.replicate_succ, kCs_cons]
        cases q with
        | zero => rw [List.getElem?_append_left (by omega)]; simp
        | succ q =>
          rw [List.getElem?_append_right (by rw [Nat.add_mul]; omega), e4, show (q + 1) * k + j % k - k = q * k + j % k by rw [Nat.add_mul]; omega]
          exact ih q (by omega)
    have := key n (j / k) hq
    rw [hd] at this
    rw [this, getElem!_pos _ _ (by rw [hk]; exact hm), Array.getElem?_eq_getElem (by rw [hk]; exact hm)]
  · rw [if_neg hj, List.getElem?_eq_none (by omega)]

/-- 'make([]T, n)': n zero elements. -/
theorem wpList_make_k {P : Program} {S : TypeId} {zv : Value} {bb : Nat} (hS : P.underlying S = some (.slice T)) (hinfo : (P.info? T).map (fun i => (i.zero, i.size, i.bytes)) = some (some zv, k, bb)) (z : α) (hz : zv.cells = enc z) (hk : (enc z).size = k)
    {w : World} {ops : Array Oper} {rest : List Oper} {o : Oper} {a : Act} {Q : Exit → Act → World → Prop} (hgd : o.guard = none) (l c : Operand) (ho : o.op = .makeSlice S l c)
    {B n : Nat} {L C : Int} (hl : a.eval l = .int .i64 L) (hc : a.eval c = .int .i64 C) (hL : L = (n : Int)) (hC : C = (n : Int)) (hb : bb * n ≤ 281474976710656) (hn : n ≤ 140737488355328) (hB : B ≤ w.heap.size)
    (h : ∀ w', KRow enc k T w' B (.slice (some ⟨w.heap.size, 0, none⟩) n n) (List.replicate n z) → Below B w w' → wpList P ops Q rest (a.put o.dst (.slice (some ⟨w.heap.size, 0, none⟩) n n)) w') : wpList P ops Q (o :: rest) a w := by
  refine wpList_plain hgd fun K hK => ?_
  obtain ⟨i0, hi0, hz0, hz1, hz2⟩ := info_parts hinfo
  subst hL; subst hC
  obtain ⟨w', hrun, r1, r2⟩ := run_make_full (P := P) w B S T i0 zv k hS hi0 hz0 hz1 .i64 .i64 n (by rw [hz2]; exact hb) (by simp only [maxLen]; omega) hB
  unfold Oper.wp
  simp [execOp, ho, hl, hc, hrun, Result.andThen]
  refine hK _ _ (h w' ?_ ((Below.refl _ _).grown r2 hB fun k hk => by cases hk))
  rw [hz, kCs_replicate z hk] at r1
  unfold KRow
  rw [List.length_replicate]
  exact r1
/-- 'make([]T, 0, n)': no element, room for n. -/
theorem wpList_room_k {P : Program} {S : TypeId} {zv : Value} {bb : Nat} (hS : P.underlying S = some (.slice T)) (hinfo : (P.info? T).map (fun i => (i.zero, i.size, i.bytes)) = some (some zv, k, bb))
    {w : World} {ops : Array Oper} {rest : List Oper} {o : Oper} {a : Act} {Q : Exit → Act → World → Prop} (hgd : o.guard = none) (l c : Operand) (ho : o.op = .makeSlice S l c)
    {B n : Nat} {C : Int} (hl : a.eval l = .int .i64 0) (hc : a.eval c = .int .i64 C) (hC : C = (n : Int)) (hb : bb * n ≤ 281474976710656) (hn : n ≤ 140737488355328) (hB : B ≤ w.heap.size)
    (h : ∀ w', KRow enc k T w' B (.slice (some ⟨w.heap.size, 0, none⟩) 0 n) [] → Below B w w' → wpList P ops Q rest (a.put o.dst (.slice (some ⟨w.heap.size, 0, none⟩) 0 n)) w') : wpList P ops Q (o :: rest) a w := by
  refine wpList_plain hgd fun K hK => ?_
  obtain ⟨i0, hi0, hz0, hz1, hz2⟩ := info_parts hinfo
  subst hC
  obtain ⟨w', hrun, r1, r2⟩ := run_make_own (P := P) w B S T i0 zv k hS hi0 hz0 hz1 .i64 .i64 n (by rw [hz2]; exact hb) (by simp only [maxLen]; omega) hB
  unfold Oper.wp
  simp [execOp, ho, hl, hc, hrun, Result.andThen]
  exact hK _ _ (h w' r1 ((Below.refl _ _).grown r2 hB fun k hk => by cases hk))

theorem run_copy_k {P : Program} (w : World) {S T ty : TypeId} {sz : Nat} (hS : P.underlying S = some (.slice T)) (hs : (P.info? T).map (·.size) = some sz)
    (g o dLen dCap : Nat) (a : Addr) (sLen sCap : Nat) (cur : Array Value) (t : TypeId) (m : Nat) (cs : List Value)
    (hg : w.heap[g]? = some (.cells cur t (0, 0))) (hm : m = Nat.min sLen dLen) (hn : cs.length = m * sz)
    (hsrc : ∀ j v, cs[j]? = some v → w.cell? (a.add j) = some v) (hfit : o + cs.length ≤ cur.size) (h1 : ∀ v ∈ cs, v.oneCell' = true) :
    (Builtin.copy_ #[S, S] ty #[.slice (some ⟨g, o, none⟩) dLen dCap, .slice (some a) sLen sCap]).run P w =
      .ok (goInt m) (w.setRow g (cur.toList.take o ++ cs ++ cur.toList.drop (o + cs.length)).toArray) := by
  have hl := run_firstCells_some (P := P) w sz m a sLen sCap cs hn hsrc
  have hst := run_storeCells_at P g o t cs 0 cur w hg (by simpa using hfit) h1
  cases hq : P.info? T with
  | none => simp [hq] at hs
  | some i =>
    have hi : i.size = sz := by simpa [hq] using hs
    simp [Builtin.copy_, run_underlying hS, Builtin.lenOf, sizeOf, typeInfo, hq, hi, ← hm, hl, hst]
theorem run_copy_no {P : Program} (w : World) {S T ty : TypeId} {sz : Nat} (hS : P.underlying S = some (.slice T)) (hs : (P.info? T).map (·.size) = some sz)
    (dp sp : Option Addr) (dLen dCap sLen sCap : Nat) (hm : Nat.min sLen dLen = 0) :
    (Builtin.copy_ #[S, S] ty #[.slice dp dLen dCap, .slice sp sLen sCap]).run P w = .ok (goInt 0) w := by
  cases hq : P.info? T with
  | none => simp [hq] at hs
  | some i =>
    cases sp with
    | none => cases dp <;> simp [Builtin.copy_, run_underlying hS, Builtin.lenOf, Builtin.firstCells, sizeOf, typeInfo, hq, hm, storeCells]
    | some a =>
      have hl := run_firstCells_some (P := P) w i.size 0 a sLen sCap [] (by simp) (fun j v h => by simp at h)
      cases dp <;> simp [Builtin.copy_, run_underlying hS, Builtin.lenOf, sizeOf, typeInfo, hq, hm, hl, storeCells]
theorem take_splice {β : Type} (A Y : List β) (p M : Nat) (h : p + Y.length ≤ M) (hA : M ≤ A.length) :
    (A.take p ++ Y ++ A.drop (p + Y.length)).take M = (A.take M).take p ++ Y ++ (A.take M).drop (p + Y.length) := by
  have hp : (A.take p).length = p := by rw [List.length_take]; omega
  rw [List.take_append, List.take_of_length_le (by rw [List.length_append, hp]; exact h), List.take_take, Nat.min_eq_left (by omega), List.length_append, hp, List.drop_take]
/-- A row of the call's own, written over from a place on. -/
theorem KRow.splice (hk : ∀ x, (enc x).size = k) {w : World} {B g N cap off : Nat} {X Y : List α} (hX : KRow enc k T w B (.slice (some ⟨g, 0, none⟩) N cap) X) (hfit : off + Y.length ≤ X.length) :
    ∃ cur, w.heap[g]? = some (.cells cur T (0, 0)) ∧ B ≤ g ∧ off * k + (kCs enc Y).length ≤ cur.size ∧
      KRow enc k T (w.setRow g (cur.toList.take (off * k) ++ kCs enc Y ++ cur.toList.drop (off * k + (kCs enc Y).length)).toArray) B (.slice (some ⟨g, 0, none⟩) N cap) (X.take off ++ Y ++ X.drop (off + Y.length)) := by
  have hX0 := hX
  rcases hX.2 with ⟨h', _⟩ | ⟨g', cap', cur, h', hB, hg, hnc, hcm, hcs, htake⟩
  · simp at h'
  simp only [Value.slice.injEq, Option.some.injEq, Addr.mk.injEq, and_true] at h'
  obtain ⟨rfl, hN, rfl⟩ := h'
  have hY : (kCs enc Y).length = Y.length * k := kCs_len hk Y
  have hq1 : (off + Y.length) * k ≤ X.length * k := Nat.mul_le_mul_right k hfit
  have hq2 : X.length * k ≤ cap * k := Nat.mul_le_mul_right k hnc
  rw [Nat.add_mul] at hq1
  have hq3 : X.length * k ≤ cur.toList.length := by
    have e := Array.length_toList (xs := cur)
    omega
  have hlen : (X.take off ++ Y ++ X.drop (off + Y.length)).length = X.length := by
    simp only [List.length_append, List.length_take, List.length_drop]; omega
  refine ⟨cur, hg, hB, by rw [hcs, hY]; omega, ⟨by rw [kCs_len hk], .inr ⟨g, cap, _, by rw [hN, hlen], hB, setRow_heap w g _ _ T _ hg, by rw [hlen]; exact hnc, hcm, ?_, ?_⟩⟩⟩
  · rw [List.size_toArray]
    simp only [List.length_append, List.length_take, List.length_drop, Array.length_toList, hcs, hY]
    omega
  · rw [hlen]
    show ((cur.toList.take (off * k) ++ kCs enc Y ++ cur.toList.drop (off * k + (kCs enc Y).length))).take (X.length * k) = _
    rw [take_splice cur.toList (kCs enc Y) (off * k) (X.length * k) (by rw [hY]; exact hq1) hq3, htake, kCs_append, kCs_append, kCs_take hk, kCs_drop hk, hY, Nat.add_mul]
/-- 'copy' onto a row of the call's own, from place 'off' on. -/
theorem wpList_copy_k {P : Program} {S : TypeId} (hS : P.underlying S = some (.slice T)) (hsz : (P.info? T).map (·.size) = some k) (hpos : 0 < k) (hk : ∀ x, (enc x).size = k) (h1 : ∀ x, (enc x).toList.all (·.oneCell') = true)
    {w : World} {ops : Array Oper} {rest : List Oper} {o : Oper} {a : Act} {Q : Exit → Act → World → Prop} (hgd : o.guard = none) (d s : Operand)
    (ho : o.op = .call { callee := .builtin .copy, args := #[d, s], argTypes := #[S, S] })
    {dp : Option Addr} {dLen dCap : Nat} {sv : Value} (hd : a.eval d = .slice dp dLen dCap) (hs : a.eval s = sv)
    {B g N cap off : Nat} {X Y : List α} (hX : KRow enc k T w B (.slice (some ⟨g, 0, none⟩) N cap) X) (hY : KArg enc k w sv Y) (hle : Y.length ≤ dLen) (hfit : off + Y.length ≤ X.length) (hdp : 0 < Y.length → dp = some ⟨g, off * k, none⟩)
    (h : ∀ w', KRow enc k T w' B (.slice (some ⟨g, 0, none⟩) N cap) (X.take off ++ Y ++ X.drop (off + Y.length)) → Below B w w' → wpList P ops Q rest (a.put o.dst (goInt Y.length)) w') : wpList P ops Q (o :: rest) a w := by
  refine wpList_plain hgd fun K hK => ?_
  obtain ⟨A, c, rfl⟩ := hY.form
  have hmin : Nat.min Y.length dLen = Y.length := Nat.min_eq_left hle
  rcases Nat.eq_zero_or_pos Y.length with h0 | h0
  · have hY0 : Y = [] := List.eq_nil_of_length_eq_zero h0
    subst hY0
    have hrun := run_copy_no (P := P) (ty := o.type) w hS hsz dp A dLen dCap 0 c (by simp)
    unfold Oper.wp
    simp [execOp, ho, resolve, invoke, builtin, hd, hs, hrun, Result.andThen]
    refine hK _ _ (h w (by simpa using hX) (Below.refl _ _))
  · obtain ⟨cur, hg, hB, hfit2, hR⟩ := KRow.splice hk hX hfit
    have hA : ∃ ad, A = some ad := by
      obtain ⟨A', c', e, hA⟩ := hY
      simp only [Value.slice.injEq] at e
      obtain ⟨rfl, _, _⟩ := e
      obtain ⟨g', o', e, _⟩ := hA h0
      exact ⟨_, e⟩
    obtain ⟨ad, rfl⟩ := hA
    have hrun := run_copy_k (P := P) (ty := o.type) w hS hsz g (off * k) dLen dCap ad Y.length c cur T Y.length (kCs enc Y) hg hmin.symm (kCs_len hk Y) (hY.cells hk hpos) hfit2 (kCs_one h1 Y)
    rw [hdp h0] at hd
    unfold Oper.wp execOp
    simp only [ho, resolve, invoke, builtin, Sem.run_bind, Sem.run_pure, Result.andThen_ok, List.map_toArray, List.map_cons, List.map_nil, hd, hs, hrun]
    exact hK _ _ (h _ hR (below_setRow (Below.refl _ _) hB _))

/-- 'append(row, slice...)', the slice one that is read. -/
theorem wpList_append_arg {P : Program} {S : TypeId} {zv : Value} {bb : Nat} (hS : P.underlying S = some (.slice T)) (hinfo : (P.info? T).map (fun i => (i.zero, i.size, i.bytes)) = some (some zv, k, bb)) (hz : zv.cells.size = k) (hpos : 0 < k) (hk : ∀ x, (enc x).size = k) (h1 : ∀ x, (enc x).toList.all (·.oneCell') = true)
    {w : World} {ops : Array Oper} {rest : List Oper} {o : Oper} {a : Act} {Q : Exit → Act → World → Prop} (hgd : o.guard = none) (s x : Operand)
    (ho : o.op = .call { callee := .builtin .append, args := #[s, x], argTypes := #[S, S] })
    {B : Nat} {v sv : Value} {X Y : List α} (hs : a.eval s = v) (hx : a.eval x = sv) (hX : KRow enc k T w B v X) (hY : KArg enc k w sv Y) (hB : B ≤ w.heap.size) (hn : X.length + Y.length ≤ 140737488355328) (hb : (X.length + Y.length) * bb ≤ 140737488355328)
    (h : ∀ v' w', KRow enc k T w' B v' (X ++ Y) → Below B w w' → wpList P ops Q rest (a.put o.dst v') w') : wpList P ops Q (o :: rest) a w := by
  refine wpList_plain hgd fun K hK => ?_
  obtain ⟨i0, hi0, hz0, hz1, hz2⟩ := info_parts hinfo
  obtain ⟨A, c, rfl⟩ := hY.form
  cases A with
  | none =>
    have h0 : Y = [] := by
      obtain ⟨A', c', e, hA⟩ := hY
      simp only [Value.slice.injEq] at e
      obtain ⟨rfl, _, _⟩ := e
      rcases Nat.eq_zero_or_pos Y.length with h0 | h0
      · exact List.eq_nil_of_length_eq_zero h0
      · obtain ⟨g', o', e, _⟩ := hA h0
        cases e
    subst h0
    have hrun : (Builtin.append_ #[S, S] o.type #[v, .slice none ([] : List α).length c]).run P w = .ok v w := by
      rcases hX.2 with ⟨rfl, h0⟩ | ⟨g, cap, cur, rfl, _, _, hnc, _⟩
      · simp [Builtin.append_, run_underlying hS, sizeOf, typeInfo, hi0, Builtin.lenOf, Builtin.firstCells]
      · simp [Builtin.append_, run_underlying hS, sizeOf, typeInfo, hi0, Builtin.lenOf, Builtin.firstCells, hnc, storeCells]
    unfold Oper.wp execOp
    simp only [ho, resolve, invoke, builtin, Sem.run_bind, Sem.run_pure, Result.andThen_ok, List.map_toArray, List.map_cons, List.map_nil, hs, hx, hrun]
    exact hK _ _ (h v w (by rw [List.append_nil]; exact hX) (Below.refl _ _))
  | some ad =>
    obtain ⟨v', w', hrun, r1, r2, _⟩ := run_append_own (P := P) w B S o.type T i0 zv k bb hS hi0 hz0 hz1 hz2 hz hpos v X.length (kCs enc X) hX ad Y.length c (kCs enc Y) (kCs_len hk Y) (hY.cells hk hpos) (kCs_one h1 Y) (by simp only [maxLen]; omega) hb hB
    unfold Oper.wp execOp
    simp only [ho, resolve, invoke, builtin, Sem.run_bind, Sem.run_pure, Result.andThen_ok, List.map_toArray, List.map_cons, List.map_nil, hs, hx, hrun]
    refine hK _ _ (h v' w' ?_ ((Below.refl _ _).grown r2 hB fun k hk => (KRow.lt hX k hk).1))
    unfold KRow
    rw [kCs_append, List.length_append]
    exact r1

/-- The first n elements of a row: the same block, cut. -/
theorem KRow.first (hk : ∀ x, (enc x).size = k) {w : World} {B g N cap n : Nat} {X : List α} (h : KRow enc k T w B (.slice (some ⟨g, 0, none⟩) N cap) X) (hn : n ≤ X.length) : KRow enc k T w B (.slice (some ⟨g, 0, none⟩) n cap) (X.take n) := by
  rcases h.2 with ⟨h', _⟩ | ⟨g', cap', cur, h', hB, hg, hnc, hcm, hcs, htake⟩
  · simp at h'
  simp only [Value.slice.injEq, Option.some.injEq, Addr.mk.injEq, and_true] at h'
  obtain ⟨rfl, hN, rfl⟩ := h'
  have hl : (X.take n).length = n := by rw [List.length_take]; omega
  refine ⟨kCs_len hk _, .inr ⟨g, cap, cur, by rw [hl], hB, hg, by omega, hcm, hcs, ?_⟩⟩
  rw [hl, kCs_take hk, ← htake, List.take_take, Nat.min_eq_left (Nat.mul_le_mul_right k hn)]
/-- The length of a row, and its room, off its value. -/
theorem KRow.len {w : World} {B g N cap : Nat} {X : List α} (h : KRow enc k T w B (.slice (some ⟨g, 0, none⟩) N cap) X) : N = X.length ∧ N ≤ cap ∧ B ≤ g ∧ g < w.heap.size := by
  rcases h.2 with ⟨h', _⟩ | ⟨g', cap', cur, h', hB, hg, hnc, hcm, hcs, htake⟩
  · simp at h'
  simp only [Value.slice.injEq, Option.some.injEq, Addr.mk.injEq, and_true] at h'
  obtain ⟨rfl, hN, rfl⟩ := h'
  exact ⟨hN, by omega, hB, (Array.getElem?_eq_some_iff.1 hg).1⟩
/-- One cell of an element stored. -/
theorem KRow.cellSet (hk : ∀ x, (enc x).size = k) {w : World} {B g N cap : Nat} {X : List α} (h : KRow enc k T w B (.slice (some ⟨g, 0, none⟩) N cap) X) (j i : Nat) (hj : j < X.length) (hi : i < k) (u : Value) (y : α) (hy : enc y = (enc X[j]).setIfInBounds i u) :
    KRow enc k T (w.setCell ⟨g, j * k + i, none⟩ u) B (.slice (some ⟨g, 0, none⟩) N cap) (X.set j y) := by
  obtain ⟨rfl, _⟩ := h.len
  have h1 := (World.ownsRow.stored h (j * k + i) u).1
  unfold KRow
  rw [List.length_set]
  have e : (kCs enc X).set (j * k + i) u = kCs enc (X.set j y) := by
    rw [kCs_set1 hk X j hj y, hy]
    apply List.ext_getElem?
    intro q
    have hc : j * k + k ≤ X.length * k := by have := Nat.mul_le_mul_right k (show j + 1 ≤ X.length from hj); rw [Nat.add_mul, Nat.one_mul] at this; exact this
    have hL := kCs_len hk X
    have hA : ((kCs enc X).take (j * k)).length = j * k := by rw [List.length_take]; omega
    have hE : ((enc X[j]).setIfInBounds i u).toList.length = k := by simp [hk]
    rw [List.getElem?_set]
    by_cases c1 : q < j * k
    · rw [if_neg (by omega), List.append_assoc, List.getElem?_append_left (by omega), List.getElem?_take, if_pos c1]
    · by_cases c2 : q < j * k + k
      · rw [List.getElem?_append_left (by rw [List.length_append]; omega), List.getElem?_append_right (by omega), hA]
        have hq : q = j * k + (q - j * k) := by omega
        have hat := kCs_at hk X j hj (q - j * k) (by omega)
        rw [← hq] at hat
        rw [hat, Array.getElem?_toList, Array.getElem?_setIfInBounds]
        by_cases c3 : j * k + i = q
        · rw [if_pos c3, if_pos (by rw [hL]; omega), if_pos (by omega), if_pos (by rw [hk]; omega)]
        · rw [if_neg c3, if_neg (by omega)]
      · rw [if_neg (by omega), List.getElem?_append_right (by rw [List.length_append]; omega), List.length_append, hA, hE, List.getElem?_drop]
        congr 1
        omega
  rw [← e]
  exact h1
end

end Go.Proofs.Ytfbclbolkojjeaa
