/-
  Layer 16: the mathematics of the round trip, of inverted bits, and of events that are ignored.
-/
import Derived.Test.YtfbclbolkojjeaaNA
namespace Go.Proofs.Ytfbclbolkojjeaa
open Go
set_option linter.unusedVariables false
set_option linter.unusedSimpArgs false

def bvI (x : UInt8) : Int := if x = 49 then 1 else 0
theorem bvI_ok (x : UInt8) : bvI x = 0 ∨ bvI x = 1 := by unfold bvI; split <;> simp
theorem nv_back {z : Bool} {x b : UInt8} (hx : x = 48 ∨ x = 49) : nvI z (bvI (stB z x b)) (bvI x) = bvI b := by
  unfold nvI stB bvI
  rcases hx with rfl | rfl <;> cases z <;> by_cases hb : b = 49 <;> simp [hb]
theorem idE_ac {a q : Int} {b : UInt8} (h0 : 0 ≤ q) (h1 : q ≤ a) (h2 : a + 1 ≤ 1099511627776) : AcE q (idE a b) := by
  have hv : (if b = 49 then (1 : Int) else 0) = 0 ∨ (if b = 49 then (1 : Int) else 0) = 1 := by split <;> simp
  unfold AcE AcP VeP idE
  simp only
  refine ⟨⟨by omega, by omega, by omega, by omega, h2, by simp, by omega, by omega, ?_, ?_, by omega, by omega⟩, trivial, h1, hv⟩ <;> split <;> omega
theorem bits_back (z : Bool) (d : List UInt8) : ∀ (x : UInt8) (a q : Int) (o : List Ev), (x = 48 ∨ x = 49) → 0 ≤ q → q ≤ a → a + d.length ≤ 1099511627776 → ∃ q', 0 ≤ q' ∧ q' ≤ a + d.length ∧ (idB a (cdL z x d)).foldl (nzS z) ⟨q, bvI x, o⟩ = ⟨q', bvI (cdF z x d), o ++ idB a d⟩ := by
  induction d with
  | nil => intro x a q o hx h0 h1 h2; exact ⟨q, h0, by simpa using h1, by simp [cdL, idB, cdF]⟩
  | cons b d ih =>
    intro x a q o hx h0 h1 h2
    rw [List.length_cons] at h2
    obtain ⟨q', p1, p2, p3⟩ := ih (stB z x b) (a + 1) a (o ++ [idE a b]) (stB_ok hx) (by omega) (by omega) (by omega)
    refine ⟨q', p1, by rw [List.length_cons]; omega, ?_⟩
    rw [cdL, idB, List.foldl_cons]
    have hs : nzS z ⟨q, bvI x, o⟩ (idE a (stB z x b)) = ⟨a, bvI (stB z x b), o ++ [idE a b]⟩ := by
      unfold nzS
      rw [if_pos (idE_ac h0 h1 (by omega))]
      have h3 : nzE z (bvI x) (idE a (stB z x b)) = idE a b := by
        unfold nzE idE
        simp only
        rw [show (if stB z x b = 49 then (1 : Int) else 0) = bvI (stB z x b) from rfl, nv_back hx]
        rfl
      rw [h3]
      rfl
    rw [hs, p3, idB, List.append_assoc]
    rfl
/-- The events of items, item by item. -/
def idJ : Int → List It → List Ev
  | _, [] => []
  | a, e :: r => idB (a + e.g) e.d.data.toList ++ idJ (a + e.g + (e.d.size : Int)) r
theorem idJ_eq (l : List It) : ∀ (a : Int) (o : List Ev), (l.foldl idF (a, o)).2 = o ++ idJ a l := by
  induction l with
  | nil => intro a o; simp [idJ]
  | cons e l ih => intro a o; rw [List.foldl_cons, idF, ih, idJ, List.append_assoc]
theorem idI_eq (l : List It) : idI l = idJ 0 l := by unfold idI idP; rw [idJ_eq]; simp
theorem items_back (z : Bool) (l : List It) : ∀ (x : UInt8) (a q : Int) (o : List Ev), (x = 48 ∨ x = 49) → 0 ≤ q → q ≤ a → (∀ e ∈ l, Bdd e) → a + l.length * 1052672 ≤ 1099511627776 → ((idJ a (codI z x l)).foldl (nzS z) ⟨q, bvI x, o⟩).o = o ++ idJ a l := by
  induction l with
  | nil => intro x a q o _ _ _ _ _; simp [codI, idJ]
  | cons e l ih =>
    intro x a q o hx h0 h1 hB h2
    obtain ⟨b1, b2, b3⟩ := hB e (List.mem_cons_self)
    rw [List.length_cons] at h2
    have hsz := size_len e.d
    obtain ⟨q', p1, p2, p3⟩ := bits_back z e.d.data.toList x (a + e.g) q o hx h0 (by omega) (by omega)
    rw [codI, idJ, codE]
    simp only
    rw [toList_mk, List.foldl_append, p3, size_mk, cdL_len, ← hsz, ih _ _ _ _ (cdF_ok hx _) p1 (by omega) (fun e he => hB e (List.mem_cons_of_mem _ he)) (by omega), idJ, List.append_assoc]
theorem round_back (z : Bool) (l : List It) (h : clE 1048576 l = 0) : (nzR z (idI (enL z l))).o = idI l := by
  obtain ⟨h1, h2⟩ := clE_ok h
  unfold enL
  rw [if_pos h, idI_eq, idI_eq]
  have := items_back z l 49 0 0 [] (.inr rfl) (by omega) (by omega) (fun e he => by have := ciT_ok (h2 e he); exact ⟨this.1, this.2.1, this.2.2.1⟩) (by omega)
  exact this
/-- The items as they were sent: gap and bits. -/
def snT (e : It) : It := ⟨e.g, 0, 0, e.d, 0⟩
theorem idJ_sn (l : List It) : ∀ a, idJ a (l.map snT) = idJ a l := by
  induction l with
  | nil => intro a; rfl
  | cons e l ih => intro a; rw [List.map_cons, idJ, idJ, ih]; rfl
theorem idI_sn (l : List It) : idI (l.map snT) = idI l := by rw [idI_eq, idI_eq, idJ_sn]
theorem enL_bd (z : Bool) (l : List It) (h : clE 1048576 l = 0) : ∀ j (hj : j < (enL z l).length), Bdd (enL z l)[j] := by
  obtain ⟨h1, h2⟩ := clE_ok h
  have key : ∀ (l : List It) (x : UInt8), (∀ e ∈ l, Bdd e) → ∀ e ∈ codI z x l, Bdd e := by
    intro l
    induction l with
    | nil => intro x _ e he; cases he
    | cons a l ih =>
      intro x hB e he
      rw [codI] at he
      rcases List.mem_cons.1 he with rfl | he
      · obtain ⟨b1, b2, b3⟩ := hB a List.mem_cons_self
        refine ⟨b1, b2, ?_⟩
        show (⟨(cdL z x a.d.data.toList).toArray⟩ : ByteArray).size ≤ 4096
        rw [size_mk, cdL_len, ← size_len]
        exact b3
      · exact ih _ (fun e he => hB e (List.mem_cons_of_mem _ he)) e he
  intro j hj
  have hm := List.getElem_mem hj
  generalize (enL z l)[j] = e at *
  unfold enL at hm
  rw [if_pos h] at hm
  exact key l 49 (fun e he => by have := ciT_ok (h2 e he); exact ⟨this.1, this.2.1, this.2.2.1⟩) e hm
theorem sn_bd (l : List It) (h : clE 1048576 l = 0) : ∀ j (hj : j < (l.map snT).length), Bdd (l.map snT)[j] := by
  obtain ⟨h1, h2⟩ := clE_ok h
  intro j hj
  rw [List.getElem_map]
  have := ciT_ok (h2 _ (List.getElem_mem (by simpa using hj)))
  exact ⟨this.1, this.2.1, this.2.2.1⟩

/-! Inverted. -/
theorem ac_k {q : Int} {e : Ev} (h : AcE q e) : e.k = 2 ∧ (e.v = 0 ∨ e.v = 1) := ⟨h.2.1, h.2.2.2⟩
theorem nvI_ok (z : Bool) (v p : Int) : nvI z v p = 0 ∨ nvI z v p = 1 := by unfold nvI; split <;> simp
theorem nz_turn (p : Int) (e : Ev) : nzE true p e = tuE (nzE false p e) := by
  unfold tuE nzE
  rw [if_pos ⟨rfl, nvI_ok _ _ _⟩]
  simp only [Ev.mk.injEq, true_and]
  refine ⟨?_, trivial⟩
  unfold nvI
  by_cases h : e.v = p <;> simp [h]
theorem inv_one (l : List Ev) : ∀ (s t : NS), s.q = t.q → s.p = t.p → t.o = s.o.map tuE → (l.foldl (nzS true) t).o = (l.foldl (nzS false) s).o.map tuE := by
  induction l with
  | nil => intro s t _ _ h; exact h
  | cons e l ih =>
    intro s t h1 h2 h3
    rw [List.foldl_cons, List.foldl_cons]
    by_cases h : AcE s.q e
    · have h' : AcE t.q e := by rw [← h1]; exact h
      unfold nzS
      rw [if_pos h, if_pos h']
      refine ih _ _ rfl rfl ?_
      simp only
      rw [h3, List.map_append, ← h2]
      simp [nz_turn]
    · have h' : ¬ AcE t.q e := by rw [← h1]; exact h
      unfold nzS
      rw [if_neg h, if_neg h']
      exact ih _ _ h1 h2 h3
theorem inverts_one (l : List Ev) : (nzR true l).o = (nzR false l).o.map tuE := inv_one l _ _ rfl rfl rfl
theorem ac_turn (q : Int) (e : Ev) : AcE q (tuE e) ↔ AcE q e := by
  unfold tuE
  by_cases h : tuP e.k e.v
  · rw [if_pos h]
    obtain ⟨h1, h2⟩ := h
    unfold AcE AcP VeP
    simp only
    omega
  · rw [if_neg h]
/-- Inverted input, one behind the other. -/
def IvP (s t : NS) : Prop := s.q = t.q ∧ ((s.o = [] ∧ t.o = [] ∧ s.p = 1 ∧ t.p = 1) ∨ (t.p = 1 - s.p ∧ ∃ e r, s.o = e :: r ∧ t.o = tuE e :: r ∧ tuP e.k e.v))
theorem iv_step {s t : NS} (h : IvP s t) (e : Ev) : IvP (nzS false s e) (nzS false t (tuE e)) := by
  obtain ⟨h1, h2⟩ := h
  by_cases ha : AcE s.q e
  · have ha' : AcE t.q (tuE e) := by rw [← h1]; exact (ac_turn _ _).2 ha
    obtain ⟨hk, hv⟩ := ac_k ha
    have htu : tuE e = { e with v := 1 - e.v } := by unfold tuE; rw [if_pos ⟨hk, hv⟩]
    unfold nzS
    rw [if_pos ha, if_pos ha']
    refine ⟨by rw [htu], .inr ⟨by rw [htu], ?_⟩⟩
    rcases h2 with ⟨o1, o2, p1, p2⟩ | ⟨hp, x, r, o1, o2, hx⟩
    · refine ⟨nzE false 1 e, [], by rw [o1, p1]; rfl, ?_, ⟨rfl, nvI_ok _ _ _⟩⟩
      rw [o2, p2, htu, List.nil_append]
      unfold tuE nzE
      rw [if_pos ⟨rfl, nvI_ok _ _ _⟩]
      simp only [List.cons.injEq, Ev.mk.injEq, true_and, and_true]
      unfold nvI
      rcases hv with h | h <;> simp [h]
    · refine ⟨x, r ++ [nzE false s.p e], by rw [o1]; rfl, ?_, hx⟩
      rw [o2, hp, htu, List.cons_append]
      congr 2
      unfold nzE
      simp only [List.cons.injEq, Ev.mk.injEq, true_and, and_true]
      unfold nvI
      by_cases h : e.v = s.p
      · simp [h]
      · have : ¬ (1 - e.v = 1 - s.p) := by omega
        simp [h, this]
  · have ha' : ¬ AcE t.q (tuE e) := by rw [← h1]; exact fun h => ha ((ac_turn _ _).1 h)
    unfold nzS
    rw [if_neg ha, if_neg ha']
    exact ⟨h1, h2⟩
theorem inverts_two (l : List Ev) : ((nzR false l).o = [] ∧ (nzR false (l.map tuE)).o = []) ∨ ∃ e r, (nzR false l).o = e :: r ∧ (nzR false (l.map tuE)).o = tuE e :: r ∧ tuP e.k e.v := by
  have key : ∀ (l : List Ev) (s t : NS), IvP s t → IvP (l.foldl (nzS false) s) ((l.map tuE).foldl (nzS false) t) := by
    intro l
    induction l with
    | nil => intro s t h; exact h
    | cons e l ih => intro s t h; rw [List.map_cons, List.foldl_cons, List.foldl_cons]; exact ih _ _ (iv_step h e)
  rcases (key l ⟨0, 1, []⟩ ⟨0, 1, []⟩ ⟨rfl, .inl ⟨rfl, rfl, rfl, rfl⟩⟩).2 with ⟨h1, h2, _⟩ | ⟨_, h⟩
  · exact .inl ⟨h1, h2⟩
  · exact .inr h

/-! Ignored. -/
def igL (x : Ev) (l : List Ev) : List Ev := l.flatMap fun e => [x, e]
theorem igL_snoc (x : Ev) {l : List Ev} {j : Nat} (hj : j < l.length) : igL x (l.take (j + 1)) = igL x (l.take j) ++ [x, l[j]] := by
  unfold igL
  rw [List.take_succ_eq_append_getElem hj, List.flatMap_append]
  simp
theorem igL_len (x : Ev) (l : List Ev) : (igL x l).length = 2 * l.length := by
  unfold igL
  induction l with
  | nil => rfl
  | cons a l ih => rw [List.flatMap_cons, List.length_append, ih, List.length_cons, List.length_cons, List.length_cons, List.length_nil]; omega
theorem ig_same (z : Bool) (x : Ev) (hx : ∀ q, 0 ≤ q → ¬ AcE q x) (l : List Ev) : (nzR z (igL x l ++ [x])).o = (nzR z l).o := by
  have key : ∀ (l : List Ev) (s : NS), 0 ≤ s.q → ((igL x l ++ [x]).foldl (nzS z) s) = l.foldl (nzS z) s := by
    intro l
    induction l with
    | nil => intro s h; show nzS z s x = s; unfold nzS; rw [if_neg (hx _ h)]
    | cons e l ih =>
      intro s h
      have e1 : igL x (e :: l) ++ [x] = x :: e :: (igL x l ++ [x]) := by unfold igL; rw [List.flatMap_cons]; rfl
      have e2 : nzS z s x = s := by unfold nzS; rw [if_neg (hx _ h)]
      rw [e1, List.foldl_cons, List.foldl_cons, List.foldl_cons, e2]
      refine ih _ ?_
      unfold nzS
      by_cases ha : AcE s.q e
      · rw [if_pos ha]; simp only; have := ha.2.2.1; omega
      · rw [if_neg ha]; exact h
  unfold nzR
  rw [key l ⟨0, 1, []⟩ (by simp only; omega)]

end Go.Proofs.Ytfbclbolkojjeaa
