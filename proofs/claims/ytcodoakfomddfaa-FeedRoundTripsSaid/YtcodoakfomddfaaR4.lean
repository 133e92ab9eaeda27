/-
  A capture's events: divided and joined, and back to runs. Mathematics, without the program.
-/
import Derived.Test.YtcodoakfomddfaaR1
import Derived.Test.YtcodoakfomddfaaR2
import Derived.Test.YtcodoakfomddfaaT2
import Derived.Test.YtcodoakfomddfaaT4
namespace Go.Proofs.Ytcodoakfomddfaa
open Go
set_option linter.unusedVariables false
set_option linter.unusedSimpArgs false

/-! The channels of all names. -/
theorem ix_self {N : List ByteArray} (h : dpT N N.length = false) {j : Nat} (hj : j < N.length) : ix N N[j] = j := by
  have h1 : ¬ ix N N[j] < j := by
    rw [ix_before hj]
    rintro ⟨x, hx, e⟩
    obtain ⟨k, hk, e2⟩ := List.getElem_of_mem hx
    rw [List.length_take] at hk
    have := dpT_yes hj (has_yes (k := k) (i := j) (by omega) (by omega) (s := N[j]) (by rw [List.getElem_take] at e2; rw [e2]; exact e))
    rw [this] at h
    cases h
  rcases ixF_first N N[j] 0 with ⟨e, h2⟩ | ⟨a, x, b, e, e2, e3, e4⟩
  · exact absurd rfl (h2 _ (List.getElem_mem hj))
  · have e5 : ix N N[j] = a.length := by unfold ix; rw [e2]; simp
    rw [e5] at h1 ⊢
    by_cases hlt : j < a.length
    · have : N[j] = a[j] := by
        have h6 : N[j]? = a[j]? := by
          rw [show N[j]? = (a ++ x :: b)[j]? from congrArg (fun l : List ByteArray => l[j]?) e, List.getElem?_append_left hlt]
        rw [List.getElem?_eq_getElem hj, List.getElem?_eq_getElem hlt] at h6
        exact Option.some.inj h6
      exact absurd rfl (this ▸ e4 a[j] (List.getElem_mem hlt))
    · omega
theorem chF_all {N : List ByteArray} (h : dpT N N.length = false) : ∀ (d j : Nat), N.length - j = d → j ≤ N.length → chF N (List.range j) (N.drop j) = (0, List.range N.length)
  | 0, j, hd, hj => by
    have : j = N.length := by omega
    subst this
    rw [List.drop_length]
    rfl
  | d + 1, j, hd, hj => by
    have hlt : j < N.length := by omega
    rw [chF_at hlt, ix_self h hlt, if_neg (by omega), Int.toNat_natCast, if_neg (by simp), ← List.range_succ]
    exact chF_all h d (j + 1) (by omega) (by omega)
theorem chA_all {N : List ByteArray} (h0 : 0 < N.length) (h : dpT N N.length = false) : chA N N = (0, List.range N.length) := by
  unfold chA
  rw [if_neg (by omega)]
  have := chF_all h N.length 0 (by omega) (by omega)
  rwa [List.drop_zero] at this
theorem chA_one {N : List ByteArray} (h : dpT N N.length = false) {j : Nat} (hj : j < N.length) : chA N [N[j]] = (0, [j]) := by
  unfold chA
  rw [if_neg (by simp)]
  unfold chF
  rw [ix_self h hj, if_neg (by omega), Int.toNat_natCast, if_neg (by simp)]
  rfl
theorem ckC_names {N : List ByteArray} {R : List Rn} (h : ckC N R = 0) : dpT N N.length = false := by
  have h1 := (ckC_ok h).2.1
  have h2 := ckN_ok h1
  unfold ckN at h1
  rw [if_neg (by omega), if_neg (by omega), if_neg (by rw [h2.2.2]; decide)] at h1
  cases hd : dpT N N.length with
  | false => rfl
  | true => rw [hd, if_pos rfl] at h1; omega
/-- All bits of a level are the level. -/
theorem sb_all (L : Nat) : ∀ n, sb (List.range n) (L : Int) = ((L % 2 ^ n : Nat) : Int)
  | 0 => by simp [sb, Nat.mod_one]
  | n + 1 => by
    have ht : (List.range (n + 1)).take (n + 1) = List.range (n + 1) := List.take_of_length_le (by simp)
    have ht2 : (List.range (n + 1)).take n = List.range n := by rw [List.take_range]; congr 1; omega
    have := sb_take (List.range (n + 1)) n (by simp) (L : Int)
    rw [ht, ht2, sb_all L n] at this
    rw [this, List.getElem_range, bt_nat, Nat.pow_succ, Nat.mod_mul]
    have e : (2 : Int) ^ n = ((2 ^ n : Nat) : Int) := by simp
    rw [e, ← Int.natCast_mul, ← Int.natCast_add, Nat.mul_comm]
theorem sb_id {L : Int} {n : Nat} (h0 : 0 ≤ L) (h1 : L ≤ mk n) : sb (List.range n) L = L := by
  obtain ⟨k, rfl⟩ : ∃ k : Nat, L = k := ⟨L.toNat, by omega⟩
  rw [sb_all]
  unfold mk at h1
  have e : (2 : Int) ^ n = ((2 ^ n : Nat) : Int) := by simp
  rw [e] at h1
  rw [Nat.mod_eq_of_lt (by omega)]

/-! A capture's events. -/
def evs : Int → List Rn → List Ev
  | _, [] => []
  | b, r :: l => ⟨1, b, b + r.2, r.1, 0, [], 0⟩ :: evs (b + r.2) l
theorem evs_len (b : Int) (l : List Rn) : (evs b l).length = l.length := by
  induction l generalizing b with
  | nil => rfl
  | cons r l ih => simp [evs, ih]
theorem evs_snoc (b : Int) (l : List Rn) (r : Rn) : evs b (l ++ [r]) = evs b l ++ [⟨1, b + lg l, b + lg l + r.2, r.1, 0, [], 0⟩] := by
  induction l generalizing b with
  | nil => simp [evs, lg]
  | cons x l ih => simp [evs, ih, lg, Int.add_assoc]
theorem leN_evs {R : List Rn} {n : Nat} (h : lv (mk n) R) : ∀ j, j ≤ R.length → leN R (List.range n) j = evs 0 (R.take j)
  | 0, _ => rfl
  | j + 1, hj => by
    have hlt : j < R.length := by omega
    have hr := h _ (List.getElem_mem hlt)
    rw [leN_succ _ hlt, leN_evs h j (by omega), List.take_succ_eq_append_getElem hlt, evs_snoc, sb_id hr.1 hr.2, Int.zero_add]
theorem leL_all {N : List ByteArray} {R : List Rn} (h : ckC N R = 0) : leE N R N = 0 ∧ leL N R N = evs 0 R := by
  obtain ⟨h1, h2, h3, h4, h5, h6⟩ := ckC_ok h
  have ha := chA_all h3 (ckC_names h)
  have hl := ((vr_iff _ _ _ (by omega)).1 h6).1
  unfold leE leL
  rw [ha, if_pos h, if_pos ⟨h, rfl⟩]
  refine ⟨rfl, ?_⟩
  have := leN_evs hl R.length (Nat.le_refl _)
  rwa [List.take_length] at this
theorem evs_plain (b : Int) (l : List Rn) : ∀ e ∈ evs b l, plE e = true := by
  induction l generalizing b with
  | nil => intro e h; cases h
  | cons r l ih =>
    intro e h
    rcases List.mem_cons.1 h with rfl | h
    · exact (plE_iff _).2 ⟨rfl, rfl, rfl, rfl⟩
    · exact ih _ e h
theorem evs_rn (b : Int) (l : List Rn) : (evs b l).map rnE = l := by
  induction l generalizing b with
  | nil => rfl
  | cons r l ih =>
    simp only [evs, List.map_cons, ih]
    congr 1
    unfold rnE
    simp only
    exact Prod.ext rfl (by show b + r.2 - b = r.2; omega)
theorem irE_iff (e : Ev) : irE e = true ↔ plE e = true ∧ e.f < e.t ∧ e.t ≤ 1099511627776 ∧ 0 ≤ e.v ∧ e.v < 65536 := irF_iff _ _ _ _ _ _ _
theorem evs_go {m : Int} (hm : m ≤ 65535) (l : List Rn) (b : Int) (h1 : lv m l) (h2 : ps l) (h3 : b + lg l ≤ 1099511627776) : goE b (evs b l) = true := by
  induction l generalizing b with
  | nil => rfl
  | cons r l ih =>
    obtain ⟨q1, q2⟩ := lv_cons.1 h1
    obtain ⟨q3, q4⟩ := ps_cons.1 h2
    have q5 := ps_nonneg q4
    have q6 : lg (r :: l) = r.2 + lg l := rfl
    simp only [evs, goE]
    rw [ih (b + r.2) q2 q4 (by omega)]
    have : irE ⟨1, b, b + r.2, r.1, 0, [], 0⟩ = true := (irE_iff _).2 ⟨(plE_iff _).2 ⟨rfl, rfl, rfl, rfl⟩, by show b < b + r.2; omega, by show b + r.2 ≤ _; omega, by show 0 ≤ r.1; omega, by show r.1 < _; omega⟩
    rw [this]
    simp

/-! Divided. -/
theorem goE_cons {b : Int} {e : Ev} {l : List Ev} : goE b (e :: l) = true ↔ e.f = b ∧ irE e = true ∧ goE e.t l = true := by
  simp [goE]
def prE (e : Ev) (p : Int × Int) : Ev := { e with f := p.1, t := p.2 }
theorem prE_pl (e : Ev) (p : Int × Int) : plE (prE e p) = plE e := rfl
theorem pc_go {zs : List Int} {e : Ev} (hp : plE e = true) (hv : 0 ≤ e.v ∧ e.v < 65536) (ht : e.t ≤ 1099511627776) (rest : List Ev) : ∀ (n : Nat) (f : Int), cnt zs f e.t ≤ n → f < e.t → goE f ((pc zs f e.t).map (prE e) ++ rest) = goE e.t rest
  | n, f, hn, hf => by
    by_cases h : nx zs f e.t < e.t
    · have hi := nx_in h
      have hl := cnt_lt hi.1 hi.2 h
      rw [pc_yes h, List.map_cons, List.cons_append]
      match n, hn with
      | 0, hn => omega
      | n + 1, hn =>
        have h2 := pc_go (zs := zs) hp hv ht rest n (nx zs f e.t) (by omega) h
        have h3 : irE (prE e (f, nx zs f e.t)) = true := (irE_iff _).2 ⟨hp, hi.2, by show nx zs f e.t ≤ _; omega, hv.1, hv.2⟩
        show ((f == f) && (irE (prE e (f, nx zs f e.t)) && goE (nx zs f e.t) ((pc zs (nx zs f e.t) e.t).map (prE e) ++ rest))) = goE e.t rest
        rw [h3, h2]
        simp
    · rw [pc_no h]
      have h3 : irE (prE e (f, e.t)) = true := (irE_iff _).2 ⟨hp, hf, ht, hv.1, hv.2⟩
      show ((f == f) && (irE (prE e (f, e.t)) && goE e.t rest)) = goE e.t rest
      rw [h3]
      simp
theorem pt_pt (o : List Rn) (v a b : Int) : pt (pt o (v, a)) (v, b) = pt o (v, a + b) := by
  rcases nil_or_snoc o with rfl | ⟨o, x, rfl⟩
  · rw [pt_nil, pt_nil]
    have := pt_snoc [] (v, a) (v, b)
    simpa using this
  · rw [pt_snoc, pt_snoc]
    by_cases h : x.1 = v
    · simp only [if_pos h]
      rw [pt_snoc]
      simp only
      rw [if_pos h, Int.add_assoc]
    · simp only [if_neg h]
      rw [pt_snoc]
      simp
theorem pc_jn {zs : List Int} {e : Ev} : ∀ (n : Nat) (f : Int) (o : List Rn), cnt zs f e.t ≤ n → ((pc zs f e.t).map (prE e)).foldl (fun o x => pt o (rnE x)) o = pt o (e.v, e.t - f)
  | n, f, o, hn => by
    by_cases h : nx zs f e.t < e.t
    · have hi := nx_in h
      have hl := cnt_lt hi.1 hi.2 h
      rw [pc_yes h, List.map_cons, List.foldl_cons]
      match n, hn with
      | 0, hn => omega
      | n + 1, hn =>
        rw [pc_jn (zs := zs) n (nx zs f e.t) _ (by omega)]
        show pt (pt o (e.v, nx zs f e.t - f)) (e.v, e.t - nx zs f e.t) = _
        rw [pt_pt]
        congr 2
        omega
    · rw [pc_no h]
      rfl
theorem mgs_mgs {e : Ev} (hp : plE e = true) (o : List Ev) (f c d : Int) : mgs (mgs o (prE e (f, c))) (prE e (c, d)) = mgs o (prE e (f, d)) := by
  have ht : ∀ m : Ev, tcE m (prE e (f, c)) = tcE m (prE e (f, d)) := fun m => rfl
  rcases ev_nil_or_snoc o with rfl | ⟨o, m, rfl⟩
  · rw [mgs_nil, mgs_nil]
    have := mgs_snoc [] (prE e (f, c)) (prE e (c, d))
    rw [List.nil_append] at this
    rw [this, if_pos ((tcE_iff (prE e (f, c)) (prE e (c, d))).2 ⟨hp, hp, rfl, rfl⟩)]
    rfl
  · rw [mgs_snoc, mgs_snoc, ht]
    by_cases h : tcE m (prE e (f, d)) = true
    · obtain ⟨h1, h2, h3, h4⟩ := (tcE_iff _ _).1 h
      rw [if_pos h, if_pos h, mgs_snoc]
      exact (if_pos ((tcE_iff { m with t := (prE e (f, c)).t } (prE e (c, d))).2 ⟨h1, hp, h3, rfl⟩)).trans rfl
    · rw [if_neg h, if_neg h, mgs_snoc, if_pos ((tcE_iff (prE e (f, c)) (prE e (c, d))).2 ⟨hp, hp, rfl, rfl⟩)]
      rfl
theorem pc_mg {zs : List Int} {e : Ev} (hp : plE e = true) : ∀ (n : Nat) (f : Int) (o : List Ev), cnt zs f e.t ≤ n → ((pc zs f e.t).map (prE e)).foldl mgs o = mgs o (prE e (f, e.t))
  | n, f, o, hn => by
    by_cases h : nx zs f e.t < e.t
    · have hi := nx_in h
      have hl := cnt_lt hi.1 hi.2 h
      rw [pc_yes h, List.map_cons, List.foldl_cons]
      match n, hn with
      | 0, hn => omega
      | n + 1, hn =>
        rw [pc_mg (zs := zs) hp n (nx zs f e.t) _ (by omega)]
        exact mgs_mgs hp o _ _ _
    · rw [pc_no h]
      rfl
theorem pc_pos (zs : List Int) (f t : Int) : 1 ≤ (pc zs f t).length := by
  by_cases h : nx zs f t < t
  · rw [pc_yes h]; simp
  · rw [pc_no h]; simp
theorem spE_yes {zs : List Int} {e : Ev} (hp : plE e = true) : spE zs e = (pc zs e.f e.t).map (prE e) := by unfold spE; rw [if_pos hp]; rfl
theorem spl_cons (zs : List Int) (e : Ev) (l : List Ev) : spl zs (e :: l) = spE zs e ++ spl zs l := rfl
theorem spl_go (zs : List Int) (l : List Ev) (b : Int) (h : goE b l = true) : goE b (spl zs l) = true := by
  induction l generalizing b with
  | nil => rfl
  | cons e l ih =>
    obtain ⟨rfl, h1, h2⟩ := goE_cons.1 h
    obtain ⟨p1, p2, p3, p4, p5⟩ := (irE_iff e).1 h1
    rw [spl_cons, spE_yes p1, pc_go p1 ⟨p4, p5⟩ p3 _ _ _ (Nat.le_refl _) p2]
    exact ih _ h2
theorem jn_fold (l : List Ev) (o : List Rn) : (l.map rnE).foldl pt o = l.foldl (fun o x => pt o (rnE x)) o := by
  induction l generalizing o with
  | nil => rfl
  | cons e l ih => simp [ih]
theorem spl_jn (zs : List Int) (l : List Ev) (b : Int) (h : goE b l = true) : jn ((spl zs l).map rnE) = jn (l.map rnE) := by
  unfold jn
  rw [jn_fold, jn_fold]
  generalize ([] : List Rn) = o
  induction l generalizing b o with
  | nil => rfl
  | cons e l ih =>
    obtain ⟨rfl, h1, h2⟩ := goE_cons.1 h
    obtain ⟨p1, p2, p3, p4, p5⟩ := (irE_iff e).1 h1
    rw [spl_cons, spE_yes p1, List.foldl_append, pc_jn _ _ _ (Nat.le_refl _), List.foldl_cons]
    exact ih _ h2 _
theorem spl_mg (zs : List Int) (l : List Ev) (b : Int) (h : goE b l = true) : mg (spl zs l) = mg l := by
  unfold mg
  generalize ([] : List Ev) = o
  induction l generalizing b o with
  | nil => rfl
  | cons e l ih =>
    obtain ⟨rfl, h1, h2⟩ := goE_cons.1 h
    obtain ⟨p1, p2, p3, p4, p5⟩ := (irE_iff e).1 h1
    rw [spl_cons, spE_yes p1, List.foldl_append, pc_mg p1 _ _ _ (Nat.le_refl _), List.foldl_cons]
    exact ih _ h2 _
theorem spl_more (zs : List Int) (l : List Ev) (b : Int) (h : goE b l = true) : l.length ≤ (spl zs l).length := by
  induction l generalizing b with
  | nil => simp
  | cons e l ih =>
    obtain ⟨rfl, h1, h2⟩ := goE_cons.1 h
    have := ih _ h2
    have hp := pc_pos zs e.f e.t
    rw [spl_cons, spE_yes ((irE_iff e).1 h1).1, List.length_append, List.length_map, List.length_cons]
    omega
theorem spl_v (zs : List Int) (l : List Ev) (x : Ev) (h : x ∈ spl zs l) : ∃ e ∈ l, x.v = e.v := by
  obtain ⟨e, he, hx⟩ := List.mem_flatMap.1 h
  refine ⟨e, he, ?_⟩
  unfold spE at hx
  split at hx
  · obtain ⟨p, _, rfl⟩ := List.mem_map.1 hx; rfl
  · rw [List.mem_singleton.1 hx]

/-! Joined. -/
def en : Int → List Ev → Int
  | b, [] => b
  | _, e :: l => en e.t l
theorem en_snoc (b : Int) (l : List Ev) (e : Ev) : en b (l ++ [e]) = e.t := by
  induction l generalizing b with
  | nil => rfl
  | cons x l ih => exact ih _
theorem goE_snoc (b : Int) (l : List Ev) (e : Ev) : goE b (l ++ [e]) = true ↔ goE b l = true ∧ e.f = en b l ∧ irE e = true := by
  induction l generalizing b with
  | nil => simp [goE, en]
  | cons x l ih =>
    rw [List.cons_append, goE_cons, goE_cons, ih]
    constructor
    · rintro ⟨a, b, c, d, e⟩; exact ⟨⟨a, b, c⟩, d, e⟩
    · rintro ⟨⟨a, b, c⟩, d, e⟩; exact ⟨a, b, c, d, e⟩
theorem mg_snoc (l : List Ev) (e : Ev) : mg (l ++ [e]) = mgs (mg l) e := by unfold mg; rw [List.foldl_append]; rfl
theorem mg_all (b : Int) : ∀ (n : Nat) (l : List Ev), l.length = n → goE b l = true → (mg l).map rnE = jn (l.map rnE) ∧ goE b (mg l) = true ∧ en b (mg l) = en b l
  | 0, l, hl, h => by
    have := List.eq_nil_of_length_eq_zero hl
    subst this
    exact ⟨rfl, rfl, rfl⟩
  | n + 1, l, hl, h => by
    rcases ev_nil_or_snoc l with rfl | ⟨l, e, rfl⟩
    · simp at hl
    obtain ⟨g1, g2, g3⟩ := (goE_snoc b l e).1 h
    obtain ⟨i1, i2, i3⟩ := mg_all b n l (by simpa using hl) g1
    rw [mg_snoc, List.map_append, List.map_cons, List.map_nil, jn_snoc, en_snoc, ← i1]
    obtain ⟨p1, p2, p3, p4, p5⟩ := (irE_iff e).1 g3
    rcases ev_nil_or_snoc (mg l) with hm | ⟨o, m, hm⟩
    · rw [hm] at i2 i3 ⊢
      refine ⟨rfl, ?_, rfl⟩
      rw [mgs_nil, goE_cons]
      exact ⟨g2.trans (i3.symm.trans rfl), g3, rfl⟩
    · rw [hm] at i2 i3 ⊢
      obtain ⟨k1, k2, k3⟩ := (goE_snoc b o m).1 i2
      obtain ⟨q1, q2, q3, q4, q5⟩ := (irE_iff m).1 k3
      have hmt : m.t = e.f := by rw [g2, ← i3, en_snoc]
      rw [mgs_snoc, List.map_append, List.map_cons, List.map_nil, pt_snoc]
      by_cases hv : m.v = e.v
      · rw [if_pos ((tcE_iff _ _).2 ⟨q1, p1, hv, hmt⟩), if_pos (show (rnE m).1 = (rnE e).1 from hv)]
        refine ⟨?_, ?_, en_snoc _ _ _⟩
        · rw [List.map_append]
          congr 2
          show [((m.v, e.t - m.f) : Rn)] = [(m.v, m.t - m.f + (e.t - e.f))]
          rw [show e.t - m.f = m.t - m.f + (e.t - e.f) by omega]
        · rw [goE_snoc]
          exact ⟨k1, k2, (irE_iff _).2 ⟨q1, by show m.f < e.t; omega, p3, q4, q5⟩⟩
      · rw [if_neg (fun h => hv ((tcE_iff _ _).1 h).2.2.1), if_neg (show ¬ (rnE m).1 = (rnE e).1 from hv)]
        refine ⟨by simp, ?_, en_snoc _ _ _⟩
        rw [goE_snoc, en_snoc]
        exact ⟨i2, hmt.symm, g3⟩
theorem ruE_of {l : List Ev} (h : l.length ≤ 262144) (g : goE 0 l = true) : ruE l = 0 ∧ ruL l = l.map rnE := by
  unfold ruE ruL
  rw [if_neg (by omega), if_pos g, if_pos ⟨h, g⟩]
  exact ⟨rfl, rfl⟩
theorem mg_len' (l : List Ev) : (mg l).length ≤ l.length := by
  have := mg_len l l.length (Nat.le_refl _)
  rwa [List.take_length] at this

/-- A capture's events, divided and joined, are runs again. -/
theorem round_all {N : List ByteArray} {R : List Rn} (zs : List Int) (h : ckC N R = 0) (hl : (spl zs (evs 0 R)).length ≤ 262144) :
    (ruE (evs 0 R) = 0 ∧ ruL (evs 0 R) = R) ∧ (evs 0 R).length ≤ (spl zs (evs 0 R)).length ∧ mg (spl zs (evs 0 R)) = mg (evs 0 R) ∧
      (ruE (spl zs (evs 0 R)) = 0 ∧ ckC N (ruL (spl zs (evs 0 R))) = 0 ∧ jn (ruL (spl zs (evs 0 R))) = jn R) ∧
      (ruE (mg (evs 0 R)) = 0 ∧ ruL (mg (evs 0 R)) = jn R ∧ ckC N (jn R) = 0 ∧ jn (jn R) = jn R) := by
  obtain ⟨h1, h2, h3, h4, h5, h6⟩ := ckC_ok h
  have hmk := mk_range h4
  obtain ⟨l1, l2, l3⟩ := (vr_iff _ _ _ (by omega)).1 h6
  have hg : goE 0 (evs 0 R) = true := evs_go hmk.2 R 0 l1 l2 l3
  have hge : (evs 0 R).length ≤ 262144 := by rw [evs_len]; omega
  obtain ⟨a1, a2⟩ := ruE_of hge hg
  obtain ⟨b1, b2⟩ := ruE_of hl (spl_go zs _ 0 hg)
  have c1 := spl_jn zs _ 0 hg
  obtain ⟨m1, m2, m3⟩ := mg_all 0 _ (evs 0 R) rfl hg
  obtain ⟨d1, d2⟩ := ruE_of (Nat.le_trans (mg_len' _) hge) m2
  rw [evs_rn] at a2 c1 m1
  have e1 : jn (jn R) = jn R := by
    refine al_unique (jn_al _) (jn_ps (jn_ps l2)) (jn_al _) (jn_ps l2) fun k hk => ?_
    rw [atv_jn k (jn_ps l2) hk]
  have hvj := jn_vr h6
  refine ⟨⟨a1, a2⟩, spl_more zs _ 0 hg, spl_mg zs _ 0 hg, ⟨b1, ?_, by rw [b2, c1]⟩, d1, by rw [d2, m1], ckC_0 (by have := jn_len R; omega) h2 hvj, e1⟩
  rw [b2]
  refine ckC_0 (by rw [List.length_map]; omega) h2 ((vr_iff _ _ _ (by omega)).2 ⟨?_, ?_, ?_⟩)
  · intro r hr
    obtain ⟨x, hx, rfl⟩ := List.mem_map.1 hr
    obtain ⟨e, he, hxe⟩ := spl_v zs _ x hx
    show 0 ≤ x.v ∧ x.v ≤ _
    rw [hxe]
    have : rnE e ∈ R := by rw [← evs_rn 0 R]; exact List.mem_map.2 ⟨e, he, rfl⟩
    exact l1 _ this
  · intro r hr
    obtain ⟨x, hx, rfl⟩ := List.mem_map.1 hr
    have hgs := spl_go zs _ 0 hg
    have : ∀ (l : List Ev) (b : Int), goE b l = true → ∀ x ∈ l, x.f < x.t := by
      intro l
      induction l with
      | nil => intro b _ x h; cases h
      | cons e l ih =>
        intro b hgo x hx
        obtain ⟨_, g1, g2⟩ := goE_cons.1 hgo
        rcases List.mem_cons.1 hx with rfl | hx
        · exact ((irE_iff _).1 g1).2.1
        · exact ih _ g2 x hx
    have := this _ 0 hgs x hx
    show 1 ≤ x.t - x.f
    omega
  · rw [← jn_lg, c1, jn_lg]
    exact l3

end Go.Proofs.Ytcodoakfomddfaa
