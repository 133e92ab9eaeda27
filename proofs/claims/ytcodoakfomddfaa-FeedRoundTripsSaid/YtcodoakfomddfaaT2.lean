/-
  The walk of the program's Runs.
-/
import Derived.Test.YtcodoakfomddfaaT1
import Derived.Test.YtcodoakfomddfaaW5
namespace Go.Proofs.Ytcodoakfomddfaa
open Go Go.RowKit Go.Joins
set_option linter.unusedVariables false
set_option linter.unusedSimpArgs false

theorem wpList_append_ru2 {w : World} {ops : Array Oper} {rest : List Oper} {o : Oper} {a : Act} {Q : Exit → Act → World → Prop} (hgd : o.guard = none) (s x : Operand)
    (ho : o.op = .call { callee := .builtin .append, args := #[s, x], argTypes := #[23, 23] })
    {B c : Nat} {v : Value} {l : List Rn} {g : Nat} {X Y : Int} {ya : Array Value} (hya : ya = #[.int .i64 X, .int .i64 Y]) (hs : a.eval s = v) (hx : a.eval x = .slice (some ⟨g, 0, none⟩) 1 c) (hg : g = w.heap.size) (hf : RnRow w B v l) (hB : B ≤ w.heap.size) (hn : l.length ≤ 2199023255550)
    (h : ∀ v' w', RnRow w' B v' (l ++ [(X, Y)]) → Below B w w' → (∀ k, k < w.heap.size → some k ≠ v.ownBlock → w'.heap[k]? = w.heap[k]?) → wpList Try.prog ops Q rest (a.put o.dst v') w') : wpList Try.prog ops Q (o :: rest) a (w.alloc (.cells ya 46)) :=
  wpList_append_k2 (P := Try.prog) Try.underlying23 run_info rfl (by omega) rnC_size hgd s x ho (X, Y) hya hs hx hg hf hB (by subst hya; rfl) (by omega) (by omega) h

/-- An event as a run. -/
def rnE (e : Ev) : Rn := (e.v, e.t - e.f)
/-- The events can be runs, the first beginning at b. -/
def goE : Int → List Ev → Bool
  | _, [] => true
  | b, e :: l => e.f == b && (irE e && goE e.t l)
def ruE (l : List Ev) : Int := if 262144 < l.length then 6 else if goE 0 l = true then 0 else 1
def ruL (l : List Ev) : List Rn := if l.length ≤ 262144 ∧ goE 0 l = true then l.map rnE else []
theorem goE_at {l : List Ev} {j : Nat} {E : Int} (hj : j < l.length) (h : goE 0 l = goE E (l.drop j)) : goE 0 l = (l[j].f == E && (irE l[j] && goE l[j].t (l.drop (j + 1)))) := by
  rw [h, List.drop_eq_getElem_cons hj]
  rfl
theorem irF_iff (k f t v a : Int) (s : ByteArray) (u : Int) : irF k f t v a s u = true ↔ plF k a s u = true ∧ f < t ∧ t ≤ 1099511627776 ∧ 0 ≤ v ∧ v < 65536 := by
  unfold irF
  simp
theorem map_snoc {l : List Ev} {j : Nat} (hj : j < l.length) : (l.take (j + 1)).map rnE = (l.take j).map rnE ++ [(l[j].v, l[j].t - l[j].f)] := by
  rw [List.take_succ_eq_append_getElem hj, List.map_append]
  rfl

set_option maxRecDepth 20000 in
set_option maxHeartbeats 4000000 in
theorem runs_any (l : List Ev) (V : Value) (w : World) (hT : EvArg w V l) (hn : l.length ≤ 2199023255550) : Calls Try.prog 17 #[V] w fun e w' => ∃ v : Value, e = .returned (.tuple #[v, .int .i64 (ruE l)]) ∧ RnRow w' w.heap.size v (ruL l) ∧ Below w.heap.size w w' := by
  have CI := Lib.hid (fun k f t v a s u W => isRun_xy k f t v a s u W)
  obtain ⟨A0, c0, rfl, hA0⟩ := hT
  have HA := Lib.hid hA0
  clear hA0
  have hE : ruE l = if 262144 < l.length then 6 else if goE 0 l = true then 0 else 1 := rfl
  have hL : ruL l = if l.length ≤ 262144 ∧ goE 0 l = true then l.map rnE else [] := rfl
  generalize ruE l = RE at *
  generalize ruL l = RL at *
  have HE := Lib.hid hE; have HL := Lib.hid hL
  clear hE hL
  by_cases hbig : 262144 < l.length
  · have hbig' : (262144 : Int) < (l.length : Int) := by omega
    obtain rfl : RE = 6 := by rw [HE.out, if_pos hbig]
    obtain rfl : RL = [] := by rw [HL.out, if_neg (by omega)]
    clear HE HL
    go_enter Try.func17, Try.ntmps17
    go_wp2
    go_returns
    exact ⟨_, rfl, KRow.nil _ _, Below.refl _ _⟩
  have hbig' : ¬ (262144 : Int) < (l.length : Int) := by omega
  replace HE : Hid (RE = if goE 0 l = true then 0 else 1) := Lib.hid (by rw [HE.out, if_neg hbig])
  replace HL : Hid (RL = if goE 0 l = true then l.map rnE else []) := Lib.hid (by rw [HL.out]; by_cases h : goE 0 l = true <;> simp [h] <;> omega)
  go_enter Try.func17, Try.ntmps17
  go_wp2
  go_loopw [13, 4, 5] (fun i r s wr => ∃ (j : Nat) (E : Int), j ≤ l.length ∧ i = .int .i64 j ∧ s = .int .i64 E ∧ Hid (goE 0 l = goE E (l.drop j)) ∧ 0 ≤ E ∧ E ≤ 1099511627776 ∧ Hid (RnRow wr w.heap.size r ((l.take j).map rnE)) ∧ Hid (Below w.heap.size w wr)) (fun i _ _ _ => l.length - (intOf i).toNat)
  case atStart => exact ⟨0, 0, Nat.zero_le _, rfl, rfl, Lib.hid rfl, by omega, by omega, Lib.hid (KRow.nil _ _), Lib.hid (Below.refl _ _)⟩
  case round =>
    obtain ⟨j, E, hj, rfl, rfl, HG, hE0, hE1, HR, HB⟩ := hrel
    have hb := HB.out
    by_cases hjl : j < l.length
    · obtain ⟨g, o, rfl, hg, hc⟩ := HA.out (by omega)
      obtain ⟨a0, a1, a2, a3, a4, a5, a6⟩ := arg_seven hc j hjl
      have f0 := (hb.cell (p := ⟨g, o + j * 7, none⟩) hg).trans a0
      have f1 := (hb.cell (p := ⟨g, o + j * 7 + 1, none⟩) hg).trans a1
      have f2 := (hb.cell (p := ⟨g, o + j * 7 + 2, none⟩) hg).trans a2
      have f3 := (hb.cell (p := ⟨g, o + j * 7 + 3, none⟩) hg).trans a3
      have f4 := (hb.cell (p := ⟨g, o + j * 7 + 4, none⟩) hg).trans a4
      have f5 := (hb.cell (p := ⟨g, o + j * 7 + 5, none⟩) hg).trans a5
      have f6 := (hb.cell (p := ⟨g, o + j * 7 + 6, none⟩) hg).trans a6
      have hgo := goE_at hjl HG.out
      have hmap := Lib.hid (map_snoc hjl)
      have hir : irE l[j] = irF l[j].k l[j].f l[j].t l[j].v l[j].a ⟨l[j].d.toArray⟩ l[j].u := rfl
      rw [hir] at hgo
      clear a0 a1 a2 a3 a4 a5 a6 hc hir
      obtain ⟨W0, b0, eW0, eb0, HS⟩ := seven_at wr l[j].k l[j].f l[j].t l[j].v l[j].a ⟨l[j].d.toArray⟩ l[j].u 48
      subst eW0 eb0
      have hs := Lib.hid HS
      clear HS
      generalize (⟨l[j].d.toArray⟩ : ByteArray) = x5 at *
      generalize l[j].k = x0 at *
      generalize l[j].f = x1 at *
      generalize l[j].t = x2 at *
      generalize l[j].v = x3 at *
      generalize l[j].a = x4 at *
      generalize l[j].u = x6 at *
      have hff := irF_iff x0 x1 x2 x3 x4 x5 x6
      have CIq : Hid (∀ W, Calls Try.prog 39 #[.agg (evA x0 x1 x2 x3 x4 x5 x6)] W fun e w' => e = .returned (.bool (irF x0 x1 x2 x3 x4 x5 x6)) ∧ Below W.heap.size W w') := Lib.hid fun W => CI.out _ _ _ _ _ _ _ W
      generalize irF x0 x1 x2 x3 x4 x5 x6 = q at *
      have HGO := Lib.hid hgo
      clear hgo
      by_cases hx : x1 = E
      · subst hx
        cases q with
        | false =>
          have hz : goE 0 l = false := by rw [HGO.out]; simp
          obtain rfl : RE = 1 := by rw [HE.out, hz]; rfl
          obtain rfl : RL = [] := by rw [HL.out, hz]; rfl
          clear HE HL HGO hff hz HG hmap
          go_wp2_with (first
            | (go_at_call 39; go_must (refine (CIq.out _).mono ?_; rintro e1 w1 ⟨rfl, b1⟩)))
          go_returns
          exact ⟨_, rfl, KRow.nil _ _, (by repeat' (first | with_reducible exact Below.refl _ _ | with_reducible exact Nat.le_refl _ | with_reducible assumption | with_reducible refine below_drewN ?_ _ | with_reducible refine Below.drew ?_ | with_reducible refine Below.trans ?_ (Below.mono (by assumption) ?_) | with_reducible refine Below.alloc ?_ ?_ _ | with_reducible refine Below.setCell ?_ ?_ _ | with_reducible refine le_setCell ?_ _ _ | with_reducible refine le_alloc ?_ _ | with_reducible refine le_drewN ?_ _ | with_reducible refine le_drew ?_ | with_reducible refine Nat.le_trans ?_ (Below.size (by assumption)) | (simp only [World.size_alloc, World.size_setCell]; omega)))⟩
        | true =>
          obtain ⟨_, h1, h2, h3, h4⟩ := hff.1 rfl
          clear hff
          obtain ⟨UA, UN, UC, rfl, hUN⟩ := HR.out.form
          clear hUN
          go_wp2_with (first
            | (go_at_call 39; go_must (refine (CIq.out _).mono ?_; rintro e1 w1 ⟨rfl, b1⟩; have h5 := Lib.hid (held_one hs.out b1); obtain ⟨d0, d1, d2, d3, d4, d5, d6, B1, l1⟩ := h5.out; have R1 := Lib.hid ((HR.out.alloc _).keep b1)))
            | (at_builtin; go_must (refine wpList_append_ru2 rfl _ _ rfl rfl rfl rfl (by simp only [World.size_alloc]) R1.out (by repeat' (first | with_reducible exact Below.refl _ _ | with_reducible exact Nat.le_refl _ | with_reducible assumption | with_reducible refine below_drewN ?_ _ | with_reducible refine Below.drew ?_ | with_reducible refine Below.trans ?_ (Below.mono (by assumption) ?_) | with_reducible refine Below.alloc ?_ ?_ _ | with_reducible refine Below.setCell ?_ ?_ _ | with_reducible refine le_setCell ?_ _ _ | with_reducible refine le_alloc ?_ _ | with_reducible refine le_drewN ?_ _ | with_reducible refine le_drew ?_ | with_reducible refine Nat.le_trans ?_ (Below.size (by assumption)) | (simp only [World.size_alloc, World.size_setCell]; omega))) (by simp; omega) ?_; intro v5 w5 R5 b5 n5; have m5 := (kept_at n5 ⟨wr.heap.size, 2, none⟩ l1 (fun e => by have := (HR.out.lt _ e.symm).2; exact absurd this (Nat.lt_irrefl _))).trans d2)))
          go_roundw
          case rel => exact ⟨j + 1, x2, by omega, val_int (by omega), rfl, Lib.hid (by rw [HGO.out]; simp), by omega, by omega, Lib.hid (by rw [hmap.out]; exact R5), Lib.hid (by repeat' (first | with_reducible exact Below.refl _ _ | with_reducible exact Nat.le_refl _ | with_reducible assumption | with_reducible refine below_drewN ?_ _ | with_reducible refine Below.drew ?_ | with_reducible refine Below.trans ?_ (Below.mono (by assumption) ?_) | with_reducible refine Below.alloc ?_ ?_ _ | with_reducible refine Below.setCell ?_ ?_ _ | with_reducible refine le_setCell ?_ _ _ | with_reducible refine le_alloc ?_ _ | with_reducible refine le_drewN ?_ _ | with_reducible refine le_drew ?_ | with_reducible refine Nat.le_trans ?_ (Below.size (by assumption)) | (simp only [World.size_alloc, World.size_setCell]; omega)))⟩
          case measure => simp [intOf]; omega
      · have hz : goE 0 l = false := by rw [HGO.out]; simp [hx]
        obtain rfl : RE = 1 := by rw [HE.out, hz]; rfl
        obtain rfl : RL = [] := by rw [HL.out, hz]; rfl
        clear HE HL HGO hff hz HG hmap
        go_wp2
        go_returns
        exact ⟨_, rfl, KRow.nil _ _, (by repeat' (first | with_reducible exact Below.refl _ _ | with_reducible exact Nat.le_refl _ | with_reducible assumption | with_reducible refine below_drewN ?_ _ | with_reducible refine Below.drew ?_ | with_reducible refine Below.trans ?_ (Below.mono (by assumption) ?_) | with_reducible refine Below.alloc ?_ ?_ _ | with_reducible refine Below.setCell ?_ ?_ _ | with_reducible refine le_setCell ?_ _ _ | with_reducible refine le_alloc ?_ _ | with_reducible refine le_drewN ?_ _ | with_reducible refine le_drew ?_ | with_reducible refine Nat.le_trans ?_ (Below.size (by assumption)) | (simp only [World.size_alloc, World.size_setCell]; omega)))⟩
    · have he : l.take j = l := List.take_of_length_le (by omega)
      have hd : l.drop j = [] := List.drop_of_length_le (by omega)
      rw [he] at HR
      have hz : goE 0 l = true := by rw [HG.out, hd]; rfl
      obtain rfl : RE = 0 := by rw [HE.out, hz]; rfl
      obtain rfl : RL = l.map rnE := by rw [HL.out, hz]; rfl
      clear he hd hz HE HL HG
      go_wp2
      go_returns
      exact ⟨_, rfl, HR.out, hb⟩

end Go.Proofs.Ytcodoakfomddfaa
