/-
  The walk of the specification's Split.
-/
import Derived.Test.YtcodoakfomddfaaT13
import Derived.Test.YtcodoakfomddfaaR1
namespace Go.Proofs.Ytcodoakfomddfaa
open Go Go.RowKit Go.Joins
set_option linter.unusedVariables false
set_option linter.unusedSimpArgs false

theorem KRow.other {α : Type} {enc : α → Array Value} {k : Nat} {T : TypeId} {w : World} {B : Nat} {v : Value} {l : List α} (h : KRow enc k T w B v l) (a : Addr) (x : Value) (hne : v.ownBlock ≠ some a.block) : KRow enc k T (w.setCell a x) B v l := by
  refine ⟨h.1, h.2.imp id fun ⟨g, cap, cur, e, h1, h2, h3⟩ => ⟨g, cap, cur, e, h1, ?_, h3⟩⟩
  have hg : ¬ g = a.block := fun e2 => hne (by rw [e, ← e2]; rfl)
  simp only [World.setCell]
  rw [Array.getElem?_modify, if_neg (fun e => hg e.symm)]
  exact h2
/-- What is left of the walk over an event's ticks. -/
def lft (l : List Int) (t c : Int) : Nat := cnt l c t + if c < t then 1 else 0
theorem cnt_self (l : List Int) (t : Int) : cnt l t t = 0 := by
  unfold cnt
  rw [List.filter_eq_nil_iff.2 (fun x _ => by simp; omega)]
  rfl
theorem lft_lt {l : List Int} {c t : Int} (h : c < t) : lft l t (nx l c t) < lft l t c := by
  unfold lft
  rw [if_pos h]
  by_cases h2 : nx l c t < t
  · rw [if_pos h2]
    have := cnt_lt (nx_in h2).1 (nx_in h2).2 h2
    omega
  · have e : nx l c t = t := by have := (nx_min l c t).1; omega
    rw [e, if_neg (by omega), cnt_self]
    omega
def evP (x0 x3 x4 : Int) (x5 : ByteArray) (x6 : Int) (p : Int × Int) : Ev := ⟨x0, p.1, p.2, x3, x4, x5.data.toList, x6⟩

/-- An event's cells. -/
theorem RowAt.seven {w : World} {b : Nat} {T : TypeId} {x0 x1 x2 x3 x4 : Int} {x5 : ByteArray} {x6 : Int} (h : RowAt w b T (evA x0 x1 x2 x3 x4 x5 x6)) : w.cell? ⟨b, 0, none⟩ = some (.int .i64 x0) ∧ w.cell? ⟨b, 1, none⟩ = some (.int .i64 x1) ∧ w.cell? ⟨b, 2, none⟩ = some (.int .i64 x2) ∧ w.cell? ⟨b, 3, none⟩ = some (.int .i64 x3) ∧ w.cell? ⟨b, 4, none⟩ = some (.int .i64 x4) ∧ w.cell? ⟨b, 5, none⟩ = some (.string x5) ∧ w.cell? ⟨b, 6, none⟩ = some (.int .i64 x6) ∧ w.frozen? ⟨b, 1, none⟩ = false ∧ w.frozen? ⟨b, 2, none⟩ = false :=
  ⟨h.cell 0, h.cell 1, h.cell 2, h.cell 3, h.cell 4, h.cell 5, h.cell 6, h.frozen 1, h.frozen 2⟩

set_option maxRecDepth 20000 in
set_option maxHeartbeats 8000000 in
theorem refSplit_any (es : List Ev) (l : List Int) (V A : Value) (w : World) (hE : EvArg w V es) (hA : TkArg w A l) (hl : l.length ≤ 1099511627776) (hn : es.length * (l.length + 1) ≤ 1099511627775) :
    Calls Try.prog 16 #[V, A] w fun e w' => ∃ v : Value, e = .returned v ∧ EvRow w' w.heap.size v (spl l es) ∧ Below w.heap.size w w' := by
  have hes : es.length ≤ 1099511627775 := Nat.le_trans (Nat.le_mul_of_pos_right _ (by omega)) hn
  have CI := Lib.hid (fun k f t v a s u W => refPlain_xy k f t v a s u W)
  have CN := Lib.hid (fun f t W (hb : Below w.heap.size w W) => refNext_any l A f t W (hA.keep hb) hl)
  obtain ⟨A0, c0, rfl, hA0⟩ := hE
  obtain ⟨tA, tc, rfl, _⟩ := hA
  have HA := Lib.hid hA0
  clear hA0
  have H0 := Lib.hid (KRow.lit (T := 48) evC_size w w.heap.size (Nat.le_refl _) ([] : List Ev) #[] rfl 0 rfl (by simp))
  go_enter Try.func16, Try.ntmps16
  go_wp2
  go_loopw [6, 5] (fun i r wr => ∃ j : Nat, j ≤ es.length ∧ i = .int .i64 j ∧ Hid (EvRow wr w.heap.size r (spl l (es.take j))) ∧ Hid (Below w.heap.size w wr) ∧ (spl l (es.take j)).length ≤ j * (l.length + 1)) (fun i _ _ => es.length - (intOf i).toNat)
  case atStart => exact ⟨0, Nat.zero_le _, rfl, Lib.hid H0.out, Lib.hid (ba _ _), by simp [spl]⟩
  case round =>
    obtain ⟨j, hj, rfl, HR, HB, hlen⟩ := hrel
    have hb := HB.out
    by_cases hjl : j < es.length
    · obtain ⟨g, o, rfl, hg, hc⟩ := HA.out (by omega)
      obtain ⟨a0, a1, a2, a3, a4, a5, a6⟩ := arg_seven hc j hjl
      have f0 := (hb.cell (p := ⟨g, o + j * 7, none⟩) hg).trans a0
      have f1 := (hb.cell (p := ⟨g, o + j * 7 + 1, none⟩) hg).trans a1
      have f2 := (hb.cell (p := ⟨g, o + j * 7 + 2, none⟩) hg).trans a2
      have f3 := (hb.cell (p := ⟨g, o + j * 7 + 3, none⟩) hg).trans a3
      have f4 := (hb.cell (p := ⟨g, o + j * 7 + 4, none⟩) hg).trans a4
      have f5 := (hb.cell (p := ⟨g, o + j * 7 + 5, none⟩) hg).trans a5
      have f6 := (hb.cell (p := ⟨g, o + j * 7 + 6, none⟩) hg).trans a6
      have HM := Lib.hid (spl_take (l := l) hjl)
      have hsl := spE_len l es[j]
      have hll : (spl l (es.take (j + 1))).length = (spl l (es.take j)).length + (spE l es[j]).length := by rw [HM.out, List.length_append]
      have hmul : (j + 1) * (l.length + 1) ≤ es.length * (l.length + 1) := Nat.mul_le_mul_right _ hjl
      have hmul2 : (j + 1) * (l.length + 1) = j * (l.length + 1) + (l.length + 1) := by rw [Nat.add_mul, Nat.one_mul]
      have hlen2 : (spl l (es.take (j + 1))).length ≤ (j + 1) * (l.length + 1) := by omega
      have hlen3 : (spl l (es.take j)).length + (l.length + 1) ≤ 1099511627775 := by omega
      have hspe : Hid (spE l es[j] = if plF es[j].k es[j].a ⟨es[j].d.toArray⟩ es[j].u = true then (pc l es[j].f es[j].t).map (evP es[j].k es[j].v es[j].a ⟨es[j].d.toArray⟩ es[j].u) else [⟨es[j].k, es[j].f, es[j].t, es[j].v, es[j].a, (⟨es[j].d.toArray⟩ : ByteArray).data.toList, es[j].u⟩]) := Lib.hid rfl
      clear a0 a1 a2 a3 a4 a5 a6 hc hll hmul hmul2 hlen hsl
      generalize (⟨es[j].d.toArray⟩ : ByteArray) = x5 at *
      generalize es[j].k = x0 at *
      generalize es[j].f = x1 at *
      generalize es[j].t = x2 at *
      generalize es[j].v = x3 at *
      generalize es[j].a = x4 at *
      generalize es[j].u = x6 at *
      have HM2 : Hid (spl l (es.take (j + 1)) = spl l (es.take j) ++ if plF x0 x4 x5 x6 = true then (pc l x1 x2).map (evP x0 x3 x4 x5 x6) else [⟨x0, x1, x2, x3, x4, x5.data.toList, x6⟩]) := Lib.hid (by rw [HM.out, hspe.out])
      clear HM hspe
      have CIq := Lib.hid (CI.out x0 x1 x2 x3 x4 x5 x6 (wr.alloc (.cells (evA x0 x1 x2 x3 x4 x5 x6) 48)))
      have RA0 := Lib.hid (RowAt.new wr 48 (evA x0 x1 x2 x3 x4 x5 x6))
      have hb1 := ba wr (.cells (evA x0 x1 x2 x3 x4 x5 x6) 48)
      have hszb : wr.heap.size < (wr.alloc (.cells (evA x0 x1 x2 x3 x4 x5 x6) 48)).heap.size := by rw [World.size_alloc]; omega
      obtain ⟨UA, UN, UC, rfl, hUN⟩ := HR.out.form
      have hrb : (Value.slice UA UN UC).ownBlock ≠ some wr.heap.size := fun e => by have := (HR.out.lt _ e).2; omega
      clear hUN
      by_cases hp : plF x0 x4 x5 x6 = true
      case neg =>
        have HM3 : Hid (spl l (es.take (j + 1)) = spl l (es.take j) ++ [⟨x0, x1, x2, x3, x4, x5.data.toList, x6⟩]) := Lib.hid (by rw [HM2.out, if_neg hp])
        rw [Bool.not_eq_true] at hp
        rw [hp] at CIq
        clear HM2
        go_wp2_with (first
          | (go_at_call 32; go_must (refine CIq.out.mono ?_; rintro e1 w1 ⟨rfl, b1⟩; have RA1 := RA0.out.keep b1; obtain ⟨d0, d1, d2, d3, d4, d5, d6, z1, z2⟩ := RA1.seven; have HR1 := Lib.hid ((HR.out.alloc _).keep b1); have B1 := Lib.hid (hb.trans ((hb1.trans (b1.mono hb1.size)).mono hb.size)); have hle1 := B1.out.size))
          | (at_builtin; go_must (refine wpList_append_ev2 rfl _ _ rfl rfl rfl rfl (by simp only [World.size_alloc]) HR1.out hle1 (by omega) ?_; intro v5 w5 R5 b5 n5)))
        go_roundw
        case rel => exact ⟨j + 1, by omega, val_int (by omega), Lib.hid (by rw [HM3.out]; exact R5), Lib.hid (B1.out.trans b5), hlen2⟩
        case measure => simp [intOf]; omega
      have HM3 : Hid (spl l (es.take (j + 1)) = spl l (es.take j) ++ (pc l x1 x2).map (evP x0 x3 x4 x5 x6)) := Lib.hid (by rw [HM2.out, if_pos hp])
      rw [hp] at CIq
      clear HM2
      go_wp2_with (first
        | (go_at_call 32; go_must (refine CIq.out.mono ?_; rintro e1 w1 ⟨rfl, b1⟩; have RA1 := RA0.out.keep b1; obtain ⟨d0, d1, d2, d3, d4, d5, d6, z1, z2⟩ := RA1.seven; have HR1 := Lib.hid ((HR.out.alloc _).keep b1); have B1 := Lib.hid (hb.trans ((hb1.trans (b1.mono hb1.size)).mono hb.size)); have hle1 := B1.out.size))
        | (go_at_call 38; go_must (refine (CN.out _ _ _ B1.out).mono ?_; rintro e2 w2 ⟨rfl, rfl⟩)))
      obtain ⟨w3, hw3⟩ : ∃ x, x = wr := ⟨_, rfl⟩
      subst hw3
      clear d0 d1 d2 d3 d4 d5 d6 z1 z2
      go_loopw [8, 5] (fun t r wx => ∃ (f : Int) (pre : List Ev), t = .int .i64 (nx l f x2) ∧ Hid (EvRow wx w.heap.size r (spl l (es.take j) ++ pre)) ∧ Hid (r.ownBlock ≠ some w3.heap.size) ∧ Hid (RowAt wx w3.heap.size 48 (evA x0 f x2 x3 x4 x5 x6)) ∧ Hid (Below w.heap.size w wx) ∧ Hid ((pc l x1 x2).map (evP x0 x3 x4 x5 x6) = pre ++ (pc l f x2).map (evP x0 x3 x4 x5 x6)) ∧ pre.length + cnt l f x2 ≤ l.length) (fun t _ _ => lft l x2 (intOf t))
      case atStart => exact ⟨x1, [], rfl, Lib.hid (by rw [List.append_nil]; exact HR1.out), Lib.hid hrb, Lib.hid RA1, B1, Lib.hid rfl, by have := cnt_le l x1 x2; simp only [List.length_nil]; omega⟩
      case round =>
        obtain ⟨f, pre, rfl, HRx, HN, HRA, HBx, HP, hpre⟩ := hrel
        have hbx := HBx.out
        have hblt := HRA.out.lt
        have hbw3 := hb.size
        obtain ⟨d0, d1, d2, d3, d4, d5, d6, z1, z2⟩ := HRA.out.seven
        obtain ⟨VA, VN, VC, rfl, hVN⟩ := HRx.out.form
        have hnb := HN.out
        by_cases hc : nx l f x2 < x2
        · have HP2 : Hid ((pc l x1 x2).map (evP x0 x3 x4 x5 x6) = (pre ++ [⟨x0, f, nx l f x2, x3, x4, x5.data.toList, x6⟩]) ++ (pc l (nx l f x2) x2).map (evP x0 x3 x4 x5 x6)) := Lib.hid (by rw [HP.out, pc_yes hc, List.map_cons, List.append_assoc]; rfl)
          have hcl := cnt_lt (nx_in hc).1 (nx_in hc).2 hc
          have hlf := lft_lt (l := l) hc
          clear HP
          generalize nx l f x2 = c at *
          have hnx : (Value.slice VA VN VC).ownBlock ≠ some wr.heap.size := fun e => by have := (HRx.out.lt _ e).2; omega
          have RC2 := RowAt.new wr 48 (evA x0 f c x3 x4 x5 x6)
          have HRc := Lib.hid (HRx.out.alloc (.cells (evA x0 f c x3 x4 x5 x6) 48))
          have RAc := Lib.hid (HRA.out.alloc (.cells (evA x0 f c x3 x4 x5 x6) 48))
          have hBc := Lib.hid (hbx.trans ((ba wr (.cells (evA x0 f c x3 x4 x5 x6) 48)).mono hbx.size))
          have hlc : (spl l (es.take j) ++ pre).length ≤ 1099511627776 := by rw [List.length_append]; omega
          obtain ⟨q0, q1, q2, q3, q4, q5, q6, y1, y2⟩ := RC2.seven
          go_wp2_with (first
            | (at_builtin; go_must (refine wpList_append_ev3 rfl _ _ rfl rfl rfl rfl (by simp only [World.size_alloc, World.size_setCell]) HRc.out hBc.out.size hlc ?_; intro v5 w5 R5 b5 n5 l5; have RA5 : RowAt w5 w3.heap.size 48 (evA x0 f x2 x3 x4 x5 x6) := (n5 _ RAc.out.lt (fun e => hnb e.symm)).trans RAc.out; obtain ⟨p0, p1, p2, p3, p4, p5, p6, o1, o2⟩ := RA5.seven; have HB5 : Hid (Below w.heap.size w (w5.setCell ⟨w3.heap.size, 1, none⟩ (.int .i64 c))) := Lib.hid (Below.setCell (hBc.out.trans b5) hbw3 _)))
            | (go_at_call 38; go_must (refine (CN.out _ _ _ HB5.out).mono ?_; rintro e6 w6 ⟨rfl, rfl⟩)))
          have hn5 : v5.ownBlock ≠ some w3.heap.size := by
            rcases l5 with e | e
            · rw [e]; exact hnb
            · rw [e]
              intro h
              have h2 := Option.some.inj h
              simp only [World.size_alloc] at h2
              omega
          go_roundw
          case rel => exact ⟨c, pre ++ [⟨x0, f, c, x3, x4, x5.data.toList, x6⟩], rfl, Lib.hid (by rw [← List.append_assoc]; exact KRow.other R5 ⟨w3.heap.size, 1, none⟩ _ hn5), Lib.hid hn5, Lib.hid (RA5.set 1 (.int .i64 c)), HB5, HP2, by rw [List.length_append]; simp only [List.length_cons, List.length_nil]; omega⟩
          case measure => exact hlf
        · have HF : Hid (spl l (es.take (j + 1)) = (spl l (es.take j) ++ pre) ++ [⟨x0, f, x2, x3, x4, x5.data.toList, x6⟩]) := Lib.hid (by rw [HM3.out, HP.out, pc_no hc, List.append_assoc]; rfl)
          have hle := hbx.size
          have hlc : (spl l (es.take j) ++ pre).length ≤ 1099511627776 := by rw [List.length_append]; omega
          clear HP
          go_wp2_with (first
            | (at_builtin; go_must (refine wpList_append_ev2 rfl _ _ rfl rfl rfl rfl (by simp only [World.size_alloc]) HRx.out hle (Nat.le_trans hlc (by omega)) ?_; intro v5 w5 R5 b5 n5)))
          go_roundw
          case rel => exact ⟨j + 1, by omega, val_int (by omega), Lib.hid (by rw [HF.out]; exact R5), Lib.hid (hbx.trans b5), hlen2⟩
          case measure => simp [intOf]; omega
    · have he : es.take j = es := List.take_of_length_le (by omega)
      rw [he] at HR
      clear he
      go_wp2
      go_returns
      exact ⟨_, rfl, HR.out, hb⟩

end Go.Proofs.Ytcodoakfomddfaa
