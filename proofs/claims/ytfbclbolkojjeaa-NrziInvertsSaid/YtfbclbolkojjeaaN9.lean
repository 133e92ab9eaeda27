/-
  Layer 16: the statements' helpers: small, tiny, turned, ideal.
-/
import Derived.Test.YtfbclbolkojjeaaN8
namespace Go.Proofs.Ytfbclbolkojjeaa
open Go Go.RowKit Go.Joins
set_option linter.unusedVariables false
set_option linter.unusedSimpArgs false

def smL (l : List Ev) : Bool := decide (l.length ≤ 40) && l.all fun e => decide (e.d.length ≤ 20)
theorem smL_iff (l : List Ev) : smL l = true ↔ l.length ≤ 40 ∧ ∀ j (h : j < l.length), l[j].d.length ≤ 20 := by
  unfold smL
  simp only [Bool.and_eq_true, decide_eq_true_eq, List.all_eq_true]
  refine and_congr Iff.rfl ⟨fun h j hj => h _ (List.getElem_mem hj), fun h e he => ?_⟩
  obtain ⟨j, hj, rfl⟩ := List.mem_iff_getElem.1 he
  exact h j hj
def tyL (l : List It) : Bool := decide (l.length ≤ 20) && l.all fun e => decide (e.d.size ≤ 200)
theorem tyL_iff (l : List It) : tyL l = true ↔ l.length ≤ 20 ∧ ∀ j (h : j < l.length), l[j].d.size ≤ 200 := by
  unfold tyL
  simp only [Bool.and_eq_true, decide_eq_true_eq, List.all_eq_true]
  refine and_congr Iff.rfl ⟨fun h j hj => h _ (List.getElem_mem hj), fun h e he => ?_⟩
  obtain ⟨j, hj, rfl⟩ := List.mem_iff_getElem.1 he
  exact h j hj

set_option maxRecDepth 20000 in
set_option maxHeartbeats 2000000 in
theorem small16_any (l : List Ev) (V : Value) (w : World) (h1 : EvArg w V l) (hl : l.length ≤ 140737488351232) (hd : ∀ j (h : j < l.length), l[j].d.length ≤ 140737488351232) :
    Calls Try.prog 32 #[V] w fun e w' => e = .returned (.bool (smL l)) ∧ w' = w := by
  obtain ⟨A1, c1, rfl, h1⟩ := h1
  have H1 := Lib.hid h1; have HD := Lib.hid hd
  have hs := Lib.hid (smL_iff l)
  generalize smL l = R at *
  clear h1 hd
  have hl' : (l.length : Int) ≤ 140737488351232 := by omega
  by_cases h40 : 40 < l.length
  · have hR : R = false := by
      cases R
      · rfl
      · exact absurd (hs.out.1 rfl).1 (by omega)
    subst hR
    have h40' : (40 : Int) < l.length := by omega
    go_enter Try.func32, Try.ntmps32
    go_wp2
    go_returns
    exact ⟨rfl, rfl⟩
  · have h40' : (l.length : Int) ≤ 40 := by omega
    go_enter Try.func32, Try.ntmps32
    go_wp2
    go_loopw [3] (fun x wr => ∃ (k : Nat), k ≤ l.length ∧ x = .int .i64 k ∧ wr = w ∧ Hid (∀ j (h : j < l.length), j < k → l[j].d.length ≤ 20)) (fun x _ => l.length - (intOf x).toNat)
    case atStart => exact ⟨0, by omega, rfl, by trivial, Lib.hid (fun j _ h => by omega)⟩
    case round =>
      obtain ⟨k, hk, rfl, rfl, HZ⟩ := hrel
      by_cases hlt : k < l.length
      · obtain ⟨g1, o1, rfl, hg1, hc1⟩ := H1.out (by omega)
        have a5 := (arg_seven hc1 k hlt).2.2.2.2.2.1
        have d0 := HD.out k hlt
        clear hc1
        have hsz : (⟨l[k].d.toArray⟩ : ByteArray).size = l[k].d.length := size_mk _
        generalize (⟨l[k].d.toArray⟩ : ByteArray) = s at *
        by_cases hb : l[k].d.length ≤ 20
        · have hb' : (s.size : Int) ≤ 20 := by omega
          have HB := Lib.hid hb
          clear hsz hb d0
          go_wp2
          go_roundw
          case rel => exact ⟨k + 1, by omega, by go_num, by trivial, Lib.hid (fun j hj hk => by
            by_cases e : j = k
            · subst e; exact HB.out
            · exact HZ.out j hj (by omega))⟩
          case measure => simp [intOf]; omega
        · have hb' : (20 : Int) < s.size := by omega
          have hb2 : (s.size : Int) ≤ 140737488351232 := by omega
          have hR : R = false := by
            cases R
            · rfl
            · exact absurd ((hs.out.1 rfl).2 k hlt) (by omega)
          subst hR
          clear hsz hb d0
          go_wp2
          go_returns
          exact ⟨rfl, rfl⟩
      · have hR : R = true := hs.out.2 ⟨by omega, fun j hj => HZ.out j hj (by omega)⟩
        subst hR
        go_wp2
        go_returns
        exact ⟨rfl, rfl⟩

set_option maxRecDepth 20000 in
set_option maxHeartbeats 2000000 in
theorem tiny_any (l : List It) (V : Value) (w : World) (h1 : ItArg w V l) (hl : l.length ≤ 140737488351232) (hd : ∀ j (h : j < l.length), l[j].d.size ≤ 140737488351232) :
    Calls Try.prog 43 #[V] w fun e w' => e = .returned (.bool (tyL l)) ∧ w' = w := by
  obtain ⟨A1, c1, rfl, h1⟩ := h1
  have H1 := Lib.hid h1; have HD := Lib.hid hd
  have hs := Lib.hid (tyL_iff l)
  generalize tyL l = R at *
  clear h1 hd
  have hl' : (l.length : Int) ≤ 140737488351232 := by omega
  by_cases h40 : 20 < l.length
  · have hR : R = false := by
      cases R
      · rfl
      · exact absurd (hs.out.1 rfl).1 (by omega)
    subst hR
    have h40' : (20 : Int) < l.length := by omega
    go_enter Try.func43, Try.ntmps43
    go_wp2
    go_returns
    exact ⟨rfl, rfl⟩
  · have h40' : (l.length : Int) ≤ 20 := by omega
    go_enter Try.func43, Try.ntmps43
    go_wp2
    go_loopw [3] (fun x wr => ∃ (k : Nat), k ≤ l.length ∧ x = .int .i64 k ∧ wr = w ∧ Hid (∀ j (h : j < l.length), j < k → l[j].d.size ≤ 200)) (fun x _ => l.length - (intOf x).toNat)
    case atStart => exact ⟨0, by omega, rfl, by trivial, Lib.hid (fun j _ h => by omega)⟩
    case round =>
      obtain ⟨k, hk, rfl, rfl, HZ⟩ := hrel
      by_cases hlt : k < l.length
      · obtain ⟨g1, o1, rfl, hg1, hc1⟩ := H1.out (by omega)
        have a5 := (arg_five hc1 k hlt).2.2.2.1
        have d0 := HD.out k hlt
        clear hc1
        have hsz : l[k].d.size = l[k].d.size := rfl
        by_cases hb : l[k].d.size ≤ 200
        · have HB : Hid (∀ j (h : j < l.length), j = k → l[j].d.size ≤ 200) := Lib.hid fun j h e => by subst e; exact hb
          generalize l[k].d = s at *
          have hb' : (s.size : Int) ≤ 200 := by omega
          clear hsz hb d0
          go_wp2
          go_roundw
          case rel => exact ⟨k + 1, by omega, by go_num, by trivial, Lib.hid (fun j hj hk => by
            by_cases e : j = k
            · exact HB.out j hj e
            · exact HZ.out j hj (by omega))⟩
          case measure => simp [intOf]; omega
        · have hR : R = false := by
            cases R
            · rfl
            · exact absurd ((hs.out.1 rfl).2 k hlt) (by omega)
          subst hR
          generalize l[k].d = s at *
          have hb' : (200 : Int) < s.size := by omega
          have hb2 : (s.size : Int) ≤ 140737488351232 := by omega
          clear hsz hb d0
          go_wp2
          go_returns
          exact ⟨rfl, rfl⟩
      · have hR : R = true := hs.out.2 ⟨by omega, fun j hj => HZ.out j hj (by omega)⟩
        subst hR
        go_wp2
        go_returns
        exact ⟨rfl, rfl⟩

/-- A bit turned. -/
def tuP (k v : Int) : Prop := k = 2 ∧ (v = 0 ∨ v = 1)
instance (k v : Int) : Decidable (tuP k v) := by unfold tuP; exact inferInstance
def tuE (e : Ev) : Ev := if tuP e.k e.v then { e with v := 1 - e.v } else e
theorem tuL_snoc {l : List Ev} {j : Nat} (hj : j < l.length) : (l.take (j + 1)).map tuE = (l.take j).map tuE ++ [tuE l[j]] := by
  rw [List.take_succ_eq_append_getElem hj, List.map_append]
  rfl
theorem ev_eta (l : Ev) : (⟨l.k, l.f, l.t, l.v, l.a, l.d, l.u⟩ : Ev) = l := rfl

set_option maxRecDepth 20000 in
set_option maxHeartbeats 4000000 in
theorem turned_any (l : List Ev) (V : Value) (w : World) (hT : EvArg w V l) (hl : l.length ≤ 1099511627776) :
    Calls Try.prog 48 #[V] w fun e w' => ∃ v, e = .returned v ∧ EvRow w' w.heap.size v (l.map tuE) ∧ Below w.heap.size w w' := by
  obtain ⟨A, c, rfl, hA⟩ := hT
  have HA := Lib.hid hA
  have hl' : (l.length : Int) ≤ 1099511627776 := by omega
  have HR0 := Lib.hid (KRow.lit (T := 44) evC_size w w.heap.size (Nat.le_refl _) [] #[] rfl 0 rfl (by decide))
  have HB0 := Lib.hid (ba w (.cells #[] 44))
  clear hA
  go_enter Try.func48, Try.ntmps48
  go_wp2
  go_loopw [4, 3] (fun i r wr => ∃ (j : Nat), j ≤ l.length ∧ i = .int .i64 j ∧ Hid (EvRow wr w.heap.size r ((l.take j).map tuE)) ∧ Hid (Below w.heap.size w wr)) (fun i _ _ => l.length - (intOf i).toNat)
  case atStart => exact ⟨0, Nat.zero_le _, rfl, HR0, HB0⟩
  case round =>
    obtain ⟨j, hj, rfl, HR, HB⟩ := hrel
    have hb := HB.out
    by_cases hjl : j < l.length
    · obtain ⟨g, o, rfl, hg, hc⟩ := HA.out (by omega)
      obtain ⟨a0, a1, a2, a3, a4, a5, a6⟩ := arg_seven hc j hjl
      have f0 := (hb.cell (p := ⟨g, o + j * 7, none⟩) hg).trans a0
      have f1 := (hb.cell (p := ⟨g, o + j * 7 + 1, none⟩) hg).trans a1
      have f2 := (hb.cell (p := ⟨g, o + j * 7 + 2, none⟩) hg).trans a2
      have f3 := (hb.cell (p := ⟨g, o + j * 7 + 3, none⟩) hg).trans a3
      have f4 := (hb.cell (p := ⟨g, o + j * 7 + 4, none⟩) hg).trans a4
      have f5 := (hb.cell (p := ⟨g, o + j * 7 + 5, none⟩) hg).trans a5
      have f6 := (hb.cell (p := ⟨g, o + j * 7 + 6, none⟩) hg).trans a6
      have HS := Lib.hid (tuL_snoc hjl)
      have HE : Hid (tuE l[j] = if tuP l[j].k l[j].v then ⟨l[j].k, l[j].f, l[j].t, 1 - l[j].v, l[j].a, l[j].d, l[j].u⟩ else ⟨l[j].k, l[j].f, l[j].t, l[j].v, l[j].a, l[j].d, l[j].u⟩) := Lib.hid rfl
      have hlen : ((l.take j).map tuE).length = j := by rw [List.length_map, List.length_take]; omega
      clear a0 a1 a2 a3 a4 a5 a6 hc
      generalize tuE l[j] = ne at *
      generalize (l.take j).map tuE = L at *
      generalize l[j].d = xd at *
      generalize l[j].k = x0 at *
      generalize l[j].f = x1 at *
      generalize l[j].t = x2 at *
      generalize l[j].v = x3 at *
      generalize l[j].a = x4 at *
      generalize l[j].u = x6 at *
      obtain ⟨RA, RN, RC, rfl, hRN⟩ := HR.out.form
      clear hRN
      have hR1 := Lib.hid (fun o => HR.out.alloc o)
      have hB1 := Lib.hid (fun o => hb.alloc hb.size o)
      by_cases hp : tuP x0 x3
      · obtain rfl : ne = ⟨x0, x1, x2, 1 - x3, x4, xd, x6⟩ := by rw [HE.out, if_pos hp]
        have hp1 : x0 = 2 := hp.1
        have hp2 : x3 = 0 ∨ x3 = 1 := hp.2
        subst hp1
        clear hp HE
        rcases hp2 with rfl | rfl
        · go_wp2_with (at_builtin; go_must (refine wpList_append_k (P := Try.prog) Try.underlying36 ev_info rfl (by omega) evC_size rfl _ _ rfl (⟨2, x1, x2, 1 - 0, x4, xd, x6⟩ : Ev) rfl rfl rfl (by simp only [World.size_alloc]) (hR1.out _) (by rw [World.size_alloc]; have := hb.size; omega) rfl (by omega) (by omega) ?_; intro v4 w4 r4 b4; have R4 := Lib.hid r4; have B4 := Lib.hid ((hB1.out _).trans b4); clear r4 b4))
          go_roundw
          case rel => exact ⟨j + 1, by omega, val_int (by omega), Lib.hid (by rw [HS.out]; exact R4.out), B4⟩
          case measure => simp [intOf]; omega
        · go_wp2_with (at_builtin; go_must (refine wpList_append_k (P := Try.prog) Try.underlying36 ev_info rfl (by omega) evC_size rfl _ _ rfl (⟨2, x1, x2, 1 - 1, x4, xd, x6⟩ : Ev) rfl rfl rfl (by simp only [World.size_alloc]) (hR1.out _) (by rw [World.size_alloc]; have := hb.size; omega) rfl (by omega) (by omega) ?_; intro v4 w4 r4 b4; have R4 := Lib.hid r4; have B4 := Lib.hid ((hB1.out _).trans b4); clear r4 b4))
          go_roundw
          case rel => exact ⟨j + 1, by omega, val_int (by omega), Lib.hid (by rw [HS.out]; exact R4.out), B4⟩
          case measure => simp [intOf]; omega
      · obtain rfl : ne = ⟨x0, x1, x2, x3, x4, xd, x6⟩ := by rw [HE.out, if_neg hp]
        have hq : ¬ (x0 = 2 ∧ (x3 = 0 ∨ x3 = 1)) := hp
        clear hp HE
        by_cases h2 : x0 = 2
        · subst h2
          have h3 : (x3 == 0) = false := by rw [beq_eq_false_iff_ne]; intro e; exact hq ⟨rfl, .inl e⟩
          have h4 : (x3 == 1) = false := by rw [beq_eq_false_iff_ne]; intro e; exact hq ⟨rfl, .inr e⟩
          clear hq
          go_wp2_with (at_builtin; go_must (refine wpList_append_k (P := Try.prog) Try.underlying36 ev_info rfl (by omega) evC_size rfl _ _ rfl (⟨2, x1, x2, x3, x4, xd, x6⟩ : Ev) rfl rfl rfl (by simp only [World.size_alloc]) (hR1.out _) (by rw [World.size_alloc]; have := hb.size; omega) rfl (by omega) (by omega) ?_; intro v4 w4 r4 b4; have R4 := Lib.hid r4; have B4 := Lib.hid ((hB1.out _).trans b4); clear r4 b4))
          go_roundw
          case rel => exact ⟨j + 1, by omega, val_int (by omega), Lib.hid (by rw [HS.out]; exact R4.out), B4⟩
          case measure => simp [intOf]; omega
        · have h3 : (x0 == 2) = false := by simpa using h2
          clear hq h2
          go_wp2_with (at_builtin; go_must (refine wpList_append_k (P := Try.prog) Try.underlying36 ev_info rfl (by omega) evC_size rfl _ _ rfl (⟨x0, x1, x2, x3, x4, xd, x6⟩ : Ev) rfl rfl rfl (by simp only [World.size_alloc]) (hR1.out _) (by rw [World.size_alloc]; have := hb.size; omega) rfl (by omega) (by omega) ?_; intro v4 w4 r4 b4; have R4 := Lib.hid r4; have B4 := Lib.hid ((hB1.out _).trans b4); clear r4 b4))
          go_roundw
          case rel => exact ⟨j + 1, by omega, val_int (by omega), Lib.hid (by rw [HS.out]; exact R4.out), B4⟩
          case measure => simp [intOf]; omega
    · have he : l.take j = l := List.take_of_length_le (by omega)
      rw [he] at HR
      go_wp2
      go_returns
      exact ⟨_, rfl, HR.out, hb⟩

end Go.Proofs.Ytfbclbolkojjeaa
