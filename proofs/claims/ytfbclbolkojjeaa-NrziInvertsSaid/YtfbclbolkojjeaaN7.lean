/-
  Layer 16: the walk of the program's Encode.
-/
import Derived.Test.YtfbclbolkojjeaaN6
import Derived.Test.YtfbclbolkojjeaaK1
import Derived.Deep.RegionHeld3
namespace Go.Proofs.Ytfbclbolkojjeaa
open Go Go.RowKit Go.Joins
set_option linter.unusedVariables false
set_option linter.unusedSimpArgs false

def codF (z : Bool) (x : UInt8) (l : List It) : UInt8 := l.foldl (fun x e => cdF z x e.d.data.toList) x
def codE (z : Bool) (x : UInt8) (e : It) : It := ⟨e.g, 0, 0, ⟨(cdL z x e.d.data.toList).toArray⟩, 0⟩
def codI (z : Bool) : UInt8 → List It → List It
  | _, [] => []
  | x, e :: r => codE z x e :: codI z (cdF z x e.d.data.toList) r
theorem codI_snoc (z : Bool) (x : UInt8) (l : List It) (e : It) : codI z x (l ++ [e]) = codI z x l ++ [codE z (codF z x l) e] := by
  induction l generalizing x with
  | nil => rfl
  | cons a l ih => rw [List.cons_append, codI, codI, ih]; rfl
theorem codF_snoc (z : Bool) (x : UInt8) (l : List It) (e : It) : codF z x (l ++ [e]) = cdF z (codF z x l) e.d.data.toList := by
  unfold codF; rw [List.foldl_append]; rfl
theorem codF_ok {z : Bool} {x : UInt8} (h : x = 48 ∨ x = 49) (l : List It) : codF z x l = 48 ∨ codF z x l = 49 := by
  induction l generalizing x with
  | nil => exact h
  | cons b l ih => exact ih (cdF_ok h _)
theorem codI_len (z : Bool) (x : UInt8) (l : List It) : (codI z x l).length = l.length := by
  induction l generalizing x with
  | nil => rfl
  | cons a l ih => rw [codI, List.length_cons, List.length_cons, ih]
theorem ciT_ok {M : Int} {e : It} (h : ciT M e = 0) : 0 ≤ e.g ∧ e.g ≤ M ∧ e.d.size ≤ 4096 ∧ Sb.okB e.d.data.toList = true ∧ e.v = 0 ∧ e.x = 0 ∧ e.u = 0 := by
  unfold ciT ciE cbE at h
  split at h
  · omega
  · split at h
    · omega
    · split at h
      · omega
      · split at h
        · rename_i h1 h2 h3 h4
          exact ⟨by omega, by omega, by omega, by simpa using h3, h4⟩
        · omega
theorem cfE_ok {M : Int} {l : List It} (h : cfE M l = 0) : ∀ e ∈ l, ciT M e = 0 := by
  induction l with
  | nil => intro e he; cases he
  | cons a l ih =>
    unfold cfE at h
    split at h
    · rename_i h1
      intro e he
      rcases List.mem_cons.1 he with rfl | he
      · exact h1
      · exact ih h e he
    · exact absurd h (by assumption)
theorem clE_ok {M : Int} {l : List It} (h : clE M l = 0) : l.length ≤ 1024 ∧ ∀ e ∈ l, ciT M e = 0 := by
  unfold clE at h
  split at h
  · omega
  · exact ⟨by omega, cfE_ok h⟩

def enL (z : Bool) (l : List It) : List It := if clE 1048576 l = 0 then codI z 49 l else []
theorem held_item {W W' : World} {b : Nat} {x y : Value} (h : W.cell? ⟨b, 0, none⟩ = some x ∧ W.cell? ⟨b, 3, none⟩ = some y ∧ b < W.heap.size) (hk : W'.heap[b]? = W.heap[b]?) (hs : W.heap.size ≤ W'.heap.size) : W'.cell? ⟨b, 0, none⟩ = some x ∧ W'.cell? ⟨b, 3, none⟩ = some y ∧ b < W'.heap.size :=
  ⟨(World.cell?_of_block (a := ⟨b, 0, none⟩) hk).trans h.1, (World.cell?_of_block (a := ⟨b, 3, none⟩) hk).trans h.2.1, Nat.lt_of_lt_of_le h.2.2 hs⟩
theorem held_itemD {W : World} {b : Nat} {x y : Value} (h : W.cell? ⟨b, 0, none⟩ = some x ∧ W.cell? ⟨b, 3, none⟩ = some y ∧ b < W.heap.size) : W.drew.cell? ⟨b, 0, none⟩ = some x ∧ W.drew.cell? ⟨b, 3, none⟩ = some y ∧ b < W.drew.heap.size := h
theorem held_itemA {W : World} {b : Nat} {x y : Value} (o : Obj) (h : W.cell? ⟨b, 0, none⟩ = some x ∧ W.cell? ⟨b, 3, none⟩ = some y ∧ b < W.heap.size) : (W.alloc o).cell? ⟨b, 0, none⟩ = some x ∧ (W.alloc o).cell? ⟨b, 3, none⟩ = some y ∧ b < (W.alloc o).heap.size :=
  ⟨((ba W o).cell (p := ⟨b, 0, none⟩) h.2.2).trans h.1, ((ba W o).cell (p := ⟨b, 3, none⟩) h.2.2).trans h.2.1, Nat.lt_of_lt_of_le h.2.2 (ba W o).size⟩

set_option maxRecDepth 20000 in
set_option maxHeartbeats 8000000 in
theorem encode_any (z : Bool) (l : List It) (V : Value) (w : World) (hT : ItArg w V l) (hl : l.length ≤ 140737488351232) (hd : ∀ j (h : j < l.length), l[j].d.size ≤ 140737488351232) : Calls Try.prog 44 #[.agg #[.bool z], V] w fun e w' => ∃ v, e = .returned (.tuple #[v, .int .i64 (clE 1048576 l)]) ∧ ItRow w' w.heap.size v (enL z l) ∧ Below w.heap.size w w' := by
  have hl' : (l.length : Int) ≤ 140737488351232 := by omega
  have CK := Lib.hid (fun W (hb : Below w.heap.size w W) => checkItems_any 1048576 l V W (hT.keep hb) hl hd)
  have CC := Lib.hid (fun W => coder_any z W)
  have C1 := Lib.hid (fun x d bZ bL W h1 h2 h3 h4 h5 => coder1_any z x d bZ bL W h1 h2 h3 h4 h5)
  obtain ⟨A, c, rfl, hA⟩ := hT
  have HA := Lib.hid hA
  clear hA
  have hE : Hid (enL z l = if clE 1048576 l = 0 then codI z 49 l else []) := Lib.hid rfl
  have hok := Lib.hid (fun h => clE_ok (M := 1048576) (l := l) h)
  generalize enL z l = RL at *
  have h0 := RowAt.new w 59 #[.bool z]
  have B0 := ba w (.cells #[.bool z] 59)
  obtain ⟨W, eW⟩ : ∃ W, W = w.alloc (.cells #[.bool z] 59) := ⟨_, rfl⟩
  obtain ⟨b2, e2⟩ : ∃ b, b = w.heap.size := ⟨_, rfl⟩
  rw [← eW] at h0 B0
  rw [← e2] at h0
  have l2 := h0.lt
  have HB0 := Lib.hid B0; have H0 := Lib.hid h0
  clear B0 h0
  by_cases hc : clE 1048576 l = 0
  case neg =>
    obtain rfl : RL = [] := by rw [hE.out, if_neg hc]
    have hc' : (clE 1048576 l == 0) = false := by simpa using hc
    clear hE hok
    generalize clE 1048576 l = E at *
    go_enter Try.func44, Try.ntmps44
    go_wp2_with (rw [← eW, ← e2]; clear eW e2; go_at_call 50; go_must (refine (CK.out _ HB0.out).mono ?_; rintro e1 w1 ⟨rfl, b1⟩; have B1 := Lib.hid (HB0.out.trans (b1.mono HB0.out.size))))
    go_returns
    exact ⟨_, rfl, KRow.nil _ _, B1.out⟩
  obtain ⟨hl1, hall⟩ := hok.out hc
  have HALL : Hid (∀ j (h : j < l.length), l[j].d.size ≤ 4096) := Lib.hid fun j h => (ciT_ok (hall _ (List.getElem_mem h))).2.2.1
  rw [hc] at CK ⊢
  rw [hc] at hE
  replace hE : Hid (RL = codI z 49 l) := Lib.hid (by rw [hE.out, if_pos rfl])
  clear hok hall hc
  go_enter Try.func44, Try.ntmps44
  go_wp2_with (first
    | (rw [← eW, ← e2]; clear eW e2; go_at_call 50; go_must (refine (CK.out _ HB0.out).mono ?_; rintro e1 w1 ⟨rfl, b1⟩; have B1 := Lib.hid (HB0.out.trans (b1.mono HB0.out.size)); have c0 := (H0.out.keep b1).get1; have s1 := b1.size))
    | (go_at_call 71; go_must (refine (CC.out _).mono ?_; rintro e3 w2 ⟨rfl, rz, rl, b2', z2⟩; have B2 := Lib.hid (B1.out.trans (b2'.mono B1.out.size)); have RZ := Lib.hid rz; have RLs := Lib.hid rl; clear rz rl b2')))
  have hHw := B1.out.size
  clear CK CC c0 s1 HB0 H0 B1
  generalize hbz : w1.heap.size = bZ at *
  generalize hbl : bZ + 1 = bL at *
  have hbL : bZ < bL := by omega
  have hz2 : bL < w2.heap.size := by omega
  clear hbz z2
  go_loopw [21, 8] (fun i r wr => ∃ (j : Nat), j ≤ l.length ∧ i = .int .i64 j ∧ Hid (ItRow wr w2.heap.size r (codI z 49 (l.take j))) ∧ Hid (RowAt wr bZ 4 #[.bool z]) ∧ Hid (RowAt wr bL 5 #[.int .u8 ((codF z 49 (l.take j)).toNat : Int)]) ∧ Hid (Below w.heap.size w wr) ∧ w2.heap.size ≤ wr.heap.size) (fun i _ _ => l.length - (intOf i).toNat)
  case atStart => exact ⟨0, Nat.zero_le _, rfl, Lib.hid (KRow.nil _ _), RZ, RLs, B2, Nat.le_refl _⟩
  case round =>
    obtain ⟨j, hj, rfl, HR, HZ, HL, HB, hW⟩ := hrel
    have hb := HB.out
    by_cases hjl : j < l.length
    · obtain ⟨g, o, rfl, hg, hcc⟩ := HA.out (by omega)
      obtain ⟨a0, a1, a2, a3, a4⟩ := arg_five hcc j hjl
      have f0 := (hb.cell (p := ⟨g, o + j * 5, none⟩) hg).trans a0
      have f1 := (hb.cell (p := ⟨g, o + j * 5 + 1, none⟩) hg).trans a1
      have f2 := (hb.cell (p := ⟨g, o + j * 5 + 2, none⟩) hg).trans a2
      have f3 := (hb.cell (p := ⟨g, o + j * 5 + 3, none⟩) hg).trans a3
      have f4 := (hb.cell (p := ⟨g, o + j * 5 + 4, none⟩) hg).trans a4
      have hx := codF_ok (z := z) (x := 49) (.inr rfl) (l.take j)
      have HS := Lib.hid (codI_snoc z 49 (l.take j) l[j])
      have HF := Lib.hid (codF_snoc z 49 (l.take j) l[j])
      have ht : l.take (j + 1) = l.take j ++ [l[j]] := by rw [List.take_succ_eq_append_getElem hjl]
      rw [← ht] at HS HF
      have HX : Hid (codE z (codF z 49 (l.take j)) l[j] = ⟨l[j].g, 0, 0, ⟨(cdL z (codF z 49 (l.take j)) l[j].d.data.toList).toArray⟩, 0⟩) := Lib.hid rfl
      have hdj := HALL.out j hjl
      have hlen := codI_len z 49 (l.take j)
      have hlen2 : (l.take j).length = j := by rw [List.length_take]; omega
      rw [hlen2] at hlen
      have C1j := Lib.hid (fun W h4 h5 => C1.out (codF z 49 (l.take j)) l[j].d bZ bL W (by omega) hx (by omega) h4 h5)
      clear a0 a1 a2 a3 a4 hcc ht hlen2 C1
      generalize codE z (codF z 49 (l.take j)) l[j] = ne at *
      generalize cdL z (codF z 49 (l.take j)) l[j].d.data.toList = Y at *
      generalize cdF z (codF z 49 (l.take j)) l[j].d.data.toList = yx at *
      generalize codF z 49 (l.take j) = x at *
      generalize codI z 49 (l.take j) = L at *
      generalize l[j].g = x0 at *
      generalize l[j].v = x1 at *
      generalize l[j].x = x2 at *
      generalize l[j].d = x3 at *
      generalize l[j].u = x4 at *
      obtain ⟨RA, RN, RC, rfl, hRN⟩ := HR.out.form
      clear hRN
      have hI := RowAt.new wr 32 (itA x0 x1 x2 x3 x4)
      have hB := ba wr (.cells (itA x0 x1 x2 x3 x4) 32)
      obtain ⟨X, eX⟩ : ∃ X, X = wr.alloc (.cells (itA x0 x1 x2 x3 x4) 32) := ⟨_, rfl⟩
      obtain ⟨bI, eI⟩ : ∃ b, b = wr.heap.size := ⟨_, rfl⟩
      rw [← eX] at hI hB
      rw [← eI] at hI
      have lI := hI.lt
      have HRX := Lib.hid (HR.out.keep hB); have HZX := Lib.hid (HZ.out.keep hB); have HLX := Lib.hid (HL.out.keep hB); have HBX := Lib.hid (hb.trans (hB.mono hb.size)); have hWX := hB.size
      have hs : Hid (X.cell? ⟨bI, 0, none⟩ = some (.int .i64 x0) ∧ X.cell? ⟨bI, 3, none⟩ = some (.string x3) ∧ bI < X.heap.size) := Lib.hid ⟨hI.cell 0, hI.cell 3, lI⟩
      have hown := Lib.hid (fun g (hg : (Value.slice RA RN RC).ownBlock = some g) => (show w2.heap.size ≤ g ∧ g < bI from by rw [eI]; exact HR.out.lt g hg))
      have hbI : w2.heap.size ≤ bI := by omega
      clear hI
      go_wp2
      rw [← eX, ← eI]
      clear eX eI f0 f1 f2 f3 f4 hB HR HZ HL HB hb
      go_region_held3 (fun w' => w'.cell? ⟨bI, 0, none⟩ = some (.int .i64 x0) ∧ w'.cell? ⟨bI, 3, none⟩ = some (.string x3) ∧ bI < w'.heap.size) (first | with_reducible assumption | with_reducible exact held_itemD hs.out | with_reducible exact held_itemA _ (by with_reducible assumption) | fail)
        (first
          | (go_at_call 90; refine (C1j.out X.drew HZX.out HLX.out).mono ?_; rintro e5 w5 ⟨rfl, r5, k5⟩; have h5 := held_item hs.out (k5.block bI lI (by simp only [List.mem_singleton]; omega)) k5.size; have R5 := Lib.hid (KRow.kp (w := X.drew) HRX.out k5 (fun g hg hx => by have := hown.out g hg; simp only [List.mem_singleton] at hx; omega)); have Z5 := Lib.hid (k5.row (show RowAt X.drew bZ 4 #[.bool z] from HZX.out) (by simp only [List.mem_singleton]; omega)); have L5 := Lib.hid r5; have B5 := Lib.hid (HBX.out.drew.trans (k5.below (B := w.heap.size) (by simp only [List.mem_singleton]; intro k hk; omega) HBX.out.size)); have s5 := k5.size; clear r5 k5)
          | (refine step_append_ks2 Try.underlying33 it_info rfl (by omega) itC_size rfl _ _ rfl rfl rfl rfl R5.out (by have : X.heap.size ≤ w5.heap.size := s5; omega) [(⟨x0, 0, 0, ⟨Y.toArray⟩, 0⟩ : It)] rfl (by omega) rfl rfl (by omega) (by omega) ?_; intro v6 w6 R6 b6 n6; have h6 := held_item h5 (n6 bI h5.2.2 (fun e => by have := hown.out bI e.symm; omega)) b6.size)
          | fail)
      have R6' := Lib.hid R6; have B6 := Lib.hid b6
      clear R6 b6 n6 h6 h5
      go_wp2
      go_roundw
      case rel => exact ⟨j + 1, by omega, val_int (by omega), Lib.hid (by rw [HS.out, HX.out]; exact R6'.out), Lib.hid (Z5.out.below B6.out (by omega)), Lib.hid (by rw [HF.out]; exact L5.out.below B6.out hz2), Lib.hid (B5.out.trans (B6.out.mono (by omega))), by have h1 := B6.out.size; have h2 : X.heap.size ≤ w5.heap.size := s5; omega⟩
      case measure => simp [intOf]; omega
    · have he : l.take j = l := List.take_of_length_le (by omega)
      rw [he, ← hE.out] at HR
      clear he
      go_wp2
      go_returns
      exact ⟨_, rfl, HR.out.mono (by omega), hb⟩

end Go.Proofs.Ytfbclbolkojjeaa
