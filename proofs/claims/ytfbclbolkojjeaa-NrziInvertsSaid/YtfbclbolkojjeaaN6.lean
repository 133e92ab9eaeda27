/-
  Layer 16: bytes of a string that are changed in place; the walks of opposite, the coder's function and coder.
-/
import Derived.Test.YtfbclbolkojjeaaN5
namespace Go.Proofs.Ytfbclbolkojjeaa
open Go Go.RowKit Go.Joins
set_option linter.unusedVariables false
set_option linter.unusedSimpArgs false

/-- The last coded bit behind one more, and the coded bits. -/
def stB (z : Bool) (x b : UInt8) : UInt8 := if (decide (b = 49)) ≠ z then 97 - x else x
def cdF (z : Bool) (x : UInt8) (l : List UInt8) : UInt8 := l.foldl (stB z) x
def cdL (z : Bool) : UInt8 → List UInt8 → List UInt8
  | _, [] => []
  | x, b :: r => stB z x b :: cdL z (stB z x b) r
theorem cdF_snoc (z : Bool) (x : UInt8) (l : List UInt8) (b : UInt8) : cdF z x (l ++ [b]) = stB z (cdF z x l) b := by
  unfold cdF; rw [List.foldl_append]; rfl
theorem cdL_snoc (z : Bool) (x : UInt8) (l : List UInt8) (b : UInt8) : cdL z x (l ++ [b]) = cdL z x l ++ [stB z (cdF z x l) b] := by
  induction l generalizing x with
  | nil => rfl
  | cons a l ih => rw [List.cons_append, cdL, cdL, ih]; rfl
theorem cdL_len (z : Bool) (x : UInt8) (l : List UInt8) : (cdL z x l).length = l.length := by
  induction l generalizing x with
  | nil => rfl
  | cons a l ih => rw [cdL, List.length_cons, List.length_cons, ih]
theorem stB_ok {z : Bool} {x b : UInt8} (h : x = 48 ∨ x = 49) : stB z x b = 48 ∨ stB z x b = 49 := by
  unfold stB
  split
  · rcases h with h | h <;> subst h <;> decide
  · exact h
theorem cdF_ok {z : Bool} {x : UInt8} (h : x = 48 ∨ x = 49) (l : List UInt8) : cdF z x l = 48 ∨ cdF z x l = 49 := by
  induction l generalizing x with
  | nil => exact h
  | cons b l ih => exact ih (stB_ok h)

/-- The block holds these bytes, and they may be written. -/
def BR (w : World) (g : Nat) (l : List UInt8) : Prop := ∃ (C : Array Value) (m : Nat), w.heap[g]? = some (.cells C 5 (m, m + 1)) ∧ l.length ≤ m ∧ ∀ j (hj : j < l.length), C[j]? = some (.int .u8 (l[j].toNat : Int))
theorem BR.lt {w : World} {g : Nat} {l : List UInt8} (h : BR w g l) : g < w.heap.size := by
  obtain ⟨C, m, h, _⟩ := h
  exact (Array.getElem?_eq_some_iff.1 h).1
theorem BR.cell {w : World} {g : Nat} {l : List UInt8} (h : BR w g l) (j : Nat) (hj : j < l.length) : w.cell? ⟨g, j, none⟩ = some (.int .u8 (l[j].toNat : Int)) := by
  obtain ⟨C, m, h, _, hc⟩ := h
  exact (cell_of_row w g j C _ _ h).trans (hc j hj)
theorem BR.frozen {w : World} {g : Nat} {l : List UInt8} (h : BR w g l) (j : Nat) (hj : j < l.length) : w.frozen? ⟨g, j, none⟩ = false := by
  obtain ⟨C, m, h, hm, _⟩ := h
  simp [World.frozen?, h]
  omega
theorem BR.of_block {w w' : World} {g : Nat} {l : List UInt8} (h : BR w g l) (hb : w'.heap[g]? = w.heap[g]?) : BR w' g l := by
  obtain ⟨C, m, h, hc⟩ := h
  exact ⟨C, m, hb.trans h, hc⟩
theorem BR.set {w : World} {g : Nat} {l : List UInt8} (h : BR w g l) (j : Nat) (b : UInt8) (y : Int) (hy : y = (b.toNat : Int)) : BR (w.setCell ⟨g, j, none⟩ (.int .u8 y)) g (l.set j b) := by
  obtain ⟨C, m, h, hm, hc⟩ := h
  subst hy
  refine ⟨C.setIfInBounds j (.int .u8 (b.toNat : Int)), m, ?_, by rw [List.length_set]; exact hm, fun i hi => ?_⟩
  · simp only [World.setCell]
    rw [Array.getElem?_modify, if_pos rfl, h]
    rfl
  · rw [List.length_set] at hi
    have h1 := hc i hi
    rw [List.getElem_set]
    by_cases e : j = i
    · subst e
      rw [if_pos rfl, Array.getElem?_setIfInBounds, if_pos rfl, if_pos (Array.getElem?_eq_some_iff.1 h1).1]
    · rw [if_neg e, Array.getElem?_setIfInBounds, if_neg e]
      exact h1
theorem BR.conv {w : World} {g : Nat} {l : List UInt8} (h : BR w g l) (n c : Nat) (hn : n = l.length) : (convert 76 9 (.slice (some ⟨g, 0, none⟩) n c)).run Try.prog w = .ok (.string ⟨l.toArray⟩) w := by
  subst hn
  exact run_convert_bytes_back (P := Try.prog) w 76 9 5 ⟨g, 0, none⟩ c l Try.underlying76 Try.underlying5 Try.underlying9 (fun j hj => by
      rw [Addr.add_lit, Nat.zero_add]
      exact h.cell j hj)
theorem conv_bytes (d : ByteArray) (w : World) : ∃ (c : Nat) (W : World), (convert 9 76 (.string d)).run Try.prog w = .ok (.slice (some ⟨w.heap.size, 0, none⟩) d.size c) W ∧ BR W w.heap.size d.data.toList ∧ Below w.heap.size w W ∧ w.heap.size < W.heap.size := by
  have e := run_bytes_of_string (P := Try.prog) w 9 76 5 d Try.underlying9 Try.underlying76 Try.underlying5
  generalize grownCap w d.size 0 5 = c at e
  have hm : d.size ≤ (bytesRow d c).size := by unfold bytesRow; simp
  refine ⟨_, _, e, ⟨bytesRow d c, (bytesRow d c).size, ?_, by rw [← size_len]; exact hm, fun j hj => ?_⟩, (Below.refl _ w).drew.alloc (Nat.le_refl _) _, by rw [World.size_alloc]; exact Nat.lt_succ_self _⟩
  · show (w.heap.push _)[w.heap.size]? = _
    simp
  · have hj' : j < d.data.size := by simpa using hj
    unfold bytesRow
    rw [Array.getElem?_append_left (by simpa using hj')]
    simp only [Array.getElem?_map, Option.map_eq_some_iff, Value.int.injEq, true_and]
    exact ⟨_, Array.getElem?_eq_getElem hj', rfl⟩

theorem opposite_any (x : UInt8) (w : World) (h : x = 48 ∨ x = 49) : Calls Try.prog 91 #[.int .u8 (x.toNat : Int)] w fun e w' => e = .returned (.int .u8 ((97 - x).toNat : Int)) ∧ w' = w := by
  rcases h with rfl | rfl
  · go_enter Try.func91, Try.ntmps91
    go_wp2
    go_returns
    exact ⟨by kernel_rfl, rfl⟩
  · go_enter Try.func91, Try.ntmps91
    go_wp2
    go_returns
    exact ⟨by kernel_rfl, rfl⟩

theorem take_drop_set (d : ByteArray) (z : Bool) (x : UInt8) (k : Nat) (hk : k < d.size) : (cdL z x (d.data.toList.take k) ++ d.data.toList.drop k).set k (cdF z x (d.data.toList.take (k + 1))) = cdL z x (d.data.toList.take (k + 1)) ++ d.data.toList.drop (k + 1) := by
  have hl : (cdL z x (d.data.toList.take k)).length = k := by rw [cdL_len, List.length_take, ← size_len]; omega
  have hk' : k < d.data.toList.length := by rw [← size_len]; exact hk
  rw [List.set_append_right _ _ (by omega), hl, Nat.sub_self, List.drop_eq_getElem_cons hk', List.set_cons_zero, take_snoc d k hk, cdL_snoc, cdF_snoc, List.append_assoc]
  rfl

set_option maxRecDepth 20000 in
set_option maxHeartbeats 4000000 in
theorem coder1_any (z : Bool) (x : UInt8) (d : ByteArray) (bZ bL : Nat) (w : World) (hd : d.size ≤ 1099511627776) (hx : x = 48 ∨ x = 49) (hne : bZ ≠ bL) (hz : RowAt w bZ 4 #[.bool z]) (hL : RowAt w bL 5 #[.int .u8 (x.toNat : Int)]) :
    Calls Try.prog 90 #[.string d, .pointer (some ⟨bZ, 0, none⟩), .pointer (some ⟨bL, 0, none⟩)] w fun e w' => e = .returned (.string ⟨(cdL z x d.data.toList).toArray⟩) ∧ RowAt w' bL 5 #[.int .u8 ((cdF z x d.data.toList).toNat : Int)] ∧ Kp [bL] w w' := by
  have hd' : (d.size : Int) ≤ 1099511627776 := by omega
  obtain ⟨c, W, ec, hB, bW, lW⟩ := conv_bytes d w
  have HZ := Lib.hid (hz.keep bW); have HL := Lib.hid (hL.keep bW); have HB := Lib.hid hB; have HW := Lib.hid (Kp.of_below (X := [bL]) bW)
  have lz := hz.lt; have ll := hL.lt
  have CO := Lib.hid opposite_any
  have HLen := Lib.hid (size_len d)
  clear hB bW hz hL
  go_enter Try.func90, Try.ntmps90
  go_wp2
  generalize hg : w.heap.size = g at *
  clear ec
  go_loopw [13] (fun i wr => ∃ (k : Nat), k ≤ d.size ∧ i = .int .i64 k ∧ Hid (BR wr g (cdL z x (d.data.toList.take k) ++ d.data.toList.drop k)) ∧ Hid (RowAt wr bZ 4 #[.bool z]) ∧ Hid (RowAt wr bL 5 #[.int .u8 ((cdF z x (d.data.toList.take k)).toNat : Int)]) ∧ Hid (Kp [bL] w wr)) (fun i _ => d.size - (intOf i).toNat)
  case atStart => exact ⟨0, Nat.zero_le _, rfl, HB, HZ, HL, HW⟩
  case round =>
    obtain ⟨k, hk, rfl, HR, HZr, HLr, HK⟩ := hrel
    have hy := cdF_ok (z := z) hx (d.data.toList.take k)
    have hZc := HZr.out.get1
    have hLc := HLr.out.get1
    have hLf := HLr.out.frozen 0
    have lg := HR.out.lt
    have nl : g ≠ bL := by omega
    have nz : g ≠ bZ := by omega
    have hlen := HLen.out
    by_cases hlt : k < d.size
    · have hl1 : (cdL z x (d.data.toList.take k)).length = k := by rw [cdL_len, List.length_take]; omega
      have hl2 : k < (cdL z x (d.data.toList.take k) ++ d.data.toList.drop k).length := by rw [List.length_append, hl1, List.length_drop]; omega
      have f0 := HR.out.cell k hl2
      have f1 := HR.out.frozen k hl2
      have e0 : (cdL z x (d.data.toList.take k) ++ d.data.toList.drop k)[k]'hl2 = d[k] := by
        rw [List.getElem_append_right (by omega), List.getElem_drop]
        simp only [hl1, Nat.sub_self, Nat.add_zero]
        rfl
      rw [e0] at f0
      have HS := Lib.hid (take_drop_set d z x k hlt)
      have HT : Hid (cdF z x (d.data.toList.take (k + 1)) = stB z (cdF z x (d.data.toList.take k)) d[k]) := Lib.hid (by rw [take_snoc d k hlt, cdF_snoc])
      clear hl1 hl2 e0 hlen
      have hb49 : ((d[k].toNat : Int) == 49) = decide (d[k] = 49) := by
        by_cases e : d[k] = 49
        · rw [e]; rfl
        · have e' : d[k].toNat ≠ 49 := fun h => e (UInt8.toNat_inj.1 h)
          rw [decide_eq_false e]; simp; omega
      have HD : Hid (stB z (cdF z x (d.data.toList.take k)) d[k] = if (decide (d[k] = 49)) ≠ z then 97 - cdF z x (d.data.toList.take k) else cdF z x (d.data.toList.take k)) := Lib.hid rfl
      generalize stB z (cdF z x (d.data.toList.take k)) d[k] = nx at *
      generalize decide (d[k] = 49) = ch at *
      replace HS : Hid ((cdL z x (d.data.toList.take k) ++ d.data.toList.drop k).set k nx = cdL z x (d.data.toList.take (k + 1)) ++ d.data.toList.drop (k + 1)) := Lib.hid (by rw [← HS.out, HT.out])
      generalize cdF z x (d.data.toList.take k) = y at *
      generalize (d[k].toNat : Int) = dk at *
      have HKs : ∀ W, Kp [bL] w W → ∀ j u, Kp [bL] w (W.setCell ⟨g, j, none⟩ u) := fun W h j u => h.setCell (.inr (by simp only; omega)) _
      have HKl : ∀ W, Kp [bL] w W → ∀ j u, Kp [bL] w (W.setCell ⟨bL, j, none⟩ u) := fun W h j u => h.setCell (.inl (by simp)) _
      by_cases hc : ch = z
      · obtain rfl : nx = y := by rw [HD.out, if_neg (by simpa using hc)]
        subst hc
        clear HD
        cases ch
        · go_wp2
          go_roundw
          case rel => exact ⟨k + 1, by omega, val_int (by omega), Lib.hid (by rw [← HS.out]; exact HR.out.set k nx _ rfl), Lib.hid (HZr.out.other _ _ nz), Lib.hid (by rw [HT.out]; exact HLr.out.other _ _ nl), Lib.hid (HKs _ HK.out _ _)⟩
          case measure => simp [intOf]; omega
        · go_wp2
          go_roundw
          case rel => exact ⟨k + 1, by omega, val_int (by omega), Lib.hid (by rw [← HS.out]; exact HR.out.set k nx _ rfl), Lib.hid (HZr.out.other _ _ nz), Lib.hid (by rw [HT.out]; exact HLr.out.other _ _ nl), Lib.hid (HKs _ HK.out _ _)⟩
          case measure => simp [intOf]; omega
      · have COy : Hid (∀ W, Calls Try.prog 91 #[.int .u8 (y.toNat : Int)] W fun e w' => e = .returned (.int .u8 (nx.toNat : Int)) ∧ w' = W) := Lib.hid fun W => by
          have h1 := CO.out y W hy
          rw [HD.out, if_pos (by simpa using hc)]
          exact h1
        clear HD CO
        have hcz : ch = !z := by cases ch <;> cases z <;> simp_all
        clear hc
        subst hcz
        cases z
        · go_wp2_with (go_at_call 91; go_must (refine (COy.out _).mono ?_; rintro e1 w1 ⟨rfl, rfl⟩))
          go_roundw
          case rel => exact ⟨k + 1, by omega, val_int (by omega), Lib.hid (by rw [← HS.out]; exact (HR.out.of_block (Below.heap_setCell _ _ _ _ (fun e => nl e))).set k nx _ rfl), Lib.hid ((HZr.out.other ⟨bL, 0, none⟩ _ (fun e => hne e.symm)).other _ _ nz), Lib.hid (by rw [HT.out]; exact (HLr.out.set1 _).other _ _ nl), Lib.hid (HKs _ (HKl _ HK.out _ _) _ _)⟩
          case measure => simp [intOf]; omega
        · go_wp2_with (go_at_call 91; go_must (refine (COy.out _).mono ?_; rintro e1 w1 ⟨rfl, rfl⟩))
          go_roundw
          case rel => exact ⟨k + 1, by omega, val_int (by omega), Lib.hid (by rw [← HS.out]; exact (HR.out.of_block (Below.heap_setCell _ _ _ _ (fun e => nl e))).set k nx _ rfl), Lib.hid ((HZr.out.other ⟨bL, 0, none⟩ _ (fun e => hne e.symm)).other _ _ nz), Lib.hid (by rw [HT.out]; exact (HLr.out.set1 _).other _ _ nl), Lib.hid (HKs _ (HKl _ HK.out _ _) _ _)⟩
          case measure => simp [intOf]; omega
    · obtain rfl : k = d.size := by omega
      have ht : d.data.toList.take d.size = d.data.toList := List.take_of_length_le (by omega)
      have hdr : d.data.toList.drop d.size = [] := List.drop_of_length_le (by omega)
      rw [ht, hdr, List.append_nil] at HR
      rw [ht] at HLr
      have hcv := HR.out.conv d.size c (by rw [cdL_len]; omega)
      clear ht hdr hlen hy hLc hZc hLf
      go_wp2
      go_returns
      exact ⟨rfl, HLr.out, HK.out⟩

theorem coder_any (z : Bool) (w : World) : Calls Try.prog 71 #[.bool z] w fun e w' => e = .returned (.func (.func 90) #[] #[.pointer (some ⟨w.heap.size, 0, none⟩), .pointer (some ⟨w.heap.size + 1, 0, none⟩)]) ∧ RowAt w' w.heap.size 4 #[.bool z] ∧ RowAt w' (w.heap.size + 1) 5 #[.int .u8 49] ∧ Below w.heap.size w w' ∧ w'.heap.size = w.heap.size + 2 := by
  go_enter Try.func71, Try.ntmps71
  go_wp2
  go_returns
  exact ⟨rfl, (RowAt.new w _ _).alloc _, RowAt.at (by rw [World.size_alloc]), by (repeat' (first | with_reducible exact Below.refl _ _ | with_reducible exact Nat.le_refl _ | with_reducible assumption | with_reducible refine below_drewN ?_ _ | with_reducible refine Below.drew ?_ | with_reducible refine Below.trans ?_ (Below.mono (by assumption) ?_) | with_reducible refine Below.alloc ?_ ?_ _ | with_reducible refine Below.setCell ?_ ?_ _ | with_reducible refine le_setCell ?_ _ _ | with_reducible refine le_alloc ?_ _ | with_reducible refine le_drewN ?_ _ | with_reducible refine le_drew ?_ | with_reducible refine Nat.le_trans ?_ (Below.size (by assumption)) | (simp only [World.size_alloc, World.size_setCell]; omega) | omega)), by rw [World.size_alloc, World.size_alloc]⟩

end Go.Proofs.Ytfbclbolkojjeaa
