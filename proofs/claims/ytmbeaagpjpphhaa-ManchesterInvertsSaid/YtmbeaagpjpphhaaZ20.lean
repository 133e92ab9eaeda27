/-
  A sender's runs (package decoder): the walks of Send and Runs.
-/
import Derived.Test.YtmbeaagpjpphhaaZ10
import Derived.Test.YtmbeaagpjpphhaaZ09
import Derived.Test.YtmbeaagpjpphhaaZ14
namespace Go.Proofs.Ytmbeaagpjpphhaa
open Go Go.RowKit Go.Joins
open Sw (Rn RnRow RnArg rnC lg nil_or_snoc)
set_option linter.unusedVariables false
set_option linter.unusedSimpArgs false

/-- What Send makes of the runs. -/
def sn (R : List Rn) (v t : Int) : List Rn := if t = 0 then R else match R.getLast? with
  | some x => if x.1 = v then R.dropLast ++ [(x.1, x.2 + t)] else if R.length ≤ 262144 then R ++ [(v, t)] else R
  | none => [(v, t)]
theorem sn_zero (R : List Rn) (v : Int) : sn R v 0 = R := by simp [sn]
theorem sn_nil (v : Int) {t : Int} (h : t ≠ 0) : sn [] v t = [(v, t)] := by simp [sn, h]
theorem sn_snoc (q : List Rn) (x : Rn) (v : Int) {t : Int} (h : t ≠ 0) : sn (q ++ [x]) v t = if x.1 = v then q ++ [(x.1, x.2 + t)] else if (q ++ [x]).length ≤ 262144 then q ++ [x] ++ [(v, t)] else q ++ [x] := by simp [sn, h]
theorem sn_len (R : List Rn) (v t : Int) : (sn R v t).length ≤ R.length + 1 ∧ (R.length ≤ 262145 → (sn R v t).length ≤ 262145) := by
  by_cases ht : t = 0
  · rw [ht, sn_zero]; omega
  rcases nil_or_snoc R with rfl | ⟨q, x, rfl⟩
  · rw [sn_nil v ht]; simp
  · rw [sn_snoc q x v ht]
    split
    · simp
    · split <;> simp <;> simp at * <;> omega

/-- A sender in memory: its runs lie behind it. -/
structure Snd (w : World) (b : Nat) (V : Value) (R : List Rn) (T : Int) : Prop where
  box : RowAt w b 81 #[V, .int .i64 T]
  row : RnRow w (b + 1) V R
theorem Snd.new (w : World) : Snd (w.alloc (.cells #[.slice none 0 0, .int .i64 0] 81)) w.heap.size (.slice none 0 0) [] 0 := ⟨RowAt.new _ _ _, KRow.nil _ _⟩
theorem Snd.ne {w : World} {b : Nat} {V : Value} {R : List Rn} {T : Int} (h : Snd w b V R T) : V.ownBlock ≠ some b := fun e => by have := h.row.lt b e; omega
abbrev ows (V : Value) : List Nat := V.ownBlock.toList
theorem ows_mem {V : Value} {k : Nat} : k ∈ ows V ↔ V.ownBlock = some k := by unfold ows; cases V.ownBlock <;> simp [eq_comm]
/-- What Send leaves. -/
def SndP (w w' : World) (b : Nat) (V : Value) (R : List Rn) (T : Int) : Prop := ∃ V', Snd w' b V' R T ∧ Kp (b :: ows V) w w' ∧ (V'.ownBlock = V.ownBlock ∨ ∃ k, V'.ownBlock = some k ∧ w.heap.size ≤ k)
theorem Snd.keep {w w' : World} {b : Nat} {V : Value} {R : List Rn} {T : Int} (h : Snd w b V R T) (hb : Below w.heap.size w w') : Snd w' b V R T := ⟨h.box.keep hb, h.row.keep hb⟩
theorem Snd.below {w w' : World} {b : Nat} {V : Value} {R : List Rn} {T : Int} (h : Snd w b V R T) (hb : Below w.heap.size w w') : SndP w w' b V R T := ⟨V, h.keep hb, Kp.of_below hb, .inl rfl⟩
/-- Two sends. -/
theorem sndP_trans {w w1 w2 : World} {b : Nat} {V V1 : Value} {R2 : List Rn} {T2 : Int} (k1 : Kp (b :: ows V) w w1) (o1 : V1.ownBlock = V.ownBlock ∨ ∃ k, V1.ownBlock = some k ∧ w.heap.size ≤ k) (h2 : SndP w1 w2 b V1 R2 T2) : SndP w w2 b V R2 T2 := by
  obtain ⟨V2, s2, k2, o2⟩ := h2
  have hn : ∀ k, k < w.heap.size → k ∉ b :: ows V → k ∉ b :: ows V1 := by
    intro k hk hx hm
    rcases List.mem_cons.1 hm with h | h
    · exact hx (List.mem_cons.2 (.inl h))
    · rw [ows_mem] at h
      rcases o1 with o1 | ⟨k', o1, hk'⟩
      · exact hx (List.mem_cons.2 (.inr (ows_mem.2 (o1 ▸ h))))
      · rw [o1] at h; simp only [Option.some.injEq] at h; omega
  refine ⟨V2, s2, ⟨k2.os.trans k1.os, k2.tape.trans k1.tape, k2.output.trans k1.output, Nat.le_trans k1.size k2.size, fun k hk hx => (k2.block k (Nat.lt_of_lt_of_le hk k1.size) (hn k hk hx)).trans (k1.block k hk hx)⟩, ?_⟩
  rcases o2 with o2 | ⟨k, o2, hk⟩
  · rcases o1 with o1 | ⟨k, o1, hk⟩
    · exact .inl (o2.trans o1)
    · exact .inr ⟨k, o2.trans o1, hk⟩
  · exact .inr ⟨k, o2, Nat.le_trans k1.size hk⟩

/-- The literal of one run, as an argument. -/
theorem lit_rn (w : World) (v t : Int) {g : Nat} (hg : g = w.heap.size) : RnArg (w.alloc (.cells #[.int .i64 v, .int .i64 t] 50)) (.slice (some ⟨g, 0, none⟩) 1 1) [(v, t)] := by
  subst hg
  exact (KRow.lit Sw.rnC_size w w.heap.size (Nat.le_refl _) [(v, t)] _ rfl 1 rfl (by simp)).arg Sw.rnC_size
theorem kp_app {w W w5 : World} {b B : Nat} {V : Value} (k : Kp (b :: ows V) w W) (b5 : Below B W w5) (n5 : ∀ k, k < W.heap.size → some k ≠ V.ownBlock → w5.heap[k]? = W.heap[k]?) : Kp (b :: ows V) w w5 :=
  ⟨b5.os.trans k.os, b5.tape.trans k.tape, b5.output.trans k.output, Nat.le_trans k.size b5.size, fun k' hk hx => (n5 k' (Nat.lt_of_lt_of_le hk k.size) (fun e => hx (List.mem_cons.2 (.inr (ows_mem.2 e.symm))))).trans (k.block k' hk hx)⟩
theorem row_b {w : World} {b : Nat} {V : Value} {R : List Rn} {B : Nat} (h : RnRow w B V R) (hB : b < B) (j : Nat) (u : Value) : RnRow (w.setCell ⟨b, j, none⟩ u) B V R :=
  h.kp ((Kp.refl [b] w).setCell (.inl (by simp)) _) (fun g hg hx => by have := (h.lt g hg).1; simp only [List.mem_singleton] at hx; omega)
/-- Behind an append: the row in its box. -/
theorem snd_app {w W w5 : World} {b : Nat} {V v5 : Value} {R : List Rn} {T' : Int} (k : Kp (b :: ows V) w W) (hW : w.heap.size ≤ W.heap.size) (B1 : RowAt W b 81 #[V, .int .i64 T']) (b5 : Below (b + 1) W w5) (n5 : ∀ k, k < W.heap.size → some k ≠ V.ownBlock → w5.heap[k]? = W.heap[k]?) (r5 : RnRow w5 (b + 1) v5 R) (o5 : v5.ownBlock = V.ownBlock ∨ v5.ownBlock = some W.heap.size) : SndP w (w5.setCell ⟨b, 0, none⟩ v5) b V R T' := by
  refine ⟨v5, ⟨?_, row_b r5 (Nat.lt_succ_self b) 0 v5⟩, (kp_app k b5 n5).setCell (.inl (by simp)) _, ?_⟩
  · simpa using (B1.below b5 (Nat.lt_succ_self b)).set 0 v5
  · rcases o5 with h | h
    · exact .inl h
    · exact .inr ⟨_, h, hW⟩

set_option maxRecDepth 20000 in
set_option maxHeartbeats 8000000 in
theorem send_any (b : Nat) (V : Value) (R : List Rn) (T v t : Int) (w : World) (hS : Snd w b V R T) (hR : R.length ≤ 262145) (hx : ∀ x ∈ R, 0 ≤ x.2 ∧ x.2 ≤ T) (h0 : 0 ≤ T) (t0 : 0 ≤ t) (hT : T + t ≤ 4611686018427387904) :
    Calls Try.prog 57 #[.pointer (some ⟨b, 0, none⟩), .int .i64 v, .int .i64 t] w fun e w' => e = .returned (.tuple #[]) ∧ SndP w w' b V (sn R v t) (T + t) := by
  have HK := Lib.hid hS
  by_cases ht : t = 0
  · subst ht
    have ht' : ((0 : Int) == 0) = true := rfl
    go_enter Try.func57, Try.ntmps57
    go_wp2
    go_returns
    exact ⟨rfl, by rw [sn_zero, Int.add_zero]; exact HK.out.below (Below.refl _ _)⟩
  have ht' : (t == 0) = false := by simpa using ht
  have lb := hS.box.lt
  have c0 := hS.box.cell 0
  have c1 := hS.box.cell 1
  have z0 := hS.box.frozen 0
  have z1 := hS.box.frozen 1
  simp only [List.getElem?_toArray, List.getElem?_cons_zero, List.getElem?_cons_succ] at c0 c1
  have q1 : IntKind.i64.wrap (T + t) = T + t := IntWalk.i64_in _ (by omega)
  have B1 : RowAt (w.setCell ⟨b, 1, none⟩ (.int .i64 (T + t))) b 81 #[V, .int .i64 (T + t)] := by simpa using hS.box.set 1 (.int .i64 (T + t))
  have K1 : Kp (b :: ows V) w (w.setCell ⟨b, 1, none⟩ (.int .i64 (T + t))) := (Kp.refl _ w).setCell (.inl (by simp)) _
  have HR0 := Lib.hid hS.row
  have HR1 := Lib.hid (row_b hS.row (Nat.lt_succ_self b) 1 (.int .i64 (T + t)))
  have HB1 := Lib.hid B1; have HK1 := Lib.hid K1
  clear B1 K1
  rcases nil_or_snoc R with rfl | ⟨q, y, rfl⟩
  · have hrow := hS.row
    obtain ⟨UA, UN, UC, rfl, hUN⟩ := hrow.form
    obtain rfl : UN = 0 := hUN
    clear hrow hS HK
    go_enter Try.func57, Try.ntmps57
    go_wp2_with (first
      | (at_builtin; go_must (refine wpList_append_arg_at Try.underlying27 Sw.run_info rfl (by omega) Sw.rnC_size Sw.rnC_one rfl _ _ rfl rfl rfl (HR1.out.alloc _) (lit_rn _ v t (by first | rfl | simp [World.size_setCell])) (by simp only [World.size_alloc, World.size_setCell]; omega) (by simp) (by simp) ?_; intro v5 w5 r5 b5 n5 o5; obtain ⟨A5, N5, C5, rfl, hN5⟩ := r5.form; have y5 := (HB1.out.alloc (.cells #[.int .i64 v, .int .i64 t] 50)).below b5 (Nat.lt_succ_self b); have y0 := y5.cell 0; have yz := y5.frozen 0; clear hN5)))
    go_returns
    exact ⟨rfl, by rw [sn_nil v ht]; exact snd_app (HK1.out.alloc _) (by simp only [World.size_alloc, World.size_setCell]; omega) (HB1.out.alloc _) b5 n5 r5 o5⟩
  · obtain ⟨y1, y2⟩ := y
    have hrow := hS.row
    obtain ⟨G, C, rfl⟩ := hrow.full (by simp)
    have hK : (q ++ [(y1, y2)]).length = q.length + 1 := by simp
    have hyx := hx (y1, y2) (by simp)
    simp only at hyx
    rw [hK] at hR
    rw [hK] at HR1 HB1 HK1 c0
    obtain ⟨d0, d1, e0, e1⟩ := Sw.RnRow.two HR1.out q.length (by simp)
    simp only [List.getElem_concat_length] at d0 d1
    have hG := HR1.out.len.2.2
    have v1 : IntKind.i64.wrap ((q.length : Int) + 1 - 1) = q.length := by rw [show (q.length : Int) + 1 - 1 = q.length by omega]; exact IntWalk.i64_in _ (by omega)
    have v2 : IntKind.i64.wrap (y2 + t) = y2 + t := IntWalk.i64_in _ (by omega)
    have v3 : IntKind.i64.wrap (q.length : Int) = q.length := IntWalk.i64_in _ (by omega)
    have hi1 : (q.length : Int) < (q.length : Int) + 1 := by omega
    have hi0 : (0 : Int) ≤ q.length := by omega
    have e9 : (decide ((0 : Int) ≤ q.length)) = true := by simp
    by_cases hyv : y1 = v
    · subst hyv
      have hyy : (y1 == y1) = true := by simp
      have HX := Lib.hid (Sw.RnRow.set1 HR1.out q.length (by simp) y1 (y2 + t) (by simp))
      have hset : (q ++ [(y1, y2)]).set q.length (y1, y2 + t) = q ++ [(y1, y2 + t)] := by simp
      rw [hset] at HX
      clear hrow hS HK hset hx
      go_enter Try.func57, Try.ntmps57
      go_wp2
      go_returns
      refine ⟨rfl, ?_⟩
      rw [sn_snoc q (y1, y2) y1 ht, if_pos rfl, hK]
      exact ⟨_, ⟨HB1.out.other _ _ (by simp only; omega), HX.out⟩, HK1.out.setCell (.inl (by simp [Value.ownBlock])) _, .inl rfl⟩
    · have hyy : (y1 == v) = false := by simpa using hyv
      by_cases hq : q.length < 262144
      · have hq' : (q.length : Int) < 262144 := by omega
        clear hrow hS HK hx
        go_enter Try.func57, Try.ntmps57
        go_wp2_with (first
      | (at_builtin; go_must (refine wpList_append_arg_at Try.underlying27 Sw.run_info rfl (by omega) Sw.rnC_size Sw.rnC_one rfl _ _ rfl rfl rfl (HR1.out.alloc _) (lit_rn _ v t (by first | rfl | simp [World.size_setCell])) (by simp only [World.size_alloc, World.size_setCell]; omega) (by simp only [hK, List.length_cons, List.length_nil]; omega) (by simp only [hK, List.length_cons, List.length_nil]; omega) ?_; intro v5 w5 r5 b5 n5 o5; obtain ⟨A5, N5, C5, rfl, hN5⟩ := r5.form; have y5 := (HB1.out.alloc (.cells #[.int .i64 v, .int .i64 t] 50)).below b5 (Nat.lt_succ_self b); have y0 := y5.cell 0; have yz := y5.frozen 0; clear hN5)))
        go_returns
        refine ⟨rfl, ?_⟩
        rw [sn_snoc q (y1, y2) v ht, if_neg hyv, if_pos (by rw [hK]; omega), hK]
        exact snd_app (HK1.out.alloc _) (by simp only [World.size_alloc, World.size_setCell]; omega) (HB1.out.alloc _) b5 n5 r5 o5
      · have hq' : ¬ (q.length : Int) < 262144 := by omega
        clear hrow hS HK hx
        go_enter Try.func57, Try.ntmps57
        go_wp2
        go_returns
        refine ⟨rfl, ?_⟩
        rw [sn_snoc q (y1, y2) v ht, if_neg hyv, if_neg (by rw [hK]; omega)]
        exact ⟨_, ⟨HB1.out, HR1.out⟩, HK1.out, .inl rfl⟩

/-- What Runs returns. -/
def rnX (R : List Rn) (T : Int) : Int := if 262144 < R.length then 6 else if 1099511627776 < T then 2 else 0
set_option maxRecDepth 20000 in
set_option maxHeartbeats 4000000 in
theorem runs_any (b : Nat) (V : Value) (R : List Rn) (T : Int) (w : World) (hS : Snd w b V R T) (hR : R.length ≤ 262145) :
    Calls Try.prog 59 #[.pointer (some ⟨b, 0, none⟩)] w fun e w' => e = .returned (.tuple #[if rnX R T = 0 then V else .slice none 0 0, .int .i64 (rnX R T)]) ∧ w' = w := by
  have c0 := hS.box.cell 0
  have c1 := hS.box.cell 1
  simp only [List.getElem?_toArray, List.getElem?_cons_zero, List.getElem?_cons_succ] at c0 c1
  obtain ⟨UA, UN, UC, rfl, hUN⟩ := hS.row.form
  subst hUN
  have HX : Hid (rnX R T = if 262144 < R.length then 6 else if 1099511627776 < T then 2 else 0) := Lib.hid rfl
  generalize rnX R T = X at *
  clear hS
  by_cases h1 : 262144 < R.length
  · have h1' : (262144 : Int) < R.length := by omega
    obtain rfl : X = 6 := by rw [HX.out, if_pos h1]
    go_enter Try.func59, Try.ntmps59
    go_wp2
    go_returns
    exact ⟨rfl, rfl⟩
  · have h1' : ¬ (262144 : Int) < R.length := by omega
    by_cases h2 : 1099511627776 < T
    · obtain rfl : X = 2 := by rw [HX.out, if_neg h1, if_pos h2]
      go_enter Try.func59, Try.ntmps59
      go_wp2
      go_returns
      exact ⟨rfl, rfl⟩
    · obtain rfl : X = 0 := by rw [HX.out, if_neg h1, if_neg h2]
      go_enter Try.func59, Try.ntmps59
      go_wp2
      go_returns
      exact ⟨rfl, rfl⟩

end Go.Proofs.Ytmbeaagpjpphhaa
