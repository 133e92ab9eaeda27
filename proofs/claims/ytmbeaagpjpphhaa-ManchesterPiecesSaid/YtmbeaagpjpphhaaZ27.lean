/-
  Layer 17: the walks of halves and transmission (the program's), and of put (the specification's).
  Layer 17: what a sender sends, as parts of a level and ticks; the runs that both make of them: plain.
-/
import Derived.Test.YtmbeaagpjpphhaaZ20
import Derived.Test.YtmbeaagpjpphhaaZ21
namespace Go.Proofs.Ytmbeaagpjpphhaa
open Go Go.RowKit Go.Joins
open Sw (Rn RnRow RnArg rnC lg nil_or_snoc pt pt_nil pt_snoc)
set_option linter.unusedVariables false
set_option linter.unusedSimpArgs false

/-- The halves of a bit: the signal's levels. -/
def hvI (c : UInt8) : Int × Int := if c = 48 then (1, 0) else if c = 49 then (0, 1) else (1, 1)
theorem halves_any (c : UInt8) (w : World) : Calls Try.prog 117 #[.int .u8 c.toNat] w fun e w' => e = .returned (.tuple #[.int .i64 (hvI c).1, .int .i64 (hvI c).2]) ∧ w' = w := by
  by_cases h0 : c = 48
  · subst h0
    go_enter Try.func117, Try.ntmps117
    go_wp2
    go_returns
    exact ⟨rfl, rfl⟩
  have n0 : (((c.toNat : Nat) : Int) == 48) = false := by simpa using fun h => h0 (UInt8.toNat_inj.1 (by simpa using Int.ofNat.inj h))
  by_cases h1 : c = 49
  · subst h1
    go_enter Try.func117, Try.ntmps117
    go_wp2
    go_returns
    exact ⟨rfl, rfl⟩
  have n1 : (((c.toNat : Nat) : Int) == 49) = false := by simpa using fun h => h1 (UInt8.toNat_inj.1 (by simpa using Int.ofNat.inj h))
  have HH : Hid (hvI c = (1, 1)) := Lib.hid (by unfold hvI; rw [if_neg h0, if_neg h1])
  rw [HH.out]
  go_enter Try.func117, Try.ntmps117
  go_wp2
  go_returns
  exact ⟨rfl, rfl⟩

/-- What put makes of the runs. -/
def pu (R : List Rn) (v t : Int) : List Rn := if t ≤ 0 then R else pt R (v, t)
/-- What put leaves. -/
def RowP (w w' : World) (B : Nat) (V : Value) (R' : List Rn) (V' : Value) : Prop := RnRow w' B V' R' ∧ Kp (ows V) w w' ∧ (V'.ownBlock = V.ownBlock ∨ ∃ k, V'.ownBlock = some k ∧ w.heap.size ≤ k)

theorem kp_app0 {w W w5 : World} {B : Nat} {V : Value} (k : Kp (ows V) w W) (b5 : Below B W w5) (n5 : ∀ k, k < W.heap.size → some k ≠ V.ownBlock → w5.heap[k]? = W.heap[k]?) : Kp (ows V) w w5 :=
  ⟨b5.os.trans k.os, b5.tape.trans k.tape, b5.output.trans k.output, Nat.le_trans k.size b5.size, fun k' hk hx => (n5 k' (Nat.lt_of_lt_of_le hk k.size) (fun e => hx (ows_mem.2 e.symm))).trans (k.block k' hk hx)⟩

set_option maxRecDepth 20000 in
set_option maxHeartbeats 8000000 in
theorem put_any (B : Nat) (V : Value) (R : List Rn) (T v t : Int) (w : World) (hS : RnRow w B V R) (hB : B ≤ w.heap.size) (hR : R.length ≤ 4398046511000) (hx : ∀ x ∈ R, 0 ≤ x.2 ∧ x.2 ≤ T) (h0 : 0 ≤ T) (t0 : 0 ≤ t) (hT : T + t ≤ 4611686018427387904) :
    Calls Try.prog 85 #[V, .int .i64 v, .int .i64 t] w fun e w' => ∃ V', e = .returned V' ∧ RowP w w' B V (pu R v t) V' := by
  have HK := Lib.hid hS
  by_cases ht : t ≤ 0
  · obtain ⟨UA, UN, UC, rfl, hUN⟩ := hS.form
    clear hUN
    go_enter Try.func85, Try.ntmps85
    go_wp2
    go_returns
    exact ⟨_, rfl, by unfold pu; rw [if_pos ht]; exact HK.out, Kp.refl _ _, .inl rfl⟩
  have HP : Hid (pu R v t = pt R (v, t)) := Lib.hid (by unfold pu; rw [if_neg ht])
  generalize pu R v t = PU at *
  rcases nil_or_snoc R with rfl | ⟨q, y, rfl⟩
  · have hrow := hS
    obtain ⟨UA, UN, UC, rfl, hUN⟩ := hrow.form
    obtain rfl : UN = 0 := hUN
    clear hrow hS
    go_enter Try.func85, Try.ntmps85
    go_wp2_with (first
      | (at_builtin; go_must (refine wpList_append_arg_at Try.underlying27 Sw.run_info rfl (by omega) Sw.rnC_size Sw.rnC_one rfl _ _ rfl rfl rfl (HK.out.alloc _) (lit_rn _ v t rfl) (by simp only [World.size_alloc]; omega) (by simp) (by simp) ?_; intro v5 w5 r5 b5 n5 o5; obtain ⟨A5, N5, C5, rfl, hN5⟩ := r5.form; clear hN5)))
    go_returns
    exact ⟨_, rfl, by rw [HP.out, pt_nil]; exact r5, kp_app0 ((Kp.refl _ w).alloc _) b5 n5, by rcases o5 with h | h; exact .inl h; exact .inr ⟨_, h, by simp only [World.size_alloc]; omega⟩⟩
  · obtain ⟨y1, y2⟩ := y
    have hrow := hS
    obtain ⟨G, C, rfl⟩ := hrow.full (by simp)
    have hK : (q ++ [(y1, y2)]).length = q.length + 1 := by simp
    have hyx := hx (y1, y2) (by simp)
    simp only at hyx
    rw [hK] at hR HK
    obtain ⟨d0, d1, e0, e1⟩ := Sw.RnRow.two HK.out q.length (by simp)
    simp only [List.getElem_concat_length] at d0 d1
    have hG := HK.out.len.2.2
    have v1 : IntKind.i64.wrap ((q.length : Int) + 1 - 1) = q.length := by rw [show (q.length : Int) + 1 - 1 = q.length by omega]; exact IntWalk.i64_in _ (by omega)
    have v2 : IntKind.i64.wrap (y2 + t) = y2 + t := IntWalk.i64_in _ (by omega)
    have v3 : IntKind.i64.wrap (q.length : Int) = q.length := IntWalk.i64_in _ (by omega)
    have hi1 : (q.length : Int) < (q.length : Int) + 1 := by omega
    have hi0 : (0 : Int) ≤ q.length := by omega
    have hi2 : (0 : Int) < (q.length : Int) + 1 := by omega
    by_cases hyv : y1 = v
    · subst hyv
      have hyy : (y1 == y1) = true := by simp
      have HX := Lib.hid (Sw.RnRow.set1 HK.out q.length (by simp) y1 (y2 + t) (by simp))
      have hset : (q ++ [(y1, y2)]).set q.length (y1, y2 + t) = q ++ [(y1, y2 + t)] := by simp
      rw [hset] at HX
      clear hrow hS hset hx
      rw [hK]
      go_enter Try.func85, Try.ntmps85
      go_wp2
      go_returns
      exact ⟨_, rfl, by rw [HP.out, pt_snoc, if_pos rfl]; exact HX.out, (Kp.refl _ w).setCell (.inl (by simp [Value.ownBlock])) _, .inl rfl⟩
    · have hyy : (y1 == v) = false := by simpa using hyv
      clear hrow hS hx
      rw [hK]
      go_enter Try.func85, Try.ntmps85
      go_wp2_with (first
        | (at_builtin; go_must (refine wpList_append_arg_at Try.underlying27 Sw.run_info rfl (by omega) Sw.rnC_size Sw.rnC_one rfl _ _ rfl rfl rfl (HK.out.alloc _) (lit_rn _ v t rfl) (by simp only [World.size_alloc]; omega) (by simp only [hK, List.length_cons, List.length_nil]; omega) (by simp only [hK, List.length_cons, List.length_nil]; omega) ?_; intro v5 w5 r5 b5 n5 o5; obtain ⟨A5, N5, C5, rfl, hN5⟩ := r5.form; clear hN5)))
      go_returns
      exact ⟨_, rfl, by rw [HP.out, pt_snoc, if_neg hyv]; exact r5, kp_app0 ((Kp.refl _ w).alloc _) b5 n5, by rcases o5 with h | h; exact .inl h; exact .inr ⟨_, h, by simp only [World.size_alloc]; omega⟩⟩

end Go.Proofs.Ytmbeaagpjpphhaa

namespace Go.Proofs.Ytmbeaagpjpphhaa
open Go
open Sw (Rn lg gd nil_or_snoc pt pt_nil pt_snoc lg_append pt_lg)
set_option linter.unusedVariables false

def hpL (N D k : Int) (c : UInt8) : List Rn := [((hvI c).1, smI N D k - bdI N D k), ((hvI c).2, bdI N D (k + 1) - smI N D k)]
def bpL (N D : Int) (L : List UInt8) : Nat → List Rn
  | 0 => []
  | j + 1 => bpL N D L j ++ hpL N D j (L.getD j 0)
/-- The characters of a transmission. -/
def txL (x u : Int) (d : List UInt8) : List UInt8 := 49 :: (if u = 5 then d.take x.toNat ++ [120] else d)
def ipL (N D : Int) (e : It) : List Rn := (0, e.g) :: (bpL N D (txL e.x e.u e.d.data.toList) (txL e.x e.u e.d.data.toList).length ++ [(0, bdI N D 2)])
def epL (N D : Int) (l : List It) : Nat → List Rn
  | 0 => [(0, bdI N D 2)]
  | j + 1 => epL N D l j ++ ipL N D (l.getD j default)
def snF (R P : List Rn) : List Rn := P.foldl (fun o r => sn o r.1 r.2) R
def puF (R P : List Rn) : List Rn := P.foldl (fun o r => pu o r.1 r.2) R
theorem snF_append (R P Q : List Rn) : snF R (P ++ Q) = snF (snF R P) Q := by unfold snF; rw [List.foldl_append]
theorem puF_append (R P Q : List Rn) : puF R (P ++ Q) = puF (puF R P) Q := by unfold puF; rw [List.foldl_append]
/-- Parts that a sender may send. -/
def nn (P : List Rn) : Prop := ∀ r ∈ P, 0 ≤ r.2
theorem nn_lg {P : List Rn} (h : nn P) : 0 ≤ lg P := by
  induction P with
  | nil => exact Int.le_refl _
  | cons r P ih =>
    have h1 := h r (by simp)
    have h2 := ih fun x hx => h x (by simp [hx])
    simp only [lg]; omega
theorem nn_append {P Q : List Rn} (h1 : nn P) (h2 : nn Q) : nn (P ++ Q) := by
  intro r hr
  rcases List.mem_append.1 hr with h | h
  · exact h1 r h
  · exact h2 r h
theorem hp_ok {N D : Int} (h : Bt N D) (k : Int) (c : UInt8) : nn (hpL N D k c) ∧ lg (hpL N D k c) ≤ 1048577 ∧ 1 ≤ smI N D k - bdI N D k ∧ 1 ≤ bdI N D (k + 1) - smI N D k := by
  have a := sm_bd h k
  have b := bd_next h k
  refine ⟨fun r hr => ?_, ?_, by omega, by omega⟩
  · simp only [hpL, List.mem_cons, List.not_mem_nil, or_false] at hr
    rcases hr with rfl | rfl <;> simp only <;> omega
  · simp only [hpL, lg]; omega
theorem bp_ok {N D : Int} (h : Bt N D) (L : List UInt8) (j : Nat) : nn (bpL N D L j) ∧ lg (bpL N D L j) ≤ 1048577 * j := by
  induction j with
  | zero => exact ⟨fun r hr => (by simp [bpL] at hr), by simp [bpL, lg]⟩
  | succ j ih =>
    have b := hp_ok h j (L.getD j 0)
    refine ⟨nn_append ih.1 b.1, ?_⟩
    simp only [bpL, lg_append]
    have := b.2.1; have := ih.2
    omega
theorem tx_len (x u : Int) (d : List UInt8) : (txL x u d).length ≤ d.length + 2 := by
  unfold txL
  split
  · simp only [List.length_cons, List.length_append, List.length_take, List.length_nil]; omega
  · simp
theorem ip_ok {N D : Int} (h : Bt N D) (e : It) (h0 : 0 ≤ e.g) (h1 : e.g ≤ 1048576) (hd : e.d.size ≤ 4096) : nn (ipL N D e) ∧ lg (ipL N D e) ≤ 4400000000 := by
  have a := bp_ok h (txL e.x e.u e.d.data.toList) (txL e.x e.u e.d.data.toList).length
  have b := tx_len e.x e.u e.d.data.toList
  have c : e.d.data.toList.length = e.d.size := Array.length_toList
  have d1 := (bd_next h 0).2
  have d2 := (bd_next h (0 + 1)).2
  have d3 := (bd_next h 0).1
  have d4 := (bd_next h (0 + 1)).1
  rw [bd_zero] at d1 d3
  rw [show (0 : Int) + 1 + 1 = 2 by omega] at d2 d4
  refine ⟨fun r hr => ?_, ?_⟩
  · simp only [ipL, List.mem_cons, List.mem_append, List.not_mem_nil, or_false] at hr
    rcases hr with rfl | hr | rfl
    · exact h0
    · exact a.1 r hr
    · show 0 ≤ bdI N D 2; omega
  · simp only [ipL, lg, lg_append]
    have := a.2
    omega
/-- Items that are sent: their gaps and data are bounded. -/
def okI (l : List It) : Prop := l.length ≤ 1024 ∧ ∀ j (h : j < l.length), 0 ≤ l[j].g ∧ l[j].g ≤ 1048576 ∧ l[j].d.size ≤ 4096
theorem ep_ok {N D : Int} (h : Bt N D) {l : List It} (hl : okI l) (j : Nat) (hj : j ≤ l.length) : nn (epL N D l j) ∧ lg (epL N D l j) ≤ 4194304 + 4400000000 * j := by
  have d1 := (bd_next h 0).2
  have d2 := (bd_next h (0 + 1)).2
  have d3 := (bd_next h 0).1
  have d4 := (bd_next h (0 + 1)).1
  rw [bd_zero] at d1 d3
  rw [show (0 : Int) + 1 + 1 = 2 by omega] at d2 d4
  induction j with
  | zero => exact ⟨fun r hr => by simp only [epL, List.mem_cons, List.not_mem_nil, or_false] at hr; subst hr; show 0 ≤ bdI N D 2; omega, by simp only [epL, lg]; omega⟩
  | succ j ih =>
    obtain ⟨i1, i2⟩ := ih (by omega)
    obtain ⟨g1, g2, g3⟩ := hl.2 j (by omega)
    have e : l.getD j default = l[j] := by simp [List.getD, List.getElem?_eq_getElem (show j < l.length by omega)]
    obtain ⟨a1, a2⟩ := ip_ok h l[j] g1 g2 g3
    rw [epL, e]
    refine ⟨nn_append i1 a1, ?_⟩
    rw [lg_append]; omega
/-- What holds of the runs of parts whose ticks are T. -/
def bdR (R : List Rn) (T : Int) : Prop := ∀ x ∈ R, 0 ≤ x.2 ∧ x.2 ≤ T
theorem sn_bd {R : List Rn} {T v t : Int} (h : bdR R T) (h0 : 0 ≤ T) (ht : 0 ≤ t) : bdR (sn R v t) (T + t) := by
  have up : bdR R (T + t) := fun x hx => by have := h x hx; omega
  by_cases h1 : t = 0
  · rw [h1, sn_zero, Int.add_zero]; exact h
  rcases nil_or_snoc R with rfl | ⟨q, y, rfl⟩
  · rw [sn_nil v h1]; intro x hx; simp only [List.mem_singleton] at hx; subst hx; simp only; omega
  · rw [sn_snoc q y v h1]
    have hy := h y (by simp)
    split
    · intro x hx
      rcases List.mem_append.1 hx with hx | hx
      · exact up x (by simp [hx])
      · simp only [List.mem_singleton] at hx; subst hx; simp only; omega
    · split
      · intro x hx
        rcases List.mem_append.1 hx with hx | hx
        · exact up x hx
        · simp only [List.mem_singleton] at hx; subst hx; simp only; omega
      · exact up
theorem pu_bd {R : List Rn} {T v t : Int} (h : bdR R T) (h0 : 0 ≤ T) (ht : 0 ≤ t) : bdR (pu R v t) (T + t) := by
  have up : bdR R (T + t) := fun x hx => by have := h x hx; omega
  unfold pu
  split
  · exact up
  rcases nil_or_snoc R with rfl | ⟨q, y, rfl⟩
  · rw [pt_nil]; intro x hx; simp only [List.mem_singleton] at hx; subst hx; simp only; omega
  · rw [pt_snoc]
    have hy := h y (by simp)
    split
    · intro x hx
      rcases List.mem_append.1 hx with hx | hx
      · exact up x (by simp [hx])
      · simp only [List.mem_singleton] at hx; subst hx; simp only; omega
    · intro x hx
      rcases List.mem_append.1 hx with hx | hx
      · exact up x hx
      · simp only [List.mem_singleton] at hx; subst hx; simp only; omega
theorem snF_bd {P R : List Rn} {T : Int} (hP : nn P) (h : bdR R T) (h0 : 0 ≤ T) : bdR (snF R P) (T + lg P) := by
  induction P generalizing R T with
  | nil => simpa [snF, lg] using h
  | cons r P ih =>
    have h1 := hP r (by simp)
    have := ih (R := sn R r.1 r.2) (T := T + r.2) (fun x hx => hP x (by simp [hx])) (sn_bd h h0 h1) (by omega)
    simp only [lg]
    rw [← Int.add_assoc]; exact this
theorem puF_bd {P R : List Rn} {T : Int} (hP : nn P) (h : bdR R T) (h0 : 0 ≤ T) : bdR (puF R P) (T + lg P) := by
  induction P generalizing R T with
  | nil => simpa [puF, lg] using h
  | cons r P ih =>
    have h1 := hP r (by simp)
    have := ih (R := pu R r.1 r.2) (T := T + r.2) (fun x hx => hP x (by simp [hx])) (pu_bd h h0 h1) (by omega)
    simp only [lg]
    rw [← Int.add_assoc]; exact this
theorem snF_len (R P : List Rn) (h : R.length ≤ 262145) : (snF R P).length ≤ 262145 := by
  induction P generalizing R with
  | nil => exact h
  | cons r P ih => exact ih _ ((sn_len R r.1 r.2).2 h)
theorem pu_len (R : List Rn) (v t : Int) : (pu R v t).length ≤ R.length + 1 ∧ R.length ≤ (pu R v t).length := by
  unfold pu
  split
  · omega
  · have := Sw.pt_len R (v, t); omega
theorem puF_len (R P : List Rn) : (puF R P).length ≤ R.length + P.length ∧ R.length ≤ (puF R P).length := by
  induction P generalizing R with
  | nil => simp [puF]
  | cons r P ih =>
    have h1 := ih (pu R r.1 r.2)
    have h2 := pu_len R r.1 r.2
    have e : puF R (r :: P) = puF (pu R r.1 r.2) P := rfl
    rw [e, List.length_cons]; omega
/-- Both make the same runs, up to the greatest number of runs and one. -/
theorem sn_pu {P : List Rn} (hP : nn P) : ∀ R S : List Rn, ((R.length ≤ 262145 ∧ S = R) ∨ (262145 < R.length ∧ S.length = 262145)) → (((puF R P).length ≤ 262145 ∧ snF S P = puF R P) ∨ (262145 < (puF R P).length ∧ (snF S P).length = 262145)) := by
  induction P with
  | nil => intro R S h; exact h
  | cons r P ih =>
    intro R S h
    have h1 := hP r (by simp)
    refine ih (fun x hx => hP x (by simp [hx])) (pu R r.1 r.2) (sn S r.1 r.2) ?_
    by_cases hz : r.2 = 0
    · rw [hz, sn_zero]
      unfold pu
      rw [if_pos (Int.le_refl _)]; exact h
    · rcases h with ⟨h2, rfl⟩ | ⟨h2, h3⟩
      · rcases nil_or_snoc S with rfl | ⟨q, y, rfl⟩
        · left
          rw [sn_nil _ hz]
          unfold pu
          rw [if_neg (by omega), pt_nil]
          exact ⟨by simp, rfl⟩
        · rw [sn_snoc q y _ hz]
          unfold pu
          rw [if_neg (by omega), pt_snoc]
          by_cases hy : y.1 = r.1
          · rw [if_pos hy, if_pos hy]; left
            refine ⟨?_, rfl⟩
            simp only [List.length_append, List.length_cons, List.length_nil] at h2 ⊢
            exact h2
          · rw [if_neg hy, if_neg hy]
            by_cases hl : (q ++ [y]).length ≤ 262144
            · rw [if_pos hl]; left
              refine ⟨?_, rfl⟩
              simp only [List.length_append, List.length_cons, List.length_nil] at hl ⊢
              omega
            · rw [if_neg hl]; right
              simp only [List.length_append, List.length_cons, List.length_nil] at h2 hl ⊢
              omega
      · right
        have h4 := (pu_len R r.1 r.2).2
        refine ⟨by omega, ?_⟩
        rcases nil_or_snoc S with rfl | ⟨q, y, rfl⟩
        · simp at h3
        · rw [sn_snoc q y _ hz]
          split
          · simpa using h3
          · rw [if_neg (by omega)]; exact h3
/-- A part in two pieces. -/
theorem pu_two (R : List Rn) (v : Int) {a b : Int} (ha : 1 ≤ a) (hb : 1 ≤ b) : pu (pu R v a) v b = pu R v (a + b) := by
  unfold pu
  rw [if_neg (by omega), if_neg (by omega), if_neg (by omega)]
  rcases nil_or_snoc R with rfl | ⟨q, y, rfl⟩
  · rw [pt_nil, pt_nil, show [(v, a)] = [] ++ [(v, a)] from rfl, pt_snoc, if_pos rfl]; rfl
  · rw [pt_snoc, pt_snoc]
    by_cases hy : y.1 = v
    · rw [if_pos hy, if_pos hy, pt_snoc, if_pos hy]; simp only [Int.add_assoc]
    · rw [if_neg hy, if_neg hy, pt_snoc, if_pos rfl]

end Go.Proofs.Ytmbeaagpjpphhaa
