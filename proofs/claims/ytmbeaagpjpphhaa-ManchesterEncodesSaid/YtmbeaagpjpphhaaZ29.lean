/-
  Layer 17: the walk of the specification's send.
  Layer 17: the walk of the specification's Encode.
  Layer 17: the walk of the specification's Encode, of items that can be encoded.
  Layer 17: the specification's Levels; the chapter's examples (awake).
  Layer 17: the walk of awake.
  Layer 17: the walk of the specification's Expect; the law of encoding.
  Layer 17: the law of items behind other levels.
-/
import Derived.Test.YtmbeaagpjpphhaaZ28
import Derived.Test.YtmbeaagpjpphhaaZ21
import Derived.Deep.RegionHeld3
import Derived.Test.YtmbeaagpjpphhaaZ12
import Derived.Test.YtmbeaagpjpphhaaZ09
import Derived.Test.YtmbeaagpjpphhaaZ26
import Derived.Test.YtmbeaagpjpphhaaZ23
namespace Go.Proofs.Ytmbeaagpjpphhaa
open Go Go.RowKit Go.Joins
open Sw (Rn RnRow RnArg rnC lg nil_or_snoc pt pt_nil pt_snoc lg_append)
set_option linter.unusedVariables false
set_option linter.unusedSimpArgs false

/-- A walk that changes of old blocks the row's own alone. -/
def RwQ (w wr : World) (V V1 : Value) : Prop := Kp (ows V) w wr ∧ (V1.ownBlock = V.ownBlock ∨ ∃ k, V1.ownBlock = some k ∧ w.heap.size ≤ k)
theorem RwQ.refl (w : World) (V : Value) : RwQ w w V V := ⟨Kp.refl _ _, .inl rfl⟩
theorem rwQ_trans {w w1 w2 : World} {V V1 V2 : Value} (h1 : RwQ w w1 V V1) (h2 : RwQ w1 w2 V1 V2) : RwQ w w2 V V2 := by
  obtain ⟨k1, o1⟩ := h1
  obtain ⟨k2, o2⟩ := h2
  have hn : ∀ k, k < w.heap.size → k ∉ ows V → k ∉ ows V1 := by
    intro k hk hx hm
    rw [ows_mem] at hm
    rcases o1 with o1 | ⟨k', o1, hk'⟩
    · exact hx (ows_mem.2 (o1 ▸ hm))
    · rw [o1] at hm; simp only [Option.some.injEq] at hm; omega
  refine ⟨⟨k2.os.trans k1.os, k2.tape.trans k1.tape, k2.output.trans k1.output, Nat.le_trans k1.size k2.size, fun k hk hx => (k2.block k (Nat.lt_of_lt_of_le hk k1.size) (hn k hk hx)).trans (k1.block k hk hx)⟩, ?_⟩
  rcases o2 with o2 | ⟨k, o2, hk⟩
  · rcases o1 with o1 | ⟨k, o1, hk⟩
    · exact .inl (o2.trans o1)
    · exact .inr ⟨k, o2.trans o1, hk⟩
  · exact .inr ⟨k, o2, Nat.le_trans k1.size hk⟩
theorem rwQ_of {w w1 : World} (V : Value) (hb : Below w.heap.size w w1) : RwQ w w1 V V := ⟨Kp.of_below hb, .inl rfl⟩
theorem rwQ_below {w w1 w2 : World} {V V1 : Value} (h1 : RwQ w w1 V V1) (hb : Below w1.heap.size w1 w2) : RwQ w w2 V V1 := rwQ_trans h1 (rwQ_of V1 hb)
theorem rwQ_row {w w1 : World} {x : Nat} {V V1 : Value} {T : TypeId} {cs : Array Value} (h : RwQ w w1 V V1) (hr : RowAt w x T cs) (hv : V.ownBlock ≠ some x) : RowAt w1 x T cs ∧ V1.ownBlock ≠ some x := by
  refine ⟨h.1.row hr (by simp only [ows_mem]; exact hv), ?_⟩
  have := hr.lt
  rcases h.2 with e | ⟨k, e, hk⟩
  · rw [e]; exact hv
  · rw [e]; simp only [ne_eq, Option.some.injEq]; omega
theorem rwP_of {w w1 : World} {B : Nat} {V V1 : Value} {R : List Rn} (h : RwQ w w1 V V1) (hr : RnRow w1 B V1 R) : RowP w w1 B V R V1 := ⟨hr, h.1, h.2⟩
theorem heldM {w W : World} {b3 X0 : Nat} {N D : Int} {z : Bool} (h : (W.cell? ⟨b3, 0, none⟩ = some (.int .i64 N) ∧ W.cell? ⟨b3, 1, none⟩ = some (.int .i64 D) ∧ W.cell? ⟨b3, 2, none⟩ = some (.bool z)) ∧ b3 < W.heap.size ∧ X0 ≤ W.heap.size) (hb : Below W.heap.size W w) : (w.cell? ⟨b3, 0, none⟩ = some (.int .i64 N) ∧ w.cell? ⟨b3, 1, none⟩ = some (.int .i64 D) ∧ w.cell? ⟨b3, 2, none⟩ = some (.bool z)) ∧ b3 < w.heap.size ∧ X0 ≤ w.heap.size := by
  obtain ⟨⟨a0, a1, a2⟩, l0, X⟩ := h
  have hs := hb.size
  exact ⟨⟨(hb.cell l0).trans a0, (hb.cell l0).trans a1, (hb.cell l0).trans a2⟩, by omega, by omega⟩
theorem two_send (w : World) (N D : Int) (z : Bool) (I : Array Value) : ∃ W b3 b5, W = (w.alloc (.cells (manA N D z) 59)).alloc (.cells I 32) ∧ b5 = w.heap.size + 1 ∧ b3 = w.heap.size ∧ b3 < b5 ∧ b5 < W.heap.size ∧ RowAt W b3 59 (manA N D z) ∧ RowAt W b5 32 I ∧ Below w.heap.size w W :=
  ⟨_, _, _, rfl, rfl, rfl, by omega, by simp only [World.size_alloc]; omega, (RowAt.new w _ _).alloc _, RowAt.at (by simp only [World.size_alloc]), (ba w _).trans ((ba _ _).mono (by simp only [World.size_alloc]; omega))⟩
/-- put, behind a row of parts. -/
theorem put_next {B : Nat} {V : Value} {R P : List Rn} {T v t : Int} {w : World} (hS : RnRow w B V (puF R P)) (hB : B ≤ w.heap.size) (hR : R.length + P.length ≤ 4398046511000) (hx : bdR R T) (h0 : 0 ≤ T) (hP : nn P) (t0 : 0 ≤ t) (hT : T + lg P + t ≤ 4611686018427387904) :
    Calls Try.prog 85 #[V, .int .i64 v, .int .i64 t] w fun e w' => ∃ V', e = .returned V' ∧ RnRow w' B V' (puF R (P ++ [(v, t)])) ∧ RwQ w w' V V' := by
  have := nn_lg hP
  refine (put_any B V (puF R P) (T + lg P) v t w hS hB (by have := (puF_len R P).1; omega) (puF_bd hP hx h0) (by omega) t0 hT).mono fun e w' ⟨V', h1, h2, h3, h4⟩ => ⟨V', h1, ?_, h3, h4⟩
  rw [puF_one]; exact h2
theorem bp_len (N D : Int) (L : List UInt8) (j : Nat) : (bpL N D L j).length = 2 * j := by
  induction j with
  | zero => rfl
  | succ j ih => rw [bpL, List.length_append, ih]; simp [hpL]; omega

theorem sc_bits (x u : Int) (d : List UInt8) (hok : ∀ c ∈ d, c.toNat = 48 ∨ c.toNat = 49) : ∀ c ∈ scL x u d, c.toNat = 48 ∨ c.toNat = 49 := by
  intro c hm
  unfold scL at hm
  rcases List.mem_cons.1 hm with h1 | h1
  · subst h1; decide
  · refine hok _ ?_
    split at h1
    · exact List.mem_of_mem_take h1
    · exact h1

set_option maxRecDepth 20000 in
set_option maxHeartbeats 8000000 in
theorem rsend_any (B : Nat) (V : Value) (R : List Rn) (T N D : Int) (z : Bool) (g v x : Int) (d : ByteArray) (u : Int) (w : World) (h : Bt N D) (ho : OkT ⟨g, v, x, d, u⟩) (hS : RnRow w B V R) (hB : B ≤ w.heap.size) (hR : R.length ≤ 4398046000000) (hx : bdR R T) (h0 : 0 ≤ T) (hT : T ≤ 4503599627370496) :
    Calls Try.prog 87 #[.agg (manA N D z), V, .agg (itA g v x d u)] w fun r w' => ∃ V', r = .returned V' ∧ RnRow w' B V' (puF R (bpL N D (txL x u d.data.toList) (txL x u d.data.toList).length)) ∧ RwQ w w' V V' := by
  have HM : Hid (∀ q p W, q = p → 0 ≤ p → p ≤ 100000 → Calls Try.prog 86 #[.agg (manA N D z), .int .i64 q] W fun e w' => e = .returned (.int .i64 (sc p N (2 * D))) ∧ Below W.heap.size W w') := Lib.hid fun q p W e q0 q1 => by subst e; exact times_any N D q z W h q0 (by omega)
  have HP := Lib.hid (fun V P v t W hS hB hP hl t0 hT => @put_next B V R P T v t W hS hB hl hx h0 hP t0 hT)
  have hd := ho.d
  simp only at hd
  have hdl : d.data.toList.length = d.size := Array.length_toList
  have hok : ∀ c ∈ d.data.toList, c.toNat = 48 ∨ c.toNat = 49 := fun c hc => Sb.okB_mem ho.ok hc
  obtain ⟨W, b3, b5, eW, e5, e3, l35, l5, r3, r5, B0⟩ := two_send w N D z (itA g v x d u)
  have HB0 := Lib.hid B0; have H3 := Lib.hid r3
  obtain ⟨c0, c1, c2, c3, c4⟩ := row5 r5
  have HS := Lib.hid (hS.keep B0)
  have hO3 : V.ownBlock ≠ some b3 := fun e => by have := (hS.lt b3 e).2; omega
  have HO3 := Lib.hid hO3
  have HR5 := Lib.hid r5
  have hO5 : V.ownBlock ≠ some b5 := fun e => by have := (hS.lt b5 e).2; omega
  have HO5 := Lib.hid hO5
  have hBW : B ≤ W.heap.size := Nat.le_trans hB B0.size
  have HQ := Lib.hid (rwQ_of V B0)
  clear r3 r5 B0 hO3 hO5
  have hform := hS.form
  obtain ⟨A, n0, c, rfl, hn0⟩ := hform
  clear hn0 hS
  by_cases hu : u = 5
  · obtain ⟨x0, x1⟩ := ho.x hu
    simp only at x0 x1
    obtain ⟨n, hn⟩ := Int.eq_ofNat_of_zero_le x0
    subst hn
    have x2 : (n : Int) + 1 ≤ (1 : Int) + d.size := by omega
    subst hu
    go_enter Try.func87, Try.ntmps87
    go_upto_region 1 with (fail)
    rw [← eW, ← e5, ← e3]
    clear eW e5 e3
    go_upto_region 4 with (fail)
    obtain ⟨s, es, hs⟩ : ∃ s : ByteArray, s = ((⟨#[49]⟩ : ByteArray) ++ d).extract 0 (n + 1) ∧ s.data.toList = scL (n : Int) 5 d.data.toList := ⟨_, rfl, by rw [cut_data, cat_data]; unfold scL; simp⟩
    rw [← es]
    clear es c0 c1 c2 c3 c4
    obtain ⟨L, hL⟩ : ∃ L, L = scL (n : Int) 5 d.data.toList := ⟨_, rfl⟩
    rw [← hL] at hs
    have hsl : s.size = L.length := by rw [← hs]; exact (Array.length_toList (xs := s.data)).symm
    have hll : L.length ≤ 4097 := by rw [hL]; unfold scL; simp only [List.length_cons]; split <;> (try rw [List.length_take]) <;> omega
    have hbit : ∀ k (hk : k < s.size), s[k] = L.getD k 0 ∧ ((L.getD k 0).toNat = 48 ∨ (L.getD k 0).toNat = 49) := by
      intro k hk
      have hk' : k < s.data.toList.length := by rw [Array.length_toList]; exact hk
      have e : s[k] = L.getD k 0 := by
        rw [← hs, List.getD, List.getElem?_eq_getElem hk', Option.getD_some, Array.getElem_toList]; rfl
      refine ⟨e, ?_⟩
      have hm : L.getD k 0 ∈ L := by rw [List.getD, List.getElem?_eq_getElem (by omega), Option.getD_some]; exact List.getElem_mem _
      generalize L.getD k 0 = ch at hm
      rw [hL] at hm
      exact sc_bits _ _ _ hok ch hm
    have HBT := Lib.hid hbit
    have hz' : (s.size : Int) ≤ 4097 := by omega
    have HSL := Lib.hid hsl; have HL := Lib.hid hL
    clear hbit hs hok hsl hL
    go_wp2
    go_loopw [8, 1] (fun i V1 wr => ∃ (k : Nat), k ≤ s.size ∧ i = .int .i64 k ∧ Hid (RnRow wr B V1 (puF R (bpL N D L k))) ∧ Hid (RowAt wr b3 59 (manA N D z)) ∧ Hid (V1.ownBlock ≠ some b3) ∧ Hid (RowAt wr b5 32 (itA g v (n : Int) d 5)) ∧ Hid (V1.ownBlock ≠ some b5) ∧ Hid (RwQ w wr (.slice A n0 c) V1) ∧ B ≤ wr.heap.size) (fun i _ _ => s.size - (intOf i).toNat)
    case atStart => exact ⟨0, Nat.zero_le _, rfl, HS, H3, HO3, HR5, HO5, HQ, hBW⟩
    case round =>
      obtain ⟨k, hk, rfl, HX, HR3, HV3, HR5', HV5, HQ1, hB1⟩ := hrel
      have hbp := bp_ok h L k
      have hnl := nn_lg hbp.1
      have hpl := bp_len N D L k
      have hll' := hll
      by_cases hkl : k < s.size
      · obtain ⟨hc, hb⟩ := HBT.out k hkl
        obtain ⟨z0, z1, z2⟩ := row3 HR3.out
        have hsb := sm_bd h k
        have hnx := bd_next h k
        obtain ⟨vv, hvv⟩ : ∃ vv : Int, vv = ((L.getD k 0).toNat : Int) - 48 := ⟨_, rfl⟩
        have hv01 : vv = 0 ∨ vv = 1 := by omega
        have HNX : Hid (puF R (bpL N D L (k + 1)) = puF R ((bpL N D L k ++ [(1 - vv, smI N D k - bdI N D k)]) ++ [(vv, bdI N D (k + 1) - smI N D k)])) := Lib.hid (by
          rw [bpL, hpL, hv_bit hb, ← hvv]; simp only [List.append_assoc, List.cons_append, List.nil_append])
        have w0 : IntKind.i64.wrap (((s[k].toNat : Nat) : Int) - 48) = vv := by rw [hc, hvv]; exact IntWalk.i64_in _ (by omega)
        have w0' : IntKind.i64.wrap ((s[k].toNat : Nat) : Int) = ((s[k].toNat : Nat) : Int) := IntWalk.i64_in _ (by have := UInt8.toNat_lt s[k]; omega)
        have w1 : IntKind.i64.wrap (1 - vv) = 1 - vv := IntWalk.i64_in _ (by omega)
        have hk4 : k ≤ 4097 := by omega
        obtain ⟨p0, hp0⟩ : ∃ p : Int, p = 2 * k := ⟨_, rfl⟩
        obtain ⟨p1, hp1⟩ : ∃ p : Int, p = 2 * k + 1 := ⟨_, rfl⟩
        obtain ⟨p2, hp2⟩ : ∃ p : Int, p = 2 * (k + 1) := ⟨_, rfl⟩
        have w2 : IntKind.i64.wrap (2 * (k : Int)) = p0 := by rw [hp0]; exact IntWalk.i64_in _ (by omega)
        have w3 : IntKind.i64.wrap (p0 + 1) = p1 := by rw [IntWalk.i64_in _ (by omega)]; omega
        have w4 : IntKind.i64.wrap (p0 + 2) = p2 := by rw [IntWalk.i64_in _ (by omega)]; omega
        have HM0 := Lib.hid (fun W => HM.out p0 p0 W rfl (by omega) (by omega))
        have HM1 := Lib.hid (fun W => HM.out p1 p1 W rfl (by omega) (by omega))
        have HM2 := Lib.hid (fun W => HM.out p2 p2 W rfl (by omega) (by omega))
        rw [hp0, sc_two k N D h.d1] at HM0
        rw [hp1, sc_odd] at HM1
        rw [hp2, sc_two (k + 1) N D h.d1] at HM2
        rw [← hp0] at HM0; rw [← hp1] at HM1; rw [← hp2] at HM2
        generalize hq0 : bdI N D k = q0 at *
        generalize hq1 : smI N D k = q1 at *
        generalize hq2 : bdI N D (k + 1) = q2 at *
        obtain ⟨t0, ht0⟩ : ∃ t : Int, t = q1 - q0 := ⟨_, rfl⟩
        obtain ⟨t1, ht1⟩ : ∃ t : Int, t = q2 - q1 := ⟨_, rfl⟩
        have hqb : 0 ≤ q0 ∧ q0 ≤ 5000000000 := by
          rw [← hq0]
          exact ⟨bd_nn h k (by omega), by have := bd_top h k; omega⟩
        have w5 : IntKind.i64.wrap (q1 - q0) = t0 := by rw [ht0]; exact IntWalk.i64_in _ (by omega)
        have w6 : IntKind.i64.wrap (q2 - q1) = t1 := by rw [ht1]; exact IntWalk.i64_in _ (by omega)
        rw [← ht0, ← ht1] at HNX
        have hnn : nn (bpL N D L k ++ [(1 - vv, t0)]) := nn_one hbp.1 (by omega)
        have hlg : lg (bpL N D L k ++ [(1 - vv, t0)]) = lg (bpL N D L k) + t0 := by rw [lg_append, Sw.lg_one]
        have hln : (bpL N D L k ++ [(1 - vv, t0)]).length = 2 * k + 1 := by rw [List.length_append, hpl]; rfl
        have HP0 : Hid (∀ V W, RnRow W B V (puF R (bpL N D L k)) → B ≤ W.heap.size → Calls Try.prog 85 #[V, .int .i64 (1 - vv), .int .i64 t0] W fun e w' => ∃ V', e = .returned V' ∧ RnRow w' B V' (puF R (bpL N D L k ++ [(1 - vv, t0)])) ∧ RwQ W w' V V') := Lib.hid fun V W h1 h2 => HP.out V _ _ _ W h1 h2 hbp.1 (by omega) (by omega) (by have := hbp.2; omega)
        have HP1 : Hid (∀ V W, RnRow W B V (puF R (bpL N D L k ++ [(1 - vv, t0)])) → B ≤ W.heap.size → Calls Try.prog 85 #[V, .int .i64 vv, .int .i64 t1] W fun e w' => ∃ V', e = .returned V' ∧ RnRow w' B V' (puF R (bpL N D L (k + 1))) ∧ RwQ W w' V V') := Lib.hid fun V W h1 h2 => by rw [HNX.out]; exact HP.out V _ _ _ W h1 h2 hnn (by omega) (by omega) (by rw [hlg]; have := hbp.2; omega)
        obtain ⟨A1, n1, c1, rfl, hn1⟩ := HX.out.form
        have HW : Hid ((wr.cell? ⟨b3, 0, none⟩ = some (.int .i64 N) ∧ wr.cell? ⟨b3, 1, none⟩ = some (.int .i64 D) ∧ wr.cell? ⟨b3, 2, none⟩ = some (.bool z)) ∧ b3 < wr.heap.size ∧ B ≤ wr.heap.size) := Lib.hid ⟨⟨z0, z1, z2⟩, HR3.out.lt, hB1⟩
        obtain ⟨F2, hF2⟩ : ∃ x, x = puF R (bpL N D L (k + 1)) := ⟨_, rfl⟩
        rw [← hF2] at HP1
        have HF2 := Lib.hid hF2
        clear hF2
        generalize puF R (bpL N D L k ++ [(1 - vv, t0)]) = F1 at *
        generalize puF R (bpL N D L k) = F0 at *
        have hk0 : (0 : Int) ≤ k := by omega
        have hk1 : (k : Int) < s.size := by omega
        clear hn1 z0 z1 z2 hp0 hp1 hp2 hq0 hq1 hq2 ht0 ht1 hqb hvv hv01 hc hb hsb hnx hnn hlg hln hbp hnl hpl HNX
        go_wp2
        go_region_held3 (fun w' => (w'.cell? ⟨b3, 0, none⟩ = some (.int .i64 N) ∧ w'.cell? ⟨b3, 1, none⟩ = some (.int .i64 D) ∧ w'.cell? ⟨b3, 2, none⟩ = some (.bool z)) ∧ b3 < w'.heap.size ∧ B ≤ w'.heap.size) (first | with_reducible assumption | with_reducible exact heldM HW.out (Below.refl _ _).drew | fail)
          (first
            | (go_at_call 86; first
                | (have tok := k6; clear tok; refine (HM0.out _).mono ?_; rintro e7 w7 ⟨rfl, k7⟩; have h7 := heldM (by with_reducible assumption) k7)
                | (refine (HM1.out _).mono ?_; rintro e6 w6' ⟨rfl, k6⟩; have h6 := heldM (by with_reducible assumption) k6))
            | (go_at_call 85; refine (HP0.out _ _ (KRow.keep (KRow.keep (show RnRow wr.drew B _ _ from HX.out) k6) k7) (And.right (And.right h7))).mono ?_; rintro e8 w8 ⟨V8, rfl, x8, q8⟩; have Q8 := rwQ_trans (rwQ_trans (rwQ_of _ (show Below wr.heap.size wr wr.drew from (Below.refl _ _).drew)) (rwQ_trans (rwQ_of _ k6) (rwQ_of _ k7))) q8; have r8 := rwQ_row Q8 HR3.out HV3.out; have h8 : (w8.cell? ⟨b3, 0, none⟩ = some (.int .i64 N) ∧ w8.cell? ⟨b3, 1, none⟩ = some (.int .i64 D) ∧ w8.cell? ⟨b3, 2, none⟩ = some (.bool z)) ∧ b3 < w8.heap.size ∧ B ≤ w8.heap.size := ⟨row3 r8.1, r8.1.lt, Nat.le_trans hB1 Q8.1.size⟩)
            | fail)
        all_goals
          rename_i hS9
          obtain ⟨A8, n8, c8, rfl, hn8⟩ := x8.form
          have X8 := Lib.hid x8; have QQ8 := Lib.hid Q8; have R8 := Lib.hid r8.1; have V8' := Lib.hid r8.2
          have HW8 := Lib.hid h8
          have R58 := rwQ_row Q8 HR5'.out HV5.out
          have R5a := Lib.hid R58.1; have V5a := Lib.hid R58.2
          clear hn8 x8 q8 Q8 r8 R58 h6 h7 h8 k6 k7 hS9
          go_wp2
          go_region_held3 (fun w' => (w'.cell? ⟨b3, 0, none⟩ = some (.int .i64 N) ∧ w'.cell? ⟨b3, 1, none⟩ = some (.int .i64 D) ∧ w'.cell? ⟨b3, 2, none⟩ = some (.bool z)) ∧ b3 < w'.heap.size ∧ B ≤ w'.heap.size) (first | with_reducible assumption | with_reducible exact heldM HW8.out (Below.refl _ _).drew | fail)
            (first
              | (go_at_call 86; first
                  | (have tok := k6; clear tok; refine (HM1.out _).mono ?_; rintro e7 w7 ⟨rfl, k7⟩; have h7 := heldM (by with_reducible assumption) k7)
                  | (refine (HM2.out _).mono ?_; rintro e6 w6' ⟨rfl, k6⟩; have h6 := heldM (by with_reducible assumption) k6))
              | (go_at_call 85; refine (HP1.out _ _ (KRow.keep (KRow.keep (show RnRow w8.drew B _ _ from X8.out) k6) k7) (And.right (And.right h7))).mono ?_; rintro e9 w9 ⟨V9, rfl, x9, q9⟩; have Q9 := rwQ_trans (rwQ_trans (rwQ_of _ (show Below w8.heap.size w8 w8.drew from (Below.refl _ _).drew)) (rwQ_trans (rwQ_of _ k6) (rwQ_of _ k7))) q9; have r9 := rwQ_row Q9 R8.out V8'.out; have h9 : (w9.cell? ⟨b3, 0, none⟩ = some (.int .i64 N) ∧ w9.cell? ⟨b3, 1, none⟩ = some (.int .i64 D) ∧ w9.cell? ⟨b3, 2, none⟩ = some (.bool z)) ∧ b3 < w9.heap.size ∧ B ≤ w9.heap.size := ⟨row3 r9.1, r9.1.lt, Nat.le_trans HW8.out.2.2 Q9.1.size⟩)
              | fail)
          all_goals
            rename_i hS10
            have R59 := rwQ_row Q9 R5a.out V5a.out
            have QF := Lib.hid (rwQ_trans HQ1.out (rwQ_trans QQ8.out Q9))
            have hBF := h9.2.2
            have R3F := Lib.hid r9.1; have V3F := Lib.hid r9.2
            have R5F := Lib.hid R59.1; have V5F := Lib.hid R59.2
            have XF := Lib.hid x9
            obtain ⟨A9, n9, c9, rfl, hn9⟩ := x9.form
            clear hn9 x9 q9 Q9 r9 R59 h6 h7 h9 k6 k7 hS10
            go_wp2
            go_roundw
            case rel => exact ⟨k + 1, by omega, val_int (by omega), Lib.hid (by rw [← HF2.out]; exact XF.out), R3F, V3F, R5F, V5F, QF, hBF⟩
            case measure => simp [intOf]; omega
      · obtain rfl : k = s.size := by omega
        obtain ⟨A1, n1, c1, rfl, hn1⟩ := HX.out.form
        clear hn1
        obtain ⟨i0, i1, i2, i3, i4⟩ := row5 HR5'.out
        obtain ⟨z0, z1, z2⟩ := row3 HR3.out
        have hsl := HSL.out
        rw [hsl] at HX hbp hpl
        have hz0 : (s.size : Int) = L.length := by omega
        clear hsl
        have hnx := bd_next h (L.length : Nat)
        obtain ⟨p0, hp0⟩ : ∃ p : Int, p = 2 * (L.length : Nat) := ⟨_, rfl⟩
        obtain ⟨p2, hp2⟩ : ∃ p : Int, p = 2 * ((L.length : Nat) + 1) := ⟨_, rfl⟩
        have w2 : IntKind.i64.wrap (2 * (s.size : Int)) = p0 := by rw [hp0, hz0]; exact IntWalk.i64_in _ (by omega)
        have w4 : IntKind.i64.wrap (p0 + 2) = p2 := by rw [IntWalk.i64_in _ (by omega)]; omega
        have HM0 := Lib.hid (fun W => HM.out p0 p0 W rfl (by omega) (by omega))
        have HM2 := Lib.hid (fun W => HM.out p2 p2 W rfl (by omega) (by omega))
        rw [hp0, sc_two _ N D h.d1] at HM0
        rw [hp2, sc_two _ N D h.d1] at HM2
        rw [← hp0] at HM0; rw [← hp2] at HM2
        have HBR := Lib.hid (tx_break h R (n : Int) d.data.toList)
        rw [← HL.out] at HBR
        have hqb : 0 ≤ bdI N D (L.length : Nat) ∧ bdI N D (L.length : Nat) ≤ 5000000000 := ⟨bd_nn h _ (by omega), by have := bd_top h (L.length : Nat); omega⟩
        generalize bdI N D (L.length : Nat) = q0 at *
        generalize bdI N D ((L.length : Nat) + 1) = q2 at *
        obtain ⟨t0, ht0⟩ : ∃ t : Int, t = q2 - q0 := ⟨_, rfl⟩
        have w5 : IntKind.i64.wrap (q2 - q0) = t0 := by rw [ht0]; exact IntWalk.i64_in _ (by omega)
        rw [← ht0, ← puF_one] at HBR
        clear hz0
        have HP0 : Hid (∀ V W, RnRow W B V (puF R (bpL N D L L.length)) → B ≤ W.heap.size → Calls Try.prog 85 #[V, .int .i64 1, .int .i64 t0] W fun e w' => ∃ V', e = .returned V' ∧ RnRow w' B V' (puF R (bpL N D L L.length ++ [(1, t0)])) ∧ RwQ W w' V V') := Lib.hid fun V W h1 h2 => HP.out V _ _ _ W h1 h2 hbp.1 (by omega) (by omega) (by have := hbp.2; omega)
        have HW : Hid ((wr.cell? ⟨b3, 0, none⟩ = some (.int .i64 N) ∧ wr.cell? ⟨b3, 1, none⟩ = some (.int .i64 D) ∧ wr.cell? ⟨b3, 2, none⟩ = some (.bool z)) ∧ b3 < wr.heap.size ∧ B ≤ wr.heap.size) := Lib.hid ⟨⟨z0, z1, z2⟩, HR3.out.lt, hB1⟩
        generalize puF R (bpL N D L L.length) = F0 at *
        clear z0 z1 z2 hp0 hp2 ht0 hqb hnx hbp hnl hpl
        go_wp2
        go_region_held3 (fun w' => (w'.cell? ⟨b3, 0, none⟩ = some (.int .i64 N) ∧ w'.cell? ⟨b3, 1, none⟩ = some (.int .i64 D) ∧ w'.cell? ⟨b3, 2, none⟩ = some (.bool z)) ∧ b3 < w'.heap.size ∧ B ≤ w'.heap.size) (first | with_reducible assumption | with_reducible exact heldM HW.out (Below.refl _ _).drew | fail)
          (first
            | (go_at_call 86; first
                | (have tok := k6; clear tok; refine (HM0.out _).mono ?_; rintro e7 w7 ⟨rfl, k7⟩; have h7 := heldM (by with_reducible assumption) k7)
                | (refine (HM2.out _).mono ?_; rintro e6 w6' ⟨rfl, k6⟩; have h6 := heldM (by with_reducible assumption) k6))
            | (go_at_call 85; refine (HP0.out _ _ (KRow.keep (KRow.keep (show RnRow wr.drew B _ _ from HX.out) k6) k7) (And.right (And.right h7))).mono ?_; rintro e8 w8 ⟨V8, rfl, x8, q8⟩; have Q8 := rwQ_trans (rwQ_trans (rwQ_of _ (show Below wr.heap.size wr wr.drew from (Below.refl _ _).drew)) (rwQ_trans (rwQ_of _ k6) (rwQ_of _ k7))) q8; have r8 := rwQ_row Q8 HR3.out HV3.out; have h8 : (w8.cell? ⟨b3, 0, none⟩ = some (.int .i64 N) ∧ w8.cell? ⟨b3, 1, none⟩ = some (.int .i64 D) ∧ w8.cell? ⟨b3, 2, none⟩ = some (.bool z)) ∧ b3 < w8.heap.size ∧ B ≤ w8.heap.size := ⟨row3 r8.1, r8.1.lt, Nat.le_trans hB1 Q8.1.size⟩)
            | fail)
        all_goals
          rename_i hS9
          obtain ⟨A8, n8, c8, rfl, hn8⟩ := x8.form
          have X8 := Lib.hid x8; have QF := Lib.hid (rwQ_trans HQ1.out Q8)
          clear hn8 x8 q8 Q8 r8 h6 h7 h8 k6 k7 hS9
          go_wp2
          go_returns
          exact ⟨_, rfl, by rw [HBR.out]; exact X8.out, QF.out⟩
  · have hu' : (u == 5) = false := by simpa using hu
    go_enter Try.func87, Try.ntmps87
    go_upto_region 1 with (fail)
    rw [← eW, ← e5, ← e3]
    clear eW e5 e3
    go_upto_region 4 with (fail)
    obtain ⟨s, es, hs⟩ : ∃ s : ByteArray, s = (⟨#[49]⟩ : ByteArray) ++ d ∧ s.data.toList = scL x u d.data.toList := ⟨_, rfl, by rw [cat_data]; unfold scL; simp [hu]⟩
    rw [← es]
    clear es c0 c1 c2 c3 c4
    obtain ⟨L, hL⟩ : ∃ L, L = scL x u d.data.toList := ⟨_, rfl⟩
    rw [← hL] at hs
    have hsl : s.size = L.length := by rw [← hs]; exact (Array.length_toList (xs := s.data)).symm
    have hll : L.length ≤ 4097 := by rw [hL]; unfold scL; simp only [List.length_cons]; split <;> (try rw [List.length_take]) <;> omega
    have hbit : ∀ k (hk : k < s.size), s[k] = L.getD k 0 ∧ ((L.getD k 0).toNat = 48 ∨ (L.getD k 0).toNat = 49) := by
      intro k hk
      have hk' : k < s.data.toList.length := by rw [Array.length_toList]; exact hk
      have e : s[k] = L.getD k 0 := by
        rw [← hs, List.getD, List.getElem?_eq_getElem hk', Option.getD_some, Array.getElem_toList]; rfl
      refine ⟨e, ?_⟩
      have hm : L.getD k 0 ∈ L := by rw [List.getD, List.getElem?_eq_getElem (by omega), Option.getD_some]; exact List.getElem_mem _
      generalize L.getD k 0 = ch at hm
      rw [hL] at hm
      exact sc_bits _ _ _ hok ch hm
    have HBT := Lib.hid hbit
    have hz' : (s.size : Int) ≤ 4097 := by omega
    have HSL := Lib.hid hsl; have HL := Lib.hid hL
    clear hbit hs hok hsl hL
    go_wp2
    go_loopw [8, 1] (fun i V1 wr => ∃ (k : Nat), k ≤ s.size ∧ i = .int .i64 k ∧ Hid (RnRow wr B V1 (puF R (bpL N D L k))) ∧ Hid (RowAt wr b3 59 (manA N D z)) ∧ Hid (V1.ownBlock ≠ some b3) ∧ Hid (RowAt wr b5 32 (itA g v x d u)) ∧ Hid (V1.ownBlock ≠ some b5) ∧ Hid (RwQ w wr (.slice A n0 c) V1) ∧ B ≤ wr.heap.size) (fun i _ _ => s.size - (intOf i).toNat)
    case atStart => exact ⟨0, Nat.zero_le _, rfl, HS, H3, HO3, HR5, HO5, HQ, hBW⟩
    case round =>
      obtain ⟨k, hk, rfl, HX, HR3, HV3, HR5', HV5, HQ1, hB1⟩ := hrel
      have hbp := bp_ok h L k
      have hnl := nn_lg hbp.1
      have hpl := bp_len N D L k
      have hll' := hll
      by_cases hkl : k < s.size
      · obtain ⟨hc, hb⟩ := HBT.out k hkl
        obtain ⟨z0, z1, z2⟩ := row3 HR3.out
        have hsb := sm_bd h k
        have hnx := bd_next h k
        obtain ⟨vv, hvv⟩ : ∃ vv : Int, vv = ((L.getD k 0).toNat : Int) - 48 := ⟨_, rfl⟩
        have hv01 : vv = 0 ∨ vv = 1 := by omega
        have HNX : Hid (puF R (bpL N D L (k + 1)) = puF R ((bpL N D L k ++ [(1 - vv, smI N D k - bdI N D k)]) ++ [(vv, bdI N D (k + 1) - smI N D k)])) := Lib.hid (by
          rw [bpL, hpL, hv_bit hb, ← hvv]; simp only [List.append_assoc, List.cons_append, List.nil_append])
        have w0 : IntKind.i64.wrap (((s[k].toNat : Nat) : Int) - 48) = vv := by rw [hc, hvv]; exact IntWalk.i64_in _ (by omega)
        have w0' : IntKind.i64.wrap ((s[k].toNat : Nat) : Int) = ((s[k].toNat : Nat) : Int) := IntWalk.i64_in _ (by have := UInt8.toNat_lt s[k]; omega)
        have w1 : IntKind.i64.wrap (1 - vv) = 1 - vv := IntWalk.i64_in _ (by omega)
        have hk4 : k ≤ 4097 := by omega
        obtain ⟨p0, hp0⟩ : ∃ p : Int, p = 2 * k := ⟨_, rfl⟩
        obtain ⟨p1, hp1⟩ : ∃ p : Int, p = 2 * k + 1 := ⟨_, rfl⟩
        obtain ⟨p2, hp2⟩ : ∃ p : Int, p = 2 * (k + 1) := ⟨_, rfl⟩
        have w2 : IntKind.i64.wrap (2 * (k : Int)) = p0 := by rw [hp0]; exact IntWalk.i64_in _ (by omega)
        have w3 : IntKind.i64.wrap (p0 + 1) = p1 := by rw [IntWalk.i64_in _ (by omega)]; omega
        have w4 : IntKind.i64.wrap (p0 + 2) = p2 := by rw [IntWalk.i64_in _ (by omega)]; omega
        have HM0 := Lib.hid (fun W => HM.out p0 p0 W rfl (by omega) (by omega))
        have HM1 := Lib.hid (fun W => HM.out p1 p1 W rfl (by omega) (by omega))
        have HM2 := Lib.hid (fun W => HM.out p2 p2 W rfl (by omega) (by omega))
        rw [hp0, sc_two k N D h.d1] at HM0
        rw [hp1, sc_odd] at HM1
        rw [hp2, sc_two (k + 1) N D h.d1] at HM2
        rw [← hp0] at HM0; rw [← hp1] at HM1; rw [← hp2] at HM2
        generalize hq0 : bdI N D k = q0 at *
        generalize hq1 : smI N D k = q1 at *
        generalize hq2 : bdI N D (k + 1) = q2 at *
        obtain ⟨t0, ht0⟩ : ∃ t : Int, t = q1 - q0 := ⟨_, rfl⟩
        obtain ⟨t1, ht1⟩ : ∃ t : Int, t = q2 - q1 := ⟨_, rfl⟩
        have hqb : 0 ≤ q0 ∧ q0 ≤ 5000000000 := by
          rw [← hq0]
          exact ⟨bd_nn h k (by omega), by have := bd_top h k; omega⟩
        have w5 : IntKind.i64.wrap (q1 - q0) = t0 := by rw [ht0]; exact IntWalk.i64_in _ (by omega)
        have w6 : IntKind.i64.wrap (q2 - q1) = t1 := by rw [ht1]; exact IntWalk.i64_in _ (by omega)
        rw [← ht0, ← ht1] at HNX
        have hnn : nn (bpL N D L k ++ [(1 - vv, t0)]) := nn_one hbp.1 (by omega)
        have hlg : lg (bpL N D L k ++ [(1 - vv, t0)]) = lg (bpL N D L k) + t0 := by rw [lg_append, Sw.lg_one]
        have hln : (bpL N D L k ++ [(1 - vv, t0)]).length = 2 * k + 1 := by rw [List.length_append, hpl]; rfl
        have HP0 : Hid (∀ V W, RnRow W B V (puF R (bpL N D L k)) → B ≤ W.heap.size → Calls Try.prog 85 #[V, .int .i64 (1 - vv), .int .i64 t0] W fun e w' => ∃ V', e = .returned V' ∧ RnRow w' B V' (puF R (bpL N D L k ++ [(1 - vv, t0)])) ∧ RwQ W w' V V') := Lib.hid fun V W h1 h2 => HP.out V _ _ _ W h1 h2 hbp.1 (by omega) (by omega) (by have := hbp.2; omega)
        have HP1 : Hid (∀ V W, RnRow W B V (puF R (bpL N D L k ++ [(1 - vv, t0)])) → B ≤ W.heap.size → Calls Try.prog 85 #[V, .int .i64 vv, .int .i64 t1] W fun e w' => ∃ V', e = .returned V' ∧ RnRow w' B V' (puF R (bpL N D L (k + 1))) ∧ RwQ W w' V V') := Lib.hid fun V W h1 h2 => by rw [HNX.out]; exact HP.out V _ _ _ W h1 h2 hnn (by omega) (by omega) (by rw [hlg]; have := hbp.2; omega)
        obtain ⟨A1, n1, c1, rfl, hn1⟩ := HX.out.form
        have HW : Hid ((wr.cell? ⟨b3, 0, none⟩ = some (.int .i64 N) ∧ wr.cell? ⟨b3, 1, none⟩ = some (.int .i64 D) ∧ wr.cell? ⟨b3, 2, none⟩ = some (.bool z)) ∧ b3 < wr.heap.size ∧ B ≤ wr.heap.size) := Lib.hid ⟨⟨z0, z1, z2⟩, HR3.out.lt, hB1⟩
        obtain ⟨F2, hF2⟩ : ∃ x, x = puF R (bpL N D L (k + 1)) := ⟨_, rfl⟩
        rw [← hF2] at HP1
        have HF2 := Lib.hid hF2
        clear hF2
        generalize puF R (bpL N D L k ++ [(1 - vv, t0)]) = F1 at *
        generalize puF R (bpL N D L k) = F0 at *
        have hk0 : (0 : Int) ≤ k := by omega
        have hk1 : (k : Int) < s.size := by omega
        clear hn1 z0 z1 z2 hp0 hp1 hp2 hq0 hq1 hq2 ht0 ht1 hqb hvv hv01 hc hb hsb hnx hnn hlg hln hbp hnl hpl HNX
        go_wp2
        go_region_held3 (fun w' => (w'.cell? ⟨b3, 0, none⟩ = some (.int .i64 N) ∧ w'.cell? ⟨b3, 1, none⟩ = some (.int .i64 D) ∧ w'.cell? ⟨b3, 2, none⟩ = some (.bool z)) ∧ b3 < w'.heap.size ∧ B ≤ w'.heap.size) (first | with_reducible assumption | with_reducible exact heldM HW.out (Below.refl _ _).drew | fail)
          (first
            | (go_at_call 86; first
                | (have tok := k6; clear tok; refine (HM0.out _).mono ?_; rintro e7 w7 ⟨rfl, k7⟩; have h7 := heldM (by with_reducible assumption) k7)
                | (refine (HM1.out _).mono ?_; rintro e6 w6' ⟨rfl, k6⟩; have h6 := heldM (by with_reducible assumption) k6))
            | (go_at_call 85; refine (HP0.out _ _ (KRow.keep (KRow.keep (show RnRow wr.drew B _ _ from HX.out) k6) k7) (And.right (And.right h7))).mono ?_; rintro e8 w8 ⟨V8, rfl, x8, q8⟩; have Q8 := rwQ_trans (rwQ_trans (rwQ_of _ (show Below wr.heap.size wr wr.drew from (Below.refl _ _).drew)) (rwQ_trans (rwQ_of _ k6) (rwQ_of _ k7))) q8; have r8 := rwQ_row Q8 HR3.out HV3.out; have h8 : (w8.cell? ⟨b3, 0, none⟩ = some (.int .i64 N) ∧ w8.cell? ⟨b3, 1, none⟩ = some (.int .i64 D) ∧ w8.cell? ⟨b3, 2, none⟩ = some (.bool z)) ∧ b3 < w8.heap.size ∧ B ≤ w8.heap.size := ⟨row3 r8.1, r8.1.lt, Nat.le_trans hB1 Q8.1.size⟩)
            | fail)
        all_goals
          rename_i hS9
          obtain ⟨A8, n8, c8, rfl, hn8⟩ := x8.form
          have X8 := Lib.hid x8; have QQ8 := Lib.hid Q8; have R8 := Lib.hid r8.1; have V8' := Lib.hid r8.2
          have HW8 := Lib.hid h8
          have R58 := rwQ_row Q8 HR5'.out HV5.out
          have R5a := Lib.hid R58.1; have V5a := Lib.hid R58.2
          clear hn8 x8 q8 Q8 r8 R58 h6 h7 h8 k6 k7 hS9
          go_wp2
          go_region_held3 (fun w' => (w'.cell? ⟨b3, 0, none⟩ = some (.int .i64 N) ∧ w'.cell? ⟨b3, 1, none⟩ = some (.int .i64 D) ∧ w'.cell? ⟨b3, 2, none⟩ = some (.bool z)) ∧ b3 < w'.heap.size ∧ B ≤ w'.heap.size) (first | with_reducible assumption | with_reducible exact heldM HW8.out (Below.refl _ _).drew | fail)
            (first
              | (go_at_call 86; first
                  | (have tok := k6; clear tok; refine (HM1.out _).mono ?_; rintro e7 w7 ⟨rfl, k7⟩; have h7 := heldM (by with_reducible assumption) k7)
                  | (refine (HM2.out _).mono ?_; rintro e6 w6' ⟨rfl, k6⟩; have h6 := heldM (by with_reducible assumption) k6))
              | (go_at_call 85; refine (HP1.out _ _ (KRow.keep (KRow.keep (show RnRow w8.drew B _ _ from X8.out) k6) k7) (And.right (And.right h7))).mono ?_; rintro e9 w9 ⟨V9, rfl, x9, q9⟩; have Q9 := rwQ_trans (rwQ_trans (rwQ_of _ (show Below w8.heap.size w8 w8.drew from (Below.refl _ _).drew)) (rwQ_trans (rwQ_of _ k6) (rwQ_of _ k7))) q9; have r9 := rwQ_row Q9 R8.out V8'.out; have h9 : (w9.cell? ⟨b3, 0, none⟩ = some (.int .i64 N) ∧ w9.cell? ⟨b3, 1, none⟩ = some (.int .i64 D) ∧ w9.cell? ⟨b3, 2, none⟩ = some (.bool z)) ∧ b3 < w9.heap.size ∧ B ≤ w9.heap.size := ⟨row3 r9.1, r9.1.lt, Nat.le_trans HW8.out.2.2 Q9.1.size⟩)
              | fail)
          all_goals
            rename_i hS10
            have R59 := rwQ_row Q9 R5a.out V5a.out
            have QF := Lib.hid (rwQ_trans HQ1.out (rwQ_trans QQ8.out Q9))
            have hBF := h9.2.2
            have R3F := Lib.hid r9.1; have V3F := Lib.hid r9.2
            have R5F := Lib.hid R59.1; have V5F := Lib.hid R59.2
            have XF := Lib.hid x9
            obtain ⟨A9, n9, c9, rfl, hn9⟩ := x9.form
            clear hn9 x9 q9 Q9 r9 R59 h6 h7 h9 k6 k7 hS10
            go_wp2
            go_roundw
            case rel => exact ⟨k + 1, by omega, val_int (by omega), Lib.hid (by rw [← HF2.out]; exact XF.out), R3F, V3F, R5F, V5F, QF, hBF⟩
            case measure => simp [intOf]; omega
      · obtain rfl : k = s.size := by omega
        obtain ⟨A1, n1, c1, rfl, hn1⟩ := HX.out.form
        clear hn1
        obtain ⟨i0, i1, i2, i3, i4⟩ := row5 HR5'.out
        have HBR := tx_plain x u d.data.toList hu
        have hsl := HSL.out
        rw [hsl] at HX
        clear hsl
        replace HBR := Lib.hid HBR
        rw [← HL.out] at HBR
        have HE : Hid (puF R (bpL N D (txL x u d.data.toList) (txL x u d.data.toList).length) = puF R (bpL N D L L.length)) := Lib.hid (by rw [HBR.out])
        clear HBR
        go_wp2
        go_returns
        exact ⟨_, rfl, by rw [HE.out]; exact HX.out, HQ1.out⟩

end Go.Proofs.Ytmbeaagpjpphhaa

namespace Go.Proofs.Ytmbeaagpjpphhaa
open Go Go.RowKit Go.Joins
open Sw (Rn RnRow RnArg rnC lg nil_or_snoc pt pt_nil pt_snoc lg_append)
set_option linter.unusedVariables false
set_option linter.unusedSimpArgs false

theorem mf_zero {l : List It} (h : mfE l = 0) : ∀ j (hj : j < l.length), mgT l[j] = 0 := by
  induction l with
  | nil => intro j hj; simp at hj
  | cons e l ih =>
    have h0 : mgT e = 0 := by
      unfold mfE at h; split at h
      · assumption
      · assumption
    have h1 : mfE l = 0 := by unfold mfE at h; rw [if_pos h0] at h; exact h
    intro j hj
    cases j with
    | zero => exact h0
    | succ j => exact ih h1 j (by simpa using hj)
theorem ml_zero {l : List It} (h : mlE l = 0) : l.length ≤ 1024 ∧ ∀ j (hj : j < l.length), mgT l[j] = 0 := by
  unfold mlE at h
  split at h
  · omega
  · exact ⟨by omega, mf_zero h⟩
theorem ip_len (N D : Int) (e : It) (hd : e.d.size ≤ 4096) : (ipL N D e).length ≤ 8300 := by
  have b := tx_len e.x e.u e.d.data.toList
  have c : e.d.data.toList.length = e.d.size := Array.length_toList
  unfold ipL
  rw [List.length_cons, List.length_append, bp_len]
  simp only [List.length_cons, List.length_nil]
  omega
theorem ep_len {N D : Int} {l : List It} (hl : okI l) (j : Nat) (hj : j ≤ l.length) : (epL N D l j).length ≤ 1 + 8300 * j := by
  induction j with
  | zero => simp [epL]
  | succ j ih =>
    have e : l.getD j default = l[j] := by simp [List.getD, List.getElem?_eq_getElem (show j < l.length by omega)]
    rw [epL, List.length_append, e]
    have := ip_len N D l[j] (hl.2 j (by omega)).2.2
    have := ih (by omega)
    omega
theorem rwQ_below' {w0 w w1 : World} {V V1 : Value} {R : List Rn} (hb : Below w0.heap.size w0 w) (hS : RnRow w w0.heap.size V R) (h : RwQ w w1 V V1) : Below w0.heap.size w0 w1 :=
  hb.trans (h.1.below (fun k hk => (hS.lt k (ows_mem.1 hk)).1) hb.size)
theorem one_enc (w : World) (N D : Int) (z : Bool) : ∃ W b2, W = w.alloc (.cells (manA N D z) 59) ∧ b2 = w.heap.size ∧ b2 < W.heap.size ∧ RowAt W b2 59 (manA N D z) ∧ Below w.heap.size w W :=
  ⟨_, _, rfl, rfl, by rw [World.size_alloc]; omega, RowAt.new w _ _, ba _ _⟩
theorem heldS {w W : World} {b3 g O X0 : Nat} {N D x0 x1 x2 x4 : Int} {x3 : ByteArray} {z : Bool} (h : (W.cell? ⟨b3, 0, none⟩ = some (.int .i64 N) ∧ W.cell? ⟨b3, 1, none⟩ = some (.int .i64 D) ∧ W.cell? ⟨b3, 2, none⟩ = some (.bool z)) ∧ (W.cell? ⟨g, O, none⟩ = some (.int .i64 x0) ∧ W.cell? ⟨g, O + 1, none⟩ = some (.int .i64 x1) ∧ W.cell? ⟨g, O + 2, none⟩ = some (.int .i64 x2) ∧ W.cell? ⟨g, O + 3, none⟩ = some (.string x3) ∧ W.cell? ⟨g, O + 4, none⟩ = some (.int .i64 x4)) ∧ b3 < W.heap.size ∧ g < W.heap.size ∧ X0 ≤ W.heap.size) (hb : Below W.heap.size W w) : (w.cell? ⟨b3, 0, none⟩ = some (.int .i64 N) ∧ w.cell? ⟨b3, 1, none⟩ = some (.int .i64 D) ∧ w.cell? ⟨b3, 2, none⟩ = some (.bool z)) ∧ (w.cell? ⟨g, O, none⟩ = some (.int .i64 x0) ∧ w.cell? ⟨g, O + 1, none⟩ = some (.int .i64 x1) ∧ w.cell? ⟨g, O + 2, none⟩ = some (.int .i64 x2) ∧ w.cell? ⟨g, O + 3, none⟩ = some (.string x3) ∧ w.cell? ⟨g, O + 4, none⟩ = some (.int .i64 x4)) ∧ b3 < w.heap.size ∧ g < w.heap.size ∧ X0 ≤ w.heap.size := by
  obtain ⟨⟨a0, a1, a2⟩, ⟨e0, e1, e2, e3, e4⟩, l0, l1, X⟩ := h
  have hs := hb.size
  exact ⟨⟨(hb.cell l0).trans a0, (hb.cell l0).trans a1, (hb.cell l0).trans a2⟩, ⟨(hb.cell l1).trans e0, (hb.cell l1).trans e1, (hb.cell l1).trans e2, (hb.cell l1).trans e3, (hb.cell l1).trans e4⟩, by omega, by omega, by omega⟩

/-- Without valid configuration or items: the error. -/
theorem renc_bad (N D : Int) (z : Bool) (l : List It) (V : Value) (w : World) (hN0 : -9223372036854775808 ≤ N) (hN1 : N ≤ 9223372036854775807) (hD0 : -9223372036854775808 ≤ D) (hD1 : D ≤ 9223372036854775807) (hT : ItArg w V l) (hl : l.length ≤ 140737488351232) (hd : ∀ j (h : j < l.length), l[j].d.size ≤ 140737488351232) (hk : ckE N D ≠ 0) :
    Calls Try.prog 47 #[.agg (manA N D z), V] w fun e w' => e = .returned (.tuple #[.slice none 0 0, .int .i64 (ckE N D)]) ∧ Below w.heap.size w w' := by
  have CK := Lib.hid (fun W => refManCheck_any N D z W hN0 hN1 hD0 hD1)
  have hk' : (ckE N D != 0) = true := by simpa using hk
  generalize ckE N D = KE at *
  obtain ⟨W, b2, eW, e2, l2, r2, B0⟩ := one_enc w N D z
  have HB0 := Lib.hid B0
  obtain ⟨z0, z1, z2⟩ := row3 r2
  obtain ⟨A, c, rfl, hA⟩ := hT
  clear hA r2 B0
  go_enter Try.func47, Try.ntmps47
  go_wp2_with (first
    | (rw [← eW, ← e2]; clear eW e2; go_at_call 35; go_must (refine (CK.out _).mono ?_; rintro e1 w1 ⟨rfl, b1⟩; have B1 := Lib.hid (HB0.out.trans (b1.mono HB0.out.size)))))
  go_returns
  exact ⟨rfl, B1.out⟩

set_option maxRecDepth 20000 in
set_option maxHeartbeats 8000000 in
theorem renc_items (N D : Int) (z : Bool) (l : List It) (V : Value) (w : World) (hN0 : -9223372036854775808 ≤ N) (hN1 : N ≤ 9223372036854775807) (hD0 : -9223372036854775808 ≤ D) (hD1 : D ≤ 9223372036854775807) (hT : ItArg w V l) (hl : l.length ≤ 140737488351232) (hd : ∀ j (h : j < l.length), l[j].d.size ≤ 140737488351232) (hk : ckE N D = 0) (hm : mlE l ≠ 0) :
    Calls Try.prog 47 #[.agg (manA N D z), V] w fun e w' => e = .returned (.tuple #[.slice none 0 0, .int .i64 (mlE l)]) ∧ Below w.heap.size w w' := by
  have CK := Lib.hid (fun W => refManCheck_any N D z W hN0 hN1 hD0 hD1)
  rw [hk] at CK
  have HE : Hid (mlE l = if 1024 < l.length then 6 else mfE l) := Lib.hid rfl
  have HNE := Lib.hid hm
  generalize mlE l = E at *
  obtain ⟨W, b2, eW, e2, l2, r2, B0⟩ := one_enc w N D z
  have HB0 := Lib.hid B0
  obtain ⟨z0, z1, z2⟩ := row3 r2
  obtain ⟨A, c, rfl, hA⟩ := hT
  have HA := Lib.hid hA; have HD := Lib.hid hd
  have hl' : (l.length : Int) ≤ 140737488351232 := by omega
  clear hA hd r2 B0 hm hk
  by_cases hb : 1024 < l.length
  · have hb' : (1024 : Int) < l.length := by omega
    obtain rfl : E = 6 := by rw [HE.out, if_pos hb]
    clear HE HNE
    go_enter Try.func47, Try.ntmps47
    go_wp2_with (first
      | (rw [← eW, ← e2]; clear eW e2; go_at_call 35; go_must (refine (CK.out _).mono ?_; rintro e1 w1 ⟨rfl, b1⟩; have B1 := Lib.hid (HB0.out.trans (b1.mono HB0.out.size)))))
    go_returns
    exact ⟨rfl, B1.out⟩
  have hb' : ¬ (1024 : Int) < l.length := by omega
  replace HE : Hid (E = mfE l) := Lib.hid (by rw [HE.out, if_neg hb])
  go_enter Try.func47, Try.ntmps47
  go_wp2_with (first
    | (rw [← eW, ← e2]; clear eW e2; go_at_call 35; go_must (refine (CK.out _).mono ?_; rintro e1 w1 ⟨rfl, b1⟩; have B1 := Lib.hid (HB0.out.trans (b1.mono HB0.out.size)))))
  go_loopw [7] (fun i wr => ∃ (j : Nat), j ≤ l.length ∧ i = .int .i64 j ∧ Hid (mfE l = mfE (l.drop j)) ∧ Hid (Below w.heap.size w wr)) (fun i _ => l.length - (intOf i).toNat)
  case atStart => exact ⟨0, Nat.zero_le _, rfl, Lib.hid rfl, B1⟩
  case round =>
    obtain ⟨j, hj, rfl, HC, HB⟩ := hrel
    have hb := HB.out
    by_cases hjl : j < l.length
    · obtain ⟨g, o, rfl, hg, hc⟩ := HA.out (by omega)
      obtain ⟨a0, a1, a2, a3, a4⟩ := arg_five hc j hjl
      have f0 := (hb.cell (p := ⟨g, o + j * 5, none⟩) hg).trans a0
      have f1 := (hb.cell (p := ⟨g, o + j * 5 + 1, none⟩) hg).trans a1
      have f2 := (hb.cell (p := ⟨g, o + j * 5 + 2, none⟩) hg).trans a2
      have f3 := (hb.cell (p := ⟨g, o + j * 5 + 3, none⟩) hg).trans a3
      have f4 := (hb.cell (p := ⟨g, o + j * 5 + 4, none⟩) hg).trans a4
      have HF := Lib.hid (mfE_at hjl HC.out)
      have CI : Hid (∀ W, Calls Try.prog 84 #[.agg (itA l[j].g l[j].v l[j].x l[j].d l[j].u)] W fun e w' => e = .returned (.int .i64 (mgT l[j])) ∧ Below W.heap.size W w') := Lib.hid fun W => right_xy l[j].g l[j].v l[j].x l[j].d l[j].u W (HD.out j hjl)
      clear a0 a1 a2 a3 a4 hc
      generalize mgT l[j] = C at *
      generalize l[j].g = x0 at *
      generalize l[j].v = x1 at *
      generalize l[j].x = x2 at *
      generalize l[j].d = x3 at *
      generalize l[j].u = x4 at *
      by_cases hC : C = 0
      · subst hC
        replace HF : Hid (mfE l = mfE (l.drop (j + 1))) := Lib.hid (by rw [HF.out, if_pos rfl])
        go_wp2_with (go_at_call 84; go_must (refine (CI.out _).mono ?_; rintro e1 w1 ⟨rfl, b1⟩; have B1 := Lib.hid (hb.trans (b1.mono hb.size))))
        go_roundw
        case rel => exact ⟨j + 1, by omega, val_int (by omega), HF, B1⟩
        case measure => simp [intOf]; omega
      · have hC' : (C != 0) = true := by simpa using hC
        obtain rfl : E = C := by rw [HE.out, HF.out, if_neg hC]
        clear HE HF hC HNE
        go_wp2_with (go_at_call 84; go_must (refine (CI.out _).mono ?_; rintro e1 w1 ⟨rfl, b1⟩; have B1 := Lib.hid (hb.trans (b1.mono hb.size))))
        go_returns
        exact ⟨rfl, B1.out⟩
    · have hdz : l.drop j = [] := List.drop_of_length_le (by omega)
      exact absurd (by rw [HE.out, HC.out, hdz]; rfl) HNE.out

end Go.Proofs.Ytmbeaagpjpphhaa

namespace Go.Proofs.Ytmbeaagpjpphhaa
open Go Go.RowKit Go.Joins
open Sw (Rn RnRow RnArg rnC lg nil_or_snoc pt pt_nil pt_snoc lg_append)
set_option linter.unusedVariables false
set_option linter.unusedSimpArgs false

set_option maxRecDepth 20000 in
set_option maxHeartbeats 8000000 in
theorem renc_good (N D : Int) (z : Bool) (l : List It) (V : Value) (w : World) (hN0 : -9223372036854775808 ≤ N) (hN1 : N ≤ 9223372036854775807) (hD0 : -9223372036854775808 ≤ D) (hD1 : D ≤ 9223372036854775807) (hT : ItArg w V l) (hk : ckE N D = 0) (hm : mlE l = 0) :
    Calls Try.prog 47 #[.agg (manA N D z), V] w fun e w' => ∃ V', e = .returned (.tuple #[V', .int .i64 (efE N D l)]) ∧ RnRow w' w.heap.size V' (efR N D z l) ∧ Below w.heap.size w w' := by
  have h := ck_bt hk
  have CK := Lib.hid (fun W => refManCheck_any N D z W hN0 hN1 hD0 hD1)
  rw [hk] at CK
  have hok := ml_ok hm
  have hoi := okI_of hm
  have HOK := Lib.hid hok.2
  have HZ := Lib.hid (ml_zero hm).2
  have HEP := Lib.hid (fun j hj => ep_ok h hoi j hj)
  have HEL := Lib.hid (fun j hj => @ep_len N D l hoi j hj)
  have HVL := Lib.hid (fun he => ef_vl h hoi he)
  have hR0 : bdR ([] : List Rn) 0 := fun x hx => by cases hx
  have CT : Hid (∀ W, Calls Try.prog 86 #[.agg (manA N D z), .int .i64 4] W fun e w' => e = .returned (.int .i64 (bdI N D 2)) ∧ Below W.heap.size W w') := Lib.hid fun W => by
    have := times_any N D 4 z W h (by decide) (by decide)
    rw [show sc 4 N (2 * D) = bdI N D 2 from sc_two 2 N D h.d1] at this
    exact this
  have HP := Lib.hid (fun V P v t W hS hB hP hl t0 hT => @put_next w.heap.size V [] P 0 v t W hS hB hl hR0 (Int.le_refl _) hP t0 hT)
  have d1 := (bd_next h 0)
  have d2 := (bd_next h (0 + 1))
  rw [bd_zero] at d1
  rw [show (0 : Int) + 1 + 1 = 2 by omega] at d2
  have hb2 : 8 ≤ bdI N D 2 ∧ bdI N D 2 ≤ 2097154 := by omega
  have HL0 : Hid (puF [] (epL N D l 0) = puF [] ([] ++ [(0, bdI N D 2)])) := Lib.hid rfl
  have HLs : Hid (∀ j (hj : j < l.length), epL N D l (j + 1) = (((epL N D l j ++ [(0, l[j].g)]) ++ bpL N D (txL l[j].x l[j].u l[j].d.data.toList) (txL l[j].x l[j].u l[j].d.data.toList).length)) ++ [(0, bdI N D 2)]) := Lib.hid fun j hjl => by
    rw [epL, show l.getD j default = l[j] by simp [List.getD, List.getElem?_eq_getElem hjl], ipL]
    simp only [List.append_assoc, List.cons_append, List.nil_append]
  have HEQ : Hid (efL N D l = puF [] (epL N D l l.length)) := Lib.hid rfl
  have HLG : Hid (lg (efL N D l) = lg (epL N D l l.length)) := Lib.hid (by unfold efL; rw [puF_lg (ep_ok h hoi l.length (Nat.le_refl _)).1]; simp only [lg]; omega)
  have HNN : Hid (nn (efL N D l)) := Lib.hid (fun x hx => (puF_bd (ep_ok h hoi l.length (Nat.le_refl _)).1 hR0 (Int.le_refl _) x hx).1)
  have HTOP : Hid (lg (efL N D l) ≤ 4611686018427387904) := Lib.hid (by rw [HLG.out]; have := (ep_ok h hoi l.length (Nat.le_refl _)).2; have := hok.1; omega)
  have HLN : Hid ((efL N D l).length ≤ 4398046511000) := Lib.hid (by have := (puF_len [] (epL N D l l.length)).1; have := @ep_len N D l hoi l.length (Nat.le_refl _); have := hok.1; simp only [List.length_nil] at *; unfold efL; omega)
  have HE : Hid (efE N D l = if 262144 < (efL N D l).length then 6 else if 1099511627776 < lg (efL N D l) then 2 else 0) := Lib.hid (by rw [HLG.out]; rfl)
  have HER : Hid (efR N D z l = if efE N D l = 0 then (if z = true then efL N D l else Sw.iv (efL N D l)) else []) := Lib.hid rfl
  obtain ⟨EE, eEE⟩ : ∃ x, x = efE N D l := ⟨_, rfl⟩
  obtain ⟨ER, eER⟩ : ∃ x, x = efR N D z l := ⟨_, rfl⟩
  rw [← eEE] at HE HER
  rw [← eER] at HER
  rw [← eEE, ← eER]
  have HVL' : Hid (EE = 0 → Sw.vl (efL N D l) = true) := Lib.hid fun he => HVL.out (eEE.symm.trans he)
  clear eEE eER HVL
  obtain ⟨W, b2, eW, e2, l2, r2, B0⟩ := one_enc w N D z
  have HB0 := Lib.hid B0; have H2 := Lib.hid r2
  obtain ⟨z0, z1, z2⟩ := row3 r2
  obtain ⟨A, c, rfl, hA⟩ := hT
  have HA := Lib.hid hA
  have hl' : (l.length : Int) ≤ 1024 := by have := hok.1; omega
  have hl'' : l.length ≤ 1024 := hok.1
  have hwb : w.heap.size ≤ b2 := by omega
  clear hA r2 B0 hk hok d1 d2 hm
  go_enter Try.func47, Try.ntmps47
  go_wp2_with (first
    | (rw [← eW, ← e2]; clear eW e2; go_at_call 35; go_must (refine (CK.out _).mono ?_; rintro e1 w1 ⟨rfl, b1⟩; have B1 := Lib.hid (HB0.out.trans (b1.mono HB0.out.size)); have R1 := Lib.hid (H2.out.keep b1)))
    | fail)
  clear z0 z1 z2 H2 HB0
  go_loopw [7] (fun i wr => ∃ (j : Nat), j ≤ l.length ∧ i = .int .i64 j ∧ Hid (RowAt wr b2 59 (manA N D z)) ∧ Hid (Below w.heap.size w wr)) (fun i _ => l.length - (intOf i).toNat)
  case atStart => exact ⟨0, Nat.zero_le _, rfl, R1, B1⟩
  case round =>
    obtain ⟨j, hj, rfl, HR, HB⟩ := hrel
    have hb := HB.out
    by_cases hjl : j < l.length
    · obtain ⟨g, o, rfl, hg, hc⟩ := HA.out (by omega)
      obtain ⟨a0, a1, a2, a3, a4⟩ := arg_five hc j hjl
      have f0 := (hb.cell (p := ⟨g, o + j * 5, none⟩) hg).trans a0
      have f1 := (hb.cell (p := ⟨g, o + j * 5 + 1, none⟩) hg).trans a1
      have f2 := (hb.cell (p := ⟨g, o + j * 5 + 2, none⟩) hg).trans a2
      have f3 := (hb.cell (p := ⟨g, o + j * 5 + 3, none⟩) hg).trans a3
      have f4 := (hb.cell (p := ⟨g, o + j * 5 + 4, none⟩) hg).trans a4
      have CI : Hid (∀ W, Calls Try.prog 84 #[.agg (itA l[j].g l[j].v l[j].x l[j].d l[j].u)] W fun e w' => e = .returned (.int .i64 0) ∧ Below W.heap.size W w') := Lib.hid fun W => by
        have := right_xy l[j].g l[j].v l[j].x l[j].d l[j].u W (by have := (HOK.out j hjl).d; omega)
        rw [show mgE l[j].g l[j].v l[j].x l[j].d.size (Sb.okB l[j].d.data.toList) l[j].u = 0 from HZ.out j hjl] at this
        exact this
      clear a0 a1 a2 a3 a4 hc
      generalize l[j].g = x0 at *
      generalize l[j].v = x1 at *
      generalize l[j].x = x2 at *
      generalize l[j].d = x3 at *
      generalize l[j].u = x4 at *
      go_wp2_with (go_at_call 84; go_must (refine (CI.out _).mono ?_; rintro e1 w1 ⟨rfl, b1⟩; have B1 := Lib.hid (hb.trans (b1.mono hb.size)); have R1 := Lib.hid (HR.out.keep b1)))
      go_roundw
      case rel => exact ⟨j + 1, by omega, val_int (by omega), R1, B1⟩
      case measure => simp [intOf]; omega
    · obtain rfl : j = l.length := by omega
      obtain ⟨z0, z1, z2⟩ := row3 HR.out
      have hl2 := HR.out.lt
      have LR := Lib.hid (KRow.lit (T := 50) Sw.rnC_size wr w.heap.size hb.size [] #[] rfl 0 rfl (by decide))
      have HR1 := Lib.hid (HR.out.alloc (.cells #[] 50))
      have HB1 := Lib.hid (hb.alloc hb.size (.cells #[] 50))
      have hne : wr.heap.size ≠ b2 := by omega
      go_wp2_with (first
        | (go_at_call 86; go_must (refine (CT.out _).mono ?_; rintro e1 w1 ⟨rfl, b1⟩; have RL := Lib.hid (KRow.keep LR.out b1); have HR2 := Lib.hid (HR1.out.keep b1); have HB2 := Lib.hid (HB1.out.trans (b1.mono HB1.out.size))))
        | (go_at_call 85; go_must (refine (HP.out _ [] 0 (bdI N D 2) _ (show RnRow w1 w.heap.size _ [] from RL.out) HB2.out.size (fun r hr => by cases hr) (by simp) (by omega) (by simp only [lg]; omega)).mono ?_; rintro e2 w2 ⟨V2, rfl, x2, q2⟩))
        | fail)
      have hrb := rwQ_row q2 HR2.out (by simp only [Value.ownBlock, ne_eq, Option.some.injEq]; exact hne)
      have X2 : Hid (RnRow w2 w.heap.size V2 (puF [] (epL N D l 0))) := Lib.hid x2
      have R2 := Lib.hid hrb.1; have O2 := Lib.hid hrb.2
      have B2 := Lib.hid (rwQ_below' HB2.out RL.out q2)
      clear hrb x2 q2 z0 z1 z2 hl2 hb HR HB LR HR1 HB1 hne RL HR2 HB2 b1
      go_loopw [10, 9] (fun i V1 wr => ∃ (j : Nat), j ≤ l.length ∧ i = .int .i64 j ∧ Hid (RnRow wr w.heap.size V1 (puF [] (epL N D l j))) ∧ Hid (RowAt wr b2 59 (manA N D z)) ∧ Hid (V1.ownBlock ≠ some b2) ∧ Hid (Below w.heap.size w wr)) (fun i _ _ => l.length - (intOf i).toNat)
      case atStart => exact ⟨0, Nat.zero_le _, rfl, X2, R2, O2, B2⟩
      case round =>
        obtain ⟨j, hj, rfl, HX, HR, HO, HB⟩ := hrel
        have hb := HB.out
        by_cases hjl : j < l.length
        · obtain ⟨g, o, rfl, hg, hc⟩ := HA.out (by omega)
          obtain ⟨a0, a1, a2, a3, a4⟩ := arg_five hc j hjl
          have f0 := (hb.cell (p := ⟨g, o + j * 5, none⟩) hg).trans a0
          have hok := HOK.out j hjl
          have hep := HEP.out j (by omega)
          have hel := HEL.out j (by omega)
          have hbp := bp_ok h (txL l[j].x l[j].u l[j].d.data.toList) (txL l[j].x l[j].u l[j].d.data.toList).length
          have hbl := bp_len N D (txL l[j].x l[j].u l[j].d.data.toList) (txL l[j].x l[j].u l[j].d.data.toList).length
          have htl := tx_len l[j].x l[j].u l[j].d.data.toList
          have hdl : l[j].d.data.toList.length = l[j].d.size := Array.length_toList
          have HLJ := Lib.hid (HLs.out j hjl)
          have hg0 := hok.g0; have hg1 := hok.g1; have hds := hok.d
          have hnl := nn_lg hep.1
          have HSN := Lib.hid (fun V R T W hS hB hR hx h0 hT => rsend_any w.heap.size V R T N D z l[j].g l[j].v l[j].x l[j].d l[j].u W h hok hS hB hR hx h0 hT)
          have hn1 : nn (epL N D l j ++ [(0, l[j].g)]) := nn_one hep.1 hg0
          have hl1 : lg (epL N D l j ++ [(0, l[j].g)]) = lg (epL N D l j) + l[j].g := by rw [lg_append, Sw.lg_one]
          have hc1 : (epL N D l j ++ [(0, l[j].g)]).length = (epL N D l j).length + 1 := by simp
          have hx1 : bdR (puF [] (epL N D l j ++ [(0, l[j].g)])) (0 + lg (epL N D l j ++ [(0, l[j].g)])) := puF_bd hn1 hR0 (Int.le_refl _)
          have hcp := (puF_len [] (epL N D l j ++ [(0, l[j].g)])).1
          rw [hc1] at hcp
          generalize txL l[j].x l[j].u l[j].d.data.toList = TX at *
          have hg5 := Lib.hid (fun W (hB : Below w.heap.size w W) => And.intro ((hB.cell (p := ⟨g, o + j * 5, none⟩) hg).trans a0) (And.intro ((hB.cell (p := ⟨g, o + j * 5 + 1, none⟩) hg).trans a1) (And.intro ((hB.cell (p := ⟨g, o + j * 5 + 2, none⟩) hg).trans a2) (And.intro ((hB.cell (p := ⟨g, o + j * 5 + 3, none⟩) hg).trans a3) ((hB.cell (p := ⟨g, o + j * 5 + 4, none⟩) hg).trans a4)))))
          clear a0 a1 a2 a3 a4 hc
          generalize l[j].g = x0 at *
          generalize l[j].v = x1 at *
          generalize l[j].x = x2 at *
          generalize l[j].d = x3 at *
          generalize l[j].u = x4 at *
          have hn2 : nn ((epL N D l j ++ [(0, x0)]) ++ bpL N D TX TX.length) := nn_append hn1 hbp.1
          have hl2 : lg ((epL N D l j ++ [(0, x0)]) ++ bpL N D TX TX.length) = lg (epL N D l j) + x0 + lg (bpL N D TX TX.length) := by rw [lg_append, hl1]
          have hc2 : ((epL N D l j ++ [(0, x0)]) ++ bpL N D TX TX.length).length = (epL N D l j).length + 1 + 2 * TX.length := by rw [List.length_append, hc1, hbl]
          have HPg : Hid (∀ V W, RnRow W w.heap.size V (puF [] (epL N D l j)) → w.heap.size ≤ W.heap.size → Calls Try.prog 85 #[V, .int .i64 0, .int .i64 x0] W fun e w' => ∃ V', e = .returned V' ∧ RnRow w' w.heap.size V' (puF [] (epL N D l j ++ [(0, x0)])) ∧ RwQ W w' V V') := Lib.hid fun V W h1 h2 => HP.out V _ _ _ W h1 h2 hep.1 (by simp only [List.length_nil]; omega) hg0 (by have := hep.2; omega)
          have HPe : Hid (∀ V W, RnRow W w.heap.size V (puF [] ((epL N D l j ++ [(0, x0)]) ++ bpL N D TX TX.length)) → w.heap.size ≤ W.heap.size → Calls Try.prog 85 #[V, .int .i64 0, .int .i64 (bdI N D 2)] W fun e w' => ∃ V', e = .returned V' ∧ RnRow w' w.heap.size V' (puF [] (epL N D l (j + 1))) ∧ RwQ W w' V V') := Lib.hid fun V W h1 h2 => by rw [HLJ.out]; exact HP.out V _ _ _ W h1 h2 hn2 (by simp only [List.length_nil, hc2]; omega) (by omega) (by rw [hl2]; have := hep.2; have := hbp.2; omega)
          have HPs : Hid (∀ V W, RnRow W w.heap.size V (puF [] (epL N D l j ++ [(0, x0)])) → w.heap.size ≤ W.heap.size → Calls Try.prog 87 #[.agg (manA N D z), V, .agg (itA x0 x1 x2 x3 x4)] W fun r w' => ∃ V', r = .returned V' ∧ RnRow w' w.heap.size V' (puF [] ((epL N D l j ++ [(0, x0)]) ++ bpL N D TX TX.length)) ∧ RwQ W w' V V') := Lib.hid fun V W h1 h2 => by
            have := HSN.out V _ _ W h1 h2 (by simp only [List.length_nil] at hcp; omega) hx1 (by rw [hl1]; omega) (by rw [hl1]; have := hep.2; omega)
            rw [← puF_append] at this
            exact this
          generalize puF [] ((epL N D l j ++ [(0, x0)]) ++ bpL N D TX TX.length) = F2 at *
          generalize puF [] (epL N D l j ++ [(0, x0)]) = F1 at *
          obtain ⟨F3, hF3⟩ : ∃ x, x = puF [] (epL N D l (j + 1)) := ⟨_, rfl⟩
          rw [← hF3] at HPe
          have HF3 := Lib.hid hF3
          generalize puF [] (epL N D l j) = F0 at *
          clear hF3 hok hep hel hbp hbl htl hdl hnl hn1 hl1 hc1 hx1 hcp hn2 hl2 hc2 HSN HLJ hg1 hds hg0
          obtain ⟨A1, n1, c1, rfl, hn1⟩ := HX.out.form
          clear hn1
          have hj0 : (0 : Int) ≤ j := by omega
          have hj1 : (j : Int) < l.length := by omega
          go_wp2_with (first
            | (go_at_call 85; go_must (refine (HPg.out _ _ HX.out hb.size).mono ?_; rintro e3 w3 ⟨V3, rfl, x3', q3⟩; have hr3 := rwQ_row q3 HR.out HO.out; have B3 := Lib.hid (rwQ_below' hb HX.out q3); obtain ⟨A3, n3, c3, rfl, hn3⟩ := x3'.form; clear hn3))
            | fail)
          have X3 := Lib.hid x3'; have R3 := Lib.hid hr3.1; have O3 := Lib.hid hr3.2
          have m3 : g < w3.heap.size := Nat.lt_of_lt_of_le hg B3.out.size
          have HW : Hid ((w3.cell? ⟨b2, 0, none⟩ = some (.int .i64 N) ∧ w3.cell? ⟨b2, 1, none⟩ = some (.int .i64 D) ∧ w3.cell? ⟨b2, 2, none⟩ = some (.bool z)) ∧ (w3.cell? ⟨g, o + j * 5, none⟩ = some (.int .i64 x0) ∧ w3.cell? ⟨g, o + j * 5 + 1, none⟩ = some (.int .i64 x1) ∧ w3.cell? ⟨g, o + j * 5 + 2, none⟩ = some (.int .i64 x2) ∧ w3.cell? ⟨g, o + j * 5 + 3, none⟩ = some (.string x3) ∧ w3.cell? ⟨g, o + j * 5 + 4, none⟩ = some (.int .i64 x4)) ∧ b2 < w3.heap.size ∧ g < w3.heap.size ∧ w.heap.size ≤ w3.heap.size) := Lib.hid ⟨row3 R3.out, hg5.out _ B3.out, R3.out.lt, m3, B3.out.size⟩
          clear hr3 x3' q3 hb f0 HX HR HO HB
          go_region_held3 (fun w' => (w'.cell? ⟨b2, 0, none⟩ = some (.int .i64 N) ∧ w'.cell? ⟨b2, 1, none⟩ = some (.int .i64 D) ∧ w'.cell? ⟨b2, 2, none⟩ = some (.bool z)) ∧ (w'.cell? ⟨g, o + j * 5, none⟩ = some (.int .i64 x0) ∧ w'.cell? ⟨g, o + j * 5 + 1, none⟩ = some (.int .i64 x1) ∧ w'.cell? ⟨g, o + j * 5 + 2, none⟩ = some (.int .i64 x2) ∧ w'.cell? ⟨g, o + j * 5 + 3, none⟩ = some (.string x3) ∧ w'.cell? ⟨g, o + j * 5 + 4, none⟩ = some (.int .i64 x4)) ∧ b2 < w'.heap.size ∧ g < w'.heap.size ∧ w.heap.size ≤ w'.heap.size) (first | with_reducible assumption | with_reducible exact heldS HW.out (Below.refl _ _).drew | fail)
            (first
              | (go_at_call 87; refine (HPs.out _ _ (show RnRow w3.drew w.heap.size _ _ from X3.out) B3.out.size).mono ?_; rintro e4 w4 ⟨V4, rfl, x4', q4⟩; have Q4 := rwQ_trans (rwQ_of _ (show Below w3.heap.size w3 w3.drew from (Below.refl _ _).drew)) q4; have hr4 := rwQ_row Q4 R3.out O3.out; have B4 := rwQ_below' B3.out X3.out Q4; have h4 : (w4.cell? ⟨b2, 0, none⟩ = some (.int .i64 N) ∧ w4.cell? ⟨b2, 1, none⟩ = some (.int .i64 D) ∧ w4.cell? ⟨b2, 2, none⟩ = some (.bool z)) ∧ (w4.cell? ⟨g, o + j * 5, none⟩ = some (.int .i64 x0) ∧ w4.cell? ⟨g, o + j * 5 + 1, none⟩ = some (.int .i64 x1) ∧ w4.cell? ⟨g, o + j * 5 + 2, none⟩ = some (.int .i64 x2) ∧ w4.cell? ⟨g, o + j * 5 + 3, none⟩ = some (.string x3) ∧ w4.cell? ⟨g, o + j * 5 + 4, none⟩ = some (.int .i64 x4)) ∧ b2 < w4.heap.size ∧ g < w4.heap.size ∧ w.heap.size ≤ w4.heap.size := ⟨row3 hr4.1, hg5.out _ B4, hr4.1.lt, Nat.lt_of_lt_of_le hg B4.size, B4.size⟩)
              | fail)
          all_goals
            rename_i hS9
            obtain ⟨A4, n4, c4, rfl, hn4⟩ := x4'.form
            have X4 := Lib.hid x4'; have R4 := Lib.hid hr4.1; have O4 := Lib.hid hr4.2; have BB4 := Lib.hid B4
            obtain ⟨z0, z1, z2⟩ := row3 hr4.1
            clear hn4 x4' q4 Q4 hr4 B4 h4 hS9
            go_wp2_with (first
              | (go_at_call 86; go_must (refine (CT.out _).mono ?_; rintro e5 w5 ⟨rfl, b5⟩; have R5 := Lib.hid (R4.out.keep b5); have X5 := Lib.hid (KRow.keep X4.out b5); have B5 := Lib.hid (BB4.out.trans (b5.mono BB4.out.size))))
              | (go_at_call 85; go_must (refine (HPe.out _ _ X5.out B5.out.size).mono ?_; rintro e6 w6 ⟨V6, rfl, x6, q6⟩; have hr6 := rwQ_row q6 R5.out O4.out; have B6 := Lib.hid (rwQ_below' B5.out X5.out q6); obtain ⟨A6, n6, c6, rfl, hn6⟩ := x6.form; clear hn6))
              | fail)
            have X6 : Hid (RnRow w6 w.heap.size (.slice A6 n6 c6) (puF [] (epL N D l (j + 1)))) := Lib.hid (by rw [← HF3.out]; exact x6)
            have R6 := Lib.hid hr6.1; have O6 := Lib.hid hr6.2
            clear hr6 x6 q6 b5
            go_roundw
            case rel => exact ⟨j + 1, by omega, val_int (by omega), X6, R6, O6, B6⟩
            case measure => simp [intOf]; omega
        · obtain rfl : j = l.length := by omega
          rw [← HEQ.out] at HX
          clear HEQ HLG HEP HEL HP HLs HL0 HOK HZ CT
          generalize efL N D l = EL at *
          have hel := HLN.out
          have hel' : (EL.length : Int) ≤ 4398046511000 := by omega
          have harg := HX.out.arg Sw.rnC_size
          obtain ⟨A1, c1, rfl, hA1⟩ := harg
          have HA1 := Lib.hid hA1
          clear hA1
          by_cases hE1 : 262144 < EL.length
          · have hE1' : (262144 : Int) < EL.length := by omega
            obtain rfl : EE = 6 := by rw [HE.out, if_pos hE1]
            obtain rfl : ER = [] := by rw [HER.out]; rfl
            clear HE HER HVL'
            go_wp2
            go_returns
            exact ⟨_, rfl, KRow.nil _ _, hb⟩
          have hE1' : ¬ (262144 : Int) < EL.length := by omega
          have HE' : Hid (EE = if 1099511627776 < lg EL then 2 else 0) := Lib.hid (by rw [HE.out, if_neg hE1])
          clear HE
          have HT := Lib.hid (fun j => lg_take_le HNN.out j)
          have HT0 := Lib.hid (fun j => nn_lg (nn_take HNN.out j))
          have hw9 := Lib.hid hb
          obtain ⟨w9, hw9e⟩ : ∃ x, x = wr := ⟨_, rfl⟩
          subst hw9e
          go_wp2
          go_loopw [12, 11] (fun i s wr => ∃ (j : Nat), j ≤ EL.length ∧ i = .int .i64 j ∧ s = .int .i64 (lg (EL.take j)) ∧ Hid (Below w9.heap.size w9 wr)) (fun i _ _ => EL.length - (intOf i).toNat)
          case atStart => exact ⟨0, Nat.zero_le _, rfl, rfl, Lib.hid (Below.refl _ _)⟩
          case round =>
            obtain ⟨j, hj, rfl, rfl, HBq⟩ := hrel
            have hbq := HBq.out
            by_cases hjl : j < EL.length
            · obtain ⟨g, o, rfl, hg, hc⟩ := HA1.out (by omega)
              obtain ⟨a0, a1⟩ := Sw.arg_two hc j hjl
              have f1 := (hbq.cell (p := ⟨g, o + j * 2 + 1, none⟩) hg).trans a1
              have hP := Sw.lg_take EL j hjl
              have t0 := HT0.out j
              have t1 := HT.out (j + 1)
              have t2 := HNN.out EL[j] (List.getElem_mem hjl)
              have t3 := HTOP.out
              have HPq := Lib.hid hP
              clear a0 a1 hc
              generalize EL[j].2 = y1 at *
              generalize lg (EL.take j) = Bq at *
              have q1 : IntKind.i64.wrap (Bq + y1) = Bq + y1 := IntWalk.i64_in _ (by omega)
              clear hP t0 t1 t2 t3
              go_wp2
              go_roundw
              case rel => exact ⟨j + 1, by omega, val_int (by omega), by rw [HPq.out], HBq⟩
              case measure => simp [intOf]; omega
            · obtain rfl : j = EL.length := by omega
              rw [List.take_length]
              have hbw := Lib.hid (hw9.out.trans (hbq.mono hw9.out.size))
              have HXw := Lib.hid (HX.out.keep hbq)
              obtain ⟨z0, z1, z2⟩ := row3 (HR.out.keep hbq)
              have hlb : b2 < wr.heap.size := (HR.out.keep hbq).lt
              by_cases hE2 : 1099511627776 < lg EL
              · obtain rfl : EE = 2 := by rw [HE'.out, if_pos hE2]
                obtain rfl : ER = [] := by rw [HER.out]; rfl
                clear HE' HER HVL'
                generalize lg EL = LE at *
                go_wp2
                go_returns
                exact ⟨_, rfl, KRow.nil _ _, hbw.out⟩
              · obtain rfl : EE = 0 := by rw [HE'.out, if_neg hE2]
                have hv := HVL'.out rfl
                have hER : ER = if z = true then EL else Sw.iv EL := by rw [HER.out]; rfl
                have HRI := Lib.hid (fun V W h => Sw.refInvert_any EL V W h)
                have HVI := Lib.hid (Sw.ivV_yes hv)
                have HERx := Lib.hid hER
                clear HE' HER HVL' hv hER
                generalize lg EL = LE at *
                cases z
                · go_wp2_with (first
                    | (go_at_call 52; go_must (refine (HRI.out _ _ (HXw.out.arg Sw.rnC_size)).mono ?_; rintro e9 w10 ⟨v9, rfl, r9, b9⟩; obtain ⟨VA, VN, VC, rfl, hVN⟩ := r9.form; clear hVN))
                    | fail)
                  go_returns
                  exact ⟨_, rfl, by rw [HERx.out]; rw [HVI.out] at r9; exact r9.mono hbw.out.size, hbw.out.trans (b9.mono hbw.out.size)⟩
                · go_wp2
                  go_returns
                  exact ⟨_, rfl, by rw [HERx.out]; exact HXw.out, hbw.out⟩

/-- The specification's Encode. -/
theorem refEncode17_any (N D : Int) (z : Bool) (l : List It) (V : Value) (w : World) (hN0 : -9223372036854775808 ≤ N) (hN1 : N ≤ 9223372036854775807) (hD0 : -9223372036854775808 ≤ D) (hD1 : D ≤ 9223372036854775807) (hT : ItArg w V l) (hl : l.length ≤ 140737488351232) (hd : ∀ j (h : j < l.length), l[j].d.size ≤ 140737488351232) :
    Calls Try.prog 47 #[.agg (manA N D z), V] w fun e w' => ∃ V', e = .returned (.tuple #[V', .int .i64 (menE N D l)]) ∧ RnRow w' w.heap.size V' (menR N D z l) ∧ Below w.heap.size w w' := by
  by_cases hk : ckE N D = 0
  · by_cases hm : mlE l = 0
    · have hE : menE N D l = efE N D l := by unfold menE; rw [if_pos hk, if_pos hm]
      have hR : menR N D z l = efR N D z l := by unfold menR efR; rw [hE]
      rw [hE, hR]
      exact renc_good N D z l V w hN0 hN1 hD0 hD1 hT hk hm
    · have hE : menE N D l = mlE l := by unfold menE; rw [if_pos hk, if_neg hm]
      rw [menR_bad z (by rw [hE]; exact hm), hE]
      exact (renc_items N D z l V w hN0 hN1 hD0 hD1 hT hl hd hk hm).mono fun e w' ⟨h1, h2⟩ => ⟨_, h1, KRow.nil _ _, h2⟩
  · have hE : menE N D l = ckE N D := by unfold menE; rw [if_neg hk]
    rw [menR_bad z (by rw [hE]; exact hk), hE]
    exact (renc_bad N D z l V w hN0 hN1 hD0 hD1 hT hl hd hk).mono fun e w' ⟨h1, h2⟩ => ⟨_, h1, KRow.nil _ _, h2⟩

end Go.Proofs.Ytmbeaagpjpphhaa

namespace Go.Proofs.Ytmbeaagpjpphhaa
open Go Go.RowKit Go.Joins
open Sw (Rn RnRow RnArg rnC lg nil_or_snoc pt pt_nil pt_snoc lg_append)
set_option linter.unusedVariables false
set_option linter.unusedSimpArgs false

set_option maxRecDepth 20000 in
set_option maxHeartbeats 8000000 in
theorem rlevels_any (R : List Rn) (V : Value) (w : World) (hT : RnArg w V R) (hn : nn R) (hg : lg R ≤ 4611686018427387904) (hlen : R.length ≤ 1099511627776) :
    Calls Try.prog 73 #[V] w fun e w' => ∃ V', e = .returned V' ∧ EvRow w' w.heap.size V' (lvL 0 R) ∧ Below w.heap.size w w' := by
  obtain ⟨A, c, rfl, hA⟩ := hT
  have HA := Lib.hid hA
  have HN := Lib.hid hn
  have HT := Lib.hid (fun j => lg_take_le hn j)
  have HT0 := Lib.hid (fun j => nn_lg (nn_take hn j))
  have hl' : (R.length : Int) ≤ 1099511627776 := by omega
  clear hA hn
  go_enter Try.func73, Try.ntmps73
  go_wp2_with (first
    | (at_make; go_must (refine wpList_room_k (n := R.length) (enc := evC) Try.underlying36 ev_info rfl _ _ rfl rfl rfl rfl (by omega) (by omega) (Nat.le_refl _) ?_; intro w1 R1 b1; have HR1 := Lib.hid R1; have HB1 := Lib.hid b1; clear R1 b1)))
  go_loopw [5, 3, 4] (fun i r t wr => ∃ (j : Nat), j ≤ R.length ∧ i = .int .i64 j ∧ t = .int .i64 (lg (R.take j)) ∧ Hid (EvRow wr w.heap.size r (lvL 0 (R.take j))) ∧ Hid (Below w.heap.size w wr)) (fun i _ _ _ => R.length - (intOf i).toNat)
  case atStart => exact ⟨0, Nat.zero_le _, rfl, rfl, HR1, HB1⟩
  case round =>
    obtain ⟨j, hj, rfl, rfl, HR, HB⟩ := hrel
    have hb := HB.out
    by_cases hjl : j < R.length
    · obtain ⟨g, o, rfl, hg', hc⟩ := HA.out (by omega)
      obtain ⟨a0, a1⟩ := Sw.arg_two hc j hjl
      have hP := Sw.lg_take R j hjl
      have t0 := HT0.out j
      have t1 := HT.out (j + 1)
      have t2 := HN.out R[j] (List.getElem_mem hjl)
      have HL : Hid (lvL 0 (R.take (j + 1)) = lvL 0 (R.take j) ++ [⟨1, lg (R.take j), lg (R.take j) + R[j].2, R[j].1, 0, [], 0⟩]) := Lib.hid (by
        rw [List.take_succ_eq_append_getElem hjl, lvL_append, Int.zero_add]; rfl)
      have hll : (lvL 0 (R.take j)).length ≤ j := by rw [lvL_len, List.length_take]; omega
      have HP := Lib.hid hP
      clear hc
      generalize R[j].1 = y0 at *
      generalize R[j].2 = y1 at *
      generalize lg (R.take j) = B at *
      generalize lvL 0 (R.take j) = E at *
      have q1 : IntKind.i64.wrap (B + y1) = B + y1 := IntWalk.i64_in _ (by omega)
      have HS := Lib.hid (fun w' (hb : Below w.heap.size w w') => And.intro ((hb.cell (p := ⟨g, o + j * 2, none⟩) hg').trans a0) (And.intro ((hb.cell (p := ⟨g, o + j * 2 + 1, none⟩) hg').trans a1) hb))
      clear a0 a1
      have hM1 : E.length + 1 ≤ 140737488355328 := by omega
      have hM2 : (E.length + 1) * 64 ≤ 140737488355328 := by omega
      have hi0 : (0 : Int) ≤ (j : Int) := by omega
      have hi1 : (j : Int) < R.length := by omega
      obtain ⟨UA, UN, UC, rfl, hUN⟩ := HR.out.form
      clear hUN
      have HRd := Lib.hid (show EvRow wr.drew w.heap.size (.slice UA UN UC) E from HR.out)
      have hdr := Lib.hid (show Below w.heap.size w wr.drew from hb.drew)
      go_wp2
      go_region_held3 (fun w' => w'.cell? ⟨g, o + j * 2, none⟩ = some (.int .i64 y0) ∧ w'.cell? ⟨g, o + j * 2 + 1, none⟩ = some (.int .i64 y1) ∧ Below w.heap.size w w') (first | exact HS.out _ hdr.out | assumption | exact HS.out _ (hdr.out.alloc hdr.out.size _) | go_keep)
        ((refine step_append_ks (P := Try.prog) Try.underlying36 ev_info rfl (by decide) evC_size (by rfl) (.tmp 15) (.tmp 30) (by rfl) (by rfl) (by rfl) (by rfl) HRd.out hdr.out.size [(⟨1, B, B + y1, y0, 0, [], 0⟩ : Ev)] (by rfl) (by decide) (by rfl) (by rfl) hM1 hM2 ?_; intro v3 w3 r3 b3; have hw3 := HS.out w3 (hdr.out.trans b3)))
      all_goals
        obtain ⟨e0, e1, _⟩ := hw3
        go_wp2
        go_roundw
        case rel => exact ⟨j + 1, by omega, val_int (by omega), by rw [HP.out], Lib.hid (by rw [HL.out]; exact r3), Lib.hid (hdr.out.trans b3)⟩
        case measure => simp [intOf]; omega
    · have he : R.take j = R := List.take_of_length_le (by omega)
      rw [he] at HR
      clear he
      go_wp2
      go_returns
      exact ⟨_, rfl, HR.out, hb⟩

theorem example_any (w : World) : Calls Try.prog 72 #[] w fun e w' => e = .returned (.agg (manA 8 1 true)) ∧ Below w.heap.size w w' := by
  go_enter Try.func72, Try.ntmps72
  go_wp2
  go_returns
  exact ⟨rfl, by (repeat' (first | with_reducible exact Below.refl _ _ | with_reducible exact Nat.le_refl _ | with_reducible assumption | with_reducible refine below_drewN ?_ _ | with_reducible refine Below.drew ?_ | with_reducible refine Below.trans ?_ (Below.mono (by assumption) ?_) | with_reducible refine Below.alloc ?_ ?_ _ | with_reducible refine Below.setCell ?_ ?_ _ | with_reducible refine le_setCell ?_ _ _ | with_reducible refine le_alloc ?_ _ | with_reducible refine le_drewN ?_ _ | with_reducible refine le_drew ?_ | with_reducible refine Nat.le_trans ?_ (Below.size (by assumption)) | (simp only [World.size_alloc, World.size_setCell]; omega) | omega))⟩
theorem bit17_any (f t v u : Int) (w : World) : Calls Try.prog 74 #[.int .i64 f, .int .i64 t, .int .i64 v, .int .i64 u] w fun e w' => e = .returned (.agg (evA 2 f t v 0 ⟨#[]⟩ u)) ∧ Below w.heap.size w w' := by
  go_enter Try.func74, Try.ntmps74
  go_wp2
  go_returns
  exact ⟨rfl, by (repeat' (first | with_reducible exact Below.refl _ _ | with_reducible exact Nat.le_refl _ | with_reducible assumption | with_reducible refine below_drewN ?_ _ | with_reducible refine Below.drew ?_ | with_reducible refine Below.trans ?_ (Below.mono (by assumption) ?_) | with_reducible refine Below.alloc ?_ ?_ _ | with_reducible refine Below.setCell ?_ ?_ _ | with_reducible refine le_setCell ?_ _ _ | with_reducible refine le_alloc ?_ _ | with_reducible refine le_drewN ?_ _ | with_reducible refine le_drew ?_ | with_reducible refine Nat.le_trans ?_ (Below.size (by assumption)) | (simp only [World.size_alloc, World.size_setCell]; omega) | omega))⟩

def xI : List It := [⟨0, 0, 0, ⟨#[49, 48]⟩, 0⟩]
def xJ : List It := [⟨0, 0, 1, ⟨#[49, 48]⟩, 5⟩]
def xR : List Rn := [(0, 20), (1, 4), (0, 4), (1, 8), (0, 20)]
def xO : List Ev := [⟨2, 24, 28, 1, 0, [], 0⟩, ⟨2, 32, 36, 0, 0, [], 0⟩]
def xP : List Ev := [⟨2, 24, 28, 1, 0, [], 0⟩, ⟨2, 32, 40, 0, 0, [], 5⟩]
theorem xI_e : menE 8 1 xI = 0 := by decide +kernel
theorem xI_r : menR 8 1 true xI = xR := by decide +kernel
theorem xJ_e : menE 8 1 xJ = 0 := by decide +kernel
theorem xJ_o : meL 8 1 true xJ = xP := by decide +kernel
theorem xR_o : (mnR true 8 1 (lvL 0 xR)).o = xO := by decide +kernel

end Go.Proofs.Ytmbeaagpjpphhaa

namespace Go.Proofs.Ytmbeaagpjpphhaa
open Go Go.RowKit Go.Joins
open Sw (Rn RnRow RnArg rnC lg nil_or_snoc pt pt_nil pt_snoc lg_append)
set_option linter.unusedVariables false
set_option linter.unusedSimpArgs false

set_option maxRecDepth 20000 in
set_option maxHeartbeats 8000000 in
theorem awake17_any (w : World) : Calls Try.prog 36 #[] w fun e w' => e = .returned (.bool true) ∧ Below w.heap.size w w' := by
  have EX := Lib.hid (fun W => example_any W)
  have BT := Lib.hid (fun f t v u W => bit17_any f t v u W)
  have CE := Lib.hid (fun W V h => encode17_any 8 1 true xI V W (by decide) (by decide) (by decide) (by decide) h (by decide) (by decide))
  have CX := Lib.hid (fun W V h => expect17_any 8 1 true xJ V W (by decide) (by decide) (by decide) (by decide) h (by decide) (by decide))
  rw [xI_e, xI_r] at CE
  rw [xJ_e, xJ_o] at CX
  have CL := Lib.hid (fun V W h => rlevels_any xR V W h (xI_r ▸ (menR_nn 8 1 true xI).1) (by decide) (by decide))
  have CD := Lib.hid (fun V W h => manDecode_any 8 1 true (lvL 0 xR) V W h (ck_bt (by decide +kernel)) (by decide +kernel) (by decide) (by decide))
  rw [xR_o] at CD
  have S8 := Lib.hid (fun V V' W h1 h2 => Sw.same_any xR V V' W h1 h2 (by decide))
  have S7 := Lib.hid (fun l V V' W h1 h2 hl => same_any l V V' W h1 h2 hl)
  have LI := Lib.hid (fun W => (KRow.lit (T := 32) itC_size W W.heap.size (Nat.le_refl _) xI #[.int .i64 0, .int .i64 0, .int .i64 0, .string ⟨#[49, 48]⟩, .int .i64 0] rfl 1 rfl (by decide)).arg itC_size)
  have LJ := Lib.hid (fun W => (KRow.lit (T := 32) itC_size W W.heap.size (Nat.le_refl _) xJ #[.int .i64 0, .int .i64 0, .int .i64 1, .string ⟨#[49, 48]⟩, .int .i64 5] rfl 1 rfl (by decide)).arg itC_size)
  have LW := Lib.hid (fun W => (KRow.lit (T := 50) Sw.rnC_size W W.heap.size (Nat.le_refl _) xR #[.int .i64 0, .int .i64 20, .int .i64 1, .int .i64 4, .int .i64 0, .int .i64 4, .int .i64 1, .int .i64 8, .int .i64 0, .int .i64 20] rfl 5 rfl (by decide)).arg Sw.rnC_size)
  have LO := Lib.hid (fun W => (KRow.lit (T := 44) evC_size W W.heap.size (Nat.le_refl _) xO #[.int .i64 2, .int .i64 24, .int .i64 28, .int .i64 1, .int .i64 0, .string ⟨#[]⟩, .int .i64 0, .int .i64 2, .int .i64 32, .int .i64 36, .int .i64 0, .int .i64 0, .string ⟨#[]⟩, .int .i64 0] rfl 2 rfl (by decide)).arg evC_size)
  have LP := Lib.hid (fun W => (KRow.lit (T := 44) evC_size W W.heap.size (Nat.le_refl _) xP #[.int .i64 2, .int .i64 24, .int .i64 28, .int .i64 1, .int .i64 0, .string ⟨#[]⟩, .int .i64 0, .int .i64 2, .int .i64 32, .int .i64 40, .int .i64 0, .int .i64 0, .string ⟨#[]⟩, .int .i64 5] rfl 2 rfl (by decide)).arg evC_size)
  have BB := Lib.hid (Below.refl w.heap.size w)
  go_enter Try.func36, Try.ntmps36
  go_wp2_with (first
    | (go_at_call 72; refine (EX.out _).mono ?_; rintro e1 w1 ⟨rfl, b1⟩; have ZZ := A4; have A2 := Lib.hid (KArg.keep A2.out b1); have AW := Lib.hid (KArg.keep AW.out b1); have A4 := Lib.hid (KArg.keep A4.out b1); have BB := Lib.hid (BB.out.trans (Below.mono b1 BB.out.size)))
    | (go_at_call 72; refine (EX.out _).mono ?_; rintro e1 w1 ⟨rfl, b1⟩; have AW := Lib.hid (KArg.keep (LW.out w2) b1); have A2 := Lib.hid (KArg.keep (KArg.keep A2.out (ba w2 _)) b1); have BB := Lib.hid ((BB.out.trans ((ba w2 _).mono BB.out.size)).trans (Below.mono b1 (BB.out.trans ((ba w2 _).mono BB.out.size)).size)))
    | (go_at_call 72; refine (EX.out _).mono ?_; rintro e1 w1 ⟨rfl, b1⟩; have BB := Lib.hid (BB.out.trans (Below.mono b1 BB.out.size)))
    | (go_at_call 38; go_must (refine (CE.out _ _ (LI.out w1)).mono ?_; rintro e2 w2 ⟨V2, rfl, r2, b2⟩; obtain ⟨g2, c2, rfl⟩ := r2.full (by decide); have A2 := Lib.hid (r2.arg Sw.rnC_size); have BB := Lib.hid ((BB.out.trans ((ba w1 _).mono BB.out.size)).trans (Below.mono b2 (BB.out.trans ((ba w1 _).mono BB.out.size)).size))))
    | (go_at_call 39; go_must (refine (CX.out _ _ (LJ.out w1)).mono ?_; rintro e4 w4 ⟨V4, rfl, r4, b4⟩; obtain ⟨g4, c4, rfl⟩ := r4.full (by decide); have A4 := Lib.hid (r4.arg evC_size); have A2 := Lib.hid (KArg.keep (KArg.keep A2.out (ba w1 _)) b4); have AW := Lib.hid (KArg.keep (KArg.keep AW.out (ba w1 _)) b4); have BB := Lib.hid ((BB.out.trans ((ba w1 _).mono BB.out.size)).trans (Below.mono b4 (BB.out.trans ((ba w1 _).mono BB.out.size)).size))))
    | (go_at_call 48; go_must (refine (S8.out _ _ _ A2.out AW.out).mono ?_; rintro e5 w5 ⟨rfl, b5⟩; have A2 := Lib.hid (KArg.keep A2.out b5); have AW := Lib.hid (KArg.keep AW.out b5); have A4 := Lib.hid (KArg.keep A4.out b5); have BB := Lib.hid (BB.out.trans (Below.mono b5 BB.out.size))))
    | (go_at_call 73; go_must (refine (CL.out _ _ AW.out).mono ?_; rintro e7 w7 ⟨V7, rfl, r7, b7⟩; obtain ⟨g7, c7, rfl⟩ := r7.full (by decide); have A7 := Lib.hid (r7.arg evC_size); have A4 := Lib.hid (KArg.keep A4.out b7); have BB := Lib.hid (BB.out.trans (Below.mono b7 BB.out.size))))
    | (go_at_call 42; go_must (refine (CD.out _ _ A7.out).mono ?_; rintro e8 w8 ⟨V8, rfl, r8, b8⟩; obtain ⟨g8, c8, rfl⟩ := r8.full (by decide); have A8 := Lib.hid (r8.arg evC_size); have A4 := Lib.hid (KArg.keep A4.out b8); have BB := Lib.hid (BB.out.trans (Below.mono b8 BB.out.size))))
    | (go_at_call 74; refine (BT.out _ _ _ _ _).mono ?_; rintro e9 w9 ⟨rfl, b9⟩; have A8 := Lib.hid (KArg.keep A8.out b9); have A4 := Lib.hid (KArg.keep A4.out b9); have BB := Lib.hid (BB.out.trans (Below.mono b9 BB.out.size)))
    | (go_at_call 45; have ZZ := S1done; refine (S7.out xP _ _ _ (KArg.keep A4.out (ba w9 _)) (LP.out w9) (by decide)).mono ?_; rintro e6 w6 ⟨rfl, b6⟩; have BB := Lib.hid ((BB.out.trans ((ba w9 _).mono BB.out.size)).trans (Below.mono b6 (BB.out.trans ((ba w9 _).mono BB.out.size)).size)))
    | (go_at_call 45; refine (S7.out xO _ _ _ (KArg.keep A8.out (ba w9 _)) (LO.out w9) (by decide)).mono ?_; rintro e6 w6 ⟨rfl, b6⟩; have S1done := b6; have A8 := Lib.hid (KArg.keep (KArg.keep A8.out (ba w9 _)) b6); have A4 := Lib.hid (KArg.keep (KArg.keep A4.out (ba w9 _)) b6); have BB := Lib.hid ((BB.out.trans ((ba w9 _).mono BB.out.size)).trans (Below.mono b6 (BB.out.trans ((ba w9 _).mono BB.out.size)).size))))
  go_returns
  exact ⟨rfl, BB.out⟩

end Go.Proofs.Ytmbeaagpjpphhaa

namespace Go.Proofs.Ytmbeaagpjpphhaa
open Go Go.RowKit Go.Joins
open Sw (Rn RnRow RnArg rnC lg nil_or_snoc pt pt_nil pt_snoc lg_append)
set_option linter.unusedVariables false
set_option linter.unusedSimpArgs false

theorem heldX {W0 W w : World} {b3 : Nat} {N D : Int} {z : Bool} (h : (W.cell? ⟨b3, 0, none⟩ = some (.int .i64 N) ∧ W.cell? ⟨b3, 1, none⟩ = some (.int .i64 D) ∧ W.cell? ⟨b3, 2, none⟩ = some (.bool z)) ∧ b3 < W.heap.size ∧ Below W0.heap.size W0 W) (hb : Below W.heap.size W w) : (w.cell? ⟨b3, 0, none⟩ = some (.int .i64 N) ∧ w.cell? ⟨b3, 1, none⟩ = some (.int .i64 D) ∧ w.cell? ⟨b3, 2, none⟩ = some (.bool z)) ∧ b3 < w.heap.size ∧ Below W0.heap.size W0 w := by
  obtain ⟨⟨a0, a1, a2⟩, l0, B⟩ := h
  have hs := hb.size
  exact ⟨⟨(hb.cell l0).trans a0, (hb.cell l0).trans a1, (hb.cell l0).trans a2⟩, by omega, B.trans (hb.mono B.size)⟩

set_option maxRecDepth 20000 in
set_option maxHeartbeats 8000000 in
theorem refExpect17_any (N D : Int) (z : Bool) (l : List It) (V : Value) (w : World) (hN0 : -9223372036854775808 ≤ N) (hN1 : N ≤ 9223372036854775807) (hD0 : -9223372036854775808 ≤ D) (hD1 : D ≤ 9223372036854775807) (hT : ItArg w V l) (hl : l.length ≤ 140737488351232) (hd : ∀ j (h : j < l.length), l[j].d.size ≤ 140737488351232) :
    Calls Try.prog 49 #[.agg (manA N D z), V] w fun e w' => ∃ V', e = .returned (.tuple #[V', .int .i64 (menE N D l)]) ∧ EvRow w' w.heap.size V' (meL N D z l) ∧ Below w.heap.size w w' := by
  have CE := Lib.hid (fun W (hb : Below w.heap.size w W) => refEncode17_any N D z l V W hN0 hN1 hD0 hD1 (hT.keep hb) hl hd)
  have hrn := menR_nn N D z l
  have CL := Lib.hid (fun V W h => rlevels_any (menR N D z l) V W h hrn.1 (by omega) (by omega))
  have CD : Hid (menE N D l = 0 → ∀ V W, EvArg W V (lvL 0 (menR N D z l)) → Calls Try.prog 46 #[.agg (manA N D z), V] W fun e w' => ∃ v, e = .returned v ∧ EvRow w' W.heap.size v (meL N D z l) ∧ Below W.heap.size W w') := Lib.hid fun he V W h => by
    obtain ⟨hB, hk, _⟩ := menR_ok z he
    have := refManDecode_any N D z (lvL 0 (menR N D z l)) V W h hB hk (by rw [lvL_len]; omega) (lvL_d 0 _)
    rw [← (relN_all z hB.d1 _ (N := N)).o] at this
    unfold meL
    rw [if_pos he]
    exact this
  have HM : Hid (menE N D l ≠ 0 → meL N D z l = []) := Lib.hid fun he => by unfold meL; rw [if_neg he]
  obtain ⟨E, eE⟩ : ∃ x, x = menE N D l := ⟨_, rfl⟩
  obtain ⟨M, eM⟩ : ∃ x, x = meL N D z l := ⟨_, rfl⟩
  rw [← eE] at CE CD HM
  rw [← eM] at CD HM
  rw [← eE, ← eM]
  clear eE eM hrn
  generalize menR N D z l = R at *
  obtain ⟨W, b2, eW, e2, l2, r2, B0⟩ := one_enc w N D z
  have HB0 := Lib.hid B0; have H2 := Lib.hid r2
  obtain ⟨z0, z1, z2⟩ := row3 r2
  obtain ⟨A, c, rfl, hA⟩ := hT
  clear hA r2 B0
  by_cases he : E = 0
  · subst he
    have CD' := Lib.hid (CD.out rfl)
    clear CD HM
    go_enter Try.func49, Try.ntmps49
    go_wp2_with (first
      | (rw [← eW, ← e2]; clear eW e2; go_at_call 47; go_must (refine (CE.out _ HB0.out).mono ?_; rintro e1 w1 ⟨V1, rfl, r1, b1⟩; have B1 := Lib.hid (HB0.out.trans (b1.mono HB0.out.size)); have R1 := Lib.hid (H2.out.keep b1); obtain ⟨VA, VN, VC, rfl, hVN⟩ := r1.form; clear hVN))
      | fail)
    have HW : Hid ((w1.cell? ⟨b2, 0, none⟩ = some (.int .i64 N) ∧ w1.cell? ⟨b2, 1, none⟩ = some (.int .i64 D) ∧ w1.cell? ⟨b2, 2, none⟩ = some (.bool z)) ∧ b2 < w1.heap.size ∧ Below w1.heap.size w1 w1) := Lib.hid ⟨row3 R1.out, R1.out.lt, Below.refl _ _⟩
    have Q1 := Lib.hid r1
    clear r1 b1 z0 z1 z2
    go_region_held3 (fun w' => (w'.cell? ⟨b2, 0, none⟩ = some (.int .i64 N) ∧ w'.cell? ⟨b2, 1, none⟩ = some (.int .i64 D) ∧ w'.cell? ⟨b2, 2, none⟩ = some (.bool z)) ∧ b2 < w'.heap.size ∧ Below w1.heap.size w1 w') (first | with_reducible assumption | with_reducible exact heldX HW.out (Below.refl _ _).drew | fail)
      (first
        | (go_at_call 73; refine (CL.out _ _ ((KRow.keep Q1.out (And.right (And.right (by with_reducible assumption)))).arg Sw.rnC_size)).mono ?_; rintro e6 w6 ⟨V6, rfl, v6, k6⟩; have h6 := heldX (by with_reducible assumption) k6)
        | (go_at_call 46; refine (CD'.out _ _ (KRow.arg evC_size v6)).mono ?_; rintro e7 w7 ⟨V7, rfl, v7, k7⟩; have h7 := heldX h6 k7)
        | fail)
    all_goals
      rename_i hS9
      have BF := Lib.hid (B1.out.trans (h7.2.2.mono B1.out.size))
      have hsz := h6.2.2.size
      obtain ⟨VA7, VN7, VC7, rfl, hVN7⟩ := v7.form
      have Q7 := Lib.hid v7
      clear hVN7 v7 hS9 h7 h6 k7 k6 v6
      go_wp2
      go_returns
      exact ⟨_, rfl, Q7.out.mono (Nat.le_trans B1.out.size hsz), BF.out⟩
  · have he' : (E != 0) = true := by simpa using he
    have hM := HM.out he
    subst hM
    clear CD HM he
    go_enter Try.func49, Try.ntmps49
    go_wp2_with (first
      | (rw [← eW, ← e2]; clear eW e2; go_at_call 47; go_must (refine (CE.out _ HB0.out).mono ?_; rintro e1 w1 ⟨V1, rfl, r1, b1⟩; have B1 := Lib.hid (HB0.out.trans (b1.mono HB0.out.size)); have R1 := Lib.hid (H2.out.keep b1); obtain ⟨VA, VN, VC, rfl, hVN⟩ := r1.form; clear hVN))
      | fail)
    go_returns
    exact ⟨_, rfl, KRow.nil _ _, B1.out⟩

set_option maxRecDepth 20000 in
set_option maxHeartbeats 8000000 in
theorem law_encodes17 (N D : Int) (z : Bool) (l : List It) (V : Value) (w : World) (hN0 : -9223372036854775808 ≤ N) (hN1 : N ≤ 9223372036854775807) (hD0 : -9223372036854775808 ≤ D) (hD1 : D ≤ 9223372036854775807) (hT : ItArg w V l) (hl : l.length ≤ 140737488351232) (hd : ∀ j (h : j < l.length), l[j].d.size ≤ 140737488351232) :
    Calls Try.prog 11 #[.agg (manA N D z), V] w fun e w' => e = .returned (.bool true) ∧ Below w.heap.size w w' := by
  have C1 := Lib.hid (fun W (hb : Below w.heap.size w W) => encode17_any N D z l V W hN0 hN1 hD0 hD1 (hT.keep hb) hl hd)
  have C2 := Lib.hid (fun W (hb : Below w.heap.size w W) => refEncode17_any N D z l V W hN0 hN1 hD0 hD1 (hT.keep hb) hl hd)
  have C3 := Lib.hid (fun W (hb : Below w.heap.size w W) => expect17_any N D z l V W hN0 hN1 hD0 hD1 (hT.keep hb) hl hd)
  have C4 := Lib.hid (fun W (hb : Below w.heap.size w W) => refExpect17_any N D z l V W hN0 hN1 hD0 hD1 (hT.keep hb) hl hd)
  have CA := Lib.hid awake17_any
  have hRl : (menR N D z l).length ≤ 1099511627776 := by have := (menR_nn N D z l).2.2; omega
  have hMl : (meL N D z l).length ≤ 1099511627776 := by
    unfold meL
    split
    · have := mnR_len z N D (lvL 0 (menR N D z l)); rw [lvL_len] at this; omega
    · simp
  have S8 := Lib.hid (fun V V' W h1 h2 => Sw.same_any (menR N D z l) V V' W h1 h2 hRl)
  have S7 := Lib.hid (fun V V' W h1 h2 => same_any (meL N D z l) V V' W h1 h2 hMl)
  generalize menE N D l = E at *
  generalize meL N D z l = M at *
  generalize menR N D z l = R at *
  obtain ⟨W, b2, eW, e2, l2, r2, B0⟩ := one_enc w N D z
  have HB0 := Lib.hid B0; have H2 := Lib.hid r2
  obtain ⟨z0, z1, z2⟩ := row3 r2
  obtain ⟨A, c, rfl, hA⟩ := hT
  clear hA r2 B0 hRl hMl
  have hEE : (E != E) = false := by simp
  have hEE' : (E == E) = true := by simp
  go_enter Try.func11, Try.ntmps11
  go_wp2_with (first
    | (rw [← eW, ← e2]; clear eW e2; go_at_call 38; go_must (refine (C1.out _ HB0.out).mono ?_; rintro e1 w1 ⟨V1, rfl, v1, b1⟩; obtain ⟨A1, M1, D1, rfl, hM1⟩ := v1.form; clear hM1; have BB := Lib.hid (HB0.out.trans (b1.mono HB0.out.size)); have RR := Lib.hid (H2.out.keep b1); have A1' := Lib.hid (v1.arg Sw.rnC_size); obtain ⟨z0, z1, z2⟩ := row3 RR.out; have m1 := RR.out.lt))
    | (go_at_call 47; go_must (refine (C2.out _ BB.out).mono ?_; rintro e2 w2 ⟨V2, rfl, v2, b2'⟩; obtain ⟨A2, M2, D2, rfl, hM2⟩ := v2.form; clear hM2; have BB := Lib.hid (BB.out.trans (b2'.mono BB.out.size)); have RR := Lib.hid (RR.out.keep b2'); have A1' := Lib.hid (A1'.out.keep b2'); have A2' := Lib.hid (v2.arg Sw.rnC_size); obtain ⟨z0, z1, z2⟩ := row3 RR.out; have m2 := RR.out.lt))
    | (go_at_call 48; go_must (refine (S8.out _ _ _ A1'.out A2'.out).mono ?_; rintro e3 w3 ⟨rfl, b3⟩; have BB := Lib.hid (BB.out.trans (b3.mono BB.out.size)); have RR := Lib.hid (RR.out.keep b3); obtain ⟨z0, z1, z2⟩ := row3 RR.out; have m3 := RR.out.lt))
    | (go_at_call 39; go_must (refine (C3.out _ BB.out).mono ?_; rintro e4 w4 ⟨V4, rfl, v4, b4⟩; obtain ⟨A4, M4, D4, rfl, hM4⟩ := v4.form; clear hM4; have BB := Lib.hid (BB.out.trans (b4.mono BB.out.size)); have RR := Lib.hid (RR.out.keep b4); have A4' := Lib.hid (v4.arg evC_size); obtain ⟨z0, z1, z2⟩ := row3 RR.out; have m4 := RR.out.lt))
    | (go_at_call 49; go_must (refine (C4.out _ BB.out).mono ?_; rintro e5 w5 ⟨V5, rfl, v5, b5⟩; obtain ⟨A5, M5, D5, rfl, hM5⟩ := v5.form; clear hM5; have BB := Lib.hid (BB.out.trans (b5.mono BB.out.size)); have A4' := Lib.hid (A4'.out.keep b5); have A5' := Lib.hid (v5.arg evC_size)))
    | (go_at_call 45; go_must (refine (S7.out _ _ _ A4'.out A5'.out).mono ?_; rintro e6 w6 ⟨rfl, b6⟩; have BB := Lib.hid (BB.out.trans (b6.mono BB.out.size))))
    | (go_at_call 36; go_must (refine (CA.out _).mono ?_; rintro e7 w7 ⟨rfl, b7⟩; have BB := Lib.hid (BB.out.trans (b7.mono BB.out.size))))
    | fail)
  go_returns
  exact ⟨rfl, BB.out⟩

end Go.Proofs.Ytmbeaagpjpphhaa

namespace Go.Proofs.Ytmbeaagpjpphhaa
open Go Go.RowKit Go.Joins
open Sw (Rn RnRow RnArg rnC lg lg_append)
set_option linter.unusedVariables false
set_option linter.unusedSimpArgs false

/-- Where events lie. -/
def evBd (x : Ev) : Prop := (0 ≤ x.f ∧ x.f ≤ 2199023255552) ∧ (0 ≤ x.t ∧ x.t ≤ 2199023255552)
theorem edG_bd {q N D y m t v : Int} (h : Bt N D) (h0 : 0 ≤ m) (h1 : m ≤ t) (h2 : t ≤ 1099511627776) : ∀ x ∈ (edG q N D y m t v).2.2, evBd x := by
  have s0 := sm_zero h
  have s1 : smI N D 0 ≤ 1048577 := by have := (sm_bd h 0).2; have b1 := (bd_next h 0).2; rw [bd_zero] at b1; omega
  unfold edG
  split
  · split <;> (intro x hx; cases hx)
  · split
    · intro x hx; cases hx
    · intro x hx
      simp only [List.mem_singleton] at hx
      subst hx
      unfold evBd bnE
      simp only
      omega
theorem mnS_bd {z : Bool} {N D : Int} (h : Bt N D) {s : MN} (hs : RcN s) (ho : ∀ x ∈ s.o, evBd x) (e : Ev) : ∀ x ∈ (mnS z N D s e).o, evBd x := by
  unfold mnS
  by_cases hA : AcN s e
  · rw [if_pos hA]
    obtain ⟨a0, a1, a2, a3⟩ := acN_bd hs hA
    have hm := hs.m
    split
    · exact ho
    · intro x hx
      rcases List.mem_append.1 hx with hx | hx
      · exact ho x hx
      · exact edG_bd h hm.1 (by omega) (by omega) x hx
  · rw [if_neg hA]; exact ho
theorem mn_out {z : Bool} {N D : Int} (h : Bt N D) (l : List Ev) : ∀ x ∈ (mnR z N D l).o, evBd x := by
  unfold mnR
  suffices hh : ∀ (l : List Ev) (s : MN), RcN s → (∀ x ∈ s.o, evBd x) → ∀ x ∈ (l.foldl (mnS z N D) s).o, evBd x from hh l MN.zero rcN_zero (fun x hx => by cases hx)
  intro l
  induction l with
  | nil => intro s _ ho; exact ho
  | cons e l ih => intro s hs ho; exact ih _ (rcN_step hs e).1 (mnS_bd h hs ho e)
/-- A level that may stand ahead. -/
def ahP (r : Rn) : Prop := (r.1 = 0 ∨ r.1 = 1) ∧ 1 ≤ r.2 ∧ r.2 ≤ 1048576
theorem ah_lg {A : List Rn} (h : ∀ r ∈ A, ahP r) : 0 ≤ lg A ∧ lg A ≤ 1048576 * (A.length : Int) := by
  induction A with
  | nil => simp [lg]
  | cons r A ih =>
    have h1 := h r (by simp)
    have h2 := ih fun x hx => h x (by simp [hx])
    unfold ahP at h1
    simp only [lg, List.length_cons]
    omega

set_option maxRecDepth 20000 in
set_option maxHeartbeats 4000000 in
/-- Nothing is asked. -/
theorem res_not (N D : Int) (z : Bool) (A : List Rn) (l : List It) (VA V : Value) (w : World) (hN0 : -9223372036854775808 ≤ N) (hN1 : N ≤ 9223372036854775807) (hD0 : -9223372036854775808 ≤ D) (hD1 : D ≤ 9223372036854775807) (hTA : RnArg w VA A) (hT : ItArg w V l) (hl : l.length ≤ 140737488351232) (hd : ∀ j (h : j < l.length), l[j].d.size ≤ 140737488351232)
    (hh : menE N D l ≠ 0 ∨ 200 < A.length ∨ 549755813888 < lg (menR N D z l)) :
    Calls Try.prog 15 #[.agg (manA N D z), VA, V] w fun e w' => e = .returned (.bool true) ∧ Below w.heap.size w w' := by
  have CA := Lib.hid awake17_any
  have CE := Lib.hid (fun W (hb : Below w.heap.size w W) => encode17_any N D z l V W hN0 hN1 hD0 hD1 (hT.keep hb) hl hd)
  have hLG : menE N D l = 0 → Sw.lgV (menR N D z l) = lg (menR N D z l) := fun he => by
    have hv := (menR_ok z he).2.2.2.2.2
    unfold Sw.lgV; rw [if_pos hv]
  have CL := Lib.hid (fun V W h => Sw.refLong_any (menR N D z l) V W h)
  generalize menE N D l = E at *
  generalize menR N D z l = R at *
  obtain ⟨W, b2, eW, e2, l2, r2, B0⟩ := one_enc w N D z
  have HB0 := Lib.hid B0
  obtain ⟨z0, z1, z2⟩ := row3 r2
  obtain ⟨AA, cA, rfl, hAA⟩ := hTA
  obtain ⟨AI, cI, rfl, hAI⟩ := hT
  clear hAA hAI r2 B0
  by_cases he : E = 0
  · subst he
    have hLG' := hLG rfl
    rw [hLG'] at CL
    clear hLG hLG'
    generalize lg R = LG at *
    by_cases h2 : 200 < A.length
    · have d2 : decide ((200 : Int) < A.length) = true := decide_eq_true (by omega)
      have d2' : decide (200 < A.length) = true := decide_eq_true h2
      clear hh
      go_enter Try.func15, Try.ntmps15
      go_wp2_with (first
        | (rw [← eW, ← e2]; clear eW e2; go_at_call 38; go_must (refine (CE.out _ HB0.out).mono ?_; rintro e1 w1 ⟨V1, rfl, v1, b1⟩; obtain ⟨A1, M1, D1, rfl, hM1⟩ := v1.form; clear hM1; have BB := Lib.hid (HB0.out.trans (b1.mono HB0.out.size))))
        | (go_at_call 36; go_must (refine (CA.out _).mono ?_; rintro e7 w7 ⟨rfl, b7⟩; have BB := Lib.hid (BB.out.trans (b7.mono BB.out.size))))
        | fail)
      go_returns
      exact ⟨rfl, BB.out⟩
    · have d2 : decide ((200 : Int) < A.length) = false := decide_eq_false (by omega)
      have d2' : decide (200 < A.length) = false := decide_eq_false h2
      have h3 : 549755813888 < LG := by
        rcases hh with h | h | h
        · exact absurd rfl h
        · exact absurd h h2
        · exact h
      have d3 : decide (549755813888 < LG) = true := decide_eq_true h3
      clear hh h2 h3
      go_enter Try.func15, Try.ntmps15
      go_wp2_with (first
        | (rw [← eW, ← e2]; clear eW e2; go_at_call 38; go_must (refine (CE.out _ HB0.out).mono ?_; rintro e1 w1 ⟨V1, rfl, v1, b1⟩; have R1 := Lib.hid (v1.arg Sw.rnC_size); obtain ⟨A1, M1, D1, rfl, hM1⟩ := v1.form; clear hM1; have BB := Lib.hid (HB0.out.trans (b1.mono HB0.out.size))))
        | (go_at_call 53; go_must (refine (CL.out _ _ R1.out).mono ?_; rintro e2 w2 ⟨rfl, rfl⟩))
        | (go_at_call 36; go_must (refine (CA.out _).mono ?_; rintro e7 w7 ⟨rfl, b7⟩; have BB := Lib.hid (BB.out.trans (b7.mono BB.out.size))))
        | fail)
      go_returns
      exact ⟨rfl, BB.out⟩
  · have d1 : (E != 0) = true := by simpa using he
    clear hh hLG he
    go_enter Try.func15, Try.ntmps15
    go_wp2_with (first
      | (rw [← eW, ← e2]; clear eW e2; go_at_call 38; go_must (refine (CE.out _ HB0.out).mono ?_; rintro e1 w1 ⟨V1, rfl, v1, b1⟩; obtain ⟨A1, M1, D1, rfl, hM1⟩ := v1.form; clear hM1; have BB := Lib.hid (HB0.out.trans (b1.mono HB0.out.size))))
      | (go_at_call 36; go_must (refine (CA.out _).mono ?_; rintro e7 w7 ⟨rfl, b7⟩; have BB := Lib.hid (BB.out.trans (b7.mono BB.out.size))))
      | fail)
    go_returns
    exact ⟨rfl, BB.out⟩

end Go.Proofs.Ytmbeaagpjpphhaa
