/-
  Delay.
  Scale.
-/
import Derived.Test.YteccafndplaklaaZ12
namespace Go.Proofs.Yteccafndplaklaa
open Go Go.RowKit Go.Joins
set_option linter.unusedVariables false
set_option linter.unusedSimpArgs false

set_option maxRecDepth 100000 in
set_option maxHeartbeats 8000000 in
theorem delay_any (N : List ByteArray) (R : List Rn) (b : Int) (vN vR : Value) (w : World) (hN : NmArg w vN N) (hs : szs N) (hR : RnArg w vR R) (hn : R.length ≤ 16000) (hnn : N.length ≤ 4096) (hb1 : b ≤ 9223372036854775807) :
    Calls Try.prog 19 #[.agg #[vN, vR], .int .i64 b] w fun e w' => ∃ v1 v2 : Value, e = .returned (.tuple #[.agg #[v1, v2], .int .i64 (dlE N R b)]) ∧ NmArg w' v1 (dlN N R b) ∧ RnArg w' v2 (dlR N R b) ∧ Below w.heap.size w w' := by
  have HK := Lib.hid (fun w' (hb : Below w.heap.size w w') => check_any N R vN vR w' (hN.keep hb) hs (hR.keep hb) (by omega))
  have HL := Lib.hid (fun w' (hb : Below w.heap.size w w') => longC_any N R vN vR w' (hN.keep hb) hs (hR.keep hb) (by omega))
  have HCp' := fun (h : ckC N R = 0) w' (hb : Below w.heap.size w w') => copiedC_any N R vN vR w' (hN.keep hb) (hR.keep hb) (by omega) (fun j hj => nm_small (ckC_ok h).2.2.2.2.1 j hj) (by omega)
  obtain ⟨A1, c1, rfl, _⟩ := hN.form
  obtain ⟨A2, c2, rfl⟩ := hR.form
  have B0 := Lib.hid ((ba w (.cells #[.slice A1 N.length c1, .slice A2 R.length c2] 25)).alloc (ba w _).size (.cells #[.slice none 0 0, .slice none 0 0] 25))
  have P0 := Lib.hid ((RowAt.new w 25 #[.slice A1 N.length c1, .slice A2 R.length c2]).alloc (.cells #[.slice none 0 0, .slice none 0 0] 25))
  have Q0' := RowAt.new (w.alloc (.cells #[.slice A1 N.length c1, .slice A2 R.length c2] 25)) 25 #[.slice none 0 0, .slice none 0 0]
  rw [World.size_alloc] at Q0'
  have Q0 := Lib.hid Q0'
  clear Q0' hN hR
  have g0 := P0.out.cell 0
  have g1 := P0.out.cell 1
  by_cases hz : ckC N R = 0
  · have hck := ckC_ok hz
    have hrg := vr_range hck.2.2.2.2.2
    have HCp := Lib.hid (HCp' hz)
    rw [lgC_yes hz] at HL
    by_cases hbad : b < 0 ∨ 1099511627776 - lg R < b ∨ (0 < b ∧ R.length = 0)
    · have he := dl_2 hz hbad
      have hne : ¬ dlE N R b = 0 := by rw [he]; exact by decide
      have HN0 := Lib.hid (dlN_no hne)
      have HR0 := Lib.hid (dlR_no hne)
      have HE := Lib.hid he
      clear hne he
      have hw := IntWalk.i64_in (1099511627776 - lg R) (by omega)
      rw [hz] at HK
      clear HCp' HCp hck hz
      generalize lg R = S at *
      by_cases d1 : b < 0
      · clear hbad hw
        go_enter Try.func19, Try.ntmps19
        go_wp2_with (first
          | (go_at_call 24; go_must (refine (HK.out _ B0.out).mono ?_; rintro e1 w1 ⟨rfl, b1⟩; have B1 := Lib.hid (B0.out.trans (b1.mono B0.out.size)); have P1 := Lib.hid (P0.out.keep b1); have Q1 := Lib.hid (Q0.out.keep b1); have g0 := P1.out.cell 0; have g1 := P1.out.cell 1; have k0 := Q1.out.cell 0; have k1 := Q1.out.cell 1; have z0 := Q1.out.frozen 0; have z1 := Q1.out.frozen 1; clear b1)))
        have e0 := (two_set (v0 := .slice none 0 0) (v1 := .slice none 0 0) k0 k1).1
        have e1 := (two_set (v0 := .slice none 0 0) (v1 := .slice none 0 0) k0 k1).2
        refine bodyPost_ret (v := .tuple #[.agg #[.slice none 0 0, .slice none 0 0], .int .i64 2]) (by simp [results, Try.results19, go_sem, e0, e1]) rfl ⟨_, _, by rw [HE.out], by rw [HN0.out]; exact nm_nil _, by rw [HR0.out]; exact rn_nil _, Below.setCell (Below.setCell B1.out (Nat.le_succ _) _) (Nat.le_succ _) _⟩
      by_cases d2 : 1099511627776 - S < b
      · have d1' : decide (b < 0) = false := decide_eq_false d1
        have d2' : decide (1099511627776 - S < b) = true := decide_eq_true d2
        clear hbad
        go_enter Try.func19, Try.ntmps19
        go_wp2_with (first
          | (go_at_call 24; go_must (refine (HK.out _ B0.out).mono ?_; rintro e1 w1 ⟨rfl, b1⟩; have B1 := Lib.hid (B0.out.trans (b1.mono B0.out.size)); have P1 := Lib.hid (P0.out.keep b1); have Q1 := Lib.hid (Q0.out.keep b1); have g0 := P1.out.cell 0; have g1 := P1.out.cell 1; have k0 := Q1.out.cell 0; have k1 := Q1.out.cell 1; have z0 := Q1.out.frozen 0; have z1 := Q1.out.frozen 1; clear b1))
          | (go_at_call 25; go_must (refine (HL.out _ B1.out).mono ?_; rintro e2 w2 ⟨rfl, b2⟩; have B2 := Lib.hid (B1.out.trans (b2.mono B1.out.size)); have P2 := Lib.hid (P1.out.keep b2); have Q2 := Lib.hid (Q1.out.keep b2); have g0 := P2.out.cell 0; have g1 := P2.out.cell 1; have k0 := Q2.out.cell 0; have k1 := Q2.out.cell 1; have z0 := Q2.out.frozen 0; have z1 := Q2.out.frozen 1; clear b2)))
        have e0 := (two_set (v0 := .slice none 0 0) (v1 := .slice none 0 0) k0 k1).1
        have e1 := (two_set (v0 := .slice none 0 0) (v1 := .slice none 0 0) k0 k1).2
        refine bodyPost_ret (v := .tuple #[.agg #[.slice none 0 0, .slice none 0 0], .int .i64 2]) (by simp [results, Try.results19, go_sem, e0, e1]) rfl ⟨_, _, by rw [HE.out], by rw [HN0.out]; exact nm_nil _, by rw [HR0.out]; exact rn_nil _, Below.setCell (Below.setCell B2.out (Nat.le_succ _) _) (Nat.le_succ _) _⟩
      · have d1' : decide (b < 0) = false := decide_eq_false d1
        have d2' : decide (1099511627776 - S < b) = false := decide_eq_false d2
        have d3 : 0 < b := by omega
        have d3' : decide (0 < b) = true := decide_eq_true d3
        have e00 : R = [] := List.eq_nil_of_length_eq_zero (by omega)
        subst e00
        have d4 : (((([] : List Rn).length : Nat) : Int) == 0) = true := rfl
        clear hbad
        go_enter Try.func19, Try.ntmps19
        go_wp2_with (first
          | (go_at_call 24; go_must (refine (HK.out _ B0.out).mono ?_; rintro e1 w1 ⟨rfl, b1⟩; have B1 := Lib.hid (B0.out.trans (b1.mono B0.out.size)); have P1 := Lib.hid (P0.out.keep b1); have Q1 := Lib.hid (Q0.out.keep b1); have g0 := P1.out.cell 0; have g1 := P1.out.cell 1; have k0 := Q1.out.cell 0; have k1 := Q1.out.cell 1; have z0 := Q1.out.frozen 0; have z1 := Q1.out.frozen 1; clear b1))
          | (go_at_call 25; go_must (refine (HL.out _ B1.out).mono ?_; rintro e2 w2 ⟨rfl, b2⟩; have B2 := Lib.hid (B1.out.trans (b2.mono B1.out.size)); have P2 := Lib.hid (P1.out.keep b2); have Q2 := Lib.hid (Q1.out.keep b2); have g0 := P2.out.cell 0; have g1 := P2.out.cell 1; have k0 := Q2.out.cell 0; have k1 := Q2.out.cell 1; have z0 := Q2.out.frozen 0; have z1 := Q2.out.frozen 1; clear b2)))
        have e0 := (two_set (v0 := .slice none 0 0) (v1 := .slice none 0 0) k0 k1).1
        have e1 := (two_set (v0 := .slice none 0 0) (v1 := .slice none 0 0) k0 k1).2
        refine bodyPost_ret (v := .tuple #[.agg #[.slice none 0 0, .slice none 0 0], .int .i64 2]) (by simp [results, Try.results19, go_sem, e0, e1]) rfl ⟨_, _, by rw [HE.out], by rw [HN0.out]; exact nm_nil _, by rw [HR0.out]; exact rn_nil _, Below.setCell (Below.setCell B2.out (Nat.le_succ _) _) (Nat.le_succ _) _⟩
    · have he := dl_0 hz hbad
      obtain ⟨q1, q2, q3⟩ := ckC_dl he
      have HN0 := Lib.hid (dlN_0 he)
      have HR0 := Lib.hid (dlR_0 he)
      have HE := Lib.hid he
      have hw := IntWalk.i64_in (1099511627776 - lg R) (by omega)
      have HCln := Lib.hid (fun V U w' (h1 : NmArg w' V N) (h2 : RnArg w' U (dl R b)) => clean12_any N (dl R b) V U w' h1 hs h2 q1)
      rw [hz] at HK
      have d1 : ¬ b < 0 := by omega
      have d2 : ¬ 1099511627776 - lg R < b := by omega
      have d1' : decide (b < 0) = false := decide_eq_false d1
      have d2' : decide (1099511627776 - lg R < b) = false := decide_eq_false d2
      by_cases d3 : 0 < b
      · have d3' : decide (0 < b) = true := decide_eq_true d3
        have hR0 : 0 < R.length := by omega
        have d4 : ((R.length : Int) == 0) = false := by rw [beq_eq_false_iff_ne]; omega
        obtain ⟨x, hx⟩ : ∃ x, x = R[0] := ⟨_, rfl⟩
        have hel := el_range hck.2.2.2.2.2 0 hR0
        rw [← hx] at hel
        have HA := Lib.hid hx.symm
        have hw3 := IntWalk.i64_in (x.2 + b) (by omega)
        have HX := Lib.hid (show R.set 0 (x.1, x.2 + b) = dl R b by
          cases R with
          | nil => simp at hR0
          | cons r l => simp at hx; subst hx; rfl)
        clear hz hck hbad he q1 q2 q3 HCp' hrg hx
        generalize lg R = S at *
        go_enter Try.func19, Try.ntmps19
        go_wp2_with (first
          | (go_at_call 24; go_must (refine (HK.out _ B0.out).mono ?_; rintro e1 w1 ⟨rfl, b1⟩; have B1 := Lib.hid (B0.out.trans (b1.mono B0.out.size)); have P1 := Lib.hid (P0.out.keep b1); have Q1 := Lib.hid (Q0.out.keep b1); have g0 := P1.out.cell 0; have g1 := P1.out.cell 1; have k0 := Q1.out.cell 0; have k1 := Q1.out.cell 1; have z0 := Q1.out.frozen 0; have z1 := Q1.out.frozen 1; clear b1))
          | (go_at_call 25; go_must (refine (HL.out _ B1.out).mono ?_; rintro e2 w2 ⟨rfl, b2⟩; have B2 := Lib.hid (B1.out.trans (b2.mono B1.out.size)); have P2 := Lib.hid (P1.out.keep b2); have Q2 := Lib.hid (Q1.out.keep b2); have g0 := P2.out.cell 0; have g1 := P2.out.cell 1; have k0 := Q2.out.cell 0; have k1 := Q2.out.cell 1; have z0 := Q2.out.frozen 0; have z1 := Q2.out.frozen 1; clear b2))
          | (go_at_call 35; go_must (refine (HCp.out _ B2.out).mono ?_; rintro e3 w3 ⟨v1, v2, rfl, r1, r2, b3⟩; obtain ⟨UA, UN, UC, rfl, rfl⟩ := KRow.form r1; obtain ⟨g, VC, rfl⟩ := KRow.full r2 hR0; have B3 := Lib.hid (B2.out.trans (b3.mono B2.out.size)); have Q3 := Lib.hid (Q2.out.keep b3); have s2 : w.heap.size + 2 ≤ w2.heap.size := Q2.out.lt; clear g0 g1 k0 k1 z0 z1; have hgl := (KRow.mono r2 s2).len; have X3 := Lib.hid (RowAt.new w3 25 #[.slice UA N.length UC, .slice (some ⟨g, 0, none⟩) R.length VC]); have y4 := KRow.alloc r2 (.cells #[.slice UA N.length UC, .slice (some ⟨g, 0, none⟩) R.length VC] 25); have y1 := KRow.cell rnC_size y4 0 hR0 1 (by omega); have y0 := KRow.frozen y4 (0 * 2 + 1); rw [HA.out, show (rnC x)[1]? = some (Value.int .i64 x.2) from rfl] at y1; simp only [Nat.zero_mul, Nat.zero_add] at y1 y0; clear y4; have RS := KRow.cellSet rnC_size (KRow.mono r2 s2) 0 1 hR0 (by omega) (.int .i64 (x.2 + b)) (x.1, x.2 + b) (by rw [HA.out]; rfl); simp only [Nat.zero_mul, Nat.zero_add] at RS; have R2 := Lib.hid (KRow.alloc RS (.cells #[.slice UA N.length UC, .slice (some ⟨g, 0, none⟩) R.length VC] 25)); rw [HX.out] at R2; have R1 := Lib.hid (KRow.alloc (KRow.kept (KRow.mono r1 s2) (fun q _ hne => heap_setCell_other w3 ⟨g, 1, none⟩ (.int .i64 (x.2 + b)) q (fun e => hne (by rw [e]; rfl))) (names_apart r2 r1)) (.cells #[.slice UA N.length UC, .slice (some ⟨g, 0, none⟩) R.length VC] 25)); have Q4 := Lib.hid ((Q3.out.other ⟨g, 1, none⟩ (.int .i64 (x.2 + b)) (by show ¬ g = w.heap.size + 1; omega)).alloc (.cells #[.slice UA N.length UC, .slice (some ⟨g, 0, none⟩) R.length VC] 25)); have B4 := Lib.hid ((Below.setCell B3.out (show w.heap.size ≤ (⟨g, 1, none⟩ : Addr).block by show w.heap.size ≤ g; omega) (.int .i64 (x.2 + b))).alloc (Nat.le_trans B3.out.size (by rw [World.size_setCell]; exact Nat.le_refl _)) (.cells #[.slice UA N.length UC, .slice (some ⟨g, 0, none⟩) R.length VC] 25)); have X4 := Lib.hid (X3.out.other ⟨g, 1, none⟩ (.int .i64 (x.2 + b)) (by show ¬ g = w3.heap.size; omega)); have x0 := X3.out.cell 0; have x1 := X3.out.cell 1; have x2 := X4.out.cell 0; have x3 := X4.out.cell 1; clear r1 r2 b3 RS))
          | (go_at_call 44; go_must (refine (HCln.out _ _ _ (KRow.name R1.out) (KRow.arg rnC_size R2.out)).mono ?_; rintro e5 w5 ⟨v1, v2, rfl, hr, _, _, b5⟩; have hB4 := B4.out.size; obtain ⟨r1, r2⟩ := hr (w.heap.size + 2) Q4.out.lt R1.out R2.out; obtain ⟨SA, SN, SC, rfl, rfl⟩ := KRow.form r1; obtain ⟨TA, TN, TC, rfl, hTN⟩ := KRow.form r2; clear hTN hr; have B5 := Lib.hid (B4.out.trans (b5.mono hB4)); have R5 := Lib.hid r1; have R6 := Lib.hid r2; have Q5 := Lib.hid (Q4.out.keep b5); have k0 := Q5.out.cell 0; have k1 := Q5.out.cell 1; have z0 := Q5.out.frozen 0; have z1 := Q5.out.frozen 1; clear r1 r2 b5)))
        have e0 := (two_set (v0 := .slice SA N.length SC) (v1 := .slice TA TN TC) k0 k1).1
        have e1 := (two_set (v0 := .slice SA N.length SC) (v1 := .slice TA TN TC) k0 k1).2
        refine bodyPost_ret (v := .tuple #[.agg #[.slice SA N.length SC, .slice TA TN TC], .int .i64 0]) (by simp [results, Try.results19, go_sem, e0, e1]) rfl ⟨_, _, by rw [HE.out], by rw [HN0.out]; exact KRow.name (KRow.set2 R5.out (Nat.lt_succ_self _) _ _), by rw [HR0.out]; exact KRow.arg rnC_size (KRow.set2 R6.out (Nat.lt_succ_self _) _ _), Below.setCell (Below.setCell B5.out (Nat.le_succ _) _) (Nat.le_succ _) _⟩
      · have d3' : decide (0 < b) = false := decide_eq_false d3
        have hb0 : b = 0 := by omega
        subst hb0
        rw [dl_zero] at HR0 HCln
        clear hz hck hbad he q1 q2 q3 HCp' hrg
        generalize lg R = S at *
        go_enter Try.func19, Try.ntmps19
        go_wp2_with (first
          | (go_at_call 24; go_must (refine (HK.out _ B0.out).mono ?_; rintro e1 w1 ⟨rfl, b1⟩; have B1 := Lib.hid (B0.out.trans (b1.mono B0.out.size)); have P1 := Lib.hid (P0.out.keep b1); have Q1 := Lib.hid (Q0.out.keep b1); have g0 := P1.out.cell 0; have g1 := P1.out.cell 1; have k0 := Q1.out.cell 0; have k1 := Q1.out.cell 1; have z0 := Q1.out.frozen 0; have z1 := Q1.out.frozen 1; clear b1))
          | (go_at_call 25; go_must (refine (HL.out _ B1.out).mono ?_; rintro e2 w2 ⟨rfl, b2⟩; have B2 := Lib.hid (B1.out.trans (b2.mono B1.out.size)); have P2 := Lib.hid (P1.out.keep b2); have Q2 := Lib.hid (Q1.out.keep b2); have g0 := P2.out.cell 0; have g1 := P2.out.cell 1; have k0 := Q2.out.cell 0; have k1 := Q2.out.cell 1; have z0 := Q2.out.frozen 0; have z1 := Q2.out.frozen 1; clear b2))
          | (go_at_call 35; go_must (refine (HCp.out _ B2.out).mono ?_; rintro e3 w3 ⟨v1, v2, rfl, r1, r2, b3⟩; obtain ⟨UA, UN, UC, rfl, rfl⟩ := KRow.form r1; obtain ⟨VA, VN, VC, rfl, rfl⟩ := KRow.form r2; have B3 := Lib.hid (B2.out.trans (b3.mono B2.out.size)); have Q3 := Lib.hid (Q2.out.keep b3); have s2 : w.heap.size + 2 ≤ w2.heap.size := Q2.out.lt; clear g0 g1 k0 k1 z0 z1; have X3 := Lib.hid (RowAt.new w3 25 #[.slice UA N.length UC, .slice VA R.length VC]); have R1 := Lib.hid (KRow.alloc (KRow.mono r1 s2) (.cells #[.slice UA N.length UC, .slice VA R.length VC] 25)); have R2 := Lib.hid (KRow.alloc (KRow.mono r2 s2) (.cells #[.slice UA N.length UC, .slice VA R.length VC] 25)); have Q4 := Lib.hid (Q3.out.alloc (.cells #[.slice UA N.length UC, .slice VA R.length VC] 25)); have B4 := Lib.hid (B3.out.alloc B3.out.size (.cells #[.slice UA N.length UC, .slice VA R.length VC] 25)); have x0 := X3.out.cell 0; have x1 := X3.out.cell 1; clear r1 r2 b3))
          | (go_at_call 44; go_must (refine (HCln.out _ _ _ (KRow.name R1.out) (KRow.arg rnC_size R2.out)).mono ?_; rintro e5 w5 ⟨v1, v2, rfl, hr, _, _, b5⟩; have hB4 := B4.out.size; obtain ⟨r1, r2⟩ := hr (w.heap.size + 2) Q4.out.lt R1.out R2.out; obtain ⟨SA, SN, SC, rfl, rfl⟩ := KRow.form r1; obtain ⟨TA, TN, TC, rfl, hTN⟩ := KRow.form r2; clear hTN hr; have B5 := Lib.hid (B4.out.trans (b5.mono hB4)); have R5 := Lib.hid r1; have R6 := Lib.hid r2; have Q5 := Lib.hid (Q4.out.keep b5); have k0 := Q5.out.cell 0; have k1 := Q5.out.cell 1; have z0 := Q5.out.frozen 0; have z1 := Q5.out.frozen 1; clear r1 r2 b5)))
        have e0 := (two_set (v0 := .slice SA N.length SC) (v1 := .slice TA TN TC) k0 k1).1
        have e1 := (two_set (v0 := .slice SA N.length SC) (v1 := .slice TA TN TC) k0 k1).2
        refine bodyPost_ret (v := .tuple #[.agg #[.slice SA N.length SC, .slice TA TN TC], .int .i64 0]) (by simp [results, Try.results19, go_sem, e0, e1]) rfl ⟨_, _, by rw [HE.out], by rw [HN0.out]; exact KRow.name (KRow.set2 R5.out (Nat.lt_succ_self _) _ _), by rw [HR0.out]; exact KRow.arg rnC_size (KRow.set2 R6.out (Nat.lt_succ_self _) _ _), Below.setCell (Below.setCell B5.out (Nat.le_succ _) _) (Nat.le_succ _) _⟩
  · have he := dl_c (b := b) hz
    have hne : ¬ dlE N R b = 0 := by rw [he]; exact hz
    have HN0 := Lib.hid (dlN_no hne)
    have HR0 := Lib.hid (dlR_no hne)
    have HE := Lib.hid he
    clear hne he
    have hyz : (ckC N R == 0) = false := by simpa using hz
    clear HCp' HL
    generalize ckC N R = r at *
    clear hz
    go_enter Try.func19, Try.ntmps19
    go_wp2_with (first
      | (go_at_call 24; go_must (refine (HK.out _ B0.out).mono ?_; rintro e1 w1 ⟨rfl, b1⟩; have B1 := Lib.hid (B0.out.trans (b1.mono B0.out.size)); have P1 := Lib.hid (P0.out.keep b1); have Q1 := Lib.hid (Q0.out.keep b1); have g0 := P1.out.cell 0; have g1 := P1.out.cell 1; have k0 := Q1.out.cell 0; have k1 := Q1.out.cell 1; have z0 := Q1.out.frozen 0; have z1 := Q1.out.frozen 1; clear b1)))
    have e0 := (two_set (v0 := .slice none 0 0) (v1 := .slice none 0 0) k0 k1).1
    have e1 := (two_set (v0 := .slice none 0 0) (v1 := .slice none 0 0) k0 k1).2
    refine bodyPost_ret (v := .tuple #[.agg #[.slice none 0 0, .slice none 0 0], .int .i64 r]) (by simp [results, Try.results19, go_sem, e0, e1]) rfl ⟨_, _, by rw [HE.out], by rw [HN0.out]; exact nm_nil _, by rw [HR0.out]; exact rn_nil _, Below.setCell (Below.setCell B1.out (Nat.le_succ _) _) (Nat.le_succ _) _⟩
end Go.Proofs.Yteccafndplaklaa

namespace Go.Proofs.Yteccafndplaklaa
open Go Go.RowKit Go.Joins
set_option linter.unusedVariables false
set_option linter.unusedSimpArgs false

def sxE (N : List ByteArray) (R : List Rn) (n d : Int) : Int := if ckC N R ≠ 0 then ckC N R else if Sr.validB n d = false ∨ n < 1 then 1 else if 4294967296 < lg R ∨ 1099511627776 < fs n d (lg R) then 3 else 0
def sxN (N : List ByteArray) (R : List Rn) (n d : Int) : List ByteArray := if sxE N R n d = 0 then N else []
def sxR (N : List ByteArray) (R : List Rn) (n d : Int) : List Rn := if sxE N R n d = 0 then jn (scr (fs n d) 0 R) else []
theorem sx_c {N : List ByteArray} {R : List Rn} {n d : Int} (h : ¬ ckC N R = 0) : sxE N R n d = ckC N R := by unfold sxE; rw [if_pos h]
theorem sx_1 {N : List ByteArray} {R : List Rn} {n d : Int} (h : ckC N R = 0) (h1 : Sr.validB n d = false ∨ n < 1) : sxE N R n d = 1 := by unfold sxE; rw [if_neg (fun x => x h), if_pos h1]
theorem sx_3 {N : List ByteArray} {R : List Rn} {n d : Int} (h : ckC N R = 0) (h1 : ¬ (Sr.validB n d = false ∨ n < 1)) (h3 : 4294967296 < lg R ∨ 1099511627776 < fs n d (lg R)) : sxE N R n d = 3 := by unfold sxE; rw [if_neg (fun x => x h), if_neg h1, if_pos h3]
theorem sx_0 {N : List ByteArray} {R : List Rn} {n d : Int} (h : ckC N R = 0) (h1 : ¬ (Sr.validB n d = false ∨ n < 1)) (h3 : ¬ (4294967296 < lg R ∨ 1099511627776 < fs n d (lg R))) : sxE N R n d = 0 := by unfold sxE; rw [if_neg (fun x => x h), if_neg h1, if_neg h3]
theorem sx_ok {N : List ByteArray} {R : List Rn} {n d : Int} (h : sxE N R n d = 0) : ckC N R = 0 ∧ Sr.validB n d = true ∧ 1 ≤ n ∧ lg R ≤ 4294967296 ∧ fs n d (lg R) ≤ 1099511627776 := by
  unfold sxE at h
  split at h
  · rename_i h1; exact absurd h h1
  · rename_i h1
    split at h
    · omega
    · rename_i h2
      split at h
      · omega
      · rename_i h3
        refine ⟨by simpa using h1, ?_, by omega, by omega, by omega⟩
        cases hv : Sr.validB n d
        · exact absurd (Or.inl hv) h2
        · rfl
theorem sxN_0 {N : List ByteArray} {R : List Rn} {n d : Int} (h : sxE N R n d = 0) : sxN N R n d = N := by unfold sxN; rw [if_pos h]
theorem sxN_no {N : List ByteArray} {R : List Rn} {n d : Int} (h : ¬ sxE N R n d = 0) : sxN N R n d = [] := by unfold sxN; rw [if_neg h]
theorem sxR_0 {N : List ByteArray} {R : List Rn} {n d : Int} (h : sxE N R n d = 0) : sxR N R n d = jn (scr (fs n d) 0 R) := by unfold sxR; rw [if_pos h]
theorem sxR_no {N : List ByteArray} {R : List Rn} {n d : Int} (h : ¬ sxE N R n d = 0) : sxR N R n d = [] := by unfold sxR; rw [if_neg h]
theorem sx_good {N : List ByteArray} {R : List Rn} {n d : Int} (h : sxE N R n d = 0) : ckC N (scr (fs n d) 0 R) = 0 ∧ ckC N (jn (scr (fs n d) 0 R)) = 0 ∧ lg (scr (fs n d) 0 R) = fs n d (lg R) := by
  obtain ⟨h1, h2, h3, h4, h5⟩ := sx_ok h
  have hv := Sr.valid_bd h2
  exact ckC_scr h1 (fs_mono (by omega) (by omega)) (fs_zero n d) h5
theorem heldS {w W W' : World} {b : Nat} {x0 x1 y0 y1 : Value} (h : W.cell? ⟨b, 0, none⟩ = some x0 ∧ W.cell? ⟨b, 1, none⟩ = some x1 ∧ W.cell? ⟨b + 1, 0, none⟩ = some y0 ∧ W.cell? ⟨b + 1, 1, none⟩ = some y1 ∧ Below w.heap.size w W ∧ b + 2 < W.heap.size) (hb : Below W.heap.size W W') :
    W'.cell? ⟨b, 0, none⟩ = some x0 ∧ W'.cell? ⟨b, 1, none⟩ = some x1 ∧ W'.cell? ⟨b + 1, 0, none⟩ = some y0 ∧ W'.cell? ⟨b + 1, 1, none⟩ = some y1 ∧ Below w.heap.size w W' ∧ b + 2 < W'.heap.size := by
  obtain ⟨h0, h1, h2, h3, h4, h5⟩ := h
  have := hb.size
  have c := (bcell hb).1
  exact ⟨(c _ _ (by omega)).trans h0, (c _ _ (by omega)).trans h1, (c _ _ (by omega)).trans h2, (c _ _ (by omega)).trans h3, h4.trans (hb.mono h4.size), by omega⟩

set_option maxRecDepth 100000 in
set_option maxHeartbeats 8000000 in
theorem scale12_any (N : List ByteArray) (R : List Rn) (n d : Int) (vN vR : Value) (w : World) (hN : NmArg w vN N) (hs : szs N) (hR : RnArg w vR R) (hn : R.length ≤ 16000) (hnn : N.length ≤ 4096) (hn0 : -9223372036854775808 ≤ n) (hn1 : n ≤ 9223372036854775807) (hd0 : -9223372036854775808 ≤ d) (hd1 : d ≤ 9223372036854775807) :
    Calls Try.prog 21 #[.agg #[vN, vR], .agg #[.int .i64 n, .int .i64 d]] w fun e w' => ∃ v1 v2 : Value, e = .returned (.tuple #[.agg #[v1, v2], .int .i64 (sxE N R n d)]) ∧ NmArg w' v1 (sxN N R n d) ∧ RnArg w' v2 (sxR N R n d) ∧ Below w.heap.size w w' := by
  have HK := Lib.hid (fun w' (hb : Below w.heap.size w w') => check_any N R vN vR w' (hN.keep hb) hs (hR.keep hb) (by omega))
  have HL := Lib.hid (fun w' (hb : Below w.heap.size w w') => longC_any N R vN vR w' (hN.keep hb) hs (hR.keep hb) (by omega))
  have HV := Lib.hid (fun w' => Sr.valid_any n d w' hn0 hn1 hd0 hd1)
  have HCp' := fun (h : ckC N R = 0) w' (hb : Below w.heap.size w w') => copiedC_any N R vN vR w' (hN.keep hb) (hR.keep hb) (by omega) (fun j hj => nm_small (ckC_ok h).2.2.2.2.1 j hj) (by omega)
  have HSR' := fun h0 h1 h2 h3 h4 w' (hb : Below w.heap.size w w') => scaledRuns_any (mk N.length) R vR n d w' (hR.keep hb) (by omega) h0 h1 h2 h3 h4
  obtain ⟨A1, c1, rfl, _⟩ := hN.form
  obtain ⟨A2, c2, rfl⟩ := hR.form
  have e1s : (w.alloc (.cells #[.slice A1 N.length c1, .slice A2 R.length c2] 25)).heap.size = w.heap.size + 1 := World.size_alloc _ _
  have e2s : ((w.alloc (.cells #[.slice A1 N.length c1, .slice A2 R.length c2] 25)).alloc (.cells #[.int .i64 n, .int .i64 d] 37)).heap.size = w.heap.size + 2 := by rw [World.size_alloc, e1s]
  have B0 := Lib.hid (((ba w (.cells #[.slice A1 N.length c1, .slice A2 R.length c2] 25)).alloc (ba w _).size (.cells #[.int .i64 n, .int .i64 d] 37)).alloc (by rw [e2s]; omega) (.cells #[.slice none 0 0, .slice none 0 0] 25))
  have P0 := Lib.hid (((RowAt.new w 25 #[.slice A1 N.length c1, .slice A2 R.length c2]).alloc (.cells #[.int .i64 n, .int .i64 d] 37)).alloc (.cells #[.slice none 0 0, .slice none 0 0] 25))
  have T0' := (RowAt.new (w.alloc (.cells #[.slice A1 N.length c1, .slice A2 R.length c2] 25)) 37 #[.int .i64 n, .int .i64 d]).alloc (.cells #[.slice none 0 0, .slice none 0 0] 25)
  have Q0' := RowAt.new ((w.alloc (.cells #[.slice A1 N.length c1, .slice A2 R.length c2] 25)).alloc (.cells #[.int .i64 n, .int .i64 d] 37)) 25 #[.slice none 0 0, .slice none 0 0]
  rw [e2s] at Q0'
  rw [e1s] at T0'
  have Q0 := Lib.hid Q0'
  have T0 := Lib.hid T0'
  clear Q0' T0' e1s e2s hN hR
  have g0 := P0.out.cell 0
  have g1 := P0.out.cell 1
  have t0 := T0.out.cell 0
  have t1 := T0.out.cell 1
  have k0 := Q0.out.cell 0
  have k1 := Q0.out.cell 1
  have z0 := Q0.out.frozen 0
  have z1 := Q0.out.frozen 1
  by_cases hz : ckC N R = 0
  · have hck := ckC_ok hz
    have hrg := vr_range hck.2.2.2.2.2
    have HCp := Lib.hid (HCp' hz)
    have HSR2 := HSR' hck.2.2.2.2.2
    rw [lgC_yes hz] at HL
    cases hv : Sr.validB n d with
    | false =>
      have he := sx_1 (R := R) (n := n) (d := d) hz (Or.inl hv)
      have hne : ¬ sxE N R n d = 0 := by rw [he]; exact by decide
      have HN0 := Lib.hid (sxN_no hne)
      have HR0 := Lib.hid (sxR_no hne)
      have HE := Lib.hid he
      clear hne he
      rw [hz] at HK
      rw [hv] at HV
      clear HCp' HSR' HSR2 HCp hck hz HL hrg
      go_enter Try.func21, Try.ntmps21
      go_wp2_with (first
        | (go_at_call 24; go_must (refine (HK.out _ B0.out).mono ?_; rintro e1 w1 ⟨rfl, b1⟩; have BA := Lib.hid (B0.out.trans (b1.mono B0.out.size)); have PA := Lib.hid (P0.out.keep b1); have TA := Lib.hid (T0.out.keep b1); have QA := Lib.hid (Q0.out.keep b1); clear g0 g1 t0 t1 k0 k1 z0 z1; have g0 := PA.out.cell 0; have g1 := PA.out.cell 1; have t0 := TA.out.cell 0; have t1 := TA.out.cell 1; have k0 := QA.out.cell 0; have k1 := QA.out.cell 1; have z0 := QA.out.frozen 0; have z1 := QA.out.frozen 1; clear b1))
        | (go_at_call 45; go_must (refine (HV.out _).mono ?_; rintro e2 wv ⟨rfl, b2⟩; have B1 := Lib.hid (BA.out.trans (b2.mono BA.out.size)); have P1 := Lib.hid (PA.out.keep b2); have T1 := Lib.hid (TA.out.keep b2); have Q1 := Lib.hid (QA.out.keep b2); clear g0 g1 t0 t1 k0 k1 z0 z1; have g0 := P1.out.cell 0; have g1 := P1.out.cell 1; have t0 := T1.out.cell 0; have t1 := T1.out.cell 1; have k0 := Q1.out.cell 0; have k1 := Q1.out.cell 1; have z0 := Q1.out.frozen 0; have z1 := Q1.out.frozen 1; clear b2)))
      have e0 := (two_set (v0 := .slice none 0 0) (v1 := .slice none 0 0) k0 k1).1
      have e1 := (two_set (v0 := .slice none 0 0) (v1 := .slice none 0 0) k0 k1).2
      refine bodyPost_ret (v := .tuple #[.agg #[.slice none 0 0, .slice none 0 0], .int .i64 1]) (by simp [results, Try.results21, go_sem, e0, e1]) rfl ⟨_, _, by rw [HE.out], by rw [HN0.out]; exact nm_nil _, by rw [HR0.out]; exact rn_nil _, Below.setCell (Below.setCell B1.out (by show w.heap.size ≤ w.heap.size + 2; omega) _) (by show w.heap.size ≤ w.heap.size + 2; omega) _⟩
    | true =>
      have hvb := Sr.valid_bd hv
      by_cases h1 : n < 1
      · have he := sx_1 (R := R) (d := d) hz (Or.inr h1)
        have hne : ¬ sxE N R n d = 0 := by rw [he]; exact by decide
        have HN0 := Lib.hid (sxN_no hne)
        have HR0 := Lib.hid (sxR_no hne)
        have HE := Lib.hid he
        clear hne he
        rw [hz] at HK
        rw [hv] at HV
        have d1 : n ≤ 0 := by omega
        have d1' : decide (n ≤ 0) = true := decide_eq_true d1
        clear HCp' HSR' HSR2 HCp hck hz HL hrg
        go_enter Try.func21, Try.ntmps21
        go_wp2_with (first
          | (go_at_call 24; go_must (refine (HK.out _ B0.out).mono ?_; rintro e1 w1 ⟨rfl, b1⟩; have BA := Lib.hid (B0.out.trans (b1.mono B0.out.size)); have PA := Lib.hid (P0.out.keep b1); have TA := Lib.hid (T0.out.keep b1); have QA := Lib.hid (Q0.out.keep b1); clear g0 g1 t0 t1 k0 k1 z0 z1; have g0 := PA.out.cell 0; have g1 := PA.out.cell 1; have t0 := TA.out.cell 0; have t1 := TA.out.cell 1; have k0 := QA.out.cell 0; have k1 := QA.out.cell 1; have z0 := QA.out.frozen 0; have z1 := QA.out.frozen 1; clear b1))
          | (go_at_call 45; go_must (refine (HV.out _).mono ?_; rintro e2 wv ⟨rfl, b2⟩; have B1 := Lib.hid (BA.out.trans (b2.mono BA.out.size)); have P1 := Lib.hid (PA.out.keep b2); have T1 := Lib.hid (TA.out.keep b2); have Q1 := Lib.hid (QA.out.keep b2); clear g0 g1 t0 t1 k0 k1 z0 z1; have g0 := P1.out.cell 0; have g1 := P1.out.cell 1; have t0 := T1.out.cell 0; have t1 := T1.out.cell 1; have k0 := Q1.out.cell 0; have k1 := Q1.out.cell 1; have z0 := Q1.out.frozen 0; have z1 := Q1.out.frozen 1; clear b2)))
        have e0 := (two_set (v0 := .slice none 0 0) (v1 := .slice none 0 0) k0 k1).1
        have e1 := (two_set (v0 := .slice none 0 0) (v1 := .slice none 0 0) k0 k1).2
        refine bodyPost_ret (v := .tuple #[.agg #[.slice none 0 0, .slice none 0 0], .int .i64 1]) (by simp [results, Try.results21, go_sem, e0, e1]) rfl ⟨_, _, by rw [HE.out], by rw [HN0.out]; exact nm_nil _, by rw [HR0.out]; exact rn_nil _, Below.setCell (Below.setCell B1.out (by show w.heap.size ≤ w.heap.size + 2; omega) _) (by show w.heap.size ≤ w.heap.size + 2; omega) _⟩
      · have d1 : ¬ n ≤ 0 := by omega
        have d1' : decide (n ≤ 0) = false := decide_eq_false d1
        have hor : ¬ (Sr.validB n d = false ∨ n < 1) := by rw [hv]; rintro (h | h); exact absurd h (by decide); exact h1 h
        have hSc := fun w' => Sr.sc_any n d (lg R) w' hn0 hn1 hd0 hd1 (by omega) (by omega)
        rw [hv] at hSc
        by_cases h2 : 4294967296 < lg R
        · have he := sx_3 hz hor (Or.inl h2)
          have hne : ¬ sxE N R n d = 0 := by rw [he]; exact by decide
          have HN0 := Lib.hid (sxN_no hne)
          have HR0 := Lib.hid (sxR_no hne)
          have HE := Lib.hid he
          clear hne he
          have HSc := Lib.hid (show ∀ w', Calls Try.prog 46 #[.agg #[.int .i64 n, .int .i64 d], .int .i64 (lg R)] w' fun e w'' => e = .returned (.tuple #[.int .i64 0, .int .i64 3]) ∧ Below w'.heap.size w' w'' by
            intro w'
            have := hSc w'
            simp only [Sr.scV, Sr.scE] at this
            rw [if_pos (Or.inr h2), if_pos (Or.inr h2)] at this
            exact this)
          rw [hz] at HK
          rw [hv] at HV
          clear HCp' HSR' HSR2 HCp hck hz hor hSc hrg h2
          generalize lg R = G at *
          go_enter Try.func21, Try.ntmps21
          go_wp2_with (first
            | (go_at_call 24; go_must (refine (HK.out _ B0.out).mono ?_; rintro e1 w1 ⟨rfl, b1⟩; have BA := Lib.hid (B0.out.trans (b1.mono B0.out.size)); have PA := Lib.hid (P0.out.keep b1); have TA := Lib.hid (T0.out.keep b1); have QA := Lib.hid (Q0.out.keep b1); clear g0 g1 t0 t1 k0 k1 z0 z1; have g0 := PA.out.cell 0; have g1 := PA.out.cell 1; have t0 := TA.out.cell 0; have t1 := TA.out.cell 1; have k0 := QA.out.cell 0; have k1 := QA.out.cell 1; have z0 := QA.out.frozen 0; have z1 := QA.out.frozen 1; clear b1))
            | (go_at_call 45; go_must (refine (HV.out _).mono ?_; rintro e2 wv ⟨rfl, b2⟩; have B1 := Lib.hid (BA.out.trans (b2.mono BA.out.size)); have P1 := Lib.hid (PA.out.keep b2); have T1 := Lib.hid (TA.out.keep b2); have Q1 := Lib.hid (QA.out.keep b2); clear g0 g1 t0 t1 k0 k1 z0 z1; have g0 := P1.out.cell 0; have g1 := P1.out.cell 1; have t0 := T1.out.cell 0; have t1 := T1.out.cell 1; have k0 := Q1.out.cell 0; have k1 := Q1.out.cell 1; have z0 := Q1.out.frozen 0; have z1 := Q1.out.frozen 1; clear b2)))
          generalize hW1 : wv = WX at *
          clear hW1
          have S0 := Lib.hid (show WX.drew.cell? ⟨w.heap.size, 0, none⟩ = some (.slice A1 N.length c1) ∧ WX.drew.cell? ⟨w.heap.size, 1, none⟩ = some (.slice A2 R.length c2) ∧ WX.drew.cell? ⟨w.heap.size + 1, 0, none⟩ = some (.int .i64 n) ∧ WX.drew.cell? ⟨w.heap.size + 1, 1, none⟩ = some (.int .i64 d) ∧ Below w.heap.size w WX.drew ∧ w.heap.size + 2 < WX.drew.heap.size from ⟨P1.out.cell 0, P1.out.cell 1, T1.out.cell 0, T1.out.cell 1, B1.out.drew, Q1.out.lt⟩)
          have P1d := P1
          have T1d := T1
          have Q1d := Q1
          clear P1 T1 Q1 g0 g1 t0 t1 k0 k1 z0 z1
          have P1 := Lib.hid (show RowAt WX.drew _ _ _ from P1d.out)
          have T1 := Lib.hid (show RowAt WX.drew _ _ _ from T1d.out)
          have Q1 := Lib.hid (show RowAt WX.drew _ _ _ from Q1d.out)
          clear P1d T1d Q1d
          refine wp_region_held_drew (S := fun w' => w'.cell? ⟨w.heap.size, 0, none⟩ = some (.slice A1 N.length c1) ∧ w'.cell? ⟨w.heap.size, 1, none⟩ = some (.slice A2 R.length c2) ∧ w'.cell? ⟨w.heap.size + 1, 0, none⟩ = some (.int .i64 n) ∧ w'.cell? ⟨w.heap.size + 1, 1, none⟩ = some (.int .i64 d) ∧ Below w.heap.size w w' ∧ w.heap.size + 2 < w'.heap.size) (by kernel_rfl) ?_ (fun hH => ?_)
          · exact S0.out
          generalize WX.drew = WD at *
          refine wpAnyH_take (i := 0) (oi := { dst := some 26, op := Go.Op.load 37 (Go.Operand.tmp 3), type := 37, pos := "remap.go:89", after := #[], guard := none }) (v := ?_) rfl ?_ ?_ ?_ ?_ (Or.inl ⟨?_, ?_⟩) hH ?_
          rotate_left
          · kernel_rfl
          · kernel_rfl
          · kernel_rfl
          · exact fun _ _ _ h => h
          · kernel_rfl
          · intro wS hSw
            try dsimp only at hSw
            go_simp
            try with_reducible rfl
          try simp only [Act.put, List.setIfInBounds_toArray, List.set_cons_zero, List.set_cons_succ]
          refine wpAnyH_take (i := 1) (oi := { dst := some 27, op := Go.Op.load 25 (Go.Operand.tmp 2), type := 25, pos := "remap.go:89", after := #[], guard := none }) (v := ?_) rfl ?_ ?_ ?_ ?_ (Or.inl ⟨?_, ?_⟩) hH ?_
          rotate_left
          · kernel_rfl
          · kernel_rfl
          · kernel_rfl
          · exact fun _ _ _ h => h
          · kernel_rfl
          · intro wS hSw
            try dsimp only at hSw
            go_simp
            try with_reducible rfl
          try simp only [Act.put, List.setIfInBounds_toArray, List.set_cons_zero, List.set_cons_succ]
          refine wpAnyH_ready (rs := [2]) (by kernel_rfl) (by simp) ?_
          refine AllReadyH.cons (o := { dst := some 28, op := Go.Op.call { callee := Go.Callee.value (Go.Operand.func 25), args := #[Go.Operand.tmp 27], argTypes := #[25] }, type := 3, pos := "remap.go:89", after := #[{ on := 1, ground := Go.Ground.data }], guard := none }) rfl (fun K hK => ?_) AllReadyH.nil
          · go_simp
            refine (HL.out _ S0.out.2.2.2.2.1).mono ?_
            rintro e2 w2 ⟨rfl, b2⟩
            try go_wp2_with fail
            have S2 := Lib.hid (heldS S0.out b2)
            have P2 := Lib.hid (P1.out.keep b2)
            have T2 := Lib.hid (T1.out.keep b2)
            have Q2 := Lib.hid (Q1.out.keep b2)
            clear b2
            refine hK.out _ _ ?_ (fun hH1 => ?_)
            · exact S2.out
            clear hK K hH
            try simp only [Act.put, List.setIfInBounds_toArray, List.set_cons_zero, List.set_cons_succ]
            refine wpAnyH_ready (rs := [3]) (by kernel_rfl) (by simp) ?_
            refine AllReadyH.cons (o := { dst := some 29, op := Go.Op.call { callee := Go.Callee.value (Go.Operand.func 46), args := #[Go.Operand.tmp 26, Go.Operand.tmp 28], argTypes := #[37, 3] }, type := 64, pos := "remap.go:89", after := #[{ on := 0, ground := Go.Ground.data }, { on := 2, ground := Go.Ground.data }, { on := 2, ground := Go.Ground.chain }], guard := none }) rfl (fun K hK => ?_) AllReadyH.nil
            · go_simp
              refine (HSc.out _).mono ?_
              rintro e3 w3 ⟨rfl, b3⟩
              try go_wp2_with fail
              have S3 := Lib.hid (heldS S2.out b3)
              have P3 := Lib.hid (P2.out.keep b3)
              have T3 := Lib.hid (T2.out.keep b3)
              have Q3 := Lib.hid (Q2.out.keep b3)
              have B3 := Lib.hid S3.out.2.2.2.2.1
              clear b3
              refine hK.out _ _ ?_ (fun hH2 => ?_)
              · exact S3.out
              clear hK K hH1
              try simp only [Act.put, List.setIfInBounds_toArray, List.set_cons_zero, List.set_cons_succ]
              refine wpAnyH_take (i := 4) (oi := { dst := some 25, op := Go.Op.move (Go.Operand.tmp 29), type := 64, pos := "remap.go:89", after := #[{ on := 3, ground := Go.Ground.data }], guard := none }) (v := ?_) rfl ?_ ?_ ?_ ?_ (Or.inl ⟨?_, ?_⟩) hH2 ?_
              rotate_left
              · kernel_rfl
              · kernel_rfl
              · kernel_rfl
              · exact fun _ _ _ h => h
              · kernel_rfl
              · intro wS hSw
                try dsimp only at hSw
                go_simp
                try with_reducible rfl
              try simp only [Act.put, List.setIfInBounds_toArray, List.set_cons_zero, List.set_cons_succ]
              refine wpAnyH_take (i := 5) (oi := { dst := some 30, op := Go.Op.extract (Go.Operand.tmp 25) 0, type := 3, pos := "remap.go:89", after := #[{ on := 4, ground := Go.Ground.data }], guard := none }) (v := ?_) rfl ?_ ?_ ?_ ?_ (Or.inl ⟨?_, ?_⟩) hH2 ?_
              rotate_left
              · kernel_rfl
              · kernel_rfl
              · kernel_rfl
              · exact fun _ _ _ h => h
              · kernel_rfl
              · intro wS hSw
                try dsimp only at hSw
                go_simp
                try with_reducible rfl
              try simp only [Act.put, List.setIfInBounds_toArray, List.set_cons_zero, List.set_cons_succ]
              refine wpAnyH_take (i := 6) (oi := { dst := some 31, op := Go.Op.extract (Go.Operand.tmp 25) 1, type := 28, pos := "remap.go:89", after := #[{ on := 4, ground := Go.Ground.data }, { on := 7, ground := Go.Ground.gcOnly Go.Departure.lateStores }], guard := none }) (v := ?_) rfl ?_ ?_ ?_ ?_ (Or.inl ⟨?_, ?_⟩) hH2 ?_
              rotate_left
              · kernel_rfl
              · kernel_rfl
              · kernel_rfl
              · exact fun _ _ _ h => h
              · kernel_rfl
              · intro wS hSw
                try dsimp only at hSw
                go_simp
                try with_reducible rfl
              try simp only [Act.put, List.setIfInBounds_toArray, List.set_cons_zero, List.set_cons_succ]
              refine wpAnyH_take (i := 7) (oi := { dst := some 7, op := Go.Op.assign (Go.Operand.tmp 30), type := 3, pos := "remap.go:89", after := #[{ on := 5, ground := Go.Ground.data }, { on := 3, ground := Go.Ground.chain }, { on := 0, ground := Go.Ground.phase }, { on := 1, ground := Go.Ground.phase }, { on := 2, ground := Go.Ground.phase }, { on := 3, ground := Go.Ground.phase }, { on := 4, ground := Go.Ground.phase }, { on := 5, ground := Go.Ground.phase }, { on := 6, ground := Go.Ground.textOnly Go.Departure.lateStores }], guard := none }) (v := ?_) rfl ?_ ?_ ?_ ?_ (Or.inl ⟨?_, ?_⟩) hH2 ?_
              rotate_left
              · kernel_rfl
              · kernel_rfl
              · kernel_rfl
              · exact fun _ _ _ h => h
              · kernel_rfl
              · intro wS hSw
                try dsimp only at hSw
                go_simp
                try with_reducible rfl
              try simp only [Act.put, List.setIfInBounds_toArray, List.set_cons_zero, List.set_cons_succ]
              refine wpAnyH_take (i := 8) (oi := { dst := some 8, op := Go.Op.assign (Go.Operand.tmp 31), type := 28, pos := "remap.go:89", after := #[{ on := 6, ground := Go.Ground.data }, { on := 7, ground := Go.Ground.chain }, { on := 0, ground := Go.Ground.phase }, { on := 1, ground := Go.Ground.phase }, { on := 2, ground := Go.Ground.phase }, { on := 3, ground := Go.Ground.phase }, { on := 4, ground := Go.Ground.phase }, { on := 5, ground := Go.Ground.phase }, { on := 6, ground := Go.Ground.phase }, { on := 7, ground := Go.Ground.phase }], guard := none }) (v := ?_) rfl ?_ ?_ ?_ ?_ (Or.inl ⟨?_, ?_⟩) hH2 ?_
              rotate_left
              · kernel_rfl
              · kernel_rfl
              · kernel_rfl
              · exact fun _ _ _ h => h
              · kernel_rfl
              · intro wS hSw
                try dsimp only at hSw
                go_simp
                try with_reducible rfl
              try simp only [Act.put, List.setIfInBounds_toArray, List.set_cons_zero, List.set_cons_succ]
              refine wpAnyH_done (by kernel_rfl) ?_ _
              clear S0 S2 S3
              have g0 := P3.out.cell 0
              have g1 := P3.out.cell 1
              have t0 := T3.out.cell 0
              have t1 := T3.out.cell 1
              have k0 := Q3.out.cell 0
              have k1 := Q3.out.cell 1
              have z0 := Q3.out.frozen 0
              have z1 := Q3.out.frozen 1
              go_wp2
              have e0 := (two_set (v0 := .slice none 0 0) (v1 := .slice none 0 0) k0 k1).1
              have e1 := (two_set (v0 := .slice none 0 0) (v1 := .slice none 0 0) k0 k1).2
              refine bodyPost_ret (v := .tuple #[.agg #[.slice none 0 0, .slice none 0 0], .int .i64 3]) (by simp [results, Try.results21, go_sem, e0, e1]) rfl ⟨_, _, by rw [HE.out], by rw [HN0.out]; exact nm_nil _, by rw [HR0.out]; exact rn_nil _, Below.setCell (Below.setCell B3.out (by show w.heap.size ≤ w.heap.size + 2; omega) _) (by show w.heap.size ≤ w.heap.size + 2; omega) _⟩
        · have HSc := Lib.hid (show ∀ w', Calls Try.prog 46 #[.agg #[.int .i64 n, .int .i64 d], .int .i64 (lg R)] w' fun e w'' => e = .returned (.tuple #[.int .i64 (fs n d (lg R)), .int .i64 0]) ∧ Below w'.heap.size w' w'' by
            intro w'
            have := hSc w'
            simp only [Sr.scV, Sr.scE] at this
            rw [if_neg (by omega), if_neg (by omega)] at this
            exact this)
          by_cases h3 : 1099511627776 < fs n d (lg R)
          · have he := sx_3 hz hor (Or.inr h3)
            have hne : ¬ sxE N R n d = 0 := by rw [he]; exact by decide
            have HN0 := Lib.hid (sxN_no hne)
            have HR0 := Lib.hid (sxR_no hne)
            have HE := Lib.hid he
            clear hne he
            rw [hz] at HK
            rw [hv] at HV
            clear HCp' HSR' HSR2 HCp hck hz hor hSc hrg h2
            generalize fs n d (lg R) = F at *
            generalize lg R = G at *
            have d3 : decide (1099511627776 < F) = true := decide_eq_true h3
            go_enter Try.func21, Try.ntmps21
            go_wp2_with (first
              | (go_at_call 24; go_must (refine (HK.out _ B0.out).mono ?_; rintro e1 w1 ⟨rfl, b1⟩; have BA := Lib.hid (B0.out.trans (b1.mono B0.out.size)); have PA := Lib.hid (P0.out.keep b1); have TA := Lib.hid (T0.out.keep b1); have QA := Lib.hid (Q0.out.keep b1); clear g0 g1 t0 t1 k0 k1 z0 z1; have g0 := PA.out.cell 0; have g1 := PA.out.cell 1; have t0 := TA.out.cell 0; have t1 := TA.out.cell 1; have k0 := QA.out.cell 0; have k1 := QA.out.cell 1; have z0 := QA.out.frozen 0; have z1 := QA.out.frozen 1; clear b1))
              | (go_at_call 45; go_must (refine (HV.out _).mono ?_; rintro e2 wv ⟨rfl, b2⟩; have B1 := Lib.hid (BA.out.trans (b2.mono BA.out.size)); have P1 := Lib.hid (PA.out.keep b2); have T1 := Lib.hid (TA.out.keep b2); have Q1 := Lib.hid (QA.out.keep b2); clear g0 g1 t0 t1 k0 k1 z0 z1; have g0 := P1.out.cell 0; have g1 := P1.out.cell 1; have t0 := T1.out.cell 0; have t1 := T1.out.cell 1; have k0 := Q1.out.cell 0; have k1 := Q1.out.cell 1; have z0 := Q1.out.frozen 0; have z1 := Q1.out.frozen 1; clear b2)))
            generalize hW1 : wv = WX at *
            clear hW1
            have S0 := Lib.hid (show WX.drew.cell? ⟨w.heap.size, 0, none⟩ = some (.slice A1 N.length c1) ∧ WX.drew.cell? ⟨w.heap.size, 1, none⟩ = some (.slice A2 R.length c2) ∧ WX.drew.cell? ⟨w.heap.size + 1, 0, none⟩ = some (.int .i64 n) ∧ WX.drew.cell? ⟨w.heap.size + 1, 1, none⟩ = some (.int .i64 d) ∧ Below w.heap.size w WX.drew ∧ w.heap.size + 2 < WX.drew.heap.size from ⟨P1.out.cell 0, P1.out.cell 1, T1.out.cell 0, T1.out.cell 1, B1.out.drew, Q1.out.lt⟩)
            have P1d := P1
            have T1d := T1
            have Q1d := Q1
            clear P1 T1 Q1 g0 g1 t0 t1 k0 k1 z0 z1
            have P1 := Lib.hid (show RowAt WX.drew _ _ _ from P1d.out)
            have T1 := Lib.hid (show RowAt WX.drew _ _ _ from T1d.out)
            have Q1 := Lib.hid (show RowAt WX.drew _ _ _ from Q1d.out)
            clear P1d T1d Q1d
            refine wp_region_held_drew (S := fun w' => w'.cell? ⟨w.heap.size, 0, none⟩ = some (.slice A1 N.length c1) ∧ w'.cell? ⟨w.heap.size, 1, none⟩ = some (.slice A2 R.length c2) ∧ w'.cell? ⟨w.heap.size + 1, 0, none⟩ = some (.int .i64 n) ∧ w'.cell? ⟨w.heap.size + 1, 1, none⟩ = some (.int .i64 d) ∧ Below w.heap.size w w' ∧ w.heap.size + 2 < w'.heap.size) (by kernel_rfl) ?_ (fun hH => ?_)
            · exact S0.out
            generalize WX.drew = WD at *
            refine wpAnyH_take (i := 0) (oi := { dst := some 26, op := Go.Op.load 37 (Go.Operand.tmp 3), type := 37, pos := "remap.go:89", after := #[], guard := none }) (v := ?_) rfl ?_ ?_ ?_ ?_ (Or.inl ⟨?_, ?_⟩) hH ?_
            rotate_left
            · kernel_rfl
            · kernel_rfl
            · kernel_rfl
            · exact fun _ _ _ h => h
            · kernel_rfl
            · intro wS hSw
              try dsimp only at hSw
              go_simp
              try with_reducible rfl
            try simp only [Act.put, List.setIfInBounds_toArray, List.set_cons_zero, List.set_cons_succ]
            refine wpAnyH_take (i := 1) (oi := { dst := some 27, op := Go.Op.load 25 (Go.Operand.tmp 2), type := 25, pos := "remap.go:89", after := #[], guard := none }) (v := ?_) rfl ?_ ?_ ?_ ?_ (Or.inl ⟨?_, ?_⟩) hH ?_
            rotate_left
            · kernel_rfl
            · kernel_rfl
            · kernel_rfl
            · exact fun _ _ _ h => h
            · kernel_rfl
            · intro wS hSw
              try dsimp only at hSw
              go_simp
              try with_reducible rfl
            try simp only [Act.put, List.setIfInBounds_toArray, List.set_cons_zero, List.set_cons_succ]
            refine wpAnyH_ready (rs := [2]) (by kernel_rfl) (by simp) ?_
            refine AllReadyH.cons (o := { dst := some 28, op := Go.Op.call { callee := Go.Callee.value (Go.Operand.func 25), args := #[Go.Operand.tmp 27], argTypes := #[25] }, type := 3, pos := "remap.go:89", after := #[{ on := 1, ground := Go.Ground.data }], guard := none }) rfl (fun K hK => ?_) AllReadyH.nil
            · go_simp
              refine (HL.out _ S0.out.2.2.2.2.1).mono ?_
              rintro e2 w2 ⟨rfl, b2⟩
              try go_wp2_with fail
              have S2 := Lib.hid (heldS S0.out b2)
              have P2 := Lib.hid (P1.out.keep b2)
              have T2 := Lib.hid (T1.out.keep b2)
              have Q2 := Lib.hid (Q1.out.keep b2)
              clear b2
              refine hK.out _ _ ?_ (fun hH3 => ?_)
              · exact S2.out
              clear hK K hH
              try simp only [Act.put, List.setIfInBounds_toArray, List.set_cons_zero, List.set_cons_succ]
              refine wpAnyH_ready (rs := [3]) (by kernel_rfl) (by simp) ?_
              refine AllReadyH.cons (o := { dst := some 29, op := Go.Op.call { callee := Go.Callee.value (Go.Operand.func 46), args := #[Go.Operand.tmp 26, Go.Operand.tmp 28], argTypes := #[37, 3] }, type := 64, pos := "remap.go:89", after := #[{ on := 0, ground := Go.Ground.data }, { on := 2, ground := Go.Ground.data }, { on := 2, ground := Go.Ground.chain }], guard := none }) rfl (fun K hK => ?_) AllReadyH.nil
              · go_simp
                refine (HSc.out _).mono ?_
                rintro e3 w3 ⟨rfl, b3⟩
                try go_wp2_with fail
                have S3 := Lib.hid (heldS S2.out b3)
                have P3 := Lib.hid (P2.out.keep b3)
                have T3 := Lib.hid (T2.out.keep b3)
                have Q3 := Lib.hid (Q2.out.keep b3)
                have B3 := Lib.hid S3.out.2.2.2.2.1
                clear b3
                refine hK.out _ _ ?_ (fun hH4 => ?_)
                · exact S3.out
                clear hK K hH3
                try simp only [Act.put, List.setIfInBounds_toArray, List.set_cons_zero, List.set_cons_succ]
                refine wpAnyH_take (i := 4) (oi := { dst := some 25, op := Go.Op.move (Go.Operand.tmp 29), type := 64, pos := "remap.go:89", after := #[{ on := 3, ground := Go.Ground.data }], guard := none }) (v := ?_) rfl ?_ ?_ ?_ ?_ (Or.inl ⟨?_, ?_⟩) hH4 ?_
                rotate_left
                · kernel_rfl
                · kernel_rfl
                · kernel_rfl
                · exact fun _ _ _ h => h
                · kernel_rfl
                · intro wS hSw
                  try dsimp only at hSw
                  go_simp
                  try with_reducible rfl
                try simp only [Act.put, List.setIfInBounds_toArray, List.set_cons_zero, List.set_cons_succ]
                refine wpAnyH_take (i := 5) (oi := { dst := some 30, op := Go.Op.extract (Go.Operand.tmp 25) 0, type := 3, pos := "remap.go:89", after := #[{ on := 4, ground := Go.Ground.data }], guard := none }) (v := ?_) rfl ?_ ?_ ?_ ?_ (Or.inl ⟨?_, ?_⟩) hH4 ?_
                rotate_left
                · kernel_rfl
                · kernel_rfl
                · kernel_rfl
                · exact fun _ _ _ h => h
                · kernel_rfl
                · intro wS hSw
                  try dsimp only at hSw
                  go_simp
                  try with_reducible rfl
                try simp only [Act.put, List.setIfInBounds_toArray, List.set_cons_zero, List.set_cons_succ]
                refine wpAnyH_take (i := 6) (oi := { dst := some 31, op := Go.Op.extract (Go.Operand.tmp 25) 1, type := 28, pos := "remap.go:89", after := #[{ on := 4, ground := Go.Ground.data }, { on := 7, ground := Go.Ground.gcOnly Go.Departure.lateStores }], guard := none }) (v := ?_) rfl ?_ ?_ ?_ ?_ (Or.inl ⟨?_, ?_⟩) hH4 ?_
                rotate_left
                · kernel_rfl
                · kernel_rfl
                · kernel_rfl
                · exact fun _ _ _ h => h
                · kernel_rfl
                · intro wS hSw
                  try dsimp only at hSw
                  go_simp
                  try with_reducible rfl
                try simp only [Act.put, List.setIfInBounds_toArray, List.set_cons_zero, List.set_cons_succ]
                refine wpAnyH_take (i := 7) (oi := { dst := some 7, op := Go.Op.assign (Go.Operand.tmp 30), type := 3, pos := "remap.go:89", after := #[{ on := 5, ground := Go.Ground.data }, { on := 3, ground := Go.Ground.chain }, { on := 0, ground := Go.Ground.phase }, { on := 1, ground := Go.Ground.phase }, { on := 2, ground := Go.Ground.phase }, { on := 3, ground := Go.Ground.phase }, { on := 4, ground := Go.Ground.phase }, { on := 5, ground := Go.Ground.phase }, { on := 6, ground := Go.Ground.textOnly Go.Departure.lateStores }], guard := none }) (v := ?_) rfl ?_ ?_ ?_ ?_ (Or.inl ⟨?_, ?_⟩) hH4 ?_
                rotate_left
                · kernel_rfl
                · kernel_rfl
                · kernel_rfl
                · exact fun _ _ _ h => h
                · kernel_rfl
                · intro wS hSw
                  try dsimp only at hSw
                  go_simp
                  try with_reducible rfl
                try simp only [Act.put, List.setIfInBounds_toArray, List.set_cons_zero, List.set_cons_succ]
                refine wpAnyH_take (i := 8) (oi := { dst := some 8, op := Go.Op.assign (Go.Operand.tmp 31), type := 28, pos := "remap.go:89", after := #[{ on := 6, ground := Go.Ground.data }, { on := 7, ground := Go.Ground.chain }, { on := 0, ground := Go.Ground.phase }, { on := 1, ground := Go.Ground.phase }, { on := 2, ground := Go.Ground.phase }, { on := 3, ground := Go.Ground.phase }, { on := 4, ground := Go.Ground.phase }, { on := 5, ground := Go.Ground.phase }, { on := 6, ground := Go.Ground.phase }, { on := 7, ground := Go.Ground.phase }], guard := none }) (v := ?_) rfl ?_ ?_ ?_ ?_ (Or.inl ⟨?_, ?_⟩) hH4 ?_
                rotate_left
                · kernel_rfl
                · kernel_rfl
                · kernel_rfl
                · exact fun _ _ _ h => h
                · kernel_rfl
                · intro wS hSw
                  try dsimp only at hSw
                  go_simp
                  try with_reducible rfl
                try simp only [Act.put, List.setIfInBounds_toArray, List.set_cons_zero, List.set_cons_succ]
                refine wpAnyH_done (by kernel_rfl) ?_ _
                clear S0 S2 S3
                have g0 := P3.out.cell 0
                have g1 := P3.out.cell 1
                have t0 := T3.out.cell 0
                have t1 := T3.out.cell 1
                have k0 := Q3.out.cell 0
                have k1 := Q3.out.cell 1
                have z0 := Q3.out.frozen 0
                have z1 := Q3.out.frozen 1
                go_wp2
                have e0 := (two_set (v0 := .slice none 0 0) (v1 := .slice none 0 0) k0 k1).1
                have e1 := (two_set (v0 := .slice none 0 0) (v1 := .slice none 0 0) k0 k1).2
                refine bodyPost_ret (v := .tuple #[.agg #[.slice none 0 0, .slice none 0 0], .int .i64 3]) (by simp [results, Try.results21, go_sem, e0, e1]) rfl ⟨_, _, by rw [HE.out], by rw [HN0.out]; exact nm_nil _, by rw [HR0.out]; exact rn_nil _, Below.setCell (Below.setCell B3.out (by show w.heap.size ≤ w.heap.size + 2; omega) _) (by show w.heap.size ≤ w.heap.size + 2; omega) _⟩
          · have he := sx_0 hz hor (by rintro (h | h); exact h2 h; exact h3 h)
            obtain ⟨q1, q2, q3⟩ := sx_good he
            have HN0 := Lib.hid (sxN_0 he)
            have HR0 := Lib.hid (sxR_0 he)
            have HE := Lib.hid he
            have HCln := Lib.hid (fun V U w' (h1 : NmArg w' V N) (h2 : RnArg w' U (scr (fs n d) 0 R)) => clean12_any N (scr (fs n d) 0 R) V U w' h1 hs h2 q1)
            have HSR := Lib.hid (HSR2 hv (by omega) (by omega) (by omega))
            rw [hz] at HK
            rw [hv] at HV
            clear HCp' HSR' HSR2 hck hz hor hSc hrg h2 he q1 q2 q3
            generalize hF : fs n d (lg R) = F at *
            clear hF
            generalize lg R = G at *
            have d3 : decide (1099511627776 < F) = false := decide_eq_false h3
            go_enter Try.func21, Try.ntmps21
            go_wp2_with (first
              | (go_at_call 24; go_must (refine (HK.out _ B0.out).mono ?_; rintro e1 w1 ⟨rfl, b1⟩; have BA := Lib.hid (B0.out.trans (b1.mono B0.out.size)); have PA := Lib.hid (P0.out.keep b1); have TA := Lib.hid (T0.out.keep b1); have QA := Lib.hid (Q0.out.keep b1); clear g0 g1 t0 t1 k0 k1 z0 z1; have g0 := PA.out.cell 0; have g1 := PA.out.cell 1; have t0 := TA.out.cell 0; have t1 := TA.out.cell 1; have k0 := QA.out.cell 0; have k1 := QA.out.cell 1; have z0 := QA.out.frozen 0; have z1 := QA.out.frozen 1; clear b1))
              | (go_at_call 45; go_must (refine (HV.out _).mono ?_; rintro e2 wv ⟨rfl, b2⟩; have B1 := Lib.hid (BA.out.trans (b2.mono BA.out.size)); have P1 := Lib.hid (PA.out.keep b2); have T1 := Lib.hid (TA.out.keep b2); have Q1 := Lib.hid (QA.out.keep b2); clear g0 g1 t0 t1 k0 k1 z0 z1; have g0 := P1.out.cell 0; have g1 := P1.out.cell 1; have t0 := T1.out.cell 0; have t1 := T1.out.cell 1; have k0 := Q1.out.cell 0; have k1 := Q1.out.cell 1; have z0 := Q1.out.frozen 0; have z1 := Q1.out.frozen 1; clear b2)))
            generalize hW1 : wv = WX at *
            clear hW1
            have S0 := Lib.hid (show WX.drew.cell? ⟨w.heap.size, 0, none⟩ = some (.slice A1 N.length c1) ∧ WX.drew.cell? ⟨w.heap.size, 1, none⟩ = some (.slice A2 R.length c2) ∧ WX.drew.cell? ⟨w.heap.size + 1, 0, none⟩ = some (.int .i64 n) ∧ WX.drew.cell? ⟨w.heap.size + 1, 1, none⟩ = some (.int .i64 d) ∧ Below w.heap.size w WX.drew ∧ w.heap.size + 2 < WX.drew.heap.size from ⟨P1.out.cell 0, P1.out.cell 1, T1.out.cell 0, T1.out.cell 1, B1.out.drew, Q1.out.lt⟩)
            have P1d := P1
            have T1d := T1
            have Q1d := Q1
            clear P1 T1 Q1 g0 g1 t0 t1 k0 k1 z0 z1
            have P1 := Lib.hid (show RowAt WX.drew _ _ _ from P1d.out)
            have T1 := Lib.hid (show RowAt WX.drew _ _ _ from T1d.out)
            have Q1 := Lib.hid (show RowAt WX.drew _ _ _ from Q1d.out)
            clear P1d T1d Q1d
            refine wp_region_held_drew (S := fun w' => w'.cell? ⟨w.heap.size, 0, none⟩ = some (.slice A1 N.length c1) ∧ w'.cell? ⟨w.heap.size, 1, none⟩ = some (.slice A2 R.length c2) ∧ w'.cell? ⟨w.heap.size + 1, 0, none⟩ = some (.int .i64 n) ∧ w'.cell? ⟨w.heap.size + 1, 1, none⟩ = some (.int .i64 d) ∧ Below w.heap.size w w' ∧ w.heap.size + 2 < w'.heap.size) (by kernel_rfl) ?_ (fun hH => ?_)
            · exact S0.out
            generalize WX.drew = WD at *
            refine wpAnyH_take (i := 0) (oi := { dst := some 26, op := Go.Op.load 37 (Go.Operand.tmp 3), type := 37, pos := "remap.go:89", after := #[], guard := none }) (v := ?_) rfl ?_ ?_ ?_ ?_ (Or.inl ⟨?_, ?_⟩) hH ?_
            rotate_left
            · kernel_rfl
            · kernel_rfl
            · kernel_rfl
            · exact fun _ _ _ h => h
            · kernel_rfl
            · intro wS hSw
              try dsimp only at hSw
              go_simp
              try with_reducible rfl
            try simp only [Act.put, List.setIfInBounds_toArray, List.set_cons_zero, List.set_cons_succ]
            refine wpAnyH_take (i := 1) (oi := { dst := some 27, op := Go.Op.load 25 (Go.Operand.tmp 2), type := 25, pos := "remap.go:89", after := #[], guard := none }) (v := ?_) rfl ?_ ?_ ?_ ?_ (Or.inl ⟨?_, ?_⟩) hH ?_
            rotate_left
            · kernel_rfl
            · kernel_rfl
            · kernel_rfl
            · exact fun _ _ _ h => h
            · kernel_rfl
            · intro wS hSw
              try dsimp only at hSw
              go_simp
              try with_reducible rfl
            try simp only [Act.put, List.setIfInBounds_toArray, List.set_cons_zero, List.set_cons_succ]
            refine wpAnyH_ready (rs := [2]) (by kernel_rfl) (by simp) ?_
            refine AllReadyH.cons (o := { dst := some 28, op := Go.Op.call { callee := Go.Callee.value (Go.Operand.func 25), args := #[Go.Operand.tmp 27], argTypes := #[25] }, type := 3, pos := "remap.go:89", after := #[{ on := 1, ground := Go.Ground.data }], guard := none }) rfl (fun K hK => ?_) AllReadyH.nil
            · go_simp
              refine (HL.out _ S0.out.2.2.2.2.1).mono ?_
              rintro e2 w2 ⟨rfl, b2⟩
              try go_wp2_with fail
              have S2 := Lib.hid (heldS S0.out b2)
              have P2 := Lib.hid (P1.out.keep b2)
              have T2 := Lib.hid (T1.out.keep b2)
              have Q2 := Lib.hid (Q1.out.keep b2)
              clear b2
              refine hK.out _ _ ?_ (fun hH5 => ?_)
              · exact S2.out
              clear hK K hH
              try simp only [Act.put, List.setIfInBounds_toArray, List.set_cons_zero, List.set_cons_succ]
              refine wpAnyH_ready (rs := [3]) (by kernel_rfl) (by simp) ?_
              refine AllReadyH.cons (o := { dst := some 29, op := Go.Op.call { callee := Go.Callee.value (Go.Operand.func 46), args := #[Go.Operand.tmp 26, Go.Operand.tmp 28], argTypes := #[37, 3] }, type := 64, pos := "remap.go:89", after := #[{ on := 0, ground := Go.Ground.data }, { on := 2, ground := Go.Ground.data }, { on := 2, ground := Go.Ground.chain }], guard := none }) rfl (fun K hK => ?_) AllReadyH.nil
              · go_simp
                refine (HSc.out _).mono ?_
                rintro e3 w3 ⟨rfl, b3⟩
                try go_wp2_with fail
                have S3 := Lib.hid (heldS S2.out b3)
                have P3 := Lib.hid (P2.out.keep b3)
                have T3 := Lib.hid (T2.out.keep b3)
                have Q3 := Lib.hid (Q2.out.keep b3)
                have B3 := Lib.hid S3.out.2.2.2.2.1
                clear b3
                refine hK.out _ _ ?_ (fun hH6 => ?_)
                · exact S3.out
                clear hK K hH5
                try simp only [Act.put, List.setIfInBounds_toArray, List.set_cons_zero, List.set_cons_succ]
                refine wpAnyH_take (i := 4) (oi := { dst := some 25, op := Go.Op.move (Go.Operand.tmp 29), type := 64, pos := "remap.go:89", after := #[{ on := 3, ground := Go.Ground.data }], guard := none }) (v := ?_) rfl ?_ ?_ ?_ ?_ (Or.inl ⟨?_, ?_⟩) hH6 ?_
                rotate_left
                · kernel_rfl
                · kernel_rfl
                · kernel_rfl
                · exact fun _ _ _ h => h
                · kernel_rfl
                · intro wS hSw
                  try dsimp only at hSw
                  go_simp
                  try with_reducible rfl
                try simp only [Act.put, List.setIfInBounds_toArray, List.set_cons_zero, List.set_cons_succ]
                refine wpAnyH_take (i := 5) (oi := { dst := some 30, op := Go.Op.extract (Go.Operand.tmp 25) 0, type := 3, pos := "remap.go:89", after := #[{ on := 4, ground := Go.Ground.data }], guard := none }) (v := ?_) rfl ?_ ?_ ?_ ?_ (Or.inl ⟨?_, ?_⟩) hH6 ?_
                rotate_left
                · kernel_rfl
                · kernel_rfl
                · kernel_rfl
                · exact fun _ _ _ h => h
                · kernel_rfl
                · intro wS hSw
                  try dsimp only at hSw
                  go_simp
                  try with_reducible rfl
                try simp only [Act.put, List.setIfInBounds_toArray, List.set_cons_zero, List.set_cons_succ]
                refine wpAnyH_take (i := 6) (oi := { dst := some 31, op := Go.Op.extract (Go.Operand.tmp 25) 1, type := 28, pos := "remap.go:89", after := #[{ on := 4, ground := Go.Ground.data }, { on := 7, ground := Go.Ground.gcOnly Go.Departure.lateStores }], guard := none }) (v := ?_) rfl ?_ ?_ ?_ ?_ (Or.inl ⟨?_, ?_⟩) hH6 ?_
                rotate_left
                · kernel_rfl
                · kernel_rfl
                · kernel_rfl
                · exact fun _ _ _ h => h
                · kernel_rfl
                · intro wS hSw
                  try dsimp only at hSw
                  go_simp
                  try with_reducible rfl
                try simp only [Act.put, List.setIfInBounds_toArray, List.set_cons_zero, List.set_cons_succ]
                refine wpAnyH_take (i := 7) (oi := { dst := some 7, op := Go.Op.assign (Go.Operand.tmp 30), type := 3, pos := "remap.go:89", after := #[{ on := 5, ground := Go.Ground.data }, { on := 3, ground := Go.Ground.chain }, { on := 0, ground := Go.Ground.phase }, { on := 1, ground := Go.Ground.phase }, { on := 2, ground := Go.Ground.phase }, { on := 3, ground := Go.Ground.phase }, { on := 4, ground := Go.Ground.phase }, { on := 5, ground := Go.Ground.phase }, { on := 6, ground := Go.Ground.textOnly Go.Departure.lateStores }], guard := none }) (v := ?_) rfl ?_ ?_ ?_ ?_ (Or.inl ⟨?_, ?_⟩) hH6 ?_
                rotate_left
                · kernel_rfl
                · kernel_rfl
                · kernel_rfl
                · exact fun _ _ _ h => h
                · kernel_rfl
                · intro wS hSw
                  try dsimp only at hSw
                  go_simp
                  try with_reducible rfl
                try simp only [Act.put, List.setIfInBounds_toArray, List.set_cons_zero, List.set_cons_succ]
                refine wpAnyH_take (i := 8) (oi := { dst := some 8, op := Go.Op.assign (Go.Operand.tmp 31), type := 28, pos := "remap.go:89", after := #[{ on := 6, ground := Go.Ground.data }, { on := 7, ground := Go.Ground.chain }, { on := 0, ground := Go.Ground.phase }, { on := 1, ground := Go.Ground.phase }, { on := 2, ground := Go.Ground.phase }, { on := 3, ground := Go.Ground.phase }, { on := 4, ground := Go.Ground.phase }, { on := 5, ground := Go.Ground.phase }, { on := 6, ground := Go.Ground.phase }, { on := 7, ground := Go.Ground.phase }], guard := none }) (v := ?_) rfl ?_ ?_ ?_ ?_ (Or.inl ⟨?_, ?_⟩) hH6 ?_
                rotate_left
                · kernel_rfl
                · kernel_rfl
                · kernel_rfl
                · exact fun _ _ _ h => h
                · kernel_rfl
                · intro wS hSw
                  try dsimp only at hSw
                  go_simp
                  try with_reducible rfl
                try simp only [Act.put, List.setIfInBounds_toArray, List.set_cons_zero, List.set_cons_succ]
                refine wpAnyH_done (by kernel_rfl) ?_ _
                clear S0 S2 S3
                have g0 := P3.out.cell 0
                have g1 := P3.out.cell 1
                have t0 := T3.out.cell 0
                have t1 := T3.out.cell 1
                have k0 := Q3.out.cell 0
                have k1 := Q3.out.cell 1
                have z0 := Q3.out.frozen 0
                have z1 := Q3.out.frozen 1
                go_wp2_with (first
                  | (go_at_call 35; go_must (refine (HCp.out _ B3.out).mono ?_; rintro e4 w4 ⟨v1, v2, rfl, r1, r2, b4⟩; obtain ⟨UA, UN, UC, rfl, rfl⟩ := KRow.form r1; obtain ⟨VA, VN, VC, rfl, rfl⟩ := KRow.form r2; have B4 := Lib.hid (B3.out.trans (b4.mono B3.out.size)); have Q4 := Lib.hid (Q3.out.keep b4); have P4 := Lib.hid (P3.out.keep b4); have T4 := Lib.hid (T3.out.keep b4); have s3 : w.heap.size + 3 ≤ w3.heap.size := Q3.out.lt; clear g0 g1 t0 t1 k0 k1 z0 z1; have X5 := Lib.hid (RowAt.new w4 25 #[.slice UA N.length UC, .slice VA R.length VC]); have R1 := Lib.hid (KRow.alloc (KRow.mono r1 s3) (.cells #[.slice UA N.length UC, .slice VA R.length VC] 25)); have Q5 := Lib.hid (Q4.out.alloc (.cells #[.slice UA N.length UC, .slice VA R.length VC] 25)); have P5 := Lib.hid (P4.out.alloc (.cells #[.slice UA N.length UC, .slice VA R.length VC] 25)); have T5 := Lib.hid (T4.out.alloc (.cells #[.slice UA N.length UC, .slice VA R.length VC] 25)); have B5 := Lib.hid (B4.out.alloc B4.out.size (.cells #[.slice UA N.length UC, .slice VA R.length VC] 25)); have x0 := X5.out.cell 0; have x1 := X5.out.cell 1; have g0 := P5.out.cell 0; have g1 := P5.out.cell 1; have t0 := T5.out.cell 0; have t1 := T5.out.cell 1; have hs5 := Q5.out.lt; clear r1 r2 b4))
                  | (go_at_call 47; go_must (refine (HSR.out _ B5.out).mono ?_; rintro e6 w6 ⟨v6, rfl, r6, b6⟩; obtain ⟨SA, SN, SC, rfl, rfl⟩ := KRow.form r6; have B6 := Lib.hid (B5.out.trans (b6.mono B5.out.size)); have X6 := Lib.hid (X5.out.keep b6); have Q6 := Lib.hid (Q5.out.keep b6); have R16 := Lib.hid (KRow.keep R1.out b6); have R26 := Lib.hid (KRow.mono r6 hs5); have q1 : w6.cell? ⟨w4.heap.size, 1, none⟩ = some (.slice VA R.length VC) := X6.out.cell 1; have q2 := X6.out.frozen 1; clear x0 x1 g0 g1 t0 t1; have hx4 : w.heap.size + 3 ≤ w4.heap.size := Q4.out.lt; have X7 := Lib.hid (X6.out.set 1 (.slice SA (scr (fs n d) 0 R).length SC)); have Q7 := Lib.hid (Q6.out.other ⟨w4.heap.size, 1, none⟩ (.slice SA (scr (fs n d) 0 R).length SC) (by show w4.heap.size ≠ w.heap.size + 2; omega)); have R17 := Lib.hid (KRow.apart (b := w4.heap.size) R16.out (fun q hq => heap_setCell_other w6 ⟨w4.heap.size, 1, none⟩ (.slice SA (scr (fs n d) 0 R).length SC) q hq) (KRow.off R16.out X6.out (by decide))); have R27 := Lib.hid (KRow.apart (b := w4.heap.size) R26.out (fun q hq => heap_setCell_other w6 ⟨w4.heap.size, 1, none⟩ (.slice SA (scr (fs n d) 0 R).length SC) q hq) (KRow.off R26.out X6.out (by decide))); have B7 := Lib.hid (Below.setCell B6.out (show w.heap.size ≤ (⟨w4.heap.size, 1, none⟩ : Addr).block by show w.heap.size ≤ w4.heap.size; omega) (.slice SA (scr (fs n d) 0 R).length SC)); have y0 : (w6.setCell ⟨w4.heap.size, 1, none⟩ (.slice SA (scr (fs n d) 0 R).length SC)).cell? ⟨w4.heap.size, 0, none⟩ = some (.slice UA N.length UC) := X7.out.cell 0; have y1 : (w6.setCell ⟨w4.heap.size, 1, none⟩ (.slice SA (scr (fs n d) 0 R).length SC)).cell? ⟨w4.heap.size, 1, none⟩ = some (.slice SA (scr (fs n d) 0 R).length SC) := X7.out.cell 1; clear r6 b6))
                  | (go_at_call 44; go_must (refine (HCln.out _ _ _ (KRow.name R17.out) (KRow.arg rnC_size R27.out)).mono ?_; rintro e8 w8 ⟨v1, v2, rfl, hr, _, _, b8⟩; have hB7 := B7.out.size; obtain ⟨r1, r2⟩ := hr (w.heap.size + 3) Q7.out.lt R17.out R27.out; obtain ⟨EA, EN, EC, rfl, rfl⟩ := KRow.form r1; obtain ⟨FA, FN, FC, rfl, hFN⟩ := KRow.form r2; clear hFN hr; have B8 := Lib.hid (B7.out.trans (b8.mono hB7)); have R5 := Lib.hid r1; have R6 := Lib.hid r2; have Q8 := Lib.hid (Q7.out.keep b8); have k0 := Q8.out.cell 0; have k1 := Q8.out.cell 1; have z0 := Q8.out.frozen 0; have z1 := Q8.out.frozen 1; clear r1 r2 b8)))
                have e0 := (two_set (v0 := .slice EA N.length EC) (v1 := .slice FA FN FC) k0 k1).1
                have e1 := (two_set (v0 := .slice EA N.length EC) (v1 := .slice FA FN FC) k0 k1).2
                refine bodyPost_ret (v := .tuple #[.agg #[.slice EA N.length EC, .slice FA FN FC], .int .i64 0]) (by simp [results, Try.results21, go_sem, e0, e1]) rfl ⟨_, _, by rw [HE.out], by rw [HN0.out]; exact KRow.name (KRow.set2 R5.out (Nat.lt_succ_self _) _ _), by rw [HR0.out]; exact KRow.arg rnC_size (KRow.set2 R6.out (Nat.lt_succ_self _) _ _), Below.setCell (Below.setCell B8.out (by show w.heap.size ≤ w.heap.size + 2; omega) _) (by show w.heap.size ≤ w.heap.size + 2; omega) _⟩
  · have he := sx_c (n := n) (d := d) hz
    have hne : ¬ sxE N R n d = 0 := by rw [he]; exact hz
    have HN0 := Lib.hid (sxN_no hne)
    have HR0 := Lib.hid (sxR_no hne)
    have HE := Lib.hid he
    clear hne he
    have hyz : (ckC N R == 0) = false := by simpa using hz
    clear HCp' HL HSR'
    generalize ckC N R = r at *
    clear hz
    go_enter Try.func21, Try.ntmps21
    go_wp2_with (first
      | (go_at_call 24; go_must (refine (HK.out _ B0.out).mono ?_; rintro e1 w1 ⟨rfl, b1⟩; have BA := Lib.hid (B0.out.trans (b1.mono B0.out.size)); have PA := Lib.hid (P0.out.keep b1); have TA := Lib.hid (T0.out.keep b1); have QA := Lib.hid (Q0.out.keep b1); clear g0 g1 t0 t1 k0 k1 z0 z1; have g0 := PA.out.cell 0; have g1 := PA.out.cell 1; have t0 := TA.out.cell 0; have t1 := TA.out.cell 1; have k0 := QA.out.cell 0; have k1 := QA.out.cell 1; have z0 := QA.out.frozen 0; have z1 := QA.out.frozen 1; clear b1)))
    have e0 := (two_set (v0 := .slice none 0 0) (v1 := .slice none 0 0) k0 k1).1
    have e1 := (two_set (v0 := .slice none 0 0) (v1 := .slice none 0 0) k0 k1).2
    refine bodyPost_ret (v := .tuple #[.agg #[.slice none 0 0, .slice none 0 0], .int .i64 r]) (by simp [results, Try.results21, go_sem, e0, e1]) rfl ⟨_, _, by rw [HE.out], by rw [HN0.out]; exact nm_nil _, by rw [HR0.out]; exact rn_nil _, Below.setCell (Below.setCell BA.out (by show w.heap.size ≤ w.heap.size + 2; omega) _) (by show w.heap.size ≤ w.heap.size + 2; omega) _⟩
end Go.Proofs.Yteccafndplaklaa
