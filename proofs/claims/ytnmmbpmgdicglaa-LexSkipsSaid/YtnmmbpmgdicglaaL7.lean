/-
  The walk of the statement LexSkips.
-/
import Derived.Test.YtnmmbpmgdicglaaW17
import Derived.Test.YtnmmbpmgdicglaaM4
import Derived.BigQuiet
namespace Go.Proofs.Ytnmmbpmgdicglaa
open Go.RowKit
set_option linter.unusedVariables false
set_option linter.unusedSimpArgs false

set_option maxRecDepth 200000 in
set_option maxHeartbeats 8000000 in
theorem law_skips (s c : ByteArray) (w : World) (hs : s.size ≤ 140737488351232) (hc : c.size ≤ 140737488351232) :
    Calls Try.prog 7 #[.string s, .string c] w fun e w' => e = .returned (.bool true) ∧ Below w.heap.size w w' := by
  have hs' : (s.size : Int) ≤ 140737488351232 := by omega
  have hc' : (c.size : Int) ≤ 140737488351232 := by omega
  by_cases b1 : 524288 < s.size
  · have b1' : (524288 : Int) < s.size := by omega
    clear b1
    go_enter Try.func7, Try.ntmps7
    go_wp2_with (first
      | (go_at_call 11; go_must (refine (awake_any _).mono ?_; rintro e w5 ⟨rfl, b5⟩)))
    go_returns
    exact ⟨rfl, b5⟩
  have b1' : (s.size : Int) ≤ 524288 := by omega
  have b1n : s.size ≤ 524288 := by omega
  by_cases b2 : 1024 < c.size
  · have b2' : (1024 : Int) < c.size := by omega
    clear b1 b2
    go_enter Try.func7, Try.ntmps7
    go_wp2_with (first
      | (go_at_call 11; go_must (refine (awake_any _).mono ?_; rintro e w5 ⟨rfl, b5⟩)))
    go_returns
    exact ⟨rfl, b5⟩
  have b2' : (c.size : Int) ≤ 1024 := by omega
  have b2n : c.size ≤ 1024 := by omega
  clear b1 b2
  go_enter Try.func7, Try.ntmps7
  go_wp2
  go_loopw [5] (fun x wr => ∃ k : Nat, k ≤ c.size ∧ x = .int .i64 k ∧ wr = w ∧ Hid (∀ j (hj : j < c.size), j < k → c[j].toNat ≠ 10)) (fun x _ => c.size - (intOf x).toNat)
  case atStart => exact ⟨0, by omega, (by first | rfl | trivial), (by first | rfl | trivial), Lib.hid (fun j hj h => by omega)⟩
  case round =>
    obtain ⟨k, hk, rfl, rfl, HK⟩ := hrel
    by_cases hlt : k < c.size
    · have k0 : c[k].toNat < 256 := c[k].toNat_lt
      by_cases c10 : c[k].toNat = 10
      · have f1 : ((c[k].toNat : Int) == 10) = true := by rw [c10]; rfl
        clear c10
        go_wp2_with (first
          | (go_at_call 11; go_must (refine (awake_any _).mono ?_; rintro e w5 ⟨rfl, b5⟩)))
        go_returns
        exact ⟨rfl, b5⟩
      · have f1 : ((c[k].toNat : Int) == 10) = false := by rw [beq_eq_false_iff_ne]; omega
        have HX := Lib.hid (show ∀ j (hj : j < c.size), j < k + 1 → c[j].toNat ≠ 10 from fun j hj h => by
          by_cases e : j = k
          · subst e; exact c10
          · exact HK.out j hj (by omega))
        clear c10
        go_wp2
        go_roundw
        case rel => exact ⟨k + 1, by omega, by go_num, (by first | rfl | trivial), HX⟩
        case measure => simp [intOf]; omega
    · have hno := no10 (c := c) (fun j hj => HK.out j hj (by omega))
      have hD := skip_data s c
      have hDs := skip_size s c b1n b2n
      obtain ⟨D, hDD⟩ : ∃ D : ByteArray, D = ⟨#[9, 35]⟩ ++ c ++ ⟨#[10]⟩ ++ s ++ ⟨#[10, 32, 35]⟩ ++ c := ⟨_, rfl⟩
      rw [← hDD] at hD hDs
      have C1 := fun w => tokens_any s w hs
      have C2 := fun w => tokens_any D w hDs
      rw [hD, hDD] at C2
      unfold anV at C1 C2
      have hsk := skip_ans s.data.toList c.data.toList (by rw [← size_len]; exact b1n) (by rw [← size_len]; exact b2n) hno
      clear hD hDs hno hDD
      rcases hsk with ⟨ts, hA, hB, hl, hn⟩ | ⟨p, e, hA, hB, he0, he4, hp⟩
      · rw [hA] at C1
        rw [hB] at C2
        simp only at C1 C2
        rcases Nat.eq_zero_or_pos ts.length with h0 | h0
        · have h0I : (ts.length : Int) = 0 := by omega
          have hml : (ts.map bump).length = ts.length := List.length_map ..
          have H1 := Lib.hid C1; have H2 := Lib.hid C2
          clear C1 C2 hA hB hn hl
          go_wp2_with (first
            | (go_at_call 8; go_must (first | (with_reducible refine (H2.out _).mono ?_; rintro e2 w2 ⟨V2, rfl, r2, bb2⟩; obtain ⟨UA, UN, UC, rfl, hUN⟩ := r2.form; rw [hml] at hUN; subst hUN; have s2 := bb1.trans (bb2.mono bb1.size)) | (with_reducible refine (H1.out _).mono ?_; rintro e1 w1 ⟨V1, rfl, r1, bb1⟩; obtain ⟨VA, VN, VC, rfl, hVN⟩ := r1.form; subst hVN))))
          go_loopw [12] (fun x wr2 => x = .int .i64 0 ∧ wr2 = w2) (fun _ _ => 0)
          case atStart => exact ⟨(by first | rfl | trivial), (by first | rfl | trivial)⟩
          case round =>
            obtain ⟨rfl, rfl⟩ := hrel
            go_wp2_with (first
              | (go_at_call 11; go_must (refine (awake_any _).mono ?_; rintro e5 w5 ⟨rfl, b5⟩; have s5 := s2.trans (b5.mono s2.size))))
            go_returns
            exact ⟨rfl, s5⟩
        · have hlI : (ts.length : Int) ≤ 1048576 := by omega
          have hml : (ts.map bump).length = ts.length := List.length_map ..
          have HN := Lib.hid (fun j (hj : j < ts.length) => hn ts[j] (List.getElem_mem hj))
          have H1 := Lib.hid C1; have H2 := Lib.hid C2
          clear C1 C2 hA hB hn
          go_wp2_with (first
            | (go_at_call 8; go_must (first | (with_reducible refine (H2.out _).mono ?_; rintro e2 w2 ⟨V2, rfl, r2, bb2⟩; obtain ⟨g2, c2, rfl⟩ := r2.full (by rw [hml]; exact h0); rw [hml]; have s2 := bb1.trans (bb2.mono bb1.size)) | (with_reducible refine (H1.out _).mono ?_; rintro e1 w1 ⟨V1, rfl, r1, bb1⟩; obtain ⟨g1, c1, rfl⟩ := r1.full h0))))
          have q1 := r1.keep bb2
          have F1 := Lib.hid (fun j hj => q1.four j hj)
          have F2 := Lib.hid (show ∀ j (hj : j < ts.length), w2.cell? ⟨g2, j * 4, none⟩ = some (.int .i64 ts[j].k) ∧ w2.cell? ⟨g2, j * 4 + 1, none⟩ = some (.string ⟨ts[j].t.toArray⟩) ∧ w2.cell? ⟨g2, j * 4 + 2, none⟩ = some (.int .i64 ts[j].v) ∧ w2.cell? ⟨g2, j * 4 + 3, none⟩ = some (.int .i64 (ts[j].n + 1)) from fun j hj => by
            have := r2.four j (by rw [hml]; exact hj)
            rw [List.getElem_map] at this
            exact this)
          have lg1 : g1 < w2.heap.size := World.block_lt_of_cell? w2 _ (F1.out 0 h0).1
          have lg2 : g2 < w2.heap.size := World.block_lt_of_cell? w2 _ (F2.out 0 h0).1
          have S2 := Lib.hid s2
          clear r1 r2 q1 bb1 bb2 s2 H1 H2
          go_loopw [12] (fun x wr2 => ∃ i : Nat, i ≤ ts.length ∧ x = .int .i64 i ∧ Hid (Below w2.heap.size w2 wr2)) (fun x _ => ts.length - (intOf x).toNat)
          case atStart => exact ⟨0, by omega, rfl, Lib.hid (Below.refl _ _)⟩
          case round =>
            obtain ⟨i, hi, rfl, HB⟩ := hrel
            by_cases hil : i < ts.length
            · obtain ⟨a0, a1, a2, a3⟩ := F1.out i hil
              obtain ⟨m0, m1, m2, m3⟩ := F2.out i hil
              have hnn := HN.out i hil
              have hwr := HB.out.size
              have q0 : wr.cell? ⟨g2, i * 4, none⟩ = _ := (HB.out.cell (p := ⟨g2, i * 4, none⟩) lg2).trans m0
              have q1 : wr.cell? ⟨g2, i * 4 + 1, none⟩ = _ := (HB.out.cell (p := ⟨g2, i * 4 + 1, none⟩) lg2).trans m1
              have q2 : wr.cell? ⟨g2, i * 4 + 2, none⟩ = _ := (HB.out.cell (p := ⟨g2, i * 4 + 2, none⟩) lg2).trans m2
              have q3 : wr.cell? ⟨g2, i * 4 + 3, none⟩ = _ := (HB.out.cell (p := ⟨g2, i * 4 + 3, none⟩) lg2).trans m3
              generalize ts[i].k = x0 at *
              generalize ts[i].t.toArray = x1 at *
              generalize ts[i].v = x2 at *
              generalize ts[i].n = x3 at *
              clear m0 m1 m2 m3
              go_wp2_with (first
                | (refine wpList_store_at (RowAt.new wr 35 #[.int .i64 0, .string ⟨#[]⟩, .int .i64 0, .int .i64 0]) (Nat.le_refl _) #[.int .i64 x0, .string ⟨x1⟩, .int .i64 x2, .int .i64 (x3 + 1)] (.tmp 13) (.tmp 81) 35 rfl rfl rfl rfl (by kernel_rfl) rfl rfl ?_; intro w3 R3 b3; have f3 : w3.cell? ⟨wr.heap.size, 3, none⟩ = some (.int .i64 (x3 + 1)) := R3.cell 3; have z3 : w3.frozen? ⟨wr.heap.size, 3, none⟩ = false := R3.frozen 3; have R4 := R3.set 3 (.int .i64 x3); have g0 : (w3.setCell ⟨wr.heap.size, 3, none⟩ (.int .i64 x3)).cell? ⟨wr.heap.size, 0, none⟩ = some (.int .i64 x0) := R4.cell 0; have g1' : (w3.setCell ⟨wr.heap.size, 3, none⟩ (.int .i64 x3)).cell? ⟨wr.heap.size, 1, none⟩ = some (.string ⟨x1⟩) := R4.cell 1; have g2' : (w3.setCell ⟨wr.heap.size, 3, none⟩ (.int .i64 x3)).cell? ⟨wr.heap.size, 2, none⟩ = some (.int .i64 x2) := R4.cell 2; have g3' : (w3.setCell ⟨wr.heap.size, 3, none⟩ (.int .i64 x3)).cell? ⟨wr.heap.size, 3, none⟩ = some (.int .i64 x3) := R4.cell 3; have b4 := ((ba wr (.cells #[.int .i64 0, .string ⟨#[]⟩, .int .i64 0, .int .i64 0] 35)).trans b3).trans ((Below.refl wr.heap.size w3).setCell (p := ⟨wr.heap.size, 3, none⟩) (Nat.le_refl _) (.int .i64 x3)); have B4 := HB.out.trans (b4.mono hwr); have l0 := (B4.cell (p := ⟨g1, i * 4, none⟩) lg1).trans a0; have l1 := (B4.cell (p := ⟨g1, i * 4 + 1, none⟩) lg1).trans a1; have l2 := (B4.cell (p := ⟨g1, i * 4 + 2, none⟩) lg1).trans a2; have l3 := (B4.cell (p := ⟨g1, i * 4 + 3, none⟩) lg1).trans a3))
              go_quiet (fail)
              go_wp2
              go_roundw
              case rel => exact ⟨i + 1, by omega, by go_num, Lib.hid (Go.below_drewN B4 _)⟩
              case measure => simp [intOf]; omega
            · have S3 := S2.out.trans (HB.out.mono S2.out.size)
              go_wp2_with (first
                | (go_at_call 11; go_must (refine (awake_any _).mono ?_; rintro e5 w5 ⟨rfl, b5⟩; have s5 := S3.trans (b5.mono S3.size))))
              go_returns
              exact ⟨rfl, s5⟩
      · rw [hA] at C1
        rw [hB] at C2
        simp only at C1 C2
        have hpp : ((p + 1 : Nat) : Int) = (p : Int) + 1 := by omega
        simp only [hpp] at C2
        have hp' : (p : Int) ≤ 2000000 := by omega
        have he' : ((e : Int) != 0) = true := by rw [bne_iff_ne]; omega
        have H1 := Lib.hid C1; have H2 := Lib.hid C2
        clear C1 C2 hA hB hpp he0
        go_wp2_with (first
          | (go_at_call 8; go_must (first | (with_reducible refine (H2.out _).mono ?_; rintro e2 w2 ⟨V2, rfl, r2, bb2⟩; obtain ⟨UA, UN, UC, rfl, hUN⟩ := r2.form; rw [List.length_nil] at hUN; subst hUN; have s2 := bb1.trans (bb2.mono bb1.size)) | (with_reducible refine (H1.out _).mono ?_; rintro e1 w1 ⟨V1, rfl, r1, bb1⟩; obtain ⟨VA, VN, VC, rfl, hVN⟩ := r1.form; rw [List.length_nil] at hVN; subst hVN)))
          | (go_at_call 11; go_must (refine (awake_any _).mono ?_; rintro e5 w5 ⟨rfl, b5⟩; have s5 := s2.trans (b5.mono s2.size))))
        go_returns
        exact ⟨rfl, s5⟩

end Go.Proofs.Ytnmmbpmgdicglaa
