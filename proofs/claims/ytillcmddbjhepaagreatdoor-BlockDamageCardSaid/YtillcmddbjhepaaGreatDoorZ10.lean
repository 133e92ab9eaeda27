/-
  The walks of the specification's Bits and Bytes.
-/
import Derived.Test.YtillcmddbjhepaaGreatDoorZ08
import Derived.StillTailTactics
namespace Go.Proofs.YtillcmddbjhepaaGreatDoor
namespace Sd
open Go.RowKit
set_option linter.unusedVariables false
set_option linter.unusedSimpArgs false

theorem two_is {a b a' b' : Nat} {x y : Int} (ha : a = a') (hb : b = b') (hx : x = a') (hy : y = b') : Ending.returned (.tuple #[.int .i64 x, .int .i64 y]) = .returned (two a b) := by subst ha hb hx hy; rfl

theorem bs_ab (x : Nat) (w : Nat) (msb : Bool) (k : Nat) : bs (ab x w msb (k + 1)) = bs (ab x w msb k) ++ [x / 2 ^ pl w msb k % 2] := by
  rw [ab_succ, bs_append]
  congr 1
  have h1 := bc_val x (pl w msb k)
  have e : (x : Int) / 2 ^ pl w msb k % 2 = ((x / 2 ^ pl w msb k % 2 : Nat) : Int) := by simp
  rw [e] at h1
  have : (bc x (pl w msb k)).toNat - 48 = x / 2 ^ pl w msb k % 2 := by omega
  simp only [bs, List.map_cons, List.map_nil, this]
theorem rgn_ab (W P N x : Nat) (msb : Bool) (k : Nat) : rgn W P N (bs (ab x 8 msb (k + 1))) = stp W P (rgn W P N (bs (ab x 8 msb k))) (x / 2 ^ pl 8 msb k % 2) := by
  rw [bs_ab, rgn_append]; rfl
theorem bit_of {c k P : Nat} (h : c < 256) (hP : k = P) : (IntKind.i64.wrap (c : Int) / 2 ^ k).tmod 2 = ((c / 2 ^ P % 2 : Nat) : Int) := by
  subst hP
  have e : IntKind.i64.wrap (c : Int) = c := by rw [IntKind.wrap_i64]; omega
  have e2 : (c : Int) / 2 ^ k = ((c / 2 ^ k : Nat) : Int) := by simp
  rw [e, e2, Int.tmod_eq_emod_of_nonneg (by exact Int.natCast_nonneg _)]
  omega
theorem bit_of2 {c k P : Nat} (h : c < 256) (hP : k = P) : ((c : Int) / 2 ^ k).tmod 2 = ((c / 2 ^ P % 2 : Nat) : Int) := by
  have e : IntKind.i64.wrap (c : Int) = c := by rw [IntKind.wrap_i64]; omega
  have := bit_of h hP
  rwa [e] at this
theorem rgn_fb (W P I : Nat) (s : ByteArray) (msb : Bool) (k : Nat) (h : k < s.size) : rgn W P I (bs (fb (s.data.toList.take (k + 1)) msb)) = rgn W P (rgn W P I (bs (fb (s.data.toList.take k) msb))) (bs (ab s[k].toNat 8 msb 8)) := by
  rw [fb_take s msb k h, bs_append, rgn_append]; rfl

set_option maxRecDepth 20000 in
set_option maxHeartbeats 2000000 in
theorem rbytes_any (W P I X : Int) (R : Bool) (s : ByteArray) (w : World) (hs : s.size ≤ 140737488351232) :
    Calls Tryz.prog 65 #[crV W P I X R, .string s] w fun e w' => e = .returned (two (byV W P I X R s.data.toList) (byE W P I X s.data.toList)) ∧ Below w.heap.size w w' := by
  have hlen := size_len s
  have hs' : (s.size : Int) ≤ 140737488351232 := by omega
  have C1 := fun w => rright_any W P I X R w
  unfold crV at C1 ⊢
  rcases h1 : rt W P I X with _ | _
  · rw [h1] at C1
    obtain ⟨e1, e2⟩ := by_arg (R := R) (l := s.data.toList) h1
    rw [e1, e2]
    have H1 := Lib.hid C1
    clear C1 h1 e1 e2 hlen
    go_enter Tryz.func65, Tryz.ntmps65
    go_wp2_with (first
      | (go_at_call 95; go_must (refine (H1.out _).mono ?_; rintro e w1 ⟨rfl, b1⟩; obtain ⟨c0, c1, c2, c3, c4, c5⟩ := (At5.new _ _ _ _ _ _ _).below b1)))
    go_returns
    exact ⟨two_of rfl rfl, (ba w _).trans (b1.mono (by rw [World.size_alloc]; omega))⟩
  rw [h1] at C1
  by_cases h3 : 8192 < s.size
  · obtain ⟨e1, e2⟩ := by_lim (R := R) h1 (l := s.data.toList) (by omega)
    rw [e1, e2]
    have H1 := Lib.hid C1
    clear C1 h1 e1 e2 hlen
    go_enter Tryz.func65, Tryz.ntmps65
    go_wp2_with (first
      | (go_at_call 95; go_must (refine (H1.out _).mono ?_; rintro e w1 ⟨rfl, b1⟩; obtain ⟨c0, c1, c2, c3, c4, c5⟩ := (At5.new _ _ _ _ _ _ _).below b1)))
    go_returns
    exact ⟨two_of rfl rfl, (ba w _).trans (b1.mono (by rw [World.size_alloc]; omega))⟩
  obtain ⟨e1, e2⟩ := by_ok (R := R) h1 (l := s.data.toList) (by omega)
  obtain ⟨V, p, i, x, rfl, rfl, rfl, rfl, hV, hp, hi, hx, -⟩ := rt_nat h1
  rw [crI_nat] at e2
  have H1 := Lib.hid C1
  have HE1 := Lib.hid e1; have HE2 := Lib.hid e2
  generalize byE ((V : Int) + 1) p i x s.data.toList = E at *
  generalize byV ((V : Int) + 1) p i x R s.data.toList = F at *
  have HP := Lib.hid hp; have HI := Lib.hid hi; have HX := Lib.hid hx
  have HA := Lib.hid (all_take s)
  have HT := Lib.hid (rgn_fb (V + 1) p i s (!R))
  have HAB := Lib.hid (fun N x k => rgn_ab (V + 1) p N x (!R) k)
  clear C1 h1 hlen hp hi hx e1 e2
  go_enter Tryz.func65, Tryz.ntmps65
  go_wp2_with (first
    | (go_at_call 95; go_must (refine (H1.out _).mono ?_; rintro e w1 ⟨rfl, b1⟩; obtain ⟨c0, c1, c2, c3, c4, c5⟩ := (At5.new _ _ _ _ _ _ _).below b1)))
  have hb : Below w.heap.size w w1 := (ba w _).trans (b1.mono (by rw [World.size_alloc]; omega))
  go_loopw [7, 6] (fun u v wr => ∃ m N : Nat, m ≤ s.size ∧ u = .int .i64 m ∧ v = .int .i64 N ∧ Hid (N < 2 ^ (V + 1)) ∧ Hid (N = rgn (V + 1) p i (bs (fb (s.data.toList.take m) (!R)))) ∧
    (wr.cell? ⟨w.heap.size, 0, none⟩ = some (.int .i64 ((V : Int) + 1)) ∧ wr.cell? ⟨w.heap.size, 1, none⟩ = some (.int .i64 p) ∧ wr.cell? ⟨w.heap.size, 2, none⟩ = some (.int .i64 i) ∧ wr.cell? ⟨w.heap.size, 3, none⟩ = some (.int .i64 x) ∧ wr.cell? ⟨w.heap.size, 4, none⟩ = some (.bool R) ∧ Below w.heap.size w wr ∧ w.heap.size < wr.heap.size)) (fun u _ _ => s.size - (intOf u).toNat)
  case atStart => exact ⟨0, i, by omega, rfl, rfl, HI.out, by rw [List.take_zero]; rfl, c0, c1, c2, c3, c4, hb, c5⟩
  case round =>
    obtain ⟨m, N, hm, rfl, rfl, HN, HM, d0, d1, d2, d3, d4, db, d5⟩ := hrel
    by_cases he : m = s.size
    · have HF := Lib.hid (fun w => final_any V N x p i R w hV HN.out HX.out)
      have HV : Hid (F = rvI N (V + 1) R ^^^ x) := by
        rw [HE2.out, HM.out, he, HA.out]; rfl
      unfold crV at HF
      generalize rvI N (V + 1) R ^^^ x = M at *
      go_wp2_with (first
        | (go_at_call 97; go_must (refine (HF.out _).mono ?_; rintro e w3 ⟨rfl, b3⟩)))
      go_returns
      exact ⟨two_is HV.out HE1.out rfl rfl, db.trans (b3.mono db.size)⟩
    · have hlt : m < s.size := by omega
      have hc0 : s[m].toNat < 256 := UInt8.toNat_lt _
      have HQ := Lib.hid (HT.out m hlt)
      rw [← HM.out] at HQ
      go_wp2
      go_loopw [8, 6] (fun u v wr => ∃ k M : Nat, k ≤ 8 ∧ u = .int .i64 k ∧ v = .int .i64 M ∧ Hid (M < 2 ^ (V + 1)) ∧ Hid (M = rgn (V + 1) p N (bs (ab s[m].toNat 8 (!R) k))) ∧
        (wr.cell? ⟨w.heap.size, 0, none⟩ = some (.int .i64 ((V : Int) + 1)) ∧ wr.cell? ⟨w.heap.size, 1, none⟩ = some (.int .i64 p) ∧ wr.cell? ⟨w.heap.size, 2, none⟩ = some (.int .i64 i) ∧ wr.cell? ⟨w.heap.size, 3, none⟩ = some (.int .i64 x) ∧ wr.cell? ⟨w.heap.size, 4, none⟩ = some (.bool R) ∧ Below w.heap.size w wr ∧ w.heap.size < wr.heap.size)) (fun u _ _ => 8 - (intOf u).toNat)
      case atStart => exact ⟨0, N, by omega, rfl, rfl, HN.out, by rw [ab_zero]; rfl, d0, d1, d2, d3, d4, db, d5⟩
      case round =>
        obtain ⟨k, M, hk, rfl, rfl, HMl, HMM, f0, f1, f2, f3, f4, fb, f5⟩ := hrel
        by_cases he8 : k = 8
        · subst he8
          rw [← HMM.out] at HQ
          go_wp2
          go_roundw
          case rel => exact ⟨m + 1, M, by omega, by go_num, rfl, HMl.out, HQ.out.symm, f0, f1, f2, f3, f4, fb, f5⟩
          case measure => simp [intOf]; omega
        · have hk7 : k ≤ 7 := by omega
          have HC0 := (fun w => next_any V p M (s[m].toNat / 2 ^ pl 8 (!R) k % 2) i x R w hV HP.out HMl.out)
          unfold crV at HC0
          have HS := HAB.out N s[m].toNat k
          rw [← HMM.out] at HS
          have HL : Hid (stp (V + 1) p M (s[m].toNat / 2 ^ pl 8 (!R) k % 2) < 2 ^ (V + 1)) := stp_lt HP.out
          generalize stp (V + 1) p M (s[m].toNat / 2 ^ pl 8 (!R) k % 2) = Z at *
          have HS' := Lib.hid HS
          clear HS
          obtain ⟨B, hB⟩ : ∃ B, s[m].toNat / 2 ^ pl 8 (!R) k % 2 = B := ⟨_, rfl⟩
          rw [hB] at HC0
          have HC : Hid (∀ w (K : Int), K = (B : Int) → Calls Tryz.prog 96 #[.agg #[.int .i64 ((V : Int) + 1), .int .i64 p, .int .i64 i, .int .i64 x, .bool R], .int .i64 M, .int .i64 K] w fun e w' => e = .returned (.int .i64 Z) ∧ Below w.heap.size w w') := fun w K hK => by
            subst hK; exact HC0 w
          clear HC0
          cases R
          · have e : (IntKind.i64.wrap (s[m].toNat : Int) / 2 ^ (7 - (k : Int)).toNat).tmod 2 = (B : Int) := by
              rw [← hB]
              exact bit_of hc0 (by show _ = 8 - 1 - k; omega)
            have e2 : ((s[m].toNat : Int) / 2 ^ (7 - k)).tmod 2 = (B : Int) := by
              rw [← hB]
              exact bit_of2 hc0 (by show _ = 8 - 1 - k; omega)
            go_wp2
            go_still_tail 9, (by kernel_rfl)
            change wpList _ _ _ _ _ wr.drew
            have D : At5 wr.drew w.heap.size ((V : Int) + 1) p i x false := ⟨f0, f1, f2, f3, f4, f5⟩
            have DB : Below w.heap.size w wr.drew := fb.drew
            generalize wr.drew = w2 at *
            go_wp2_with (first
              | (go_at_call 96; go_must (refine (HC.out _ _ ?hK).mono ?_; (case hK => (first | rfl | exact e2 | exact e)); rintro e w3 ⟨rfl, b3⟩)))
            obtain ⟨g0, g1, g2, g3, g4, g5⟩ := D.below b3
            go_roundw
            case rel => exact ⟨k + 1, Z, by omega, by go_num, rfl, HL.out, HS'.out.symm, g0, g1, g2, g3, g4, DB.trans (b3.mono DB.size), g5⟩
            case measure => simp [intOf]; omega
          · have e : (IntKind.i64.wrap (s[m].toNat : Int) / 2 ^ k).tmod 2 = (B : Int) := by
              rw [← hB]
              exact bit_of hc0 rfl
            have e2 : ((s[m].toNat : Int) / 2 ^ k).tmod 2 = (B : Int) := by
              rw [← hB]
              exact bit_of2 hc0 rfl
            go_wp2
            go_still_tail 9, (by kernel_rfl)
            change wpList _ _ _ _ _ wr.drew
            have D : At5 wr.drew w.heap.size ((V : Int) + 1) p i x true := ⟨f0, f1, f2, f3, f4, f5⟩
            have DB : Below w.heap.size w wr.drew := fb.drew
            generalize wr.drew = w2 at *
            go_wp2_with (first
              | (go_at_call 96; go_must (refine (HC.out _ _ ?hK).mono ?_; (case hK => (first | rfl | exact e2 | exact e)); rintro e w3 ⟨rfl, b3⟩)))
            obtain ⟨g0, g1, g2, g3, g4, g5⟩ := D.below b3
            go_roundw
            case rel => exact ⟨k + 1, Z, by omega, by go_num, rfl, HL.out, HS'.out.symm, g0, g1, g2, g3, g4, DB.trans (b3.mono DB.size), g5⟩
            case measure => simp [intOf]; omega

end Sd
end Go.Proofs.YtillcmddbjhepaaGreatDoor
