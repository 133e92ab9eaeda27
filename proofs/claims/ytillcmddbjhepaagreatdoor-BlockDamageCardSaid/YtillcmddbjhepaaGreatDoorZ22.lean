/-
  The specification's Checksum.
-/
import Derived.Test.YtillcmddbjhepaaGreatDoorZ21
import Derived.Test.YtillcmddbjhepaaGreatDoorZ10
import Derived.Test.YtillcmddbjhepaaGreatDoorZ19
import Derived.Deep.RegionHeld3
namespace Go.Proofs.YtillcmddbjhepaaGreatDoor
open Go Go.RowKit Go.Joins
set_option linter.unusedVariables false
set_option linter.unusedSimpArgs false

/-- A piece. -/
theorem rpiece_any (m : Nat) (t : ByteArray) (a e : Nat) (w : World) (hn : e = min (a + 4096) t.size) (hnt : a ≤ t.size) : Calls Tryz.prog 65 #[.agg #[.int .i64 32, .int .i64 79764919, .int .i64 4294967295, .int .i64 4294967295, .bool true], .string (⟨(four m).toArray⟩ ++ t.extract a e)] w fun x w' => x = .returned (.tuple #[.int .i64 (ckp m ((t.data.toList.drop a).take 4096) : Nat), .int .i64 0]) ∧ Below w.heap.size w w' := by
  have hl : (⟨(four m).toArray⟩ ++ t.extract a e : ByteArray).data.toList = four m ++ (t.data.toList.drop a).take 4096 := by
    rw [app_list, ext_list, toList_mk, List.drop_take]
    congr 1
    rw [hn, size_len]
    by_cases hh : a + 4096 ≤ t.data.toList.length
    · rw [Nat.min_eq_left hh, Nat.add_sub_cancel_left]
    · rw [Nat.min_eq_right (by omega), List.take_of_length_le (by rw [List.length_drop]; omega), List.take_of_length_le (by rw [List.length_drop]; omega)]
  have hln : ((t.data.toList.drop a).take 4096).length ≤ 4096 := by rw [List.length_take]; omega
  have h := Sd.rbytes_any 32 79764919 4294967295 4294967295 true (⟨(four m).toArray⟩ ++ t.extract a e) w (by rw [size_len, hl, List.length_append, four_len]; omega)
  rw [hl] at h
  obtain ⟨h1, h2⟩ := by_piece m ((t.data.toList.drop a).take 4096) hln
  rw [h1, h2] at h
  exact h

def ckJ (b : List UInt8) (a : Nat) (s : Nat) : Prop := if a = 0 then s = 0 else ckr s (b.drop a) = ck b
theorem ckJ_step {b : List UInt8} {a s : Nat} (h : ckJ b a s) (hc : a = 0 ∨ a < b.length) : ckJ b (a + 4096) (ckp s ((b.drop a).take 4096)) := by
  unfold ckJ at *
  rw [if_neg (by omega)]
  by_cases h0 : a = 0
  · subst h0
    rw [if_pos rfl] at h
    subst h
    rw [Nat.zero_add]; rfl
  · rw [if_neg h0] at h
    rw [← h, ckr_more s _ (by rw [List.length_drop]; omega), List.drop_drop]
theorem ckJ_end {b : List UInt8} {a s : Nat} (h : ckJ b a s) (h0 : ¬ a = 0) (hc : ¬ a < b.length) : s = ck b := by
  unfold ckJ at h
  rw [if_neg h0, List.drop_of_length_le (by omega), ckr_nil] at h
  exact h

set_option maxRecDepth 20000 in
set_option maxHeartbeats 4000000 in
theorem rchecksum_any (b : ByteArray) (w : World) (hs : b.size ≤ 140737488351232) :
    Calls Tryz.prog 37 #[.string b] w fun e w' => e = .returned (.int .i64 (ck b.data.toList)) ∧ Below w.heap.size w w' := by
  have HN := Lib.hid (Sd.rnamed_any ⟨#[99, 114, 99, 51, 50]⟩ w)
  rw [nm_crc] at HN
  have HF := Lib.hid fun n w hn => rfour_any n w hn
  have HB := Lib.hid fun m t a n w hn hnt => rpiece_any m t a n w hn hnt
  have HSL := Lib.hid (size_len b)
  have hsi : (b.size : Int) ≤ 140737488351232 := by omega
  go_enter Tryz.func37, Tryz.ntmps37
  go_wp2_with (go_at_call 64; go_must (refine HN.out.mono ?_; rintro e w1 ⟨rfl, b1⟩))
  go_loopw [6, 5] (fun x s wr => ∃ (a m : Nat), x = .int .i64 a ∧ s = .int .i64 m ∧ m < 4294967296 ∧ a ≤ b.size + 4096 ∧ Hid (ckJ b.data.toList a m) ∧ Hid (RowAt wr w1.heap.size 97 crcV) ∧ Below w.heap.size w wr) (fun x _ _ => b.size + 4096 - (intOf x).toNat)
  case atStart => exact ⟨0, 0, rfl, rfl, by omega, by omega, Lib.hid rfl, Lib.hid (RowAt.new w1 _ _), b1.alloc b1.size _⟩
  case round =>
    obtain ⟨a, m, rfl, rfl, hm, ha, HI, HR, hb⟩ := hrel
    by_cases hend : ¬ a = 0 ∧ ¬ a < b.size
    · obtain ⟨h0, h1⟩ := hend
      have HCK := Lib.hid (ckJ_end HI.out h0 (by have := HSL.out; omega))
      have he : ((a : Int) == 0) = false := by simp; omega
      have he2 : ¬ (a : Int) < b.size := by omega
      have he3 : decide ((a : Int) < b.size) = false := decide_eq_false he2
      have he4 : decide (a < b.size) = false := decide_eq_false h1
      clear HI HN HF HB
      go_wp2
      go_returns
      exact ⟨congrArg (fun x : Nat => Ending.returned (Value.int .i64 (x : Int))) HCK.out, hb⟩
    · have HP : a = 0 ∨ a < b.size := by omega
      obtain ⟨n, hn⟩ : ∃ n : Nat, n = min (a + 4096) b.size := ⟨_, rfl⟩
      have hab : a ≤ b.size := by omega
      have hn2 : n ≤ b.size := by omega
      have hn3 : a ≤ n := by omega
      have HCP := Lib.hid (ckp_lt m ((b.data.toList.drop a).take 4096))
      have HNX := Lib.hid (ckJ_step HI.out (by have := HSL.out; omega))
      have HF1 := Lib.hid (fun w => HF.out m w hm)
      have HB1 := Lib.hid (fun w => HB.out m b a n w hn hab)
      have hZ : (⟨(four m).toArray⟩ : ByteArray).size = 4 := rfl
      have hX : (b.extract a n).size = n - a := by rw [ByteArray.size_extract]; omega
      have hX2 : min n b.size = n := by omega
      have hX3 : ¬ (9223372036854775807 : Int) < 4 + ((n - a : Nat) : Int) := by omega
      have hX4 : decide ((9223372036854775807 : Int) < 4 + ((n - a : Nat) : Int)) = false := decide_eq_false hX3
      clear HF HB HI hend
      generalize (⟨(four m).toArray⟩ : ByteArray) = Z at *
      obtain ⟨c0, c1, c2, c3, c4⟩ := crc_cells HR.out
      obtain ⟨d0, d1, d2, d3, d4⟩ := crc_cells (show RowAt wr.drew w1.heap.size 97 crcV from HR.out)
      have hX5 : ¬ 9223372036854775807 < 4 + (n - a) := by omega
      have hX6 : decide (9223372036854775807 < 4 + (n - a)) = false := decide_eq_false hX5
      have hX7 : (a : Int) ≤ n := by omega
      have h4b : (a : Int) + 4096 ≤ 9223372036854775807 := by omega
      have hai : (a : Int) ≤ b.size := by omega
      have HS0 : Hid (wr.drew.cell? ⟨w1.heap.size, 0, none⟩ = some (.int .i64 32) ∧ wr.drew.cell? ⟨w1.heap.size, 1, none⟩ = some (.int .i64 79764919) ∧ wr.drew.cell? ⟨w1.heap.size, 2, none⟩ = some (.int .i64 4294967295) ∧ wr.drew.cell? ⟨w1.heap.size, 3, none⟩ = some (.int .i64 4294967295) ∧ wr.drew.cell? ⟨w1.heap.size, 4, none⟩ = some (.bool true) ∧ Below wr.heap.size wr wr.drew ∧ w1.heap.size < wr.drew.heap.size) := Lib.hid ⟨d0, d1, d2, d3, d4, (Below.refl _ _).drew, HR.out.lt⟩
      rcases Nat.eq_zero_or_pos a with h0 | h0
      · subst h0
        by_cases h1 : 0 + 4096 ≤ b.size
        · have e1 : n = 4096 := by omega
          clear hn
          subst e1
          have h2 : ¬ (b.size : Int) < 4096 := by omega
          have h3 : ¬ b.size < 4096 := by omega
          go_wp2
          go_region_held3 (fun w' => w'.cell? ⟨w1.heap.size, 0, none⟩ = some (.int .i64 32) ∧ w'.cell? ⟨w1.heap.size, 1, none⟩ = some (.int .i64 79764919) ∧ w'.cell? ⟨w1.heap.size, 2, none⟩ = some (.int .i64 4294967295) ∧ w'.cell? ⟨w1.heap.size, 3, none⟩ = some (.int .i64 4294967295) ∧ w'.cell? ⟨w1.heap.size, 4, none⟩ = some (.bool true) ∧ Below wr.heap.size wr w' ∧ w1.heap.size < w'.heap.size) (first | exact HS0.out | assumption | go_keep)
            (first
              | (go_at_call 36; refine (HF1.out _).mono ?_; rintro e wa ⟨rfl, ba⟩; have h2 := Sd.held5 (by assumption) ba)
              | (go_at_call 65; refine (HB1.out _).mono ?_; rintro e wb ⟨rfl, bb⟩; have h3 := Sd.held5 (by assumption) bb))
          all_goals go_wp2
          all_goals (rename_i hh; have HH := hh.2.2.2.2.2.1)
          all_goals (refine ⟨⟨0 + 4096, _, by first | rfl | exact val_int (by omega), rfl, HCP.out, by omega, HNX, HR.out.keep HH, hb.trans (HH.mono hb.size)⟩, ?_⟩)
          all_goals (simp [intOf]; try omega)
        · have e1 : b.size = n := by omega
          clear hn
          have h2 : (n : Int) < 4096 := by omega
          have h3 : n < 4096 := by omega
          have h4 : decide (9223372036854775807 < 4 + n) = false := decide_eq_false (by omega)
          have h5 : ¬ 9223372036854775807 < 4 + n := by omega
          go_wp2
          go_region_held3 (fun w' => w'.cell? ⟨w1.heap.size, 0, none⟩ = some (.int .i64 32) ∧ w'.cell? ⟨w1.heap.size, 1, none⟩ = some (.int .i64 79764919) ∧ w'.cell? ⟨w1.heap.size, 2, none⟩ = some (.int .i64 4294967295) ∧ w'.cell? ⟨w1.heap.size, 3, none⟩ = some (.int .i64 4294967295) ∧ w'.cell? ⟨w1.heap.size, 4, none⟩ = some (.bool true) ∧ Below wr.heap.size wr w' ∧ w1.heap.size < w'.heap.size) (first | exact HS0.out | assumption | go_keep)
            (first
              | (go_at_call 36; refine (HF1.out _).mono ?_; rintro e wa ⟨rfl, ba⟩; have h2 := Sd.held5 (by assumption) ba)
              | (go_at_call 65; refine (HB1.out _).mono ?_; rintro e wb ⟨rfl, bb⟩; have h3 := Sd.held5 (by assumption) bb))
          all_goals go_wp2
          all_goals (rename_i hh; have HH := hh.2.2.2.2.2.1)
          all_goals (refine ⟨⟨0 + 4096, _, by first | rfl | exact val_int (by omega), rfl, HCP.out, by omega, HNX, HR.out.keep HH, hb.trans (HH.mono hb.size)⟩, ?_⟩)
          all_goals (simp [intOf]; try omega)
      · have q1 : ((a : Int) == 0) = false := by simp; omega
        have q2 : (a : Int) < b.size := by omega
        have q3 : decide ((a : Int) < b.size) = true := decide_eq_true q2
        have q5 : a < b.size := by omega
        have q4 : decide (a < b.size) = true := decide_eq_true q5
        by_cases h1 : a + 4096 ≤ b.size
        · have e1 : (a : Int) + 4096 = n := by omega
          clear hn
          have h2 : ¬ (b.size : Int) < n := by omega
          have h2b : (n : Int) ≤ b.size := by omega
          go_wp2
          go_region_held3 (fun w' => w'.cell? ⟨w1.heap.size, 0, none⟩ = some (.int .i64 32) ∧ w'.cell? ⟨w1.heap.size, 1, none⟩ = some (.int .i64 79764919) ∧ w'.cell? ⟨w1.heap.size, 2, none⟩ = some (.int .i64 4294967295) ∧ w'.cell? ⟨w1.heap.size, 3, none⟩ = some (.int .i64 4294967295) ∧ w'.cell? ⟨w1.heap.size, 4, none⟩ = some (.bool true) ∧ Below wr.heap.size wr w' ∧ w1.heap.size < w'.heap.size) (first | exact HS0.out | assumption | go_keep)
            (first
              | (go_at_call 36; refine (HF1.out _).mono ?_; rintro e wa ⟨rfl, ba⟩; have h2 := Sd.held5 (by assumption) ba)
              | (go_at_call 65; refine (HB1.out _).mono ?_; rintro e wb ⟨rfl, bb⟩; have h3 := Sd.held5 (by assumption) bb))
          all_goals go_wp2
          all_goals (rename_i hh; have HH := hh.2.2.2.2.2.1)
          all_goals (refine ⟨⟨a + 4096, _, by first | rfl | exact val_int (by omega), rfl, HCP.out, by omega, HNX, HR.out.keep HH, hb.trans (HH.mono hb.size)⟩, ?_⟩)
          all_goals (simp [intOf]; try omega)
        · have e1 : b.size = n := by omega
          clear hn
          have h2 : (n : Int) < a + 4096 := by omega
          have h2c : (a : Int) < n := by omega
          have h2d : a < n := by omega
          go_wp2
          go_region_held3 (fun w' => w'.cell? ⟨w1.heap.size, 0, none⟩ = some (.int .i64 32) ∧ w'.cell? ⟨w1.heap.size, 1, none⟩ = some (.int .i64 79764919) ∧ w'.cell? ⟨w1.heap.size, 2, none⟩ = some (.int .i64 4294967295) ∧ w'.cell? ⟨w1.heap.size, 3, none⟩ = some (.int .i64 4294967295) ∧ w'.cell? ⟨w1.heap.size, 4, none⟩ = some (.bool true) ∧ Below wr.heap.size wr w' ∧ w1.heap.size < w'.heap.size) (first | exact HS0.out | assumption | go_keep)
            (first
              | (go_at_call 36; refine (HF1.out _).mono ?_; rintro e wa ⟨rfl, ba⟩; have h2 := Sd.held5 (by assumption) ba)
              | (go_at_call 65; refine (HB1.out _).mono ?_; rintro e wb ⟨rfl, bb⟩; have h3 := Sd.held5 (by assumption) bb))
          all_goals go_wp2
          all_goals (rename_i hh; have HH := hh.2.2.2.2.2.1)
          all_goals (refine ⟨⟨a + 4096, _, by first | rfl | exact val_int (by omega), rfl, HCP.out, by omega, HNX, HR.out.keep HH, hb.trans (HH.mono hb.size)⟩, ?_⟩)
          all_goals (simp [intOf]; try omega)

end Go.Proofs.YtillcmddbjhepaaGreatDoor
