/-
  checksum.
-/
import Derived.Test.YtillcmddbjhepaaGreatDoorZ14
import Derived.Test.YtillcmddbjhepaaGreatDoorZ19
import Derived.Deep.RegionWith
namespace Go.Proofs.YtillcmddbjhepaaGreatDoor
open Go Go.RowKit Go.Joins
set_option linter.unusedVariables false
set_option linter.unusedSimpArgs false

theorem app_list (a b : ByteArray) : (a ++ b).data.toList = a.data.toList ++ b.data.toList := by simp
theorem app_size (a b : ByteArray) : (a ++ b).size = a.size + b.size := by rw [size_len, app_list, List.length_append, ← size_len, ← size_len]
theorem ext_list (s : ByteArray) (i j : Nat) : (s.extract i j).data.toList = (s.data.toList.take j).drop i := by
  have e : (s.extract i j).data.toList = (s.data.toList.drop i).take (j - i) := by simp [List.extract_eq_take_drop]
  rw [e, List.drop_take]

def crcV : Array Value := #[.int .i64 32, .int .i64 79764919, .int .i64 4294967295, .int .i64 4294967295, .bool true]
theorem nm_crc : Sd.nameV (ByteArray.toList ⟨#[99, 114, 99, 51, 50]⟩) = .tuple #[.agg #[.int .i64 32, .int .i64 79764919, .int .i64 4294967295, .int .i64 4294967295, .bool true], .bool true] := by
  rw [Sd.nameV_2 (show ByteArray.toList ⟨#[99, 114, 99, 51, 50]⟩ = Sd.nm2 by rw [ByteArray.toList_eq]; rfl)]; rfl

/-- fourBytes, its string. -/
theorem fourB_any (n : Nat) (w : World) (hn : n < 4294967296) : Calls Tryz.prog 59 #[.int .i64 n] w fun e w' => ∃ g n' c, e = .returned (.slice (some ⟨g, 0, none⟩) n' c) ∧ Hid (∀ W, Below w'.heap.size w' W → (convert 60 9 (.slice (some ⟨g, 0, none⟩) n' c)).run Tryz.prog W = .ok (.string ⟨(four n).toArray⟩) W) ∧ Below w.heap.size w w' :=
  (fourBytes_any n w hn).mono fun e w' h => by
    obtain ⟨g, n, c, rfl, ho, hb⟩ := h
    exact ⟨g, n, c, rfl, fun W hW => Sb.conv_rd ho.rd n c ho.len.symm W (fun p hp => hW.cell hp), hb⟩

def ckI (b : List UInt8) (f : Bool) (t : ByteArray) (s : Nat) : Prop := if f = true then s = 0 ∧ t.data.toList = b else ckr s t.data.toList = ck b

theorem crc_cells {w : World} {b : Nat} (h : RowAt w b 97 crcV) : w.cell? ⟨b, 0, none⟩ = some (.int .i64 32) ∧ w.cell? ⟨b, 1, none⟩ = some (.int .i64 79764919) ∧ w.cell? ⟨b, 2, none⟩ = some (.int .i64 4294967295) ∧ w.cell? ⟨b, 3, none⟩ = some (.int .i64 4294967295) ∧ w.cell? ⟨b, 4, none⟩ = some (.bool true) :=
  ⟨h.cell 0, h.cell 1, h.cell 2, h.cell 3, h.cell 4⟩

/-- A piece. -/
theorem piece_any (m : Nat) (t : ByteArray) (n : Nat) (w : World) (hn : n ≤ 4096) (hnt : n ≤ t.size) : Calls Tryz.prog 93 #[.agg #[.int .i64 32, .int .i64 79764919, .int .i64 4294967295, .int .i64 4294967295, .bool true], .string (⟨(four m).toArray⟩ ++ t.extract 0 n)] w fun e w' => e = .returned (.tuple #[.int .i64 (ckp m (t.data.toList.take n) : Nat), .int .i64 0]) ∧ Below w.heap.size w w' := by
  have hl : (⟨(four m).toArray⟩ ++ t.extract 0 n : ByteArray).data.toList = four m ++ t.data.toList.take n := by rw [app_list, ext_list, toList_mk]; rfl
  have hln : (t.data.toList.take n).length = n := by rw [List.length_take, ← size_len]; omega
  have h := Sd.bytes_any 32 79764919 4294967295 4294967295 true (⟨(four m).toArray⟩ ++ t.extract 0 n) w (by rw [size_len, hl, List.length_append, four_len, hln]; omega)
  rw [hl] at h
  obtain ⟨h1, h2⟩ := by_piece m (t.data.toList.take n) (by omega)
  rw [h1, h2] at h
  exact h

theorem ckI_step {b : List UInt8} {f : Bool} {t : ByteArray} {s n : Nat} (h : ckI b f t s) (hc : f = true ∨ 0 < t.size) (hn : min (t.size : Int) 4096 = n) : ckI b false (t.extract n t.size) (ckp s (t.data.toList.take n)) := by
  have e : (t.extract n t.size).data.toList = t.data.toList.drop n := by rw [ext_list, size_len, List.take_length]
  have h4 : t.data.toList.take n = t.data.toList.take 4096 ∧ t.data.toList.drop n = t.data.toList.drop 4096 := by
    rw [size_len] at hn
    by_cases hh : t.data.toList.length ≤ 4096
    · have : n = t.data.toList.length := by omega
      subst this
      exact ⟨by rw [List.take_length, List.take_of_length_le hh], by rw [List.drop_length, List.drop_of_length_le hh]⟩
    · have : n = 4096 := by omega
      subst this; exact ⟨rfl, rfl⟩
  unfold ckI at *
  rw [e, h4.1, h4.2]
  cases f with
  | true =>
    simp only [if_true] at h
    obtain ⟨rfl, rfl⟩ := h
    rfl
  | false =>
    simp only [Bool.false_eq_true, if_false] at h ⊢
    rw [← h, ckr_more s _ (by rw [← size_len]; rcases hc with h | h; · cases h
                              · exact h)]

set_option maxRecDepth 20000 in
set_option maxHeartbeats 4000000 in
theorem checksum_any (b : ByteArray) (w : World) (hE : Sd.Env w) (hs : b.size ≤ 140737488351232) :
    Calls Tryz.prog 56 #[.string b] w fun e w' => e = .returned (.int .i64 (ck b.data.toList)) ∧ Below w.heap.size w w' := by
  have HN := Lib.hid (Sd.named_any ⟨#[99, 114, 99, 51, 50]⟩ w hE)
  rw [nm_crc] at HN
  clear hE
  have HF := Lib.hid fun n w hn => fourB_any n w hn
  have HB := Lib.hid fun m t n w hn hnt => piece_any m t n w hn hnt
  go_enter Tryz.func56, Tryz.ntmps56
  go_wp2_with (go_at_call 92; go_must (refine HN.out.mono ?_; rintro e w1 ⟨rfl, b1⟩))
  go_loopw [6, 0, 5] (fun f x s wr => ∃ (p : Bool) (t : ByteArray) (m : Nat), f = .bool p ∧ x = .string t ∧ s = .int .i64 m ∧ m < 4294967296 ∧ t.size ≤ 140737488351232 ∧ Hid (ckI b.data.toList p t m) ∧ Hid (RowAt wr w1.heap.size 97 crcV) ∧ Below w.heap.size w wr) (fun f x _ _ => (match x with | .string t => t.size | _ => 0) + (match f with | .bool true => 1 | _ => 0))
  case atStart => exact ⟨true, b, 0, rfl, rfl, rfl, by omega, hs, Lib.hid ⟨rfl, rfl⟩, Lib.hid (RowAt.new w1 _ _), b1.alloc b1.size _⟩
  case round =>
    obtain ⟨p, t, m, rfl, rfl, rfl, hm, ht, HI, HR, hb⟩ := hrel
    by_cases hend : p = false ∧ t.size = 0
    · obtain ⟨rfl, h0⟩ := hend
      have he : (!t.toList.isEmpty) = false := by rw [ByteArray.toList_eq, empty_toList h0]; rfl
      have hck : ckr m t.data.toList = ck b.data.toList := HI.out
      rw [empty_toList h0, ckr_nil] at hck
      clear HI HN HF HB
      go_wp2
      go_returns
      exact ⟨congrArg (fun x : Nat => Ending.returned (Value.int .i64 (x : Int))) hck, hb⟩
    · have HP := Lib.hid (show p = true ∨ 0 < t.size by cases p with
        | true => exact .inl rfl
        | false => exact .inr (by have : ¬ t.size = 0 := fun h => hend ⟨rfl, h⟩
                                  omega))
      obtain ⟨n, hn⟩ : ∃ n : Nat, min (t.size : Int) 4096 = n := ⟨min t.size 4096, by omega⟩
      have hn1 : n ≤ 4096 := by omega
      have hn2 : n ≤ t.size := by omega
      have hx : p = false → (!t.toList.isEmpty) = true := fun h => by
        rw [ByteArray.toList_eq]
        have : ¬ t.size = 0 := fun h0 => hend ⟨h, h0⟩
        rw [size_len] at this
        cases hq : t.data.toList with
        | nil => rw [hq] at this; simp at this
        | cons a l => rfl
      clear hend
      have HCP := Lib.hid (ckp_lt m (t.data.toList.take n))
      have HNX := Lib.hid (ckI_step HI.out HP.out hn)
      have HSZ := Lib.hid (show (t.extract n t.size).size = t.size - n by rw [ByteArray.size_extract]; omega)
      have hMs : t.size - n + 0 < t.size + (match Value.bool p with | .bool true => 1 | _ => 0) := by
        rcases HP.out with h | h
        · subst h; show t.size - n + 0 < t.size + 1; omega
        · cases p
          · show t.size - n + 0 < t.size + 0; omega
          · show t.size - n + 0 < t.size + 1; omega
      clear HI HP
      have HF1 := Lib.hid (fun w => HF.out m w hm)
      have HB1 := Lib.hid (fun w => HB.out m t n w hn1 hn2)
      have hZ : (⟨(four m).toArray⟩ : ByteArray).size = 4 := rfl
      have hX : (t.extract 0 n).size = n := by rw [ByteArray.size_extract]; omega
      have hX2 : min n t.size = n := by omega
      have hX3 : ¬ (9223372036854775807 : Int) < 4 + (n : Int) := by omega
      have hX4 : decide ((9223372036854775807 : Int) < 4 + (n : Int)) = false := decide_eq_false hX3
      clear HF HB
      generalize (⟨(four m).toArray⟩ : ByteArray) = Z at *
      obtain ⟨c0, c1, c2, c3, c4⟩ := crc_cells HR.out
      obtain ⟨d0, d1, d2, d3, d4⟩ := crc_cells (show RowAt wr.drew w1.heap.size 97 crcV from HR.out)
      cases p with
      | true =>
        clear hx
        go_wp2
        go_region_with (first
          | (go_at_call 59; refine (HF1.out _).mono ?_; rintro e wa ⟨ga, na, ca, rfl, fa, ba⟩; have ka := fa.out wa (Below.refl _ _); have hRa := Lib.hid (RowAt.keep (w := wr.drew) (b := w1.heap.size) (T := 97) (cs := crcV) HR.out ba); obtain ⟨a0, a1, a2, a3, a4⟩ := crc_cells hRa.out)
          | (go_at_call 93; refine (HB1.out _).mono ?_; rintro e wb ⟨rfl, bb⟩))
        all_goals go_wp2
        all_goals (refine ⟨⟨false, _, _, rfl, rfl, rfl, HCP.out, by rw [HSZ.out]; omega, HNX, hRa.out.keep bb, (hb.drew.trans (ba.mono hb.size)).trans (bb.mono (Nat.le_trans hb.size ba.size))⟩, ?_⟩)
        all_goals (show (t.extract n t.size).size + 0 < t.size + _; rw [HSZ.out])
        all_goals exact hMs
      | false =>
        have he := hx rfl
        clear hx
        go_wp2
        go_region_with (first
          | (go_at_call 59; refine (HF1.out _).mono ?_; rintro e wa ⟨ga, na, ca, rfl, fa, ba⟩; have ka := fa.out wa (Below.refl _ _); have hRa := Lib.hid (RowAt.keep (w := wr.drew) (b := w1.heap.size) (T := 97) (cs := crcV) HR.out ba); obtain ⟨a0, a1, a2, a3, a4⟩ := crc_cells hRa.out)
          | (go_at_call 93; refine (HB1.out _).mono ?_; rintro e wb ⟨rfl, bb⟩))
        all_goals go_wp2
        all_goals (refine ⟨⟨false, _, _, rfl, rfl, rfl, HCP.out, by rw [HSZ.out]; omega, HNX, hRa.out.keep bb, (hb.drew.trans (ba.mono hb.size)).trans (bb.mono (Nat.le_trans hb.size ba.size))⟩, ?_⟩)
        all_goals (show (t.extract n t.size).size + 0 < t.size + _; rw [HSZ.out])
        all_goals exact hMs

end Go.Proofs.YtillcmddbjhepaaGreatDoor
