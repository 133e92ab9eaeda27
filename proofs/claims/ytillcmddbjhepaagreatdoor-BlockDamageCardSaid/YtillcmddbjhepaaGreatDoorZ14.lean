/-
  fourBytes, the specification's four.
-/
import Derived.Test.YtillcmddbjhepaaGreatDoorZ08
import Derived.Test.YtillcmddbjhepaaGreatDoorZ12
import Derived.Lib.Hide
namespace Go.Proofs.YtillcmddbjhepaaGreatDoor
open Go Go.RowKit Go.Joins
set_option linter.unusedVariables false
set_option linter.unusedSimpArgs false

theorem byte_at (n k : Nat) : IntKind.u8.wrap ((n / 256 ^ k : Nat) : Int) = ((UInt8.ofNat (n / 256 ^ k)).toNat : Int) := by
  rw [IntKind.wrap_u8]; simp

theorem full_of {w : World} {B k n : Nat} {v : Value} (h : (k = 0 ∧ v = .slice none 0 0) ∨ ∃ g c, v = .slice (some ⟨g, 0, none⟩) k c ∧ Sb.Own w B g k c ((four n).take k)) : Sb.Full w B v ((four n).take k) := by
  rcases h with ⟨rfl, rfl⟩ | ⟨g, c, rfl, ho⟩
  · exact .inl ⟨none, rfl, fun _ => rfl, Sb.Rd.nil _ _ _⟩
  · exact ho.full

set_option maxRecDepth 20000 in
set_option maxHeartbeats 2000000 in
theorem fourBytes_any (n : Nat) (w : World) (hn : n < 4294967296) :
    Calls Tryz.prog 59 #[.int .i64 n] w (Sb.Made w (four n)) := by
  go_enter Tryz.func59, Tryz.ntmps59
  go_wp2
  go_loopw [4, 3, 0] (fun i v x wr => ∃ (k m : Nat), k ≤ 4 ∧ i = .int .i64 k ∧ m < 4294967296 ∧ Hid (m = n / 256 ^ k) ∧ x = .int .i64 m ∧ Hid ((k = 0 ∧ v = .slice none 0 0) ∨ ∃ g c, v = .slice (some ⟨g, 0, none⟩) k c ∧ Sb.Own wr w.heap.size g k c ((four n).take k)) ∧ Below w.heap.size w wr) (fun i _ _ _ => 4 - (intOf i).toNat)
  case atStart => exact ⟨0, n, by omega, rfl, hn, Lib.hid (by simp), rfl, Lib.hid (.inl ⟨rfl, rfl⟩), Below.refl _ _⟩
  case round =>
    obtain ⟨k, m, hk, rfl, hm, HM, rfl, HF, hb⟩ := hrel
    have hsz := hb.size
    by_cases hlt : k < 4
    · have hl : ((four n).take k).length = k := by rw [List.length_take, four_len]; omega
      have HL := Lib.hid hl
      have HG := Lib.hid (full_of HF.out)
      obtain ⟨A', c', rfl⟩ := HG.out.form
      have HY := Lib.hid (show (m : Int) % 256 = ((UInt8.ofNat m).toNat : Int) by simp)
      have HT := Lib.hid (four_take n k hlt)
      clear hl HF
      go_wp2_with (at_builtin; go_must (refine Sb.wpList_append_new rfl (.tmp 6) (.tmp 9) rfl rfl rfl HG.out hsz (UInt8.ofNat m) HY.out (by rw [HL.out]; omega) ?_; intro g1 c1 w1 ho1 hb1))
      go_roundw
      case rel => exact ⟨k + 1, m / 256, by omega, by first | go_num | (exact val_int (by omega)), by omega, Lib.hid (by rw [HM.out, Nat.pow_succ, Nat.div_div_eq_div_mul]), by first | rfl | exact val_int (by omega), Lib.hid (.inr ⟨g1, c1, by rw [four_len, Nat.min_eq_left hk], by rw [HT.out, ← HM.out]; have := HL.out; rw [this] at ho1; exact ho1⟩), hb.trans hb1⟩
      case measure => simp [intOf]; omega
    · have hk4 : k = 4 := by omega
      subst hk4
      rcases HF.out with ⟨h, _⟩ | ⟨g, c, rfl, ho⟩
      · omega
      go_wp2
      go_returns
      exact Sb.made_of rfl ho hb

set_option maxRecDepth 20000 in
set_option maxHeartbeats 2000000 in
theorem rfour_any (n : Nat) (w : World) (hn : n < 4294967296) :
    Calls Tryz.prog 36 #[.int .i64 n] w fun e w' => e = .returned (.string ⟨(four n).toArray⟩) ∧ Below w.heap.size w w' := by
  have hk : (convert 60 9 (.slice (some ⟨w.heap.size, 0, none⟩) 4 4)).run Tryz.prog (w.alloc (.cells #[.int .u8 ((n : Int) % 256), .int .u8 ((n : Int) / 256 % 256), .int .u8 ((n : Int) / 65536 % 256), .int .u8 ((n : Int) / 16777216 % 256)] 5)) = .ok (.string ⟨(four n).toArray⟩) (w.alloc (.cells #[.int .u8 ((n : Int) % 256), .int .u8 ((n : Int) / 256 % 256), .int .u8 ((n : Int) / 65536 % 256), .int .u8 ((n : Int) / 16777216 % 256)] 5)) := by
    refine Sb.conv_rd (w := w.alloc (.cells #[.int .u8 ((n : Int) % 256), .int .u8 ((n : Int) / 256 % 256), .int .u8 ((n : Int) / 65536 % 256), .int .u8 ((n : Int) / 16777216 % 256)] 5)) (B := w.heap.size + 1) (l := four n) (fun _ => ⟨w.heap.size, 0, rfl, Nat.lt_succ_self _, ?_⟩) 4 4 rfl _ (fun _ _ => rfl)
    intro j hj
    rw [four_len] at hj
    rcases j with _ | _ | _ | _ | j <;> first | omega | (simp only [four, List.getElem_cons_zero, List.getElem_cons_succ]; go_simp; try simp)
  go_enter Tryz.func36, Tryz.ntmps36
  go_wp2
  go_returns
  exact ⟨rfl, ba w _⟩

end Go.Proofs.YtillcmddbjhepaaGreatDoor
