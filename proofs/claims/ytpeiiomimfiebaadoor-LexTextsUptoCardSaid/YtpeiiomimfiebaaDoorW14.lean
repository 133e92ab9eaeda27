/-
  The walks of the specification's Name, word and Quote.
-/
import Derived.Test.YtpeiiomimfiebaaDoorW11
import Derived.Test.YtpeiiomimfiebaaDoorW8
import Derived.Test.YtpeiiomimfiebaaDoorB3
import Derived.StillTailTactics
import Derived.Deep.RegionHeld3
namespace Go.Proofs.YtpeiiomimfiebaaDoor
open Go.RowKit
set_option linter.unusedVariables false
set_option linter.unusedSimpArgs false

set_option maxHeartbeats 1000000 in
theorem rname_any (s : ByteArray) (w : World) (hs : s.size ≤ 140737488351232) :
    Calls Tryd.prog 41 #[.string s] w fun e w' => e = .returned (.bool (nm s.data.toList)) ∧ w = w' := by
  have hs' : (s.size : Int) ≤ 140737488351232 := by omega
  by_cases h0 : s.size = 0
  · have h0' : (s.size : Int) < 1 := by omega
    rw [nm_empty h0]
    clear h0
    go_enter Tryd.func41, Tryd.ntmps41
    go_wp2
    go_returns
    exact ⟨rfl, rfl⟩
  have hp : 0 < s.size := by omega
  have hp' : (1 : Int) ≤ s.size := by omega
  have k0 : s[0].toNat < 256 := s[0].toNat_lt
  by_cases h16 : 16 < s.size
  · rw [nm_long h16]
    have h16' : (16 : Int) < s.size := by omega
    clear h0 h16
    go_enter Tryd.func41, Tryd.ntmps41
    go_wp2
    go_returns
    exact ⟨rfl, rfl⟩
  have h16' : (s.size : Int) ≤ 16 := by omega
  have C1 := fun (w : World) (C : Int) (h : C = (s[0].toNat : Int)) => rletter_any s[0].toNat C w h
  rcases h1 : isLt s[0].toNat with _ | _
  · rw [nm_head hp h1]
    rw [h1] at C1
    have H1 := Lib.hid C1
    clear C1 h1 h0 h16
    go_enter Tryd.func41, Tryd.ntmps41
    go_wp2_with (first
      | (go_at_call 55; go_must (refine (H1.out _ _ rfl).mono ?_; rintro e w1 ⟨rfl, rfl⟩)))
    go_returns
    exact ⟨rfl, rfl⟩
  · have HV := Lib.hid (nm_word hp (by omega) h1)
    rw [h1] at C1
    have H1 := Lib.hid C1
    clear C1 h1 h0 h16
    go_enter Tryd.func41, Tryd.ntmps41
    go_wp2_with (first
      | (go_at_call 55; go_must (refine (H1.out _ _ rfl).mono ?_; rintro e w1 ⟨rfl, rfl⟩)))
    go_loop [3] (fun i => ∃ k : Nat, k ≤ s.size ∧ i = .int .i64 k ∧ Hid (wl s.data.toList = k + wl (s.data.toList.drop k))) (fun i => s.size - (intOf i).toNat)
    case atStart => exact ⟨0, by omega, rfl, Lib.hid (by rw [List.drop_zero, Nat.zero_add])⟩
    case round =>
      obtain ⟨k, hk, rfl, HW⟩ := hrel
      by_cases hlt : k < s.size
      · have k1 : s[k].toNat < 256 := s[k].toNat_lt
        have C2 := fun (w : World) (C : Int) (h : C = (s[k].toNat : Int)) => rinner_any s[k].toNat C w h
        rcases h2 : isIn s[k].toNat with _ | _
        · have HF := Lib.hid (show nm s.data.toList = false by rw [HV.out, wl_out hlt h2 HW.out, decide_eq_false]; omega)
          rw [h2] at C2
          have H2 := Lib.hid C2
          clear C2 h2
          go_wp2_with (first
            | (go_at_call 56; go_must (refine (H2.out _ _ rfl).mono ?_; rintro e w1 ⟨rfl, rfl⟩)))
          go_returns
          exact ⟨ret_bool HF.out.symm, rfl⟩
        · have HI := Lib.hid (wl_in hlt h2 HW.out)
          rw [h2] at C2
          have H2 := Lib.hid C2
          clear C2 h2
          go_wp2_with (first
            | (go_at_call 56; go_must (refine (H2.out _ _ rfl).mono ?_; rintro e w1 ⟨rfl, rfl⟩)))
          go_round
          case rel => exact ⟨k + 1, by omega, by go_num, HI⟩
          case measure => simp [intOf]; omega
      · have HT := Lib.hid (show nm s.data.toList = true by rw [HV.out, wl_end hlt hk HW.out, decide_eq_true rfl])
        go_wp2
        go_returns
        exact ⟨ret_bool HT.out.symm, rfl⟩

end Go.Proofs.YtpeiiomimfiebaaDoor
