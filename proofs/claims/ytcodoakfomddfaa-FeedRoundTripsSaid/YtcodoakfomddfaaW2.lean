/-
  The walk of the specification's name; lists of names: Index, Contains, place, checkNames, names.
-/
import Derived.Test.YtcodoakfomddfaaW1
import Derived.Test.YtcodoakfomddfaaK2
namespace Go.Proofs.Ytcodoakfomddfaa
open Go Go.RowKit Go.Joins
set_option linter.unusedVariables false
set_option linter.unusedSimpArgs false

theorem int_lt_f {a b : Nat} (h : ¬ a < b) : decide ((a : Int) < (b : Int)) = false := decide_eq_false (by omega)
set_option maxRecDepth 20000 in
set_option maxHeartbeats 1000000 in
theorem rname_any (s : ByteArray) (w : World) (hs : s.size ≤ 9223372036854775807) :
    Calls Try.prog 57 #[.string s] w fun e w' => e = .returned (.bool (nm s.data.toList)) ∧ w = w' := by
  have hs' : (s.size : Int) ≤ 9223372036854775807 := by omega
  by_cases h0 : s.size = 0
  · have he := toList_empty h0
    rw [nm_empty h0]
    clear h0
    go_enter Try.func57, Try.ntmps57
    go_wp2
    go_returns
    exact ⟨rfl, rfl⟩
  have hp : 0 < s.size := by omega
  have he := toList_some hp
  by_cases h16 : 16 < s.size
  · rw [nm_long h16]
    have h16' : (16 : Int) < s.size := by omega
    clear h0 h16
    go_enter Try.func57, Try.ntmps57
    go_wp2
    go_returns
    exact ⟨rfl, rfl⟩
  have h16' : (s.size : Int) ≤ 16 := by omega
  have k0 : s[0].toNat < 256 := s[0].toNat_lt
  by_cases c1 : s[0].toNat < 97
  · rw [nm_head hp (isLt_f (Or.inl c1))]
    have c1' : (s[0].toNat : Int) < 97 := by omega
    clear h0 h16 c1
    go_enter Try.func57, Try.ntmps57
    go_wp2
    go_returns
    exact ⟨rfl, rfl⟩
  by_cases c2 : 122 < s[0].toNat
  · rw [nm_head hp (isLt_f (Or.inr c2))]
    have c1' : ¬ (s[0].toNat : Int) < 97 := by omega
    have c2' : (122 : Int) < s[0].toNat := by omega
    clear h0 h16 c1 c2
    go_enter Try.func57, Try.ntmps57
    go_wp2
    go_returns
    exact ⟨rfl, rfl⟩
  have HV := Lib.hid (nm_word hp (by omega) (isLt_t (by omega) (by omega)))
  have c1' : ¬ (s[0].toNat : Int) < 97 := by omega
  have c2' : ¬ (122 : Int) < s[0].toNat := by omega
  clear h0 h16 c1 c2
  go_enter Try.func57, Try.ntmps57
  go_wp2
  go_loop [3] (fun i => ∃ k : Nat, k ≤ s.size ∧ i = .int .i64 k ∧ Hid (wl s.data.toList = k + wl (s.data.toList.drop k))) (fun i => s.size - (intOf i).toNat)
  case atStart => exact ⟨0, by omega, rfl, Lib.hid (by rw [List.drop_zero, Nat.zero_add])⟩
  case round =>
    obtain ⟨k, hk, rfl, HW⟩ := hrel
    by_cases hlt : k < s.size
    · have k1 : s[k].toNat < 256 := s[k].toNat_lt
      have HI := Lib.hid (fun h => wl_in hlt h HW.out)
      have HO := Lib.hid (fun h => show nm s.data.toList = false by rw [HV.out, wl_out hlt h HW.out, decide_eq_false]; omega)
      clear c1' c2' HV HW
      obtain ⟨c, hc⟩ : ∃ c, s[k].toNat = c := ⟨_, rfl⟩
      have hc' : (s[k].toNat : Int) = c := by omega
      rw [hc] at HI HO k1
      by_cases a1 : 97 ≤ c
      · by_cases a2 : c ≤ 122
        · have HI2 := Lib.hid (HI.out (isIn_of (Or.inl (isLt_t a1 a2))))
          have d1 : (97 : Int) ≤ s[k].toNat := by omega
          have d2 : (s[k].toNat : Int) ≤ 122 := by omega
          have d3 : decide ((48 : Int) ≤ s[k].toNat) = true := decide_eq_true (by omega)
          have d4 : decide ((s[k].toNat : Int) ≤ 57) = false := decide_eq_false (by omega)
          clear hc hc' a1 a2 HI HO
          go_wp2
          go_round
          case rel => exact ⟨k + 1, by omega, by go_num, HI2⟩
          case measure => simp [intOf]; omega
        · have HO2 := Lib.hid (HO.out (isIn_no (isLt_f (by omega)) (isDg_f (by omega)) (by omega)))
          have d1 : (97 : Int) ≤ s[k].toNat := by omega
          have d2 : decide ((s[k].toNat : Int) ≤ 122) = false := decide_eq_false (by omega)
          have d3 : decide ((48 : Int) ≤ s[k].toNat) = true := decide_eq_true (by omega)
          have d4 : decide ((s[k].toNat : Int) ≤ 57) = false := decide_eq_false (by omega)
          have d5 : ((s[k].toNat : Int) == 95) = false := by rw [Bool.eq_false_iff]; simp; omega
          clear hc hc' a1 a2 HI HO
          go_wp2
          go_returns
          exact ⟨ret_bool HO2.out.symm, rfl⟩
      · have d1 : decide ((97 : Int) ≤ s[k].toNat) = false := decide_eq_false (by omega)
        by_cases b1 : 48 ≤ c
        · by_cases b2 : c ≤ 57
          · have HI2 := Lib.hid (HI.out (isIn_of (Or.inr (Or.inl (isDg_t b1 b2)))))
            have d3 : (48 : Int) ≤ s[k].toNat := by omega
            have d4 : (s[k].toNat : Int) ≤ 57 := by omega
            clear hc hc' a1 b1 b2 HI HO
            go_wp2
            go_round
            case rel => exact ⟨k + 1, by omega, by go_num, HI2⟩
            case measure => simp [intOf]; omega
          · have d3 : (48 : Int) ≤ s[k].toNat := by omega
            have d4 : decide ((s[k].toNat : Int) ≤ 57) = false := decide_eq_false (by omega)
            by_cases b3 : c = 95
            · have HI2 := Lib.hid (HI.out (isIn_of (Or.inr (Or.inr b3))))
              have d5 : (s[k].toNat : Int) = 95 := by omega
              clear hc hc' a1 b1 b2 b3 HI HO
              go_wp2
              go_round
              case rel => exact ⟨k + 1, by omega, by go_num, HI2⟩
              case measure => simp [intOf]; omega
            · have HO2 := Lib.hid (HO.out (isIn_no (isLt_f (by omega)) (isDg_f (by omega)) b3))
              have d5 : ((s[k].toNat : Int) == 95) = false := by rw [Bool.eq_false_iff]; simp; omega
              clear hc hc' a1 b1 b2 b3 HI HO
              go_wp2
              go_returns
              exact ⟨ret_bool HO2.out.symm, rfl⟩
        · have HO2 := Lib.hid (HO.out (isIn_no (isLt_f (by omega)) (isDg_f (by omega)) (by omega)))
          have d3 : decide ((48 : Int) ≤ s[k].toNat) = false := decide_eq_false (by omega)
          have d5 : ((s[k].toNat : Int) == 95) = false := by rw [Bool.eq_false_iff]; simp; omega
          clear hc hc' a1 b1 HI HO
          go_wp2
          go_returns
          exact ⟨ret_bool HO2.out.symm, rfl⟩
    · have HE := Lib.hid (show nm s.data.toList = true by rw [HV.out, wl_end hlt hk HW.out, decide_eq_true rfl])
      clear HV HW c1' c2'
      go_wp2
      go_returns
      exact ⟨ret_bool HE.out.symm, rfl⟩

end Go.Proofs.Ytcodoakfomddfaa
