/-
  The walk of the specification's quoted.
  The walk of the specification's Unquote.
-/
import Derived.Test.YtiimdkamgehioaaDoorW15
import Derived.Test.YtiimdkamgehioaaDoorW11
namespace Go.Proofs.YtiimdkamgehioaaDoor
open Go.RowKit
set_option linter.unusedVariables false
set_option linter.unusedSimpArgs false

theorem w64 (x : Int) (h0 : -9223372036854775808 ≤ x) (h1 : x ≤ 9223372036854775807) : IntKind.i64.wrap x = x := by
  simp only [IntKind.wrap, IntKind.bits, IntKind.signed, Bool.true_and, decide_eq_true_eq, ge_iff_le]
  split <;> omega
theorem w8 (x : Int) (h0 : 0 ≤ x) (h1 : x ≤ 255) : IntKind.u8.wrap x = x := by
  simp only [IntKind.wrap, IntKind.bits, IntKind.signed, Bool.false_and, Bool.false_eq_true, if_false]
  omega
/-- What quoted answers at a place with a double quote. -/
def quV (G : Option (List UInt8 × Nat)) (a : Nat) : Value := match G with | some p => .tuple #[.string ⟨p.1.toArray⟩, .int .i64 ((a + 1 + p.2 : Nat) : Int), .bool true] | none => .tuple #[.string ⟨#[]⟩, .int .i64 0, .bool false]
/-- What is left of it. -/
def qleft (G : Option (List UInt8 × Nat)) (acc : List UInt8) (m : Nat) (l : List UInt8) : Prop := G = (qd l).map (fun p => (acc ++ p.1, m + p.2))
theorem q_end {G : Option (List UInt8 × Nat)} {s : ByteArray} {acc : List UInt8} {m K : Nat} (h : ¬ K < s.size) (hg : qleft G acc m (s.data.toList.drop K)) : G = none := by
  unfold qleft at hg; rw [drop_end s K h] at hg; exact hg
theorem q_34 {G : Option (List UInt8 × Nat)} {s : ByteArray} {acc : List UInt8} {m K : Nat} (h : K < s.size) (h1 : s[K].toNat = 34) (hg : qleft G acc m (s.data.toList.drop K)) : G = some (acc, m + 1) := by
  unfold qleft at hg; rw [drop_at s K h, qd_close _ _ h1] at hg; rw [hg]; simp
theorem q_bad {G : Option (List UInt8 × Nat)} {s : ByteArray} {acc : List UInt8} {m K : Nat} (h : K < s.size) (h1 : s[K].toNat ≠ 34) (h0 : (rp (s.data.toList.drop K)).2 = 0) (hg : qleft G acc m (s.data.toList.drop K)) : G = none := by
  unfold qleft at hg; rw [drop_at s K h] at hg h0; rw [qd_bad _ _ h1 h0] at hg; exact hg
theorem q_go {G : Option (List UInt8 × Nat)} {s : ByteArray} {acc : List UInt8} {m K n : Nat} {c : UInt8} (hr : rp (s.data.toList.drop K) = (c, n)) (hn : n ≠ 0) (hg : qleft G acc m (s.data.toList.drop K)) : qleft G (acc ++ [c]) (m + n) (s.data.toList.drop (K + n)) := by
  unfold qleft at hg ⊢; rw [qd_step _ (by rw [hr]; exact hn), hr, List.drop_drop] at hg; rw [hg]
  cases qd (s.data.toList.drop (K + n)) with
  | none => rfl
  | some p => simp [Nat.add_assoc]
theorem rp_ctl {s : ByteArray} {K : Nat} (h : K < s.size) (hc : s[K].toNat < 32 ∨ 126 < s[K].toNat) : (rp (s.data.toList.drop K)).2 = 0 := by
  rw [drop_at s K h]; simp only [rp]; rw [if_pos (by omega), if_pos (Or.inr (isPr_f hc))]
theorem rp_self {s : ByteArray} {K : Nat} (h : K < s.size) (h1 : s[K].toNat ≠ 34) (h2 : s[K].toNat ≠ 92) (h3 : 32 ≤ s[K].toNat) (h4 : s[K].toNat ≤ 126) : rp (s.data.toList.drop K) = (s[K], 1) := by
  rw [drop_at s K h]; simp only [rp]; rw [if_pos h2, if_neg (by rw [isPr_t h3 h4]; simp; exact h1)]
theorem rp_lone2 {s : ByteArray} {K : Nat} (h : K < s.size) (h1 : s[K].toNat = 92) (h2 : s.size ≤ K + 1) : (rp (s.data.toList.drop K)).2 = 0 := by
  rw [drop_at s K h, drop_end s (K + 1) (by omega)]; simp only [rp]; rw [if_neg (by omega)]
theorem rp_esc {s : ByteArray} {K : Nat} (h : K + 1 < s.size) (h1 : s[K].toNat = 92) : rp (s.data.toList.drop K) = if s[K + 1].toNat = 34 ∨ s[K + 1].toNat = 92 then ((s[K + 1], 2) : UInt8 × Nat) else if s[K + 1].toNat = 110 then (10, 2) else if s[K + 1].toNat = 120 then hb (s.data.toList.drop K) else (0, 0) := by
  rw [drop_at s K (by omega), drop_at s (K + 1) h]; simp only [rp]; rw [if_neg (by omega)]
theorem hb_few {s : ByteArray} {K : Nat} (h : s.size ≤ K + 3) : (hb (s.data.toList.drop K)).2 = 0 := by
  rcases hb_len (s.data.toList.drop K) with a | a
  · exact a
  · have := a.2; rw [List.length_drop, ← size_len] at this; omega
theorem hb_at {s : ByteArray} {K : Nat} (h : K + 3 < s.size) : hb (s.data.toList.drop K) = if hx s[K + 2].toNat < 0 ∨ hx s[K + 3].toNat < 0 then ((0, 0) : UInt8 × Nat) else (UInt8.ofNat (hx s[K + 2].toNat * 16 + hx s[K + 3].toNat : Int).toNat, 4) := by
  rw [drop_at s K (by omega), drop_at s (K + 1) (by omega), drop_at s (K + 2) (by omega), drop_at s (K + 3) h]; rfl

set_option maxRecDepth 20000 in
set_option maxHeartbeats 8000000 in
theorem rquoted_any (s : ByteArray) (a : Nat) (w : World) (hs : s.size ≤ 140737488351232) (ha : a < s.size) (h34 : s[a].toNat = 34) :
    Calls Tryd.prog 62 #[.string s, .int .i64 a] w fun e w' => e = .returned (quV (qd (s.data.toList.drop (a + 1))) a) ∧ Below w.heap.size w w' := by
  have hs' : (s.size : Int) ≤ 140737488351232 := by omega
  have ha' : (a : Int) < s.size := by omega
  have hna : ¬ s.size ≤ a := by omega
  have hnd : decide (s.size ≤ a) = false := decide_eq_false hna
  have k34 : ((s[a].toNat : Int) != 34) = false := by rw [h34]; rfl
  have HQS := Lib.hid (show ∀ (o : List UInt8) (k : Nat), qd (s.data.toList.drop (a + 1)) = some (o, k) → quV (qd (s.data.toList.drop (a + 1))) a = .tuple #[.string ⟨o.toArray⟩, .int .i64 ((a + 1 + k : Nat) : Int), .bool true] from fun o k h => by rw [h]; rfl)
  have HQN := Lib.hid (show qd (s.data.toList.drop (a + 1)) = none → quV (qd (s.data.toList.drop (a + 1))) a = .tuple #[.string ⟨#[]⟩, .int .i64 0, .bool false] from fun h => by rw [h]; rfl)
  have HG0 := Lib.hid (show qleft (qd (s.data.toList.drop (a + 1))) [] 0 (s.data.toList.drop (a + 1 + 0)) from by unfold qleft; simp)
  generalize quV (qd (s.data.toList.drop (a + 1))) a = Z at *
  generalize qd (s.data.toList.drop (a + 1)) = G at *
  clear h34
  go_enter Tryd.func62, Tryd.ntmps62
  go_wp2
  go_loopw [7, 8] (fun v x wr => ∃ (m : Nat) (V : Value) (acc : List UInt8), a + 1 + m ≤ s.size ∧ acc.length ≤ m ∧ v = V ∧ x = .int .i64 ((a + 1 + m : Nat) : Int) ∧ Row wr w.heap.size V acc ∧ Below w.heap.size w wr ∧ Hid (qleft G acc m (s.data.toList.drop (a + 1 + m)))) (fun _ x _ => s.size - (intOf x).toNat)
  case atStart => exact ⟨0, _, [], by omega, by simp, rfl, val_int (by omega), Row.empty w _ (Nat.le_refl _), ba w _, HG0⟩
  case round =>
    obtain ⟨m, V, acc, hm, hal, rfl, rfl, hf, hw, HG⟩ := hrel
    obtain ⟨VA, VN, VC, rfl, hVN⟩ := hf.form
    have hsz := hw.size
    have g1 : acc.length + 4 ≤ 140737488355328 := by omega
    have HF := Lib.hid hf
    clear hf hVN
    by_cases hlt : a + 1 + m < s.size
    · have k0 : s[a + 1 + m].toNat < 256 := s[a + 1 + m].toNat_lt
      generalize hK : a + 1 + m = K at *
      by_cases q1 : s[K].toNat = 34
      · have HQ := Lib.hid (show Z = .tuple #[.string ⟨acc.toArray⟩, .int .i64 ((K : Int) + 1), .bool true] from by rw [HQS.out _ _ (q_34 hlt q1 HG.out), show ((a + 1 + (m + 1) : Nat) : Int) = (K : Int) + 1 by omega])
        have f1 : ((s[K].toNat : Int) == 34) = true := by rw [q1]; rfl
        have kc := HF.out.conv
        clear q1
        go_wp2
        go_returns
        exact ⟨ret_of HQ.out.symm, hw⟩
      have f1 : ((s[K].toNat : Int) == 34) = false := by rw [Bool.eq_false_iff]; simp; omega
      by_cases q2 : s[K].toNat < 32
      · have HQ := Lib.hid (HQN.out (q_bad hlt q1 (rp_ctl hlt (Or.inl q2)) HG.out))
        go_wp2
        go_returns
        exact ⟨ret_of HQ.out.symm, hw⟩
      by_cases q3 : 126 < s[K].toNat
      · have HQ := Lib.hid (HQN.out (q_bad hlt q1 (rp_ctl hlt (Or.inr q3)) HG.out))
        go_wp2
        go_returns
        exact ⟨ret_of HQ.out.symm, hw⟩
      by_cases q4 : s[K].toNat = 92
      · have f4 : ((s[K].toNat : Int) != 92) = false := by rw [q4]; rfl
        have f4' : ((s[K].toNat : Int) == 92) = true := by rw [q4]; rfl
        by_cases q5 : s.size ≤ K + 1
        · have HQ := Lib.hid (HQN.out (q_bad hlt q1 (rp_lone2 hlt q4 q5) HG.out))
          have l5 : (s.size : Int) ≤ (K : Int) + 1 := by omega
          go_wp2
          go_returns
          exact ⟨ret_of HQ.out.symm, hw⟩
        have l5 : (K : Int) + 1 < s.size := by omega
        have h5 : K + 1 < s.size := by omega
        have k1 : s[K + 1].toNat < 256 := s[K + 1].toNat_lt
        have hrp := rp_esc h5 q4
        by_cases e1 : s[K + 1].toNat = 34
        · rw [if_pos (Or.inl e1)] at hrp
          have HQ := Lib.hid (q_go hrp (by decide) HG.out)
          have f5 : ((s[K + 1].toNat : Int) == 34) = true := by rw [e1]; rfl
          clear hrp e1
          go_wp2_with (first
            | (at_builtin; go_must (refine wpList_append_many rfl (.tmp 66) (.tmp 68) rfl rfl rfl rfl HF.out hsz [s[K + 1]] rfl (by decide) (by decide) rfl g1 ?_; intro v3 w3 r3 b3)))
          go_roundw
          case rel => exact ⟨m + 2, v3, acc ++ [s[K + 1]], by omega, by simp only [List.length_append, List.length_cons, List.length_nil]; omega, rfl, val_int (by omega), r3, hw.trans b3, Lib.hid (by have := HQ.out; rw [show a + 1 + (m + 2) = K + 2 by omega]; exact this)⟩
          case measure => simp [intOf]; omega
        have f5 : ((s[K + 1].toNat : Int) == 34) = false := by rw [Bool.eq_false_iff]; simp; omega
        by_cases e2 : s[K + 1].toNat = 92
        · rw [if_pos (Or.inr e2)] at hrp
          have HQ := Lib.hid (q_go hrp (by decide) HG.out)
          have f6 : ((s[K + 1].toNat : Int) == 92) = true := by rw [e2]; rfl
          clear hrp e2
          go_wp2_with (first
            | (at_builtin; go_must (refine wpList_append_many rfl (.tmp 66) (.tmp 68) rfl rfl rfl rfl HF.out hsz [s[K + 1]] rfl (by decide) (by decide) rfl g1 ?_; intro v3 w3 r3 b3)))
          go_roundw
          case rel => exact ⟨m + 2, v3, acc ++ [s[K + 1]], by omega, by simp only [List.length_append, List.length_cons, List.length_nil]; omega, rfl, val_int (by omega), r3, hw.trans b3, Lib.hid (by have := HQ.out; rw [show a + 1 + (m + 2) = K + 2 by omega]; exact this)⟩
          case measure => simp [intOf]; omega
        have f6 : ((s[K + 1].toNat : Int) == 92) = false := by rw [Bool.eq_false_iff]; simp; omega
        rw [if_neg (by omega)] at hrp
        by_cases e3 : s[K + 1].toNat = 110
        · rw [if_pos e3] at hrp
          have HQ := Lib.hid (q_go hrp (by decide) HG.out)
          have f7 : ((s[K + 1].toNat : Int) == 110) = true := by rw [e3]; rfl
          clear hrp e3
          go_wp2_with (first
            | (at_builtin; go_must (refine wpList_append_many rfl (.tmp 74) (.tmp 75) rfl rfl rfl rfl HF.out hsz [10] rfl (by decide) (by decide) rfl g1 ?_; intro v3 w3 r3 b3)))
          go_roundw
          case rel => exact ⟨m + 2, v3, acc ++ [10], by omega, by simp only [List.length_append, List.length_cons, List.length_nil]; omega, rfl, val_int (by omega), r3, hw.trans b3, Lib.hid (by have := HQ.out; rw [show a + 1 + (m + 2) = K + 2 by omega]; exact this)⟩
          case measure => simp [intOf]; omega
        have f7 : ((s[K + 1].toNat : Int) == 110) = false := by rw [Bool.eq_false_iff]; simp; omega
        rw [if_neg e3] at hrp
        by_cases e4 : s[K + 1].toNat = 120
        · rw [if_pos e4] at hrp
          have f8 : ((s[K + 1].toNat : Int) == 120) = true := by rw [e4]; rfl
          by_cases q6 : s.size ≤ K + 3
          · have HQ := Lib.hid (HQN.out (q_bad hlt q1 (by rw [hrp, hb_few (by omega)]) HG.out))
            have l6 : (s.size : Int) ≤ (K : Int) + 3 := by omega
            clear hrp
            go_wp2
            go_returns
            exact ⟨ret_of HQ.out.symm, hw⟩
          have l6 : (K : Int) + 3 < s.size := by omega
          have l6' : (K : Int) + 2 < s.size := by omega
          have h6 : K + 2 < s.size := by omega
          have h7 : K + 3 < s.size := by omega
          have k2 : s[K + 2].toNat < 256 := s[K + 2].toNat_lt
          have k3 : s[K + 3].toNat < 256 := s[K + 3].toNat_lt
          have HU := Lib.hid (fun w => rhexa_any s[K + 2].toNat s[K + 2].toNat w rfl k2)
          have HV := Lib.hid (fun w => rhexa_any s[K + 3].toNat s[K + 3].toNat w rfl k3)
          rw [hb_at h7] at hrp
          obtain ⟨u1, u2⟩ := hx_lt s[K + 2].toNat
          obtain ⟨v1, v2⟩ := hx_lt s[K + 3].toNat
          generalize hx s[K + 2].toNat = U at *
          generalize hx s[K + 3].toNat = V at *
          by_cases hU : U < 0
          · have HQ := Lib.hid (HQN.out (q_bad hlt q1 (by rw [hrp, if_pos (Or.inl hU)]) HG.out))
            clear hrp
            go_wp2_with (first
              | (go_at_call 76; go_must (first | (with_reducible refine (HU.out _).mono ?_; rintro e w1 ⟨rfl, rfl⟩) | (with_reducible refine (HV.out _).mono ?_; rintro e w1 ⟨rfl, rfl⟩))))
            go_returns
            exact ⟨ret_of HQ.out.symm, hw⟩
          by_cases hV : V < 0
          · have HQ := Lib.hid (HQN.out (q_bad hlt q1 (by rw [hrp, if_pos (Or.inr hV)]) HG.out))
            clear hrp
            go_wp2_with (first
              | (go_at_call 76; go_must (first | (with_reducible refine (HU.out _).mono ?_; rintro e w1 ⟨rfl, rfl⟩) | (with_reducible refine (HV.out _).mono ?_; rintro e w1 ⟨rfl, rfl⟩))))
            go_returns
            exact ⟨ret_of HQ.out.symm, hw⟩
          rw [if_neg (by omega)] at hrp
          have HQ := Lib.hid (q_go hrp (by decide) HG.out)
          clear hrp
          have hU' : 0 ≤ U := by omega
          have hV' : 0 ≤ V := by omega
          have hge : (U * 16 + V).toNat < 256 := by omega
          have hby : ((UInt8.ofNat (U * 16 + V).toNat).toNat : Int) = U * 16 + V := by rw [UInt8.toNat_ofNat', Nat.mod_eq_of_lt hge]; omega
          generalize UInt8.ofNat (U * 16 + V).toNat = C at *
          obtain ⟨P2, hP2⟩ : ∃ P2, K + 2 = P2 := ⟨_, rfl⟩
          obtain ⟨P3, hP3⟩ : ∃ P3, K + 3 = P3 := ⟨_, rfl⟩
          have x2 : (0 : Int) ≤ (P2 : Int) ∧ (P2 : Int) < s.size := by omega
          have x3 : (0 : Int) ≤ (P3 : Int) ∧ (P3 : Int) < s.size := by omega
          have hw2 : IntKind.i64.wrap ((K : Int) + 2) = (P2 : Int) := by rw [w64 _ (by omega) (by omega)]; omega
          have hw3 : IntKind.i64.wrap ((K : Int) + 3) = (P3 : Int) := by rw [w64 _ (by omega) (by omega)]; omega
          have HC := Lib.hid (show (#[Value.int .u8 (IntKind.u8.wrap (IntKind.i64.wrap (IntKind.i64.wrap (U * 16) + V)))] : Array Value).toList = cells [C] from by rw [w64 (U * 16) (by omega) (by omega), w64 _ (by omega) (by omega), w8 _ (by omega) (by omega), ← hby]; rfl)
          have hdr : Below w.heap.size w wr.drew := hw.drew
          simp only [hP2, hP3] at *
          go_wp2_with (first
            | (go_at_call 76; go_must (first | (with_reducible refine (HU.out _).mono ?_; rintro e w1 ⟨rfl, rfl⟩) | (with_reducible refine (HV.out _).mono ?_; rintro e w1 ⟨rfl, rfl⟩))))
          go_region_held3 (fun w' => Below w.heap.size w w') (first | assumption | exact hdr | exact Below.alloc (by assumption) (Below.size (by assumption)) _ | go_keep)
            ((first
              | (go_at_call 76; first | (with_reducible refine (HU.out _).mono ?_; rintro e w1 ⟨rfl, rfl⟩) | (with_reducible refine (HV.out _).mono ?_; rintro e w1 ⟨rfl, rfl⟩))
              | (refine step_append_many (by rfl) (.tmp 104) (.tmp 118) (by rfl) (by rfl) (by rfl) (by rfl) HF.out.drew hdr.size [C] (by rfl) (by decide) (by decide) HC.out g1 ?_; intro v3 w3 r3 b3; have hw3' := hdr.trans b3)))
          all_goals
            go_wp2
            go_roundw
            case rel => exact ⟨m + 4, v3, acc ++ [C], by omega, by simp only [List.length_append, List.length_cons, List.length_nil]; omega, rfl, val_int (by omega), r3, hw3', Lib.hid (by have := HQ.out; rw [show a + 1 + (m + 4) = K + 4 by omega]; exact this)⟩
            case measure => simp [intOf]; omega
        have f8 : ((s[K + 1].toNat : Int) == 120) = false := by rw [Bool.eq_false_iff]; simp; omega
        rw [if_neg e4] at hrp
        have HQ := Lib.hid (HQN.out (q_bad hlt q1 (by rw [hrp]) HG.out))
        clear hrp
        go_wp2
        go_returns
        exact ⟨ret_of HQ.out.symm, hw⟩
      have f4 : ((s[K].toNat : Int) != 92) = true := by rw [bne_iff_ne]; omega
      have HQ := Lib.hid (q_go (rp_self hlt q1 q4 (by omega) (by omega)) (by decide) HG.out)
      go_wp2_with (first
        | (at_builtin; go_must (refine wpList_append_many rfl (.tmp 45) (.tmp 47) rfl rfl rfl rfl HF.out hsz [s[K]] rfl (by decide) (by decide) rfl g1 ?_; intro v3 w3 r3 b3)))
      go_roundw
      case rel => exact ⟨m + 1, v3, acc ++ [s[K]], by omega, by simp only [List.length_append, List.length_cons, List.length_nil]; omega, rfl, val_int (by omega), r3, hw.trans b3, Lib.hid (by have := HQ.out; rw [show a + 1 + (m + 1) = K + 1 by omega]; exact this)⟩
      case measure => simp [intOf]; omega
    · have HQ := Lib.hid (HQN.out (q_end hlt HG.out))
      have hK : a + 1 + m = s.size := by omega
      have hK' : ((a + 1 + m : Nat) : Int) = s.size := by omega
      rw [hK]
      go_wp2
      go_returns
      exact ⟨ret_of HQ.out.symm, hw⟩

end Go.Proofs.YtiimdkamgehioaaDoor

namespace Go.Proofs.YtiimdkamgehioaaDoor
open Go.RowKit
set_option linter.unusedVariables false
set_option linter.unusedSimpArgs false

set_option maxRecDepth 20000 in
theorem rquoted_no (s : ByteArray) (w : World) (h : s.size ≤ 0 ∨ ∃ h : 0 < s.size, s[0].toNat ≠ 34) :
    Calls Tryd.prog 62 #[.string s, .int .i64 0] w fun e w' => e = .returned (.tuple #[.string ⟨#[]⟩, .int .i64 0, .bool false]) ∧ w = w' := by
  rcases h with h | ⟨h0, h1⟩
  · have hs : s = ⟨#[]⟩ := by
      have e := bytes_of s
      rw [empty_toList (by omega)] at e
      exact e.symm
    subst hs
    clear h
    go_enter Tryd.func62, Tryd.ntmps62
    go_wp2
    go_returns
    exact ⟨rfl, rfl⟩
  · have l0 : (0 : Int) < s.size := by omega
    have e1 : ((s[0].toNat : Int) != 34) = true := by rw [bne_iff_ne]; omega
    clear h1
    go_enter Tryd.func62, Tryd.ntmps62
    go_wp2
    all_goals (go_returns; exact ⟨rfl, rfl⟩)

set_option maxHeartbeats 1000000 in
theorem runquote_any (s : ByteArray) (w : World) (hs : s.size ≤ 140737488351232) :
    Calls Tryd.prog 45 #[.string s] w fun e w' => e = .returned (unV s.data.toList) ∧ Below w.heap.size w w' := by
  by_cases hq : ∃ h : 0 < s.size, s[0].toNat = 34
  · obtain ⟨h0, h1⟩ := hq
    have C1 := fun w => rquoted_any s 0 w hs h0 h1
    have hu : unq s.data.toList = match qd (s.data.toList.drop 1) with | none => none | some (o, k) => if k = s.size - 1 then some o else none := by
      have e := unq_iff s[0] (s.data.toList.drop 1) h1
      rw [← cons_of h0, List.length_drop, ← size_len] at e
      exact e
    rw [Nat.zero_add] at C1
    clear h1
    cases hq : qd (s.data.toList.drop 1) with
    | none =>
      rw [hq] at hu C1
      have HV := Lib.hid (unV_none hu)
      simp only [quV] at C1
      have H1 := Lib.hid C1
      clear C1 hu hq
      go_enter Tryd.func45, Tryd.ntmps45
      go_wp2_with (first
        | (go_at_call 62; go_must (refine (H1.out _).mono ?_; rintro e w1 ⟨rfl, b1⟩)))
      go_returns
      exact ⟨ret_of HV.out.symm, b1⟩
    | some p =>
      obtain ⟨o, k⟩ := p
      rw [hq] at hu C1
      simp only [quV] at C1
      by_cases hk : k = s.size - 1
      · simp only [hk, if_true] at hu
        have HV := Lib.hid (unV_some hu)
        have hks : ((0 + 1 + k : Nat) : Int) = (s.size : Int) := by omega
        rw [hks] at C1
        have H1 := Lib.hid C1
        clear C1 hu hq hk hks
        go_enter Tryd.func45, Tryd.ntmps45
        go_wp2_with (first
          | (go_at_call 62; go_must (refine (H1.out _).mono ?_; rintro e w1 ⟨rfl, b1⟩)))
        go_returns
        exact ⟨ret_of HV.out.symm, b1⟩
      · simp only [hk, if_false] at hu
        have HV := Lib.hid (unV_none hu)
        have hks : ¬ ((0 + 1 + k : Nat) : Int) = (s.size : Int) := by omega
        generalize ((0 + 1 + k : Nat) : Int) = K at *
        have hkb : (K != (s.size : Int)) = true := by rw [bne_iff_ne]; exact hks
        have hkb2 : (K == (s.size : Int)) = false := by rw [beq_eq_false_iff_ne]; exact hks
        have H1 := Lib.hid C1
        clear C1 hu hq hk
        go_enter Tryd.func45, Tryd.ntmps45
        go_wp2_with (first
          | (go_at_call 62; go_must (refine (H1.out _).mono ?_; rintro e w1 ⟨rfl, b1⟩)))
        go_returns
        exact ⟨ret_of HV.out.symm, b1⟩
  · have C1 := fun w => rquoted_no s w (by
      by_cases h0 : 0 < s.size
      · exact Or.inr ⟨h0, fun e => hq ⟨h0, e⟩⟩
      · exact Or.inl (by omega))
    have hu : unq s.data.toList = none := by
      by_cases h0 : 0 < s.size
      · exact unq_first h0 fun e => hq ⟨h0, e⟩
      · exact unq_short (by omega)
    have HV := Lib.hid (unV_none hu)
    have H1 := Lib.hid C1
    clear C1 hu hq
    go_enter Tryd.func45, Tryd.ntmps45
    go_wp2_with (first
      | (go_at_call 62; go_must (refine (H1.out _).mono ?_; rintro e w1 ⟨rfl, rfl⟩)))
    go_returns
    exact ⟨ret_of HV.out.symm, Below.refl _ _⟩

end Go.Proofs.YtiimdkamgehioaaDoor
