/-
  The walks of cmp.Compare, cmp.Or, of the comparison of events and of Less.
-/
import Derived.Test.YtiimdkamgehioaaDoorA1
import Derived.Deep.DeepMust
namespace Go.Proofs.YtiimdkamgehioaaDoor
open Go Go.RowKit Go.Joins Go.Sort
set_option linter.unusedVariables false
set_option linter.unusedSimpArgs false

/-- -1, 0 or 1. -/
def cI (x y : Int) : Int := if x < y then -1 else if y < x then 1 else 0
def cB (x y : List UInt8) : Int := if Op.bytesLess x y = true then -1 else if Op.bytesLess y x = true then 1 else 0
def cOr : List Int → Int
  | [] => 0
  | x :: l => if x ≠ 0 then x else cOr l
theorem cI_range (x y : Int) : -1 ≤ cI x y ∧ cI x y ≤ 1 := by unfold cI; (repeat' split) <;> omega
theorem cB_range (x y : List UInt8) : -1 ≤ cB x y ∧ cB x y ≤ 1 := by unfold cB; (repeat' split) <;> omega

set_option maxHeartbeats 1000000 in
theorem cmpInt_x (x y : Int) (w : World) : Calls Tryd.prog 50 #[.int .i64 x, .int .i64 y] w fun e w' => e = .returned (.int .i64 (cI x y)) ∧ w' = w := by
  have N1 : ∀ (z : Int) (W : World), Calls Tryd.prog 65 #[.int .i64 z] W fun e w' => e = .returned (.bool false) ∧ w' = W := fun z W => by
    go_enter Tryd.func65, Tryd.ntmps65
    go_wp2
    go_returns
    exact ⟨by simp, rfl⟩
  have CN := Lib.hid N1
  clear N1
  go_enter Tryd.func50, Tryd.ntmps50
  go_wp2_with (go_at_call 65; go_must (refine (CN.out _ _).mono ?_; rintro e1 w1 ⟨rfl, rfl⟩))
  all_goals
    go_returns
    first | (refine ⟨ret_int ?_, rfl⟩; unfold cI; first | rfl | (rw [if_pos (by omega)]; done) | (rw [if_neg (by omega), if_pos (by omega)]; done) | (rw [if_neg (by omega), if_neg (by omega)]; done)) | trace_state

set_option maxHeartbeats 1000000 in
theorem cmpStr_x (x y : ByteArray) (w : World) : Calls Tryd.prog 51 #[.string x, .string y] w fun e w' => e = .returned (.int .i64 (cB x.data.toList y.data.toList)) ∧ w' = w := by
  have N1 : ∀ (z : ByteArray) (W : World), Calls Tryd.prog 66 #[.string z] W fun e w' => e = .returned (.bool false) ∧ w' = W := fun z W => by
    go_enter Tryd.func66, Tryd.ntmps66
    go_wp2
    go_returns
    exact ⟨by simp, rfl⟩
  have CN := Lib.hid N1
  clear N1
  go_enter Tryd.func51, Tryd.ntmps51
  go_wp2_with (go_at_call 66; go_must (refine (CN.out _ _).mono ?_; rintro e1 w1 ⟨rfl, rfl⟩))
  · rename_i h
    rw [ByteArray.toList_eq, ByteArray.toList_eq] at h
    go_returns
    exact ⟨ret_int (by unfold cB; rw [if_pos h]), rfl⟩
  · rename_i h _ _ h2
    rw [ByteArray.toList_eq, ByteArray.toList_eq] at h h2
    go_returns
    have h3 : x.data.toList ≠ y.data.toList := by simpa using h2
    exact ⟨ret_int (by unfold cB; rw [if_neg (by simp [h]), if_pos (by have := bl_total _ _ h3; simpa [h] using this)]), rfl⟩
  · rename_i h h2
    rw [ByteArray.toList_eq, ByteArray.toList_eq] at h h2
    go_returns
    have h3 : x.data.toList = y.data.toList := by simpa using h2
    exact ⟨ret_int (by unfold cB; rw [h3, bl_irrefl]; rfl), rfl⟩

/-- A row of numbers that is read. -/
def NumArg (w : World) (g n : Nat) (l : List Int) : Prop := n = l.length ∧ ∀ j (h : j < l.length), w.cell? ⟨g, j, none⟩ = some (.int .i64 l[j])

theorem cOr_at (l : List Int) (k : Nat) (h : k ≤ l.length) (hz : ∀ j (hj : j < l.length), j < k → l[j] = 0) : cOr l = cOr (l.drop k) := by
  induction k with
  | zero => rfl
  | succ k ih =>
    rw [ih (by omega) (fun j hj hk => hz j hj (by omega)), List.drop_eq_getElem_cons (by omega), cOr, if_neg (by simp [hz k (by omega) (by omega)])]

set_option maxRecDepth 20000 in
set_option maxHeartbeats 1000000 in
theorem or_x (l : List Int) (g n c : Nat) (w : World) (h : NumArg w g n l) (hl : l.length ≤ 1000) : Calls Tryd.prog 49 #[.slice (some ⟨g, 0, none⟩) n c] w fun e w' => e = .returned (.int .i64 (cOr l)) ∧ w' = w := by
  obtain ⟨rfl, hc⟩ := h
  have F := Lib.hid hc
  have hl' : (l.length : Int) ≤ 1000 := by omega
  clear hc
  go_enter Tryd.func49, Tryd.ntmps49
  go_wp2
  go_loopw [8] (fun x wr => ∃ k : Nat, k ≤ l.length ∧ x = .int .i64 k ∧ wr = w ∧ (∀ j (hj : j < l.length), j < k → l[j] = 0)) (fun x _ => l.length - (intOf x).toNat)
  case atStart => exact ⟨0, by omega, rfl, rfl, fun j _ h => by omega⟩
  case round =>
    obtain ⟨k, hk, rfl, rfl, hz⟩ := hrel
    have HZ := Lib.hid hz; clear hz
    by_cases hlt : k < l.length
    · have c0 := F.out k hlt
      generalize hx : l[k] = x at c0
      have HX := Lib.hid hx; clear hx
      by_cases h0 : x = 0
      · subst h0
        go_wp2
        go_roundw
        case rel => exact ⟨k + 1, by omega, by go_num, by trivial, fun j hj hk => by
          by_cases e : j = k
          · subst e; exact HX.out
          · exact HZ.out j hj (by omega)⟩
        case measure => simp [intOf]; omega
      · go_wp2
        go_returns
        exact ⟨ret_int (by rw [cOr_at l k hk HZ.out, List.drop_eq_getElem_cons hlt, HX.out, cOr, if_pos h0]), rfl⟩
    · have ek : k = l.length := by omega
      subst ek
      go_wp2
      go_returns
      exact ⟨ret_int (by rw [cOr_at l l.length (Nat.le_refl _) HZ.out]; simp [cOr]), rfl⟩
end Go.Proofs.YtiimdkamgehioaaDoor
