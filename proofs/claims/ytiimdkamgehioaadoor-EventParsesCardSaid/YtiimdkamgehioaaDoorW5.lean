/-
  The walks of Number, Name, mark, hexByte, represented, tokenLength.
-/
import Derived.Test.YtiimdkamgehioaaDoorW3
import Derived.Test.YtiimdkamgehioaaDoorW4
import Derived.Test.YtiimdkamgehioaaDoorShelf
namespace Go.Proofs.YtiimdkamgehioaaDoor
open Go.RowKit
set_option linter.unusedVariables false
set_option linter.unusedSimpArgs false

/-! Number. -/
theorem cut1 (s : ByteArray) (w : World) : Calls Tryd.prog 97 #[.string s, .string ⟨#[45]⟩] w fun e w' => e = .returned (.tuple #[.string ⟨(body s.data.toList).toArray⟩, .bool (neg s.data.toList)]) ∧ w = w' :=
  (Tryd.strings_CutPrefix s ⟨#[45]⟩ w).mono fun _ _ h => ⟨h.1, h.2.symm⟩
theorem cut2 (l : List UInt8) (w : World) : Calls Tryd.prog 97 #[.string ⟨(body l).toArray⟩, .string ⟨#[48, 120]⟩] w fun e w' => e = .returned (.tuple #[.string ⟨(digs l).toArray⟩, .bool (hex l)]) ∧ w = w' := by
  have := Tryd.strings_CutPrefix ⟨(body l).toArray⟩ ⟨#[48, 120]⟩ w
  rw [toList_mk] at this
  exact this.mono fun _ _ h => ⟨h.1, h.2.symm⟩
theorem trim_len (l p : List UInt8) : (Lib.trimPrefix l p).length ≤ l.length := by unfold Lib.trimPrefix; split <;> simp
theorem digs_len (l : List UInt8) : (digs l).length ≤ l.length := Nat.le_trans (trim_len _ _) (trim_len _ _)
theorem digs_body {l : List UInt8} (h : hex l = false) : digs l = body l := by unfold digs Lib.trimPrefix; unfold hex at h; rw [h]; rfl
theorem num_none {l : List UInt8} (h : numO l = none) : numV l = 0 ∧ numE l = 4 := by unfold numV numE; rw [h]; exact ⟨rfl, rfl⟩
theorem num_zero {l : List UInt8} {n : Int} (h : numO l = some n) (hn : neg l = true) (h0 : n = 0) : numV l = 0 ∧ numE l = 4 := by
  unfold numV numE; rw [h]; simp only; rw [if_pos ⟨hn, h0⟩, if_pos ⟨hn, h0⟩]; exact ⟨rfl, rfl⟩
theorem num_big {l : List UInt8} {n : Int} (h : numO l = some n) (hb : 9007199254740992 < n) : numV l = 0 ∧ numE l = 2 := by
  have h0 : n ≠ 0 := by omega
  unfold numV numE; rw [h]; simp [h0, hb]
theorem num_pos {l : List UInt8} {n : Int} (h : numO l = some n) (hn : neg l = false) (hb : ¬ 9007199254740992 < n) : numV l = n ∧ numE l = 0 := by
  unfold numV numE; rw [h]; simp only; rw [hn]; simp [hb]
theorem num_neg {l : List UInt8} {n : Int} (h : numO l = some n) (hn : neg l = true) (h0 : n ≠ 0) (hb : ¬ 9007199254740992 < n) : numV l = -n ∧ numE l = 0 := by
  unfold numV numE; rw [h]; simp only; rw [hn]; simp [hb, h0]
def nuV (l : List UInt8) : Value := .tuple #[.int .i64 (numV l), .int .i64 (numE l : Nat)]
theorem nuV_of {l : List UInt8} {v : Int} {e : Nat} (h : numV l = v ∧ numE l = e) : nuV l = .tuple #[.int .i64 v, .int .i64 (e : Nat)] := by unfold nuV; rw [h.1, h.2]

set_option maxHeartbeats 1000000 in
theorem number_any (s : ByteArray) (w : World) (hs : s.size ≤ 140737488351232) :
    Calls Tryd.prog 74 #[.string s] w fun e w' => e = .returned (nuV s.data.toList) ∧ Below w.heap.size w w' := by
  have C1 := fun w => cut1 s w
  have C2 := fun w => cut2 s.data.toList w
  have hl := digs_len s.data.toList
  rw [← size_len] at hl
  have C3 := fun w => magnitude_any ⟨(digs s.data.toList).toArray⟩ (if hex s.data.toList = true then 16 else 10) w (by rw [size_mk]; omega) (by split <;> simp)
  rw [toList_mk] at C3
  have A1 := Lib.hid (@num_none s.data.toList); have A2 := Lib.hid (fun n => @num_zero s.data.toList n); have A3 := Lib.hid (fun n => @num_big s.data.toList n); have A4 := Lib.hid (fun n => @num_pos s.data.toList n); have A5 := Lib.hid (fun n => @num_neg s.data.toList n)
  have AV := Lib.hid (fun v e => @nuV_of s.data.toList v e)
  have hd := @digs_body s.data.toList
  have hr : ∀ n, numO s.data.toList = some n → 0 ≤ n ∧ n ≤ 9007199254740993 := fun n h => mg_range (by split <;> omega) h
  have hm : mgV (digs s.data.toList) (if hex s.data.toList = true then 16 else 10) = match numO s.data.toList with | some n => .tuple #[.int .i64 n, .bool true] | none => .tuple #[.int .i64 0, .bool false] := rfl
  rw [hm] at C3
  clear hm
  generalize numO s.data.toList = O at *
  generalize nuV s.data.toList = V at *
  generalize numV s.data.toList = Vn at *
  generalize numE s.data.toList = Ve at *
  generalize hex s.data.toList = bh at *
  generalize neg s.data.toList = bn at *
  generalize digs s.data.toList = D at *
  generalize body s.data.toList = B at *
  have H1 := Lib.hid C1; have H2 := Lib.hid C2
  clear C1 C2
  have hbn : bn = false ∨ bn = true := by cases bn <;> simp
  cases bh
  all_goals
    first
    | (obtain rfl := hd rfl; rw [if_neg (by simp)] at C3)
    | (rw [if_pos rfl] at C3)
    have H3 := Lib.hid C3
    clear C3 hd hl
    cases O with
    | none =>
      have HV := Lib.hid (AV.out _ _ (A1.out rfl))
      clear hr
      go_enter Tryd.func74, Tryd.ntmps74
      go_wp2_with (first
        | (go_at_call 97; go_must (first | (with_reducible refine (H1.out _).mono ?_; rintro e w1 ⟨rfl, rfl⟩) | (with_reducible refine (H2.out _).mono ?_; rintro e w2 ⟨rfl, rfl⟩)))
        | (go_at_call 98; go_must (refine (H3.out _).mono ?_; rintro e w3 ⟨rfl, b3⟩)))
      go_returns
      exact ⟨ret_of HV.out.symm, b3⟩
    | some n =>
      obtain ⟨n0, n1⟩ := hr n rfl
      clear hr
      by_cases hb : 9007199254740992 < n
      · have HV := Lib.hid (AV.out _ _ (A3.out n rfl hb))
        have hn0 : n ≠ 0 := by omega
        rcases hbn with rfl | rfl
        all_goals
          go_enter Tryd.func74, Tryd.ntmps74
          go_wp2_with (first
            | (go_at_call 97; go_must (first | (with_reducible refine (H1.out _).mono ?_; rintro e w1 ⟨rfl, rfl⟩) | (with_reducible refine (H2.out _).mono ?_; rintro e w2 ⟨rfl, rfl⟩)))
            | (go_at_call 98; go_must (refine (H3.out _).mono ?_; rintro e w3 ⟨rfl, b3⟩)))
          go_returns
          exact ⟨ret_of HV.out.symm, b3⟩
      have hb' : n ≤ 9007199254740992 := by omega
      rcases hbn with rfl | rfl
      · have HV := Lib.hid (AV.out _ _ (A4.out n rfl rfl hb))
        clear hb
        go_enter Tryd.func74, Tryd.ntmps74
        go_wp2_with (first
          | (go_at_call 97; go_must (first | (with_reducible refine (H1.out _).mono ?_; rintro e w1 ⟨rfl, rfl⟩) | (with_reducible refine (H2.out _).mono ?_; rintro e w2 ⟨rfl, rfl⟩)))
          | (go_at_call 98; go_must (refine (H3.out _).mono ?_; rintro e w3 ⟨rfl, b3⟩)))
        go_returns
        exact ⟨ret_of HV.out.symm, b3⟩
      · by_cases h0 : n = 0
        · have HV := Lib.hid (AV.out _ _ (A2.out n rfl rfl h0))
          clear hb
          subst h0
          go_enter Tryd.func74, Tryd.ntmps74
          go_wp2_with (first
            | (go_at_call 97; go_must (first | (with_reducible refine (H1.out _).mono ?_; rintro e w1 ⟨rfl, rfl⟩) | (with_reducible refine (H2.out _).mono ?_; rintro e w2 ⟨rfl, rfl⟩)))
            | (go_at_call 98; go_must (refine (H3.out _).mono ?_; rintro e w3 ⟨rfl, b3⟩)))
          go_returns
          exact ⟨ret_of HV.out.symm, b3⟩
        · have HV := Lib.hid (AV.out _ _ (A5.out n rfl rfl h0 hb))
          clear hb
          go_enter Tryd.func74, Tryd.ntmps74
          go_wp2_with (first
            | (go_at_call 97; go_must (first | (with_reducible refine (H1.out _).mono ?_; rintro e w1 ⟨rfl, rfl⟩) | (with_reducible refine (H2.out _).mono ?_; rintro e w2 ⟨rfl, rfl⟩)))
            | (go_at_call 98; go_must (refine (H3.out _).mono ?_; rintro e w3 ⟨rfl, b3⟩)))
          go_returns
          exact ⟨ret_of HV.out.symm, b3⟩

end Go.Proofs.YtiimdkamgehioaaDoor
