/-
  The specification's word and kind.
  The specification's number.
  The walk of the specification's Parse.
  The walk of the specification's Parse: the calls, the loop, the ends.
  EventParses: the event of any string, or the error, is that of the specification.
-/
import Derived.Test.YtiimdkamgehioaaDoorA18
import Derived.Test.YtiimdkamgehioaaDoorA10
import Derived.Test.YtiimdkamgehioaaDoorA15
import Derived.Test.YtiimdkamgehioaaDoorW19
import Derived.Test.YtiimdkamgehioaaDoorW15
import Derived.Deep.RegionHeld3
import Derived.Test.YtiimdkamgehioaaDoorL6
namespace Go.Proofs.YtiimdkamgehioaaDoor
open Go Go.RowKit Go.Joins
set_option linter.unusedVariables false
set_option linter.unusedSimpArgs false

/-- A line's first word and what follows its blank. -/
def wdV (l : List UInt8) : Value := match wd l with
  | none => .tuple #[.string ⟨#[]⟩, .string ⟨#[]⟩, .bool false]
  | some p => .tuple #[.string ⟨p.1.toArray⟩, .string ⟨p.2.toArray⟩, .bool true]
theorem wd_no {l : List UInt8} (h : ∀ j (hj : j < l.length), l[j] ≠ 32) : wd l = none := by
  induction l with
  | nil => rfl
  | cons c r ih =>
    have h0 : c ≠ 32 := h 0 (by simp)
    rw [wd, if_neg h0, ih (fun j hj => h (j + 1) (by simpa using hj))]
    rfl
theorem wd_yes {l : List UInt8} {k : Nat} (hk : k < l.length) (h : ∀ j (hj : j < l.length), j < k → l[j] ≠ 32) (he : l[k] = 32) : wd l = some (l.take k, l.drop (k + 1)) := by
  induction l generalizing k with
  | nil => cases hk
  | cons c r ih =>
    cases k with
    | zero =>
      rw [wd, if_pos (by simpa using he)]
      rfl
    | succ k =>
      have h0 : c ≠ 32 := h 0 (by simp) (by omega)
      rw [wd, if_neg h0, ih (k := k) (by simpa using hk) (fun j hj hjk => h (j + 1) (by simpa using hj) (by omega)) (by simpa using he)]
      rfl
theorem take_size (s : ByteArray) (k : Nat) : s.extract 0 k = ⟨(s.data.toList.take k).toArray⟩ := by
  apply ByteArray.ext
  rw [ByteArray.data_extract]
  apply Array.toList_inj.1
  simp
theorem drop_size (s : ByteArray) (k : Nat) : s.extract k s.size = ⟨(s.data.toList.drop k).toArray⟩ := by
  apply ByteArray.ext
  rw [ByteArray.data_extract]
  apply Array.toList_inj.1
  rw [Array.toList_extract, List.extract_eq_take_drop, List.take_of_length_le]
  rw [List.length_drop, Array.length_toList]
  exact Nat.le_refl _
  
set_option maxRecDepth 20000 in
set_option maxHeartbeats 2000000 in
theorem word_any (s : ByteArray) (w : World) (hs : s.size ≤ 1000000) :
    Calls Tryd.prog 42 #[.string s] w fun e w' => e = .returned (wdV s.data.toList) ∧ Below w.heap.size w w' := by
  have hs' : (s.size : Int) ≤ 1000000 := by omega
  go_enter Tryd.func42, Tryd.ntmps42
  go_wp2
  go_loopw [5] (fun x wr => ∃ k : Nat, k ≤ s.size ∧ x = .int .i64 k ∧ Hid (Below w.heap.size w wr) ∧ Hid (∀ j (hj : j < s.data.toList.length), j < k → s.data.toList[j] ≠ 32)) (fun x _ => s.size - (intOf x).toNat)
  case atStart => exact ⟨0, by omega, rfl, Lib.hid (Below.refl _ _), Lib.hid (fun j hj h => by omega)⟩
  case round =>
    obtain ⟨k, hk, rfl, HB, HN⟩ := hrel
    by_cases hlt : k < s.size
    · have hk' : (k : Int) < s.size := by omega
      by_cases q : s[k].toNat = 32
      · have f1 : ((s[k].toNat : Int) == 32) = true := by rw [q]; rfl
        have hl : k < s.data.toList.length := by rw [← size_len]; exact hlt
        have he : s.data.toList[k] = 32 := by
          have h : s.data.toList[k] = s[k] := rfl
          rw [h]; exact UInt8.toNat_inj.1 q
        have HV : Hid (wdV s.data.toList = .tuple #[.string (s.extract 0 k), .string (s.extract (k + 1) s.size), .bool true]) := Lib.hid (by
          unfold wdV; rw [wd_yes hl HN.out he, take_size, drop_size])
        have w1 : IntKind.i64.wrap ((k : Int) + 1) = ((k + 1 : Nat) : Int) := by rw [IntWalk.i64_in _ (by omega)]; omega
        have k1 : ((k + 1 : Nat) : Int) ≤ s.size := by omega
        have k0 : (0 : Int) ≤ k := by omega
        clear q hl he
        go_wp2
        go_region_with fail
        all_goals
          go_wp2
          go_returns
          exact ⟨HV.out.symm ▸ rfl, HB.out.drew⟩
      · have f1 : ((s[k].toNat : Int) == 32) = false := by rw [Bool.eq_false_iff]; simp; omega
        have HQ := Lib.hid q
        clear q
        go_wp2
        go_roundw
        case rel => exact ⟨k + 1, by omega, by go_num, HB, Lib.hid (fun j hj h => by
          by_cases e : j = k
          · subst e
            intro he
            exact HQ.out (by
              have h : s.data.toList[j] = s[j] := rfl
              rw [← h, he]; rfl)
          · exact HN.out j hj (by omega))⟩
        case measure => simp [intOf]; omega
    · have HV : Hid (wdV s.data.toList = .tuple #[.string ⟨#[]⟩, .string ⟨#[]⟩, .bool false]) := Lib.hid (by
        unfold wdV; rw [wd_no (fun j hj => HN.out j hj (by rw [← size_len] at hj; omega))])
      have hk' : ¬ (k : Int) < s.size := by omega
      go_wp2
      go_returns
      exact ⟨HV.out.symm ▸ rfl, HB.out⟩

def kdN (l : List UInt8) : Int := match kd l with | none => 0 | some k => k
set_option maxRecDepth 20000 in
set_option maxHeartbeats 2000000 in
theorem kind_any (s : ByteArray) (w : World) :
    Calls Tryd.prog 43 #[.string s] w fun e w' => e = .returned (.int .i64 (kdN s.data.toList)) ∧ Below w.heap.size w w' := by
  have HN := Lib.hid (fun W => names_any W)
  go_enter Tryd.func43, Tryd.ntmps43
  go_wp2_with (go_at_call 35; go_must (refine (HN.out _).mono ?_; rintro e1 w1 ⟨rfl, e1⟩; have c1 := Lib.hid (fun n (h : n < 8) => e1 ▸ names_at w n h); have b1 : Hid (Below w.heap.size w w1) := Lib.hid (by rw [e1]; exact ba _ _); clear e1))
  go_loopw [4] (fun x wr => ∃ k : Nat, k ≤ 8 ∧ x = .int .i64 k ∧ wr = w1 ∧ Hid (∀ j : Nat, j < k → s.data.toList ≠ nm7 ((j : Int) + 1))) (fun x _ => 8 - (intOf x).toNat)
  case atStart => exact ⟨0, by omega, rfl, rfl, Lib.hid (fun j h => by omega)⟩
  case round =>
    obtain ⟨k, hk, rfl, rfl, HX⟩ := hrel
    by_cases hlt : k < 8
    · have c := c1.out k hlt
      have hk0 : (0 : Int) ≤ k := by omega
      have hk8 : (k : Int) < 8 := by omega
      by_cases hq : s.data.toList = nm7 ((k : Int) + 1)
      · have HV : Hid (kdN s.data.toList = (k : Int) + 1) := Lib.hid (by unfold kdN; rw [kd_yes hlt hq])
        have he : ((⟨(nm7 ((k : Int) + 1)).toArray⟩ : ByteArray).toList == s.toList) = true := by rw [ByteArray.toList_eq, ByteArray.toList_eq, hq]; simp
        have w1 : IntKind.i64.wrap ((k : Int) + 1) = (k : Int) + 1 := IntWalk.i64_in _ (by omega)
        clear hq
        generalize (⟨(nm7 ((k : Int) + 1)).toArray⟩ : ByteArray) = nb at *
        go_wp2
        go_returns
        exact ⟨by rw [HV.out]; rfl, b1.out⟩
      · have he : ((⟨(nm7 ((k : Int) + 1)).toArray⟩ : ByteArray).toList == s.toList) = false := by
          rw [ByteArray.toList_eq, ByteArray.toList_eq, beq_eq_false_iff_ne]
          exact fun h => hq h.symm
        have HQ := Lib.hid hq
        clear hq
        generalize (⟨(nm7 ((k : Int) + 1)).toArray⟩ : ByteArray) = nb at *
        go_wp2
        go_roundw
        case rel => exact ⟨k + 1, by omega, by go_num, by trivial, Lib.hid (fun j hj => by
          by_cases e : j = k
          · subst e; exact HQ.out
          · exact HX.out j (by omega))⟩
        case measure => simp [intOf]; omega
    · have e8 : k = 8 := by omega
      subst e8
      have HV : Hid (kdN s.data.toList = 0) := Lib.hid (by unfold kdN; rw [kd_no HX.out])
      go_wp2
      go_returns
      exact ⟨by rw [HV.out]; rfl, b1.out⟩

end Go.Proofs.YtiimdkamgehioaaDoor

namespace Go.Proofs.YtiimdkamgehioaaDoor
open Go Go.RowKit Go.Joins
set_option linter.unusedVariables false
set_option linter.unusedSimpArgs false

/-- A word as a number, or (0, false). -/
def nrV (l : List UInt8) : Value := match n7 l with
  | none => .tuple #[.int .i64 0, .bool false]
  | some v => .tuple #[.int .i64 v, .bool true]
def nrW (m : Bool) (l : List UInt8) : Value :=
  if dc7 l = true ∧ ¬ (m = true ∧ l = [48]) then .tuple #[.int .i64 (if m = true then -(nv7 l : Int) else (nv7 l : Int)), .bool true] else .tuple #[.int .i64 0, .bool false]
theorem nrV_neg {l : List UInt8} (h : l.head? = some 45) : nrV l = nrW true (l.drop 1) := by
  unfold nrV nrW n7
  rw [if_pos h]
  by_cases hd : dc7 (l.drop 1) = true ∧ l.drop 1 ≠ [48]
  · rw [if_pos hd, if_pos ⟨hd.1, fun x => hd.2 x.2⟩]; rfl
  · rw [if_neg hd, if_neg (fun x => hd ⟨x.1, fun e => x.2 ⟨rfl, e⟩⟩)]
theorem nrV_pos {l : List UInt8} (h : l.head? ≠ some 45) : nrV l = nrW false l := by
  unfold nrV nrW n7
  rw [if_neg h]
  by_cases hd : dc7 l = true
  · rw [if_pos hd, if_pos ⟨hd, fun x => by cases x.1⟩]; rfl
  · rw [if_neg hd, if_neg (fun x => hd x.1)]
theorem nrW_nil (m : Bool) : nrW m [] = .tuple #[.int .i64 0, .bool false] := by
  unfold nrW; rw [if_neg (fun x => by cases x.1)]
theorem nrW_lead {m : Bool} {l : List UInt8} (h : l.head? = some 48) (h1 : 1 < l.length) : nrW m l = .tuple #[.int .i64 0, .bool false] := by
  unfold nrW; rw [if_neg]
  intro x
  have hd := x.1
  unfold dc7 at hd
  rw [decide_eq_true h1, h] at hd
  simp at hd
theorem nrW_zero {l : List UInt8} (h : l.head? = some 48) (h1 : ¬ 1 < l.length) : nrW true l = .tuple #[.int .i64 0, .bool false] := by
  unfold nrW; rw [if_neg]
  intro x
  refine x.2 ⟨rfl, ?_⟩
  match l, h, h1 with
  | [c], h, _ => simpa using h
  | _ :: _ :: _, _, h1 => exact absurd (by simp) h1
theorem nrW_bad {m : Bool} {l : List UInt8} {j : Nat} (hj : j < l.length) (h : i7 l[j] = false) : nrW m l = .tuple #[.int .i64 0, .bool false] := by
  unfold nrW; rw [if_neg]
  intro x
  have := List.all_eq_true.1 (dc7_digs x.1) _ (List.getElem_mem hj)
  rw [h] at this; cases this
theorem nrW_good {m : Bool} {l : List UInt8} (h0 : 0 < l.length) (h1 : ¬ (l.head? = some 48 ∧ (1 < l.length ∨ m = true))) (h2 : ∀ j (hj : j < l.length), i7 l[j] = true) :
    nrW m l = .tuple #[.int .i64 (if m = true then -(nv7 l : Int) else (nv7 l : Int)), .bool true] := by
  unfold nrW; rw [if_pos]
  refine ⟨?_, fun x => h1 ⟨by rw [x.2]; rfl, .inr x.1⟩⟩
  unfold dc7
  have a1 : l.isEmpty = false := by rw [List.isEmpty_eq_false_iff]; rintro rfl; simp at h0
  have a2 : l.all i7 = true := List.all_eq_true.2 fun x hx => by
    obtain ⟨j, hj, rfl⟩ := List.getElem_of_mem hx
    exact h2 j hj
  have a3 : (decide (1 < l.length) && l.head? == some 48) = false := by
    rw [Bool.and_eq_false_iff]
    by_cases h : 1 < l.length
    · right; rw [beq_eq_false_iff_ne]; exact fun e => h1 ⟨e, .inl h⟩
    · left; exact decide_eq_false h
  rw [a1, a2, a3]; rfl
theorem nv7_take (s : ByteArray) (k : Nat) (h : k < s.size) : nv7 (s.data.toList.take (k + 1)) = min (10 * nv7 (s.data.toList.take k) + (s[k].toNat - 48)) 9007199254740993 := by
  rw [take_snoc s k h, nv7_snoc]

set_option maxRecDepth 20000 in
set_option maxHeartbeats 4000000 in
theorem rn_pos (s : ByteArray) (w : World) (hs : s.size ≤ 1000000) (h0 : 0 < s.size) (q : s[0].toNat ≠ 45) (hz : s[0].toNat = 48 → ¬ 1 < s.size) :
    Calls Tryd.prog 44 #[.string s] w fun e w' => e = .returned (nrV s.data.toList) ∧ Below w.heap.size w w' := by
  have hh : s.data.toList.head? = some s[0] := by
    rw [List.head?_eq_getElem?, List.getElem?_eq_getElem (by rw [← size_len]; exact h0)]; rfl
  have HW := Lib.hid (fun (V : Value) (h : nrW false s.data.toList = V) => (nrV_pos (by rw [hh]; intro e; injection e with e; rw [e] at q; exact q rfl)).trans h)
  have HZ : Hid (¬ (s.data.toList.head? = some 48 ∧ (1 < s.data.toList.length ∨ false = true))) := Lib.hid (by
    rintro ⟨e, h⟩
    rw [hh] at e; injection e with e
    rcases h with h | h
    · exact hz (by rw [e]; rfl) (by rw [size_len]; exact h)
    · cases h)
  have g1 : ((s[0].toNat : Int) == 45) = false := by rw [Bool.eq_false_iff]; simp; omega
  have g0 : s.toList.isEmpty = false := by rw [ByteArray.toList_eq, List.isEmpty_eq_false_iff]; intro e; rw [e] at hh; cases hh
  have hs' : (s.size : Int) ≤ 1000000 := by omega
  have h0' : (0 : Int) < s.size := by omega
  have g3 : ((s[0].toNat : Int) == 48) = false ∨ (((s[0].toNat : Int) == 48) = true ∧ decide ((1 : Int) < s.size) = false) := by
    by_cases e : s[0].toNat = 48
    · exact .inr ⟨by rw [e]; rfl, decide_eq_false (by have := hz e; omega)⟩
    · exact .inl (by rw [Bool.eq_false_iff]; simp; omega)
  clear hh hz q
  rcases g3 with g3 | ⟨g3, g4⟩
  all_goals
    go_enter Tryd.func44, Tryd.ntmps44
    go_wp2
    clear g1 g0 g3
    go_loopw [5, 6] (fun x y wr => ∃ (i n : Nat), i ≤ s.size ∧ y = .int .i64 i ∧ x = .int .i64 n ∧ n ≤ 90071992547409939 ∧ Hid (Below w.heap.size w wr) ∧ Hid (nv7 (s.data.toList.take i) = min n 9007199254740993) ∧ Hid (∀ j (hj : j < s.data.toList.length), j < i → i7 s.data.toList[j] = true)) (fun _ y _ => s.size - (intOf y).toNat)
    case atStart => exact ⟨0, 0, by omega, rfl, rfl, by omega, Lib.hid (Below.refl _ _), Lib.hid rfl, Lib.hid (fun j hj h => by omega)⟩
    case round =>
      obtain ⟨i, n, hi, rfl, rfl, hn, HB, HV, HD⟩ := hrel
      by_cases hlt : i < s.size
      · have hk' : (i : Int) < s.size := by omega
        by_cases c1 : s[i].toNat < 48
        · have f1 : decide ((s[i].toNat : Int) < 48) = true := decide_eq_true (by omega)
          have HR := Lib.hid (HW.out _ (nrW_bad (m := false) (l := s.data.toList) (j := i) (by rw [← size_len]; exact hlt) (by
            have h : s.data.toList[i]'(by rw [← size_len]; exact hlt) = s[i] := rfl
            rw [h]; exact decide_eq_false (by omega))))
          clear c1
          go_wp2
          go_returns
          exact ⟨by rw [HR.out]; rfl, HB.out⟩
        have f1 : decide ((s[i].toNat : Int) < 48) = false := decide_eq_false (by omega)
        by_cases c2 : 57 < s[i].toNat
        · have f2 : decide ((57 : Int) < s[i].toNat) = true := decide_eq_true (by omega)
          have HR := Lib.hid (HW.out _ (nrW_bad (m := false) (l := s.data.toList) (j := i) (by rw [← size_len]; exact hlt) (by
            have h : s.data.toList[i]'(by rw [← size_len]; exact hlt) = s[i] := rfl
            rw [h]; exact decide_eq_false (by omega))))
          clear c1 c2
          go_wp2
          go_returns
          exact ⟨by rw [HR.out]; rfl, HB.out⟩
        have f2 : decide ((57 : Int) < s[i].toNat) = false := decide_eq_false (by omega)
        have hD : Hid (∀ j (hj : j < s.data.toList.length), j < i + 1 → i7 s.data.toList[j] = true) := Lib.hid (fun j hj h => by
          by_cases e : j = i
          · subst e
            have h : s.data.toList[j] = s[j] := rfl
            rw [h]; exact decide_eq_true (by omega)
          · exact HD.out j hj (by omega))
        have hT := Lib.hid (nv7_take s i hlt)
        obtain ⟨d, hd⟩ : ∃ d : Nat, s[i].toNat = 48 + d := ⟨s[i].toNat - 48, by omega⟩
        have hd9 : d ≤ 9 := by omega
        by_cases c3 : n ≤ 9007199254740992
        · have f3 : decide ((n : Int) ≤ 9007199254740992) = true := decide_eq_true (by omega)
          have v1 : IntKind.u8.wrap ((s[i].toNat : Int) - 48) = d := by rw [hd, IntWalk.u8_in _ (by omega)]; omega
          have v2 : IntKind.i64.wrap (10 * (n : Int)) = 10 * n := IntWalk.i64_in _ (by omega)
          have v3 : IntKind.i64.wrap (d : Int) = d := IntWalk.i64_in _ (by omega)
          have v4 : IntKind.i64.wrap (10 * (n : Int) + d) = ((10 * n + d : Nat) : Int) := by rw [IntWalk.i64_in _ (by omega)]; omega
          have HE := Lib.hid (show nv7 (s.data.toList.take (i + 1)) = min (10 * n + d) 9007199254740993 by rw [hT.out, HV.out, hd]; omega)
          have HN2 := Lib.hid (show 10 * n + d ≤ 90071992547409939 by omega)
          clear c1 c2 c3 hd
          go_wp2
          go_roundw
          case rel => exact ⟨i + 1, 10 * n + d, by omega, by go_num, by first | rfl | go_num, HN2.out, HB, HE, hD⟩
          case measure => simp [intOf]; omega
        · have f3 : decide ((n : Int) ≤ 9007199254740992) = false := decide_eq_false (by omega)
          have HE := Lib.hid (show nv7 (s.data.toList.take (i + 1)) = min n 9007199254740993 by rw [hT.out, HV.out, hd]; omega)
          clear c1 c2 c3 hd
          go_wp2
          go_roundw
          case rel => exact ⟨i + 1, n, by omega, by go_num, rfl, by omega, HB, HE, hD⟩
          case measure => simp [intOf]; omega
      · have hk' : ¬ (i : Int) < s.size := by omega
        have HF : Hid (nv7 s.data.toList = min n 9007199254740993) := Lib.hid (by
          have h := HV.out
          rw [List.take_of_length_le (by rw [← size_len]; omega)] at h
          exact h)
        have HR := Lib.hid (HW.out _ (nrW_good (m := false) (l := s.data.toList) (by rw [← size_len]; omega) HZ.out (fun j hj => HD.out j hj (by rw [← size_len] at hj; omega))))
        rw [HF.out] at HR
        by_cases c3 : 9007199254740992 < n
        · have f3 : decide ((9007199254740992 : Int) < n) = true := decide_eq_true (by omega)
          rw [Nat.min_eq_right (by omega)] at HR
          go_wp2
          go_returns
          exact ⟨by rw [HR.out]; rfl, HB.out⟩
        · have f3 : decide ((9007199254740992 : Int) < n) = false := decide_eq_false (by omega)
          rw [Nat.min_eq_left (by omega)] at HR
          have v5 : IntKind.i64.wrap (-(n : Int)) = -(n : Int) := IntWalk.i64_in _ (by omega)
          go_wp2
          go_returns
          exact ⟨by rw [HR.out]; rfl, HB.out⟩

set_option maxRecDepth 20000 in
set_option maxHeartbeats 4000000 in
theorem rn_neg (s : ByteArray) (w : World) (hs : s.size ≤ 1000000) (h0 : 0 < s.size) (q : s[0].toNat = 45) (h1 : 1 < s.size) (hz : s[1].toNat ≠ 48) :
    Calls Tryd.prog 44 #[.string s] w fun e w' => e = .returned (nrV s.data.toList) ∧ Below w.heap.size w w' := by
  have hh : s.data.toList.head? = some s[0] := by
    rw [List.head?_eq_getElem?, List.getElem?_eq_getElem (by rw [← size_len]; exact h0)]; rfl
  have g0 : s.toList.isEmpty = false := by rw [ByteArray.toList_eq, List.isEmpty_eq_false_iff]; intro e; rw [e] at hh; cases hh
  have hs' : (s.size : Int) ≤ 1000000 := by omega
  have h0' : (0 : Int) < s.size := by omega
  have g1 : ((s[0].toNat : Int) == 45) = true := by rw [q]; rfl
  have hBs : (s.extract 1 s.size).size = s.size - 1 := by rw [ByteArray.size_extract]; omega
  have hBl : (s.extract 1 s.size).data.toList = s.data.toList.drop 1 := by rw [drop_size s 1]
  have HW := Lib.hid (fun (V : Value) (h : nrW true (s.extract 1 s.size).data.toList = V) => (nrV_neg (l := s.data.toList) (by rw [hh]; exact congrArg some (UInt8.toNat_inj.1 q))).trans ((congrArg (nrW true) hBl).symm.trans h))
  have hB0 : 0 < (s.extract 1 s.size).size := by omega
  have hx : (s.extract 1 s.size)[0]'hB0 = s[1] := by rw [ByteArray.getElem_extract]
  have h1' : (1 : Int) < s.size := by omega
  have eE : (s.extract 1 s.size).toList.isEmpty = false := by rw [ByteArray.toList_eq, List.isEmpty_eq_false_iff, hBl]; intro e; have := congrArg List.length e; rw [List.length_drop, ← size_len] at this; simp at this; omega
  have HZ : Hid (¬ ((s.extract 1 s.size).data.toList.head? = some 48 ∧ (1 < (s.extract 1 s.size).data.toList.length ∨ true = true))) := Lib.hid (by
    rintro ⟨e, _⟩
    rw [List.head?_eq_getElem?, List.getElem?_eq_getElem (by rw [← size_len]; exact hB0)] at e
    injection e with e
    have e2 : (s.extract 1 s.size)[0]'hB0 = 48 := e
    rw [hx] at e2
    exact hz (by rw [e2]; rfl))
  have g3a : (((s.extract 1 s.size)[0]'hB0).toNat : Int) == 48 ↔ False := by rw [hx]; simp; omega
  have g3 : ((((s.extract 1 s.size)[0]'hB0).toNat : Int) == 48) = false := by rw [Bool.eq_false_iff]; exact fun h => g3a.1 h
  have g5 : ((s[1].toNat : Int) == 48) = false := by rw [Bool.eq_false_iff]; simp; omega
  have HBS := Lib.hid hBs; have HB0 := Lib.hid hB0
  clear hh hz q hBl hBs g3a g3
  go_enter Tryd.func44, Tryd.ntmps44
  go_wp2
  clear g1 g0 g5 hx hB0
  go_loopw [5, 6] (fun x y wr => ∃ (i n : Nat), i ≤ (s.extract 1 s.size).size ∧ y = .int .i64 i ∧ x = .int .i64 n ∧ n ≤ 90071992547409939 ∧ Hid (Below w.heap.size w wr) ∧ Hid (nv7 ((s.extract 1 s.size).data.toList.take i) = min n 9007199254740993) ∧ Hid (∀ j (hj : j < (s.extract 1 s.size).data.toList.length), j < i → i7 (s.extract 1 s.size).data.toList[j] = true)) (fun _ y _ => (s.extract 1 s.size).size - (intOf y).toNat)
  case atStart => exact ⟨0, 0, by omega, rfl, rfl, by omega, Lib.hid (Below.refl _ _), Lib.hid rfl, Lib.hid (fun j hj h => by omega)⟩
  case round =>
    obtain ⟨i, n, hi, rfl, rfl, hn, HB, HV, HD⟩ := hrel
    clear eE
    generalize s.extract 1 s.size = B at *
    have hBi : (B.size : Int) ≤ 1000000 := by have := HBS.out; omega
    by_cases hlt : i < B.size
    · have hk' : (i : Int) < B.size := by omega
      by_cases c1 : B[i].toNat < 48
      · have f1 : decide ((B[i].toNat : Int) < 48) = true := decide_eq_true (by omega)
        have HR := Lib.hid (HW.out _ (nrW_bad (m := true) (l := B.data.toList) (j := i) (by rw [← size_len]; exact hlt) (by
          have h : B.data.toList[i]'(by rw [← size_len]; exact hlt) = B[i] := rfl
          rw [h]; exact decide_eq_false (by omega))))
        clear c1
        go_wp2
        go_returns
        exact ⟨by rw [HR.out]; rfl, HB.out⟩
      have f1 : decide ((B[i].toNat : Int) < 48) = false := decide_eq_false (by omega)
      by_cases c2 : 57 < B[i].toNat
      · have f2 : decide ((57 : Int) < B[i].toNat) = true := decide_eq_true (by omega)
        have HR := Lib.hid (HW.out _ (nrW_bad (m := true) (l := B.data.toList) (j := i) (by rw [← size_len]; exact hlt) (by
          have h : B.data.toList[i]'(by rw [← size_len]; exact hlt) = B[i] := rfl
          rw [h]; exact decide_eq_false (by omega))))
        clear c1 c2
        go_wp2
        go_returns
        exact ⟨by rw [HR.out]; rfl, HB.out⟩
      have f2 : decide ((57 : Int) < B[i].toNat) = false := decide_eq_false (by omega)
      have hD : Hid (∀ j (hj : j < B.data.toList.length), j < i + 1 → i7 B.data.toList[j] = true) := Lib.hid (fun j hj h => by
        by_cases e : j = i
        · subst e
          have h : B.data.toList[j] = B[j] := rfl
          rw [h]; exact decide_eq_true (by omega)
        · exact HD.out j hj (by omega))
      have hT := Lib.hid (nv7_take B i hlt)
      obtain ⟨d, hd⟩ : ∃ d : Nat, B[i].toNat = 48 + d := ⟨B[i].toNat - 48, by omega⟩
      have hd9 : d ≤ 9 := by omega
      by_cases c3 : n ≤ 9007199254740992
      · have f3 : decide ((n : Int) ≤ 9007199254740992) = true := decide_eq_true (by omega)
        have v1 : IntKind.u8.wrap ((B[i].toNat : Int) - 48) = d := by rw [hd, IntWalk.u8_in _ (by omega)]; omega
        have v2 : IntKind.i64.wrap (10 * (n : Int)) = 10 * n := IntWalk.i64_in _ (by omega)
        have v3 : IntKind.i64.wrap (d : Int) = d := IntWalk.i64_in _ (by omega)
        have v4 : IntKind.i64.wrap (10 * (n : Int) + d) = ((10 * n + d : Nat) : Int) := by rw [IntWalk.i64_in _ (by omega)]; omega
        have HE := Lib.hid (show nv7 (B.data.toList.take (i + 1)) = min (10 * n + d) 9007199254740993 by rw [hT.out, HV.out, hd]; omega)
        have HN2 := Lib.hid (show 10 * n + d ≤ 90071992547409939 by omega)
        clear c1 c2 c3 hd
        go_wp2
        go_roundw
        case rel => have hBS := HBS.out; exact ⟨i + 1, 10 * n + d, by omega, by go_num, by first | rfl | go_num, HN2.out, HB, HE, hD⟩
        case measure => have hBS := HBS.out; simp [intOf]; omega
      · have f3 : decide ((n : Int) ≤ 9007199254740992) = false := decide_eq_false (by omega)
        have HE := Lib.hid (show nv7 (B.data.toList.take (i + 1)) = min n 9007199254740993 by rw [hT.out, HV.out, hd]; omega)
        clear c1 c2 c3 hd
        go_wp2
        go_roundw
        case rel => have hBS := HBS.out; exact ⟨i + 1, n, by omega, by go_num, rfl, by omega, HB, HE, hD⟩
        case measure => have hBS := HBS.out; simp [intOf]; omega
    · have hk' : ¬ (i : Int) < B.size := by omega
      have HF : Hid (nv7 B.data.toList = min n 9007199254740993) := Lib.hid (by
        have h := HV.out
        rw [List.take_of_length_le (by rw [← size_len]; omega)] at h
        exact h)
      have HR := Lib.hid (HW.out _ (nrW_good (m := true) (l := B.data.toList) (by have := HB0.out; rw [← size_len]; omega) (fun x => HZ.out ⟨x.1, x.2.imp id (fun _ => trivial)⟩) (fun j hj => HD.out j hj (by rw [← size_len] at hj; omega))))
      rw [HF.out] at HR
      by_cases c3 : 9007199254740992 < n
      · have f3 : decide ((9007199254740992 : Int) < n) = true := decide_eq_true (by omega)
        rw [Nat.min_eq_right (by omega)] at HR
        go_wp2
        go_returns
        exact ⟨by rw [HR.out]; rfl, HB.out⟩
      · have f3 : decide ((9007199254740992 : Int) < n) = false := decide_eq_false (by omega)
        rw [Nat.min_eq_left (by omega)] at HR
        have v5 : IntKind.i64.wrap (-(n : Int)) = -(n : Int) := IntWalk.i64_in _ (by omega)
        go_wp2
        go_returns
        exact ⟨by rw [HR.out]; rfl, HB.out⟩

set_option maxRecDepth 20000 in
set_option maxHeartbeats 4000000 in
theorem rn_negzero (s : ByteArray) (w : World) (hs : s.size ≤ 1000000) (h0 : 0 < s.size) (q : s[0].toNat = 45) (h1 : 1 < s.size) (hz : s[1].toNat = 48) :
    Calls Tryd.prog 44 #[.string s] w fun e w' => e = .returned (nrV s.data.toList) ∧ Below w.heap.size w w' := by
  have hh : s.data.toList.head? = some s[0] := by
    rw [List.head?_eq_getElem?, List.getElem?_eq_getElem (by rw [← size_len]; exact h0)]; rfl
  have g0 : s.toList.isEmpty = false := by rw [ByteArray.toList_eq, List.isEmpty_eq_false_iff]; intro e; rw [e] at hh; cases hh
  have hs' : (s.size : Int) ≤ 1000000 := by omega
  have h0' : (0 : Int) < s.size := by omega
  have g1 : ((s[0].toNat : Int) == 45) = true := by rw [q]; rfl
  have hBs : (s.extract 1 s.size).size = s.size - 1 := by rw [ByteArray.size_extract]; omega
  have hBl : (s.extract 1 s.size).data.toList = s.data.toList.drop 1 := by rw [drop_size s 1]
  have HW := Lib.hid (fun (V : Value) (h : nrW true (s.extract 1 s.size).data.toList = V) => (nrV_neg (l := s.data.toList) (by rw [hh]; exact congrArg some (UInt8.toNat_inj.1 q))).trans ((congrArg (nrW true) hBl).symm.trans h))
  have hB0 : 0 < (s.extract 1 s.size).size := by omega
  have hx : (s.extract 1 s.size)[0]'hB0 = s[1] := by rw [ByteArray.getElem_extract]
  have eE : (s.extract 1 s.size).toList.isEmpty = false := by rw [ByteArray.toList_eq, List.isEmpty_eq_false_iff, hBl]; intro e; have := congrArg List.length e; rw [List.length_drop, ← size_len] at this; simp at this; omega
  have h1' : (1 : Int) < s.size := by omega
  have hd : (s.extract 1 s.size).data.toList.head? = some 48 := by
    rw [List.head?_eq_getElem?, List.getElem?_eq_getElem (by rw [← size_len]; exact hB0)]
    exact congrArg some (show (s.extract 1 s.size)[0]'hB0 = 48 by rw [hx]; exact UInt8.toNat_inj.1 hz)
  have HR : Hid (nrV s.data.toList = .tuple #[.int .i64 0, .bool false]) := Lib.hid (HW.out _ (by
    by_cases h : 1 < (s.extract 1 s.size).data.toList.length
    · exact nrW_lead hd h
    · exact nrW_zero hd h))
  have g3 : ((((s.extract 1 s.size)[0]'hB0).toNat : Int) == 48) = true := by rw [hx, hz]; rfl
  clear hh hz q hBl hx hBs hd
  go_enter Tryd.func44, Tryd.ntmps44
  go_wp2
  all_goals
    go_returns
    exact ⟨by rw [HR.out]; rfl, Below.refl _ _⟩

theorem rn_negnil (s : ByteArray) (w : World) (hs : s.size ≤ 1000000) (h0 : 0 < s.size) (q : s[0].toNat = 45) (h1 : ¬ 1 < s.size) :
    Calls Tryd.prog 44 #[.string s] w fun e w' => e = .returned (nrV s.data.toList) ∧ Below w.heap.size w w' := by
  have hh : s.data.toList.head? = some s[0] := by
    rw [List.head?_eq_getElem?, List.getElem?_eq_getElem (by rw [← size_len]; exact h0)]; rfl
  have g0 : s.toList.isEmpty = false := by rw [ByteArray.toList_eq, List.isEmpty_eq_false_iff]; intro e; rw [e] at hh; cases hh
  have hs' : (s.size : Int) ≤ 1000000 := by omega
  have h0' : (0 : Int) < s.size := by omega
  have g1 : ((s[0].toNat : Int) == 45) = true := by rw [q]; rfl
  have hBs : (s.extract 1 s.size).size = s.size - 1 := by rw [ByteArray.size_extract]; omega
  have hBl : (s.extract 1 s.size).data.toList = s.data.toList.drop 1 := by rw [drop_size s 1]
  have HW := Lib.hid (fun (V : Value) (h : nrW true (s.extract 1 s.size).data.toList = V) => (nrV_neg (l := s.data.toList) (by rw [hh]; exact congrArg some (UInt8.toNat_inj.1 q))).trans ((congrArg (nrW true) hBl).symm.trans h))
  have hl : s.data.toList.drop 1 = [] := List.drop_eq_nil_of_le (by rw [← size_len]; omega)
  have eE : (s.extract 1 s.size).toList.isEmpty = true := by rw [ByteArray.toList_eq, hBl, hl]; rfl
  have HR : Hid (nrV s.data.toList = .tuple #[.int .i64 0, .bool false]) := Lib.hid (HW.out _ (by rw [hBl, hl]; exact nrW_nil _))
  clear hh q hBl hBs hl
  go_enter Tryd.func44, Tryd.ntmps44
  go_wp2
  all_goals
    go_returns
    exact ⟨by rw [HR.out]; rfl, Below.refl _ _⟩

theorem rn_lead (s : ByteArray) (w : World) (hs : s.size ≤ 1000000) (h0 : 0 < s.size) (q : s[0].toNat = 48) (h1 : 1 < s.size) :
    Calls Tryd.prog 44 #[.string s] w fun e w' => e = .returned (nrV s.data.toList) ∧ Below w.heap.size w w' := by
  have hh : s.data.toList.head? = some s[0] := by
    rw [List.head?_eq_getElem?, List.getElem?_eq_getElem (by rw [← size_len]; exact h0)]; rfl
  have g0 : s.toList.isEmpty = false := by rw [ByteArray.toList_eq, List.isEmpty_eq_false_iff]; intro e; rw [e] at hh; cases hh
  have hs' : (s.size : Int) ≤ 1000000 := by omega
  have h0' : (0 : Int) < s.size := by omega
  have g1 : ((s[0].toNat : Int) == 45) = false := by rw [q]; rfl
  have g3 : ((s[0].toNat : Int) == 48) = true := by rw [q]; rfl
  have h1' : (1 : Int) < s.size := by omega
  have g4 : decide ((1 : Int) < s.size) = true := decide_eq_true h1'
  have q2 : s[0] = 48 := UInt8.toNat_inj.1 q
  have HR : Hid (nrV s.data.toList = .tuple #[.int .i64 0, .bool false]) := Lib.hid ((nrV_pos (by rw [hh, q2]; decide)).trans (nrW_lead (by rw [hh, q2]) (by rw [← size_len]; exact h1)))
  clear hh q q2
  go_enter Tryd.func44, Tryd.ntmps44
  go_wp2
  all_goals
    go_returns
    exact ⟨by rw [HR.out]; rfl, Below.refl _ _⟩

theorem rn_nil (s : ByteArray) (w : World) (h0 : s.size = 0) :
    Calls Tryd.prog 44 #[.string s] w fun e w' => e = .returned (nrV s.data.toList) ∧ Below w.heap.size w w' := by
  have e : s.data.toList = [] := List.eq_nil_of_length_eq_zero (by rw [← size_len]; exact h0)
  have g0 : s.toList.isEmpty = true := by rw [ByteArray.toList_eq, e]; rfl
  have HR : Hid (nrV s.data.toList = .tuple #[.int .i64 0, .bool false]) := Lib.hid (by rw [e]; rfl)
  clear e h0
  go_enter Tryd.func44, Tryd.ntmps44
  go_wp2
  all_goals
    go_returns
    exact ⟨by rw [HR.out]; rfl, Below.refl _ _⟩

theorem rnumber_any (s : ByteArray) (w : World) (hs : s.size ≤ 1000000) :
    Calls Tryd.prog 44 #[.string s] w fun e w' => e = .returned (nrV s.data.toList) ∧ Below w.heap.size w w' := by
  by_cases h0 : 0 < s.size
  · by_cases q : s[0].toNat = 45
    · by_cases h1 : 1 < s.size
      · by_cases hz : s[1].toNat = 48
        · exact rn_negzero s w hs h0 q h1 hz
        · exact rn_neg s w hs h0 q h1 hz
      · exact rn_negnil s w hs h0 q h1
    · by_cases hz : s[0].toNat = 48 ∧ 1 < s.size
      · exact rn_lead s w hs h0 hz.1 hz.2
      · exact rn_pos s w hs h0 q (fun h h1 => hz ⟨h, h1⟩)
  · exact rn_nil s w (by omega)

end Go.Proofs.YtiimdkamgehioaaDoor

namespace Go.Proofs.YtiimdkamgehioaaDoor
open Go Go.RowKit Go.Joins
set_option linter.unusedVariables false
set_option linter.unusedSimpArgs false

/-- The rest of a line behind its kind and some numbers. -/
def fin7 (k : Int) (acc : List Int) (r : List UInt8) : Option Ev := match acc with
  | [f, t, v, a, u] => (match unq r with
    | none => none
    | some d => if qt d = r then some ⟨k, f, t, v, a, d, u⟩ else none)
  | _ => none
def go7 (k : Int) : Nat → List Int → List UInt8 → Option Ev
  | 0, acc, r => fin7 k acc r
  | n + 1, acc, r => match wd r with
    | none => none
    | some (x, y) => match n7 x with
      | none => none
      | some v => go7 k n (acc ++ [v]) y
theorem go7_wd {k : Int} {n : Nat} {acc : List Int} {r : List UInt8} (h : wd r = none) : go7 k (n + 1) acc r = none := by simp only [go7, h]
theorem go7_n7 {k : Int} {n : Nat} {acc : List Int} {r x y : List UInt8} (h : wd r = some (x, y)) (h2 : n7 x = none) : go7 k (n + 1) acc r = none := by simp only [go7, h, h2]
theorem go7_ok {k : Int} {n : Nat} {acc : List Int} {r x y : List UInt8} {v : Int} (h : wd r = some (x, y)) (h2 : n7 x = some v) : go7 k (n + 1) acc r = go7 k n (acc ++ [v]) y := by simp only [go7, h, h2]
theorem wn_go (k : Int) (n : Nat) (acc : List Int) (r : List UInt8) : go7 k (n + 1) acc r = match wn r with | none => none | some (v, y) => go7 k n (acc ++ [v]) y := by
  unfold wn
  cases h : wd r with
  | none => rw [go7_wd h]
  | some p =>
    obtain ⟨x, y⟩ := p
    cases h2 : n7 x with
    | none => rw [go7_n7 h h2]; simp only [h2]
    | some v => rw [go7_ok h h2]; simp only [h2]
theorem p7_go {s x r0 : List UInt8} {k : Int} (hw : wd s = some (x, r0)) (hk : kd x = some k) : p7 s = go7 k 5 [] r0 := by
  unfold p7
  rw [hw]
  simp only [hk]
  rw [wn_go]
  cases h1 : wn r0 with
  | none => rfl
  | some p1 =>
  obtain ⟨f, r1⟩ := p1
  simp only
  rw [wn_go]
  cases h2 : wn r1 with
  | none => rfl
  | some p2 =>
  obtain ⟨t, r2⟩ := p2
  simp only
  rw [wn_go]
  cases h3 : wn r2 with
  | none => rfl
  | some p3 =>
  obtain ⟨v, r3⟩ := p3
  simp only
  rw [wn_go]
  cases h4 : wn r3 with
  | none => rfl
  | some p4 =>
  obtain ⟨a, r4⟩ := p4
  simp only
  rw [wn_go]
  cases h5 : wn r4 with
  | none => rfl
  | some p5 =>
  obtain ⟨u, r5⟩ := p5
  rfl
theorem p7_wd {s : List UInt8} (h : wd s = none) : p7 s = none := by unfold p7; rw [h]
theorem p7_kd {s x r0 : List UInt8} (hw : wd s = some (x, r0)) (hk : kd x = none) : p7 s = none := by unfold p7; rw [hw]; simp only [hk]
theorem prV_4 {l : List UInt8} (h : p7 l = none) : prV l = .tuple #[.agg zE, .int .i64 4] := by unfold prV; rw [h]; rfl
theorem prV_2 {l : List UInt8} {e : Ev} (h : p7 l = some e) (hv : vE e = false) : prV l = .tuple #[.agg zE, .int .i64 2] := by unfold prV; rw [h]; simp only [hv]; rfl
theorem prV_0 {l : List UInt8} {e : Ev} (h : p7 l = some e) (hv : vE e = true) : prV l = .tuple #[.agg (evC e), .int .i64 0] := by unfold prV; rw [h]; simp only [hv]; rfl
theorem fin7_5 {k f t v a u : Int} {r : List UInt8} : fin7 k [f, t, v, a, u] r = (match unq r with | none => none | some d => if qt d = r then some ⟨k, f, t, v, a, d, u⟩ else none) := rfl

/-- word and number, as their calls end. -/
theorem word_no (s : ByteArray) (w : World) (hs : s.size ≤ 1000000) (h : wd s.data.toList = none) : Calls Tryd.prog 42 #[.string s] w fun e w' => e = .returned (.tuple #[.string ⟨#[]⟩, .string ⟨#[]⟩, .bool false]) ∧ Below w.heap.size w w' := by
  have := word_any s w hs
  unfold wdV at this
  rw [h] at this
  exact this
theorem word_yes (s X Y : ByteArray) (w : World) (hs : s.size ≤ 1000000) (h : wd s.data.toList = some (X.data.toList, Y.data.toList)) : Calls Tryd.prog 42 #[.string s] w fun e w' => e = .returned (.tuple #[.string X, .string Y, .bool true]) ∧ Below w.heap.size w w' := by
  have := word_any s w hs
  unfold wdV at this
  rw [h] at this
  simp only [bytes_of] at this
  exact this
theorem num_no (X : ByteArray) (w : World) (hs : X.size ≤ 1000000) (h : n7 X.data.toList = none) : Calls Tryd.prog 44 #[.string X] w fun e w' => e = .returned (.tuple #[.int .i64 0, .bool false]) ∧ Below w.heap.size w w' := by
  have := rnumber_any X w hs
  unfold nrV at this
  rw [h] at this
  exact this
theorem num_yes (X : ByteArray) (v : Int) (w : World) (hs : X.size ≤ 1000000) (h : n7 X.data.toList = some v) : Calls Tryd.prog 44 #[.string X] w fun e w' => e = .returned (.tuple #[.int .i64 v, .bool true]) ∧ Below w.heap.size w w' := by
  have := rnumber_any X w hs
  unfold nrV at this
  rw [h] at this
  exact this
theorem two_strings {l x y : List UInt8} (h : wd l = some (x, y)) : ∃ X Y : ByteArray, wd l = some (X.data.toList, Y.data.toList) ∧ X.size ≤ l.length ∧ Y.size ≤ l.length := by
  refine ⟨⟨x.toArray⟩, ⟨y.toArray⟩, by rw [toList_mk, toList_mk]; exact h, ?_, ?_⟩
  · rw [size_mk]; have := wd_len h; omega
  · rw [size_mk]; have := wd_len h; omega
theorem n7_nil : n7 [] = none := by decide
theorem kdN_some {x : List UInt8} {k : Int} (h : kd x = some k) : kdN x = k := by unfold kdN; rw [h]
theorem kdN_none {x : List UInt8} (h : kd x = none) : kdN x = 0 := by unfold kdN; rw [h]

end Go.Proofs.YtiimdkamgehioaaDoor

namespace Go.Proofs.YtiimdkamgehioaaDoor
open Go Go.RowKit Go.Joins
set_option linter.unusedVariables false
set_option linter.unusedSimpArgs false

theorem held5 {W0 w w' : World} {G : Nat} {v0 v1 v2 v3 v4 : Value} (h : w.cell? ⟨G, 0, none⟩ = some v0 ∧ w.cell? ⟨G, 1, none⟩ = some v1 ∧ w.cell? ⟨G, 2, none⟩ = some v2 ∧ w.cell? ⟨G, 3, none⟩ = some v3 ∧ w.cell? ⟨G, 4, none⟩ = some v4 ∧ Below W0.heap.size W0 w ∧ G < w.heap.size) (hb : Below w.heap.size w w') :
    w'.cell? ⟨G, 0, none⟩ = some v0 ∧ w'.cell? ⟨G, 1, none⟩ = some v1 ∧ w'.cell? ⟨G, 2, none⟩ = some v2 ∧ w'.cell? ⟨G, 3, none⟩ = some v3 ∧ w'.cell? ⟨G, 4, none⟩ = some v4 ∧ Below W0.heap.size W0 w' ∧ G < w'.heap.size := by
  obtain ⟨a0, a1, a2, a3, a4, a5, a6⟩ := h
  exact ⟨(hb.cell (p := ⟨G, 0, none⟩) a6).trans a0, (hb.cell (p := ⟨G, 1, none⟩) a6).trans a1, (hb.cell (p := ⟨G, 2, none⟩) a6).trans a2, (hb.cell (p := ⟨G, 3, none⟩) a6).trans a3, (hb.cell (p := ⟨G, 4, none⟩) a6).trans a4, a5.trans (hb.mono a5.size), Nat.lt_of_lt_of_le a6 hb.size⟩
/-- A whole store into a block of the call's own, at a step of a region that draws its order. -/
theorem step_store_at {P : Program} {ops : Array Oper} {o : Oper} {a : Act} {w : World} {K : Act → World → Prop} {Q : Exit → Act → World → Prop} {E : Prop} {b : Nat} {T : TypeId} {old : Array Value} (h : RowAt w b T old)
    (cells : Array Value) (x y : Operand) (ty : TypeId) (hgd : o.guard = none) (ho : o.op = .store ty x y) (hx : a.eval x = .pointer (some ⟨b, 0, none⟩)) (hy : a.eval y = .agg cells)
    (hi : (P.info? ty).map (·.size) = some cells.size) (hold : old.size = cells.size) (h1 : cells.toList.all (·.oneCell') = true)
    (hk : ∀ w', RowAt w' b T cells → Below b w w' → K (a.put o.dst undef) w') : if Region.wanted o (yielded ops a.tmps) = true then Oper.wp P o a w K Q else E := by
  have hw : Region.wanted o (yielded ops a.tmps) = true := by simp [Region.wanted, hgd]
  rw [if_pos hw]
  exact wp_store_row ty x y ho b cells hx hy T old h hi hold (by simpa using h1) (hk _ (setRow_heap w b old cells T (0, 0) h) (below_setRow (Below.refl _ _) (Nat.le_refl _) cells))
theorem held5b {W0 w w' : World} {G b : Nat} {v0 v1 v2 v3 v4 : Value} (h : w.cell? ⟨G, 0, none⟩ = some v0 ∧ w.cell? ⟨G, 1, none⟩ = some v1 ∧ w.cell? ⟨G, 2, none⟩ = some v2 ∧ w.cell? ⟨G, 3, none⟩ = some v3 ∧ w.cell? ⟨G, 4, none⟩ = some v4 ∧ Below W0.heap.size W0 w ∧ G < w.heap.size) (hb : Below b w w') (h1 : G < b) (h2 : W0.heap.size ≤ b) :
    w'.cell? ⟨G, 0, none⟩ = some v0 ∧ w'.cell? ⟨G, 1, none⟩ = some v1 ∧ w'.cell? ⟨G, 2, none⟩ = some v2 ∧ w'.cell? ⟨G, 3, none⟩ = some v3 ∧ w'.cell? ⟨G, 4, none⟩ = some v4 ∧ Below W0.heap.size W0 w' ∧ G < w'.heap.size := by
  obtain ⟨a0, a1, a2, a3, a4, a5, a6⟩ := h
  exact ⟨(hb.cell (p := ⟨G, 0, none⟩) h1).trans a0, (hb.cell (p := ⟨G, 1, none⟩) h1).trans a1, (hb.cell (p := ⟨G, 2, none⟩) h1).trans a2, (hb.cell (p := ⟨G, 3, none⟩) h1).trans a3, (hb.cell (p := ⟨G, 4, none⟩) h1).trans a4, a5.trans (hb.mono h2), Nat.lt_of_lt_of_le a6 hb.size⟩
set_option maxRecDepth 100000 in
set_option maxHeartbeats 8000000 in
theorem refParse_bad (s : ByteArray) (w : World) (hs : s.size ≤ 1000000) (h0 : wd s.data.toList = none ∨ ∃ x y, wd s.data.toList = some (x, y) ∧ kd x = none) :
    Calls Tryd.prog 26 #[.string s] w fun e w' => e = .returned (prV s.data.toList) ∧ Below w.heap.size w w' := by
  have RZ := RowAt.new w 23 zE
  have B0 : Below w.heap.size w (w.alloc (.cells zE 23)) := ba _ _
  obtain ⟨W, eW⟩ : ∃ W, W = w.alloc (.cells zE 23) := ⟨_, rfl⟩
  rw [← eW] at RZ B0
  have hlW := RZ.lt
  have HRZ := Lib.hid RZ
  have HB0 := Lib.hid B0
  rcases h0 with h | ⟨x, y, h, hk⟩
  · have HV := Lib.hid (prV_4 (p7_wd h))
    have C1 := Lib.hid (fun W => word_no s W hs h)
    clear h RZ B0
    unfold zE at eW
    go_enter Tryd.func26, Tryd.ntmps26
    go_wp2_with (first
      | (go_at_call 42; go_must (rw [← eW]; clear eW; refine (C1.out _).mono ?_; rintro e1 w1 ⟨rfl, b1⟩; have Z1 := Lib.hid (HRZ.out.below b1 hlW); have B1 := Lib.hid (HB0.out.trans (b1.mono HB0.out.size)); clear b1))
      | ((with_reducible show wpList _ _ _ ({ dst := none, op := .store _ (.tmp 2) (.tmp 30), type := _, pos := _, after := _, guard := _ } :: _) _ _); refine wpList_store_at (B := w.heap.size) (T := 23) (old := zE) (b := w.heap.size) (Z1.out) (Nat.le_refl _) zE (.tmp 2) (.tmp 30) 23 rfl rfl rfl rfl (by kernel_rfl) rfl rfl ?_; intro w6 r6 b6; have R6 := Lib.hid r6; have B6 := Lib.hid b6; clear r6 b6))
    have e0 : w6.cell? ⟨w.heap.size, 0, none⟩ = some (.int .i64 0) := R6.out.cell 0
    have e1 : w6.cell? ⟨w.heap.size, 1, none⟩ = some (.int .i64 0) := R6.out.cell 1
    have e2 : w6.cell? ⟨w.heap.size, 2, none⟩ = some (.int .i64 0) := R6.out.cell 2
    have e3 : w6.cell? ⟨w.heap.size, 3, none⟩ = some (.int .i64 0) := R6.out.cell 3
    have e4 : w6.cell? ⟨w.heap.size, 4, none⟩ = some (.int .i64 0) := R6.out.cell 4
    have e5 : w6.cell? ⟨w.heap.size, 5, none⟩ = some (.string ⟨#[]⟩) := R6.out.cell 5
    have e6 : w6.cell? ⟨w.heap.size, 6, none⟩ = some (.int .i64 0) := R6.out.cell 6
    refine bodyPost_ret (v := .tuple #[.agg zE, .int .i64 4]) (by simp [results, Tryd.results26, go_sem, e0, e1, e2, e3, e4, e5, e6, zE]) rfl ⟨by rw [HV.out], B1.out.trans B6.out⟩
  · obtain ⟨X, Y, hw, hX, hY⟩ := two_strings h
    rw [h] at hw
    simp only [Option.some.injEq, Prod.mk.injEq] at hw
    obtain ⟨rfl, rfl⟩ := hw
    have HV := Lib.hid (prV_4 (p7_kd h hk))
    have C1 := Lib.hid (fun W => word_yes s X Y W hs h)
    have C2 := Lib.hid (fun W => by have := kind_any X W; rw [kdN_none hk] at this; exact this)
    clear h hk RZ B0 hX hY
    unfold zE at eW
    go_enter Tryd.func26, Tryd.ntmps26
    go_wp2_with (first
      | (go_at_call 42; go_must (rw [← eW]; clear eW; refine (C1.out _).mono ?_; rintro e1 w1 ⟨rfl, b1⟩; have Z1 := Lib.hid (HRZ.out.below b1 hlW); have B1 := Lib.hid (HB0.out.trans (b1.mono HB0.out.size)); clear b1))
      | (go_at_call 43; go_must (refine (C2.out _).mono ?_; rintro e2 w2 ⟨rfl, b2⟩; have Z2 := Lib.hid (Z1.out.keep b2); have B2 := Lib.hid (B1.out.trans (b2.mono B1.out.size)); clear b2))
      | ((with_reducible show wpList _ _ _ ({ dst := none, op := .store _ (.tmp 2) (.tmp 30), type := _, pos := _, after := _, guard := _ } :: _) _ _); refine wpList_store_at (B := w.heap.size) (T := 23) (old := zE) (b := w.heap.size) (Z2.out) (Nat.le_refl _) zE (.tmp 2) (.tmp 30) 23 rfl rfl rfl rfl (by kernel_rfl) rfl rfl ?_; intro w6 r6 b6; have R6 := Lib.hid r6; have B6 := Lib.hid b6; clear r6 b6))
    have e0 : w6.cell? ⟨w.heap.size, 0, none⟩ = some (.int .i64 0) := R6.out.cell 0
    have e1 : w6.cell? ⟨w.heap.size, 1, none⟩ = some (.int .i64 0) := R6.out.cell 1
    have e2 : w6.cell? ⟨w.heap.size, 2, none⟩ = some (.int .i64 0) := R6.out.cell 2
    have e3 : w6.cell? ⟨w.heap.size, 3, none⟩ = some (.int .i64 0) := R6.out.cell 3
    have e4 : w6.cell? ⟨w.heap.size, 4, none⟩ = some (.int .i64 0) := R6.out.cell 4
    have e5 : w6.cell? ⟨w.heap.size, 5, none⟩ = some (.string ⟨#[]⟩) := R6.out.cell 5
    have e6 : w6.cell? ⟨w.heap.size, 6, none⟩ = some (.int .i64 0) := R6.out.cell 6
    refine bodyPost_ret (v := .tuple #[.agg zE, .int .i64 4]) (by simp [results, Tryd.results26, go_sem, e0, e1, e2, e3, e4, e5, e6, zE]) rfl ⟨by rw [HV.out], B2.out.trans B6.out⟩


set_option maxRecDepth 100000 in
set_option maxHeartbeats 8000000 in
theorem refParse_loop (s : ByteArray) (w : World) (hs : s.size ≤ 1000000) (X Y : ByteArray) (k : Int) (h : wd s.data.toList = some (X.data.toList, Y.data.toList)) (hk : kd X.data.toList = some k) (hY : Y.size ≤ 1000000) :
    Calls Tryd.prog 26 #[.string s] w fun e w' => e = .returned (prV s.data.toList) ∧ Below w.heap.size w w' := by
  have RZ := RowAt.new w 23 zE
  have B0 : Below w.heap.size w (w.alloc (.cells zE 23)) := ba _ _
  obtain ⟨W, eW⟩ : ∃ W, W = w.alloc (.cells zE 23) := ⟨_, rfl⟩
  rw [← eW] at RZ B0
  have hlW := RZ.lt
  have HRZ := Lib.hid RZ
  have HB0 := Lib.hid B0
  have HP := Lib.hid (p7_go h hk)
  have hkr := (kd_back hk).2
  have C1 := Lib.hid (fun W => word_yes s X Y W hs h)
  have C2 := Lib.hid (fun W => by have := kind_any X W; rw [kdN_some hk] at this; exact this)
  have hk0 : (k == 0) = false := by simp; omega
  clear h hk RZ B0
  unfold zE at eW
  go_enter Tryd.func26, Tryd.ntmps26
  go_wp2_with (first
    | (go_at_call 42; go_must (rw [← eW]; clear eW; refine (C1.out _).mono ?_; rintro e1 w1 ⟨rfl, b1⟩; have B1 := Lib.hid b1; clear b1))
    | (go_at_call 43; go_must (refine (C2.out _).mono ?_; rintro e2 w2 ⟨rfl, b2⟩; have B2 := Lib.hid (show Below W.heap.size W w2 from B1.out.trans (b2.mono B1.out.size)); clear b2)))
  go_loopw [8, 7, 5] (fun i r q wr => ∃ (j : Nat) (acc : List Int) (R : ByteArray), j ≤ 5 ∧ i = .int .i64 j ∧ q = .string R ∧ R.size ≤ 1000000 ∧ Hid (acc.length = j) ∧ Hid (p7 s.data.toList = go7 k (5 - j) acc R.data.toList) ∧ Hid (NRow wr W.heap.size r acc) ∧ Hid (Below W.heap.size W wr)) (fun i _ _ _ => 5 - (intOf i).toNat)
  case atStart => exact ⟨0, [], Y, by omega, rfl, rfl, hY, Lib.hid rfl, HP, Lib.hid (KRow.lit nmC_size w2 W.heap.size B2.out.size [] #[] rfl 0 rfl (by simp)), Lib.hid (B2.out.alloc B2.out.size _)⟩
  case round =>
    obtain ⟨j, acc, R, hj, rfl, rfl, hR, HL, HG, HR, HB⟩ := hrel
    have hb := HB.out
    by_cases hjl : j < 5
    · have hjl' : (j : Int) < 5 := by omega
      have h5 : 5 - j = (5 - (j + 1)) + 1 := by omega
      have hg := HG.out
      rw [h5] at hg
      clear h5
      cases hw : wd R.data.toList with
      | none =>
        have HV := Lib.hid (prV_4 (hg.trans (go7_wd hw)))
        have D1 := Lib.hid (fun W => word_no R W hR hw)
        have D2 := Lib.hid (fun W => num_no ⟨#[]⟩ W (by decide) n7_nil)
        clear hg hw
        go_wp2_with (first
          | (go_at_call 42; go_must (refine (D1.out _).mono ?_; rintro e3 w3 ⟨rfl, b3⟩; have B3 := Lib.hid (hb.trans (b3.mono hb.size)); clear b3))
          | (go_at_call 44; go_must (refine (D2.out _).mono ?_; rintro e4 w4 ⟨rfl, b4⟩; have B4 := Lib.hid (B3.out.trans (b4.mono B3.out.size)); have Z4 := Lib.hid (HRZ.out.below B4.out hlW); clear b4))
          | ((with_reducible show wpList _ _ _ ({ dst := none, op := .store _ (.tmp 2) (.tmp 53), type := _, pos := _, after := _, guard := _ } :: _) _ _); refine wpList_store_at (B := w.heap.size) (T := 23) (old := zE) (b := w.heap.size) (Z4.out) (Nat.le_refl _) zE (.tmp 2) (.tmp 53) 23 rfl rfl rfl rfl (by kernel_rfl) rfl rfl ?_; intro w6 r6 b6; have R6 := Lib.hid r6; have B6 := Lib.hid b6; clear r6 b6))
        have e0 : w6.cell? ⟨w.heap.size, 0, none⟩ = some (.int .i64 0) := R6.out.cell 0
        have e1 : w6.cell? ⟨w.heap.size, 1, none⟩ = some (.int .i64 0) := R6.out.cell 1
        have e2 : w6.cell? ⟨w.heap.size, 2, none⟩ = some (.int .i64 0) := R6.out.cell 2
        have e3 : w6.cell? ⟨w.heap.size, 3, none⟩ = some (.int .i64 0) := R6.out.cell 3
        have e4 : w6.cell? ⟨w.heap.size, 4, none⟩ = some (.int .i64 0) := R6.out.cell 4
        have e5 : w6.cell? ⟨w.heap.size, 5, none⟩ = some (.string ⟨#[]⟩) := R6.out.cell 5
        have e6 : w6.cell? ⟨w.heap.size, 6, none⟩ = some (.int .i64 0) := R6.out.cell 6
        refine bodyPost_ret (v := .tuple #[.agg zE, .int .i64 4]) (by simp [results, Tryd.results26, go_sem, e0, e1, e2, e3, e4, e5, e6, zE]) rfl ⟨by rw [HV.out], (HB0.out.trans (B4.out.mono HB0.out.size)).trans B6.out⟩
      | some p =>
        obtain ⟨x, y⟩ := p
        obtain ⟨X2, Y2, hw2, hX2, hY2⟩ := two_strings hw
        rw [hw] at hw2
        simp only [Option.some.injEq, Prod.mk.injEq] at hw2
        obtain ⟨rfl, rfl⟩ := hw2
        rw [← size_len] at hX2 hY2
        have D1 := Lib.hid (fun W => word_yes R X2 Y2 W hR hw)
        cases hn : n7 X2.data.toList with
        | none =>
          have HV := Lib.hid (prV_4 (hg.trans (go7_n7 hw hn)))
          have D2 := Lib.hid (fun W => num_no X2 W (by omega) hn)
          clear hg hw hn
          go_wp2_with (first
            | (go_at_call 42; go_must (refine (D1.out _).mono ?_; rintro e3 w3 ⟨rfl, b3⟩; have B3 := Lib.hid (hb.trans (b3.mono hb.size)); clear b3))
            | (go_at_call 44; go_must (refine (D2.out _).mono ?_; rintro e4 w4 ⟨rfl, b4⟩; have B4 := Lib.hid (B3.out.trans (b4.mono B3.out.size)); have Z4 := Lib.hid (HRZ.out.below B4.out hlW); clear b4))
            | ((with_reducible show wpList _ _ _ ({ dst := none, op := .store _ (.tmp 2) (.tmp 53), type := _, pos := _, after := _, guard := _ } :: _) _ _); refine wpList_store_at (B := w.heap.size) (T := 23) (old := zE) (b := w.heap.size) (Z4.out) (Nat.le_refl _) zE (.tmp 2) (.tmp 53) 23 rfl rfl rfl rfl (by kernel_rfl) rfl rfl ?_; intro w6 r6 b6; have R6 := Lib.hid r6; have B6 := Lib.hid b6; clear r6 b6))
          have e0 : w6.cell? ⟨w.heap.size, 0, none⟩ = some (.int .i64 0) := R6.out.cell 0
          have e1 : w6.cell? ⟨w.heap.size, 1, none⟩ = some (.int .i64 0) := R6.out.cell 1
          have e2 : w6.cell? ⟨w.heap.size, 2, none⟩ = some (.int .i64 0) := R6.out.cell 2
          have e3 : w6.cell? ⟨w.heap.size, 3, none⟩ = some (.int .i64 0) := R6.out.cell 3
          have e4 : w6.cell? ⟨w.heap.size, 4, none⟩ = some (.int .i64 0) := R6.out.cell 4
          have e5 : w6.cell? ⟨w.heap.size, 5, none⟩ = some (.string ⟨#[]⟩) := R6.out.cell 5
          have e6 : w6.cell? ⟨w.heap.size, 6, none⟩ = some (.int .i64 0) := R6.out.cell 6
          refine bodyPost_ret (v := .tuple #[.agg zE, .int .i64 4]) (by simp [results, Tryd.results26, go_sem, e0, e1, e2, e3, e4, e5, e6, zE]) rfl ⟨by rw [HV.out], (HB0.out.trans (B4.out.mono HB0.out.size)).trans B6.out⟩
        | some v =>
          have HG2 := Lib.hid (hg.trans (go7_ok hw hn))
          have D2 := Lib.hid (fun W => num_yes X2 v W (by omega) hn)
          have hal : acc.length ≤ 5 := by rw [HL.out]; exact hj
          clear hg hw hn
          obtain ⟨UA, UN, UC, rfl, hUN⟩ := HR.out.form
          clear hUN
          go_wp2_with (first
            | (go_at_call 42; go_must (refine (D1.out _).mono ?_; rintro e3 w3 ⟨rfl, b3⟩; have B3 := Lib.hid (hb.trans (b3.mono hb.size)); have R3 := Lib.hid (HR.out.keep b3); clear b3))
            | (go_at_call 44; go_must (refine (D2.out _).mono ?_; rintro e4 w4 ⟨rfl, b4⟩; have B4 := Lib.hid (B3.out.trans (b4.mono B3.out.size)); have R4 := Lib.hid (R3.out.keep b4); clear b4))
            | (at_builtin; go_must (refine wpList_append_num rfl _ _ rfl rfl rfl rfl rfl R4.out B4.out.size (by omega) ?_; intro v5 w5 R5 b5)))
          go_roundw
          case rel => exact ⟨j + 1, acc ++ [v], Y2, by omega, val_int (by omega), rfl, by omega, Lib.hid (by rw [List.length_append, HL.out]; rfl), HG2, Lib.hid R5, Lib.hid (B4.out.trans b5)⟩
          case measure => simp [intOf]; omega
    · obtain rfl : j = 5 := by omega
      obtain ⟨f, t, v, a, u, rfl⟩ := five HL.out
      have hg := HG.out
      rw [show go7 k (5 - 5) [f, t, v, a, u] R.data.toList = fin7 k [f, t, v, a, u] R.data.toList from rfl, fin7_5] at hg
      cases hu : unq R.data.toList with
      | none =>
        have HV := Lib.hid (prV_4 (by rw [hg, hu]))
        have D1 := Lib.hid (fun W => by have := runquote_any R W (by omega); rw [unV_none hu] at this; exact this)
        clear hg hu
        go_wp2_with (first
          | (go_at_call 45; go_must (refine (D1.out _).mono ?_; rintro e3 w3 ⟨rfl, b3⟩; have B4 := Lib.hid (hb.trans (b3.mono hb.size)); have Z4 := Lib.hid (HRZ.out.below B4.out hlW); clear b3))
          | ((with_reducible show wpList _ _ _ ({ dst := none, op := .store _ (.tmp 2) (.tmp 72), type := _, pos := _, after := _, guard := _ } :: _) _ _); refine wpList_store_at (B := w.heap.size) (T := 23) (old := zE) (b := w.heap.size) (Z4.out) (Nat.le_refl _) zE (.tmp 2) (.tmp 72) 23 rfl rfl rfl rfl (by kernel_rfl) rfl rfl ?_; intro w6 r6 b6; have R6 := Lib.hid r6; have B6 := Lib.hid b6; clear r6 b6))
        have e0 : w6.cell? ⟨w.heap.size, 0, none⟩ = some (.int .i64 0) := R6.out.cell 0
        have e1 : w6.cell? ⟨w.heap.size, 1, none⟩ = some (.int .i64 0) := R6.out.cell 1
        have e2 : w6.cell? ⟨w.heap.size, 2, none⟩ = some (.int .i64 0) := R6.out.cell 2
        have e3 : w6.cell? ⟨w.heap.size, 3, none⟩ = some (.int .i64 0) := R6.out.cell 3
        have e4 : w6.cell? ⟨w.heap.size, 4, none⟩ = some (.int .i64 0) := R6.out.cell 4
        have e5 : w6.cell? ⟨w.heap.size, 5, none⟩ = some (.string ⟨#[]⟩) := R6.out.cell 5
        have e6 : w6.cell? ⟨w.heap.size, 6, none⟩ = some (.int .i64 0) := R6.out.cell 6
        refine bodyPost_ret (v := .tuple #[.agg zE, .int .i64 4]) (by simp [results, Tryd.results26, go_sem, e0, e1, e2, e3, e4, e5, e6, zE]) rfl ⟨by rw [HV.out], (HB0.out.trans (B4.out.mono HB0.out.size)).trans B6.out⟩
      | some d =>
        have hdl := unq_len hu
        rw [← size_len] at hdl
        rw [hu] at hg
        simp only at hg
        have D1 := Lib.hid (fun W => by have := runquote_any R W (by omega); rw [unV_some hu] at this; exact this)
        obtain ⟨q, hq⟩ : ∃ q : ByteArray, q = ⟨d.toArray⟩ := ⟨_, rfl⟩
        have hqd : q.data.toList = d := by rw [hq, toList_mk]
        have hqs : q.size ≤ 1000000 := by rw [hq, size_mk]; omega
        rw [← hq] at D1
        have D2 := Lib.hid (fun W => by have := rquote_any q W (by omega); rw [hqd] at this; exact this)
        by_cases hqt : qt d = R.data.toList
        · rw [if_pos hqt] at hg
          have hqR : (⟨(qt d).toArray⟩ : ByteArray) = R := by rw [hqt, bytes_of]
          rw [hqR] at D2
          rw [← hqd] at hg
          clear hu hqt hqR hq hqd hdl
          have HG5 := Lib.hid hg
          clear hg
          obtain ⟨G, C, rfl⟩ := HR.out.full (by simp)
          have hve := vE_VeP k f t v a q u
          have C5 := Lib.hid (fun W => refValid_xy k f t v a q u W (by omega))
          rw [hve] at C5
          have hGl := Lib.hid (HR.out.lt G rfl)
          have HS0 : Hid (∀ w', Below wr.heap.size wr w' → w'.cell? ⟨G, 0, none⟩ = some (.int .i64 f) ∧ w'.cell? ⟨G, 1, none⟩ = some (.int .i64 t) ∧ w'.cell? ⟨G, 2, none⟩ = some (.int .i64 v) ∧ w'.cell? ⟨G, 3, none⟩ = some (.int .i64 a) ∧ w'.cell? ⟨G, 4, none⟩ = some (.int .i64 u)) := Lib.hid (fun w' hb' => ⟨(HR.out.keep hb').cell nmC_size 0 (by simp) 0 (by omega), (HR.out.keep hb').cell nmC_size 1 (by simp) 0 (by omega), (HR.out.keep hb').cell nmC_size 2 (by simp) 0 (by omega), (HR.out.keep hb').cell nmC_size 3 (by simp) 0 (by omega), (HR.out.keep hb').cell nmC_size 4 (by simp) 0 (by omega)⟩)
          clear hve
          have HVV : Hid ((vE ⟨k, f, t, v, a, q.data.toList, u⟩ = false → prV s.data.toList = .tuple #[.agg zE, .int .i64 2]) ∧ (vE ⟨k, f, t, v, a, q.data.toList, u⟩ = true → prV s.data.toList = .tuple #[.agg (evA k f t v a q u), .int .i64 0])) := Lib.hid ⟨fun h => prV_2 HG5.out h, fun h => by rw [prV_0 HG5.out h, evC_mk]⟩
          generalize vE ⟨k, f, t, v, a, q.data.toList, u⟩ = vb at *
          go_wp2_with (first
            | (go_at_call 45; go_must (refine (D1.out _).mono ?_; rintro e3 w3 ⟨rfl, b3⟩; have B3 := Lib.hid (hb.trans (b3.mono hb.size)); have S3 := Lib.hid b3; clear b3))
            | (go_at_call 37; go_must (refine (D2.out _).mono ?_; rintro e4 w4 ⟨rfl, b4⟩; have B4 := Lib.hid (B3.out.trans (b4.mono B3.out.size)); have S4 := Lib.hid (show Below wr.heap.size wr w4 from S3.out.trans (b4.mono S3.out.size)); clear b4)))
          have HS4 := Lib.hid (show w4.drew.cell? ⟨G, 0, none⟩ = some (.int .i64 f) ∧ w4.drew.cell? ⟨G, 1, none⟩ = some (.int .i64 t) ∧ w4.drew.cell? ⟨G, 2, none⟩ = some (.int .i64 v) ∧ w4.drew.cell? ⟨G, 3, none⟩ = some (.int .i64 a) ∧ w4.drew.cell? ⟨G, 4, none⟩ = some (.int .i64 u) ∧ Below W.heap.size W w4.drew ∧ G < w4.drew.heap.size from by
            obtain ⟨p0, p1, p2, p3, p4⟩ := HS0.out w4.drew S4.out.drew
            exact ⟨p0, p1, p2, p3, p4, B4.out.drew, Nat.lt_of_lt_of_le hGl.out.2 S4.out.size⟩)
          clear HS0 S3 S4 B3 D1 D2 hb HR HB
          refine wp_region_held_drew (S := fun w' => w'.cell? ⟨G, 0, none⟩ = some (.int .i64 f) ∧ w'.cell? ⟨G, 1, none⟩ = some (.int .i64 t) ∧ w'.cell? ⟨G, 2, none⟩ = some (.int .i64 v) ∧ w'.cell? ⟨G, 3, none⟩ = some (.int .i64 a) ∧ w'.cell? ⟨G, 4, none⟩ = some (.int .i64 u) ∧ Below W.heap.size W w' ∧ G < w'.heap.size) (by kernel_rfl) ?_ (fun hH => ?_)
          · exact HS4.out
          refine wpAnyH_take (i := 0) (oi := { dst := some 73, op := Go.Op.move (Go.Operand.tmp 4), type := 9, pos := "ref.go:238", after := #[], guard := none }) (v := ?_) rfl ?_ ?_ ?_ ?_ (Or.inl ⟨?_, ?_⟩) hH ?_
          rotate_left
          · kernel_rfl
          · kernel_rfl
          · kernel_rfl
          · exact fun _ _ _ h => h
          · kernel_rfl
          · intro wS hSw
            try dsimp only at hSw
            go_simp
            try with_reducible rfl
          try simp only [Act.put, List.setIfInBounds_toArray, List.set_cons_zero, List.set_cons_succ]
          refine wpAnyH_take (i := 2) (oi := { dst := some 75, op := Go.Op.move (Go.Operand.tmp 7), type := 51, pos := "ref.go:238", after := #[], guard := none }) (v := ?_) rfl ?_ ?_ ?_ ?_ (Or.inl ⟨?_, ?_⟩) hH ?_
          rotate_left
          · kernel_rfl
          · kernel_rfl
          · kernel_rfl
          · exact fun _ _ _ h => h
          · kernel_rfl
          · intro wS hSw
            try dsimp only at hSw
            go_simp
            try with_reducible rfl
          try simp only [Act.put, List.setIfInBounds_toArray, List.set_cons_zero, List.set_cons_succ]
          refine wpAnyH_take (i := 3) (oi := { dst := some 76, op := Go.Op.indexAddr 51 (Go.Operand.tmp 75) (Go.Operand.const (Go.Value.int Go.IntKind.i64 0)), type := 0, pos := "ref.go:238", after := #[{ on := 2, ground := Go.Ground.data }], guard := none }) (v := ?_) rfl ?_ ?_ ?_ ?_ (Or.inl ⟨?_, ?_⟩) hH ?_
          rotate_left
          · kernel_rfl
          · kernel_rfl
          · kernel_rfl
          · exact fun _ _ _ h => h
          · kernel_rfl
          · intro wS hSw
            try dsimp only at hSw
            go_simp
            try with_reducible rfl
          try simp only [Act.put, List.setIfInBounds_toArray, List.set_cons_zero, List.set_cons_succ]
          refine wpAnyH_take (i := 4) (oi := { dst := some 77, op := Go.Op.load 3 (Go.Operand.tmp 76), type := 3, pos := "ref.go:238", after := #[{ on := 3, ground := Go.Ground.data }], guard := none }) (v := ?_) rfl ?_ ?_ ?_ ?_ (Or.inl ⟨?_, ?_⟩) hH ?_
          rotate_left
          · kernel_rfl
          · kernel_rfl
          · kernel_rfl
          · exact fun _ _ _ h => h
          · kernel_rfl
          · intro wS hSw
            try dsimp only at hSw
            go_simp
            try with_reducible rfl
          try simp only [Act.put, List.setIfInBounds_toArray, List.set_cons_zero, List.set_cons_succ]
          refine wpAnyH_take (i := 5) (oi := { dst := some 78, op := Go.Op.move (Go.Operand.tmp 7), type := 51, pos := "ref.go:238", after := #[], guard := none }) (v := ?_) rfl ?_ ?_ ?_ ?_ (Or.inl ⟨?_, ?_⟩) hH ?_
          rotate_left
          · kernel_rfl
          · kernel_rfl
          · kernel_rfl
          · exact fun _ _ _ h => h
          · kernel_rfl
          · intro wS hSw
            try dsimp only at hSw
            go_simp
            try with_reducible rfl
          try simp only [Act.put, List.setIfInBounds_toArray, List.set_cons_zero, List.set_cons_succ]
          refine wpAnyH_take (i := 6) (oi := { dst := some 79, op := Go.Op.indexAddr 51 (Go.Operand.tmp 78) (Go.Operand.const (Go.Value.int Go.IntKind.i64 1)), type := 0, pos := "ref.go:238", after := #[{ on := 5, ground := Go.Ground.data }], guard := none }) (v := ?_) rfl ?_ ?_ ?_ ?_ (Or.inl ⟨?_, ?_⟩) hH ?_
          rotate_left
          · kernel_rfl
          · kernel_rfl
          · kernel_rfl
          · exact fun _ _ _ h => h
          · kernel_rfl
          · intro wS hSw
            try dsimp only at hSw
            go_simp
            try with_reducible rfl
          try simp only [Act.put, List.setIfInBounds_toArray, List.set_cons_zero, List.set_cons_succ]
          refine wpAnyH_take (i := 7) (oi := { dst := some 80, op := Go.Op.load 3 (Go.Operand.tmp 79), type := 3, pos := "ref.go:238", after := #[{ on := 6, ground := Go.Ground.data }], guard := none }) (v := ?_) rfl ?_ ?_ ?_ ?_ (Or.inl ⟨?_, ?_⟩) hH ?_
          rotate_left
          · kernel_rfl
          · kernel_rfl
          · kernel_rfl
          · exact fun _ _ _ h => h
          · kernel_rfl
          · intro wS hSw
            try dsimp only at hSw
            go_simp
            try with_reducible rfl
          try simp only [Act.put, List.setIfInBounds_toArray, List.set_cons_zero, List.set_cons_succ]
          refine wpAnyH_take (i := 8) (oi := { dst := some 81, op := Go.Op.move (Go.Operand.tmp 7), type := 51, pos := "ref.go:238", after := #[], guard := none }) (v := ?_) rfl ?_ ?_ ?_ ?_ (Or.inl ⟨?_, ?_⟩) hH ?_
          rotate_left
          · kernel_rfl
          · kernel_rfl
          · kernel_rfl
          · exact fun _ _ _ h => h
          · kernel_rfl
          · intro wS hSw
            try dsimp only at hSw
            go_simp
            try with_reducible rfl
          try simp only [Act.put, List.setIfInBounds_toArray, List.set_cons_zero, List.set_cons_succ]
          refine wpAnyH_take (i := 9) (oi := { dst := some 82, op := Go.Op.indexAddr 51 (Go.Operand.tmp 81) (Go.Operand.const (Go.Value.int Go.IntKind.i64 2)), type := 0, pos := "ref.go:238", after := #[{ on := 8, ground := Go.Ground.data }], guard := none }) (v := ?_) rfl ?_ ?_ ?_ ?_ (Or.inl ⟨?_, ?_⟩) hH ?_
          rotate_left
          · kernel_rfl
          · kernel_rfl
          · kernel_rfl
          · exact fun _ _ _ h => h
          · kernel_rfl
          · intro wS hSw
            try dsimp only at hSw
            go_simp
            try with_reducible rfl
          try simp only [Act.put, List.setIfInBounds_toArray, List.set_cons_zero, List.set_cons_succ]
          refine wpAnyH_take (i := 10) (oi := { dst := some 83, op := Go.Op.load 3 (Go.Operand.tmp 82), type := 3, pos := "ref.go:238", after := #[{ on := 9, ground := Go.Ground.data }], guard := none }) (v := ?_) rfl ?_ ?_ ?_ ?_ (Or.inl ⟨?_, ?_⟩) hH ?_
          rotate_left
          · kernel_rfl
          · kernel_rfl
          · kernel_rfl
          · exact fun _ _ _ h => h
          · kernel_rfl
          · intro wS hSw
            try dsimp only at hSw
            go_simp
            try with_reducible rfl
          try simp only [Act.put, List.setIfInBounds_toArray, List.set_cons_zero, List.set_cons_succ]
          refine wpAnyH_take (i := 11) (oi := { dst := some 84, op := Go.Op.move (Go.Operand.tmp 7), type := 51, pos := "ref.go:238", after := #[], guard := none }) (v := ?_) rfl ?_ ?_ ?_ ?_ (Or.inl ⟨?_, ?_⟩) hH ?_
          rotate_left
          · kernel_rfl
          · kernel_rfl
          · kernel_rfl
          · exact fun _ _ _ h => h
          · kernel_rfl
          · intro wS hSw
            try dsimp only at hSw
            go_simp
            try with_reducible rfl
          try simp only [Act.put, List.setIfInBounds_toArray, List.set_cons_zero, List.set_cons_succ]
          refine wpAnyH_take (i := 12) (oi := { dst := some 85, op := Go.Op.indexAddr 51 (Go.Operand.tmp 84) (Go.Operand.const (Go.Value.int Go.IntKind.i64 3)), type := 0, pos := "ref.go:238", after := #[{ on := 11, ground := Go.Ground.data }], guard := none }) (v := ?_) rfl ?_ ?_ ?_ ?_ (Or.inl ⟨?_, ?_⟩) hH ?_
          rotate_left
          · kernel_rfl
          · kernel_rfl
          · kernel_rfl
          · exact fun _ _ _ h => h
          · kernel_rfl
          · intro wS hSw
            try dsimp only at hSw
            go_simp
            try with_reducible rfl
          try simp only [Act.put, List.setIfInBounds_toArray, List.set_cons_zero, List.set_cons_succ]
          refine wpAnyH_take (i := 13) (oi := { dst := some 86, op := Go.Op.load 3 (Go.Operand.tmp 85), type := 3, pos := "ref.go:238", after := #[{ on := 12, ground := Go.Ground.data }], guard := none }) (v := ?_) rfl ?_ ?_ ?_ ?_ (Or.inl ⟨?_, ?_⟩) hH ?_
          rotate_left
          · kernel_rfl
          · kernel_rfl
          · kernel_rfl
          · exact fun _ _ _ h => h
          · kernel_rfl
          · intro wS hSw
            try dsimp only at hSw
            go_simp
            try with_reducible rfl
          try simp only [Act.put, List.setIfInBounds_toArray, List.set_cons_zero, List.set_cons_succ]
          refine wpAnyH_take (i := 14) (oi := { dst := some 87, op := Go.Op.move (Go.Operand.tmp 7), type := 51, pos := "ref.go:238", after := #[], guard := none }) (v := ?_) rfl ?_ ?_ ?_ ?_ (Or.inl ⟨?_, ?_⟩) hH ?_
          rotate_left
          · kernel_rfl
          · kernel_rfl
          · kernel_rfl
          · exact fun _ _ _ h => h
          · kernel_rfl
          · intro wS hSw
            try dsimp only at hSw
            go_simp
            try with_reducible rfl
          try simp only [Act.put, List.setIfInBounds_toArray, List.set_cons_zero, List.set_cons_succ]
          refine wpAnyH_take (i := 15) (oi := { dst := some 88, op := Go.Op.indexAddr 51 (Go.Operand.tmp 87) (Go.Operand.const (Go.Value.int Go.IntKind.i64 4)), type := 0, pos := "ref.go:238", after := #[{ on := 14, ground := Go.Ground.data }], guard := none }) (v := ?_) rfl ?_ ?_ ?_ ?_ (Or.inl ⟨?_, ?_⟩) hH ?_
          rotate_left
          · kernel_rfl
          · kernel_rfl
          · kernel_rfl
          · exact fun _ _ _ h => h
          · kernel_rfl
          · intro wS hSw
            try dsimp only at hSw
            go_simp
            try with_reducible rfl
          try simp only [Act.put, List.setIfInBounds_toArray, List.set_cons_zero, List.set_cons_succ]
          refine wpAnyH_take (i := 16) (oi := { dst := some 89, op := Go.Op.load 3 (Go.Operand.tmp 88), type := 3, pos := "ref.go:238", after := #[{ on := 15, ground := Go.Ground.data }], guard := none }) (v := ?_) rfl ?_ ?_ ?_ ?_ (Or.inl ⟨?_, ?_⟩) hH ?_
          rotate_left
          · kernel_rfl
          · kernel_rfl
          · kernel_rfl
          · exact fun _ _ _ h => h
          · kernel_rfl
          · intro wS hSw
            try dsimp only at hSw
            go_simp
            try with_reducible rfl
          try simp only [Act.put, List.setIfInBounds_toArray, List.set_cons_zero, List.set_cons_succ]
          refine wpAnyH_take (i := 17) (oi := { dst := some 90, op := Go.Op.move (Go.Operand.tmp 14), type := 9, pos := "ref.go:238", after := #[], guard := none }) (v := ?_) rfl ?_ ?_ ?_ ?_ (Or.inl ⟨?_, ?_⟩) hH ?_
          rotate_left
          · kernel_rfl
          · kernel_rfl
          · kernel_rfl
          · exact fun _ _ _ h => h
          · kernel_rfl
          · intro wS hSw
            try dsimp only at hSw
            go_simp
            try with_reducible rfl
          try simp only [Act.put, List.setIfInBounds_toArray, List.set_cons_zero, List.set_cons_succ]
          refine wpAnyH_ready (rs := [1, 19]) (by kernel_rfl) (by simp) ?_
          refine AllReadyH.cons (o := { dst := some 74, op := Go.Op.call { callee := Go.Callee.value (Go.Operand.func 43), args := #[Go.Operand.tmp 73], argTypes := #[9] }, type := 3, pos := "ref.go:238", after := #[{ on := 0, ground := Go.Ground.data }], guard := none }) rfl (fun K hK => ?_) (AllReadyH.cons (o := { dst := some 16, op := Go.Op.alloc 23, type := 0, pos := "ref.go:238", after := #[], guard := none }) rfl (fun K hK => ?_) AllReadyH.nil)
          · go_simp
            refine (C2.out _).mono ?_
            rintro e5 w5 ⟨rfl, b5⟩
            try go_wp2_with fail
            have h5 := held5 HS4.out b5
            refine hK.out _ _ ?_ (fun hH1 => ?_)
            · exact h5
            have H5 := Lib.hid h5
            clear hK K hH h5 b5
            try simp only [Act.put, List.setIfInBounds_toArray, List.set_cons_zero, List.set_cons_succ]
            refine wpAnyH_take (i := 18) (oi := { dst := some 91, op := Go.Op.build 23 #[(0, Go.Operand.tmp 74), (1, Go.Operand.tmp 77), (2, Go.Operand.tmp 80), (3, Go.Operand.tmp 83), (4, Go.Operand.tmp 86), (6, Go.Operand.tmp 89), (5, Go.Operand.tmp 90)], type := 23, pos := "ref.go:238", after := #[{ on := 1, ground := Go.Ground.data }, { on := 4, ground := Go.Ground.data }, { on := 7, ground := Go.Ground.data }, { on := 10, ground := Go.Ground.data }, { on := 13, ground := Go.Ground.data }, { on := 16, ground := Go.Ground.data }, { on := 17, ground := Go.Ground.data }], guard := none }) (v := ?_) rfl ?_ ?_ ?_ ?_ (Or.inl ⟨?_, ?_⟩) hH1 ?_
            rotate_left
            · kernel_rfl
            · kernel_rfl
            · kernel_rfl
            · exact fun _ _ _ h => h
            · kernel_rfl
            · intro wS hSw
              try dsimp only at hSw
              go_simp
              try with_reducible rfl
            try simp only [Act.put, List.setIfInBounds_toArray, List.set_cons_zero, List.set_cons_succ]
            refine wpAnyH_ready (rs := [19]) (by kernel_rfl) (by simp) ?_
            refine AllReadyH.cons (o := { dst := some 16, op := Go.Op.alloc 23, type := 0, pos := "ref.go:238", after := #[], guard := none }) rfl (fun K hK => ?_) AllReadyH.nil
            go_simp
            refine hK.out _ _ ?_ (fun hH2 => ?_)
            · exact held5 H5.out (ba _ _)
            clear hK K hH1
            try simp only [Act.put, List.setIfInBounds_toArray, List.set_cons_zero, List.set_cons_succ]
            refine wpAnyH_ready (rs := [20]) (by kernel_rfl) (by simp) ?_
            refine AllReadyH.cons (o := { dst := none, op := Go.Op.store 23 (Go.Operand.tmp 16) (Go.Operand.tmp 91), type := 0, pos := "ref.go:238", after := #[{ on := 19, ground := Go.Ground.data }, { on := 18, ground := Go.Ground.data }, { on := 1, ground := Go.Ground.chain }, { on := 0, ground := Go.Ground.phase }, { on := 1, ground := Go.Ground.phase }, { on := 2, ground := Go.Ground.phase }, { on := 3, ground := Go.Ground.phase }, { on := 4, ground := Go.Ground.phase }, { on := 5, ground := Go.Ground.phase }, { on := 6, ground := Go.Ground.phase }, { on := 7, ground := Go.Ground.phase }, { on := 8, ground := Go.Ground.phase }, { on := 9, ground := Go.Ground.phase }, { on := 10, ground := Go.Ground.phase }, { on := 11, ground := Go.Ground.phase }, { on := 12, ground := Go.Ground.phase }, { on := 13, ground := Go.Ground.phase }, { on := 14, ground := Go.Ground.phase }, { on := 15, ground := Go.Ground.phase }, { on := 16, ground := Go.Ground.phase }, { on := 17, ground := Go.Ground.phase }, { on := 18, ground := Go.Ground.phase }, { on := 19, ground := Go.Ground.phase }], guard := none }) rfl (fun K hK => ?_) AllReadyH.nil
            refine step_store_at (RowAt.new w5 23 zE) (evA k f t v a q u) (.tmp 16) (.tmp 91) 23 rfl rfl rfl rfl (by kernel_rfl) rfl rfl ?_
            intro w8 r8 b8
            have h8 := held5b (held5 H5.out (ba w5 _)) b8 H5.out.2.2.2.2.2.2 H5.out.2.2.2.2.2.1.size
            refine hK.out _ _ ?_ (fun hH3 => ?_)
            · exact h8
            have X8 := Lib.hid r8
            have H8 := Lib.hid h8.2.2.2.2.2.1
            clear hK K hH2 hH3 h8 r8 b8
            try simp only [Act.put, List.setIfInBounds_toArray, List.set_cons_zero, List.set_cons_succ]
            refine wpAnyH_done (by kernel_rfl) ?_ _
            generalize w5.heap.size = bx at *
            have z0 : w8.cell? ⟨bx, 0, none⟩ = some (.int .i64 k) := X8.out.cell 0
            have z1 : w8.cell? ⟨bx, 1, none⟩ = some (.int .i64 f) := X8.out.cell 1
            have z2 : w8.cell? ⟨bx, 2, none⟩ = some (.int .i64 t) := X8.out.cell 2
            have z3 : w8.cell? ⟨bx, 3, none⟩ = some (.int .i64 v) := X8.out.cell 3
            have z4 : w8.cell? ⟨bx, 4, none⟩ = some (.int .i64 a) := X8.out.cell 4
            have z5 : w8.cell? ⟨bx, 5, none⟩ = some (.string q) := X8.out.cell 5
            have z6 : w8.cell? ⟨bx, 6, none⟩ = some (.int .i64 u) := X8.out.cell 6
            have hb8 := X8.out.lt
            have XB := (ba w8 (.cells (evA k f t v a q u) 23))
            have y0 := (XB.cell (p := ⟨bx, 0, none⟩) hb8).trans z0
            have y1 := (XB.cell (p := ⟨bx, 1, none⟩) hb8).trans z1
            have y2 := (XB.cell (p := ⟨bx, 2, none⟩) hb8).trans z2
            have y3 := (XB.cell (p := ⟨bx, 3, none⟩) hb8).trans z3
            have y4 := (XB.cell (p := ⟨bx, 4, none⟩) hb8).trans z4
            have y5 := (XB.cell (p := ⟨bx, 5, none⟩) hb8).trans z5
            have y6 := (XB.cell (p := ⟨bx, 6, none⟩) hb8).trans z6
            have B9 := Lib.hid (show Below W.heap.size W (w8.alloc (.cells (evA k f t v a q u) 23)) from H8.out.alloc H8.out.size _)
            have Z9 := Lib.hid (HRZ.out.below B9.out hlW)
            have C6 := Lib.hid (show Calls Tryd.prog 12 #[.agg (evA k f t v a q u)] w8 fun e w' => e = .returned (.bool vb) ∧ w' = w8.alloc (.cells (evA k f t v a q u) 23) from C5.out w8)
            clear XB C5 X8
            obtain ⟨w9, e9⟩ : ∃ w9, w9 = w8.alloc (.cells (evA k f t v a q u) 23) := ⟨_, rfl⟩
            rw [← e9] at y0 y1 y2 y3 y4 y5 y6 B9 Z9 C6
            clear e9
            unfold evA at C6
            cases vb with
            | false =>
              have HV := Lib.hid (HVV.out.1 rfl)
              go_wp2_with (first
                | (go_at_call 12; go_must (refine C6.out.mono ?_; rintro e5 w5 ⟨rfl, rfl⟩))
                | ((with_reducible show wpList _ _ _ ({ dst := none, op := .store _ (.tmp 2) (.tmp 95), type := _, pos := _, after := _, guard := _ } :: _) _ _); refine wpList_store_at (B := w.heap.size) (T := 23) (old := zE) (b := w.heap.size) (Z9.out) (Nat.le_refl _) zE (.tmp 2) (.tmp 95) 23 rfl rfl rfl rfl (by kernel_rfl) rfl rfl ?_; intro w6 r6 b6; have R6 := Lib.hid r6; have B6 := Lib.hid b6; clear r6 b6))
              have e0 : w6.cell? ⟨w.heap.size, 0, none⟩ = some (.int .i64 0) := R6.out.cell 0
              have e1 : w6.cell? ⟨w.heap.size, 1, none⟩ = some (.int .i64 0) := R6.out.cell 1
              have e2 : w6.cell? ⟨w.heap.size, 2, none⟩ = some (.int .i64 0) := R6.out.cell 2
              have e3 : w6.cell? ⟨w.heap.size, 3, none⟩ = some (.int .i64 0) := R6.out.cell 3
              have e4 : w6.cell? ⟨w.heap.size, 4, none⟩ = some (.int .i64 0) := R6.out.cell 4
              have e5 : w6.cell? ⟨w.heap.size, 5, none⟩ = some (.string ⟨#[]⟩) := R6.out.cell 5
              have e6 : w6.cell? ⟨w.heap.size, 6, none⟩ = some (.int .i64 0) := R6.out.cell 6
              refine bodyPost_ret (v := .tuple #[.agg zE, .int .i64 2]) (by simp [results, Tryd.results26, go_sem, e0, e1, e2, e3, e4, e5, e6, zE]) rfl ⟨by rw [HV.out], (HB0.out.trans (B9.out.mono HB0.out.size)).trans B6.out⟩
            | true =>
              have HV := Lib.hid (HVV.out.2 rfl)
              go_wp2_with (first
                | (go_at_call 12; go_must (refine C6.out.mono ?_; rintro e5 w5 ⟨rfl, rfl⟩))
                | ((with_reducible show wpList _ _ _ ({ dst := none, op := .store _ (.tmp 2) (.tmp 96), type := _, pos := _, after := _, guard := _ } :: _) _ _); refine wpList_store_at (B := w.heap.size) (T := 23) (old := zE) (b := w.heap.size) (Z9.out) (Nat.le_refl _) (evA k f t v a q u) (.tmp 2) (.tmp 96) 23 rfl rfl rfl rfl (by kernel_rfl) rfl rfl ?_; intro w6 r6 b6; have R6 := Lib.hid r6; have B6 := Lib.hid b6; clear r6 b6))
              have e0 : w6.cell? ⟨w.heap.size, 0, none⟩ = some (.int .i64 k) := R6.out.cell 0
              have e1 : w6.cell? ⟨w.heap.size, 1, none⟩ = some (.int .i64 f) := R6.out.cell 1
              have e2 : w6.cell? ⟨w.heap.size, 2, none⟩ = some (.int .i64 t) := R6.out.cell 2
              have e3 : w6.cell? ⟨w.heap.size, 3, none⟩ = some (.int .i64 v) := R6.out.cell 3
              have e4 : w6.cell? ⟨w.heap.size, 4, none⟩ = some (.int .i64 a) := R6.out.cell 4
              have e5 : w6.cell? ⟨w.heap.size, 5, none⟩ = some (.string q) := R6.out.cell 5
              have e6 : w6.cell? ⟨w.heap.size, 6, none⟩ = some (.int .i64 u) := R6.out.cell 6
              refine bodyPost_ret (v := .tuple #[.agg (evA k f t v a q u), .int .i64 0]) (by simp [results, Tryd.results26, go_sem, e0, e1, e2, e3, e4, e5, e6, zE]) rfl ⟨by rw [HV.out], (HB0.out.trans (B9.out.mono HB0.out.size)).trans B6.out⟩
          · go_simp
            refine hK.out _ _ ?_ (fun hH1 => ?_)
            · exact held5 HS4.out (ba _ _)
            clear hK K hH
            try simp only [Act.put, List.setIfInBounds_toArray, List.set_cons_zero, List.set_cons_succ]
            refine wpAnyH_ready (rs := [1]) (by kernel_rfl) (by simp) ?_
            refine AllReadyH.cons (o := { dst := some 74, op := Go.Op.call { callee := Go.Callee.value (Go.Operand.func 43), args := #[Go.Operand.tmp 73], argTypes := #[9] }, type := 3, pos := "ref.go:238", after := #[{ on := 0, ground := Go.Ground.data }], guard := none }) rfl (fun K hK => ?_) AllReadyH.nil
            go_simp
            refine (C2.out _).mono ?_
            rintro e5 w5 ⟨rfl, b5⟩
            try go_wp2_with fail
            have x5 : RowAt w5 w4.drew.heap.size 23 zE := RowAt.keep (RowAt.new w4.drew 23 zE) b5
            have h5 := held5 (held5 HS4.out (ba w4.drew (.cells zE 23))) b5
            refine hK.out _ _ ?_ (fun hH2 => ?_)
            · exact h5
            have H5 := Lib.hid h5
            have X5 := Lib.hid x5
            clear hK K hH1 h5 b5 x5
            try simp only [Act.put, List.setIfInBounds_toArray, List.set_cons_zero, List.set_cons_succ]
            refine wpAnyH_take (i := 18) (oi := { dst := some 91, op := Go.Op.build 23 #[(0, Go.Operand.tmp 74), (1, Go.Operand.tmp 77), (2, Go.Operand.tmp 80), (3, Go.Operand.tmp 83), (4, Go.Operand.tmp 86), (6, Go.Operand.tmp 89), (5, Go.Operand.tmp 90)], type := 23, pos := "ref.go:238", after := #[{ on := 1, ground := Go.Ground.data }, { on := 4, ground := Go.Ground.data }, { on := 7, ground := Go.Ground.data }, { on := 10, ground := Go.Ground.data }, { on := 13, ground := Go.Ground.data }, { on := 16, ground := Go.Ground.data }, { on := 17, ground := Go.Ground.data }], guard := none }) (v := ?_) rfl ?_ ?_ ?_ ?_ (Or.inl ⟨?_, ?_⟩) hH2 ?_
            rotate_left
            · kernel_rfl
            · kernel_rfl
            · kernel_rfl
            · exact fun _ _ _ h => h
            · kernel_rfl
            · intro wS hSw
              try dsimp only at hSw
              go_simp
              try with_reducible rfl
            try simp only [Act.put, List.setIfInBounds_toArray, List.set_cons_zero, List.set_cons_succ]
            refine wpAnyH_ready (rs := [20]) (by kernel_rfl) (by simp) ?_
            refine AllReadyH.cons (o := { dst := none, op := Go.Op.store 23 (Go.Operand.tmp 16) (Go.Operand.tmp 91), type := 0, pos := "ref.go:238", after := #[{ on := 19, ground := Go.Ground.data }, { on := 18, ground := Go.Ground.data }, { on := 1, ground := Go.Ground.chain }, { on := 0, ground := Go.Ground.phase }, { on := 1, ground := Go.Ground.phase }, { on := 2, ground := Go.Ground.phase }, { on := 3, ground := Go.Ground.phase }, { on := 4, ground := Go.Ground.phase }, { on := 5, ground := Go.Ground.phase }, { on := 6, ground := Go.Ground.phase }, { on := 7, ground := Go.Ground.phase }, { on := 8, ground := Go.Ground.phase }, { on := 9, ground := Go.Ground.phase }, { on := 10, ground := Go.Ground.phase }, { on := 11, ground := Go.Ground.phase }, { on := 12, ground := Go.Ground.phase }, { on := 13, ground := Go.Ground.phase }, { on := 14, ground := Go.Ground.phase }, { on := 15, ground := Go.Ground.phase }, { on := 16, ground := Go.Ground.phase }, { on := 17, ground := Go.Ground.phase }, { on := 18, ground := Go.Ground.phase }, { on := 19, ground := Go.Ground.phase }], guard := none }) rfl (fun K hK => ?_) AllReadyH.nil
            refine step_store_at X5.out (evA k f t v a q u) (.tmp 16) (.tmp 91) 23 rfl rfl rfl rfl (by kernel_rfl) rfl rfl ?_
            intro w8 r8 b8
            have h8 := held5b H5.out b8 HS4.out.2.2.2.2.2.2 HS4.out.2.2.2.2.2.1.size
            refine hK.out _ _ ?_ (fun hH3 => ?_)
            · exact h8
            have X8 : Hid (RowAt w8 w4.heap.size 23 (evA k f t v a q u)) := Lib.hid r8
            have H8 := Lib.hid h8.2.2.2.2.2.1
            clear hK K hH2 hH3 h8 r8 b8
            try simp only [Act.put, List.setIfInBounds_toArray, List.set_cons_zero, List.set_cons_succ]
            refine wpAnyH_done (by kernel_rfl) ?_ _
            generalize w4.heap.size = bx at *
            have z0 : w8.cell? ⟨bx, 0, none⟩ = some (.int .i64 k) := X8.out.cell 0
            have z1 : w8.cell? ⟨bx, 1, none⟩ = some (.int .i64 f) := X8.out.cell 1
            have z2 : w8.cell? ⟨bx, 2, none⟩ = some (.int .i64 t) := X8.out.cell 2
            have z3 : w8.cell? ⟨bx, 3, none⟩ = some (.int .i64 v) := X8.out.cell 3
            have z4 : w8.cell? ⟨bx, 4, none⟩ = some (.int .i64 a) := X8.out.cell 4
            have z5 : w8.cell? ⟨bx, 5, none⟩ = some (.string q) := X8.out.cell 5
            have z6 : w8.cell? ⟨bx, 6, none⟩ = some (.int .i64 u) := X8.out.cell 6
            have hb8 := X8.out.lt
            have XB := (ba w8 (.cells (evA k f t v a q u) 23))
            have y0 := (XB.cell (p := ⟨bx, 0, none⟩) hb8).trans z0
            have y1 := (XB.cell (p := ⟨bx, 1, none⟩) hb8).trans z1
            have y2 := (XB.cell (p := ⟨bx, 2, none⟩) hb8).trans z2
            have y3 := (XB.cell (p := ⟨bx, 3, none⟩) hb8).trans z3
            have y4 := (XB.cell (p := ⟨bx, 4, none⟩) hb8).trans z4
            have y5 := (XB.cell (p := ⟨bx, 5, none⟩) hb8).trans z5
            have y6 := (XB.cell (p := ⟨bx, 6, none⟩) hb8).trans z6
            have B9 := Lib.hid (show Below W.heap.size W (w8.alloc (.cells (evA k f t v a q u) 23)) from H8.out.alloc H8.out.size _)
            have Z9 := Lib.hid (HRZ.out.below B9.out hlW)
            have C6 := Lib.hid (show Calls Tryd.prog 12 #[.agg (evA k f t v a q u)] w8 fun e w' => e = .returned (.bool vb) ∧ w' = w8.alloc (.cells (evA k f t v a q u) 23) from C5.out w8)
            clear XB C5 X8
            obtain ⟨w9, e9⟩ : ∃ w9, w9 = w8.alloc (.cells (evA k f t v a q u) 23) := ⟨_, rfl⟩
            rw [← e9] at y0 y1 y2 y3 y4 y5 y6 B9 Z9 C6
            clear e9
            unfold evA at C6
            cases vb with
            | false =>
              have HV := Lib.hid (HVV.out.1 rfl)
              go_wp2_with (first
                | (go_at_call 12; go_must (refine C6.out.mono ?_; rintro e5 w5 ⟨rfl, rfl⟩))
                | ((with_reducible show wpList _ _ _ ({ dst := none, op := .store _ (.tmp 2) (.tmp 95), type := _, pos := _, after := _, guard := _ } :: _) _ _); refine wpList_store_at (B := w.heap.size) (T := 23) (old := zE) (b := w.heap.size) (Z9.out) (Nat.le_refl _) zE (.tmp 2) (.tmp 95) 23 rfl rfl rfl rfl (by kernel_rfl) rfl rfl ?_; intro w6 r6 b6; have R6 := Lib.hid r6; have B6 := Lib.hid b6; clear r6 b6))
              have e0 : w6.cell? ⟨w.heap.size, 0, none⟩ = some (.int .i64 0) := R6.out.cell 0
              have e1 : w6.cell? ⟨w.heap.size, 1, none⟩ = some (.int .i64 0) := R6.out.cell 1
              have e2 : w6.cell? ⟨w.heap.size, 2, none⟩ = some (.int .i64 0) := R6.out.cell 2
              have e3 : w6.cell? ⟨w.heap.size, 3, none⟩ = some (.int .i64 0) := R6.out.cell 3
              have e4 : w6.cell? ⟨w.heap.size, 4, none⟩ = some (.int .i64 0) := R6.out.cell 4
              have e5 : w6.cell? ⟨w.heap.size, 5, none⟩ = some (.string ⟨#[]⟩) := R6.out.cell 5
              have e6 : w6.cell? ⟨w.heap.size, 6, none⟩ = some (.int .i64 0) := R6.out.cell 6
              refine bodyPost_ret (v := .tuple #[.agg zE, .int .i64 2]) (by simp [results, Tryd.results26, go_sem, e0, e1, e2, e3, e4, e5, e6, zE]) rfl ⟨by rw [HV.out], (HB0.out.trans (B9.out.mono HB0.out.size)).trans B6.out⟩
            | true =>
              have HV := Lib.hid (HVV.out.2 rfl)
              go_wp2_with (first
                | (go_at_call 12; go_must (refine C6.out.mono ?_; rintro e5 w5 ⟨rfl, rfl⟩))
                | ((with_reducible show wpList _ _ _ ({ dst := none, op := .store _ (.tmp 2) (.tmp 96), type := _, pos := _, after := _, guard := _ } :: _) _ _); refine wpList_store_at (B := w.heap.size) (T := 23) (old := zE) (b := w.heap.size) (Z9.out) (Nat.le_refl _) (evA k f t v a q u) (.tmp 2) (.tmp 96) 23 rfl rfl rfl rfl (by kernel_rfl) rfl rfl ?_; intro w6 r6 b6; have R6 := Lib.hid r6; have B6 := Lib.hid b6; clear r6 b6))
              have e0 : w6.cell? ⟨w.heap.size, 0, none⟩ = some (.int .i64 k) := R6.out.cell 0
              have e1 : w6.cell? ⟨w.heap.size, 1, none⟩ = some (.int .i64 f) := R6.out.cell 1
              have e2 : w6.cell? ⟨w.heap.size, 2, none⟩ = some (.int .i64 t) := R6.out.cell 2
              have e3 : w6.cell? ⟨w.heap.size, 3, none⟩ = some (.int .i64 v) := R6.out.cell 3
              have e4 : w6.cell? ⟨w.heap.size, 4, none⟩ = some (.int .i64 a) := R6.out.cell 4
              have e5 : w6.cell? ⟨w.heap.size, 5, none⟩ = some (.string q) := R6.out.cell 5
              have e6 : w6.cell? ⟨w.heap.size, 6, none⟩ = some (.int .i64 u) := R6.out.cell 6
              refine bodyPost_ret (v := .tuple #[.agg (evA k f t v a q u), .int .i64 0]) (by simp [results, Tryd.results26, go_sem, e0, e1, e2, e3, e4, e5, e6, zE]) rfl ⟨by rw [HV.out], (HB0.out.trans (B9.out.mono HB0.out.size)).trans B6.out⟩
        · rw [if_neg hqt] at hg
          have HV := Lib.hid (prV_4 hg)
          have hne : (!(⟨(qt d).toArray⟩ : ByteArray).toList == R.toList) = true := by
            rw [ByteArray.toList_eq, ByteArray.toList_eq, toList_mk]
            simpa using hqt
          clear hg hu hqt hq hqd
          generalize (⟨(qt d).toArray⟩ : ByteArray) = qb at *
          go_wp2_with (first
            | (go_at_call 45; go_must (refine (D1.out _).mono ?_; rintro e3 w3 ⟨rfl, b3⟩; have B3 := Lib.hid (hb.trans (b3.mono hb.size)); clear b3))
            | (go_at_call 37; go_must (refine (D2.out _).mono ?_; rintro e4 w4 ⟨rfl, b4⟩; have B4 := Lib.hid (B3.out.trans (b4.mono B3.out.size)); have Z4 := Lib.hid (HRZ.out.below B4.out hlW); clear b4))
            | ((with_reducible show wpList _ _ _ ({ dst := none, op := .store _ (.tmp 2) (.tmp 72), type := _, pos := _, after := _, guard := _ } :: _) _ _); refine wpList_store_at (B := w.heap.size) (T := 23) (old := zE) (b := w.heap.size) (Z4.out) (Nat.le_refl _) zE (.tmp 2) (.tmp 72) 23 rfl rfl rfl rfl (by kernel_rfl) rfl rfl ?_; intro w6 r6 b6; have R6 := Lib.hid r6; have B6 := Lib.hid b6; clear r6 b6))
          have e0 : w6.cell? ⟨w.heap.size, 0, none⟩ = some (.int .i64 0) := R6.out.cell 0
          have e1 : w6.cell? ⟨w.heap.size, 1, none⟩ = some (.int .i64 0) := R6.out.cell 1
          have e2 : w6.cell? ⟨w.heap.size, 2, none⟩ = some (.int .i64 0) := R6.out.cell 2
          have e3 : w6.cell? ⟨w.heap.size, 3, none⟩ = some (.int .i64 0) := R6.out.cell 3
          have e4 : w6.cell? ⟨w.heap.size, 4, none⟩ = some (.int .i64 0) := R6.out.cell 4
          have e5 : w6.cell? ⟨w.heap.size, 5, none⟩ = some (.string ⟨#[]⟩) := R6.out.cell 5
          have e6 : w6.cell? ⟨w.heap.size, 6, none⟩ = some (.int .i64 0) := R6.out.cell 6
          refine bodyPost_ret (v := .tuple #[.agg zE, .int .i64 4]) (by simp [results, Tryd.results26, go_sem, e0, e1, e2, e3, e4, e5, e6, zE]) rfl ⟨by rw [HV.out], (HB0.out.trans (B4.out.mono HB0.out.size)).trans B6.out⟩

end Go.Proofs.YtiimdkamgehioaaDoor

namespace Go.Proofs.YtiimdkamgehioaaDoor
open Go Go.RowKit Go.Joins
set_option linter.unusedVariables false
set_option linter.unusedSimpArgs false

theorem refParse_any (s : ByteArray) (w : World) (hs : s.size ≤ 1000000) :
    Calls Tryd.prog 26 #[.string s] w fun e w' => e = .returned (prV s.data.toList) ∧ Below w.heap.size w w' := by
  cases h : wd s.data.toList with
  | none => exact refParse_bad s w hs (.inl h)
  | some p =>
    obtain ⟨x, y⟩ := p
    cases hk : kd x with
    | none => exact refParse_bad s w hs (.inr ⟨x, y, h, hk⟩)
    | some k =>
      obtain ⟨X, Y, hw, hX, hY⟩ := two_strings h
      rw [h] at hw
      simp only [Option.some.injEq, Prod.mk.injEq] at hw
      obtain ⟨rfl, rfl⟩ := hw
      rw [← size_len] at hY
      exact refParse_loop s w hs X Y k h hk (by omega)
theorem prV_form (l : List UInt8) : ∃ (k f t v a : Int) (q : ByteArray) (u c : Int), prV l = .tuple #[.agg (evA k f t v a q u), .int .i64 c] := by
  unfold prV
  split
  · exact ⟨0, 0, 0, 0, 0, ⟨#[]⟩, 0, 4, rfl⟩
  · rename_i e _
    split
    · exact ⟨e.k, e.f, e.t, e.v, e.a, ⟨e.d.toArray⟩, e.u, 0, rfl⟩
    · exact ⟨0, 0, 0, 0, 0, ⟨#[]⟩, 0, 2, rfl⟩

set_option maxRecDepth 20000 in
set_option maxHeartbeats 8000000 in
theorem law_parses (s : ByteArray) (w : World) (hE : Env w) (hs : s.size ≤ 140737488351232) :
    Calls Tryd.prog 6 #[.string s] w fun e w' => e = .returned (.bool true) ∧ Below w.heap.size w w' := by
  have HA := Lib.hid (fun W h => awake_any W (hE.below h))
  have z1 : (s.size : Int) ≤ 140737488351232 := by omega
  by_cases h5 : 400 < s.size
  · have i1 : (400 : Int) < s.size := by omega
    have d1 := decide_eq_true i1
    clear h5 hE
    go_enter Tryd.func6, Tryd.ntmps6
    go_wp2_with (go_at_call 10; go_must (refine (HA.out _ (Below.refl _ _)).mono ?_; rintro e1 w1 ⟨rfl, b1⟩))
    go_returns
    exact ⟨rfl, b1⟩
  · have i1 : ¬ (400 : Int) < s.size := by omega
    have d1 := decide_eq_false i1
    have CP := parse_any s w (by omega) hE
    have CR := fun W => refParse_any s W (by omega)
    obtain ⟨k, f, t, v, a, q, u, c, hp⟩ := prV_form s.data.toList
    rw [hp] at CP CR
    have Q := fun W => eql_ev k f t v a q u k f t v a q u W
    rw [show eqF k f t v a q u k f t v a q u = true from by rw [eqF_iff]; exact decide_eq_true rfl] at Q
    have HCP := Lib.hid CP; have HCR := Lib.hid CR
    unfold evA at Q
    clear h5 hE CP CR hp
    go_enter Tryd.func6, Tryd.ntmps6
    go_wp2_with (first
      | (go_at_call 25; go_must (refine HCP.out.mono ?_; rintro e1 w1 ⟨rfl, b1⟩; have B1 := Lib.hid b1; clear b1))
      | (go_at_call 26; go_must (refine (HCR.out _).mono ?_; rintro e2 w2 ⟨rfl, b2⟩; have B2 := Lib.hid (show Below w.heap.size w w2 from (B1.out.alloc B1.out.size (.cells (evA k f t v a q u) 23)).trans (b2.mono (B1.out.alloc B1.out.size (.cells (evA k f t v a q u) 23)).size)); have x2 : RowAt (w2.alloc (.cells (evA k f t v a q u) 23)) w1.heap.size 23 (evA k f t v a q u) := ((RowAt.new w1 23 (evA k f t v a q u)).keep b2).alloc _; have y0 : (w2.alloc (.cells #[.int .i64 k, .int .i64 f, .int .i64 t, .int .i64 v, .int .i64 a, .string q, .int .i64 u] 23)).cell? ⟨w1.heap.size, 0, none⟩ = some (.int .i64 k) := x2.cell 0; have y1 : (w2.alloc (.cells #[.int .i64 k, .int .i64 f, .int .i64 t, .int .i64 v, .int .i64 a, .string q, .int .i64 u] 23)).cell? ⟨w1.heap.size, 1, none⟩ = some (.int .i64 f) := x2.cell 1; have y2 : (w2.alloc (.cells #[.int .i64 k, .int .i64 f, .int .i64 t, .int .i64 v, .int .i64 a, .string q, .int .i64 u] 23)).cell? ⟨w1.heap.size, 2, none⟩ = some (.int .i64 t) := x2.cell 2; have y3 : (w2.alloc (.cells #[.int .i64 k, .int .i64 f, .int .i64 t, .int .i64 v, .int .i64 a, .string q, .int .i64 u] 23)).cell? ⟨w1.heap.size, 3, none⟩ = some (.int .i64 v) := x2.cell 3; have y4 : (w2.alloc (.cells #[.int .i64 k, .int .i64 f, .int .i64 t, .int .i64 v, .int .i64 a, .string q, .int .i64 u] 23)).cell? ⟨w1.heap.size, 4, none⟩ = some (.int .i64 a) := x2.cell 4; have y5 : (w2.alloc (.cells #[.int .i64 k, .int .i64 f, .int .i64 t, .int .i64 v, .int .i64 a, .string q, .int .i64 u] 23)).cell? ⟨w1.heap.size, 5, none⟩ = some (.string q) := x2.cell 5; have y6 : (w2.alloc (.cells #[.int .i64 k, .int .i64 f, .int .i64 t, .int .i64 v, .int .i64 a, .string q, .int .i64 u] 23)).cell? ⟨w1.heap.size, 6, none⟩ = some (.int .i64 u) := x2.cell 6; have B3 := Lib.hid (show Below w.heap.size w (w2.alloc (.cells #[.int .i64 k, .int .i64 f, .int .i64 t, .int .i64 v, .int .i64 a, .string q, .int .i64 u] 23)) from B2.out.alloc B2.out.size _); clear x2 b2))
      | (go_at_call 10; go_must (refine (HA.out _ B3.out).mono ?_; rintro e7 w7 ⟨rfl, b7⟩; have K7 := Lib.hid (B3.out.trans (b7.mono B3.out.size)); clear b7))
      | fail)
    go_returns
    exact ⟨rfl, K7.out⟩

end Go.Proofs.YtiimdkamgehioaaDoor
