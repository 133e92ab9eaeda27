/-
  The walks of the statements' helpers: zeros, sound, flip, mixed.
-/
import Derived.Test.YtljbhbpddokelaaDoorW9
namespace Go.Proofs.YtljbhbpddokelaaDoor
open Go.RowKit
set_option linter.unusedVariables false
set_option linter.unusedSimpArgs false

theorem app_list (a b : ByteArray) : (a ++ b).data.toList = a.data.toList ++ b.data.toList := by
  show (ByteArray.append a b).data.toList = _
  simp [ByteArray.append, ByteArray.data_append] <;> rfl

theorem app_size (a b : ByteArray) : (a ++ b).size = a.size + b.size := by
  rw [size_len, app_list, List.length_append, ← size_len, ← size_len]

def zs (n : Nat) : List UInt8 := List.replicate n 48
theorem zs_succ (n : Nat) : zs (n + 1) = zs n ++ [48] := by simp [zs, List.replicate_succ']

set_option maxHeartbeats 1000000 in
theorem zeros_any (n : Nat) (w : World) (hn : n ≤ 65536) :
    Calls Tryd.prog 28 #[.int .i64 n] w fun e w' => e = .returned (.string ⟨(zs n).toArray⟩) ∧ w = w' := by
  go_enter Tryd.func28, Tryd.ntmps28
  go_wp2
  go_loop [4, 3] (fun x y => ∃ (k : Nat) (T : ByteArray), k ≤ n ∧ x = .int .i64 k ∧ y = .string T ∧ T.size = k ∧ Hid (T.data.toList = zs k)) (fun x _ => n - (intOf x).toNat)
  case atStart => exact ⟨0, ⟨#[]⟩, by omega, rfl, rfl, rfl, rfl⟩
  case round =>
    obtain ⟨k, T, hk, rfl, rfl, hT, HT⟩ := hrel
    by_cases he : k = n
    · subst he
      go_wp2
      go_returns
      exact ⟨by rw [← HT.out, bytes_of]; rfl, rfl⟩
    · have hlt : k < n := by omega
      have hz : ¬ 9223372036854775807 < T.size + 1 := by omega
      go_wp2
      go_round
      case rel => exact ⟨k + 1, _, by omega, by go_num, rfl, by rw [app_size, hT]; rfl, by rw [app_list, HT.out, zs_succ]; exact rfl⟩
      case measure => simp [intOf]; omega

set_option maxHeartbeats 1000000 in
theorem sound_any (s : ByteArray) (w : World) (hs : s.size ≤ 140737488355328) :
    Calls Tryd.prog 29 #[.string s] w fun e w' => e = .returned (.bool (ob s.data.toList)) ∧ w = w' := by
  have hs' : (s.size : Int) ≤ 140737488355328 := by omega
  have HBad := Lib.hid (@ob_bad s)
  have HAll := Lib.hid (@ob_all s)
  go_enter Tryd.func29, Tryd.ntmps29
  go_wp2
  go_loop [3] (fun x => ∃ k : Nat, k ≤ s.size ∧ x = .int .i64 k ∧ Hid (∀ j (hj : j < s.size), j < k → s[j].toNat = 48 ∨ s[j].toNat = 49)) (fun x => s.size - (intOf x).toNat)
  case atStart => exact ⟨0, by omega, rfl, fun j hj h => by omega⟩
  case round =>
    obtain ⟨k, hk, rfl, HC⟩ := hrel
    by_cases he : k = s.size
    · have HT := Lib.hid (HAll.out fun j hj => HC.out j hj (by omega))
      go_wp2
      go_returns
      exact ⟨ret_bool HT.out.symm, rfl⟩
    · have hlt : k < s.size := by omega
      go_wp2
      all_goals first
        | (go_returns
           exact ⟨ret_bool (HBad.out k hlt (by (first | omega | (simp only [beq_iff_eq, beq_eq_false_iff_ne, bne_iff_ne, ne_eq, bne_eq_false_iff_eq] at *; omega))) (by (first | omega | (simp only [beq_iff_eq, beq_eq_false_iff_ne, bne_iff_ne, ne_eq, bne_eq_false_iff_eq] at *; omega)))).symm, rfl⟩)
        | (have hb : s[k].toNat = 48 ∨ s[k].toNat = 49 := by (first | omega | (simp only [beq_iff_eq, beq_eq_false_iff_ne, bne_iff_ne, ne_eq, bne_eq_false_iff_eq] at *; omega))
           go_round
           case rel => exact ⟨k + 1, by omega, by go_num, fun j hj hjk => by
             rcases Nat.lt_or_ge j k with h | h
             · exact HC.out j hj h
             · obtain rfl : j = k := by omega
               exact hb⟩
           case measure => simp [intOf]; omega)

/-- Is bit j of the sequence inverted? -/
def hit (a b W j : Nat) : Bool := decide (a ≤ j ∧ j - a < W) && decide (b / 2 ^ (j - a) % 2 = 1)
def flc (a b W : Nat) (j : Nat) (c : UInt8) : UInt8 := if hit a b W j = true then (if c = 48 then 49 else 48) else c
def fl (a b W : Nat) (l : List UInt8) : List UInt8 := l.mapIdx (flc a b W)
def hits (a b W k : Nat) : Bool := (List.range k).any (hit a b W)
theorem fl_length (a b W : Nat) (l : List UInt8) : (fl a b W l).length = l.length := by simp [fl]
theorem fl_take (a b W : Nat) (s : ByteArray) (k : Nat) (h : k < s.size) : (fl a b W s.data.toList).take (k + 1) = (fl a b W s.data.toList).take k ++ [flc a b W k s[k]] := by
  have hl : k < (fl a b W s.data.toList).length := by rw [fl_length]; simpa using h
  rw [List.take_succ_eq_append_getElem hl]
  congr 1
  simp only [fl, List.getElem_mapIdx]
  rfl
theorem hits_succ (a b W k : Nat) : hits a b W (k + 1) = (hits a b W k || hit a b W k) := by
  simp [hits, List.range_succ, List.any_append]
theorem hit_before {a b W j : Nat} (h : j < a) : hit a b W j = false := by
  unfold hit; rw [decide_eq_false (by omega)]; rfl
theorem hits_start (a b W : Nat) : hits a b W a = false := by
  unfold hits
  rw [List.any_eq_false]
  intro j hj
  rw [hit_before (List.mem_range.1 hj)]; simp
theorem fl_start (a b W : Nat) (l : List UInt8) : (fl a b W l).take a = l.take a := by
  apply List.ext_getElem?
  intro i
  rw [List.getElem?_take, List.getElem?_take]
  split
  · rename_i h
    simp only [fl, List.getElem?_mapIdx]
    cases l[i]? with
    | none => rfl
    | some c => simp [flc, hit_before h]
  · rfl
theorem fl_same {a b W : Nat} {l : List UInt8} (j : Nat) (h1 : j < l.length) (h2 : j < (fl a b W l).length) (h : j < a ∨ a + W ≤ j) : l[j] = (fl a b W l)[j] := by
  simp only [fl, List.getElem_mapIdx]
  have : hit a b W j = false := by unfold hit; rw [decide_eq_false (by omega)]; rfl
  simp [flc, this]
theorem fl_bits {a b W : Nat} {l : List UInt8} (h : ∀ x ∈ l, x.toNat = 48 ∨ x.toNat = 49) : ∀ x ∈ fl a b W l, x.toNat = 48 ∨ x.toNat = 49 := by
  intro x hx
  obtain ⟨j, hj, rfl⟩ := List.getElem_of_mem hx
  simp only [fl, List.getElem_mapIdx, flc]
  split
  · split
    · exact .inr rfl
    · exact .inl rfl
  · exact h _ (List.getElem_mem _)
theorem fl_none {a b W : Nat} {l : List UInt8} (h : hits a b W l.length = false) : fl a b W l = l := by
  apply List.ext_getElem (fl_length _ _ _ _)
  intro j h1 h2
  unfold hits at h
  rw [List.any_eq_false] at h
  have := h j (List.mem_range.2 h2)
  simp only [fl, List.getElem_mapIdx, flc]
  rw [if_neg this]
theorem fl_some {a b W : Nat} {l : List UInt8} (hb : ∀ x ∈ l, x.toNat = 48 ∨ x.toNat = 49) (h : hits a b W l.length = true) : l ≠ fl a b W l := by
  intro e
  unfold hits at h
  rw [List.any_eq_true] at h
  obtain ⟨j, hj, hh⟩ := h
  have hj := List.mem_range.1 hj
  have e1 : l[j] = (fl a b W l)[j]'(by rw [fl_length]; exact hj) := by congr 1
  simp only [fl, List.getElem_mapIdx, flc] at e1
  rw [if_pos hh] at e1
  split at e1
  · rename_i h0; rw [h0] at e1; exact absurd e1 (by decide)
  · rename_i h0; exact h0 e1

theorem extract_one (s : ByteArray) (k : Nat) (h : k < s.size) : (s.extract k (k + 1)).data.toList = [s[k]] := by
  rw [Lib.extract_data, Nat.add_sub_cancel_left, List.drop_eq_getElem_cons (by simpa using h)]
  rfl
theorem extract_take (s : ByteArray) (k : Nat) (h : k ≤ s.size) : (s.extract 0 k).data.toList = s.data.toList.take k := by
  rw [Lib.extract_data]; simp

set_option maxRecDepth 20000 in
set_option maxHeartbeats 1000000 in
theorem flip_any (s : ByteArray) (a b W : Nat) (w : World) (hs : s.size ≤ 140737488351232) (ha : a ≤ s.size) (hW : W ≤ 32) (hb : b ≤ 9223372036854775807) :
    Calls Tryd.prog 30 #[.string s, .int .i64 a, .int .i64 b, .int .i64 W] w fun e w' => e = .returned (.tuple #[.string ⟨(fl a b W s.data.toList).toArray⟩, .bool (hits a b W s.size)]) ∧ w = w' := by
  have hs' : (s.size : Int) ≤ 140737488351232 := by omega
  have HA := Lib.hid (extract_take s a ha)
  have HX := Lib.hid (extract_one s)
  have HS := Lib.hid (fl_take a b W s)
  have HB := Lib.hid (fl_start a b W s.data.toList)
  have HL := Lib.hid (show (fl a b W s.data.toList).take s.size = fl a b W s.data.toList from List.take_of_length_le (by rw [fl_length, ← size_len]; exact Nat.le_refl _))
  go_enter Tryd.func30, Tryd.ntmps30
  go_wp2
  go_loop [12, 10, 11] (fun x y z => ∃ (k : Nat) (T : ByteArray) (A : Bool), k ≤ s.size ∧ a ≤ k ∧ x = .int .i64 k ∧ y = .string T ∧ z = .bool A ∧ T.size = k ∧ Hid (T.data.toList = (fl a b W s.data.toList).take k) ∧ Hid (A = hits a b W k)) (fun x _ _ => s.size - (intOf x).toNat)
  case atStart => exact ⟨a, _, false, ha, Nat.le_refl _, rfl, rfl, rfl, by rw [size_len, HA.out, List.length_take]; simp; omega, by rw [HA.out, HB.out]; exact rfl, (hits_start a b W).symm⟩
  case round =>
    obtain ⟨k, T, A, hk, hak, rfl, rfl, rfl, hT, HT, HH⟩ := hrel
    by_cases he : k = s.size
    · subst he
      go_wp2
      go_returns
      exact ⟨by rw [← HL.out, ← HT.out, bytes_of, ← HH.out]; rfl, rfl⟩
    · have hlt : k < s.size := by omega
      obtain ⟨j, rfl⟩ : ∃ j, k = a + j := ⟨k - a, by omega⟩
      have hz : ¬ 9223372036854775807 < T.size + 1 := by omega
      have HSk := HS.out (a + j) hlt
      rw [← HT.out] at HSk
      have HHk := hits_succ a b W (a + j)
      rw [← HH.out] at HHk
      have HXk := Lib.hid (HX.out (a + j) hlt)
      clear HS HX HA HB HL HT HH
      have hq : ((b : Int) / 2 ^ j).tmod 2 = ((b / 2 ^ j % 2 : Nat) : Int) := by
        have e : (b : Int) / 2 ^ j = ((b / 2 ^ j : Nat) : Int) := by simp
        rw [e, Int.tmod_eq_emod_of_nonneg (by exact Int.natCast_nonneg _)]
        omega
      have hdef : hit a b W (a + j) = (decide (j < W) && decide (b / 2 ^ j % 2 = 1)) := by
        unfold hit; rw [Nat.add_sub_cancel_left, show decide (a ≤ a + j ∧ j < W) = decide (j < W) by simp]
      by_cases hjW : j < W
      · obtain ⟨Q, hQ⟩ : ∃ Q, b / 2 ^ j % 2 = Q := ⟨_, rfl⟩
        rw [hQ] at hq hdef
        by_cases hb1 : Q = 1
        · have hh : hit a b W (a + j) = true := by rw [hdef, decide_eq_true hjW, decide_eq_true hb1]; rfl
          rw [hh, Bool.or_true] at HHk
          subst hb1
          by_cases h48 : s[a + j].toNat = 48
          · have hc : flc a b W (a + j) s[a + j] = 49 := by unfold flc; rw [if_pos hh, if_pos (UInt8.toNat_inj.1 h48)]
            rw [hc] at HSk
            have H1 := Lib.hid HSk; have H2 := Lib.hid HHk
            clear HSk HHk hh hc hdef hQ
            go_wp2
            go_round
            case rel => exact ⟨a + j + 1, _, true, by omega, by omega, by go_num, rfl, rfl, by rw [app_size, hT]; rfl, by rw [H1.out, app_list]; exact rfl, H2.out.symm⟩
            case measure => simp [intOf]; omega
          · have hc : flc a b W (a + j) s[a + j] = 48 := by unfold flc; rw [if_pos hh, if_neg (fun e => h48 (by rw [e]; rfl))]
            rw [hc] at HSk
            have H1 := Lib.hid HSk; have H2 := Lib.hid HHk
            clear HSk HHk hh hc hdef hQ
            go_wp2
            go_round
            case rel => exact ⟨a + j + 1, _, true, by omega, by omega, by go_num, rfl, rfl, by rw [app_size, hT]; rfl, by rw [H1.out, app_list]; exact rfl, H2.out.symm⟩
            case measure => simp [intOf]; omega
        · have hh : hit a b W (a + j) = false := by rw [hdef, decide_eq_false hb1, Bool.and_false]
          have hc : flc a b W (a + j) s[a + j] = s[a + j] := by unfold flc; rw [if_neg (by rw [hh]; simp)]
          rw [hh, Bool.or_false] at HHk
          rw [hc, ← HXk.out] at HSk
          have H1 := Lib.hid HSk; have H2 := Lib.hid HHk
          have hb0 : Q = 0 := by omega
          subst hb0
          clear HSk HHk hh hc hdef hQ
          have hz1 : (s.extract (a + j) (a + j + 1)).size = 1 := by rw [size_len, HXk.out]; rfl
          have hz2 : ¬ 9223372036854775807 < T.size + (s.extract (a + j) (a + j + 1)).size := by omega
          go_wp2
          go_round
          case rel => exact ⟨a + j + 1, _, A, by omega, by omega, by go_num, rfl, rfl, by rw [app_size, hT, hz1], by rw [H1.out, app_list]; exact rfl, H2.out.symm⟩
          case measure => simp [intOf]; omega
      · have hh : hit a b W (a + j) = false := by rw [hdef, decide_eq_false hjW]; rfl
        have hc : flc a b W (a + j) s[a + j] = s[a + j] := by unfold flc; rw [if_neg (by rw [hh]; simp)]
        rw [hh, Bool.or_false] at HHk
        rw [hc, ← HXk.out] at HSk
        have H1 := Lib.hid HSk; have H2 := Lib.hid HHk
        clear HSk HHk hh hc hdef hq
        have hz1 : (s.extract (a + j) (a + j + 1)).size = 1 := by rw [size_len, HXk.out]; rfl
        have hz2 : ¬ 9223372036854775807 < T.size + (s.extract (a + j) (a + j + 1)).size := by omega
        go_wp2
        go_round
        case rel => exact ⟨a + j + 1, _, A, by omega, by omega, by go_num, rfl, rfl, by rw [app_size, hT, hz1], by rw [H1.out, app_list]; exact rfl, H2.out.symm⟩
        case measure => simp [intOf]; omega

end Go.Proofs.YtljbhbpddokelaaDoor
