/-
  The walk of the statements' helper mixed.
-/
import Derived.Test.YtljbhbpddokelaaDoorW14
import Derived.BigQuiet
namespace Go.Proofs.YtljbhbpddokelaaDoor
open Go.RowKit
set_option linter.unusedVariables false
set_option linter.unusedSimpArgs false

/-- The exclusive or of three characters, and of three sequences. -/
def mc (x y z : UInt8) : UInt8 := if ((x == 49) != (y == 49)) != (z == 49) then 49 else 48
def mx (a b c : List UInt8) : List UInt8 := (List.range a.length).map fun i => mc (a.getD i 0) (b.getD i 0) (c.getD i 0)
theorem mx_length (a b c : List UInt8) : (mx a b c).length = a.length := by simp [mx]
theorem getD_s (s : ByteArray) (k : Nat) (h : k < s.size) : s.data.toList.getD k 0 = s[k] := by
  rw [List.getD_eq_getElem?_getD, List.getElem?_eq_getElem (by simpa using h)]; rfl
theorem mx_take (a b c : ByteArray) (k : Nat) (ha : k < a.size) (hb : k < b.size) (hc : k < c.size) : (mx a.data.toList b.data.toList c.data.toList).take (k + 1) = (mx a.data.toList b.data.toList c.data.toList).take k ++ [mc a[k] b[k] c[k]] := by
  have hl : k < (mx a.data.toList b.data.toList c.data.toList).length := by rw [mx_length]; simpa using ha
  rw [List.take_succ_eq_append_getElem hl]
  congr 1
  simp only [mx, List.getElem_map, List.getElem_range, getD_s a k ha, getD_s b k hb, getD_s c k hc]
theorem mx_bits (a b c : List UInt8) : ∀ x ∈ mx a b c, x.toNat = 48 ∨ x.toNat = 49 := by
  intro x hx
  simp only [mx, List.mem_map] at hx
  obtain ⟨i, _, rfl⟩ := hx
  unfold mc; split
  · exact .inr rfl
  · exact .inl rfl
theorem bit_two {x : UInt8} (h : x.toNat = 48 ∨ x.toNat = 49) : x = 48 ∨ x = 49 := h.imp (fun h => UInt8.toNat_inj.1 h) (fun h => UInt8.toNat_inj.1 h)
theorem byte_is {x : UInt8} {n : Nat} (h : x.toNat = n) : x = UInt8.ofNat n := by rw [← h]; simp
theorem bs_mx {a b c : List UInt8} (hab : a.length = b.length) (hac : a.length = c.length) (ha : ∀ x ∈ a, x.toNat = 48 ∨ x.toNat = 49) (hb : ∀ x ∈ b, x.toNat = 48 ∨ x.toNat = 49) (hc : ∀ x ∈ c, x.toNat = 48 ∨ x.toNat = 49) : bs (mx a b c) = zx (zx (bs a) (bs b)) (bs c) := by
  apply List.ext_getElem
  · simp [bs, mx, zx, ← hab, ← hac]
  · intro i h1 h2
    have h0 : i < a.length := by simpa [bs, mx] using h1
    have ga : a.getD i 0 = a[i] := by rw [List.getD_eq_getElem?_getD, List.getElem?_eq_getElem h0]; rfl
    have gb : b.getD i 0 = b[i]'(by omega) := by rw [List.getD_eq_getElem?_getD, List.getElem?_eq_getElem (by omega)]; rfl
    have gc : c.getD i 0 = c[i]'(by omega) := by rw [List.getD_eq_getElem?_getD, List.getElem?_eq_getElem (by omega)]; rfl
    simp only [bs, mx, zx, List.getElem_map, List.getElem_range, List.getElem_zipWith, ga, gb, gc]
    rcases bit_two (ha _ (List.getElem_mem h0)) with e1 | e1 <;> rcases bit_two (hb _ (List.getElem_mem (by omega : i < b.length))) with e2 | e2 <;> rcases bit_two (hc _ (List.getElem_mem (by omega : i < c.length))) with e3 | e3 <;> rw [e1, e2, e3] <;> rfl

set_option maxRecDepth 20000 in
set_option maxHeartbeats 2000000 in
theorem mixed_any (a b c : ByteArray) (w : World) (ha : a.size ≤ 200) (hab : b.size = a.size) (hac : c.size = a.size) (ba : ob a.data.toList = true) (bb : ob b.data.toList = true) (bc : ob c.data.toList = true) :
    Calls Tryd.prog 31 #[.string a, .string b, .string c] w fun e w' => e = .returned (.string ⟨(mx a.data.toList b.data.toList c.data.toList).toArray⟩) ∧ Below w.heap.size w w' := by
  have ha' : (a.size : Int) ≤ 200 := by omega
  have hbs : (b.size : Int) = a.size := by omega
  have hcs : (c.size : Int) = a.size := by omega
  have HA := Lib.hid (fun j hj => ob_at ba j hj)
  have HB := Lib.hid (fun j hj => ob_at bb j hj)
  have HC := Lib.hid (fun j hj => ob_at bc j hj)
  have HS := Lib.hid (fun k h1 h2 h3 => mx_take a b c k h1 h2 h3)
  have HL := Lib.hid (show (mx a.data.toList b.data.toList c.data.toList).take a.size = mx a.data.toList b.data.toList c.data.toList from List.take_of_length_le (by rw [mx_length, ← size_len]; exact Nat.le_refl _))
  clear ba bb bc
  go_enter Tryd.func31, Tryd.ntmps31
  go_wp2
  go_loopw [8, 7] (fun x y wr => ∃ (k : Nat) (T : ByteArray), k ≤ a.size ∧ x = .int .i64 k ∧ y = .string T ∧ T.size = k ∧ Hid (T.data.toList = (mx a.data.toList b.data.toList c.data.toList).take k) ∧ Below w.heap.size w wr) (fun x _ _ => a.size - (intOf x).toNat)
  case atStart => exact ⟨0, ⟨#[]⟩, by omega, rfl, rfl, rfl, by rw [List.take_zero]; exact rfl, Below.refl _ _⟩
  case round =>
    obtain ⟨k, T, hk, rfl, rfl, hT, HT, hb⟩ := hrel
    by_cases he : k = a.size
    · subst he
      go_wp2
      go_returns
      exact ⟨by rw [← HL.out, ← HT.out, bytes_of]; rfl, hb⟩
    · have hlt : k < a.size := by omega
      have hlb : k < b.size := by omega
      have hlc : k < c.size := by omega
      have hz : ¬ 9223372036854775807 < T.size + 1 := by omega
      have hs1 := HS.out k hlt hlb hlc
      rw [← HT.out] at hs1
      have i1 : (k : Int) < (a.size : Int) := by omega
      have i2 : (k : Int) < (b.size : Int) := by omega
      have i3 : (k : Int) < (c.size : Int) := by omega
      have xa := HA.out k hlt
      have xb := HB.out k hlb
      have xc := HC.out k hlc
      clear HS HA HB HC HL HT
      rcases xa with xa | xa <;> rcases xb with xb | xb <;> rcases xc with xc | xc
      all_goals
        rw [byte_is xa, byte_is xb, byte_is xc] at hs1
        have H1 := Lib.hid hs1
        clear hs1
        go_wp2
        go_quiet (fail)
        go_wp2
        go_roundw
        case rel => exact ⟨k + 1, _, by omega, by go_num, rfl, by rw [app_size, hT]; rfl, by rw [H1.out, app_list]; exact rfl, below_drewN hb _⟩
        case measure => simp [intOf]; omega

end Go.Proofs.YtljbhbpddokelaaDoor
