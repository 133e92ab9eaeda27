/-
  The specification's bit and value.
-/
import Derived.Test.YtcodoakfomddfaaT7
import Derived.Test.YtcodoakfomddfaaW7
namespace Go.Proofs.Ytcodoakfomddfaa
open Go Go.RowKit Go.Joins
set_option linter.unusedVariables false
set_option linter.unusedSimpArgs false

set_option maxRecDepth 20000 in
set_option maxHeartbeats 2000000 in
theorem refBit_any (L k : Nat) (w : World) (hL : L ≤ 65535) (hk : k ≤ 16) : Calls Try.prog 47 #[.int .i64 L, .int .i64 k] w fun e w' => e = .returned (.int .i64 (bt L k)) ∧ w = w' := by
  have hk' : (k : Int) ≤ 16 := by omega
  go_enter Try.func47, Try.ntmps47
  go_wp2
  go_loop [6, 5] (fun i x => ∃ j q : Nat, j ≤ k ∧ i = .int .i64 j ∧ x = .int .i64 q ∧ q = L / 2 ^ j) (fun i _ => k - (intOf i).toNat)
  case atStart => exact ⟨0, L, Nat.zero_le _, rfl, rfl, by simp⟩
  case round =>
    obtain ⟨j, q, hj, rfl, rfl, hq⟩ := hrel
    have hq1 : q ≤ 65535 := by rw [hq]; exact Nat.le_trans (Nat.div_le_self _ _) hL
    by_cases hjk : j < k
    · have hq2 : L / 2 ^ (j + 1) = q / 2 := by rw [hq, Nat.pow_succ, Nat.div_div_eq_div_mul]
      clear hq
      have ht : (q : Int).tdiv 2 = ((q / 2 : Nat) : Int) := rfl
      go_wp2
      go_round
      case rel => exact ⟨j + 1, q / 2, by omega, val_int (by omega), val_int (by omega), hq2.symm⟩
      case measure => simp [intOf]; omega
    · have : j = k := by omega
      subst this
      have hb : bt L j = ((q % 2 : Nat) : Int) := by rw [bt_nat, hq]
      have ht : (q : Int).tmod 2 = ((q % 2 : Nat) : Int) := rfl
      have HBT := Lib.hid hb
      clear hq hb
      go_wp2
      go_returns
      exact ⟨ret_int (by rw [HBT.out]; omega), rfl⟩


/-- The places of names. -/
def plN (N names : List ByteArray) : List Nat := names.map fun s => (ix N s).toNat
theorem held_val {w W0 W W' : World} {vN : Value} {g o j : Nat} {s : ByteArray} (h : W.cell? ⟨w.heap.size, 0, none⟩ = some vN ∧ W.cell? ⟨g, o + j, none⟩ = some (.string s) ∧ Below W0.heap.size W0 W ∧ w.heap.size < W.heap.size ∧ g < W.heap.size) (hb : Below W.heap.size W W') : W'.cell? ⟨w.heap.size, 0, none⟩ = some vN ∧ W'.cell? ⟨g, o + j, none⟩ = some (.string s) ∧ Below W0.heap.size W0 W' ∧ w.heap.size < W'.heap.size ∧ g < W'.heap.size := by
  obtain ⟨a, b, B, l1, l2⟩ := h
  have hs := hb.size
  exact ⟨(hb.cell (p := ⟨w.heap.size, 0, none⟩) l1).trans a, (hb.cell (p := ⟨g, o + j, none⟩) l2).trans b, B.trans (hb.mono B.size), by omega, by omega⟩

theorem held_valB {w W0 W : World} {vN : Value} {g o j : Nat} {s : ByteArray} (h : W.cell? ⟨w.heap.size, 0, none⟩ = some vN ∧ W.cell? ⟨g, o + j, none⟩ = some (.string s) ∧ Below W0.heap.size W0 W ∧ w.heap.size < W.heap.size ∧ g < W.heap.size) : Below W0.heap.size W0 W := h.2.2.1

set_option maxRecDepth 20000 in
set_option maxHeartbeats 4000000 in
theorem refValue_any (L : Nat) (N names : List ByteArray) (vN vR vM : Value) (w : World) (hL : L ≤ 65535) (hN : NmArg w vN N) (hR : vR.oneCell' = true) (hM : NmArg w vM names) (hn : N.length ≤ 16) (hm : names.length ≤ 16) (hp : ∀ s ∈ names, 0 ≤ ix N s ∧ ix N s < 16) :
    Calls Try.prog 28 #[.int .i64 L, .agg #[vN, vR], vM] w fun e w' => e = .returned (.int .i64 (sb (plN N names) L)) ∧ Below w.heap.size w w' := by
  have hb0 := ba w (.cells #[vN, vR] 25)
  have HN := Lib.hid (fun W (hb : Below w.heap.size w W) => hN.keep hb)
  have CP := Lib.hid (fun s W (hb : Below w.heap.size w W) => refPlace_any N vN s W (hN.keep hb) (by omega))
  have CB := Lib.hid (fun k W (h : k ≤ 16) => refBit_any L k W hL h)
  obtain ⟨A, c, rfl, hc, hA⟩ := hM.form
  have HA := Lib.hid hA
  have HP := Lib.hid hp
  obtain ⟨nA, nc, rfl, _, _⟩ := hN.form
  clear hA hM hN hc hp
  have hlen : (plN N names).length = names.length := by simp [plN]
  have hbx := RowAt.new w 25 #[.slice nA N.length nc, vR]
  have c0 := hbx.cell 0
  have c1 := hbx.cell 1
  have hsz : w.heap.size < (w.alloc (.cells #[.slice nA N.length nc, vR] 25)).heap.size := by rw [World.size_alloc]; omega
  go_enter Try.func28, Try.ntmps28
  go_wp2
  generalize w.alloc (.cells #[.slice nA N.length nc, vR] 25) = W0 at *
  go_loopw [9, 7, 8] (fun i x y wr => ∃ (j P : Nat), j ≤ names.length ∧ i = .int .i64 j ∧ x = .int .i64 (sb ((plN N names).take j) L) ∧ y = .int .i64 P ∧ P = 2 ^ j ∧ Hid (Below W0.heap.size W0 wr)) (fun i _ _ _ => names.length - (intOf i).toNat)
  case atStart => exact ⟨0, 1, Nat.zero_le _, rfl, rfl, rfl, rfl, Lib.hid (Below.refl _ _)⟩
  case round =>
    obtain ⟨j, P, hj, rfl, rfl, rfl, hP, HB⟩ := hrel
    have hb := HB.out
    have hbw := hb0.trans (hb.mono hb0.size)
    by_cases hjl : j < names.length
    · obtain ⟨g, o, rfl, hg, hcell⟩ := HA.out (by omega)
      have f0 := (hbw.cell (p := ⟨g, o + j, none⟩) hg).trans (hcell j hjl)
      have hpj := HP.out _ (List.getElem_mem hjl)
      have HS := sb_take (plN N names) j (by omega) L
      have hr := sb_range ((plN N names).take j) L
      have hpl : (plN N names)[j]'(by omega) = (ix N names[j]).toNat := by simp [plN]
      rw [hpl] at HS
      rw [List.length_take, Nat.min_eq_left (by omega)] at hr
      have hP2 : P ≤ 32768 := by rw [hP]; exact Nat.pow_le_pow_right (by omega) (show j ≤ 15 by omega)
      have e2 : (2 : Int) ^ j = (P : Int) := by rw [hP]; simp
      rw [e2] at HS hr
      have hP3 : P * 2 = 2 ^ (j + 1) := by rw [hP, Nat.pow_succ]
      have CPq := Lib.hid (CP.out names[j])
      clear hcell hpl hP
      generalize names[j] = s at *
      obtain ⟨k, hk⟩ : ∃ k : Nat, ix N s = k := ⟨(ix N s).toNat, by omega⟩
      rw [hk] at CPq HS hpj
      simp only [Int.toNat_natCast] at HS
      have CBq := Lib.hid (CB.out k)
      have hk2 : k ≤ 16 := by omega
      have hlt : g < wr.heap.size := Nat.lt_of_lt_of_le hg hbw.size
      have hlt0 : w.heap.size < wr.heap.size := Nat.lt_of_lt_of_le hsz hb.size
      have d0 := (hb.cell (p := ⟨w.heap.size, 0, none⟩) hsz).trans c0
      have hs : Hid (wr.cell? ⟨w.heap.size, 0, none⟩ = some (.slice nA N.length nc) ∧ wr.cell? ⟨g, o + j, none⟩ = some (.string s) ∧ Below W0.heap.size W0 wr ∧ w.heap.size < wr.heap.size ∧ g < wr.heap.size) := Lib.hid ⟨d0, f0, hb, hlt0, hlt⟩
      have hb1 := bt_01 (L : Int) k
      generalize bt (L : Int) k = Bv at *
      generalize sb ((plN N names).take j) L = V at *
      have HSS := Lib.hid HS
      have HB0 := Lib.hid hb0
      clear HS d0 f0 hk hb hbw c0 c1 hbx
      rcases hb1 with rfl | rfl
      all_goals
        go_wp2
        go_region_held3 (fun w' => w'.cell? ⟨w.heap.size, 0, none⟩ = some (.slice nA N.length nc) ∧ w'.cell? ⟨g, o + j, none⟩ = some (.string s) ∧ Below W0.heap.size W0 w' ∧ w.heap.size < w'.heap.size ∧ g < w'.heap.size) (first | assumption | exact held_val hs.out (Below.refl _ _).drew | exact held_val (by assumption) (Below.refl _ _).drew | fail)
          (first
            | (go_at_call 27; refine (CPq.out _ (HB0.out.trans ((held_valB (w := w) (W0 := W0) (g := g) (o := o) (j := j) (s := s) (vN := .slice nA N.length nc) (by assumption)).mono HB0.out.size))).mono ?_; rintro e5 w5 ⟨rfl, rfl⟩)
            | (go_at_call 47; refine (CBq.out _ hk2).mono ?_; rintro e6 w6 ⟨rfl, rfl⟩))
        rename_i hS9
        have hB9 := Lib.hid hS9.2.2.1
        clear hS9
        go_wp2
        go_roundw
        case rel => exact ⟨j + 1, P * 2, by omega, val_int (by omega), val_int (by rw [HSS.out]; simp only [IntKind.wrap_i64]; omega), val_int (by omega), hP3, hB9⟩
        case measure => simp [intOf]; omega
    · have he : (plN N names).take j = plN N names := List.take_of_length_le (by omega)
      rw [he]
      go_wp2
      go_returns
      exact ⟨rfl, hbw⟩

end Go.Proofs.Ytcodoakfomddfaa
