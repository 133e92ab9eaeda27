/-
  The walk of the program's Levels.
-/
import Derived.Test.YtcodoakfomddfaaT8
import Derived.Test.YtcodoakfomddfaaT4
import Derived.Test.YtcodoakfomddfaaW7
namespace Go.Proofs.Ytcodoakfomddfaa
open Go Go.RowKit Go.Joins
set_option linter.unusedVariables false
set_option linter.unusedSimpArgs false

theorem ix_range (N : List ByteArray) (s : ByteArray) : ix N s = -1 ∨ (0 ≤ ix N s ∧ ix N s < N.length) := by
  have := ixF_range N s 0
  unfold ix
  omega
theorem few_of {n : Nat} : ∀ {l : List Nat}, l.Nodup → (∀ k ∈ l, k < n) → l.length ≤ n := by
  induction n with
  | zero => intro l _ h; cases l with
    | nil => simp
    | cons a l => exact absurd (h a (by simp)) (by omega)
  | succ n ih =>
    intro l hd h
    have h1 := ih (hd.erase n) (fun k hk => by have := h k (List.mem_of_mem_erase hk); have := (hd.mem_erase_iff.1 hk).1; omega)
    by_cases hm : n ∈ l
    · rw [List.length_erase_of_mem hm] at h1; omega
    · rw [List.erase_of_not_mem hm] at h1; omega
theorem chF_ok {N : List ByteArray} {names : List ByteArray} {acc : List Nat} (hd : acc.Nodup) (hk : ∀ k ∈ acc, k < N.length) (h : (chF N acc names).1 = 0) : (chF N acc names).2.Nodup ∧ ∀ k ∈ (chF N acc names).2, k < N.length := by
  induction names generalizing acc with
  | nil => exact ⟨hd, hk⟩
  | cons s r ih =>
    unfold chF at h ⊢
    by_cases h1 : ix N s < 0
    · rw [if_pos h1] at h; exact absurd h (by decide)
    · rw [if_neg h1] at h ⊢
      by_cases h2 : (ix N s).toNat ∈ acc
      · rw [if_pos h2] at h; exact absurd h (by decide)
      · rw [if_neg h2] at h ⊢
        have hr := ix_range N s
        refine ih ?_ ?_ h
        · rw [List.nodup_append]
          refine ⟨hd, by simp, fun a ha b hb e => ?_⟩
          simp only [List.mem_singleton] at hb
          subst hb
          subst e
          exact h2 ha
        · intro k hkk
          rcases List.mem_append.1 hkk with h3 | h3
          · exact hk k h3
          · simp only [List.mem_singleton] at h3; omega
theorem chA_ok {N names : List ByteArray} (h : (chA N names).1 = 0) : (chA N names).2.length ≤ N.length ∧ ∀ k ∈ (chA N names).2, k < N.length := by
  unfold chA at h ⊢
  by_cases hz : names.length = 0
  · rw [if_pos hz] at h; exact absurd h (by decide)
  · rw [if_neg hz] at h ⊢
    have := chF_ok (acc := []) (by simp) (by simp) h
    exact ⟨few_of this.1 this.2, this.2⟩

/-- The first j runs as events, with these channels. -/
def leN (R : List Rn) (cs : List Nat) (j : Nat) : List Ev := (List.range j).map fun i => ⟨1, lg (R.take i), lg (R.take i) + (R.getD i (0, 0)).2, sb cs (R.getD i (0, 0)).1, 0, [], 0⟩
theorem leN_succ {R : List Rn} (cs : List Nat) {j : Nat} (hj : j < R.length) : leN R cs (j + 1) = leN R cs j ++ [⟨1, lg (R.take j), lg (R.take j) + R[j].2, sb cs R[j].1, 0, (⟨#[]⟩ : ByteArray).data.toList, 0⟩] := by
  unfold leN
  rw [List.range_succ, List.map_append]
  simp [List.getD_eq_getElem?_getD, List.getElem?_eq_getElem hj]
theorem leN_len (R : List Rn) (cs : List Nat) (j : Nat) : (leN R cs j).length = j := by simp [leN]
def leE (N : List ByteArray) (R : List Rn) (names : List ByteArray) : Int := if ckC N R = 0 then (chA N names).1 else ckC N R
def leL (N : List ByteArray) (R : List Rn) (names : List ByteArray) : List Ev := if ckC N R = 0 ∧ (chA N names).1 = 0 then leN R (chA N names).2 R.length else []
theorem lev_at {N : List ByteArray} {R : List Rn} (h : ckC N R = 0) (j : Nat) (hj : j < R.length) : 0 ≤ R[j].1 ∧ R[j].1 ≤ 65535 ∧ 1 ≤ R[j].2 ∧ 0 ≤ lg (R.take j) ∧ lg (R.take j) + R[j].2 ≤ 1099511627776 := by
  obtain ⟨h1, h2, h3, h4, h5, h6⟩ := ckC_ok h
  have hr := mk_range h4
  obtain ⟨v1, v2, v3⟩ := (vr_iff _ _ _ (by omega)).1 h6
  have a1 := v1 _ (List.getElem_mem hj)
  have a2 := v2 _ (List.getElem_mem hj)
  have a3 := lg_take_range h6 j
  have a4 := lg_take_range h6 (j + 1)
  have a5 := lg_take R j hj
  omega

set_option maxRecDepth 20000 in
set_option maxHeartbeats 4000000 in
theorem levels_any (N : List ByteArray) (R : List Rn) (names : List ByteArray) (vN vR vM : Value) (w : World) (hN : NmArg w vN N) (hs : szs N) (hR : RnArg w vR R) (hM : NmArg w vM names) (hn : R.length ≤ 8796093022208) (hm : names.length ≤ 8796093022208) :
    Calls Try.prog 9 #[.agg #[vN, vR], vM] w fun e w' => ∃ v : Value, e = .returned (.tuple #[v, .int .i64 (leE N R names)]) ∧ EvRow w' w.heap.size v (leL N R names) ∧ Below w.heap.size w w' := by
  have HN := Lib.hid (fun W (hb : Below w.heap.size w W) => hN.keep hb)
  have HM := Lib.hid (fun W (hb : Below w.heap.size w W) => hM.keep hb)
  have HRR := Lib.hid (fun W (hb : Below w.heap.size w W) => hR.keep hb)
  have hb0 := ba w (.cells #[vN, vR] 25)
  have CK := Lib.hid (check_any N R vN vR (w.alloc (.cells #[vN, vR] 25)) (HN.out _ hb0) hs (HRR.out _ hb0) hn)
  obtain ⟨nA, nc, rfl, _, _⟩ := hN.form
  obtain ⟨rA, rc, rfl, hA⟩ := hR
  have HA := Lib.hid hA
  clear hA hN hM
  have hE : leE N R names = if ckC N R = 0 then (chA N names).1 else ckC N R := rfl
  have hL : leL N R names = if ckC N R = 0 ∧ (chA N names).1 = 0 then leN R (chA N names).2 R.length else [] := rfl
  generalize leE N R names = RE at *
  generalize leL N R names = RL at *
  by_cases hck : ckC N R = 0
  case neg =>
    rw [if_neg hck] at hE
    rw [if_neg (fun h => hck h.1)] at hL
    subst hE hL
    have hne : (ckC N R == 0) = false := by simpa using hck
    generalize ckC N R = E at *
    go_enter Try.func9, Try.ntmps9
    go_wp2_with (first
      | (go_at_call 23; go_must (refine CK.out.mono ?_; rintro e1 w1 ⟨rfl, b1⟩; have h1 := box_two b1; have B1 := Lib.hid (hb0.trans (b1.mono hb0.size)))))
    go_returns
    exact ⟨_, rfl, KRow.nil _ _, B1.out⟩
  rw [if_pos hck] at hE
  have hl := fun j hj => lev_at hck j hj
  obtain ⟨k1, k2, k3, k4, k5, k6⟩ := ckC_ok hck
  have CH := Lib.hid (fun W (hb : Below w.heap.size w W) => channelsOf_any N names _ vM W (HN.out W hb) (HM.out W hb) (by omega) hm)
  have hok := chA_ok (N := N) (names := names)
  have HL := Lib.hid hl
  clear hl
  rw [hck] at CK
  by_cases hch : (chA N names).1 = 0
  case neg =>
    rw [if_neg (fun h => hch h.2)] at hL
    subst hE hL
    have hne : ((chA N names).1 == 0) = false := by simpa using hch
    clear hok HL
    generalize (chA N names).1 = E at *
    generalize (chA N names).2 = C at *
    go_enter Try.func9, Try.ntmps9
    go_wp2_with (first
      | (go_at_call 23; go_must (refine CK.out.mono ?_; rintro e1 w1 ⟨rfl, b1⟩; have h1 := box_two b1; have B1 := Lib.hid (hb0.trans (b1.mono hb0.size)); obtain ⟨c0, c1⟩ := h1))
      | (go_at_call 24; go_must (refine (CH.out _ B1.out).mono ?_; rintro e2 w2 ⟨v2, rfl, r2, b2⟩; have B2 := Lib.hid (B1.out.trans (b2.mono B1.out.size)))))
    go_returns
    exact ⟨_, rfl, KRow.nil _ _, B2.out⟩
  obtain ⟨q1, q2⟩ := hok hch
  rw [if_pos ⟨hck, hch⟩] at hL
  rw [hch] at hE CH
  subst hE
  have HLL := Lib.hid hL
  clear hL hok hck hch
  generalize (chA N names).2 = C at *
  have CS := Lib.hid (fun (L : Nat) v W hL h => selected_any L C v W hL h (by omega) (fun k hk => by have := q2 k hk; omega))
  have hsz : w.heap.size < (w.alloc (.cells #[.slice nA N.length nc, .slice rA R.length rc] 25)).heap.size := by rw [World.size_alloc]; omega
  go_enter Try.func9, Try.ntmps9
  go_wp2_with (first
    | (go_at_call 23; go_must (refine CK.out.mono ?_; rintro e1 w1 ⟨rfl, b1⟩; have h1 := box_two b1; have B1 := Lib.hid (hb0.trans (b1.mono hb0.size)); obtain ⟨c0, c1⟩ := h1))
    | (go_at_call 24; go_must (refine (CH.out _ B1.out).mono ?_; rintro e2 w2 ⟨v2, rfl, r2, b2⟩; have B2 := Lib.hid (B1.out.trans (b2.mono B1.out.size)); have c2 := (b2.cell (p := ⟨w.heap.size, 1, none⟩) (Nat.lt_of_lt_of_le hsz b1.size)).trans c1; have HC2 := Lib.hid (r2.arg chC_size))))
  go_loopw [32, 9, 10] (fun i r s wr => ∃ j : Nat, j ≤ R.length ∧ i = .int .i64 j ∧ s = .int .i64 (lg (R.take j)) ∧ Hid (EvRow wr w2.heap.size r (leN R C j)) ∧ Hid (Below w2.heap.size w2 wr)) (fun i _ _ _ => R.length - (intOf i).toNat)
  case atStart => exact ⟨0, Nat.zero_le _, rfl, rfl, Lib.hid (KRow.nil _ _), Lib.hid (Below.refl _ _)⟩
  case round =>
    obtain ⟨j, hj, rfl, rfl, HR, HB⟩ := hrel
    have hb := HB.out
    have hbw := B2.out.trans (hb.mono B2.out.size)
    have hle := hbw.size
    by_cases hjl : j < R.length
    · obtain ⟨g, o, rfl, hg, hc⟩ := HA.out (by omega)
      obtain ⟨a0, a1⟩ := arg_two hc j hjl
      have f0 := (hbw.cell (p := ⟨g, o + j * 2, none⟩) hg).trans a0
      have f1 := (hbw.cell (p := ⟨g, o + j * 2 + 1, none⟩) hg).trans a1
      clear a0 a1 hc
      obtain ⟨d1, d2, d3, d4, d5⟩ := HL.out j hjl
      have HSu := Lib.hid (leN_succ C hjl)
      have htk := Lib.hid (lg_take R j hjl)
      obtain ⟨n, hn0⟩ : ∃ n : Nat, R[j].1 = n := ⟨R[j].1.toNat, by omega⟩
      rw [hn0] at f0 HSu d1 d2
      generalize R[j].2 = D at *
      generalize lg (R.take j) = S at *
      clear hn0
      have hCw := HC2.out.keep hb
      go_wp2_with (first
        | (go_at_call 25; go_must (refine (CS.out n _ _ (by omega) (hCw.keep (ba _ _))).mono ?_; rintro e5 w5 ⟨rfl, rfl⟩))
        | (at_builtin; go_must (refine wpList_append_ev2 rfl _ _ rfl rfl rfl rfl (by simp only [World.size_alloc]) (HR.out.alloc _) (le_alloc hb.size _) (by rw [leN_len]; omega) ?_; intro v6 w6 R6 b6 n6)))
      go_roundw
      case rel => exact ⟨j + 1, by omega, val_int (by omega), val_int (by rw [htk.out]), Lib.hid (by rw [HSu.out]; exact R6), Lib.hid (hb.trans (((ba _ _).mono hb.size).trans b6))⟩
      case measure => simp [intOf]; omega
    · have he : j = R.length := by omega
      subst he
      rw [← HLL.out] at HR
      go_wp2
      go_returns
      exact ⟨_, rfl, HR.out.mono B2.out.size, hbw⟩

end Go.Proofs.Ytcodoakfomddfaa
