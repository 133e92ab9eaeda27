/-
  The numbers of named channels: the program's channelsOf.
-/
import Derived.Test.YtcodoakfomddfaaT7
namespace Go.Proofs.Ytcodoakfomddfaa
open Go Go.RowKit Go.Joins
set_option linter.unusedVariables false
set_option linter.unusedSimpArgs false

theorem int_info : (Try.prog.info? 3).map (fun i => (i.zero, i.size, i.bytes)) = some (some (.int .i64 0), 1, 8) := by kernel_rfl
theorem wpList_append_ch {w : World} {ops : Array Oper} {rest : List Oper} {o : Oper} {a : Act} {Q : Exit → Act → World → Prop} (hgd : o.guard = none) (s x : Operand)
    (ho : o.op = .call { callee := .builtin .append, args := #[s, x], argTypes := #[35, 35] })
    {B c : Nat} {v : Value} {l : List Nat} {g : Nat} {X : Nat} {ya : Array Value} (hya : ya = #[.int .i64 X]) (hs : a.eval s = v) (hx : a.eval x = .slice (some ⟨g, 0, none⟩) 1 c) (hg : g = w.heap.size) (hf : ChRow w B v l) (hB : B ≤ w.heap.size) (hn : l.length ≤ 8796093022208)
    (h : ∀ v' w', ChRow w' B v' (l ++ [X]) → Below B w w' → wpList Try.prog ops Q rest (a.put o.dst v') w') : wpList Try.prog ops Q (o :: rest) a (w.alloc (.cells ya 3)) :=
  wpList_append_k (P := Try.prog) Try.underlying35 int_info rfl (by omega) chC_size hgd s x ho X hya hs hx hg hf hB (by subst hya; rfl) (by omega) (by omega) h

/-- The channels of names, or the error. -/
def chF (N : List ByteArray) : List Nat → List ByteArray → Int × List Nat
  | acc, [] => (0, acc)
  | acc, s :: r => if ix N s < 0 then (8, []) else if (ix N s).toNat ∈ acc then (9, []) else chF N (acc ++ [(ix N s).toNat]) r
def chA (N names : List ByteArray) : Int × List Nat := if names.length = 0 then (1, []) else chF N [] names
theorem chF_at {N names : List ByteArray} {acc : List Nat} {j : Nat} (hj : j < names.length) : chF N acc (names.drop j) = if ix N names[j] < 0 then (8, []) else if (ix N names[j]).toNat ∈ acc then (9, []) else chF N (acc ++ [(ix N names[j]).toNat]) (names.drop (j + 1)) := by
  rw [List.drop_eq_getElem_cons hj]
  rfl

set_option maxRecDepth 20000 in
set_option maxHeartbeats 4000000 in
theorem channelsOf_any (N names : List ByteArray) (vN vM : Value) (w : World) (hN : NmArg w vN N) (hM : NmArg w vM names) (hn : N.length ≤ 8796093022208) (hm : names.length ≤ 8796093022208) : Calls Try.prog 24 #[vN, vM] w fun e w' => ∃ v : Value, e = .returned (.tuple #[v, .int .i64 (chA N names).1]) ∧ ChRow w' w.heap.size v (chA N names).2 ∧ Below w.heap.size w w' := by
  have CI := Lib.hid (fun s W h => index_any N vN s W h hn)
  have HN := Lib.hid hN
  obtain ⟨A, c, rfl, hc, hA⟩ := hM.form
  have HA := Lib.hid hA
  clear hA hN hM hc
  have hAE : chA N names = if names.length = 0 then (1, []) else chF N [] names := rfl
  generalize chA N names = R at *
  by_cases hz : names.length = 0
  · rw [if_pos hz] at hAE
    subst hAE
    have hz' : ((names.length : Int) == 0) = true := by simpa using hz
    go_enter Try.func24, Try.ntmps24
    go_wp2
    go_returns
    exact ⟨_, rfl, KRow.nil _ _, Below.refl _ _⟩
  rw [if_neg hz] at hAE
  have hz' : ((names.length : Int) == 0) = false := by simpa using hz
  have HE := Lib.hid hAE
  clear hAE
  go_enter Try.func24, Try.ntmps24
  go_wp2
  go_loopw [15, 6] (fun i r wr => ∃ (j : Nat) (acc : List Nat), j ≤ names.length ∧ acc.length = j ∧ i = .int .i64 j ∧ Hid (R = chF N acc (names.drop j)) ∧ Hid (ChRow wr w.heap.size r acc) ∧ Hid (Below w.heap.size w wr)) (fun i _ _ => names.length - (intOf i).toNat)
  case atStart => exact ⟨0, [], Nat.zero_le _, rfl, rfl, HE, Lib.hid (KRow.nil _ _), Lib.hid (Below.refl _ _)⟩
  case round =>
    obtain ⟨j, acc, hj, hacc, rfl, HR, HC, HB⟩ := hrel
    have hb := HB.out
    by_cases hjl : j < names.length
    · obtain ⟨g, o, rfl, hg, hcell⟩ := HA.out (by omega)
      have f0 := (hb.cell (p := ⟨g, o + j, none⟩) hg).trans (hcell j hjl)
      clear hcell
      have HF := Lib.hid (HR.out.trans (chF_at hjl))
      have CIq := Lib.hid (CI.out names[j] wr (HN.out.keep hb))
      generalize names[j] = s at *
      generalize ix N s = x at *
      obtain ⟨UA, UN, UC, rfl, hUN⟩ := HC.out.form
      have hUj : j = UN := (hUN.trans hacc).symm
      subst hUj
      clear hUN
      by_cases hx : x < 0
      · have hR : R = (8, []) := by rw [HF.out, if_pos hx]
        subst hR
        clear HF HR HE
        go_wp2_with (first
          | (go_at_call 43; go_must (refine CIq.out.mono ?_; rintro e1 w1 ⟨rfl, rfl⟩)))
        go_returns
        exact ⟨_, rfl, KRow.nil _ _, hb⟩
      obtain ⟨k, rfl⟩ : ∃ k : Nat, x = k := ⟨x.toNat, by omega⟩
      have CC := Lib.hid (containsInt_any acc _ k wr (HC.out.arg chC_size) (by omega))
      have HF2 : Hid (R = if k ∈ acc then (9, []) else chF N (acc ++ [k]) (names.drop (j + 1))) := Lib.hid (by rw [HF.out, if_neg hx]; rfl)
      clear HF HR HE
      by_cases hm2 : k ∈ acc
      · have hR : R = (9, []) := by rw [HF2.out, if_pos hm2]
        subst hR
        rw [decide_eq_true hm2] at CC
        clear HF2
        go_wp2_with (first
          | (go_at_call 43; go_must (refine CIq.out.mono ?_; rintro e1 w1 ⟨rfl, rfl⟩))
          | (go_at_call 44; go_must (refine CC.out.mono ?_; rintro e2 w2 ⟨rfl, rfl⟩)))
        go_returns
        exact ⟨_, rfl, KRow.nil _ _, hb⟩
      · have HF3 := Lib.hid (HF2.out.trans (if_neg hm2))
        rw [decide_eq_false hm2] at CC
        have hle := hb.size
        clear HF2
        go_wp2_with (first
          | (go_at_call 43; go_must (refine CIq.out.mono ?_; rintro e1 w1 ⟨rfl, rfl⟩))
          | (go_at_call 44; go_must (refine CC.out.mono ?_; rintro e2 w2 ⟨rfl, rfl⟩))
          | (at_builtin; go_must (refine wpList_append_ch rfl _ _ rfl rfl rfl rfl (by first | rfl | (simp only [World.size_alloc]; done)) HC.out hle (by omega) ?_; intro v5 w5 R5 b5)))
        go_roundw
        case rel => exact ⟨j + 1, acc ++ [k], by omega, by simp [hacc], val_int (by omega), HF3, Lib.hid R5, Lib.hid (hb.trans b5)⟩
        case measure => simp [intOf]; omega
    · have hd : names.drop j = [] := List.drop_of_length_le (by omega)
      have hR : R = (0, acc) := by rw [HR.out, hd]; rfl
      subst hR
      clear HR HE hd
      go_wp2
      go_returns
      exact ⟨_, rfl, HC.out, hb⟩

end Go.Proofs.Ytcodoakfomddfaa
