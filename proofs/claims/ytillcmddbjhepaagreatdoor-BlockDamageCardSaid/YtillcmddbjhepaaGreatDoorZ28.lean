/-
  readPart.
  readParts.
  isClean.
  Stored captures, plain mathematics: what was written is read, and what was read was written: numbers, names, four bytes, the table.
-/
import Derived.Test.YtillcmddbjhepaaGreatDoorZ25
import Derived.Test.YtillcmddbjhepaaGreatDoorZ26
import Derived.Test.YtillcmddbjhepaaGreatDoorZ11
import Derived.Deep.RegionHeld3
import Derived.StillTailTactics
import Derived.BigQuiet
namespace Go.Proofs.YtillcmddbjhepaaGreatDoor
open Go Go.RowKit Go.Joins
set_option linter.unusedVariables false
set_option linter.unusedSimpArgs false

/-- What a block gives: its runs, or ErrCorrupt. -/
def BkR (p : Option (List Si.Rn)) (w : World) (e : Ending) (w' : World) : Prop :=
  ∃ (v : Value) (er : Nat), e = .returned (.tuple #[v, .int .i64 er]) ∧ (∃ A n c, v = .slice A n c) ∧ er = (if p.isSome then 0 else 12) ∧ Si.RnRow w' w.heap.size v (p.getD []) ∧ Below w.heap.size w w'
theorem BkR.no {p : Option (List Si.Rn)} {w w' : World} (h : p = none) (hb : Below w.heap.size w w') : BkR p w (.returned (.tuple #[.slice none 0 0, .int .i64 12])) w' := by
  subst h; exact ⟨_, 12, rfl, ⟨_, _, _, rfl⟩, rfl, KRow.nil _ _, hb⟩
/-- The runs so far, and room for the others. -/
def rnW (X : List Si.Rn) (r : Nat) : List Si.Rn := X ++ List.replicate r (0, 0)
theorem rnC_cells (X : List Si.Rn) : kCs Si.rnC X = X.flatMap fun r => [.int .i64 r.1, .int .i64 r.2] := by
  induction X with
  | nil => rfl
  | cons x X ih => rw [kCs_cons, ih]; rfl
theorem rnW_size (X : List Si.Rn) (r : Nat) : (kCs Si.rnC (rnW X r)).toArray.size = (X.length + r) * 2 := by
  rw [List.size_toArray, kCs_len Si.rnC_size]; unfold rnW; simp
theorem rnW_set (X : List Si.Rn) (r : Nat) (x y : Int) : ((kCs Si.rnC (rnW X (r + 1))).toArray.setIfInBounds (X.length * 2) (.int .i64 x)).setIfInBounds (X.length * 2 + 1) (.int .i64 y) = (kCs Si.rnC (rnW (X ++ [(x, y)]) r)).toArray := by
  apply Array.toList_inj.1
  rw [Array.toList_setIfInBounds, Array.toList_setIfInBounds]
  have h1 : kCs Si.rnC (rnW X (r + 1)) = kCs Si.rnC X ++ ([.int .i64 0, .int .i64 0] ++ kCs Si.rnC (List.replicate r (0, 0))) := by
    unfold rnW; rw [kCs_append, List.replicate_succ, kCs_cons]; rfl
  have h2 : kCs Si.rnC (rnW (X ++ [(x, y)]) r) = kCs Si.rnC X ++ ([.int .i64 x, .int .i64 y] ++ kCs Si.rnC (List.replicate r (0, 0))) := by
    unfold rnW; rw [kCs_append, kCs_append, kCs_cons, kCs_nil, List.append_nil, List.append_assoc]; rfl
  have hl : (kCs Si.rnC X).length = X.length * 2 := kCs_len Si.rnC_size X
  rw [List.toList_toArray, List.toList_toArray, h1, h2]
  generalize kCs Si.rnC X = Y at *
  generalize kCs Si.rnC (List.replicate r (0, 0)) = V at *
  have e1 : (Y ++ ([Value.int .i64 0, Value.int .i64 0] ++ V)).set (X.length * 2) (.int .i64 x) = Y ++ ([Value.int .i64 x, Value.int .i64 0] ++ V) := by
    rw [List.set_append, if_neg (by omega), hl, Nat.sub_self]; rfl
  rw [e1, List.set_append, if_neg (by omega), hl, show X.length * 2 + 1 - X.length * 2 = 1 by omega]; rfl

/-- Two numbers, into one block. -/
theorem readNS_any {s : ByteArray} {gs ga a B x o1 m1 o2 m2 : Nat} {w : World} {F1 F2 : Value} {T : TypeId} {cs : Array Value} (hs : s.size ≤ 9223372036854775807) (hm1 : m1 ≤ 9223372036854775807) (hm2 : m2 ≤ 9223372036854775807) (h1 : gs ≠ ga) (r1 : RowAt w gs 9 #[.string s]) (r2 : RowAt w ga 3 #[.int .i64 a])
    (hF1 : NumF B w F1 x o1 m1) (hF2 : NumF B w F2 x o2 m2) (hx : RowAt w x T cs) (ho1 : o1 < cs.size) (ho2 : o2 < cs.size) (hn : x ≠ gs ∧ x ≠ ga) (hB1 : x < B) (hgB : ga < B) :
    Calls Tryz.prog 99 #[.slice (some ⟨w.heap.size, 0, none⟩) 2 2, .pointer (some ⟨gs, 0, none⟩), .pointer (some ⟨ga, 0, none⟩)] (w.alloc (.cells #[F1, F2] 106)) (QF (RdR ga (rN s.data.toList (rN s.data.toList a m1).2.1 m2).2.1 (if (rN s.data.toList a m1).2.2 = 0 then (rN s.data.toList (rN s.data.toList a m1).2.1 m2).2.2 else (rN s.data.toList a m1).2.2) [x, ga] (w.alloc (.cells #[F1, F2] 106)) fun w' => RowAt w' x T ((cs.setIfInBounds o1 (.int .i64 (rN s.data.toList a m1).1)).setIfInBounds o2 (.int .i64 (rN s.data.toList (rN s.data.toList a m1).2.1 m2).1)))) := by
  have hk0 : Kp [x, ga] w (w.alloc (.cells #[F1, F2] 106)) := (Kp.refl _ w).alloc _
  have hX : ∀ k ∈ [x, ga], k < B := by intro k hk; simp at hk; omega
  have h := read2_set (s := s) (a := a) (w := w.alloc (.cells #[F1, F2] 106)) ⟨r1.alloc _, r2.alloc _, RowAt.new w _ _⟩ h1 (by have := r2.lt; omega) ⟨hn.1, hn.2, by have := hx.lt; omega⟩ ⟨hn.1, hn.2, by have := hx.lt; omega⟩
    (num_field hs hm1 (hF1.keep hk0 hX) (hx.alloc _) ho1)
    (fun _ w' hk hr => num_field hs hm2 ((hF2.keep hk0 hX).keep hk hX) hr (by simpa using ho2))
  refine h.mono ?_
  rintro e w' ⟨er, a', rfl, rfl, hk, hp⟩
  exact ⟨_, a', rfl, rfl, hk.mono (fun k _ h => by simp at h ⊢; rcases h with h | h | h <;> simp [h]), fun h => ⟨(hp h).1, (hp h).2.1, (hp h).2.2.1⟩⟩

set_option maxRecDepth 100000 in
set_option maxHeartbeats 4000000 in
theorem readPart_any (f e n sz c : Nat) (b : ByteArray) (ch : Nat) (w : World) (hE : Sd.Env w) (hs : b.size ≤ 140737488351232) (hc : ch ≤ 16) (hn : n ≤ 16) (hfe : f ≤ e) (he : e ≤ 1099511627776) :
    Calls Tryz.prog 44 #[.agg #[.int .i64 f, .int .i64 e, .int .i64 n, .int .i64 sz, .int .i64 c, .string b], .int .i64 ch] w (BkR (rBk b.data.toList (2 ^ ch - 1) n c (e - f)) w) := by
  have hsl := size_len b
  have RB := Lib.hid (RowAt.new w 63 #[.int .i64 f, .int .i64 e, .int .i64 n, .int .i64 sz, .int .i64 c, .string b])
  have KB := Lib.hid (ba w (.cells #[.int .i64 f, .int .i64 e, .int .i64 n, .int .i64 sz, .int .i64 c, .string b] 63))
  have CK := Lib.hid (fun W (hb : Below w.heap.size w W) => checksum_any b W (hE.below hb) hs)
  obtain ⟨C, hC⟩ : ∃ C, ck b.data.toList = C := ⟨_, rfl⟩
  rw [hC] at CK
  by_cases hcc : C = c
  case neg =>
    have HN := Lib.hid (rBk_ck (m := 2 ^ ch - 1) (n := n) (d := e - f) (show ¬ ck b.data.toList = c by rw [hC]; exact hcc))
    have hc' : ((C : Int) != (c : Int)) = true := by simp; omega
    have HS := Lib.hid (fun W (hb : Below (w.alloc (.cells #[.int .i64 f, .int .i64 e, .int .i64 n, .int .i64 sz, .int .i64 c, .string b] 63)).heap.size (w.alloc (.cells #[.int .i64 f, .int .i64 e, .int .i64 n, .int .i64 sz, .int .i64 c, .string b] 63)) W) => show W.cell? ⟨w.heap.size, 4, none⟩ = some (.int .i64 c) ∧ W.cell? ⟨w.heap.size, 5, none⟩ = some (.string b) ∧ Below (w.alloc (.cells #[.int .i64 f, .int .i64 e, .int .i64 n, .int .i64 sz, .int .i64 c, .string b] 63)).heap.size (w.alloc (.cells #[.int .i64 f, .int .i64 e, .int .i64 n, .int .i64 sz, .int .i64 c, .string b] 63)) W from ⟨(RB.out.keep hb).cell 4, (RB.out.keep hb).cell 5, hb⟩)
    have HS0 := Lib.hid (HS.out _ (Below.refl _ _).drew)
    have CK2 := Lib.hid (fun W (hb : Below (w.alloc (.cells #[.int .i64 f, .int .i64 e, .int .i64 n, .int .i64 sz, .int .i64 c, .string b] 63)).heap.size (w.alloc (.cells #[.int .i64 f, .int .i64 e, .int .i64 n, .int .i64 sz, .int .i64 c, .string b] 63)) W) => CK.out W (KB.out.trans (hb.mono KB.out.size)))
    clear hC hcc hsl CK
    go_enter Tryz.func44, Tryz.ntmps44
    go_wp2
    go_region_held3 (fun W => W.cell? ⟨w.heap.size, 4, none⟩ = some (.int .i64 c) ∧ W.cell? ⟨w.heap.size, 5, none⟩ = some (.string b) ∧ Below (w.alloc (.cells #[.int .i64 f, .int .i64 e, .int .i64 n, .int .i64 sz, .int .i64 c, .string b] 63)).heap.size (w.alloc (.cells #[.int .i64 f, .int .i64 e, .int .i64 n, .int .i64 sz, .int .i64 c, .string b] 63)) W) (first | exact HS0.out | assumption | go_keep)
      (first
        | (go_at_call 56; refine (CK2.out _ (And.right (And.right (by assumption)))).mono ?_; rintro x w3 ⟨rfl, b3⟩; have h3 := HS.out w3 (Below.trans (And.right (And.right (by assumption))) (b3.mono (Below.size (And.right (And.right (by assumption)))))))
        | fail)
    all_goals
      rename_i hh
      have HH := Lib.hid hh.2.2
      go_wp2
      go_returns
      exact BkR.no HN.out (KB.out.trans (HH.out.mono KB.out.size))
  have HCK := Lib.hid (show ck b.data.toList = c by rw [hC]; exact hcc)
  have hc' : ((C : Int) != (c : Int)) = false := by simp; omega
  have HS := Lib.hid (fun W (hb : Below (w.alloc (.cells #[.int .i64 f, .int .i64 e, .int .i64 n, .int .i64 sz, .int .i64 c, .string b] 63)).heap.size (w.alloc (.cells #[.int .i64 f, .int .i64 e, .int .i64 n, .int .i64 sz, .int .i64 c, .string b] 63)) W) => show W.cell? ⟨w.heap.size, 4, none⟩ = some (.int .i64 c) ∧ W.cell? ⟨w.heap.size, 5, none⟩ = some (.string b) ∧ Below (w.alloc (.cells #[.int .i64 f, .int .i64 e, .int .i64 n, .int .i64 sz, .int .i64 c, .string b] 63)).heap.size (w.alloc (.cells #[.int .i64 f, .int .i64 e, .int .i64 n, .int .i64 sz, .int .i64 c, .string b] 63)) W from ⟨(RB.out.keep hb).cell 4, (RB.out.keep hb).cell 5, hb⟩)
  have HS0 := Lib.hid (HS.out _ (Below.refl _ _).drew)
  have CK2 := Lib.hid (fun W (hb : Below (w.alloc (.cells #[.int .i64 f, .int .i64 e, .int .i64 n, .int .i64 sz, .int .i64 c, .string b] 63)).heap.size (w.alloc (.cells #[.int .i64 f, .int .i64 e, .int .i64 n, .int .i64 sz, .int .i64 c, .string b] 63)) W) => CK.out W (KB.out.trans (hb.mono KB.out.size)))
  have HSL := Lib.hid hsl
  have hn' : (n : Int) ≤ 16 := by omega
  obtain ⟨M, hM⟩ : ∃ M, 2 ^ ch - 1 = M := ⟨_, rfl⟩
  have hp16 : 2 ^ ch ≤ 2 ^ 16 := Nat.pow_le_pow_right (by omega) hc
  have hp1 : 1 ≤ 2 ^ ch := Nat.two_pow_pos ch
  have HMB := Lib.hid (show M ≤ 65535 by omega)
  have HSH := Lib.hid (show ((2 : Int) ^ ch) = (M : Int) + 1 by
    have : ((2 ^ ch : Nat) : Int) = (M : Int) + 1 := by omega
    rw [← this]; simp)
  rw [hM]
  clear hC hcc hsl CK hp16 hp1 hM
  go_enter Tryz.func44, Tryz.ntmps44
  go_wp2
  go_region_held3 (fun W => W.cell? ⟨w.heap.size, 4, none⟩ = some (.int .i64 c) ∧ W.cell? ⟨w.heap.size, 5, none⟩ = some (.string b) ∧ Below (w.alloc (.cells #[.int .i64 f, .int .i64 e, .int .i64 n, .int .i64 sz, .int .i64 c, .string b] 63)).heap.size (w.alloc (.cells #[.int .i64 f, .int .i64 e, .int .i64 n, .int .i64 sz, .int .i64 c, .string b] 63)) W) (first | exact HS0.out | assumption | go_keep)
    (first
      | (go_at_call 56; refine (CK2.out _ (And.right (And.right (by assumption)))).mono ?_; rintro x w3 ⟨rfl, b3⟩; have h3 := HS.out w3 (Below.trans (And.right (And.right (by assumption))) (b3.mono (Below.size (And.right (And.right (by assumption)))))))
      | fail)
  rename_i hh
  rename_i w3 _
  have HH := Lib.hid hh.2.2
  clear hh HS HS0 CK2
  replace RB := Lib.hid (RB.out.keep HH.out)
  replace KB := Lib.hid (KB.out.trans (HH.out.mono KB.out.size))
  clear HH
  obtain ⟨gs, hgs⟩ : ∃ gs, w3.heap.size = gs := ⟨_, rfl⟩
  obtain ⟨ga, hga⟩ : ∃ ga, w3.heap.size + 1 = ga := ⟨_, rfl⟩
  have CRD : Hid (Calls Tryz.prog 67 #[.string b, .int .i64 0] w3 (fun e w2 => e = .returned (.func (.func 99) #[] #[.pointer (some ⟨gs, 0, none⟩), .pointer (some ⟨ga, 0, none⟩)]) ∧ RowAt w2 gs 9 #[.string b] ∧ RowAt w2 ga 3 #[.int .i64 0] ∧ Below w3.heap.size w3 w2)) := Lib.hid (by
    refine (reader_any b 0 _).mono ?_
    rintro e w2 ⟨F, rfl, ⟨_, _, _, rfl, r1, r2⟩, b⟩
    rw [hgs] at r1
    rw [hga] at r2
    exact ⟨by rw [hga, hgs], r1, r2, b⟩)
  have O1 : w.heap.size < gs := by rw [← hgs]; exact RB.out.lt
  have O2 : gs < ga := by omega
  have hne : gs ≠ ga := by omega
  have k5 : w3.cell? ⟨w.heap.size, 5, none⟩ = some (.string b) := RB.out.cell 5
  clear hgs hga
  go_wp2_with (first
    | (go_at_call 67; go_must (refine CRD.out.mono ?_; rintro e4 w4 ⟨rfl, hS, hA, hb⟩; replace RB := Lib.hid (RB.out.keep hb); replace KB := Lib.hid (KB.out.trans (hb.mono KB.out.size)); have RS := Lib.hid hS; have RA := Lib.hid hA; have k2 : w4.cell? ⟨w.heap.size, 2, none⟩ = some (.int .i64 n) := RB.out.cell 2; clear hS hA hb CRD k5))
    | (at_make; go_must (refine wpList_make_k (n := n) (enc := Si.rnC) (B := w4.heap.size) Tryz.underlying23 Si.run_info ((0, 0) : Si.Rn) rfl rfl rfl _ _ rfl rfl rfl rfl rfl (by omega) (by omega) (Nat.le_refl _) ?_; intro w5 R5 b5))
    | fail)
  have HR5 := Lib.hid (KRow.rowAt R5)
  have O3 : ga < w4.heap.size := RA.out.lt
  replace RB := Lib.hid (RB.out.keep b5)
  replace RS := Lib.hid (RS.out.keep b5)
  replace RA := Lib.hid (RA.out.keep b5)
  replace KB := Lib.hid (KB.out.trans (b5.mono KB.out.size))
  clear R5 b5 k2
  obtain ⟨G, hG⟩ : ∃ G, w4.heap.size = G := ⟨_, rfl⟩
  rw [hG] at HR5 O3 ⊢
  clear hG
  go_loopw [8, 25] (fun x i wr => ∃ (X : List Si.Rn) (a S : Nat), X.length ≤ n ∧ x = .int .i64 S ∧ i = .int .i64 X.length ∧ S ≤ X.length * 1099511627776 ∧ a ≤ b.size ∧ Hid (Si.lg X = S) ∧ Hid (aB X (rB b.data.toList M (n - X.length) a) = rB b.data.toList M n 0) ∧ Hid (RowAt wr G 54 (kCs Si.rnC (rnW X (n - X.length))).toArray) ∧ Hid (RowAt wr w.heap.size 63 #[.int .i64 f, .int .i64 e, .int .i64 n, .int .i64 sz, .int .i64 c, .string b]) ∧ Hid (RowAt wr gs 9 #[.string b]) ∧ Hid (RowAt wr ga 3 #[.int .i64 a]) ∧ Hid (Below w.heap.size w wr)) (fun _ i _ => n - (intOf i).toNat)
  case atStart => exact ⟨[], 0, 0, Nat.zero_le _, rfl, rfl, Nat.zero_le _, Nat.zero_le _, Lib.hid rfl, Lib.hid (aB_nil _), Lib.hid HR5.out.1, RB, RS, RA, KB⟩
  case round =>
    clear RB RS RA KB HR5
    obtain ⟨X, a, S, hX, rfl, rfl, hS, ha, HLG, HA, HR, RB, RS, RA, KB⟩ := hrel
    by_cases hlt : X.length < n
    · obtain ⟨m, hm⟩ : ∃ m, n - X.length = m + 1 := ⟨n - X.length - 1, by omega⟩
      obtain ⟨k, hk⟩ : ∃ k, X.length = k := ⟨_, rfl⟩
      have HKX := Lib.hid hk
      have HM := Lib.hid hm
      rw [hm] at HA HR
      rw [hk]
      have hki : (k : Int) < n := by omega
      have hsh := HSH.out
      have hwr : ga < wr.heap.size ∧ gs < wr.heap.size ∧ G < wr.heap.size := ⟨RA.out.lt, RS.out.lt, HR.out.lt⟩
      clear hm
      have hw1 : IntKind.i64.wrap ((M : Int) + 1) = (M : Int) + 1 := IntWalk.i64_in _ (by have := HMB.out; omega)
      have hw2 : IntKind.i64.wrap ((M : Int) + 1 - 1) = (M : Int) := by rw [Int.add_sub_cancel]; exact IntWalk.i64_in _ (by have := HMB.out; omega)
      have hw3 : IntKind.i64.wrap (M : Int) = (M : Int) := IntWalk.i64_in _ (by have := HMB.out; omega)
      have hs9 : b.size ≤ 9223372036854775807 := by omega
      have ONE : gs ≠ G ∧ ga ≠ G ∧ w.heap.size ≠ G ∧ w.heap.size ≠ ga ∧ gs ≠ w.heap.size := ⟨by omega, by omega, by omega, by omega, by omega⟩
      have CR := Lib.hid (fun W F1 F2 (f1 : NumF wr.heap.size W F1 G (k * 2) M) (f2 : NumF wr.heap.size W F2 G (k * 2 + 1) 1099511627776) (hb : Below wr.heap.size wr.drew W) => readNS_any (a := a) hs9 (by have := HMB.out; omega) (by decide) hne (RowAt.below (w := wr.drew) RS.out hb hwr.2.1) (RowAt.below (w := wr.drew) RA.out hb hwr.1) f1 f2 (RowAt.below (w := wr.drew) HR.out hb hwr.2.2) (by rw [rnW_size]; omega) (by rw [rnW_size]; omega) ⟨by omega, by omega⟩ hwr.2.2 hwr.1)
      have HY1 := Lib.hid (fun (h : r1k b.data.toList M a) => rB_yes (n := m) h X)
      have HY2 := Lib.hid (fun (h : ¬ r1k b.data.toList M a) => rB_no (n := m) h X)
      unfold r1k at HY1 HY2
      have HNX := Lib.hid (rN_next b.data.toList (rN b.data.toList a M).2.1 1099511627776 (rN_next b.data.toList a M (by have := HSL.out; omega)))
      have HV2 := Lib.hid (rN_le b.data.toList (rN b.data.toList a M).2.1 1099511627776).1
      generalize hp2 : rN b.data.toList (rN b.data.toList a M).2.1 1099511627776 = p2 at *
      generalize hp1 : rN b.data.toList a M = p1 at *
      obtain ⟨v1, a1, e1⟩ := p1
      obtain ⟨v2, a2, e2⟩ := p2
      obtain ⟨e12, h12⟩ : ∃ e12, (if e1 = 0 then e2 else e1) = e12 := ⟨_, rfl⟩
      simp only at CR HY1 HY2 HNX HV2
      rw [h12] at CR
      have HE := Lib.hid (show e12 = 0 ↔ e1 = 0 ∧ e2 = 0 by
        by_cases c : e1 = 0
        · rw [if_pos c] at h12; subst h12; exact ⟨fun h => ⟨c, h⟩, fun h => h.2⟩
        · rw [if_neg c] at h12; subst h12; exact ⟨fun h => absurd h c, fun h => absurd h.1 c⟩)
      clear hp1 hp2 h12
      go_wp2
      go_region_held3 (fun _ => True) (first | trivial | assumption | go_keep)
        (first
          | (go_at_call 69; first
            | (have tok := T1.out; refine (number_any _ _ _ _).mono ?_; rintro e w6 ⟨F2, rfl, hF2, b6⟩; have tr : True := trivial; have B6 := Lib.hid (B5.out.trans (b6.mono B5.out.size)); have CR6 := Lib.hid (CR.out w6 _ _ (HF1.out.keep (X := []) (Kp.of_below b6) (by simp)) (hF2.mono B5.out.size) B6.out); obtain ⟨p3, p4, _, _, rfl, _, _⟩ := hF2; clear T1 HF1 b6 B5 CR)
            | ((with_reducible refine (number_any _ _ _ _).mono ?_); rintro e w5 ⟨F1, rfl, hF1, b5⟩; have tr : True := trivial; have T1 := Lib.hid trivial; have B5 := Lib.hid (show Below wr.heap.size wr.drew w5 from b5); have HF1 := Lib.hid hF1; obtain ⟨p1, p2, _, _, rfl, _, _⟩ := hF1; clear b5))
          | (go_at_call 99; (with_reducible refine CR6.out.mono ?_); rintro e w7 ⟨er, a7, rfl, hE, hK, hP⟩; have tr : True := trivial; obtain rfl : er = e12 := hE; have K7 := Lib.hid hK; have P7 := Lib.hid hP; clear hK hP CR6)
          | fail)
      have KB6 := KB.out.drew.trans (B6.out.mono KB.out.size)
      have KB7 := Lib.hid ((KB6.alloc KB6.size _).trans (K7.out.below (B := w.heap.size) (by simp; omega) (le_alloc KB6.size _)))
      have RB7 := Lib.hid (K7.out.row ((RowAt.below (w := wr.drew) RB.out B6.out RB.out.lt).alloc _) (show w.heap.size ∉ [G, ga] by simp; exact ⟨ONE.2.2.1, ONE.2.2.2.1⟩))
      have RS7 := Lib.hid (K7.out.row ((RowAt.below (w := wr.drew) RS.out B6.out hwr.2.1).alloc _) (show gs ∉ [G, ga] by simp; exact ⟨ONE.1, hne⟩))
      clear KB6 RB RS KB RA HR K7 B6 tok
      by_cases hE0 : er = 0
      · subst hE0
        obtain ⟨q1, q2, q3⟩ := P7.out rfl
        have RA7 := Lib.hid q2
        have HR7 := Lib.hid (show RowAt w7 G 54 (kCs Si.rnC (rnW (X ++ [((v1 : Int), (v2 : Int))]) m)).toArray by
          rw [← rnW_set, HKX.out]; exact q3)
        have c1 : w7.cell? ⟨G, k * 2 + 1, none⟩ = some (.int .i64 v2) := by
          rw [HR7.out.cell, ← HKX.out]
          have h := kCs_at Si.rnC_size (rnW (X ++ [((v1 : Int), (v2 : Int))]) m) X.length (by unfold rnW; simp) 1 (by omega)
          rw [List.getElem?_toArray, h]
          have hx : (rnW (X ++ [((v1 : Int), (v2 : Int))]) m)[X.length]'(by unfold rnW; simp) = (((v1 : Int), (v2 : Int)) : Si.Rn) := by
            unfold rnW
            rw [List.getElem_append_left (by simp)]
            simp
          rw [hx]
          rfl
        obtain ⟨ee1, ee2⟩ := HE.out.1 rfl
        clear P7 q2 q3 q1
        by_cases hv : v2 = 0
        · have hv' : ((v2 : Int) == 0) = true := by simp; omega
          have HN := Lib.hid (rBk_none (c := c) (d := e - f) (HA.out.symm.trans (HY2.out (fun h => h.2.2 hv))))
          clear HA HY1 HY2 hv HE ee1 ee2
          go_wp2
          go_returns
          exact BkR.no HN.out KB7.out
        · have hv' : ((v2 : Int) == 0) = false := by simp; omega
          have HA7 := Lib.hid ((HY1.out ⟨ee1, ee2, hv⟩).symm.trans HA.out)
          have hSb : S + v2 ≤ 16 * 1099511627776 + 1099511627776 := by have := HV2.out; omega
          have hvb : v2 ≤ 1099511627776 := HV2.out
          have hkn : (k : Int) < 16 := by omega
          have HL7 := Lib.hid (show Si.lg (X ++ [((v1 : Int), (v2 : Int))]) = ((S + v2 : Nat) : Int) by
            rw [Si.lg_append, Si.lg_one, HLG.out]; simp)
          clear HA HY1 HY2 hv HE ee1 ee2
          go_wp2
          go_roundw
          case rel =>
            have hlen : (X ++ [((v1 : Int), (v2 : Int))]).length = k + 1 := by rw [List.length_append, HKX.out]; rfl
            have hm2 : n - (k + 1) = m := by have := HM.out; have := HKX.out; omega
            refine ⟨X ++ [((v1 : Int), (v2 : Int))], a2, S + v2, by rw [hlen]; omega, val_int (by omega), val_int (by rw [hlen]; omega), by rw [hlen]; have := HKX.out; omega, by have := HNX.out; have := HSL.out; omega, HL7, ?_, ?_, RB7, RS7, RA7, KB7⟩
            · rw [hlen, hm2]; exact HA7
            · rw [hlen, hm2]; exact HR7
          case measure => simp [intOf]; omega
      · have hE' : ((er : Int) != 0) = true := by simp; omega
        have HN := Lib.hid (rBk_none (c := c) (d := e - f) (HA.out.symm.trans (HY2.out (fun h => hE0 (HE.out.2 ⟨h.1, h.2.1⟩)))))
        clear HA HY1 HY2 HE P7
        go_wp2
        go_returns
        exact BkR.no HN.out KB7.out
    · have hn0 : n - X.length = 0 := by omega
      have hXn : X.length = n := by omega
      have hlti : ¬ (X.length : Int) < n := by omega
      rw [hn0] at HA HR
      have HB2 := Lib.hid (show rB b.data.toList M n 0 = some (X, a) by rw [← HA.out, rB_0])
      have HBK := Lib.hid (rBk_some (d := e - f) HCK.out HB2.out)
      have HXN := Lib.hid hXn
      clear hXn hn0
      have hwr : ga < wr.heap.size ∧ gs < wr.heap.size ∧ G < wr.heap.size := ⟨RA.out.lt, RS.out.lt, HR.out.lt⟩
      have c0 : wr.cell? ⟨w.heap.size, 0, none⟩ = some (.int .i64 f) := RB.out.cell 0
      have c1 : wr.cell? ⟨w.heap.size, 1, none⟩ = some (.int .i64 e) := RB.out.cell 1
      have hSi : (S : Int) ≤ 16 * 1099511627776 := by omega
      have hfi : (f : Int) ≤ e := by omega
      have hei : (e : Int) ≤ 1099511627776 := by omega
      by_cases hSd : S = e - f
      · have hSd' : ((S : Int) != ((e : Int) - (f : Int))) = false := by simp; omega
        have CRN := Lib.hid (show Calls Tryz.prog 99 #[.slice (some ⟨wr.heap.size, 0, none⟩) 1 1, .pointer (some ⟨gs, 0, none⟩), .pointer (some ⟨ga, 0, none⟩)] (wr.alloc (.cells #[.func (.func 80) #[] #[]] 106)) (QF (RdR ga a (if a < b.size then 4 else 0) [ga] (wr.alloc (.cells #[.func (.func 80) #[] #[]] 106)) fun w' => True)) from read1_none (s := b) (gs := gs) (ga := ga) (g := wr.heap.size) (a := a) ⟨RS.out.alloc _, RA.out.alloc _, RowAt.new wr _ _⟩ hne (by omega) (by omega) ha)
        have HOG := Lib.hid (fun g (hg : (Value.slice (some ⟨G, 0, none⟩) n n).ownBlock = some g) => show g = G by cases hg; rfl)
        by_cases hab : a < b.size
        · rw [if_pos hab] at CRN
          have HN := Lib.hid (show rBk b.data.toList M n c (e - f) = none by
            rw [HBK.out, if_neg (fun h => by have := h.1; have := HSL.out; omega)])
          clear hSd HBK HB2 HA
          go_wp2_with (first
            | (go_at_call 99; go_must (refine CRN.out.mono ?_; rintro e9 w9 ⟨er, a9, rfl, hE, hK, _⟩; obtain rfl : er = 4 := hE; have KB9 := Lib.hid ((KB.out.alloc KB.out.size _).trans (hK.below (B := w.heap.size) (by simp; omega) (le_alloc KB.out.size _))); clear hK CRN))
            | fail)
          go_returns
          exact BkR.no HN.out KB9.out
        · rw [if_neg hab] at CRN
          have HN := Lib.hid (show rBk b.data.toList M n c (e - f) = some X by
            rw [HBK.out, if_pos ⟨by have := HSL.out; omega, by have := HLG.out; omega⟩])
          have HRX := Lib.hid (show Si.RnRow wr (w.heap.size + 1) (.slice (some ⟨G, 0, none⟩) n n) X from KRow.of_rowAt Si.rnC_size (by have h := HR.out; unfold rnW at h; simpa using h) (by omega) HXN.out.symm (by simp only [maxLen]; omega))
          clear hSd HBK HB2 HA
          go_wp2_with (first
            | (go_at_call 99; go_must (refine CRN.out.mono ?_; rintro e9 w9 ⟨er, a9, rfl, hE, hK, _⟩; obtain rfl : er = 0 := hE; have KB9 := Lib.hid ((KB.out.alloc KB.out.size _).trans (hK.below (B := w.heap.size) (by simp; omega) (le_alloc KB.out.size _))); have HR9 := Lib.hid (KRow.kp (KRow.alloc HRX.out _) hK (fun g hg => by have := HOG.out g hg; simp; omega)); clear hK CRN))
            | fail)
          go_returns
          rw [HN.out]
          exact ⟨_, 0, rfl, ⟨_, _, _, rfl⟩, rfl, KRow.mono HR9.out (by omega), KB9.out⟩
      · have hSd' : ((S : Int) != ((e : Int) - (f : Int))) = true := by simp; omega
        have HN := Lib.hid (show rBk b.data.toList M n c (e - f) = none by
          rw [HBK.out, if_neg (fun h => hSd (by have := h.2; have := HLG.out; omega))])
        clear hSd HBK HB2 HA
        go_wp2
        go_returns
        exact BkR.no HN.out KB.out

end Go.Proofs.YtillcmddbjhepaaGreatDoor

namespace Go.Proofs.YtillcmddbjhepaaGreatDoor
open Go Go.RowKit Go.Joins
set_option linter.unusedVariables false
set_option linter.unusedSimpArgs false

theorem rB_len {s : List UInt8} {m : Nat} : ∀ {n a : Nat} {L : List Si.Rn} {b : Nat}, rB s m n a = some (L, b) → L.length = n
  | 0, a, L, b, h => by rw [rB] at h; injection h with h; injection h with h _; subst h; rfl
  | n + 1, a, L, b, h => by
    rw [rB] at h
    split at h
    · rename_i hc
      cases hr : rB s m n (rN s (rN s a m).2.1 1099511627776).2.1 with
      | none => rw [hr] at h; cases h
      | some p =>
        rw [hr] at h
        obtain ⟨L', b'⟩ := p
        have := rB_len hr
        simp only [Option.map_some, Option.some.injEq, Prod.mk.injEq] at h
        rw [← h.1, List.length_cons, this]
    · cases h
theorem rBk_len {s : List UInt8} {m n c d : Nat} {L : List Si.Rn} (h : rBk s m n c d = some L) : L.length = n := by
  unfold rBk at h
  split at h
  · cases hr : rB s m n 0 with
    | none => rw [hr] at h; cases h
    | some p =>
      rw [hr] at h
      obtain ⟨L', b'⟩ := p
      simp only at h
      split at h
      · injection h with h; subst h; exact rB_len hr
      · cases h
  · cases h

/-- The runs of a block, of some blocks. -/
def pBk (ch : Nat) (p : Pt) : Option (List Si.Rn) := rBk p.2.2.2.2.2.data.toList (2 ^ ch - 1) p.2.2.1 p.2.2.2.2.1 (p.2.1 - p.1)
def pBs (ch : Nat) : List Pt → Option (List Si.Rn)
  | [] => some []
  | p :: r => match pBk ch p with
    | none => none
    | some L => (pBs ch r).map fun M => L ++ M
def aP (X : List Si.Rn) (r : Option (List Si.Rn)) : Option (List Si.Rn) := r.map fun M => X ++ M
theorem aP_nil (r : Option (List Si.Rn)) : aP [] r = r := by cases r <;> rfl
theorem pBs_yes {ch : Nat} {P : List Pt} {j : Nat} (hj : j < P.length) {L : List Si.Rn} (h : pBk ch P[j] = some L) (X : List Si.Rn) : aP X (pBs ch (P.drop j)) = aP (X ++ L) (pBs ch (P.drop (j + 1))) := by
  rw [List.drop_eq_getElem_cons hj, pBs, h]
  unfold aP
  cases pBs ch (P.drop (j + 1)) with
  | none => rfl
  | some M => simp
theorem pBs_no {ch : Nat} {P : List Pt} {j : Nat} (hj : j < P.length) (h : pBk ch P[j] = none) (X : List Si.Rn) : aP X (pBs ch (P.drop j)) = none := by
  rw [List.drop_eq_getElem_cons hj, pBs, h]; rfl
def okP (p : Pt) : Prop := p.1 ≤ p.2.1 ∧ p.2.1 ≤ 1099511627776 ∧ p.2.2.1 ≤ 16 ∧ p.2.2.2.2.2.size ≤ 140737488351232

set_option maxRecDepth 100000 in
set_option maxHeartbeats 4000000 in
theorem readParts_any (P : List Pt) (vQ vP : Value) (nA : Option Addr) (ch nc T : Nat) (w : World) (hE : Sd.Env w) (hQ : PtArg w vQ P) (hP : ∀ p ∈ P, okP p) (hl : P.length ≤ 16384) (hc : ch ≤ 16) :
    Calls Tryz.prog 39 #[.agg #[.slice nA ch nc, .int .i64 T, vP], vQ] w (BkR (pBs ch P) w) := by
  obtain ⟨qA, qc, rfl⟩ := KArg.form hQ
  have RB := Lib.hid (RowAt.new w 71 #[.slice nA ch nc, .int .i64 T, vP])
  have KB := Lib.hid (ba w (.cells #[.slice nA ch nc, .int .i64 T, vP] 71))
  have HQ := Lib.hid hQ
  have HP := Lib.hid (fun j (hj : j < P.length) => hP _ (List.getElem_mem hj))
  have CP := Lib.hid (fun (p : Pt) (hp : okP p) W (hb : Below w.heap.size w W) => readPart_any p.1 p.2.1 p.2.2.1 p.2.2.2.1 p.2.2.2.2.1 p.2.2.2.2.2 ch W (hE.below hb) hp.2.2.2 hc hp.2.2.1 hp.1 hp.2.1)
  have hli : (P.length : Int) ≤ 16384 := by omega
  clear hQ hP hE
  go_enter Tryz.func39, Tryz.ntmps39
  go_wp2
  go_loopw [6, 13] (fun v i wr => ∃ (X : List Si.Rn) (j : Nat), j ≤ P.length ∧ i = .int .i64 j ∧ X.length ≤ 16 * j ∧ Hid (aP X (pBs ch (P.drop j)) = pBs ch P) ∧ Hid (Si.RnRow wr (w.heap.size + 1) v X) ∧ Hid (RowAt wr w.heap.size 71 #[.slice nA ch nc, .int .i64 T, vP]) ∧ Hid (Below w.heap.size w wr)) (fun _ i _ => P.length - (intOf i).toNat)
  case atStart => exact ⟨[], 0, Nat.zero_le _, rfl, Nat.zero_le _, Lib.hid (aP_nil _), Lib.hid (KRow.nil _ _), RB, KB⟩
  case round =>
    clear RB KB
    obtain ⟨X, j, hj, rfl, hX, HA, HR, RB, KB⟩ := hrel
    obtain ⟨xA, xn, xc, rfl, hxn⟩ := KRow.form HR.out
    clear hxn
    by_cases hlt : j < P.length
    · obtain ⟨_, _, e1, q1⟩ := HQ.out
      obtain ⟨g, o, rfl, hg, hcl⟩ := q1 (by omega)
      simp only [Value.slice.injEq, true_and, and_true] at e1
      obtain ⟨rfl, rfl⟩ := e1
      obtain ⟨a0, a1, a2, a3, a4, a5⟩ := arg_six hcl j hlt
      have f0 := (KB.out.cell (p := ⟨g, o + j * 6, none⟩) hg).trans a0
      have f1 := (KB.out.cell (p := ⟨g, o + j * 6 + 1, none⟩) hg).trans a1
      have f2 := (KB.out.cell (p := ⟨g, o + j * 6 + 2, none⟩) hg).trans a2
      have f3 := (KB.out.cell (p := ⟨g, o + j * 6 + 3, none⟩) hg).trans a3
      have f4 := (KB.out.cell (p := ⟨g, o + j * 6 + 4, none⟩) hg).trans a4
      have f5 := (KB.out.cell (p := ⟨g, o + j * 6 + 5, none⟩) hg).trans a5
      have hji : (j : Int) < P.length := by omega
      have h0 : wr.cell? ⟨w.heap.size, 0, none⟩ = some (.slice nA ch nc) := RB.out.cell 0
      have CP1 := Lib.hid (fun W hb => CP.out P[j] (HP.out j hlt) W hb)
      have HY := Lib.hid (fun L (h : pBk ch P[j] = some L) => pBs_yes hlt h X)
      have HN := Lib.hid (fun (h : pBk ch P[j] = none) => pBs_no hlt h X)
      have HLL := Lib.hid (fun L (h : pBk ch P[j] = some L) => show L.length ≤ 16 by
        have h1 := rBk_len h
        have h2 := (HP.out j hlt).2.2.1
        omega)
      obtain ⟨q, hq⟩ : ∃ q, pBk ch P[j] = q := ⟨_, rfl⟩
      rw [hq] at HY HN HLL
      unfold pBk at hq
      rw [hq] at CP1
      generalize P[j].1 = p0 at *
      generalize P[j].2.1 = p1 at *
      generalize P[j].2.2.1 = p2 at *
      generalize P[j].2.2.2.1 = p3 at *
      generalize P[j].2.2.2.2.1 = p4 at *
      generalize P[j].2.2.2.2.2 = p5 at *
      have hwlt : w.heap.size < wr.heap.size := RB.out.lt
      clear hcl q1 a0 a1 a2 a3 a4 a5 hq CP
      cases q with
      | none =>
        have HF := Lib.hid (show pBs ch P = none by rw [← HA.out]; exact HN.out rfl)
        clear HY HN HLL HA
        go_wp2_with (first
          | (go_at_call 44; go_must (refine (CP1.out _ (KB.out.alloc KB.out.size _)).mono ?_; rintro e w6 ⟨v, er, rfl, ⟨rA, rn, rc, rfl⟩, hE, _, hb⟩; obtain rfl : er = 12 := hE; have KB6 := Lib.hid ((KB.out.alloc KB.out.size _).trans (hb.mono (le_alloc KB.out.size _))); clear hb CP1))
          | fail)
        go_returns
        exact BkR.no HF.out KB6.out
      | some L =>
        have HA2 := Lib.hid ((HY.out L rfl).symm.trans HA.out)
        have HL16 := Lib.hid (HLL.out L rfl)
        have hL16 : L.length ≤ 16 := HL16.out
        clear HY HN HLL HA
        go_wp2_with (first
          | (go_at_call 44; go_must (refine (CP1.out _ (KB.out.alloc KB.out.size _)).mono ?_; rintro e w6 ⟨v, er, rfl, ⟨rA, rn, rc, rfl⟩, hE, hr, hb⟩; obtain rfl : er = 0 := hE; have KB6 := Lib.hid ((KB.out.alloc KB.out.size _).trans (hb.mono (le_alloc KB.out.size _))); have RB6 := Lib.hid ((RB.out.alloc _).keep hb); have HR6 := Lib.hid (KRow.keep (KRow.alloc HR.out _) hb); have RG6 := Lib.hid (KRow.arg Si.rnC_size hr); clear hb hr CP1))
          | (refine wpList_append_arg (o := ⟨some 30, _, _, _, _, _⟩) Tryz.underlying23 Si.run_info rfl (by omega) Si.rnC_size Si.rnC_one rfl (.tmp 28) (.tmp 29) rfl rfl rfl HR6.out RG6.out (show w.heap.size + 1 ≤ w6.heap.size by have := RB6.out.lt; omega) (by simp; omega) (by simp; omega) ?_; intro v7 w7 r7 b7)
          | fail)
        go_roundw
        case rel => exact ⟨X ++ L, j + 1, by omega, val_int (by omega), by rw [List.length_append]; omega, HA2, Lib.hid r7, Lib.hid (RB6.out.below b7 (Nat.lt_succ_self _)), Lib.hid (KB6.out.trans (b7.mono (Nat.le_succ _)))⟩
        case measure => simp [intOf]; omega
    · have hd : P.drop j = [] := List.drop_of_length_le (by omega)
      rw [hd] at HA
      have HF := Lib.hid (show pBs ch P = some X by rw [← HA.out]; unfold aP pBs; simp)
      have hji : ¬ (j : Int) < P.length := by omega
      clear hd HA
      go_wp2
      go_returns
      rw [HF.out]
      exact ⟨_, 0, rfl, ⟨_, _, _, rfl⟩, rfl, KRow.mono HR.out (by omega), KB.out⟩

end Go.Proofs.YtillcmddbjhepaaGreatDoor

namespace Go.Proofs.YtillcmddbjhepaaGreatDoor
open Go Go.RowKit Go.Joins
open Go.BigFrame
set_option linter.unusedVariables false
set_option linter.unusedSimpArgs false

def l0 (l : List Si.Rn) (i : Nat) : Int := (l.getD i (0, 0)).1
theorem l0_at {l : List Si.Rn} {i : Nat} (h : i < l.length) : l0 l i = l[i].1 := by
  unfold l0; rw [List.getD_eq_getElem?_getD, List.getElem?_eq_getElem h]; rfl
/-- Successive runs have different levels. -/
def clP (l : List Si.Rn) : Prop := ∀ i, i < l.length → 0 < i → l0 l (i - 1) ≠ l0 l i
instance (l : List Si.Rn) : Decidable (clP l) := by unfold clP; exact inferInstance

set_option maxRecDepth 100000 in
set_option maxHeartbeats 2000000 in
theorem isClean_any (l : List Si.Rn) (v : Value) (w : World) (hT : Si.RnArg w v l) (hn : l.length ≤ 1099511627776) :
    Calls Tryz.prog 40 #[v] w fun e w' => e = .returned (.bool (decide (clP l))) ∧ Below w.heap.size w w' := by
  obtain ⟨A, c, rfl⟩ := KArg.form hT
  have HT := Lib.hid hT
  have hli : (l.length : Int) ≤ 1099511627776 := by omega
  clear hT
  go_enter Tryz.func40, Tryz.ntmps40
  go_wp2
  go_loopw [6] (fun i wr => ∃ j : Nat, j ≤ l.length ∧ i = .int .i64 j ∧ Hid (∀ i, i < j → 0 < i → l0 l (i - 1) ≠ l0 l i) ∧ Hid (Below w.heap.size w wr)) (fun i _ => l.length - (intOf i).toNat)
  case atStart => exact ⟨0, Nat.zero_le _, rfl, Lib.hid (fun i h => absurd h (by omega)), Lib.hid (Below.refl _ _)⟩
  case round =>
    obtain ⟨j, hj, rfl, HA, KB⟩ := hrel
    by_cases hlt : j < l.length
    · obtain ⟨_, _, e1, q1⟩ := HT.out
      obtain ⟨g, o, rfl, hg, hcl⟩ := q1 (by omega)
      simp only [Value.slice.injEq, true_and, and_true] at e1
      obtain ⟨rfl, rfl⟩ := e1
      have cell : ∀ i (hi : i < l.length), wr.cell? ⟨g, o + i * 2, none⟩ = some (.int .i64 l[i].1) := fun i hi => (KB.out.cell (p := ⟨g, o + i * 2, none⟩) hg).trans (hcl i hi 0 (by omega))
      have f0 := cell j hlt
      have hji : (j : Int) < l.length := by omega
      rcases j with _ | i1
      · rw [Nat.zero_mul, Nat.add_zero] at f0
        have HA2 := Lib.hid (show ∀ i, i < 0 + 1 → 0 < i → l0 l (i - 1) ≠ l0 l i from fun i h1 h2 => absurd h1 (by omega))
        clear hcl cell q1
        go_wp2
        go_big_quiet (fail)
        go_wp2
        go_roundw
        case rel => exact ⟨1, by omega, by first | rfl | exact val_int (by omega), HA2, Lib.hid (Go.below_drewN KB.out _)⟩
        case measure => simp [intOf]; omega
      · have f1 := cell i1 (by omega)
        have hx := l0_at hlt
        have hy := l0_at (show i1 < l.length by omega)
        have hi0 : (0 : Int) < ((i1 + 1 : Nat) : Int) := by omega
        have hi1 : ((i1 + 1 : Nat) : Int) - 1 = (i1 : Int) := by omega
        have hi2 : IntKind.i64.wrap (((i1 + 1 : Nat) : Int) - 1) = (i1 : Int) := by rw [hi1]; exact IntWalk.i64_in _ (by omega)
        have hi3 : decide ((0 : Int) < ((i1 + 1 : Nat) : Int)) = true := decide_eq_true hi0
        have hi4 : (i1 : Int) < l.length := by omega
        have hi5 : i1 < l.length := by omega
        have hi6 : ((i1 + 1 : Nat) : Int) ≤ 1099511627776 := by omega
        have HAX := Lib.hid (fun (h : l[i1].1 ≠ (l[i1 + 1]'hlt).1) => show ∀ i, i < i1 + 1 + 1 → 0 < i → l0 l (i - 1) ≠ l0 l i from fun i h1 h2 => by
          rcases Nat.lt_succ_iff_lt_or_eq.1 h1 with e | e
          · exact HA.out i e h2
          · subst e; rw [Nat.add_sub_cancel, hx, hy]; exact h)
        have HAN := Lib.hid (fun (h : l[i1].1 = (l[i1 + 1]'hlt).1) => show decide (clP l) = false from decide_eq_false fun hcp => hcp (i1 + 1) hlt (by omega) (by rw [Nat.add_sub_cancel, hx, hy]; exact h))
        clear hx hy hcl cell q1
        generalize l[i1].1 = y at *
        generalize (l[i1 + 1]'hlt).1 = x at *
        by_cases hxy : y = x
        · have HF := Lib.hid (HAN.out hxy)
          have hq : (x == y) = true := by simp; omega
          clear HAX HAN hxy HA hi4 hi5 hi6
          go_wp2
          go_big_quiet (fail)
          go_wp2
          go_returns
          exact ⟨by rw [HF.out]; rfl, Go.below_drewN KB.out _⟩
        · have HA2 := Lib.hid (HAX.out hxy)
          have hq : (x == y) = false := by simp; omega
          clear HAX HAN hxy HA hi4 hi5 hi6
          go_wp2
          go_big_quiet (fail)
          go_wp2
          go_roundw
          case rel => exact ⟨i1 + 1 + 1, by omega, val_int (by omega), HA2, Lib.hid (Go.below_drewN KB.out _)⟩
          case measure => simp [intOf]; omega
    · have HF := Lib.hid (show decide (clP l) = true from decide_eq_true fun i h1 h2 => HA.out i (by omega) h2)
      have hji : ¬ (j : Int) < l.length := by omega
      clear HA
      go_wp2
      go_returns
      exact ⟨by rw [HF.out]; rfl, KB.out⟩

end Go.Proofs.YtillcmddbjhepaaGreatDoor

namespace Go.Proofs.YtillcmddbjhepaaGreatDoor
open Go
set_option linter.unusedVariables false
set_option linter.unusedSimpArgs false

/-- What stands from a place on. -/
def StA (l : List UInt8) (a : Nat) (s : List UInt8) : Prop := a ≤ l.length ∧ l.drop a = s
theorem StA.len {l s : List UInt8} {a : Nat} (h : StA l a s) : l.length = a + s.length := by
  have := congrArg List.length h.2
  rw [List.length_drop] at this
  have := h.1
  omega
theorem StA.step {l s q : List UInt8} {a : Nat} (h : StA l a (s ++ q)) : StA l (a + s.length) q := by
  have hl := h.len
  rw [List.length_append] at hl
  exact ⟨by omega, by rw [← List.drop_drop, h.2]; simp⟩
theorem StA.of {l : List UInt8} {a b : Nat} {s : List UInt8} (ha : a ≤ l.length) (hb : b ≤ l.length) (h : l.drop a = s ++ l.drop b) : b = a + s.length := by
  have := congrArg List.length h
  rw [List.length_append, List.length_drop, List.length_drop] at this
  omega
theorem StA.split {l s : List UInt8} {a : Nat} (h : StA l a s) : l = l.take a ++ s ∧ (l.take a).length = a := by
  refine ⟨by rw [← h.2, List.take_append_drop], ?_⟩
  rw [List.length_take]; have := h.1; omega

/-! A number. -/
theorem rN_inv {l : List UInt8} {a m v n : Nat} (h : rN l a m = (v, n, 0)) : a ≤ l.length ∧ n ≤ l.length ∧ v ≤ m ∧ v < 18446744073709551616 ∧ l.drop a = Sb.put v ++ l.drop n := by
  unfold rN at h
  by_cases h1 : Sb.tuE l a = 0
  · rw [if_neg (by simpa using h1)] at h
    by_cases h2 : m < Sb.tuV l a
    · rw [if_pos h2] at h
      injection h with _ h; injection h with _ h
      exact absurd h (by decide)
    · rw [if_neg h2] at h
      injection h with e1 h; injection h with e2 _
      obtain ⟨a', e, h3, h4, h5, h6⟩ := Sb.tu_ok h1
      obtain rfl : a' = a := by omega
      have hv := (Sb.tu_bounds l a').1
      rw [e1] at hv h6 h2
      rw [e2] at h3 h4 h5 h6
      refine ⟨by omega, h4, by omega, hv, ?_⟩
      rw [h6]
      have : l.drop n = (l.drop a').drop (n - a') := by rw [List.drop_drop, show a' + (n - a') = n by omega]
      rw [this, List.take_append_drop]
  · rw [if_pos h1] at h
    injection h with _ h; injection h with _ h
    exact absurd h h1
theorem rN_at {l q : List UInt8} {a m v : Nat} (h : StA l a (Sb.put v ++ q)) (hv : v < 18446744073709551616) (hm : v ≤ m) : rN l a m = (v, a + (Sb.put v).length, 0) := by
  obtain ⟨e, hl⟩ := h.split
  have ht := Sb.tu_put (l.take a) q v hv
  rw [hl, List.append_assoc, ← e] at ht
  unfold rN Sb.tuE Sb.tuV Sb.tuN
  rw [ht]
  simp only [ne_eq, not_true, if_false]
  rw [if_neg (by omega)]
theorem tu_at {l q : List UInt8} {a v : Nat} (h : StA l a (Sb.put v ++ q)) (hv : v < 18446744073709551616) : Sb.tuE l a = 0 ∧ Sb.tuV l a = v ∧ Sb.tuN l a = a + (Sb.put v).length := by
  obtain ⟨e, hl⟩ := h.split
  have ht := Sb.tu_put (l.take a) q v hv
  rw [hl, List.append_assoc, ← e] at ht
  unfold Sb.tuE Sb.tuV Sb.tuN
  rw [ht]
  exact ⟨rfl, rfl, rfl⟩
theorem tu_inv {l : List UInt8} {a : Nat} (h : Sb.tuE l a = 0) : a ≤ l.length ∧ Sb.tuN l a ≤ l.length ∧ Sb.tuV l a < 18446744073709551616 ∧ l.drop a = Sb.put (Sb.tuV l a) ++ l.drop (Sb.tuN l a) := by
  have h2 : rN l a 18446744073709551616 = (Sb.tuV l a, Sb.tuN l a, 0) := rN_ok h (by have := (Sb.tu_bounds l a).1; omega)
  obtain ⟨h3, h4, _, h5, h6⟩ := rN_inv h2
  exact ⟨h3, h4, h5, h6⟩

/-! A name, some names. -/
theorem tc_inv {l : List UInt8} {a : Nat} (h : Sb.tcE l a 16 = 0) : a ≤ l.length ∧ Sb.tcN l a 16 + Sb.tcV l a 16 ≤ l.length ∧ (Sb.ttS l a 16).length = Sb.tcV l a 16 ∧ Sb.tcV l a 16 ≤ 16 ∧ l.drop a = nm1 ⟨(Sb.ttS l a 16).toArray⟩ ++ l.drop (Sb.tcN l a 16 + Sb.tcV l a 16) := by
  have hv : Sb.tcV l a 16 = Sb.tuV l a := by unfold Sb.tcV; rw [if_pos h]
  have hn : Sb.tcN l a 16 = Sb.tuN l a := by unfold Sb.tcN; rw [if_pos h]
  have hE : Sb.tuE l a = 0 ∧ Sb.tuV l a ≤ 16 ∧ Sb.tuN l a + Sb.tuV l a ≤ l.length := by
    have h0 := Sb.tc_bounds l a 16
    unfold Sb.tcE at h
    by_cases h1 : Sb.tuE l a = 0
    · rw [if_neg (by simpa using h1)] at h
      by_cases h2 : ((16 : Int) < 0 ∨ (16 : Int) < Sb.tuV l a)
      · rw [if_pos h2] at h; exact absurd h (by decide)
      · exact ⟨h1, by omega, by omega⟩
    · rw [if_pos h1] at h; exact absurd h h1
  obtain ⟨h1, h2, h3⟩ := hE
  obtain ⟨i1, i2, i3, i4⟩ := tu_inv h1
  have hl : (Sb.ttS l a 16).length = Sb.tcV l a 16 := by
    unfold Sb.ttS; rw [List.length_take, List.length_drop, hv, hn]; omega
  refine ⟨i1, by rw [hv, hn]; exact h3, hl, by rw [hv]; exact h2, ?_⟩
  unfold nm1
  rw [show (⟨(Sb.ttS l a 16).toArray⟩ : ByteArray).size = (Sb.ttS l a 16).length from by show (Sb.ttS l a 16).toArray.size = _; simp, hl, hv, i4, List.append_assoc]
  congr 1
  show _ = (Sb.ttS l a 16) ++ _
  unfold Sb.ttS
  rw [hv, hn, ← List.drop_drop, List.take_append_drop]
theorem nm1_len (s : ByteArray) : (nm1 s).length = (Sb.put s.size).length + s.size := by unfold nm1; rw [List.length_append, ← size_len]
theorem tc_at {l q : List UInt8} {a : Nat} {s : ByteArray} (h : StA l a (nm1 s ++ q)) (hs : s.size ≤ 16) : Sb.tcE l a 16 = 0 ∧ (⟨(Sb.ttS l a 16).toArray⟩ : ByteArray) = s ∧ Sb.tcN l a 16 + Sb.tcV l a 16 = a + (nm1 s).length := by
  have hsl : s.data.toList.length = s.size := (size_len s).symm
  have h' := h
  unfold nm1 at h
  rw [List.append_assoc] at h
  obtain ⟨e1, e2, e3⟩ := tu_at h (by omega)
  have h2 := h.step
  have hlen := h2.len
  rw [List.length_append, hsl] at hlen
  have hE : Sb.tcE l a 16 = 0 := by
    unfold Sb.tcE
    rw [if_neg (by simpa using e1), if_neg (by rw [e2]; omega), if_neg (by rw [e2, e3]; omega)]
  have hv : Sb.tcV l a 16 = s.size := by unfold Sb.tcV; rw [if_pos hE, e2]
  have hn : Sb.tcN l a 16 = a + (Sb.put s.size).length := by unfold Sb.tcN; rw [if_pos hE, e3]
  refine ⟨hE, ?_, by rw [hv, hn, nm1_len]; omega⟩
  have : Sb.ttS l a 16 = s.data.toList := by
    unfold Sb.ttS
    rw [hv, hn, h2.2, ← hsl, List.take_left']
    rfl
  rw [this]
theorem nms_cons (s : ByteArray) (N : List ByteArray) : nms (s :: N) = nm1 s ++ nms N := by simp [nms]
theorem tNm_inv {l : List UInt8} : ∀ {k a : Nat} {N : List ByteArray} {b : Nat}, tNm l k a = (N, b, 0) → a ≤ l.length → b ≤ l.length ∧ l.drop a = nms N ++ l.drop b
  | 0, a, N, b, h, ha => by
    rw [tNm] at h
    injection h with h1 h2; injection h2 with h2 h3
    subst h1 h2
    exact ⟨ha, rfl⟩
  | k + 1, a, N, b, h, ha => by
    by_cases h0 : Sb.tcE l a 16 = 0
    · rw [tNm_ok h0] at h
      obtain ⟨t, h1, rfl⟩ := cL_inv h
      obtain ⟨i1, i2, i3, i4, i5⟩ := tc_inv h0
      obtain ⟨e1, e2⟩ := tNm_inv h1 i2
      exact ⟨e1, by rw [i5, e2, nms_cons, List.append_assoc]⟩
    · rw [tNm_no h0] at h
      injection h with h1 h2; injection h2 with h2 h3
      exact absurd h3 h0
theorem tNm_at {l q : List UInt8} : ∀ {N : List ByteArray} {a : Nat}, StA l a (nms N ++ q) → (∀ s ∈ N, s.size ≤ 16) → tNm l N.length a = (N, a + (nms N).length, 0)
  | [], a, h, _ => by rw [List.length_nil, tNm]; rfl
  | s :: N, a, h, hs => by
    rw [nms_cons, List.append_assoc] at h
    obtain ⟨e1, e2, e3⟩ := tc_at h (hs s (by simp))
    rw [List.length_cons, tNm_ok e1, e2, e3, tNm_at h.step (fun x hx => hs x (by simp [hx]))]
    unfold cL
    simp only [if_true]
    rw [nms_cons, List.length_append, Nat.add_assoc]

/-! Four bytes. -/
theorem f4_inv {l : List UInt8} {a : Nat} (h : ¬ l.length < a + 4) : l.drop a = four (f4 l a) ++ l.drop (a + 4) := by
  have g : ∀ i (hi : a + i < l.length), l.getD (a + i) 0 = l[a + i] := fun i hi => by rw [List.getD_eq_getElem?_getD, List.getElem?_eq_getElem hi]; rfl
  have g0 := g 0 (by omega)
  have g1 := g 1 (by omega)
  have g2 := g 2 (by omega)
  have g3 := g 3 (by omega)
  have b0 := (l[a + 0]'(by omega)).toNat_lt
  have b1 := (l[a + 1]'(by omega)).toNat_lt
  have b2 := (l[a + 2]'(by omega)).toNat_lt
  have b3 := (l[a + 3]'(by omega)).toNat_lt
  have e : f4 l a = (l[a + 0]'(by omega)).toNat + 256 * (l[a + 1]'(by omega)).toNat + 65536 * (l[a + 2]'(by omega)).toNat + 16777216 * (l[a + 3]'(by omega)).toNat := by
    unfold f4; rw [g1, g2, g3, ← g0]; rfl
  rw [List.drop_eq_getElem_cons (by omega : a < l.length), List.drop_eq_getElem_cons (by omega : a + 1 < l.length), List.drop_eq_getElem_cons (by omega : a + 1 + 1 < l.length), List.drop_eq_getElem_cons (by omega : a + 1 + 1 + 1 < l.length)]
  have k : ∀ (c : UInt8) (n : Nat), n % 256 = c.toNat → UInt8.ofNat n = c := fun c n hn => by
    apply UInt8.toNat_inj.1; rw [UInt8.toNat_ofNat', ← hn]
  unfold four
  rw [k (l[a]'(by omega)) _ (by rw [e]; simp only [Nat.add_zero] at *; omega), k (l[a + 1]'(by omega)) _ (by rw [e]; omega), k (l[a + 1 + 1]'(by omega)) _ (by rw [e]; simp only [show a + 1 + 1 = a + 2 from rfl]; omega), k (l[a + 1 + 1 + 1]'(by omega)) _ (by rw [e]; simp only [show a + 1 + 1 + 1 = a + 3 from rfl]; omega)]
  rfl
theorem f4_at {l q : List UInt8} {a n : Nat} (h : StA l a (four n ++ q)) (hn : n < 4294967296) : f4 l a = n ∧ ¬ l.length < a + 4 := by
  obtain ⟨e, hl⟩ := h.split
  have hlen := h.len
  rw [List.length_append, four_len] at hlen
  have := f4_four (l.take a) q n hn
  rw [hl, List.append_assoc, ← e] at this
  exact ⟨this, by omega⟩

/-! The table. -/
def entE (x : En) : List UInt8 := Sb.put x.1 ++ Sb.put x.2.1 ++ four x.2.2
def entsE (E : List En) : List UInt8 := E.flatMap entE
theorem entsE_cons (x : En) (E : List En) : entsE (x :: E) = entE x ++ entsE E := by simp [entsE]
theorem rE_inv {l : List UInt8} {a : Nat} (h : (rE l a).2.2 = 0) : a ≤ l.length ∧ (rE l a).2.1 ≤ l.length ∧ l.drop a = entE (rE l a).1 ++ l.drop (rE l a).2.1 := by
  obtain ⟨h1, h2, h3, e⟩ := rE_ok h
  have i1 := rN_inv (show rN l a 1099511627776 = ((rN l a 1099511627776).1, (rN l a 1099511627776).2.1, 0) by rw [← h1])
  have i2 := rN_inv (show rN l (rN l a 1099511627776).2.1 1048576 = ((rN l (rN l a 1099511627776).2.1 1048576).1, (rN l (rN l a 1099511627776).2.1 1048576).2.1, 0) by rw [← h2])
  rw [e]
  refine ⟨i1.1, by simp only; omega, ?_⟩
  unfold entE
  simp only
  rw [i1.2.2.2.2, i2.2.2.2.2, f4_inv h3]
  simp only [List.append_assoc]
theorem rE_at {l q : List UInt8} {a : Nat} {x : En} (h : StA l a (entE x ++ q)) (hx : okE x) : rE l a = (x, a + (entE x).length, 0) := by
  obtain ⟨x1, x2, x3⟩ := x
  obtain ⟨k1, k2, k3⟩ := hx
  simp only at k1 k2 k3
  unfold entE at h ⊢
  simp only [List.append_assoc] at h ⊢
  have s1 := h.step
  have s2 := s1.step
  have r1 := rN_at h (by omega) k1
  have r2 := rN_at s1 (by omega) k2
  obtain ⟨r3, r4⟩ := f4_at s2 k3
  unfold rE
  rw [r1]
  simp only [ne_eq, not_true, if_false]
  rw [r2]
  simp only [ne_eq, not_true, if_false]
  unfold rF
  rw [if_neg r4, r3]
  simp only [List.length_append, four_len]
  rw [Nat.add_assoc, Nat.add_assoc]
theorem tEn_inv {l : List UInt8} : ∀ {k a : Nat} {E : List En} {b : Nat}, tEn l k a = (E, b, 0) → a ≤ l.length → b ≤ l.length ∧ l.drop a = entsE E ++ l.drop b
  | 0, a, E, b, h, ha => by
    rw [tEn] at h
    injection h with h1 h2; injection h2 with h2 h3
    subst h1 h2
    exact ⟨ha, rfl⟩
  | k + 1, a, E, b, h, ha => by
    by_cases h0 : (rE l a).2.2 = 0
    · rw [tEn_ok h0] at h
      obtain ⟨t, h1, rfl⟩ := cL_inv h
      obtain ⟨i1, i2, i3⟩ := rE_inv h0
      obtain ⟨e1, e2⟩ := tEn_inv h1 i2
      exact ⟨e1, by rw [i3, e2, entsE_cons, List.append_assoc]⟩
    · rw [tEn_no h0] at h
      injection h with h1 h2; injection h2 with h2 h3
      exact absurd h3 h0
theorem tEn_at {l q : List UInt8} : ∀ {E : List En} {a : Nat}, StA l a (entsE E ++ q) → (∀ x ∈ E, okE x) → tEn l E.length a = (E, a + (entsE E).length, 0)
  | [], a, h, _ => by rw [List.length_nil, tEn]; rfl
  | x :: E, a, h, hx => by
    rw [entsE_cons, List.append_assoc] at h
    have e1 := rE_at h (hx x (by simp))
    rw [List.length_cons, tEn_ok (by rw [e1]), e1, tEn_at h.step (fun y hy => hx y (by simp [hy]))]
    unfold cL
    simp only [if_true]
    rw [entsE_cons, List.length_append, Nat.add_assoc]

end Go.Proofs.YtillcmddbjhepaaGreatDoor
