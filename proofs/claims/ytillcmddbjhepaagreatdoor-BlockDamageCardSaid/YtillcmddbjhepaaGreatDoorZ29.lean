/-
  find, with sort.Search.
  levelAt, with slices.IndexFunc.
  cut.
  Count and Find.
  Find.
  Stored captures, plain mathematics: the head and the blocks, written and read.
-/
import Derived.Test.YtillcmddbjhepaaGreatDoorZ28
import Derived.Test.YtillcmddbjhepaaGreatDoorZ17
import Derived.Test.YtillcmddbjhepaaGreatDoorZ27
import Derived.Test.YtillcmddbjhepaaGreatDoorZ26
namespace Go.Proofs.YtillcmddbjhepaaGreatDoor
open Go Go.RowKit Go.Joins
open Go.BigFrame
set_option linter.unusedVariables false
set_option linter.unusedSimpArgs false

/-- The end of block t. -/
def pE (P : List Pt) (t : Nat) : Nat := (P.getD t (0, 0, 0, 0, 0, ⟨#[]⟩)).2.1
theorem pE_at {P : List Pt} {t : Nat} (h : t < P.length) : pE P t = P[t].2.1 := by
  unfold pE; rw [List.getD_eq_getElem?_getD, List.getElem?_eq_getElem h]; rfl
/-- The first block that ends behind a tick. -/
def FdI (P : List Pt) (at_ : Int) (k : Nat) : Prop := k ≤ P.length ∧ (∀ t, t < k → (pE P t : Int) ≤ at_) ∧ (∀ t, k ≤ t → t < P.length → at_ < (pE P t : Int))
def FdQ (P : List Pt) (at_ : Int) (w : World) (e : Ending) (w' : World) : Prop := ∃ k : Nat, e = .returned (.int .i64 k) ∧ FdI P at_ k ∧ Below w.heap.size w w'

set_option maxRecDepth 20000 in
set_option maxHeartbeats 1000000 in
theorem find1_any (P : List Pt) (vN vP : Value) (T bh ba i : Nat) (at_ : Int) (w : World) (hP : PtArg w vP P) (h1 : RowAt w bh 71 #[vN, .int .i64 T, vP]) (h2 : RowAt w ba 3 #[.int .i64 at_]) (hi : i < P.length) (hl : P.length ≤ 16384) :
    Calls Tryz.prog 79 #[.int .i64 i, .pointer (some ⟨ba, 0, none⟩), .pointer (some ⟨bh, 0, none⟩)] w fun e w' => e = .returned (.bool (decide (at_ < (pE P i : Int)))) ∧ Below w.heap.size w w' := by
  obtain ⟨A, c, rfl, q1⟩ := hP
  obtain ⟨g, o, rfl, hg, hcl⟩ := q1 (by omega)
  have c1 : w.cell? ⟨g, o + i * 6 + 1, none⟩ = some (.int .i64 (pE P i)) := by rw [pE_at hi]; exact hcl i hi 1 (by omega)
  have c2 : w.cell? ⟨bh, 2, none⟩ = some (.slice (some ⟨g, o, none⟩) P.length c) := h1.cell 2
  have c3 : w.cell? ⟨ba, 0, none⟩ = some (.int .i64 at_) := h2.cell 0
  have hii : (i : Int) < P.length := by omega
  clear hcl q1 h1 h2
  generalize pE P i = x at *
  go_enter Tryz.func79, Tryz.ntmps79
  go_wp2
  go_big_quiet (fail)
  go_wp2
  go_returns
  exact ⟨rfl, Go.below_drewN (Below.refl _ _) _⟩

set_option maxRecDepth 20000 in
set_option maxHeartbeats 2000000 in
theorem search_any (P : List Pt) (vN vP : Value) (T bh ba : Nat) (at_ : Int) (w : World) (hP : PtArg w vP P) (h1 : RowAt w bh 71 #[vN, .int .i64 T, vP]) (h2 : RowAt w ba 3 #[.int .i64 at_]) (hl : P.length ≤ 16384) (hm : ∀ s t, s ≤ t → t < P.length → pE P s ≤ pE P t) :
    Calls Tryz.prog 78 #[.int .i64 P.length, .func (.func 79) #[] #[.pointer (some ⟨ba, 0, none⟩), .pointer (some ⟨bh, 0, none⟩)]] w (FdQ P at_ w) := by
  have CF := Lib.hid (fun i (hi : i < P.length) W (hb : Below w.heap.size w W) => find1_any P vN vP T bh ba i at_ W (hP.keep hb) (h1.keep hb) (h2.keep hb) hi hl)
  have HM := Lib.hid hm
  have hli : (P.length : Int) ≤ 16384 := by omega
  clear hP h1 h2 hm
  go_enter Tryz.func78, Tryz.ntmps78
  go_wp2
  go_loopw [5, 6] (fun x y wr => ∃ lo hi : Nat, lo ≤ hi ∧ hi ≤ P.length ∧ x = .int .i64 lo ∧ y = .int .i64 hi ∧ Hid ((∀ t, t < lo → (pE P t : Int) ≤ at_) ∧ (∀ t, hi ≤ t → t < P.length → at_ < (pE P t : Int))) ∧ Hid (Below w.heap.size w wr)) (fun x y _ => (intOf y - intOf x).toNat)
  case atStart => exact ⟨0, P.length, Nat.zero_le _, Nat.le_refl _, rfl, rfl, Lib.hid ⟨fun t h => absurd h (by omega), fun t h1 h2 => absurd h2 (by omega)⟩, Lib.hid (Below.refl _ _)⟩
  case round =>
    obtain ⟨lo, hi, hlh, hhn, rfl, rfl, HI, KB⟩ := hrel
    by_cases hlt : lo < hi
    · obtain ⟨m, hm⟩ : ∃ m, (lo + hi) / 2 = m := ⟨_, rfl⟩
      have hm1 : lo ≤ m := by omega
      have hm2 : m < hi := by omega
      have hmi : ((lo : Int) + (hi : Int)) / 2 = (m : Int) := by omega
      have hlti : (lo : Int) < hi := by omega
      have hmb : (m : Int) ≤ 16384 := by omega
      have CF1 := Lib.hid (CF.out m (by omega) wr KB.out)
      have HLO := Lib.hid (fun (h : ¬ at_ < (pE P m : Int)) => show ∀ t, t < m + 1 → (pE P t : Int) ≤ at_ from fun t ht => by
        have := HM.out t m (by omega) (by omega)
        omega)
      have HHI := Lib.hid (fun (h : at_ < (pE P m : Int)) => show ∀ t, m ≤ t → t < P.length → at_ < (pE P t : Int) from fun t h1 h2 => by
        have := HM.out m t h1 h2
        omega)
      clear hm
      by_cases hp : at_ < (pE P m : Int)
      · have H2 := Lib.hid (HHI.out hp)
        have HI2 := Lib.hid HI.out.1
        rw [decide_eq_true hp] at CF1
        clear HLO HHI hp
        go_wp2_with (first
          | (go_at_call 79; go_must (refine CF1.out.mono ?_; rintro e w1 ⟨rfl, hb⟩; have KB1 := Lib.hid (KB.out.trans (hb.mono KB.out.size)); clear hb CF1))
          | fail)
        go_roundw
        case rel => exact ⟨lo, m, by omega, by omega, rfl, rfl, Lib.hid ⟨HI2.out, H2.out⟩, KB1⟩
        case measure => simp [intOf]; omega
      · have H2 := Lib.hid (HLO.out hp)
        have HI2 := Lib.hid HI.out.2
        rw [decide_eq_false hp] at CF1
        clear HLO HHI hp
        go_wp2_with (first
          | (go_at_call 79; go_must (refine CF1.out.mono ?_; rintro e w1 ⟨rfl, hb⟩; have KB1 := Lib.hid (KB.out.trans (hb.mono KB.out.size)); clear hb CF1))
          | fail)
        go_roundw
        case rel => exact ⟨m + 1, hi, by omega, by omega, val_int (by omega), rfl, Lib.hid ⟨H2.out, HI2.out⟩, KB1⟩
        case measure => simp [intOf]; omega
    · have he : lo = hi := by omega
      subst he
      have HF := Lib.hid (show FdI P at_ lo from ⟨hhn, HI.out.1, HI.out.2⟩)
      clear HI CF HM
      go_wp2
      go_returns
      exact ⟨lo, rfl, HF.out, KB.out⟩

/-- find. -/
def FnR (P : List Pt) (T : Nat) (at_ : Int) (w : World) (e : Ending) (w' : World) : Prop :=
  Below w.heap.size w w' ∧ (if 0 ≤ at_ ∧ at_ < T then ∃ k : Nat, e = .returned (.tuple #[.int .i64 k, .int .i64 0]) ∧ FdI P at_ k else e = .returned (.tuple #[.int .i64 0, .int .i64 2]))
theorem FnR.yes {P : List Pt} {T : Nat} {at_ : Int} {w w' : World} (h0 : 0 ≤ at_) (h1 : at_ < T) {k : Nat} (hk : FdI P at_ k) (hb : Below w.heap.size w w') : FnR P T at_ w (.returned (.tuple #[.int .i64 k, .int .i64 0])) w' :=
  ⟨hb, by rw [if_pos ⟨h0, h1⟩]; exact ⟨k, rfl, hk⟩⟩
theorem FnR.no {P : List Pt} {T : Nat} {at_ : Int} {w w' : World} (h : ¬ (0 ≤ at_ ∧ at_ < T)) (hb : Below w.heap.size w w') : FnR P T at_ w (.returned (.tuple #[.int .i64 0, .int .i64 2])) w' :=
  ⟨hb, by rw [if_neg h]⟩
set_option maxRecDepth 20000 in
set_option maxHeartbeats 2000000 in
theorem find_any (P : List Pt) (vN vP : Value) (T : Nat) (at_ : Int) (w : World) (hP : PtArg w vP P) (hl : P.length ≤ 16384) (hm : ∀ s t, s ≤ t → t < P.length → pE P s ≤ pE P t) :
    Calls Tryz.prog 42 #[.agg #[vN, .int .i64 T, vP], .int .i64 at_] w (FnR P T at_ w) := by
  have KB := Lib.hid ((ba w (.cells #[vN, .int .i64 T, vP] 71)).alloc (le_alloc (Nat.le_refl _) _) (.cells #[.int .i64 at_] 3))
  have R1 := Lib.hid ((RowAt.new w 71 #[vN, .int .i64 T, vP]).alloc (.cells #[.int .i64 at_] 3))
  have R2 := Lib.hid (show RowAt ((w.alloc (.cells #[vN, .int .i64 T, vP] 71)).alloc (.cells #[.int .i64 at_] 3)) (w.heap.size + 1) 3 #[.int .i64 at_] from RowAt.at (by rw [World.size_alloc]))
  obtain ⟨A, c, rfl⟩ := KArg.form hP
  have CS := Lib.hid (fun W (hb : Below ((w.alloc (.cells #[vN, .int .i64 T, .slice A P.length c] 71)).alloc (.cells #[.int .i64 at_] 3)).heap.size ((w.alloc (.cells #[vN, .int .i64 T, .slice A P.length c] 71)).alloc (.cells #[.int .i64 at_] 3)) W) => search_any P vN (.slice A P.length c) T w.heap.size (w.heap.size + 1) at_ W (KArg.keep (KArg.keep hP KB.out) hb) (R1.out.keep hb) (R2.out.keep hb) hl hm)
  clear hP hm
  by_cases h0 : 0 ≤ at_
  · have h0' : ¬ at_ < 0 := by omega
    have h0'' : decide (at_ < 0) = false := decide_eq_false h0'
    by_cases h1 : at_ < T
    · have h1' : ¬ (T : Int) ≤ at_ := by omega
      have h1'' : decide ((T : Int) ≤ at_) = false := decide_eq_false h1'
      go_enter Tryz.func42, Tryz.ntmps42
      go_wp2_with (first
        | (go_at_call 78; go_must (refine (CS.out _ (Below.refl _ _)).mono ?_; rintro e w1 ⟨k, rfl, hk, hb⟩; have HK := Lib.hid hk; have HB := Lib.hid (KB.out.trans (hb.mono KB.out.size)); clear hk hb CS))
        | fail)
      go_returns
      exact FnR.yes h0 h1 HK.out HB.out
    · have h1' : (T : Int) ≤ at_ := by omega
      have h1'' : decide ((T : Int) ≤ at_) = true := decide_eq_true h1'
      clear CS
      go_enter Tryz.func42, Tryz.ntmps42
      go_wp2
      go_returns
      exact FnR.no (fun h => by omega) KB.out
  · have h0' : at_ < 0 := by omega
    have h0'' : decide (at_ < 0) = true := decide_eq_true h0'
    clear CS
    go_enter Tryz.func42, Tryz.ntmps42
    go_wp2
    go_returns
    exact FnR.no (fun h => by omega) KB.out

end Go.Proofs.YtillcmddbjhepaaGreatDoor

namespace Go.Proofs.YtillcmddbjhepaaGreatDoor
open Go Go.RowKit Go.Joins
set_option linter.unusedVariables false
set_option linter.unusedSimpArgs false

theorem cellL {l : List Si.Rn} {A : Option Addr} {n c : Nat} {w w' : World} (hT : Si.RnArg w (.slice A n c) l) (hb : Below w.heap.size w w') (j : Nat) (hj : j < l.length) : ∃ g o, A = some ⟨g, o, none⟩ ∧ w'.cell? ⟨g, o + j * 2, none⟩ = some (.int .i64 l[j].1) := by
  obtain ⟨A', c', e, q⟩ := hT
  simp only [Value.slice.injEq] at e
  obtain ⟨rfl, _, _⟩ := e
  obtain ⟨g, o, e, hg, h⟩ := q (by omega)
  exact ⟨g, o, e, (hb.cell (p := ⟨g, o + j * 2, none⟩) hg).trans (h j hj 0 (by omega))⟩
def LvQ (ba : Nat) (b : Bool) (n : Int) (w : World) (e : Ending) (w' : World) : Prop := e = .returned (.bool b) ∧ RowAt w' ba 3 #[.int .i64 n] ∧ Kp [ba] w w'
set_option maxRecDepth 20000 in
set_option maxHeartbeats 1000000 in
theorem levelAt1_any (x y a : Int) (ba : Nat) (w : World) (h2 : RowAt w ba 3 #[.int .i64 a]) (ha : 0 ≤ a ∧ a ≤ 1099511627776) (hy : 0 ≤ y ∧ y ≤ 1099511627776) :
    Calls Tryz.prog 82 #[.agg #[.int .i64 x, .int .i64 y], .pointer (some ⟨ba, 0, none⟩)] w (LvQ ba (decide (a - y < 0)) (a - y) w) := by
  have hlt := h2.lt
  have hne : ¬ ba = w.heap.size := by omega
  have hne2 : ¬ w.heap.size = ba := by omega
  have R2 := Lib.hid (h2.alloc (.cells #[.int .i64 x, .int .i64 y] 54))
  have c1 : (w.alloc (.cells #[.int .i64 x, .int .i64 y] 54)).cell? ⟨ba, 0, none⟩ = some (.int .i64 a) := R2.out.cell 0
  have c2 : (w.alloc (.cells #[.int .i64 x, .int .i64 y] 54)).frozen? ⟨ba, 0, none⟩ = false := R2.out.frozen 0
  have d1 : w.cell? ⟨ba, 0, none⟩ = some (.int .i64 a) := h2.cell 0
  have d2 : w.frozen? ⟨ba, 0, none⟩ = false := h2.frozen 0
  have H2 := Lib.hid h2
  obtain ⟨ha1, ha2⟩ := ha
  obtain ⟨hy1, hy2⟩ := hy
  clear h2
  go_enter Tryz.func82, Tryz.ntmps82
  go_wp2
  go_returns
  refine ⟨rfl, ?_, ?_⟩
  · first
      | exact R2.out.set1 _
      | exact (H2.out.set1 _).alloc _
  · first
      | exact Kp.setCell (p := ⟨ba, 0, none⟩) ((Kp.refl [ba] w).alloc _) (.inl (by simp)) _
      | exact (Kp.setCell (p := ⟨ba, 0, none⟩) (Kp.refl [ba] w) (.inl (by simp)) _).alloc _

def IxQ (l : List Si.Rn) (a : Int) (ba : Nat) (w : World) (e : Ending) (w' : World) : Prop := ∃ j : Nat, e = .returned (.int .i64 j) ∧ j < l.length ∧ Si.lg (l.take j) ≤ a ∧ a < Si.lg (l.take (j + 1)) ∧ Kp [ba] w w'
set_option maxRecDepth 20000 in
set_option maxHeartbeats 2000000 in
theorem indexFunc_any (l : List Si.Rn) (v : Value) (a : Int) (ba : Nat) (w : World) (hT : Si.RnArg w v l) (hba : ∀ g o n c, v = .slice (some ⟨g, o, none⟩) n c → g ≠ ba) (h2 : RowAt w ba 3 #[.int .i64 a]) (ha : 0 ≤ a ∧ a ≤ 1099511627776) (hy : ∀ r ∈ l, 0 ≤ r.2 ∧ r.2 ≤ 1099511627776) (hlg : a < Si.lg l) (hn : l.length ≤ 1000000) :
    Calls Tryz.prog 81 #[v, .func (.func 82) #[] #[.pointer (some ⟨ba, 0, none⟩)]] w (IxQ l a ba w) := by
  obtain ⟨A, c, rfl⟩ := KArg.form hT
  have HT := Lib.hid hT
  have HBA := Lib.hid hba
  have HY := Lib.hid (fun j (hj : j < l.length) => hy _ (List.getElem_mem hj))
  have HLG := Lib.hid hlg
  have HR0 := Lib.hid (show RowAt w ba 3 #[.int .i64 (a - Si.lg (l.take 0))] by rw [List.take_zero, show Si.lg [] = 0 from rfl, Int.sub_zero]; exact h2)
  have hli : (l.length : Int) ≤ 1000000 := by omega
  have HA := Lib.hid ha
  clear hT hba hy hlg h2 ha
  go_enter Tryz.func81, Tryz.ntmps81
  go_wp2
  go_loopw [8] (fun i wr => ∃ j : Nat, j ≤ l.length ∧ i = .int .i64 j ∧ Hid (Si.lg (l.take j) ≤ a ∧ 0 ≤ Si.lg (l.take j)) ∧ Hid (RowAt wr ba 3 #[.int .i64 (a - Si.lg (l.take j))]) ∧ Hid (Kp [ba] w wr)) (fun i _ => l.length - (intOf i).toNat)
  case atStart => exact ⟨0, Nat.zero_le _, rfl, Lib.hid ⟨by rw [List.take_zero]; exact HA.out.1, by rw [List.take_zero]; exact Int.le_refl _⟩, HR0, Lib.hid (Kp.refl _ _)⟩
  case round =>
    clear HR0
    obtain ⟨j, hj, rfl, HL, HR, HK⟩ := hrel
    by_cases hlt : j < l.length
    · obtain ⟨_, _, e1, q1⟩ := HT.out
      obtain ⟨g, o, rfl, hg, hcl⟩ := q1 (by omega)
      simp only [Value.slice.injEq, true_and, and_true] at e1
      obtain ⟨rfl, rfl⟩ := e1
      have hgb := HBA.out g o _ _ rfl
      have f0 : wr.cell? ⟨g, o + j * 2, none⟩ = some (.int .i64 l[j].1) := (HK.out.cell (p := ⟨g, o + j * 2, none⟩) hg (by simpa using hgb)).trans (hcl j hlt 0 (by omega))
      have f1 : wr.cell? ⟨g, o + j * 2 + 1, none⟩ = some (.int .i64 l[j].2) := (HK.out.cell (p := ⟨g, o + j * 2 + 1, none⟩) hg (by simpa using hgb)).trans (hcl j hlt 1 (by omega))
      have hji : (j : Int) < l.length := by omega
      have HST := Lib.hid (Si.lg_take l j hlt)
      have hyj := HY.out j hlt
      have CF := Lib.hid (levelAt1_any l[j].1 l[j].2 (a - Si.lg (l.take j)) ba wr HR.out (by have := HL.out; have := HA.out; omega) hyj)
      have HYJ := Lib.hid hyj
      clear hcl q1 hyj
      generalize l[j].1 = x at *
      generalize l[j].2 = y at *
      by_cases hp : a - Si.lg (l.take j) - y < 0
      · rw [decide_eq_true hp] at CF
        have HQ := Lib.hid (show Si.lg (l.take j) ≤ a ∧ a < Si.lg (l.take (j + 1)) from ⟨HL.out.1, by rw [HST.out]; omega⟩)
        clear hp HL HST HR
        generalize a - Si.lg (l.take j) = z at *
        go_wp2_with (first
          | (go_at_call 82; go_must (refine CF.out.mono ?_; rintro e w1 ⟨rfl, hr, hk⟩; have HK1 := Lib.hid (HK.out.trans hk); clear hr hk CF))
          | fail)
        go_returns
        exact ⟨j, rfl, hlt, HQ.out.1, HQ.out.2, HK1.out⟩
      · rw [decide_eq_false hp] at CF
        have HL2 := Lib.hid (show Si.lg (l.take (j + 1)) ≤ a ∧ 0 ≤ Si.lg (l.take (j + 1)) ∧ a - Si.lg (l.take j) - y = a - Si.lg (l.take (j + 1)) from ⟨by rw [HST.out]; omega, by rw [HST.out]; have := HL.out.2; have := HYJ.out.1; omega, by rw [HST.out]; omega⟩)
        clear hp HL HST HR
        rw [HL2.out.2.2] at CF
        go_wp2_with (first
          | (go_at_call 82; go_must (refine CF.out.mono ?_; rintro e w1 ⟨rfl, hr, hk⟩; have HK1 := Lib.hid (HK.out.trans hk); have HR1 := Lib.hid hr; clear hr hk CF))
          | fail)
        go_roundw
        case rel => exact ⟨j + 1, by omega, val_int (by omega), Lib.hid ⟨HL2.out.1, HL2.out.2.1⟩, HR1, HK1⟩
        case measure => simp [intOf]; omega
    · have he : l.take j = l := List.take_of_length_le (by omega)
      have := HL.out.1
      rw [he] at this
      have := HLG.out
      omega

set_option maxRecDepth 20000 in
set_option maxHeartbeats 2000000 in
/-- levelAt: the level at a tick. -/
theorem levelAt_any (l : List Si.Rn) (v : Value) (a : Int) (w : World) (hT : Si.RnArg w v l) (ha : 0 ≤ a ∧ a ≤ 1099511627776) (hy : ∀ r ∈ l, 1 ≤ r.2 ∧ r.2 ≤ 1099511627776) (hlg : a < Si.lg l) (hn : l.length ≤ 1000000) :
    Calls Tryz.prog 45 #[v, .int .i64 a] w fun e w' => e = .returned (.int .i64 (Si.atv l a).1) ∧ Below w.heap.size w w' := by
  have hps : Si.ps l := fun r hr => (hy r hr).1
  have HX := Lib.hid (fun j (hj : j < l.length) (h1 : Si.lg (l.take j) ≤ a) (h2 : a < Si.lg (l.take (j + 1))) => Si.atv_run hps hj h1 h2)
  have HT := Lib.hid hT
  have CI := Lib.hid (indexFunc_any l v a w.heap.size (w.alloc (.cells #[.int .i64 a] 3)) (KArg.keep hT (ba w _)) (fun g o n c e => by
    obtain ⟨A, c', e2, q⟩ := hT
    rw [e] at e2
    simp only [Value.slice.injEq] at e2
    obtain ⟨e3, _, _⟩ := e2
    have hl0 : 0 < l.length := by
      rcases Nat.eq_zero_or_pos l.length with h | h
      · have : l = [] := List.eq_nil_of_length_eq_zero h
        subst this
        have : Si.lg [] = 0 := rfl
        omega
      · exact h
    obtain ⟨g', o', e4, hg, _⟩ := q hl0
    rw [e4] at e3
    simp only [Option.some.injEq, Addr.mk.injEq, and_true] at e3
    omega) (RowAt.new w _ _) ha (fun r hr => by have := hy r hr; omega) hlg hn)
  have HK0 := Lib.hid ((Kp.refl [w.heap.size] w).alloc (.cells #[.int .i64 a] 3))
  obtain ⟨A, c, rfl⟩ := KArg.form hT
  clear hT hy hlg hps
  go_enter Tryz.func45, Tryz.ntmps45
  go_wp2_with (first
    | (go_at_call 81; go_must (refine CI.out.mono ?_; rintro e w1 ⟨j, rfl, hj, h1, h2, hk⟩; have HJ := Lib.hid (HX.out j hj h1 h2); have HK := Lib.hid (HK0.out.trans (hk.mono (fun k _ h => h))); have hji : (j : Int) < l.length := (by omega); have hjc := cellL HT.out (HK.out.old (by simp)) j hj; obtain ⟨g, o, rfl, f0⟩ := hjc; clear h1 h2 hk CI HX))
    | fail)
  go_returns
  exact ⟨by rw [HJ.out]; rfl, HK.out.old (by simp)⟩

end Go.Proofs.YtillcmddbjhepaaGreatDoor

namespace Go.Proofs.YtillcmddbjhepaaGreatDoor
open Go Go.RowKit Go.Joins Si
open Go.BigFrame
set_option linter.unusedVariables false
set_option linter.unusedSimpArgs false

set_option maxRecDepth 100000 in
set_option maxHeartbeats 8000000 in
theorem cut_any (m : Int) (R : List Rn) (V : Value) (F T : Int) (w : World) (hT : RnArg w V R) (hn : R.length ≤ 262144) (hv : vr m 0 R = true) (hF0 : 0 ≤ F) (hF1 : F ≤ 1099511627776) (hT0 : 0 ≤ T) (hT1 : T ≤ 1099511627776) :
    Calls Tryz.prog 46 #[V, .int .i64 F, .int .i64 T] w fun e w' => ∃ v : Value, e = .returned v ∧ RnRow w' w.heap.size v (prt R F T) ∧ Below w.heap.size w w' := by
  obtain ⟨A, c, rfl, hA⟩ := hT
  have HA := Lib.hid hA
  have HV := Lib.hid hv
  have hps := ((vr_iff m R 0 (by omega)).1 hv).2.1
  have HPS := Lib.hid hps
  have hn' : (R.length : Int) ≤ 262144 := by omega
  clear hA hv hps
  go_enter Tryz.func46, Tryz.ntmps46
  go_wp2
  go_loopw [16, 7, 8] (fun i r s wr => ∃ j : Nat, j ≤ R.length ∧ i = .int .i64 j ∧ s = .int .i64 (lg (R.take j)) ∧ Hid (RnRow wr w.heap.size r (prt (R.take j) F T)) ∧ Hid (Below w.heap.size w wr)) (fun i _ _ _ => R.length - (intOf i).toNat)
  case atStart => exact ⟨0, Nat.zero_le _, rfl, rfl, Lib.hid (KRow.nil _ _), Lib.hid (Below.refl _ _)⟩
  case round =>
    obtain ⟨j, hj, rfl, rfl, HR, HB⟩ := hrel
    have hb := HB.out
    by_cases hjl : j < R.length
    · obtain ⟨g, o, rfl, hg, hc⟩ := HA.out (by omega)
      obtain ⟨a0, a1⟩ := arg_two hc j hjl
      have f0 := (hb.cell (p := ⟨g, o + j * 2, none⟩) hg).trans a0
      have f1 := (hb.cell (p := ⟨g, o + j * 2 + 1, none⟩) hg).trans a1
      have hr := lg_take_range HV.out j
      have hx := el_range HV.out j hjl
      have hle := prt_lg_le (f := F) (t := T) (ps_take HPS.out (j + 1))
      have hr2 := lg_take_range HV.out (j + 1)
      have htk := Lib.hid (lg_take R j hjl)
      have hsl := prt_take_len R j F T
      have hpe := prt_ps (R.take j) F T
      have hY : max (lg (R.take j)) F < min (lg (R.take j) + R[j].2) T → prt (R.take (j + 1)) F T = pt (prt (R.take j) F T) (R[j].1, min (lg (R.take j) + R[j].2) T - max (lg (R.take j)) F) := fun h => prt_yes hjl h
      have hN : ¬ max (lg (R.take j)) F < min (lg (R.take j) + R[j].2) T → prt (R.take (j + 1)) F T = prt (R.take j) F T := fun h => prt_no hjl h
      have HB2 := Lib.hid (show Below w.heap.size w (wr.alloc (.cells #[.int .i64 R[j].1, .int .i64 R[j].2] 54)) from hb.alloc hb.size _)
      have HR2 := Lib.hid (show RnRow (wr.alloc (.cells #[.int .i64 R[j].1, .int .i64 R[j].2] 54)) w.heap.size _ (prt (R.take j) F T) from HR.out.alloc _)
      have HBOX := Lib.hid (RowAt.new wr 54 #[.int .i64 R[j].1, .int .i64 R[j].2])
      clear a0 a1 hc
      generalize R[j].1 = x0 at *
      generalize R[j].2 = x1 at *
      generalize lg (R.take j) = S at *
      generalize prt (R.take j) F T = E at *
      obtain ⟨_, hx1, hx2⟩ := hx
      have hS1 : ∀ lo hi : Int, max S F = lo → min (S + x1) T = hi → (lo < hi → Hid (prt (R.take (j + 1)) F T = pt E (x0, hi - lo)) ∧ lg E + (hi - lo) ≤ 1099511627776) ∧ (¬ lo < hi → Hid (prt (R.take (j + 1)) F T = E)) := by
        intro lo hi e1 e2
        rw [e1, e2] at hY hN
        refine ⟨fun h => ⟨Lib.hid (hY h), ?_⟩, fun h => Lib.hid (hN h)⟩
        have := hY h
        rw [this, pt_lg] at hle
        simp only at hle
        omega
      clear hY hN hle
      obtain ⟨UA, UN, UC, rfl, hUN⟩ := HR.out.form
      have HUN := Lib.hid hUN
      clear hUN
      have HE := Lib.hid hpe
      clear hpe hr2
      obtain ⟨hy, hz⟩ := hS1 _ _ rfl rfl
      clear hS1
      have hm0 : 0 ≤ max S F ∧ max S F ≤ 1099511627776 := by omega
      have hm1 : 0 ≤ min (S + x1) T ∧ min (S + x1) T ≤ 1099511627776 := by omega
      obtain ⟨LO, hLO⟩ : ∃ LO, max S F = LO := ⟨_, rfl⟩
      obtain ⟨HI, hHI⟩ : ∃ HI, min (S + x1) T = HI := ⟨_, rfl⟩
      rw [hLO] at hm0 hy hz
      rw [hHI] at hm1 hy hz
      by_cases hlt : LO < HI
      · obtain ⟨HST, hld⟩ := hy hlt
        have hD : ¬ HI - LO ≤ 0 := by omega
        have hD0 : 0 ≤ HI - LO ∧ HI - LO ≤ 1099511627776 := by omega
        have HLD := Lib.hid hld
        clear hy hz hld hlt
        rcases nil_or_snoc E with hE | ⟨q, y, hE⟩
        · subst hE
          have hu := HUN.out
          rw [List.length_nil] at hu
          subst hu
          have HF := Lib.hid (show prt (R.take (j + 1)) F T = [] ++ [(x0, HI - LO)] by rw [HST.out]; rfl)
          clear HST HLD HE HUN
          have HLN := Lib.hid (show ([] : List Rn).length + 1 ≤ 4398046511104 by simp)
          go_wp2
          go_big_quiet (fail)
          have k0 : ((wr.alloc (.cells #[.int .i64 x0, .int .i64 x1] 54)).drewN nq).cell? ⟨wr.heap.size, 0, none⟩ = some (.int .i64 x0) := HBOX.out.cell 0
          go_wp2_with (first
            | (at_builtin; go_must (refine wpList_append_rn rfl (.tmp 58) (.tmp 63) rfl rfl rfl rfl (World.size_alloc _ _).symm (HR2.out.drewN _) (le_drewN HB2.out.size _) HLN.out ?_; intro v5 w5 R5 b5))
            | fail)
          go_roundw
          case rel => exact ⟨j + 1, by omega, val_int (by omega), val_int (by rw [htk.out]), Lib.hid (by rw [HF.out]; exact R5), Lib.hid ((Go.below_drewN HB2.out _).trans b5)⟩
          case measure => simp [intOf]; omega
        · subst hE
          obtain ⟨y0, y1⟩ := y
          have hu := HUN.out
          obtain ⟨G, C, hfull⟩ := HR.out.full (by simp)
          simp only [Value.slice.injEq] at hfull
          obtain ⟨rfl, hfl, rfl⟩ := hfull
          clear hfl
          rw [List.length_append] at hu
          simp only [List.length_cons, List.length_nil, Nat.zero_add] at hu
          have hK : (q ++ [((y0, y1) : Rn)]).length = q.length + 1 := by simp
          obtain ⟨c0, c1, z0, z1⟩ := RnRow.two HR.out q.length (by simp)
          simp only [List.getElem_concat_length] at c0 c1
          have hg := HE.out
          rw [ps_append] at hg
          have hy1 : 1 ≤ y1 := hg.2 (y0, y1) (by simp)
          have hq0 := ps_nonneg hg.1
          have hGl := HR.out.len.2.2.2
          have hcap : (q.length : Int) + 1 ≤ UC := by have := HR.out.len.2.1; omega
          have hld := HLD.out
          rw [lg_append, lg_one] at hld
          simp only at hld
          have hql : (q.length : Int) ≤ 300000 := by rw [hK] at hsl; omega
          have hp : pt (q ++ [(y0, y1)]) (x0, HI - LO) = if y0 = x0 then q ++ [(y0, y1 + (HI - LO))] else q ++ [(y0, y1)] ++ [(x0, HI - LO)] := by rw [pt_snoc]
          have v2 : (UN : Int) - 1 = (q.length : Int) := by omega
          have v1 : IntKind.i64.wrap ((UN : Int) - 1) = (q.length : Int) := by rw [v2]; exact IntWalk.i64_in _ (by omega)
          have v3 : (q.length : Int) < UN := by omega
          have v4 : (UN : Int) ≤ 300001 := by omega
          have v5 : (0 : Int) ≤ (q.length : Int) := by omega
          have v6 : q.length < UN := by omega
          have hgW : ¬ G = wr.heap.size := by omega
          clear hg hsl hK HUN HE hu
          by_cases hxy : y0 = x0
          · rw [if_pos hxy] at hp
            have HF := Lib.hid (show prt (R.take (j + 1)) F T = q ++ [(y0, y1 + (HI - LO))] by rw [HST.out, hp])
            have hq : (y0 == x0) = true := by simpa using hxy
            have d1 : ((wr.alloc (.cells #[.int .i64 x0, .int .i64 x1] 54)).drewN 0).cell? ⟨G, q.length * 2 + 1, none⟩ = some (.int .i64 y1) := ((ba wr _).cell (p := ⟨G, q.length * 2 + 1, none⟩) hGl).trans c1
            have d2 : ((wr.alloc (.cells #[.int .i64 x0, .int .i64 x1] 54)).drewN 0).frozen? ⟨G, q.length * 2 + 1, none⟩ = false := ((ba wr _).frozen (p := ⟨G, q.length * 2 + 1, none⟩) hGl).trans z1
            have DD1 := Lib.hid d1
            have DD2 := Lib.hid d2
            have hsum : y1 + (HI - LO) ≤ 1099511627776 := by omega
            have HSET := Lib.hid (fun (W : World) (h : RnRow W w.heap.size (.slice (some ⟨G, 0, none⟩) UN UC) (q ++ [(y0, y1)])) => show RnRow (W.setCell ⟨G, q.length * 2 + 1, none⟩ (.int .i64 (y1 + (HI - LO)))) w.heap.size (.slice (some ⟨G, 0, none⟩) UN UC) (q ++ [(y0, y1 + (HI - LO))]) by
              have h2 := KRow.cellSet rnC_size h q.length 1 (by simp) (by omega) (.int .i64 (y1 + (HI - LO))) (y0, y1 + (HI - LO)) (by rw [List.getElem_concat_length rfl]; rfl)
              rw [List.set_append, if_neg (by omega), Nat.sub_self] at h2
              exact h2)
            have HBG := Lib.hid (show w.heap.size ≤ G from HR.out.len.2.2.1)
            clear hp HST hxy d1 d2
            go_wp2
            go_big_quiet (fail)
            have d1 : ((wr.alloc (.cells #[.int .i64 x0, .int .i64 x1] 54)).drewN nq).cell? ⟨G, q.length * 2 + 1, none⟩ = some (.int .i64 y1) := DD1.out
            have d2 : ((wr.alloc (.cells #[.int .i64 x0, .int .i64 x1] 54)).drewN nq).frozen? ⟨G, q.length * 2 + 1, none⟩ = false := DD2.out
            go_wp2
            go_roundw
            case rel => exact ⟨j + 1, by omega, val_int (by omega), val_int (by rw [htk.out]), Lib.hid (by rw [HF.out]; first | exact HSET.out _ (HR2.out.drewN _) | exact (HSET.out _ HR.out).alloc _), Lib.hid (by first | exact Below.setCell (p := ⟨G, q.length * 2 + 1, none⟩) (Go.below_drewN HB2.out _) HBG.out _ | exact Go.below_drewN (Below.alloc (Below.setCell (p := ⟨G, q.length * 2 + 1, none⟩) HB.out HBG.out _) (le_setCell HB.out.size _ _) _) _)⟩
            case measure => simp [intOf]; omega
          · rw [if_neg hxy] at hp
            have HF := Lib.hid (show prt (R.take (j + 1)) F T = q ++ [(y0, y1)] ++ [(x0, HI - LO)] by rw [HST.out, hp])
            have hq : (y0 == x0) = false := by simpa using hxy
            have HLN := Lib.hid (show (q ++ [((y0, y1) : Rn)]).length + 1 ≤ 4398046511104 by simp; omega)
            clear hp HST hxy
            go_wp2
            go_big_quiet (fail)
            have k0 : ((wr.alloc (.cells #[.int .i64 x0, .int .i64 x1] 54)).drewN nq).cell? ⟨wr.heap.size, 0, none⟩ = some (.int .i64 x0) := HBOX.out.cell 0
            go_wp2_with (first
              | (at_builtin; go_must (refine wpList_append_rn rfl (.tmp 58) (.tmp 63) rfl rfl rfl rfl (World.size_alloc _ _).symm (HR2.out.drewN _) (le_drewN HB2.out.size _) HLN.out ?_; intro v5 w5 R5 b5))
              | fail)
            go_roundw
            case rel => exact ⟨j + 1, by omega, val_int (by omega), val_int (by rw [htk.out]), Lib.hid (by rw [HF.out]; exact R5), Lib.hid ((Go.below_drewN HB2.out _).trans b5)⟩
            case measure => simp [intOf]; omega
      · have HST := hz hlt
        have hD : HI - LO ≤ 0 := by omega
        clear hy hz hlt
        go_wp2
        go_roundw
        case rel => exact ⟨j + 1, by omega, val_int (by omega), val_int (by rw [htk.out]), Lib.hid (by rw [HST.out]; exact HR2.out), HB2⟩
        case measure => simp [intOf]; omega
    · have he : R.take j = R := List.take_of_length_le (by omega)
      rw [he] at HR
      clear he
      go_wp2
      go_returns
      exact ⟨_, rfl, HR.out, hb⟩

end Go.Proofs.YtillcmddbjhepaaGreatDoor

namespace Go.Proofs.YtillcmddbjhepaaGreatDoor
open Go Go.RowKit Go.Joins
set_option linter.unusedVariables false
set_option linter.unusedSimpArgs false

theorem hdPts_len (l : List UInt8) : (hdPts l).length = (rd l).1.2.2.2.1.length := by unfold hdPts; rw [ptG_len]

set_option maxRecDepth 20000 in
set_option maxHeartbeats 1000000 in
theorem count_any (s : ByteArray) (w : World) (hE : Sd.Env w) (hs : s.size ≤ 140737488351232) :
    Calls Tryz.prog 14 #[.string s] w fun e w' => e = .returned (.tuple #[.int .i64 (rd s.data.toList).1.2.2.2.1.length, .int .i64 (rd s.data.toList).2]) ∧ Below w.heap.size w w' := by
  have CH := Lib.hid (readHead_any s w hE hs)
  have HLN := Lib.hid (hdPts_len s.data.toList)
  unfold HdR at CH
  generalize hdPts s.data.toList = P at *
  generalize rd s.data.toList = p at *
  clear hE
  go_enter Tryz.func14, Tryz.ntmps14
  go_wp2_with (first
    | (go_at_call 38; go_must (refine CH.out.mono ?_; rintro e w1 ⟨vN, vP, T, er, rfl, hE, hT, hb, hN, hP⟩; obtain ⟨nA, nn, nc, rfl, hnn⟩ := KRow.form hN; obtain ⟨pA, pn, pc, rfl, hpn⟩ := KRow.form hP; have HB := Lib.hid hb; have HX := Lib.hid (show pn = p.1.2.2.2.1.length ∧ er = p.2 from ⟨hpn.trans HLN.out, hE⟩); clear hnn hpn hE hT hb hN hP CH))
    | fail)
  go_returns
  exact ⟨by rw [← HX.out.1, ← HX.out.2]; rfl, HB.out.alloc HB.out.size _⟩

end Go.Proofs.YtillcmddbjhepaaGreatDoor

namespace Go.Proofs.YtillcmddbjhepaaGreatDoor
open Go Go.RowKit Go.Joins
set_option linter.unusedVariables false
set_option linter.unusedSimpArgs false

theorem rd_form (l : List UInt8) : (∃ e, e ≠ 0 ∧ rd l = (noH, e)) ∨ ∃ N R T E b, rd l = ((N, R, T, E, b), 0) ∧ asc E T ∧ rH l = ((N, R, T, E, b), 0) := by
  obtain ⟨⟨⟨N, R, T, E, b⟩, e⟩, h⟩ : ∃ p, rH l = p := ⟨_, rfl⟩
  unfold rd
  rw [h]
  simp only
  by_cases c0 : e = 0
  · subst c0
    rw [if_pos rfl]
    by_cases c1 : asc E T
    · rw [if_pos c1]
      by_cases c2 : l.length - b < szE E
      · rw [if_pos c2]; exact .inl ⟨5, by decide, rfl⟩
      · rw [if_neg c2]
        by_cases c3 : szE E < l.length - b
        · rw [if_pos c3]; exact .inl ⟨4, by decide, rfl⟩
        · rw [if_neg c3]; exact .inr ⟨N, R, T, E, b, rfl, c1, rfl⟩
    · rw [if_neg c1]; exact .inl ⟨12, by decide, rfl⟩
  · rw [if_neg c0]; exact .inl ⟨e, c0, rfl⟩
theorem eA_mono {E : List En} {T : Nat} (h : asc E T) : ∀ t s, s ≤ t → t ≤ E.length → eA E T s ≤ eA E T t := by
  intro t
  induction t with
  | zero => intro s hs _; obtain rfl : s = 0 := (by omega); exact Nat.le_refl _
  | succ t ih =>
    intro s hs ht
    rcases Nat.eq_or_lt_of_le hs with e | e
    · subst e; exact Nat.le_refl _
    · have h1 := ih s (by omega) (by omega)
      have h2 := ((asc_iff E T).1 h).2 t (by omega)
      rw [← eA_in (T := T) (show t < E.length by omega)] at h2
      omega
theorem hdPts_end {l : List UInt8} {N : List ByteArray} {R T : Nat} {E : List En} {b : Nat} (h : rd l = ((N, R, T, E, b), 0)) (t : Nat) (ht : t < E.length) : pE (hdPts l) t = eA E T (t + 1) := by
  have hl : t < (hdPts l).length := by rw [hdPts_len, h]; exact ht
  rw [pE_at hl]
  have : hdPts l = ptG R E T (l.drop b) E.length := by unfold hdPts; rw [h]
  simp only [this, ptG_at]
  rfl
theorem hdPts_mono (l : List UInt8) : ∀ s t, s ≤ t → t < (hdPts l).length → pE (hdPts l) s ≤ pE (hdPts l) t := by
  intro s t hs ht
  rcases rd_form l with ⟨e, _, h⟩ | ⟨N, R, T, E, b, h, ha, _⟩
  · rw [hdPts_len, h] at ht; exact absurd ht (by simp [noH])
  · have ht' : t < E.length := by rw [hdPts_len, h] at ht; exact ht
    rw [hdPts_end h t ht', hdPts_end h s (by omega)]
    exact eA_mono ha _ _ (by omega) (by omega)
theorem hdPts_small (l : List UInt8) : (hdPts l).length ≤ 16384 := by
  rw [hdPts_len]
  rcases rd_form l with ⟨e, _, h⟩ | ⟨N, R, T, E, b, h, ha, h2⟩
  · rw [h]; simp [noH]
  · rw [h]
    obtain ⟨_, i2, _, i4, _, _⟩ := rH_inv h2
    show E.length ≤ 16384
    rw [i4]; unfold bkN; omega

/-- What Find gives. -/
def FiR (l : List UInt8) (at_ : Int) (w : World) (e : Ending) (w' : World) : Prop :=
  if (rd l).2 = 0 then FnR (hdPts l) (rd l).1.2.2.1 at_ w e w' else e = .returned (.tuple #[.int .i64 0, .int .i64 (rd l).2]) ∧ Below w.heap.size w w'
theorem FiR.bad {l : List UInt8} {at_ : Int} {w w' : World} {er : Nat} (h : er = (rd l).2) (h0 : er ≠ 0) (hb : Below w.heap.size w w') : FiR l at_ w (.returned (.tuple #[.int .i64 0, .int .i64 er])) w' := by
  unfold FiR; rw [if_neg (by rw [← h]; exact h0), h]; exact ⟨rfl, hb⟩
theorem FnR.back {P : List Pt} {T : Nat} {at_ : Int} {w w1 w2 : World} {e : Ending} (h : FnR P T at_ w1 e w2) (hb : Below w.heap.size w w1) (hs : w.heap.size ≤ w1.heap.size) : FnR P T at_ w e w2 := ⟨hb.trans (h.1.mono hs), h.2⟩
theorem FnR.form {P : List Pt} {T : Nat} {at_ : Int} {w w2 : World} {e : Ending} (h : FnR P T at_ w e w2) : ∃ a b : Nat, e = .returned (.tuple #[.int .i64 a, .int .i64 b]) := by
  have h := h.2
  by_cases c : 0 ≤ at_ ∧ at_ < T
  · rw [if_pos c] at h; obtain ⟨k, h, _⟩ := h; exact ⟨k, 0, h⟩
  · rw [if_neg c] at h; exact ⟨0, 2, h⟩

set_option maxRecDepth 20000 in
set_option maxHeartbeats 1000000 in
theorem Find_any (s : ByteArray) (at_ : Int) (w : World) (hE : Sd.Env w) (hs : s.size ≤ 140737488351232) :
    Calls Tryz.prog 16 #[.string s, .int .i64 at_] w (FiR s.data.toList at_ w) := by
  have CH := Lib.hid (readHead_any s w hE hs)
  have CF := Lib.hid (fun vN vP W (hP : PtArg W vP (hdPts s.data.toList)) => find_any (hdPts s.data.toList) vN vP (rd s.data.toList).1.2.2.1 at_ W hP (hdPts_small _) (hdPts_mono _))
  unfold HdR at CH
  obtain ⟨er0, he0⟩ : ∃ e, (rd s.data.toList).2 = e := ⟨_, rfl⟩
  rw [he0] at CH
  obtain ⟨T0, hT0⟩ : ∃ T, (rd s.data.toList).1.2.2.1 = T := ⟨_, rfl⟩
  rw [hT0] at CH CF
  clear hE
  by_cases h0 : er0 = 0
  · subst h0
    have HF := Lib.hid (fun e w' (h : FnR (hdPts s.data.toList) T0 at_ w e w') => show FiR s.data.toList at_ w e w' by unfold FiR; rw [if_pos he0, hT0]; exact h)
    clear he0 hT0
    go_enter Tryz.func16, Tryz.ntmps16
    go_wp2_with (first
      | (go_at_call 38; go_must (refine CH.out.mono ?_; rintro e w1 ⟨vN, vP, T, er, rfl, hE, hT, hb, hN, hP⟩; obtain rfl : er = 0 := hE; obtain rfl : T = T0 := hT; obtain ⟨nA, nn, nc, rfl, hnn⟩ := KRow.form hN; obtain ⟨pA, pn, pc, rfl, hpn⟩ := KRow.form hP; have HB := Lib.hid (hb.alloc hb.size (.cells #[.slice nA nn nc, .int .i64 T, .slice pA pn pc] 71)); have HP := Lib.hid (KArg.keep (KRow.arg ptC_size hP) (ba w1 (.cells #[.slice nA nn nc, .int .i64 T, .slice pA pn pc] 71))); clear hnn hpn hb hN hP CH))
      | (go_at_call 42; go_must (refine (CF.out _ _ _ HP.out).mono ?_; rintro e w2 hf; have HFN := Lib.hid (hf.back HB.out HB.out.size); obtain ⟨k1, k2, rfl⟩ := hf.form; clear hf CF))
      | fail)
    go_returns
    exact HF.out _ _ HFN.out
  · have h0' : ((er0 : Int) != 0) = true := by simp; omega
    have HE0 := Lib.hid he0.symm
    clear he0 hT0 CF
    go_enter Tryz.func16, Tryz.ntmps16
    go_wp2_with (first
      | (go_at_call 38; go_must (refine CH.out.mono ?_; rintro e w1 ⟨vN, vP, T, er, rfl, hE, hT, hb, hN, hP⟩; obtain rfl : er = er0 := hE; obtain ⟨nA, nn, nc, rfl, hnn⟩ := KRow.form hN; obtain ⟨pA, pn, pc, rfl, hpn⟩ := KRow.form hP; have HB := Lib.hid (hb.alloc hb.size (.cells #[.slice nA nn nc, .int .i64 T, .slice pA pn pc] 71)); clear hnn hpn hT hb hN hP CH))
      | fail)
    go_returns
    exact FiR.bad HE0.out h0 HB.out

end Go.Proofs.YtillcmddbjhepaaGreatDoor

namespace Go.Proofs.YtillcmddbjhepaaGreatDoor
open Go Si
set_option linter.unusedVariables false
set_option linter.unusedSimpArgs false

/-! The head. -/
def hdE (N : List ByteArray) (R T : Nat) (E : List En) : List UInt8 := [83, 66, 1] ++ (Sb.put N.length ++ (nms N ++ (Sb.put R ++ (Sb.put T ++ (Sb.put (bkN R) ++ entsE E)))))
theorem rNm_inv {l : List UInt8} {a : Nat} {N : List ByteArray} {b : Nat} (h : rNm l a = (N, b, 0)) : a ≤ l.length ∧ b ≤ l.length ∧ l.drop a = Sb.put N.length ++ (nms N ++ l.drop b) := by
  unfold rNm at h
  by_cases c : (rN l a 16).2.2 = 0
  · rw [if_pos c] at h
    have i := rN_inv (show rN l a 16 = ((rN l a 16).1, (rN l a 16).2.1, 0) by rw [← c])
    obtain ⟨e1, e2⟩ := tNm_inv h i.2.1
    have e3 := (tNm_len h).1
    exact ⟨i.1, e1, by rw [i.2.2.2.2, e2, e3]⟩
  · rw [if_neg c] at h
    injection h with _ h; injection h with _ h
    exact absurd h c
theorem rNm_at {l q : List UInt8} {a : Nat} {N : List ByteArray} (h : StA l a (Sb.put N.length ++ (nms N ++ q))) (hn : N.length ≤ 16) (hs : ∀ s ∈ N, s.size ≤ 16) : rNm l a = (N, a + (Sb.put N.length).length + (nms N).length, 0) := by
  have r1 := rN_at h (by omega) hn
  have r2 := tNm_at h.step hs
  unfold rNm
  rw [r1]
  simp only [if_true]
  exact r2
theorem tbE_inv {l : List UInt8} {R a : Nat} {E : List En} {b : Nat} (h : tbE l R a = (E, b, 0)) : a ≤ l.length ∧ b ≤ l.length ∧ l.drop a = Sb.put (bkN R) ++ (entsE E ++ l.drop b) := by
  unfold tbE at h
  by_cases c : (rX l a (bkN R)).2 = 0
  · rw [if_pos c] at h
    unfold rX at c h
    simp only at c h
    by_cases c1 : Sb.tuE l a = 0
    · rw [if_pos c1] at c
      by_cases c2 : Sb.tuV l a = bkN R
      · obtain ⟨i1, i2, i3, i4⟩ := tu_inv c1
        obtain ⟨e1, e2⟩ := tEn_inv h i2
        exact ⟨i1, e1, by rw [i4, c2, e2]⟩
      · rw [if_neg c2] at c; exact absurd c (by decide)
    · rw [if_neg c1] at c; exact absurd c c1
  · rw [if_neg c] at h
    injection h with _ h; injection h with _ h
    exact absurd h c
theorem tbE_at {l q : List UInt8} {R a : Nat} {E : List En} (h : StA l a (Sb.put (bkN R) ++ (entsE E ++ q))) (hR : R ≤ 262144) (hE : E.length = bkN R) (hx : ∀ x ∈ E, okE x) : tbE l R a = (E, a + (Sb.put (bkN R)).length + (entsE E).length, 0) := by
  obtain ⟨e1, e2, e3⟩ := tu_at h (by unfold bkN; omega)
  have r2 := tEn_at h.step hx
  unfold tbE rX
  simp only
  rw [e1, e2, e3]
  simp only [if_true]
  rw [hE] at r2
  exact r2
theorem st_inv {l : List UInt8} (h : stE l = 0) : 3 ≤ l.length ∧ l = [83, 66, 1] ++ l.drop 3 := by
  have h3 := (rH_st h).2
  refine ⟨h3, ?_⟩
  unfold stE at h
  rw [if_neg (by omega)] at h
  by_cases h1 : l.take 2 = [83, 66]
  · rw [if_pos h1] at h
    by_cases h2 : l.getD 2 0 = 1
    · have e1 : l = l.take 2 ++ l.drop 2 := (List.take_append_drop 2 l).symm
      have e2 : l.drop 2 = 1 :: l.drop 3 := by
        rw [List.drop_eq_getElem_cons (by omega : 2 < l.length)]
        rw [List.getD_eq_getElem?_getD, List.getElem?_eq_getElem (by omega : 2 < l.length)] at h2
        simp only [Option.getD_some] at h2
        rw [h2]
      calc l = l.take 2 ++ l.drop 2 := e1
        _ = [83, 66, 1] ++ l.drop 3 := by rw [h1, e2]; rfl
    · rw [if_neg h2] at h; exact absurd h (by decide)
  · rw [if_neg h1] at h; exact absurd h (by decide)
theorem st_at {l q : List UInt8} (h : l = [83, 66, 1] ++ q) : stE l = 0 := by
  subst h
  unfold stE
  rw [if_neg (by simp)]
  rfl

/-- A head that was read was written so. -/
theorem rd_was {l : List UInt8} {N : List ByteArray} {R T : Nat} {E : List En} {b : Nat} (h : rd l = ((N, R, T, E, b), 0)) :
    l = hdE N R T E ++ (four (ck (hdE N R T E)) ++ l.drop b) ∧ b = (hdE N R T E).length + 4 ∧ b ≤ l.length ∧ asc E T ∧ szE E = (l.drop b).length ∧ (∀ s ∈ N, s.size ≤ 16) := by
  obtain ⟨a1, a2, a3, a4, h0, h1, h2, h3, h4, h5, h6, h7, h8⟩ := rd_inv h
  obtain ⟨i0, e0⟩ := st_inv h0
  obtain ⟨i1, i2, e1⟩ := rNm_inv h1
  obtain ⟨i3, i4, _, _, e2⟩ := rN_inv h2
  obtain ⟨i5, i6, _, _, e3⟩ := rN_inv h3
  obtain ⟨i7, i8, e4⟩ := tbE_inv h4
  have hsz := (rNm_le h1 i0).2.2
  have hf : ¬ l.length < a4 + 4 ∧ f4 l a4 = ck (l.take a4) := by
    unfold rS at h5
    by_cases c : l.length < a4 + 4
    · rw [if_pos c] at h5; exact absurd (show (5 : Nat) = 0 from h5) (by decide)
    · rw [if_neg c] at h5
      by_cases c2 : f4 l a4 = ck (l.take a4)
      · exact ⟨c, c2⟩
      · rw [if_neg c2] at h5; exact absurd (show (12 : Nat) = 0 from h5) (by decide)
  have e5 := f4_inv hf.1
  have eh : l = hdE N R T E ++ l.drop a4 := by
    unfold hdE
    simp only [List.append_assoc]
    rw [← e4, ← e3, ← e2, ← e1]
    exact e0
  have hl : (hdE N R T E).length = a4 := by
    have := congrArg List.length eh
    rw [List.length_append, List.length_drop] at this
    omega
  have ht : l.take a4 = hdE N R T E := by
    rw [← hl]
    conv => lhs; rw [eh]
    simp
  have hb : szE E = (l.drop b).length := by
    unfold bsE at h7
    by_cases c1 : (l.drop b).length < szE E
    · rw [if_pos c1] at h7; exact absurd h7 (by decide)
    · rw [if_neg c1] at h7
      by_cases c2 : szE E < (l.drop b).length
      · rw [if_pos c2] at h7; exact absurd h7 (by decide)
      · omega
  refine ⟨?_, by rw [hl]; exact h8, by omega, h6, hb, hsz⟩
  rw [h8, ← ht, ← hf.2, ← e5]
  rw [List.take_append_drop]
/-- A head that was written so is read. -/
theorem rd_will {l q : List UInt8} {N : List ByteArray} {R T : Nat} {E : List En} (h : l = hdE N R T E ++ (four (ck (hdE N R T E)) ++ q)) (hN : N.length ≤ 16) (hs : ∀ s ∈ N, s.size ≤ 16) (hR : R ≤ 262144) (hT : T ≤ 1099511627776) (hE : E.length = bkN R) (hx : ∀ x ∈ E, okE x) (ha : asc E T) (hq : szE E = q.length) :
    rd l = ((N, R, T, E, (hdE N R T E).length + 4), 0) ∧ l.drop ((hdE N R T E).length + 4) = q := by
  have h3 : l = [83, 66, 1] ++ (Sb.put N.length ++ (nms N ++ (Sb.put R ++ (Sb.put T ++ (Sb.put (bkN R) ++ (entsE E ++ (four (ck (hdE N R T E)) ++ q))))))) := by
    have e : ∀ X : List UInt8, hdE N R T E ++ X = [83, 66, 1] ++ (Sb.put N.length ++ (nms N ++ (Sb.put R ++ (Sb.put T ++ (Sb.put (bkN R) ++ (entsE E ++ X)))))) := fun X => by unfold hdE; simp only [List.append_assoc]
    rw [h, e]
  have s0 : StA l 0 ([83, 66, 1] ++ (Sb.put N.length ++ (nms N ++ (Sb.put R ++ (Sb.put T ++ (Sb.put (bkN R) ++ (entsE E ++ (four (ck (hdE N R T E)) ++ q)))))))) := ⟨Nat.zero_le _, by rw [List.drop_zero]; exact h3⟩
  have s1 := s0.step
  have s2 := s1.step
  have s3 := s2.step
  have s4 := s3.step
  have s5 := s4.step
  have s6 := s5.step
  have s7 := s6.step
  have s8 := s7.step
  have r1 := rNm_at s1 hN hs
  have r2 := rN_at s3 (by omega) hR
  have r3 := rN_at s4 (by omega) hT
  have r4 := tbE_at s5 hR hE hx
  have hl : (hdE N R T E).length = 0 + [83, 66, (1 : UInt8)].length + (Sb.put N.length).length + (nms N).length + (Sb.put R).length + (Sb.put T).length + (Sb.put (bkN R)).length + (entsE E).length := by
    unfold hdE; simp only [List.length_append]; omega
  rw [← hl] at s7 s8 r4
  obtain ⟨f1, f2⟩ := f4_at s7 (ck_lt _)
  have ht : l.take (hdE N R T E).length = hdE N R T E := by rw [h]; simp
  have h5 : (rS l (hdE N R T E).length).2 = 0 := by
    unfold rS; rw [if_neg f2, ht, if_pos f1]
  have h7 := rd_7 (st_at h3) r1 r2 r3 r4 h5 ha
  rw [four_len] at s8
  have hb : bsE E (l.drop ((hdE N R T E).length + 4)) = 0 := by
    rw [s8.2]; unfold bsE; rw [if_neg (by omega), if_neg (by omega)]
  rw [hb, if_pos rfl] at h7
  exact ⟨h7, s8.2⟩

/-! The runs of a block. -/
def okRn (m : Nat) (r : Rn) : Prop := 0 ≤ r.1 ∧ r.1 ≤ m ∧ 1 ≤ r.2 ∧ r.2 ≤ 1099511627776
theorem bb_cons (r : Rn) (l : List Rn) : bb (r :: l) = Sb.put r.1.toNat ++ (Sb.put r.2.toNat ++ bb l) := by show rb r ++ bb l = _; unfold rb; rw [List.append_assoc]
theorem rB_inv {s : List UInt8} {m : Nat} : ∀ {n a : Nat} {L : List Rn} {b : Nat}, rB s m n a = some (L, b) → a ≤ s.length → b ≤ s.length ∧ s.drop a = bb L ++ s.drop b ∧ ∀ r ∈ L, okRn m r
  | 0, a, L, b, h, ha => by rw [rB] at h; injection h with h; injection h with h1 h2; subst h1 h2; exact ⟨ha, rfl, by simp⟩
  | n + 1, a, L, b, h, ha => by
    rw [rB] at h
    split at h
    · rename_i hc
      obtain ⟨c1, c2, c3⟩ := hc
      have i1 := rN_inv (show rN s a m = ((rN s a m).1, (rN s a m).2.1, 0) by rw [← c1])
      have i2 := rN_inv (show rN s (rN s a m).2.1 1099511627776 = ((rN s (rN s a m).2.1 1099511627776).1, (rN s (rN s a m).2.1 1099511627776).2.1, 0) by rw [← c2])
      cases hr : rB s m n (rN s (rN s a m).2.1 1099511627776).2.1 with
      | none => rw [hr] at h; cases h
      | some p =>
        rw [hr] at h
        obtain ⟨L', b'⟩ := p
        obtain ⟨j1, j2, j3⟩ := rB_inv hr i2.2.1
        simp only [Option.map_some, Option.some.injEq, Prod.mk.injEq] at h
        obtain ⟨h1, h2⟩ := h
        subst h1 h2
        refine ⟨j1, ?_, ?_⟩
        · rw [bb_cons, i1.2.2.2.2, i2.2.2.2.2, j2]
          simp
        · intro r hr
          rcases List.mem_cons.1 hr with rfl | hr
          · refine ⟨?_, ?_, ?_, ?_⟩ <;> simp only <;> omega
          · exact j3 r hr
    · cases h
theorem rB_at {s q : List UInt8} {m : Nat} (hm : m < 18446744073709551616) : ∀ {L : List Rn} {a : Nat}, StA s a (bb L ++ q) → (∀ r ∈ L, okRn m r) → rB s m L.length a = some (L, a + (bb L).length)
  | [], a, h, _ => by rw [List.length_nil, rB]; rfl
  | (x, y) :: L, a, h, hL => by
    rw [bb_cons, List.append_assoc, List.append_assoc] at h
    obtain ⟨k1, k2, k3, k4⟩ := hL (x, y) (by simp)
    simp only at k1 k2 k3 k4
    have r1 := rN_at (m := m) h (by simp only; omega) (by simp only; omega)
    have s1 := h.step
    have r2 := rN_at (m := 1099511627776) s1 (by simp only; omega) (by simp only; omega)
    simp only at r1 r2
    have hr := rB_at hm s1.step (fun r hr => hL r (by simp [hr]))
    rw [List.length_cons, rB, r1]
    simp only
    rw [r2]
    simp only
    rw [if_pos ⟨trivial, trivial, by omega⟩, hr]
    simp only [Option.map_some, Option.some.injEq, Prod.mk.injEq, List.cons.injEq, and_true]
    refine ⟨⟨by omega, by omega⟩, ?_⟩
    rw [bb_cons]
    simp only [List.length_append]
    omega
/-- A block that was read was written so. -/
theorem rBk_was {s : List UInt8} {m n c d : Nat} {L : List Rn} (h : rBk s m n c d = some L) : s = bb L ∧ ck s = c ∧ L.length = n ∧ lg L = d ∧ ∀ r ∈ L, okRn m r := by
  have hn := rBk_len h
  unfold rBk at h
  split at h
  · rename_i hc
    cases hr : rB s m n 0 with
    | none => rw [hr] at h; cases h
    | some p =>
      rw [hr] at h
      obtain ⟨L', b'⟩ := p
      simp only at h
      split at h
      · rename_i hd
        injection h with h; subst h
        obtain ⟨j1, j2, j3⟩ := rB_inv hr (Nat.zero_le _)
        refine ⟨?_, hc, hn, hd.2, j3⟩
        rw [List.drop_zero] at j2
        have e : s.drop b' = [] := by rw [hd.1]; exact List.drop_length
        rw [e, List.append_nil] at j2
        exact j2
      · cases h
  · cases h
theorem rBk_will {m : Nat} {L : List Rn} {d : Nat} (hm : m < 18446744073709551616) (hL : ∀ r ∈ L, okRn m r) (hd : lg L = d) : rBk (bb L) m L.length (ck (bb L)) d = some L := by
  have h := rB_at (s := bb L) (q := []) hm (L := L) (a := 0) ⟨Nat.zero_le _, by simp⟩ hL
  unfold rBk
  rw [if_pos rfl, h]
  simp only
  rw [if_pos ⟨by omega, hd⟩]

end Go.Proofs.YtillcmddbjhepaaGreatDoor
