/-
  putNumber, the specification's number, text, blocks, size.
  The specification's Encode.
  putHead.
  The specification's takeNumber and takeFour; checkStart.
  The specification's takeFour.
  The specification's takeEntry.
  The program's fields: nothing.
  The program's fields: exactly's function value (its captured n lies in a box).
  The program's fields: number's function value (the captured limit and the captured pointer lie in boxes).
  Stored captures, plain mathematics: the table of a head, the whole head, the blocks.
  The program's fields: rest's, text's and four's function values.
  The program's fields: text's and four's function values.
-/
import Derived.Test.YtillcmddbjhepaaDoorZ22
import Derived.Test.YtillcmddbjhepaaDoorZ08
import Derived.Test.YtillcmddbjhepaaDoorZ15
import Derived.Test.YtillcmddbjhepaaDoorZ12
import Derived.Test.YtillcmddbjhepaaDoorZ17
import Derived.Test.YtillcmddbjhepaaDoorZ11
import Derived.Test.YtillcmddbjhepaaDoorZ09
import Derived.BigQuiet
import Derived.Test.YtillcmddbjhepaaDoorZ18
import Derived.Test.YtillcmddbjhepaaDoorZ06
import Derived.RegionTactic
import Derived.ChangeAlike
import Derived.Deep.RegionHeld3
namespace Go.Proofs.YtillcmddbjhepaaDoor
open Go Go.RowKit Go.Joins
set_option linter.unusedVariables false
set_option linter.unusedSimpArgs false

set_option maxRecDepth 20000 in
set_option maxHeartbeats 2000000 in
theorem putNumber_any (B g n c : Nat) (l : List UInt8) (k : Nat) (w : World) (ho : Sb.Own w B g n c l) (hB : B ≤ w.heap.size) (hk : k ≤ 9223372036854775807) (hl : n ≤ 70368744177664) :
    Calls Tryd.prog 43 #[.slice (some ⟨g, 0, none⟩) n c, .int .i64 k] w fun e w' => ∃ g' n' c', e = .returned (.slice (some ⟨g', 0, none⟩) n' c') ∧ Sb.Own w' B g' n' c' (l ++ Sb.put k) ∧ Below B w w' ∧ (∀ k, k < w.heap.size → k ≠ g → w'.heap[k]? = w.heap[k]?) := by
  have HP := Lib.hid (Sb.putu_any none 0 0 [] k w (Sb.Rd.nil _ _ _) rfl (Nat.le_refl _) (fun _ => rfl) (by omega) (by omega))
  have HO := Lib.hid ho
  have H10 := Lib.hid (Sb.put_ten (n := k) (by omega))
  have hk2 : (k : Int) ≤ 9223372036854775807 := by omega
  clear ho
  go_enter Tryd.func43, Tryd.ntmps43
  go_wp2_with (first
    | (go_at_call 41; go_must (refine HP.out.mono ?_; rintro e w1 ⟨g1, n1, c1, rfl, o1, b1⟩; have hn1 := o1.len))
    | (at_builtin; go_must (refine Sb.wpList_append_rd2 rfl (.tmp 5) (.tmp 8) rfl rfl _ _ _ _ rfl (HO.out.below b1 HO.out.lt.2) o1.rd hn1.symm (fun h => by cases h) (Nat.le_trans hB b1.size) (by have := H10.out; simp only [List.nil_append] at hn1; omega) ?_; intro g2 c2 w2 o2 b2 k2)))
  go_returns
  exact ⟨_, _, _, rfl, o2, (b1.mono hB).trans b2, fun k hk hne => (k2 k (Nat.lt_of_lt_of_le hk b1.size) hne).trans (b1.block k hk)⟩

end Go.Proofs.YtillcmddbjhepaaDoor

namespace Go.Proofs.YtillcmddbjhepaaDoor
open Go Go.RowKit Go.Joins
open Si (Rn RnRow RnArg NmArg NmRow lg ckC jn szs)
set_option linter.unusedVariables false
set_option linter.unusedSimpArgs false

def encS (N : List ByteArray) (R : List Rn) : List UInt8 := if ckC N R = 0 then enc N (jn R) else []

end Go.Proofs.YtillcmddbjhepaaDoor

namespace Go.Proofs.YtillcmddbjhepaaDoor
open Go Go.RowKit Go.Joins
open Si (NmArg)
set_option linter.unusedVariables false
set_option linter.unusedSimpArgs false

theorem own_keep {w w' : World} {B g n c : Nat} {l : List UInt8} (h : Sb.Own w B g n c l) (hb : Below w.heap.size w w') : Sb.Own w' B g n c l := h.below hb h.lt.2

theorem full_sign (w : World) (o : Obj) : Sb.Full ((w.alloc (.cells #[.int .u8 83, .int .u8 66] 5 (2, 3))).alloc o) (w.heap.size + 1) (.slice (some ⟨w.heap.size, 0, none⟩) 2 2) [83, 66] := by
  refine .inl ⟨some ⟨w.heap.size, 0, none⟩, rfl, (fun h => by cases h), fun _ => ⟨w.heap.size, 0, rfl, Nat.lt_succ_self _, ?_⟩⟩
  intro j hj
  have hb : ((w.alloc (.cells #[.int .u8 83, .int .u8 66] 5 (2, 3))).alloc o).cell? ⟨w.heap.size, 0 + j, none⟩ = (w.alloc (.cells #[.int .u8 83, .int .u8 66] 5 (2, 3))).cell? ⟨w.heap.size, 0 + j, none⟩ := (ba _ o).cell (by simp)
  rw [hb]
  have hj2 : j < 2 := hj
  rw [Nat.zero_add, cell_of_row (w.alloc (.cells #[.int .u8 83, .int .u8 66] 5 (2, 3))) w.heap.size j #[.int .u8 83, .int .u8 66] 5 (2, 3) (by show (w.heap.push _)[w.heap.size]? = _; simp)]
  rcases j with _ | _ | j <;> first | omega | rfl
theorem cell_ver (w : World) (o : Obj) : ((w.alloc o).alloc (.cells #[.int .u8 1] 5)).cell? ⟨w.heap.size + 1, 0, none⟩ = some (.int .u8 1) := by go_simp

theorem own_ne_row {w : World} {B g n c b : Nat} {l : List UInt8} {T : TypeId} {cs : Array Value} (h : Sb.Own w B g n c l) (hr : RowAt w b T cs) (hT : (T == 5) = false) : b ≠ g := by
  rintro rfl
  rcases h.2 with ⟨e, _⟩ | ⟨g', cap, cur, e, h1, h2, h3⟩
  · cases e
  · have e1 : b = g' := by simpa [Value.ownBlock] using congrArg Value.ownBlock e
    subst e1
    have h4 : w.heap[b]? = some (.cells cs T (0, 0)) := hr
    rw [h4] at h2
    simp only [Option.some.injEq, Obj.cells.injEq] at h2
    rw [h2.2.1] at hT
    cases hT

set_option maxRecDepth 100000 in
set_option maxHeartbeats 16000000 in
theorem putHead_any (N : List ByteArray) (n t : Nat) (l : List Pt) (vN vP : Value) (w : World) (hE : Sd.Env w) (hN : NmArg w vN N) (hN1 : N.length ≤ 16) (hN2 : ∀ j (hj : j < N.length), N[j].size ≤ 16) (hn : n ≤ 9223372036854775807) (ht : t ≤ 9223372036854775807) (hP : PtArg w vP l) (hl : l.length ≤ 65536)
    (hl2 : ∀ j (hj : j < l.length), l[j].1 ≤ 9223372036854775807 ∧ l[j].2.2.2.1 ≤ 9223372036854775807 ∧ l[j].2.2.2.2.1 < 4294967296) :
    Calls Tryd.prog 23 #[vN, .int .i64 n, .int .i64 t, vP] w fun e w' => ∃ g m c, e = .returned (.slice (some ⟨g, 0, none⟩) m c) ∧ Sb.Own w' w.heap.size g m c (hdP N n t l ++ four (ck (hdP N n t l))) ∧ Below w.heap.size w w' := by
  have kc := fun (w : World) (C : Array Value) (n c : Nat) => Lib.run_convert_bytes_const (P := Tryd.prog) w 54 5 C n c Tryd.underlying54 Tryd.underlying5
  obtain ⟨A1, c1, rfl, hc1, hA1⟩ := hN.form
  obtain ⟨A2, c2, rfl, hA2⟩ := hP
  have HA1 := Lib.hid hA1; have HA2 := Lib.hid hA2
  have HE := Lib.hid hE; have HN2 := Lib.hid hN2; have HL2 := Lib.hid hl2
  have PN := Lib.hid (fun B g n c l k w (ho : Sb.Own w B g n c l) (hB : B ≤ w.heap.size) (hk : k ≤ 9223372036854775807) (hl : n ≤ 70368744177664) => putNumber_any B g n c l k w ho hB hk hl)
  have PT := Lib.hid (fun g n c l (s : ByteArray) W (ho : Sb.Own W w.heap.size g n c l) (hW : w.heap.size ≤ W.heap.size) (hl : n + s.size ≤ 140737488351232) => (Sb.putt_any (some ⟨g, 0, none⟩) n c l s W ho.rd ho.len.symm ho.cap.1 (fun h => by cases h) hl).mono (R' := fun e w' => ∃ g' n' c', e = .returned (.slice (some ⟨g', 0, none⟩) n' c') ∧ Sb.Own w' w.heap.size g' n' c' (l ++ nm1 s) ∧ Below W.heap.size W w') fun e w' h => by
    obtain ⟨g', n', c', h1, h2, h3⟩ := h
    exact ⟨g', n', c', h1, by rw [List.append_assoc] at h2; exact h2.mono hW, h3⟩)
  have hn16 : (N.length : Int) ≤ 16 := by omega
  have hl16 : (l.length : Int) ≤ 65536 := by omega
  have hni : (n : Int) ≤ 9223372036854775807 := by omega
  have hti : (t : Int) ≤ 9223372036854775807 := by omega
  clear hN hA1 hA2 hE hN2 hl2
  go_enter Tryd.func23, Tryd.ntmps23
  have HO := Lib.hid (full_sign w)
  have HCV := Lib.hid (cell_ver w)
  have hB0 := Lib.hid (fun o o2 => ((ba w o).alloc (ba w o).size o2))
  go_wp2_with (first
    | (at_builtin; go_must (refine Sb.wpList_append_full (l := [83, 66]) rfl (.tmp 15) (.tmp 16) rfl rfl ⟨w.heap.size + 1, 0, none⟩ 1 rfl (HO.out _) (by simp) 1 1 (HCV.out _) rfl (by simp) ?_; intro g1 m1 w1 o1 b1; have O1 := Lib.hid (o1.mono (Nat.le_succ _)); have B1 := Lib.hid ((hB0.out _ _).trans (b1.mono (Nat.le_succ _))); clear o1 b1))
    | (go_at_call 43; go_must (refine (PN.out _ _ _ _ _ N.length _ O1.out B1.out.size (by omega) (by simp)).mono ?_; rintro e2 w2 ⟨g2, n2, m2, rfl, o2, b2, -⟩; have O2 := Lib.hid o2; have B2 := Lib.hid (B1.out.trans b2); clear o2 b2))
    | fail)
  clear B1 O1 HO HCV hB0 kc
  go_loopw [24, 9] (fun i v wr => ∃ (j g m c : Nat), j ≤ N.length ∧ i = .int .i64 j ∧ v = .slice (some ⟨g, 0, none⟩) m c ∧ m ≤ 13 + 26 * j ∧ Hid (Sb.Own wr w.heap.size g m c ([83, 66, 1] ++ Sb.put N.length ++ nms (N.take j))) ∧ Hid (Below w.heap.size w wr)) (fun i _ _ => N.length - (intOf i).toNat)
  case atStart => exact ⟨0, g2, n2, m2, Nat.zero_le _, rfl, rfl, by have h := O2.out.len; have := Sb.put_ten (n := N.length) (by omega); simp only [List.length_append, List.length_cons, List.length_nil] at h; omega, Lib.hid (by rw [show nms (N.take 0) = [] from rfl, List.append_nil]; exact O2.out), B2⟩
  case round =>
    clear O2 B2
    obtain ⟨j, g, m, c, hj, rfl, rfl, hm, HO, HB⟩ := hrel
    by_cases hjl : j < N.length
    · obtain ⟨ga, oa, rfl, hga, hc⟩ := HA1.out (by omega)
      have f0 := (HB.out.cell (p := ⟨ga, oa + j, none⟩) hga).trans (hc j hjl)
      have hNs := HN2.out j hjl
      have HT := Lib.hid (nms_take N j hjl)
      have PT1 := Lib.hid (PT.out g m c _ N[j] wr HO.out HB.out.size (by omega))
      have h1 := Lib.hid (show (nm1 N[j]).length ≤ 26 by unfold nm1; rw [List.length_append, ← size_len]; have := Sb.put_ten (n := N[j].size) (by omega); omega)
      clear hc
      generalize N[j] = nj at *
      have hi1 : (j : Int) < N.length := by omega
      go_wp2_with (first
        | (go_at_call 44; go_must (refine PT1.out.mono ?_; rintro e3 w3 ⟨g3, n3, c3, rfl, o3, b3⟩; have hl3 := o3.len; have hl4 := HO.out.len))
        | fail)
      go_roundw
      case rel => exact ⟨j + 1, g3, n3, c3, by omega, val_int (by omega), rfl, by have := h1.out; rw [List.length_append, hl4] at hl3; omega, Lib.hid (by rw [HT.out, ← List.append_assoc]; exact o3), Lib.hid (HB.out.trans (b3.mono HB.out.size))⟩
      case measure => simp [intOf]; omega
    · have he : N.take j = N := List.take_of_length_le (by omega)
      rw [he] at HO
      have hm2 : m ≤ 429 := by omega
      have hji : ¬ (j : Int) < N.length := by omega
      clear he hm HA1 HN2 PT
      go_wp2_with (first
        | (go_at_call_of 43 (Value.int IntKind.i64 (n : Int)); go_must (refine (PN.out _ _ _ _ _ n _ HO.out HB.out.size (by omega) (by omega)).mono ?_; rintro e4 w4 ⟨g4, n4, m4, rfl, o4, b4, -⟩; have O4 := Lib.hid o4; have B4 := Lib.hid (HB.out.trans b4); have L4 : n4 ≤ m + 10 := (by have h := o4.len; rw [List.length_append, HO.out.len] at h; have := Sb.put_ten (n := n) (by omega); omega); clear o4 b4))
        | (go_at_call_of 43 (Value.int IntKind.i64 (t : Int)); go_must (refine (PN.out _ _ _ _ _ t _ O4.out B4.out.size (by omega) (by omega)).mono ?_; rintro e5 w5 ⟨g5, n5, m5, rfl, o5, b5, -⟩; have O5 := Lib.hid o5; have B5 := Lib.hid (B4.out.trans b5); have L5 : n5 ≤ n4 + 10 := (by have h := o5.len; rw [List.length_append, O4.out.len] at h; have := Sb.put_ten (n := t) (by omega); omega); clear o5 b5))
        | (go_at_call_of 43 (Value.int IntKind.i64 (l.length : Int)); go_must (refine (PN.out _ _ _ _ _ l.length _ O5.out B5.out.size (by omega) (by omega)).mono ?_; rintro e6 w6 ⟨g6, n6, m6, rfl, o6, b6, -⟩; have O6 := Lib.hid o6; have B6 := Lib.hid (B5.out.trans b6); have L6 : n6 ≤ n5 + 10 := (by have h := o6.len; rw [List.length_append, O5.out.len] at h; have := Sb.put_ten (n := l.length) (by omega); omega); clear o6 b6))
        | fail)
      clear O4 B4 O5 B5 HO HB PN
      have HPre := Lib.hid (show hdP N n t l = [83, 66, 1] ++ Sb.put N.length ++ nms N ++ Sb.put n ++ Sb.put t ++ Sb.put l.length ++ entsP l from rfl)
      generalize [83, 66, 1] ++ Sb.put N.length ++ nms N ++ Sb.put n ++ Sb.put t ++ Sb.put l.length = pre at *
      have hn6 : n6 ≤ 459 := by omega
      have PN := Lib.hid (fun B g n c l k w (ho : Sb.Own w B g n c l) (hB : B ≤ w.heap.size) (hk : k ≤ 9223372036854775807) (hl : n ≤ 70368744177664) => putNumber_any B g n c l k w ho hB hk hl)
      go_loopw [44, 9] (fun i v wr' => ∃ (q g m c : Nat), q ≤ l.length ∧ i = .int .i64 q ∧ v = .slice (some ⟨g, 0, none⟩) m c ∧ m ≤ 459 + 24 * q ∧ Hid (Sb.Own wr' w.heap.size g m c (pre ++ entsP (l.take q))) ∧ Hid (Below w.heap.size w wr')) (fun i _ _ => l.length - (intOf i).toNat)
      case atStart => exact ⟨0, g6, n6, m6, Nat.zero_le _, rfl, rfl, by omega, Lib.hid (by rw [show entsP (l.take 0) = [] from rfl, List.append_nil]; exact O6.out), B6⟩
      case round =>
        clear O6 B6 L4 L5 L6 hn6
        obtain ⟨q, gq, mq, cq, hq, rfl, rfl, hmq, HO, HB⟩ := hrel
        by_cases hql : q < l.length
        · obtain ⟨ga, oa, rfl, hga, hc⟩ := HA2.out (by omega)
          obtain ⟨a0, a1, a2, a3, a4, a5⟩ := arg_six hc q hql
          have f0 := (HB.out.cell (p := ⟨ga, oa + q * 6, none⟩) hga).trans a0
          have f1 := (HB.out.cell (p := ⟨ga, oa + q * 6 + 1, none⟩) hga).trans a1
          have f2 := (HB.out.cell (p := ⟨ga, oa + q * 6 + 2, none⟩) hga).trans a2
          have f3 := (HB.out.cell (p := ⟨ga, oa + q * 6 + 3, none⟩) hga).trans a3
          have f4 := (HB.out.cell (p := ⟨ga, oa + q * 6 + 4, none⟩) hga).trans a4
          have f5 := (HB.out.cell (p := ⟨ga, oa + q * 6 + 5, none⟩) hga).trans a5
          obtain ⟨hk0, hk3, hk4⟩ := HL2.out q hql
          have HT := Lib.hid (entsP_take l q hql)
          have HT2 : Hid (entP l[q] = Sb.put l[q].1 ++ Sb.put l[q].2.2.2.1 ++ four l[q].2.2.2.2.1) := Lib.hid rfl
          have hqi : (q : Int) < l.length := by omega
          clear hc a0 a1 a2 a3 a4 a5
          generalize entP l[q] = eP at *
          generalize l[q].1 = p0 at *
          generalize l[q].2.1 = p1 at *
          generalize l[q].2.2.1 = p2 at *
          generalize l[q].2.2.2.1 = p3 at *
          generalize l[q].2.2.2.2.1 = p4 at *
          generalize l[q].2.2.2.2.2 = p5 at *
          have R0 := Lib.hid (RowAt.new wr 57 #[.int .i64 p0, .int .i64 p1, .int .i64 p2, .int .i64 p3, .int .i64 p4, .string p5])
          have B7 := Lib.hid (HB.out.alloc HB.out.size (.cells #[.int .i64 p0, .int .i64 p1, .int .i64 p2, .int .i64 p3, .int .i64 p4, .string p5] 57))
          have O7 := Lib.hid (HO.out.alloc (.cells #[.int .i64 p0, .int .i64 p1, .int .i64 p2, .int .i64 p3, .int .i64 p4, .string p5] 57))
          have FB := Lib.hid (fun w => fourBytes_any p4 w hk4)
          have S0 := R0.out.lt
          obtain ⟨Bx, hBx⟩ : ∃ Bx, wr.heap.size = Bx := ⟨_, rfl⟩
          have c0 := R0.out.cell 0
          have hp0 : (p0 : Int) ≤ 9223372036854775807 := by omega
          have hp3 : (p3 : Int) ≤ 9223372036854775807 := by omega
          have hL7 := HO.out.len
          rw [hBx] at R0 S0 c0
          go_wp2_with (first
            | (go_at_call_of 43 (Value.int IntKind.i64 (p0 : Int)); go_must (refine (PN.out _ _ _ _ _ p0 _ O7.out B7.out.size (by omega) (by omega)).mono ?_; rintro e8 w8 ⟨g8, n8, m8, rfl, o8, b8, k8⟩; have O8 := Lib.hid o8; have B8 := Lib.hid (B7.out.trans b8); have R8 := Lib.hid (show RowAt w8 Bx _ _ from (k8 Bx S0 (own_ne_row O7.out R0.out rfl)).trans R0.out); have L8 : n8 ≤ mq + 10 := (by have h := o8.len; rw [List.length_append, hL7] at h; have := Sb.put_ten (n := p0) (by omega); omega); have d0 := R8.out.cell 3; clear o8 b8 k8))
            | (go_at_call_of 43 (Value.int IntKind.i64 (p3 : Int)); go_must (refine (PN.out _ _ _ _ _ p3 _ O8.out B8.out.size (by omega) (by omega)).mono ?_; rintro e9 w9 ⟨g9, n9, m9, rfl, o9, b9, k9⟩; have O9 := Lib.hid o9; have B9 := Lib.hid (B8.out.trans b9); have R9 := Lib.hid (show RowAt w9 Bx _ _ from (k9 Bx R8.out.lt (own_ne_row O8.out R8.out rfl)).trans R8.out); have L9 : n9 ≤ n8 + 10 := (by have h := o9.len; rw [List.length_append, O8.out.len] at h; have := Sb.put_ten (n := p3) (by omega); omega); have d1 := R9.out.cell 4; clear o9 b9 k9))
            | (go_at_call 45; go_must (refine (FB.out _).mono ?_; rintro e10 w10 ⟨g10, n10, m10, rfl, o10, b10⟩; have O10 := Lib.hid (own_keep O9.out b10); have L10 : n10 = 4 := o10.len.symm))
            | (at_builtin; go_must (refine Sb.wpList_append_rd rfl (.tmp 56) (.tmp 59) rfl rfl _ _ _ (four p4) rfl O10.out o10.rd (by first | rfl | exact o10.len.symm) (fun h => by cases h) (Nat.le_trans B9.out.size b10.size) (by omega) ?_; intro g11 c11 w11 o11 b11))
            | fail)
          go_roundw
          case rel => exact ⟨q + 1, g11, _, c11, by omega, val_int (by omega), rfl, by omega, Lib.hid (by rw [HT.out, HT2.out]; simp only [← List.append_assoc]; exact o11), Lib.hid ((B9.out.trans (b10.mono B9.out.size)).trans b11)⟩
          case measure => simp [intOf]; omega
        · have he : l.take q = l := List.take_of_length_le (by omega)
          rw [he] at HO
          have hql2 : ¬ (q : Int) < l.length := by omega
          have hmq2 : mq ≤ 1573323 := by omega
          rw [← HPre.out] at HO
          clear he hmq HA2 HL2 PN HPre
          have hLq := HO.out.len
          obtain ⟨H, hH⟩ : ∃ H, hdP N n t l = H := ⟨_, rfl⟩
          rw [hH] at HO hLq
          have HH := Lib.hid hH
          clear hH
          have kc := Sb.conv_rd HO.out.rd mq cq hLq.symm wr (fun _ _ => rfl)
          have CK := Lib.hid (checksum_any ⟨H.toArray⟩ wr (HE.out.below HB.out) (by rw [size_mk]; omega))
          rw [toList_mk] at CK
          have hck := ck_lt H
          have FB := Lib.hid (fun w => fourBytes_any (ck H) w hck)
          go_wp2_with (first
            | (go_at_call 42; go_must (refine CK.out.mono ?_; rintro e8 w8 ⟨rfl, b8⟩; have O8 := Lib.hid (own_keep HO.out b8)))
            | (go_at_call 45; go_must (refine (FB.out _).mono ?_; rintro e9 w9 ⟨g9, n9, m9, rfl, o9, b9⟩; have O9 := Lib.hid (own_keep O8.out b9); have L9 : n9 = 4 := o9.len.symm))
            | (at_builtin; go_must (refine Sb.wpList_append_rd rfl (.tmp 62) (.tmp 66) rfl rfl _ _ _ (four (ck H)) rfl O9.out o9.rd (by first | rfl | exact o9.len.symm) (fun h => by cases h) (Nat.le_trans (Nat.le_trans HB.out.size b8.size) b9.size) (by omega) ?_; intro g11 c11 w11 o11 b11))
            | fail)
          go_returns
          exact ⟨_, _, _, rfl, by rw [HH.out]; exact o11, ((HB.out.trans (b8.mono HB.out.size)).trans (b9.mono (Nat.le_trans HB.out.size b8.size))).trans b11⟩

end Go.Proofs.YtillcmddbjhepaaDoor

namespace Go.Proofs.YtillcmddbjhepaaDoor
open Go Go.RowKit Go.Joins
set_option linter.unusedVariables false
set_option linter.unusedSimpArgs false

end Go.Proofs.YtillcmddbjhepaaDoor

namespace Go.Proofs.YtillcmddbjhepaaDoor
open Go.BigFrame
open Go Go.RowKit Go.Joins
set_option linter.unusedVariables false
set_option linter.unusedSimpArgs false

end Go.Proofs.YtillcmddbjhepaaDoor

namespace Go.Proofs.YtillcmddbjhepaaDoor
open Go Go.RowKit Go.Joins
set_option linter.unusedVariables false
set_option linter.unusedSimpArgs false

/-- An entry of the head: first, size, sum; where it ends; its error. -/
def rE (l : List UInt8) (a : Nat) : (Nat × Nat × Nat) × Nat × Nat :=
  if (rN l a 1099511627776).2.2 ≠ 0 then ((0, 0, 0), 0, (rN l a 1099511627776).2.2)
  else if (rN l (rN l a 1099511627776).2.1 1048576).2.2 ≠ 0 then ((0, 0, 0), 0, (rN l (rN l a 1099511627776).2.1 1048576).2.2)
  else (((rN l a 1099511627776).1, (rN l (rN l a 1099511627776).2.1 1048576).1, (rF l (rN l (rN l a 1099511627776).2.1 1048576).2.1).1), (rF l (rN l (rN l a 1099511627776).2.1 1048576).2.1).2)
def enV (p : Nat × Nat × Nat) : Value := .agg #[.int .i64 p.1, .int .i64 p.2.1, .int .i64 p.2.2]
def rEV (p : (Nat × Nat × Nat) × Nat × Nat) : Value := .tuple #[enV p.1, .int .i64 p.2.1, .int .i64 p.2.2]
theorem rEV_of {p : (Nat × Nat × Nat) × Nat × Nat} {f n s y z : Nat} (h : p = ((f, n, s), y, z)) : Ending.returned (.tuple #[.agg #[.int .i64 (f : Int), .int .i64 (n : Int), .int .i64 (s : Int)], .int .i64 (y : Int), .int .i64 (z : Int)]) = .returned (rEV p) := by subst h; rfl
theorem rN_next (l : List UInt8) (a m : Nat) (ha : a ≤ l.length) : (rN l a m).2.1 ≤ l.length := by
  have h := Sb.tu_bounds l a
  unfold rN
  split
  · exact Nat.zero_le _
  · split
    · exact Nat.zero_le _
    · first | exact h.2.1 | exact h.2 | exact h.1 | (show Sb.tuN l a ≤ l.length; omega)

theorem new3 {w w1 : World} {x y z : Value} {t : TypeId} (hb : Below (w.alloc (.cells #[x, y, z] t)).heap.size (w.alloc (.cells #[x, y, z] t)) w1) :
    w1.cell? ⟨w.heap.size, 0, none⟩ = some x ∧ w1.cell? ⟨w.heap.size, 1, none⟩ = some y ∧ w1.cell? ⟨w.heap.size, 2, none⟩ = some z ∧ w1.frozen? ⟨w.heap.size, 0, none⟩ = false ∧ w1.frozen? ⟨w.heap.size, 1, none⟩ = false ∧ w1.frozen? ⟨w.heap.size, 2, none⟩ = false ∧ w.heap.size < w1.heap.size ∧ Below w.heap.size w w1 := by
  have hl : w.heap.size < (w.alloc (.cells #[x, y, z] t)).heap.size := by rw [World.size_alloc]; omega
  refine ⟨?_, ?_, ?_, ?_, ?_, ?_, Nat.lt_of_lt_of_le hl hb.size, ((Below.refl w.heap.size w).alloc (Nat.le_refl _) _).trans (hb.mono (Nat.le_of_lt hl))⟩
  · rw [hb.cell (p := ⟨w.heap.size, 0, none⟩) hl, World.cell?_alloc_at _ _ _ _ rfl]; rfl
  · rw [hb.cell (p := ⟨w.heap.size, 1, none⟩) hl, World.cell?_alloc_at _ _ _ _ rfl]; rfl
  · rw [hb.cell (p := ⟨w.heap.size, 2, none⟩) hl, World.cell?_alloc_at _ _ _ _ rfl]; rfl
  · rw [hb.frozen (p := ⟨w.heap.size, 0, none⟩) hl, World.frozen?_alloc_at _ _ _ _ rfl]
  · rw [hb.frozen (p := ⟨w.heap.size, 1, none⟩) hl, World.frozen?_alloc_at _ _ _ _ rfl]
  · rw [hb.frozen (p := ⟨w.heap.size, 2, none⟩) hl, World.frozen?_alloc_at _ _ _ _ rfl]
theorem keep3 {w w1 w2 : World} {x y z : Value}
    (h : w1.cell? ⟨w.heap.size, 0, none⟩ = some x ∧ w1.cell? ⟨w.heap.size, 1, none⟩ = some y ∧ w1.cell? ⟨w.heap.size, 2, none⟩ = some z ∧ w1.frozen? ⟨w.heap.size, 0, none⟩ = false ∧ w1.frozen? ⟨w.heap.size, 1, none⟩ = false ∧ w1.frozen? ⟨w.heap.size, 2, none⟩ = false ∧ w.heap.size < w1.heap.size ∧ Below w.heap.size w w1) (hb : Below w1.heap.size w1 w2) :
    w2.cell? ⟨w.heap.size, 0, none⟩ = some x ∧ w2.cell? ⟨w.heap.size, 1, none⟩ = some y ∧ w2.cell? ⟨w.heap.size, 2, none⟩ = some z ∧ w2.frozen? ⟨w.heap.size, 0, none⟩ = false ∧ w2.frozen? ⟨w.heap.size, 1, none⟩ = false ∧ w2.frozen? ⟨w.heap.size, 2, none⟩ = false ∧ w.heap.size < w2.heap.size ∧ Below w.heap.size w w2 := by
  obtain ⟨c0, c1, c2, f0, f1, f2, hl, b⟩ := h
  exact ⟨(hb.cell (p := ⟨w.heap.size, 0, none⟩) hl).trans c0, (hb.cell (p := ⟨w.heap.size, 1, none⟩) hl).trans c1, (hb.cell (p := ⟨w.heap.size, 2, none⟩) hl).trans c2, (hb.frozen (p := ⟨w.heap.size, 0, none⟩) hl).trans f0, (hb.frozen (p := ⟨w.heap.size, 1, none⟩) hl).trans f1, (hb.frozen (p := ⟨w.heap.size, 2, none⟩) hl).trans f2, Nat.lt_of_lt_of_le hl hb.size, b.trans (hb.mono (Nat.le_of_lt hl))⟩

theorem set3 {w1 : World} {b : Nat} {x y z : Value} (c0 : w1.cell? ⟨b, 0, none⟩ = some x) (c1 : w1.cell? ⟨b, 1, none⟩ = some y) (c2 : w1.cell? ⟨b, 2, none⟩ = some z) :
    (∀ u, (w1.setCell ⟨b, 0, none⟩ u).cell? ⟨b, 0, none⟩ = some u) ∧ (∀ u v, ((w1.setCell ⟨b, 0, none⟩ u).setCell ⟨b, 1, none⟩ v).cell? ⟨b, 1, none⟩ = some v) ∧ (∀ u v t, (((w1.setCell ⟨b, 0, none⟩ u).setCell ⟨b, 1, none⟩ v).setCell ⟨b, 2, none⟩ t).cell? ⟨b, 2, none⟩ = some t) :=
  ⟨fun u => World.cell?_setCell_same _ _ _ c0, fun u v => World.cell?_setCell_same _ _ _ (by rw [World.cell?_setCell_other _ _ _ _ (by simp)]; exact c1), fun u v t => World.cell?_setCell_same _ _ _ (by rw [World.cell?_setCell_other _ _ _ _ (by simp), World.cell?_setCell_other _ _ _ _ (by simp)]; exact c2)⟩

theorem post3 {w w1 : World} (h : Below w.heap.size w w1) (x y z : Value) : Below w.heap.size w (((w1.setCell ⟨w.heap.size, 0, none⟩ x).setCell ⟨w.heap.size, 1, none⟩ y).setCell ⟨w.heap.size, 2, none⟩ z) :=
  Below.setCell (p := ⟨w.heap.size, 2, none⟩) (Below.setCell (p := ⟨w.heap.size, 1, none⟩) (Below.setCell (p := ⟨w.heap.size, 0, none⟩) h (Nat.le_refl _) x) (Nat.le_refl _) y) (Nat.le_refl _) z

end Go.Proofs.YtillcmddbjhepaaDoor

namespace Go.Proofs.YtillcmddbjhepaaDoor
open Go Go.RowKit Go.Joins
set_option linter.unusedVariables false
set_option linter.unusedSimpArgs false

theorem nothing_any (s : ByteArray) (a : Nat) (w : World) (hs : s.size ≤ 9223372036854775807) (ha : a ≤ s.size) :
    Calls Tryd.prog 61 #[.string s, .int .i64 a] w fun e w' => e = .returned (if a < s.size then .tuple #[.int .i64 0, .int .i64 4] else .tuple #[.int .i64 a, .int .i64 0]) ∧ Below w.heap.size w w' := by
  by_cases h : a < s.size
  · have h1 : (a : Int) < s.size := by omega
    rw [if_pos h]
    go_enter Tryd.func61, Tryd.ntmps61
    go_wp2
    go_returns
    exact ⟨rfl, Below.refl _ _⟩
  · have h1 : ¬ (a : Int) < s.size := by omega
    rw [if_neg h]
    go_enter Tryd.func61, Tryd.ntmps61
    go_wp2
    go_returns
    exact ⟨rfl, Below.refl _ _⟩

end Go.Proofs.YtillcmddbjhepaaDoor

namespace Go.Proofs.YtillcmddbjhepaaDoor
open Go Go.RowKit Go.Joins
set_option linter.unusedVariables false
set_option linter.unusedSimpArgs false

/-- The number n alone: where it ends, its error. -/
def rX (l : List UInt8) (a n : Nat) : Nat × Nat := (Sb.tuN l a, if Sb.tuE l a = 0 then (if Sb.tuV l a = n then 0 else 12) else Sb.tuE l a)

set_option maxRecDepth 20000 in
set_option maxHeartbeats 2000000 in
theorem exactly1_any (s : ByteArray) (a n g : Nat) (w : World) (hs : s.size ≤ 9223372036854775807) (hn : n ≤ 9223372036854775807) (hg : w.cell? ⟨g, 0, none⟩ = some (.int .i64 n)) :
    Calls Tryd.prog 87 #[.string s, .int .i64 a, .pointer (some ⟨g, 0, none⟩)] w fun e w' => e = .returned (.tuple #[.int .i64 (rX s.data.toList a n).1, .int .i64 (rX s.data.toList a n).2]) ∧ Below w.heap.size w w' := by
  have CT := Lib.hid (Sb.taku_any s a w hs)
  have hb := Sb.tu_bounds s.data.toList a
  unfold Sb.tuVal at CT
  unfold rX
  generalize Sb.tuV s.data.toList a = V at *
  generalize Sb.tuN s.data.toList a = M at *
  generalize Sb.tuE s.data.toList a = E at *
  have hu : IntKind.u64.wrap (n : Int) = n := IntWalk.u64_in (n : Int) (by omega)
  by_cases h0 : E = 0
  · subst h0
    by_cases h1 : V = n
    · have h1' : ((V : Int) != (n : Int)) = false := by simp; omega
      rw [if_pos rfl, if_pos h1]
      go_enter Tryd.func87, Tryd.ntmps87
      go_wp2_with (first
        | (go_at_call 75; go_must (refine CT.out.mono ?_; rintro e w1 ⟨rfl, rfl⟩))
        | fail)
      go_returns
      exact ⟨rfl, Below.refl _ _⟩
    · have h1' : ((V : Int) != (n : Int)) = true := by simp; omega
      rw [if_pos rfl, if_neg h1]
      go_enter Tryd.func87, Tryd.ntmps87
      go_wp2_with (first
        | (go_at_call 75; go_must (refine CT.out.mono ?_; rintro e w1 ⟨rfl, rfl⟩))
        | fail)
      go_returns
      exact ⟨rfl, Below.refl _ _⟩
  · have h0' : ((E : Int) == 0) = false := by simp; omega
    rw [if_neg h0]
    go_enter Tryd.func87, Tryd.ntmps87
    go_wp2_with (first
        | (go_at_call 75; go_must (refine CT.out.mono ?_; rintro e w1 ⟨rfl, rfl⟩))
        | fail)
    go_returns
    exact ⟨rfl, Below.refl _ _⟩

end Go.Proofs.YtillcmddbjhepaaDoor

namespace Go.Proofs.YtillcmddbjhepaaDoor
open Go Go.RowKit Go.Joins
set_option linter.unusedVariables false
set_option linter.unusedSimpArgs false

/-- A number of at most m, as the program's field reads it: where it ends, its error. -/
def rM (l : List UInt8) (a m : Nat) : Nat × Nat := (Sb.tuN l a, if Sb.tuE l a = 0 then (if m < Sb.tuV l a then 6 else 0) else Sb.tuE l a)

set_option maxRecDepth 20000 in
set_option maxHeartbeats 2000000 in
theorem number1_any (s : ByteArray) (a m g h x : Nat) (o : Nat) (old : Value) (w : World) (hs : s.size ≤ 9223372036854775807) (hm : m ≤ 9223372036854775807) (hg : w.cell? ⟨g, 0, none⟩ = some (.int .i64 m)) (hh : w.cell? ⟨h, 0, none⟩ = some (.pointer (some ⟨x, o, none⟩))) (hx : w.cell? ⟨x, o, none⟩ = some old) (hf : w.frozen? ⟨x, o, none⟩ = false) :
    Calls Tryd.prog 74 #[.string s, .int .i64 a, .pointer (some ⟨g, 0, none⟩), .pointer (some ⟨h, 0, none⟩)] w fun e w' => e = .returned (.tuple #[.int .i64 (rM s.data.toList a m).1, .int .i64 (rM s.data.toList a m).2]) ∧ w' = w.setCell ⟨x, o, none⟩ (.int .i64 (IntKind.i64.wrap (Sb.tuV s.data.toList a : Int))) := by
  have CT := Lib.hid (Sb.taku_any s a w hs)
  have hb := Sb.tu_bounds s.data.toList a
  unfold Sb.tuVal at CT
  unfold rM
  generalize Sb.tuV s.data.toList a = V at *
  generalize Sb.tuN s.data.toList a = M at *
  generalize Sb.tuE s.data.toList a = E at *
  have hu : IntKind.u64.wrap (m : Int) = m := IntWalk.u64_in (m : Int) (by omega)
  obtain ⟨U, hU⟩ : ∃ U, IntKind.i64.wrap (V : Int) = U := ⟨_, rfl⟩
  by_cases h0 : E = 0
  · subst h0
    by_cases h1 : m < V
    · have h1' : (m : Int) < (V : Int) := by omega
      rw [if_pos rfl, if_pos h1]
      go_enter Tryd.func74, Tryd.ntmps74
      go_wp2_with (first
        | (go_at_call 75; go_must (refine CT.out.mono ?_; rintro e w1 ⟨rfl, rfl⟩))
        | fail)
      go_returns
      exact ⟨rfl, by rw [hU]⟩
    · have h1' : ¬ (m : Int) < (V : Int) := by omega
      rw [if_pos rfl, if_neg h1]
      go_enter Tryd.func74, Tryd.ntmps74
      go_wp2_with (first
        | (go_at_call 75; go_must (refine CT.out.mono ?_; rintro e w1 ⟨rfl, rfl⟩))
        | fail)
      go_returns
      exact ⟨rfl, by rw [hU]⟩
  · have h0' : ((E : Int) == 0) = false := by simp; omega
    rw [if_neg h0]
    go_enter Tryd.func74, Tryd.ntmps74
    go_wp2_with (first
        | (go_at_call 75; go_must (refine CT.out.mono ?_; rintro e w1 ⟨rfl, rfl⟩))
        | fail)
    go_returns
    exact ⟨rfl, by rw [hU]⟩

end Go.Proofs.YtillcmddbjhepaaDoor

namespace Go.Proofs.YtillcmddbjhepaaDoor
set_option linter.unusedSimpArgs false
open Go
set_option linter.unusedVariables false

abbrev En : Type := Nat × Nat × Nat
def tEn (l : List UInt8) : Nat → Nat → List En × Nat × Nat
  | 0, a => ([], a, 0)
  | k + 1, a => if (rE l a).2.2 = 0 then cL (rE l a).1 (tEn l k (rE l a).2.1) else ([], 0, (rE l a).2.2)
theorem tEn_ok {l : List UInt8} {k a : Nat} (h : (rE l a).2.2 = 0) : tEn l (k + 1) a = cL (rE l a).1 (tEn l k (rE l a).2.1) := by rw [tEn, if_pos h]
theorem tEn_no {l : List UInt8} {k a : Nat} (h : ¬ (rE l a).2.2 = 0) : tEn l (k + 1) a = ([], 0, (rE l a).2.2) := by rw [tEn, if_neg h]
theorem tEn_bad (l : List UInt8) (k a : Nat) : (tEn l k a).2.2 ≠ 0 → tEn l k a = ([], 0, (tEn l k a).2.2) := by
  rcases k with _ | k
  · intro h; exact absurd rfl h
  · rw [tEn]
    by_cases h0 : (rE l a).2.2 = 0
    · rw [if_pos h0]; exact cL_bad _ _
    · rw [if_neg h0]; intro _; rfl
theorem rN_le (l : List UInt8) (a m : Nat) : (rN l a m).1 ≤ m ∧ (rN l a m).2.2 ≤ 6 := by
  unfold rN
  have h := Sb.tu_bounds l a
  by_cases h1 : Sb.tuE l a = 0
  · rw [if_neg (by omega)]
    by_cases h2 : m < Sb.tuV l a
    · rw [if_pos h2]; exact ⟨Nat.zero_le _, by decide⟩
    · rw [if_neg h2]; exact ⟨by show Sb.tuV l a ≤ m; omega, by show 0 ≤ 6; omega⟩
  · rw [if_pos h1]; exact ⟨Nat.zero_le _, by show Sb.tuE l a ≤ 6; omega⟩
theorem f4_lt (l : List UInt8) (a : Nat) : f4 l a < 4294967296 := by
  unfold f4
  have h0 := (l.getD a 0).toNat_lt
  have h1 := (l.getD (a + 1) 0).toNat_lt
  have h2 := (l.getD (a + 2) 0).toNat_lt
  have h3 := (l.getD (a + 3) 0).toNat_lt
  omega
theorem rE_ok {l : List UInt8} {a : Nat} (h : (rE l a).2.2 = 0) : (rN l a 1099511627776).2.2 = 0 ∧ (rN l (rN l a 1099511627776).2.1 1048576).2.2 = 0 ∧
    ¬ l.length < (rN l (rN l a 1099511627776).2.1 1048576).2.1 + 4 ∧ rE l a = (((rN l a 1099511627776).1, (rN l (rN l a 1099511627776).2.1 1048576).1, f4 l (rN l (rN l a 1099511627776).2.1 1048576).2.1), (rN l (rN l a 1099511627776).2.1 1048576).2.1 + 4, 0) := by
  unfold rE at h ⊢
  by_cases h1 : (rN l a 1099511627776).2.2 = 0
  · rw [if_neg (by simpa using h1)] at h ⊢
    by_cases h2 : (rN l (rN l a 1099511627776).2.1 1048576).2.2 = 0
    · rw [if_neg (by simpa using h2)] at h ⊢
      unfold rF at h ⊢
      by_cases h3 : l.length < (rN l (rN l a 1099511627776).2.1 1048576).2.1 + 4
      · rw [if_pos h3] at h; exact absurd (show (5 : Nat) = 0 from h) (by decide)
      · rw [if_neg h3]; exact ⟨h1, h2, h3, rfl⟩
    · rw [if_pos h2] at h; exact absurd h h2
  · rw [if_pos h1] at h; exact absurd h h1
theorem rE_bd {l : List UInt8} {a : Nat} (h : (rE l a).2.2 = 0) : (rE l a).1.1 ≤ 1099511627776 ∧ (rE l a).1.2.1 ≤ 1048576 ∧ (rE l a).1.2.2 < 4294967296 ∧ (rE l a).2.1 ≤ l.length := by
  obtain ⟨_, _, h3, e⟩ := rE_ok h
  rw [e]
  refine ⟨(rN_le _ _ _).1, (rN_le _ _ _).1, f4_lt _ _, ?_⟩
  show (rN l (rN l a 1099511627776).2.1 1048576).2.1 + 4 ≤ l.length
  omega
def okE (x : En) : Prop := x.1 ≤ 1099511627776 ∧ x.2.1 ≤ 1048576 ∧ x.2.2 < 4294967296
theorem tEn_len {l : List UInt8} : ∀ {k a : Nat} {E : List En} {b : Nat}, tEn l k a = (E, b, 0) → E.length = k ∧ (∀ x ∈ E, okE x) ∧ (a ≤ l.length → b ≤ l.length)
  | 0, a, E, b, h => by
    rw [tEn] at h
    injection h with h1 h2; injection h2 with h2 h3
    subst h1 h2
    exact ⟨rfl, by simp, id⟩
  | k + 1, a, E, b, h => by
    by_cases h0 : (rE l a).2.2 = 0
    · rw [tEn_ok h0] at h
      obtain ⟨t, h1, rfl⟩ := cL_inv h
      obtain ⟨e1, e2, e3⟩ := tEn_len h1
      have hb := rE_bd h0
      refine ⟨by rw [List.length_cons, e1], fun x hx => ?_, fun _ => e3 hb.2.2.2⟩
      rcases List.mem_cons.1 hx with rfl | hx
      · exact ⟨hb.1, hb.2.1, hb.2.2.1⟩
      · exact e2 x hx
    · rw [tEn_no h0] at h
      injection h with h1 h2; injection h2 with h2 h3
      exact absurd h3 h0

/-- A head: names, runs, length, table, where the blocks begin; and the error. -/
abbrev Hd : Type := List ByteArray × Nat × Nat × List En × Nat
def noH : Hd := ([], 0, 0, [], 0)
def rH6 (l : List UInt8) (N : List ByteArray) (R T : Nat) (E : List En) (a : Nat) : Hd × Nat :=
  if l.length < a + 4 then (noH, 5) else if f4 l a = ck (l.take a) then ((N, R, T, E, a + 4), 0) else (noH, 12)
def rH5 (l : List UInt8) (N : List ByteArray) (R T a : Nat) : Hd × Nat :=
  if (tEn l (bkN R) a).2.2 = 0 then rH6 l N R T (tEn l (bkN R) a).1 (tEn l (bkN R) a).2.1 else (noH, (tEn l (bkN R) a).2.2)
def rH4 (l : List UInt8) (N : List ByteArray) (R T a : Nat) : Hd × Nat :=
  if Sb.tuE l a = 0 then (if Sb.tuV l a = bkN R then rH5 l N R T (Sb.tuN l a) else (noH, 12)) else (noH, Sb.tuE l a)
def rH3 (l : List UInt8) (N : List ByteArray) (R a : Nat) : Hd × Nat :=
  if (rN l a 1099511627776).2.2 = 0 then rH4 l N R (rN l a 1099511627776).1 (rN l a 1099511627776).2.1 else (noH, (rN l a 1099511627776).2.2)
def rH2 (l : List UInt8) (N : List ByteArray) (a : Nat) : Hd × Nat :=
  if (rN l a 262144).2.2 = 0 then rH3 l N (rN l a 262144).1 (rN l a 262144).2.1 else (noH, (rN l a 262144).2.2)
def rH1 (l : List UInt8) : Hd × Nat :=
  if (rNm l 3).2.2 = 0 then rH2 l (rNm l 3).1 (rNm l 3).2.1 else (noH, (rNm l 3).2.2)
/-- The fields of a head. -/
def rH (l : List UInt8) : Hd × Nat :=
  if l.length < 3 then (noH, 5) else if l.take 2 = [83, 66] then (if l.getD 2 0 = 1 then rH1 l else (noH, 18)) else (noH, 4)

/-- Where block k ends. -/
def eT (E : List En) (T k : Nat) : Nat := if h : k + 1 < E.length then E[k + 1].1 else T
/-- The blocks divide the capture. -/
def asc (E : List En) (T : Nat) : Prop := (if h : 0 < E.length then E[0].1 else T) = 0 ∧ ∀ k (hk : k < E.length), E[k].1 < eT E T k
instance (E : List En) (T : Nat) : Decidable (asc E T) := by
  unfold asc; exact inferInstance
def szE (E : List En) : Nat := (E.map (·.2.1)).sum
/-- A head, checked. -/
def rd (l : List UInt8) : Hd × Nat :=
  if (rH l).2 = 0 then
    (if asc (rH l).1.2.2.2.1 (rH l).1.2.2.1 then
      (if l.length - (rH l).1.2.2.2.2 < szE (rH l).1.2.2.2.1 then (noH, 5) else if szE (rH l).1.2.2.2.1 < l.length - (rH l).1.2.2.2.2 then (noH, 4) else rH l)
    else (noH, 12))
  else (noH, (rH l).2)

/-- Runs: n of them, of levels up to m. -/
def rB (s : List UInt8) (m : Nat) : Nat → Nat → Option (List Si.Rn × Nat)
  | 0, a => some ([], a)
  | n + 1, a =>
    if (rN s a m).2.2 = 0 ∧ (rN s (rN s a m).2.1 1099511627776).2.2 = 0 ∧ (rN s (rN s a m).2.1 1099511627776).1 ≠ 0 then
      (rB s m n (rN s (rN s a m).2.1 1099511627776).2.1).map fun r => ((((rN s a m).1 : Int), ((rN s (rN s a m).2.1 1099511627776).1 : Int)) :: r.1, r.2)
    else none
/-- The runs of a block: n of them, levels up to m, checksum c, d ticks. -/
def rBk (s : List UInt8) (m n c d : Nat) : Option (List Si.Rn) :=
  if ck s = c then (match rB s m n 0 with | none => none | some (L, a) => if a = s.length ∧ Si.lg L = d then some L else none) else none

end Go.Proofs.YtillcmddbjhepaaDoor

namespace Go.Proofs.YtillcmddbjhepaaDoor
open Go Go.RowKit Go.Joins
set_option linter.unusedVariables false
set_option linter.unusedSimpArgs false

set_option maxRecDepth 20000 in
set_option maxHeartbeats 1000000 in
theorem rest1_any (s : ByteArray) (a g x o : Nat) (T : TypeId) (cs : Array Value) (old : Value) (w : World) (hs : s.size ≤ 9223372036854775807) (ha : a ≤ s.size) (hg : w.cell? ⟨g, 0, none⟩ = some (.pointer (some ⟨x, o, none⟩))) (hx : RowAt w x T cs) (ho : cs[o]? = some old) :
    Calls Tryd.prog 78 #[.string s, .int .i64 a, .pointer (some ⟨g, 0, none⟩)] w fun e w' => e = .returned (.tuple #[.int .i64 s.size, .int .i64 0]) ∧ RowAt w' x T (cs.setIfInBounds o (.string (s.extract a s.size))) ∧ Kp [x] w w' := by
  have hai : (a : Int) ≤ s.size := by omega
  have h1 : w.drew.cell? ⟨x, o, none⟩ = some old := (hx.cell o).trans ho
  have h2 : w.drew.frozen? ⟨x, o, none⟩ = false := hx.frozen o
  have h3 : w.drew.cell? ⟨g, 0, none⟩ = some (.pointer (some ⟨x, o, none⟩)) := hg
  have h4 : (s.size : Int) ≤ 9223372036854775807 := by omega
  have HX := Lib.hid hx
  clear hx ho
  go_enter Tryd.func78, Tryd.ntmps78
  go_wp2
  go_region
  go_wp2
  go_returns
  exact ⟨rfl, HX.out.set o _, (Kp.setCell (p := ⟨x, o, none⟩) (Kp.refl [x] w) (.inl (by simp)) _).drew⟩

end Go.Proofs.YtillcmddbjhepaaDoor

namespace Go.Proofs.YtillcmddbjhepaaDoor
open Go Go.RowKit Go.Joins
set_option linter.unusedVariables false
set_option linter.unusedSimpArgs false

theorem pow_256 (k : Nat) : 256 ^ k = 2 ^ (8 * k) := by rw [show (256 : Nat) = 2 ^ 8 from rfl, ← Nat.pow_mul]
theorem or_byte {n k c : Nat} (hk : k ≤ 3) (hn : n < 256 ^ k) (hc : c < 256) : n ||| 256 ^ k * c = n + 256 ^ k * c := by
  rw [pow_256] at hn ⊢
  rw [Nat.or_comm, ← Nat.two_pow_add_eq_or_of_lt hn, Nat.add_comm]
def f4p (l : List UInt8) (a : Nat) : Nat → Nat
  | 0 => 0
  | k + 1 => f4p l a k + 256 ^ k * (l.getD (a + k) 0).toNat
theorem f4p_lt (l : List UInt8) (a : Nat) : ∀ k, f4p l a k < 256 ^ k
  | 0 => by simp [f4p]
  | k + 1 => by
    have h := f4p_lt l a k
    have h2 := Nat.mul_le_mul_left (256 ^ k) (show (l.getD (a + k) 0).toNat ≤ 255 by have := (l.getD (a + k) 0).toNat_lt; omega)
    rw [f4p, Nat.pow_succ]; omega
theorem f4p_four (l : List UInt8) (a : Nat) : f4p l a 4 = f4 l a := by
  unfold f4; simp only [f4p, Nat.add_zero]; omega

set_option maxRecDepth 20000 in
set_option maxHeartbeats 1000000 in
theorem text1_any (s : ByteArray) (a m g h x o : Nat) (T : TypeId) (cs : Array Value) (old : Value) (w : World) (hs : s.size ≤ 140737488351232) (hm : m ≤ 9223372036854775807) (hg : w.cell? ⟨g, 0, none⟩ = some (.int .i64 m)) (hgl : g < w.heap.size) (hh : w.cell? ⟨h, 0, none⟩ = some (.pointer (some ⟨x, o, none⟩))) (hhl : h < w.heap.size) (hx : RowAt w x T cs) (ho : cs[o]? = some old) :
    Calls Tryd.prog 85 #[.string s, .int .i64 a, .pointer (some ⟨g, 0, none⟩), .pointer (some ⟨h, 0, none⟩)] w fun e w' => e = .returned (.tuple #[.int .i64 (Sb.tcN s.data.toList a m + Sb.tcV s.data.toList a m : Nat), .int .i64 (Sb.tcE s.data.toList a m)]) ∧ RowAt w' x T (cs.setIfInBounds o (.string ⟨(Sb.ttS s.data.toList a m).toArray⟩)) ∧ Kp [x] w w' := by
  have CT := Lib.hid (fun w => Sb.takt_any s a m w hs (by omega) (by omega))
  unfold Sb.ttVal at CT
  generalize (⟨(Sb.ttS s.data.toList a m).toArray⟩ : ByteArray) = Z at *
  generalize (Sb.tcN s.data.toList a m + Sb.tcV s.data.toList a m : Nat) = M at *
  generalize Sb.tcE s.data.toList a m = E at *
  have HX := Lib.hid hx
  have h1 : w.drew.cell? ⟨x, o, none⟩ = some old := (hx.cell o).trans ho
  have h2 : w.drew.frozen? ⟨x, o, none⟩ = false := hx.frozen o
  have h3 : w.drew.cell? ⟨h, 0, none⟩ = some (.pointer (some ⟨x, o, none⟩)) := hh
  have h4 : w.drew.cell? ⟨g, 0, none⟩ = some (.int .i64 m) := hg
  have hxl := hx.lt
  have HS := Lib.hid (fun W (b : Below w.heap.size w.drew W) => show W.cell? ⟨h, 0, none⟩ = some (.pointer (some ⟨x, o, none⟩)) ∧ W.cell? ⟨g, 0, none⟩ = some (.int .i64 m) ∧ W.cell? ⟨x, o, none⟩ = some old ∧ W.frozen? ⟨x, o, none⟩ = false from ⟨(b.cell (p := ⟨h, 0, none⟩) hhl).trans h3, (b.cell (p := ⟨g, 0, none⟩) hgl).trans h4, (b.cell (p := ⟨x, o, none⟩) hxl).trans h1, (b.frozen (p := ⟨x, o, none⟩) hxl).trans h2⟩)
  clear hx ho
  go_enter Tryd.func85, Tryd.ntmps85
  go_wp2
  go_region_with (go_at_call 86; refine (CT.out _).mono ?_; rintro e w1 ⟨rfl, b1⟩; have B1 := Lib.hid b1; obtain ⟨q1, q2, q3, q4⟩ := HS.out w1 b1; clear b1)
  all_goals
    go_wp2
    go_returns
    refine ⟨rfl, ?_, ?_⟩
    · exact RowAt.set (RowAt.keep (w := w.drew) HX.out B1.out) o _
    · exact Kp.setCell (p := ⟨x, o, none⟩) (((Kp.refl [x] w).drew).then_below B1.out) (.inl (by simp)) _
end Go.Proofs.YtillcmddbjhepaaDoor
