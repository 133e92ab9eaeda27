/-
  Layer 17: the walks of transmission and transmit (the program's).
  Layer 17: the walk of transmission (the program's).
  Layer 17: the walk of send (the program's).
  Layer 17: the walks of Encode, Levels, Expect (the program's).
  Layer 17: the specification's Levels; the chapter's examples (awake).
  Layer 17: the walk of awake.
  Layer 17: the law of configurations.
  Layer 17: the law of decoding.
  Layer 17: the law of decoding, both for valid and for invalid configurations.
-/
import Derived.Test.YtpooolijghbkbaaZ25
import Derived.Test.YtpooolijghbkbaaZ22
import Derived.Laws.RangeString
import Derived.Laws.RangeAny
import Derived.Deep.Cut
import Derived.Deep.RegionHeld3
import Derived.Test.YtpooolijghbkbaaZ10
import Derived.Test.YtpooolijghbkbaaZ09
import Derived.Test.YtpooolijghbkbaaZ24
import Derived.Test.YtpooolijghbkbaaZ20
namespace Go.Proofs.Ytpooolijghbkbaa
open Go Go.RowKit Go.Joins
open Sw (Rn RnRow RnArg rnC lg nil_or_snoc pt pt_nil pt_snoc lg_append)
set_option linter.unusedVariables false
set_option linter.unusedSimpArgs false

/-- The iterator of a string, moved. -/
def setIt (w : World) (k : Nat) (s : ByteArray) (p : Nat) : World := { w with heap := w.heap.setIfInBounds k (.stringIter s p) }
theorem run_next_at {P : Program} (w : World) (s : ByteArray) (k pos : Nat) (ty : TypeId) (hk : w.heap[k]? = some (.stringIter s pos)) (h : pos < s.size) (ha : (s[pos]'h).toNat < 128) :
    (Instr.next (.pointer (some ⟨k, 0, none⟩)) true ty).run P w = .ok (.tuple #[.bool true, .int .i64 pos, .int .i32 (s[pos]'h).toNat]) (setIt w k s (pos + 1)) := by
  simp only [Instr.next, getObj, setObj, Sem.run_bind, Sem.run, hk, Result.andThen, h, if_true, decode_ascii s pos h ha]
  simp [goInt, Sem.run, hk, setIt]
theorem run_end_at {P : Program} (w : World) (s : ByteArray) (k pos : Nat) (ty : TypeId) (hk : w.heap[k]? = some (.stringIter s pos)) (h : ¬ pos < s.size) :
    (Instr.next (.pointer (some ⟨k, 0, none⟩)) true ty).run P w = .ok (.tuple #[.bool false]) w := by
  simp [Instr.next, getObj, Sem.run, hk, h]
theorem setIt_kp {w : World} {k : Nat} (s : ByteArray) (p : Nat) (X : List Nat) (hk : k ∈ X) : Kp X w (setIt w k s p) := by
  refine ⟨rfl, rfl, rfl, by simp [setIt], fun i hi hx => ?_⟩
  have : k ≠ i := fun e => hx (e ▸ hk)
  simp [setIt, Array.getElem?_setIfInBounds, this]
theorem setIt_at {w : World} {k : Nat} (s : ByteArray) (p : Nat) (hk : k < w.heap.size) : (setIt w k s p).heap[k]? = some (.stringIter s p) := by
  simp [setIt, Array.getElem?_setIfInBounds, hk]
theorem setIt_size (w : World) (k : Nat) (s : ByteArray) (p : Nat) : (setIt w k s p).heap.size = w.heap.size := by simp [setIt]

theorem snF_one (R P : List Rn) (v t : Int) : snF R (P ++ [(v, t)]) = sn (snF R P) v t := by rw [snF_append]; rfl
/-- One more part. -/
theorem send_next (b : Nat) (V : Value) (R P : List Rn) (T v t : Int) (w : World) (hS : Snd w b V (snF R P) (T + lg P)) (hR : R.length ≤ 262145) (hx : bdR R T) (h0 : 0 ≤ T) (hP : nn P) (t0 : 0 ≤ t) (hT : T + lg P + t ≤ 4611686018427387904) :
    Calls Try.prog 57 #[.pointer (some ⟨b, 0, none⟩), .int .i64 v, .int .i64 t] w fun e w' => e = .returned (.tuple #[]) ∧ SndP w w' b V (snF R (P ++ [(v, t)])) (T + lg (P ++ [(v, t)])) := by
  have := send_any b V (snF R P) (T + lg P) v t w hS (snF_len R P hR) (snF_bd hP hx h0) (by have := nn_lg hP; omega) t0 hT
  rw [snF_one, lg_append, show lg [(v, t)] = t by simp [lg], ← Int.add_assoc]
  exact this
theorem nn_one {P : List Rn} (h : nn P) {v t : Int} (ht : 0 ≤ t) : nn (P ++ [(v, t)]) := nn_append h fun r hr => by simp only [List.mem_singleton] at hr; subst hr; exact ht

/-- What a walk with a sender has left. -/
def SndQ (w wr : World) (b : Nat) (V V1 : Value) : Prop := Kp (b :: ows V) w wr ∧ (V1.ownBlock = V.ownBlock ∨ ∃ k, V1.ownBlock = some k ∧ w.heap.size ≤ k)
theorem SndQ.refl (w : World) (b : Nat) (V : Value) : SndQ w w b V V := ⟨Kp.refl _ _, .inl rfl⟩
theorem sndQ_trans {w w1 w2 : World} {b : Nat} {V V1 V2 : Value} (h1 : SndQ w w1 b V V1) (h2 : SndQ w1 w2 b V1 V2) : SndQ w w2 b V V2 := by
  obtain ⟨k1, o1⟩ := h1
  obtain ⟨k2, o2⟩ := h2
  have hn : ∀ k, k < w.heap.size → k ∉ b :: ows V → k ∉ b :: ows V1 := by
    intro k hk hx hm
    rcases List.mem_cons.1 hm with h | h
    · exact hx (List.mem_cons.2 (.inl h))
    · rw [ows_mem] at h
      rcases o1 with o1 | ⟨k', o1, hk'⟩
      · exact hx (List.mem_cons.2 (.inr (ows_mem.2 (o1 ▸ h))))
      · rw [o1] at h; simp only [Option.some.injEq] at h; omega
  refine ⟨⟨k2.os.trans k1.os, k2.tape.trans k1.tape, k2.output.trans k1.output, Nat.le_trans k1.size k2.size, fun k hk hx => (k2.block k (Nat.lt_of_lt_of_le hk k1.size) (hn k hk hx)).trans (k1.block k hk hx)⟩, ?_⟩
  rcases o2 with o2 | ⟨k, o2, hk⟩
  · rcases o1 with o1 | ⟨k, o1, hk⟩
    · exact .inl (o2.trans o1)
    · exact .inr ⟨k, o2.trans o1, hk⟩
  · exact .inr ⟨k, o2, Nat.le_trans k1.size hk⟩
theorem sndQ_below {w w1 w2 : World} {b : Nat} {V V1 : Value} (h1 : SndQ w w1 b V V1) (hb : Below w1.heap.size w1 w2) : SndQ w w2 b V V1 := sndQ_trans h1 ⟨Kp.of_below hb, .inl rfl⟩
/-- A block that the sender does not own is kept, and stays so. -/
theorem sndQ_row {w w1 : World} {b x : Nat} {V V1 : Value} {T : TypeId} {cs : Array Value} (h : SndQ w w1 b V V1) (hr : RowAt w x T cs) (hb : x ≠ b) (hv : V.ownBlock ≠ some x) : RowAt w1 x T cs ∧ V1.ownBlock ≠ some x := by
  refine ⟨h.1.row hr (by simp only [List.mem_cons, ows_mem, not_or]; exact ⟨hb, hv⟩), ?_⟩
  have := hr.lt
  rcases h.2 with e | ⟨k, e, hk⟩
  · rw [e]; exact hv
  · rw [e]; intro e2; simp only [Option.some.injEq] at e2; omega
theorem sndQ_blk {w w1 : World} {b x : Nat} {V V1 : Value} {o : Obj} (h : SndQ w w1 b V V1) (hr : w.heap[x]? = some o) (hb : x ≠ b) (hv : V.ownBlock ≠ some x) : w1.heap[x]? = some o ∧ V1.ownBlock ≠ some x := by
  have hl := (Array.getElem?_eq_some_iff.1 hr).1
  refine ⟨(h.1.block x hl (by simp only [List.mem_cons, ows_mem, not_or]; exact ⟨hb, hv⟩)).trans hr, ?_⟩
  rcases h.2 with e | ⟨k, e, hk⟩
  · rw [e]; exact hv
  · rw [e]; intro e2; simp only [Option.some.injEq] at e2; omega

theorem heldR {w W : World} {b4 : Nat} {x0 x1 : Value} {W0 : World} (h : W.cell? ⟨b4, 0, none⟩ = some x0 ∧ W.cell? ⟨b4, 1, none⟩ = some x1 ∧ b4 < W.heap.size ∧ Below W0.heap.size W0 W) (hb : Below W.heap.size W w) : w.cell? ⟨b4, 0, none⟩ = some x0 ∧ w.cell? ⟨b4, 1, none⟩ = some x1 ∧ b4 < w.heap.size ∧ Below W0.heap.size W0 w := by
  obtain ⟨a0, a1, l0, B⟩ := h
  have hs := hb.size
  exact ⟨(hb.cell l0).trans a0, (hb.cell l0).trans a1, by omega, B.trans (hb.mono B.size)⟩

set_option maxRecDepth 20000 in
set_option maxHeartbeats 8000000 in
theorem transmit_any (b : Nat) (V : Value) (R : List Rn) (T N D : Int) (s : ByteArray) (w : World) (h : Bt N D) (hS : Snd w b V R T) (hR : R.length ≤ 262145) (hx : bdR R T) (h0 : 0 ≤ T) (hT : T ≤ 4503599627370496) (hs : s.size ≤ 8192) (ha : ∀ j (hj : j < s.size), (s[j]'hj).toNat < 128) :
    Calls Try.prog 106 #[.pointer (some ⟨b, 0, none⟩), rat N D, .string s] w fun e w' => e = .returned (.tuple #[]) ∧ ∃ V', Snd w' b V' (snF R (bpL N D s.data.toList s.size)) (T + lg (bpL N D s.data.toList s.size)) ∧ SndQ w w' b V V' := by
  have HB : Hid (∀ q W, 0 ≤ q → q ≤ 1099511627776 → Calls Try.prog 58 #[rat N D, .int .i64 q] W fun e w' => e = .returned (.int .i64 (bdI N D q)) ∧ Below W.heap.size W w') := Lib.hid fun q W q0 q1 => boundary_any N D q W h q0 q1
  have HM : Hid (∀ q W, 0 ≤ q → q ≤ 1099511627776 → Calls Try.prog 105 #[rat N D, .int .i64 q] W fun e w' => e = .returned (.int .i64 (smI N D q)) ∧ Below W.heap.size W w') := Lib.hid fun q W q0 q1 => sample_any N D q W h q0 q1
  have HH := Lib.hid (fun c W => halves_any c W)
  have HS := Lib.hid (fun V1 P v t W hS1 hP t0 hT1 => send_next b V1 R P T v t W hS1 hR hx h0 hP t0 hT1)
  have HA := Lib.hid ha
  have HP := Lib.hid (fun j : Nat => hp_ok h j (s.data.toList.getD j 0))
  have HBP := Lib.hid (fun j => bp_ok h s.data.toList j)
  have hL := Array.length_toList (xs := s.data)
  obtain ⟨W, b4, k, eW, e4, ek⟩ : ∃ W b4 k, W = (w.alloc (.cells #[.int .i64 N, .int .i64 D] 23)).iter s 0 ∧ b4 = w.heap.size ∧ k = w.heap.size + 1 := ⟨_, _, _, rfl, rfl, rfl⟩
  have hWs : W.heap.size = k + 1 := by rw [eW, ek]; simp [World.iter, World.size_alloc]
  have hit : W.heap[k]? = some (.stringIter s 0) := by rw [eW, ek, ← World.size_alloc w (.cells #[.int .i64 N, .int .i64 D] 23)]; exact World.iter_heap _ s 0
  have hB0 : Below w.heap.size w W := by rw [eW]; exact (ba w _).trans ((ba _ _).mono (by rw [World.size_alloc]; omega))
  have hr4 : RowAt W b4 23 #[.int .i64 N, .int .i64 D] := by rw [eW, e4]; exact (RowAt.new w _ _).alloc _
  have hS1 := hS.keep hB0
  have lb := hS.box.lt
  have lo : ∀ x, V.ownBlock = some x → x < w.heap.size := fun x e => (hS.row.lt x e).2
  have HIT := Lib.hid hit; have HR4 := Lib.hid hr4; have HS1 := Lib.hid hS1; have HQ := Lib.hid (show SndQ w W b V V from sndQ_below (SndQ.refl w b V) hB0)
  have HO : Hid (V.ownBlock ≠ some b4 ∧ V.ownBlock ≠ some k) := Lib.hid ⟨fun e => by have := lo _ e; omega, fun e => by have := lo _ e; omega⟩
  clear hit hr4 hS1 hS ha lo hB0
  go_enter Try.func106, Try.ntmps106
  go_wp2
  rw [← eW, ← ek, ← e4]
  have l4 : b4 < k := by omega
  have lb4 : b ≠ b4 := by omega
  have lbk : b ≠ k := by omega
  have le4 : w.heap.size ≤ b4 := by omega
  clear eW ek e4
  go_loopw [15] (fun pp wr => ∃ (j : Nat) (V1 : Value), j ≤ s.size ∧ Hid (wr.heap[k]? = some (.stringIter s j)) ∧ Hid (Snd wr b V1 (snF R (bpL N D s.data.toList j)) (T + lg (bpL N D s.data.toList j))) ∧ Hid (V1.ownBlock ≠ some b4 ∧ V1.ownBlock ≠ some k) ∧ Hid (RowAt wr b4 23 #[.int .i64 N, .int .i64 D]) ∧ Hid (SndQ w wr b V V1)) (fun _ w' => s.size - w'.iterPos k)
  case atStart => exact ⟨0, V, Nat.zero_le _, HIT, Lib.hid (by simpa [bpL, snF, lg] using HS1.out), HO, HR4, HQ⟩
  case round =>
    obtain ⟨j, V1, hj, HI, HS1, HO, HR4, HQ⟩ := hrel
    have hkl := (Array.getElem?_eq_some_iff.1 HI.out).1
    by_cases hjl : j < s.size
    · have hji : (j : Int) < s.size := by omega
      have hnx := fun ty => run_next_at (P := Try.prog) wr s k j ty HI.out hjl (HA.out j hjl)
      have hmk : k ∈ [k] := by simp
      have KX := setIt_kp (w := wr) s (j + 1) [k] hmk
      have HI1 := Lib.hid (setIt_at (w := wr) (k := k) s (j + 1) hkl)
      have hz1 := setIt_size wr k s (j + 1)
      have HR1 := Lib.hid (KX.row HR4.out (by simp only [List.mem_singleton]; omega))
      have HX1 : Hid (Snd (setIt wr k s (j + 1)) b V1 (snF R (bpL N D s.data.toList j)) (T + lg (bpL N D s.data.toList j))) := Lib.hid ⟨KX.row HS1.out.box (by simp only [List.mem_singleton]; omega), HS1.out.row.kp KX (fun g hg hx => HO.out.2 (by rw [List.mem_singleton] at hx; rw [← hx]; exact hg))⟩
      have HQ1 : Hid (SndQ w (setIt wr k s (j + 1)) b V V1) := Lib.hid (by
        refine ⟨⟨HQ.out.1.os, HQ.out.1.tape, HQ.out.1.output, by rw [hz1]; exact HQ.out.1.size, fun i hi hx => (KX.block i (Nat.lt_of_lt_of_le hi HQ.out.1.size) (by simp only [List.mem_singleton]; omega)).trans (HQ.out.1.block i hi hx)⟩, HQ.out.2⟩)
      have hp0 : wr.iterPos k = j := by simp [World.iterPos, HI.out]
      clear KX HI
      obtain ⟨W1, hW1⟩ : ∃ W1, W1 = setIt wr k s (j + 1) := ⟨_, rfl⟩
      rw [← hW1] at hnx HI1 hz1 HR1 HX1 HQ1
      clear hW1 HQ HS1 HR4
      obtain ⟨a0, a1⟩ := row2 HR1.out
      have l41 := HR1.out.lt
      have HW : Hid (W1.cell? ⟨b4, 0, none⟩ = some (.int .i64 N) ∧ W1.cell? ⟨b4, 1, none⟩ = some (.int .i64 D) ∧ b4 < W1.heap.size ∧ Below W1.heap.size W1 W1) := Lib.hid ⟨a0, a1, l41, Below.refl _ _⟩
      have q1 : IntKind.i64.wrap ((j : Int) + 1) = (j : Int) + 1 := IntWalk.i64_in _ (by omega)
      go_upto_region 4 with (fail)
      clear hnx a0 a1
      go_cut [7, 8, 9] from 14 (fun p7 p8 p9 wc => p7 = .int .i64 (bdI N D j) ∧ p8 = .int .i64 (smI N D j) ∧ p9 = .int .i64 (bdI N D ((j : Int) + 1)) ∧ Hid (Below W1.heap.size W1 wc))
      case first =>
        go_region_held3 (fun w' => w'.cell? ⟨b4, 0, none⟩ = some (.int .i64 N) ∧ w'.cell? ⟨b4, 1, none⟩ = some (.int .i64 D) ∧ b4 < w'.heap.size ∧ Below W1.heap.size W1 w') (first | with_reducible assumption | with_reducible exact heldR HW.out (Below.refl _ _).drew | fail)
          (first
            | (go_at_call 58; refine (HB.out _ _ (by omega) (by omega)).mono ?_; rintro e6 w6 ⟨rfl, k6⟩; have h6 := heldR (by with_reducible assumption) k6)
            | (go_at_call 105; refine (HM.out _ _ (by omega) (by omega)).mono ?_; rintro e6 w6 ⟨rfl, k6⟩; have h6 := heldR (by with_reducible assumption) k6))
        all_goals
          rename_i hS9
          have YB := Lib.hid hS9.2.2.2
          clear hS9
          go_wp2
          go_meet
          case rel => exact ⟨rfl, rfl, rfl, YB⟩
      case rest =>
        obtain ⟨w0, hw0⟩ : ∃ x, x = wc := ⟨_, rfl⟩
        subst hw0
        obtain ⟨rfl, rfl, rfl, HB9⟩ := hcut
        have hPj := HP.out j
        have hBj := HBP.out j
        have hnl := nn_lg hBj.1
        have q2 : IntKind.i64.wrap (smI N D j - bdI N D j) = smI N D j - bdI N D j := IntWalk.i64_in _ (by have := hPj.2.1; simp only [hpL, lg] at this; omega)
        have q3 : IntKind.i64.wrap (bdI N D ((j : Int) + 1) - smI N D j) = bdI N D ((j : Int) + 1) - smI N D j := IntWalk.i64_in _ (by have := hPj.2.1; simp only [hpL, lg] at this; omega)
        have HX2 := Lib.hid (HX1.out.keep HB9.out)
        have HQ2 := Lib.hid (sndQ_below HQ1.out HB9.out)
        have HR2 := Lib.hid (HR1.out.keep HB9.out)
        have HI2 : Hid (w0.heap[k]? = some (.stringIter s (j + 1))) := Lib.hid ((HB9.out.block k (by omega)).trans HI1.out)
        have hgd : s.data.toList.getD j 0 = s[j]'hjl := by
          rw [List.getD, List.getElem?_eq_getElem (by rw [hL]; exact hjl)]; rfl
        have HG : Hid (bpL N D s.data.toList (j + 1) = (bpL N D s.data.toList j ++ [((hvI (s[j]'hjl)).1, smI N D j - bdI N D j)]) ++ [((hvI (s[j]'hjl)).2, bdI N D ((j : Int) + 1) - smI N D j)]) := Lib.hid (by rw [bpL, hgd, hpL, List.append_assoc]; rfl)
        have m1 := hPj.2.2.1
        have m2 := hPj.2.2.2
        have m3 := hPj.2.1
        simp only [hpL, lg] at m3
        have m4 := hBj.2
        have hk0 : k < w0.heap.size := (Array.getElem?_eq_some_iff.1 HI2.out).1
        clear HX1 HQ1 HR1 HI1 HW HB HM hgd hPj
        go_wp2_with (first
          | (go_at_call 116; go_must (refine (HH.out (s[j]'hjl) _).mono ?_; rintro e1 w1 ⟨rfl, hw⟩; have hw' := hw.symm; subst hw'))
          | (go_at_call 57; refine (HS.out _ _ _ _ _ HX3.out (nn_one hBj.1 (by omega)) (by omega) (by rw [lg_append, Sw.lg_one]; simp only; omega)).mono ?_; rintro e3 w3 ⟨rfl, V3, x3, k3, o3⟩)
          | (go_at_call 57; refine (HS.out _ _ _ _ _ HX2.out hBj.1 (by omega) (by omega)).mono ?_; rintro e2 w2 ⟨rfl, V2, x2, k2, o2⟩; have HX3 := Lib.hid x2))
        have Q12 := sndQ_trans (show SndQ w0 w2 b V1 V2 from ⟨k2, o2⟩) (show SndQ w2 w3 b V2 V3 from ⟨k3, o3⟩)
        obtain ⟨i3, oi3⟩ := sndQ_blk Q12 HI2.out (Ne.symm lbk) HO.out.2
        obtain ⟨r3, or3⟩ := sndQ_row Q12 HR2.out (Ne.symm lb4) HO.out.1
        have X3 : Hid (Snd w3 b V3 (snF R (bpL N D s.data.toList (j + 1))) (T + lg (bpL N D s.data.toList (j + 1)))) := Lib.hid (by rw [HG.out]; exact x3)
        have Q3 := Lib.hid (sndQ_trans HQ2.out Q12)
        have hp3 : w3.iterPos k = j + 1 := by simp [World.iterPos, i3]
        have I3 := Lib.hid i3; have R3 := Lib.hid r3
        clear i3 r3 Q12 x3 x2 k2 k3 o2 o3
        go_roundw
        case rel => exact ⟨j + 1, V3, by omega, I3, X3, Lib.hid ⟨or3, oi3⟩, R3, Q3⟩
        case measure => rw [hp3, hp0]; omega
    · have hne := fun ty => run_end_at (P := Try.prog) wr s k j ty HI.out hjl
      obtain rfl : j = s.size := by omega
      clear HB HM HH HS HP
      go_wp2
      go_returns
      exact ⟨rfl, V1, HS1.out, HQ.out⟩

end Go.Proofs.Ytpooolijghbkbaa

namespace Go.Proofs.Ytpooolijghbkbaa
open Go Go.RowKit Go.Joins
open Sw (Rn RnRow RnArg rnC lg nil_or_snoc pt pt_nil pt_snoc lg_append)
set_option linter.unusedVariables false
set_option linter.unusedSimpArgs false

theorem box5 (w : World) (S : Array Value) : ∃ W q, W = w.alloc (.cells S 32) ∧ q = w.heap.size ∧ q < W.heap.size ∧ RowAt W q 32 S ∧ Below w.heap.size w W :=
  ⟨_, _, rfl, rfl, by simp only [World.size_alloc]; omega, RowAt.new w _ _, ba w _⟩
theorem row5 {w : World} {b : Nat} {T : TypeId} {x0 x1 x2 x3 x4 : Value} (h : RowAt w b T #[x0, x1, x2, x3, x4]) : w.cell? ⟨b, 0, none⟩ = some x0 ∧ w.cell? ⟨b, 1, none⟩ = some x1 ∧ w.cell? ⟨b, 2, none⟩ = some x2 ∧ w.cell? ⟨b, 3, none⟩ = some x3 ∧ w.cell? ⟨b, 4, none⟩ = some x4 := ⟨h.cell 0, h.cell 1, h.cell 2, h.cell 3, h.cell 4⟩
theorem cat_data (a b : ByteArray) : (a ++ b).data.toList = a.data.toList ++ b.data.toList := by simp [ByteArray.data_append]
theorem cut_data (a : ByteArray) (n : Nat) : (a.extract 0 n).data.toList = a.data.toList.take n := by simp [ByteArray.data_extract]
theorem transmission_any (g v x : Int) (d : ByteArray) (u : Int) (w : World) (hd : d.size ≤ 4096) (hx : u = 5 → 0 ≤ x ∧ x < d.size) :
    Calls Try.prog 107 #[.agg (itA g v x d u)] w fun e w' => ∃ s : ByteArray, e = .returned (.string s) ∧ s.data.toList = txL x u d.data.toList ∧ Below w.heap.size w w' := by
  obtain ⟨W, q, eW, eq, lq, r0, B0⟩ := box5 w (itA g v x d u)
  obtain ⟨c0, c1, c2, c3, c4⟩ := row5 r0
  have HB := Lib.hid B0
  clear r0 B0
  by_cases hu : u = 5
  · obtain ⟨x0, x1⟩ := hx hu
    obtain ⟨n, rfl⟩ := Int.eq_ofNat_of_zero_le x0
    have x2 : (n : Int) ≤ d.size := by omega
    subst hu
    go_enter Try.func107, Try.ntmps107
    go_upto_region 1 with (fail)
    rw [← eW, ← eq]
    clear eW eq
    go_wp2
    go_returns
    exact ⟨_, rfl, by rw [cat_data, cat_data, cut_data]; unfold txL; simp, HB.out⟩
  · have hu' : (u == 5) = false := by simpa using hu
    go_enter Try.func107, Try.ntmps107
    go_upto_region 1 with (fail)
    rw [← eW, ← eq]
    clear eW eq
    go_wp2
    go_returns
    exact ⟨_, rfl, by rw [cat_data]; unfold txL; simp [hu], HB.out⟩

/-- Runs of valid levels. -/
theorem pu_gd {R : List Rn} {v t : Int} (h : Sw.gd R) (hv : v = 0 ∨ v = 1) : Sw.gd (pu R v t) := by
  unfold pu
  split
  · exact h
  · exact Sw.pt_gd h (by rw [Sw.gd_cons]; exact ⟨⟨hv, by simp only; omega⟩, Sw.gd_nil⟩)
def lv (P : List Rn) : Prop := ∀ r ∈ P, r.1 = 0 ∨ r.1 = 1
theorem puF_gd {P R : List Rn} (hP : lv P) (h : Sw.gd R) : Sw.gd (puF R P) := by
  induction P generalizing R with
  | nil => exact h
  | cons r P ih => exact ih (fun x hx => hP x (by simp [hx])) (pu_gd h (hP r (by simp)))
theorem puF_lg {P R : List Rn} (hP : nn P) : lg (puF R P) = lg R + lg P := by
  induction P generalizing R with
  | nil => simp [puF, lg]
  | cons r P ih =>
    have h1 := hP r (by simp)
    have e : puF R (r :: P) = puF (pu R r.1 r.2) P := rfl
    rw [e, ih (fun x hx => hP x (by simp [hx]))]
    have : lg (pu R r.1 r.2) = lg R + r.2 := by
      unfold pu; split
      · omega
      · rw [Sw.pt_lg]
    rw [this]; simp only [lg]; omega
theorem hv_lv (c : UInt8) : ((hvI c).1 = 0 ∨ (hvI c).1 = 1) ∧ ((hvI c).2 = 0 ∨ (hvI c).2 = 1) := by
  unfold hvI; split
  · exact ⟨.inr rfl, .inl rfl⟩
  · split
    · exact ⟨.inl rfl, .inr rfl⟩
    · exact ⟨.inr rfl, .inr rfl⟩
theorem lv_append {P Q : List Rn} (h1 : lv P) (h2 : lv Q) : lv (P ++ Q) := by
  intro r hr
  rcases List.mem_append.1 hr with h | h
  · exact h1 r h
  · exact h2 r h
theorem bp_lv (N D : Int) (L : List UInt8) (j : Nat) : lv (bpL N D L j) := by
  induction j with
  | zero => intro r hr; simp [bpL] at hr
  | succ j ih =>
    refine lv_append ih fun r hr => ?_
    simp only [hpL, List.mem_cons, List.not_mem_nil, or_false] at hr
    rcases hr with rfl | rfl
    · exact (hv_lv _).1
    · exact (hv_lv _).2
theorem ip_lv (N D : Int) (e : It) : lv (ipL N D e) := by
  intro r hr
  simp only [ipL, List.mem_cons, List.mem_append, List.not_mem_nil, or_false] at hr
  rcases hr with rfl | hr | rfl
  · exact .inl rfl
  · exact bp_lv _ _ _ _ r hr
  · exact .inl rfl
theorem ep_lv (N D : Int) (l : List It) (j : Nat) : lv (epL N D l j) := by
  induction j with
  | zero => intro r hr; simp only [epL, List.mem_cons, List.not_mem_nil, or_false] at hr; subst hr; exact .inl rfl
  | succ j ih => exact lv_append ih (ip_lv N D _)
/-- All runs; the error; the runs that are returned. -/
def efL (N D : Int) (l : List It) : List Rn := puF [] (epL N D l l.length)
def efE (N D : Int) (l : List It) : Int := if 262144 < (efL N D l).length then 6 else if 1099511627776 < lg (epL N D l l.length) then 2 else 0
def efR (N D : Int) (z : Bool) (l : List It) : List Rn := if efE N D l = 0 then (if z = true then efL N D l else Sw.iv (efL N D l)) else []
theorem ef_vl {N D : Int} (h : Bt N D) {l : List It} (hl : okI l) (he : efE N D l = 0) : Sw.vl (efL N D l) = true := by
  unfold efE at he
  have a := ep_ok h hl l.length (Nat.le_refl _)
  split at he
  · omega
  split at he
  · omega
  refine (Sw.vl_iff _).2 ⟨by omega, puF_gd (ep_lv N D l _) Sw.gd_nil, ?_⟩
  unfold efL; rw [puF_lg a.1]; simp only [lg]; omega
/-- The sender's result. -/
theorem sn_ef {N D : Int} (h : Bt N D) {l : List It} (hl : okI l) : rnX (snF [] (epL N D l l.length)) (lg (epL N D l l.length)) = efE N D l ∧ (efE N D l = 0 → snF [] (epL N D l l.length) = efL N D l) := by
  have a := ep_ok h hl l.length (Nat.le_refl _)
  have b := sn_pu a.1 [] [] (.inl ⟨by simp, rfl⟩)
  unfold rnX efE efL
  rcases b with ⟨b1, b2⟩ | ⟨b1, b2⟩
  · rw [b2]; exact ⟨rfl, fun _ => rfl⟩
  · rw [if_pos (by omega), if_pos (by omega)]
    exact ⟨rfl, fun he => by omega⟩

end Go.Proofs.Ytpooolijghbkbaa

namespace Go.Proofs.Ytpooolijghbkbaa
open Go Go.RowKit Go.Joins
open Sw (Rn RnRow RnArg rnC lg nil_or_snoc pt pt_nil pt_snoc lg_append)
set_option linter.unusedVariables false
set_option linter.unusedSimpArgs false

theorem Snd.drew {w : World} {b : Nat} {V : Value} {R : List Rn} {T : Int} (h : Snd w b V R T) : Snd w.drew b V R T := ⟨h.box, h.row⟩
/-- An item that may be sent. -/
structure OkT (e : It) : Prop where
  g0 : 0 ≤ e.g
  g1 : e.g ≤ 1048576
  d : e.d.size ≤ 4096
  ok : Sb.okB e.d.data.toList = true
  u : e.u = 0 ∨ e.u = 5
  x : e.u = 5 → 0 ≤ e.x ∧ e.x < e.d.size
  v : e.v = 0
  x0 : e.u = 0 → e.x = 0
theorem mg_ok {e : It} (h : mgT e = 0) : OkT e := by
  unfold mgT mgE mcE at h
  split at h
  · omega
  split at h
  · omega
  split at h
  · omega
  split at h
  · omega
  split at h
  · omega
  split at h
  · omega
  rename_i h1 h2 h3 h4 h5 h6
  refine ⟨by omega, by omega, by omega, by simpa using h3, by omega, fun hu => ?_, by omega, fun hu => ?_⟩
  · exact ⟨Int.not_lt.1 fun hc => h5 ⟨hu, .inl hc⟩, Int.not_le.1 fun hc => h5 ⟨hu, .inr hc⟩⟩
  · exact Classical.byContradiction fun hc => h6 (.inr ⟨hu, hc⟩)
theorem mf_ok {l : List It} (h : mfE l = 0) : ∀ j (hj : j < l.length), OkT l[j] := by
  induction l with
  | nil => intro j hj; simp at hj
  | cons e l ih =>
    have h0 : mgT e = 0 := by
      unfold mfE at h; split at h
      · assumption
      · assumption
    have h1 : mfE l = 0 := by unfold mfE at h; rw [if_pos h0] at h; exact h
    intro j hj
    cases j with
    | zero => exact mg_ok h0
    | succ j => exact ih h1 j (by simpa using hj)
theorem ml_ok {l : List It} (h : mlE l = 0) : l.length ≤ 1024 ∧ ∀ j (hj : j < l.length), OkT l[j] := by
  unfold mlE at h
  split at h
  · omega
  · exact ⟨by omega, mf_ok h⟩
theorem okI_of {l : List It} (h : mlE l = 0) : okI l := ⟨(ml_ok h).1, fun j hj => ⟨((ml_ok h).2 j hj).g0, ((ml_ok h).2 j hj).g1, ((ml_ok h).2 j hj).d⟩⟩
theorem tx_ascii {e : It} (h : OkT e) (s : ByteArray) (hs : s.data.toList = txL e.x e.u e.d.data.toList) : s.size ≤ 8192 ∧ ∀ j (hj : j < s.size), (s[j]'hj).toNat < 128 := by
  have hl : s.data.toList.length = s.size := Array.length_toList
  have hd : e.d.data.toList.length = e.d.size := Array.length_toList
  refine ⟨by have := tx_len e.x e.u e.d.data.toList; rw [← hl, hs]; have := h.d; omega, fun j hj => ?_⟩
  have hall : ∀ c ∈ txL e.x e.u e.d.data.toList, c.toNat < 128 := by
    have hb : ∀ c ∈ e.d.data.toList, c.toNat < 128 := by
      intro c hc
      have := Sb.okB_mem h.ok hc
      omega
    intro c hc
    unfold txL at hc
    rcases List.mem_cons.1 hc with rfl | hc
    · decide
    · split at hc
      · rcases List.mem_append.1 hc with hc | hc
        · exact hb c (List.mem_of_mem_take hc)
        · simp only [List.mem_singleton] at hc; subst hc; decide
      · exact hb c hc
  have : (s[j]'hj) ∈ s.data.toList := by
    rw [List.mem_iff_getElem]; exact ⟨j, by rw [hl]; exact hj, rfl⟩
  rw [hs] at this
  exact hall _ this

theorem held9 {w W : World} {b2 n9 X0 : Nat} {N D x0 x1 x2 x4 : Int} {x3 : ByteArray} (h : W.cell? ⟨b2, 0, none⟩ = some (.int .i64 N) ∧ W.cell? ⟨b2, 1, none⟩ = some (.int .i64 D) ∧ (W.cell? ⟨n9, 0, none⟩ = some (.int .i64 x0) ∧ W.cell? ⟨n9, 1, none⟩ = some (.int .i64 x1) ∧ W.cell? ⟨n9, 2, none⟩ = some (.int .i64 x2) ∧ W.cell? ⟨n9, 3, none⟩ = some (.string x3) ∧ W.cell? ⟨n9, 4, none⟩ = some (.int .i64 x4)) ∧ b2 < W.heap.size ∧ n9 < W.heap.size ∧ X0 ≤ W.heap.size) (hb : Below W.heap.size W w) : w.cell? ⟨b2, 0, none⟩ = some (.int .i64 N) ∧ w.cell? ⟨b2, 1, none⟩ = some (.int .i64 D) ∧ (w.cell? ⟨n9, 0, none⟩ = some (.int .i64 x0) ∧ w.cell? ⟨n9, 1, none⟩ = some (.int .i64 x1) ∧ w.cell? ⟨n9, 2, none⟩ = some (.int .i64 x2) ∧ w.cell? ⟨n9, 3, none⟩ = some (.string x3) ∧ w.cell? ⟨n9, 4, none⟩ = some (.int .i64 x4)) ∧ b2 < w.heap.size ∧ n9 < w.heap.size ∧ X0 ≤ w.heap.size := by
  obtain ⟨a0, a1, ⟨e0, e1, e2, e3, e4⟩, l0, l1, X⟩ := h
  have hs := hb.size
  exact ⟨(hb.cell l0).trans a0, (hb.cell l0).trans a1, ⟨(hb.cell l1).trans e0, (hb.cell l1).trans e1, (hb.cell l1).trans e2, (hb.cell l1).trans e3, (hb.cell l1).trans e4⟩, by omega, by omega, by omega⟩
/-- A walk with a sender changes no block that was there ahead of the sender. -/
theorem sndQ_old {w W wr : World} {b : Nat} {V1 : Value} (hB : Below w.heap.size w W) (hb : w.heap.size ≤ b) (h : SndQ W wr b (.slice none 0 0) V1) : Below w.heap.size w wr :=
  hB.trans (h.1.below (fun k hk => by simp only [ows, Value.ownBlock, Option.toList, List.mem_cons, List.not_mem_nil, or_false] at hk; omega) hB.size)

set_option maxRecDepth 20000 in
set_option maxHeartbeats 8000000 in
theorem msend_any (N D : Int) (z : Bool) (l : List It) (V : Value) (w : World) (h : Bt N D) (hT : ItArg w V l) (hl : mlE l = 0) :
    Calls Try.prog 79 #[.agg (manA N D z), V] w fun e w' => ∃ V', e = .returned (.tuple #[V', .int .i64 (efE N D l)]) ∧ RnRow w' w.heap.size V' (efR N D z l) ∧ Below w.heap.size w w' := by
  have HB : Hid (∀ q W, 0 ≤ q → q ≤ 1099511627776 → Calls Try.prog 58 #[rat N D, .int .i64 q] W fun e w' => e = .returned (.int .i64 (bdI N D q)) ∧ Below W.heap.size W w') := Lib.hid fun q W q0 q1 => boundary_any N D q W h q0 q1
  have hR0 : bdR ([] : List Rn) 0 := fun x hx => by cases hx
  have HS := Lib.hid (fun b V1 P v t W hS1 hP t0 hT1 => send_next b V1 [] P 0 v t W hS1 (by simp) hR0 (Int.le_refl _) hP t0 hT1)
  have HT : Hid (∀ b V1 P s W, Snd W b V1 (snF [] P) (0 + lg P) → nn P → 0 + lg P ≤ 4503599627370496 → s.size ≤ 8192 → (∀ j (hj : j < s.size), (s[j]'hj).toNat < 128) → Calls Try.prog 106 #[.pointer (some ⟨b, 0, none⟩), rat N D, .string s] W fun e w' => e = .returned (.tuple #[]) ∧ ∃ V', Snd w' b V' (snF (snF [] P) (bpL N D s.data.toList s.size)) (0 + lg P + lg (bpL N D s.data.toList s.size)) ∧ SndQ W w' b V1 V') := Lib.hid fun b V1 P s W hS1 hP hT1 hs ha => transmit_any b V1 (snF [] P) (0 + lg P) N D s W h hS1 (snF_len [] P (by simp)) (snF_bd hP hR0 (Int.le_refl _)) (by have := nn_lg hP; omega) hT1 hs ha
  have HU := Lib.hid (fun b V1 R T W hS1 hR => runs_any b V1 R T W hS1 hR)
  have HI := Lib.hid (fun l V W hT => Sw.invert_any l V W hT)
  have hok := ml_ok hl
  have hoi := okI_of hl
  have HOK := Lib.hid hok.2
  have HEP := Lib.hid (fun j hj => ep_ok h hoi j hj)
  have HEF := Lib.hid (sn_ef h hoi)
  have HVL := Lib.hid (fun he => ef_vl h hoi he)
  have hn := hok.1
  have d1 := (bd_next h 0)
  have d2 := (bd_next h (0 + 1))
  rw [bd_zero] at d1
  rw [show (0 : Int) + 1 + 1 = 2 by omega] at d2
  have hb2 : 8 ≤ bdI N D 2 ∧ bdI N D 2 ≤ 2097154 := by omega
  obtain ⟨EE, eEE⟩ : ∃ x, x = efE N D l := ⟨_, rfl⟩
  obtain ⟨ER, eER⟩ : ∃ x, x = efR N D z l := ⟨_, rfl⟩
  rw [← eEE, ← eER]
  have HEE := Lib.hid eEE; have HER0 := Lib.hid eER
  clear eEE eER
  obtain ⟨A, c, rfl, hA⟩ := hT
  have HA := Lib.hid hA
  have hl' : (l.length : Int) ≤ 1024 := by omega
  obtain ⟨W, b2, b, eW, e2, eb⟩ : ∃ W b2 b, W = (w.alloc (.cells (manA N D z) 59)).alloc (.cells #[.slice none 0 0, .int .i64 0] 81) ∧ b2 = w.heap.size ∧ b = w.heap.size + 1 := ⟨_, _, _, rfl, rfl, rfl⟩
  have hBW : Below w.heap.size w W := by rw [eW]; exact (ba w _).trans ((ba _ _).mono (by rw [World.size_alloc]; omega))
  have hSW : Snd W b (.slice none 0 0) [] 0 := by rw [eW, eb, ← World.size_alloc w (.cells (manA N D z) 59)]; exact Snd.new _
  have hrW : RowAt W b2 59 (manA N D z) := by rw [eW, e2]; exact (RowAt.new w _ _).alloc _
  have lW : W.heap.size = b + 1 := by rw [eW, eb]; simp [World.size_alloc]
  have l2 : b2 < b := by omega
  have le2 : w.heap.size ≤ b2 := by omega
  have HBW := Lib.hid hBW; have HSW := Lib.hid hSW; have HRW := Lib.hid hrW
  obtain ⟨z0, z1, z2⟩ := row3 hrW
  clear hBW hSW hrW hok hA d1 d2
  go_enter Try.func79, Try.ntmps79
  go_upto_region 2 with (fail)
  rw [← eW, ← eb, ← e2]
  clear eW eb e2
  go_wp2_with (first
    | (go_at_call 58; go_must (refine (HB.out _ _ (by omega) (by omega)).mono ?_; rintro e1 w1 ⟨rfl, k1⟩; have X1 := Lib.hid (HSW.out.keep k1); have Q1 := Lib.hid (sndQ_below (SndQ.refl W b (.slice none 0 0)) k1); have R1 := Lib.hid (HRW.out.keep k1)))
    | (go_at_call 57; refine (HS.out _ _ [] _ _ _ X1.out (fun r hr => by cases hr) (by omega) (by simp only [lg]; omega)).mono ?_; rintro e2 w2 ⟨rfl, V2, x2, k2, o2⟩))
  have QQ := show SndQ w1 w2 b (.slice none 0 0) V2 from ⟨k2, o2⟩
  obtain ⟨r2, or2⟩ := sndQ_row QQ R1.out (by omega) (by simp [Value.ownBlock])
  have R2 := Lib.hid r2; have O2 := Lib.hid or2
  have Q2 := Lib.hid (sndQ_trans Q1.out QQ)
  have X2 : Hid (Snd w2 b V2 (snF [] (epL N D l 0)) (0 + lg (epL N D l 0))) := Lib.hid x2
  clear QQ r2 or2 x2 k2 o2 X1 Q1 R1 z0 z1 z2 HSW HRW
  go_loopw [19] (fun i wr => ∃ (j : Nat) (V1 : Value), j ≤ l.length ∧ i = .int .i64 j ∧ Hid (Snd wr b V1 (snF [] (epL N D l j)) (0 + lg (epL N D l j))) ∧ Hid (RowAt wr b2 59 (manA N D z)) ∧ Hid (V1.ownBlock ≠ some b2) ∧ Hid (SndQ W wr b (.slice none 0 0) V1)) (fun i _ => l.length - (intOf i).toNat)
  case atStart => exact ⟨0, V2, Nat.zero_le _, rfl, X2, R2, O2, Q2⟩
  case round =>
    obtain ⟨j, V1, hj, rfl, HX, HR, HO, HQ⟩ := hrel
    have hb := sndQ_old HBW.out (by omega) HQ.out
    obtain ⟨z0, z1, z2⟩ := row3 HR.out
    by_cases hjl : j < l.length
    · obtain ⟨g, o, rfl, hg, hc⟩ := HA.out (by omega)
      obtain ⟨a0, a1, a2, a3, a4⟩ := arg_five hc j hjl
      have f0 := (hb.cell (p := ⟨g, o + j * 5, none⟩) hg).trans a0
      have f1 := (hb.cell (p := ⟨g, o + j * 5 + 1, none⟩) hg).trans a1
      have f2 := (hb.cell (p := ⟨g, o + j * 5 + 2, none⟩) hg).trans a2
      have f3 := (hb.cell (p := ⟨g, o + j * 5 + 3, none⟩) hg).trans a3
      have f4 := (hb.cell (p := ⟨g, o + j * 5 + 4, none⟩) hg).trans a4
      have hk := HOK.out j hjl
      have hp := HEP.out j (by omega)
      have hnl := nn_lg hp.1
      have hbp := bp_ok h (txL l[j].x l[j].u l[j].d.data.toList) (txL l[j].x l[j].u l[j].d.data.toList).length
      have htl := tx_len l[j].x l[j].u l[j].d.data.toList
      have hdl : l[j].d.data.toList.length = l[j].d.size := Array.length_toList
      have HTX := Lib.hid (fun W => transmission_any l[j].g l[j].v l[j].x l[j].d l[j].u W hk.d hk.x)
      have HTA := Lib.hid (fun s hs => tx_ascii hk s hs)
      have HIP : Hid (epL N D l (j + 1) = (((epL N D l j ++ [(0, l[j].g)]) ++ bpL N D (txL l[j].x l[j].u l[j].d.data.toList) (txL l[j].x l[j].u l[j].d.data.toList).length)) ++ [(0, bdI N D 2)]) := Lib.hid (by
        rw [epL, show l.getD j default = l[j] by simp [List.getD, List.getElem?_eq_getElem hjl], ipL]
        simp only [List.append_assoc, List.cons_append, List.nil_append])
      have g0 := hk.g0; have g1 := hk.g1; have hd := hk.d
      generalize txL l[j].x l[j].u l[j].d.data.toList = TX at *
      clear a0 a1 a2 a3 a4 hc hk
      generalize l[j].g = x0 at *
      generalize l[j].v = x1 at *
      generalize l[j].x = x2 at *
      generalize l[j].d = x3 at *
      generalize l[j].u = x4 at *
      obtain ⟨X, n9, eX, e9, l9, r9, B9⟩ := box5 wr (itA x0 x1 x2 x3 x4)
      go_upto_region 7 with (fail)
      rw [← eX, ← e9]
      have hb9 : b2 < n9 ∧ b < n9 := ⟨by have := HR.out.lt; omega, by have := HX.out.box.lt; omega⟩
      have hzw : wr.heap.size ≤ n9 := by omega
      clear eX e9
      obtain ⟨i0, i1, i2, i3, i4⟩ := row5 r9
      have R9 := Lib.hid r9
      have RX := Lib.hid (HR.out.keep B9); have XX := Lib.hid (HX.out.keep B9); have QX := Lib.hid (sndQ_below HQ.out B9)
      have O9 : Hid (V1.ownBlock ≠ some n9) := Lib.hid fun e => by have := (HX.out.row.lt n9 e).2; omega
      clear r9 B9 f0 f1 f2 f3 f4 HX HR HQ hb z0 z1 z2
      go_upto_region 8 with (first
        | (go_at_call 57; refine (HS.out _ _ _ _ _ _ XX.out hp.1 g0 (by omega)).mono ?_; rintro e3 w3 ⟨rfl, V3, x3', k3, o3⟩))
      have Q3 := show SndQ X w3 b V1 V3 from ⟨k3, o3⟩
      obtain ⟨r3, or3⟩ := sndQ_row Q3 RX.out (by omega) HO.out
      obtain ⟨r9, or9⟩ := sndQ_row Q3 R9.out (by omega) O9.out
      have R3 := Lib.hid r3; have O3 := Lib.hid or3; have R93 := Lib.hid r9; have O93 := Lib.hid or9
      have X3 := Lib.hid x3'
      have Q3' := Lib.hid (sndQ_trans QX.out Q3)
      obtain ⟨z0, z1, z2⟩ := row3 r3
      obtain ⟨i0, i1, i2, i3, i4⟩ := row5 r9
      have HW : Hid (w3.cell? ⟨b2, 0, none⟩ = some (.int .i64 N) ∧ w3.cell? ⟨b2, 1, none⟩ = some (.int .i64 D) ∧ (w3.cell? ⟨n9, 0, none⟩ = some (.int .i64 x0) ∧ w3.cell? ⟨n9, 1, none⟩ = some (.int .i64 x1) ∧ w3.cell? ⟨n9, 2, none⟩ = some (.int .i64 x2) ∧ w3.cell? ⟨n9, 3, none⟩ = some (.string x3) ∧ w3.cell? ⟨n9, 4, none⟩ = some (.int .i64 x4)) ∧ b2 < w3.heap.size ∧ n9 < w3.heap.size ∧ 0 ≤ w3.heap.size) := Lib.hid ⟨z0, z1, ⟨i0, i1, i2, i3, i4⟩, r3.lt, r9.lt, Nat.zero_le _⟩
      have hnn : nn (epL N D l j ++ [(0, x0)]) := nn_one hp.1 g0
      have hlg : lg (epL N D l j ++ [(0, x0)]) = lg (epL N D l j) + x0 := by rw [lg_append, Sw.lg_one]
      clear k3 o3 Q3 r3 or3 r9 or9 x3' XX QX RX R9 z0 z1 z2 i0 i1 i2 i3 i4
      go_region_held3 (fun w' => w'.cell? ⟨b2, 0, none⟩ = some (.int .i64 N) ∧ w'.cell? ⟨b2, 1, none⟩ = some (.int .i64 D) ∧ (w'.cell? ⟨n9, 0, none⟩ = some (.int .i64 x0) ∧ w'.cell? ⟨n9, 1, none⟩ = some (.int .i64 x1) ∧ w'.cell? ⟨n9, 2, none⟩ = some (.int .i64 x2) ∧ w'.cell? ⟨n9, 3, none⟩ = some (.string x3) ∧ w'.cell? ⟨n9, 4, none⟩ = some (.int .i64 x4)) ∧ b2 < w'.heap.size ∧ n9 < w'.heap.size ∧ 0 ≤ w'.heap.size) (first | with_reducible assumption | with_reducible exact held9 HW.out (Below.refl _ _).drew | fail)
        (first
          | (go_at_call 107; refine (HTX.out _).mono ?_; rintro e6 w6 ⟨s6, rfl, hs6, k6⟩; have h6 := held9 (by with_reducible assumption) k6)
          | (go_at_call 106; refine (HT.out b V3 _ s6 _ (Snd.keep (Snd.drew X3.out) k6) hnn (by rw [hlg]; omega) (HTA.out s6 hs6).1 (HTA.out s6 hs6).2).mono ?_; rintro e7 w7 ⟨rfl, V7, x7, q7⟩; have r7 := sndQ_row q7 (RowAt.keep (show RowAt w3.drew b2 _ _ from R3.out) k6) (by omega) O3.out; have r8 := sndQ_row q7 (RowAt.keep (show RowAt w3.drew n9 _ _ from R93.out) k6) (by omega) O93.out; have h7 : w7.cell? ⟨b2, 0, none⟩ = some (.int .i64 N) ∧ w7.cell? ⟨b2, 1, none⟩ = some (.int .i64 D) ∧ (w7.cell? ⟨n9, 0, none⟩ = some (.int .i64 x0) ∧ w7.cell? ⟨n9, 1, none⟩ = some (.int .i64 x1) ∧ w7.cell? ⟨n9, 2, none⟩ = some (.int .i64 x2) ∧ w7.cell? ⟨n9, 3, none⟩ = some (.string x3) ∧ w7.cell? ⟨n9, 4, none⟩ = some (.int .i64 x4)) ∧ b2 < w7.heap.size ∧ n9 < w7.heap.size ∧ 0 ≤ w7.heap.size := ⟨(row3 r7.1).1, (row3 r7.1).2.1, row5 r8.1, r7.1.lt, r8.1.lt, Nat.zero_le _⟩))
      all_goals
        rename_i hS9
        clear hS9
        have hsz : s6.size = TX.length := by rw [← hs6]; exact (Array.length_toList (xs := s6.data)).symm
        have X7 : Hid (Snd w7 b V7 (snF [] ((epL N D l j ++ [(0, x0)]) ++ bpL N D TX TX.length)) (0 + lg ((epL N D l j ++ [(0, x0)]) ++ bpL N D TX TX.length))) := Lib.hid (by rw [hs6, hsz, ← snF_append, Int.add_assoc, ← lg_append] at x7; exact x7)
        have Q7 := Lib.hid (sndQ_trans (sndQ_below Q3'.out (show Below w3.heap.size w3 w3.drew from (Below.refl _ _).drew)) (sndQ_trans ⟨Kp.of_below k6, .inl rfl⟩ q7))
        have R7 := Lib.hid r7.1; have O7 := Lib.hid r7.2
        have hn7 : nn ((epL N D l j ++ [(0, x0)]) ++ bpL N D TX TX.length) := nn_append hnn hbp.1
        have hl7 : lg ((epL N D l j ++ [(0, x0)]) ++ bpL N D TX TX.length) = lg (epL N D l j) + x0 + lg (bpL N D TX TX.length) := by rw [lg_append, hlg]
        have hb7 := hbp.2
        clear x7 q7 r7 r8 h7 h6 k6 hs6 X3 Q3' R3 R93 O3 O93
        go_wp2_with (first
          | (go_at_call 57; refine (HS.out _ _ _ _ _ _ X7.out hn7 (by omega) (by rw [hl7]; omega)).mono ?_; rintro e8 w8 ⟨rfl, V8, x8, k8, o8⟩))
        have Q8 := show SndQ w7 w8 b V7 V8 from ⟨k8, o8⟩
        obtain ⟨r8, or8⟩ := sndQ_row Q8 R7.out (by omega) O7.out
        have R8 := Lib.hid r8; have O8 := Lib.hid or8
        have Q8' := Lib.hid (sndQ_trans Q7.out Q8)
        have X8 : Hid (Snd w8 b V8 (snF [] (epL N D l (j + 1))) (0 + lg (epL N D l (j + 1)))) := Lib.hid (by rw [HIP.out]; exact x8)
        clear Q8 r8 or8 x8 k8 o8
        go_roundw
        case rel => exact ⟨j + 1, V8, by omega, val_int (by omega), X8, R8, O8, Q8'⟩
        case measure => simp [intOf]; omega
    · obtain rfl : j = l.length := by omega
      have hlen := snF_len [] (epL N D l l.length) (by simp)
      have HER : Hid (efR N D z l = if efE N D l = 0 then (if z = true then efL N D l else Sw.iv (efL N D l)) else []) := Lib.hid rfl
      by_cases hE : efE N D l = 0
      · have HC : Hid (∀ W, W = wr → Calls Try.prog 59 #[.pointer (some ⟨b, 0, none⟩)] W fun e w' => e = .returned (.tuple #[V1, .int .i64 0]) ∧ wr = w') := Lib.hid (by
          rintro W rfl
          refine (HU.out _ _ _ _ _ HX.out hlen).mono fun e w' ⟨h1, h2⟩ => ⟨?_, h2.symm⟩
          rw [h1, Int.zero_add, HEF.out.1, hE]; rfl)
        have HRW := Lib.hid (show RnRow wr (b + 1) V1 (efL N D l) by have := HX.out.row; rw [HEF.out.2 hE] at this; exact this)
        have HIV := Lib.hid (Sw.ivV_yes (HVL.out hE))
        obtain ⟨VA, VN, VC, rfl, hVN⟩ := HX.out.row.form
        have HR' := Lib.hid (HER.out.trans (if_pos hE))
        clear hVN
        obtain rfl : (0 : Int) = EE := by rw [HEE.out, hE]
        have HQ' := Lib.hid (HER0.out.trans HR'.out)
        generalize efL N D l = EL at *
        clear HR' HER HU HS HT HB HEP HEF HVL HOK HA
        cases z
        · go_wp2_with (first
            | (go_at_call 59; go_must (refine (HC.out _ rfl).mono ?_; rintro e8 w8 ⟨rfl, rfl⟩))
            | (go_at_call 108; go_must (refine (HI.out EL _ _ (HRW.out.arg Sw.rnC_size)).mono ?_; rintro e9 w9 ⟨v9, rfl, r9, b9⟩)))
          go_returns
          exact ⟨_, rfl, by rw [HIV.out] at r9; rw [HQ'.out]; exact r9.mono hb.size, hb.trans (b9.mono hb.size)⟩
        · go_wp2_with (first
            | (go_at_call 59; go_must (refine (HC.out _ rfl).mono ?_; rintro e8 w8 ⟨rfl, rfl⟩)))
          go_returns
          exact ⟨_, rfl, by rw [HQ'.out]; exact HRW.out.mono (by omega), hb⟩
      · have HC : Hid (∀ W, W = wr → Calls Try.prog 59 #[.pointer (some ⟨b, 0, none⟩)] W fun e w' => e = .returned (.tuple #[.slice none 0 0, .int .i64 EE]) ∧ wr = w') := Lib.hid (by
          rintro W rfl
          refine (HU.out _ _ _ _ _ HX.out hlen).mono fun e w' ⟨h1, h2⟩ => ⟨?_, h2.symm⟩
          rw [h1, Int.zero_add, HEF.out.1, if_neg hE, HEE.out])
        have HR' := Lib.hid (HER.out.trans (if_neg hE))
        have HIV : Hid (Sw.ivV [] = []) := Lib.hid rfl
        obtain rfl : ([] : List Rn) = ER := (HER0.out.trans HR'.out).symm
        clear HR' HER HU HS HT HB HEP HEF HVL HOK HA
        cases z
        · go_wp2_with (first
            | (go_at_call 59; go_must (refine (HC.out _ rfl).mono ?_; rintro e8 w8 ⟨rfl, rfl⟩))
            | (go_at_call 108; go_must (refine (HI.out [] _ _ ((KRow.nil _ _ : RnRow wr 0 _ []).arg Sw.rnC_size)).mono ?_; rintro e9 w9 ⟨v9, rfl, r9, b9⟩)))
          go_returns
          exact ⟨_, rfl, by rw [HIV.out] at r9; exact r9.mono hb.size, hb.trans (b9.mono hb.size)⟩
        · go_wp2_with (first
            | (go_at_call 59; go_must (refine (HC.out _ rfl).mono ?_; rintro e8 w8 ⟨rfl, rfl⟩)))
          go_returns
          exact ⟨_, rfl, KRow.nil _ _, hb⟩

end Go.Proofs.Ytpooolijghbkbaa

namespace Go.Proofs.Ytpooolijghbkbaa
open Go Go.RowKit Go.Joins
open Sw (Rn RnRow RnArg rnC lg nil_or_snoc pt pt_nil pt_snoc lg_append)
set_option linter.unusedVariables false
set_option linter.unusedSimpArgs false

/-- The error of an encoding, its runs. -/
def menE (N D : Int) (l : List It) : Int := if ckE N D = 0 then (if mlE l = 0 then efE N D l else mlE l) else ckE N D
def menR (N D : Int) (z : Bool) (l : List It) : List Rn := if menE N D l = 0 then (if z = true then efL N D l else Sw.iv (efL N D l)) else []
theorem menR_bad {N D : Int} (z : Bool) {l : List It} (h : menE N D l ≠ 0) : menR N D z l = [] := by unfold menR; rw [if_neg h]

set_option maxRecDepth 20000 in
set_option maxHeartbeats 8000000 in
theorem encode17_any (N D : Int) (z : Bool) (l : List It) (V : Value) (w : World) (hN0 : -9223372036854775808 ≤ N) (hN1 : N ≤ 9223372036854775807) (hD0 : -9223372036854775808 ≤ D) (hD1 : D ≤ 9223372036854775807) (hT : ItArg w V l) (hl : l.length ≤ 140737488351232) (hd : ∀ j (h : j < l.length), l[j].d.size ≤ 140737488351232) :
    Calls Try.prog 38 #[.agg (manA N D z), V] w fun e w' => ∃ V', e = .returned (.tuple #[V', .int .i64 (menE N D l)]) ∧ RnRow w' w.heap.size V' (menR N D z l) ∧ Below w.heap.size w w' := by
  have CK := Lib.hid (fun W => manCheck_any N D z W hN0 hN1 hD0 hD1)
  have CI := Lib.hid (fun W (hb : Below w.heap.size w W) => mcheckItems_any l V W (hT.keep hb) hl hd)
  have CS := Lib.hid (fun W (hb : Below w.heap.size w W) (h : Bt N D) (hm : mlE l = 0) => msend_any N D z l V W h (hT.keep hb) hm)
  obtain ⟨W, b, eW, eb, c0, c1, c2, lb, B0⟩ := man_at w N D z
  have HB0 := Lib.hid B0
  have HC : Hid (W.cell? ⟨b, 0, none⟩ = some (.int .i64 N) ∧ W.cell? ⟨b, 1, none⟩ = some (.int .i64 D) ∧ W.cell? ⟨b, 2, none⟩ = some (.bool z) ∧ b < W.heap.size ∧ Below w.heap.size w W) := Lib.hid ⟨c0, c1, c2, lb, B0⟩
  have HE : Hid (menE N D l = if ckE N D = 0 then (if mlE l = 0 then efE N D l else mlE l) else ckE N D) := Lib.hid rfl
  have HR : Hid (menR N D z l = if menE N D l = 0 then (if z = true then efL N D l else Sw.iv (efL N D l)) else []) := Lib.hid rfl
  have HF : Hid (efR N D z l = if efE N D l = 0 then (if z = true then efL N D l else Sw.iv (efL N D l)) else []) := Lib.hid rfl
  obtain ⟨A, c, rfl, hA⟩ := hT
  clear hA B0
  by_cases hk : ckE N D = 0
  · rw [hk] at CK
    rw [if_pos hk] at HE
    by_cases hm : mlE l = 0
    · rw [hm] at CI
      rw [if_pos hm] at HE
      have CS' := Lib.hid (fun W hb => CS.out W hb (ck_bt hk) hm)
      have HR' : Hid (efR N D z l = menR N D z l) := Lib.hid (by rw [HR.out, HF.out, HE.out])
      rw [HE.out, ← HR'.out]
      clear HE HR HF HR' CS
      go_enter Try.func38, Try.ntmps38
      go_wp2_with (first
        | (rw [← eW, ← eb]; clear eW eb; go_at_call 34; go_must (refine (CK.out _).mono ?_; rintro e1 w1 ⟨rfl, b1⟩; have H1 := Lib.hid (man_held HC.out b1); obtain ⟨d0, d1, d2, d3, d4⟩ := H1.out))
        | (go_at_call 55; go_must (refine (CI.out _ H1.out.2.2.2.2).mono ?_; rintro e2 w2 ⟨rfl, b2⟩; have H2 := Lib.hid (man_held H1.out b2); obtain ⟨g0, g1, g2, g3, g4⟩ := H2.out))
        | (go_at_call 79; go_must (refine (CS'.out _ H2.out.2.2.2.2).mono ?_; rintro e3 w3 ⟨V3, rfl, r3, b3⟩; obtain ⟨VA, VN, VC, rfl, hVN⟩ := r3.form; clear hVN)))
      go_returns
      exact ⟨_, rfl, r3.mono H2.out.2.2.2.2.size, H2.out.2.2.2.2.trans (b3.mono H2.out.2.2.2.2.size)⟩
    · rw [if_neg hm] at HE
      have HR' : Hid (menR N D z l = []) := Lib.hid (menR_bad z (by rw [HE.out]; exact hm))
      rw [HE.out, HR'.out]
      have hm' : (mlE l == 0) = false := by simpa using hm
      clear HE HR HF HR' CS
      generalize mlE l = ME at *
      go_enter Try.func38, Try.ntmps38
      go_wp2_with (first
        | (rw [← eW, ← eb]; clear eW eb; go_at_call 34; go_must (refine (CK.out _).mono ?_; rintro e1 w1 ⟨rfl, b1⟩; have H1 := Lib.hid (man_held HC.out b1); obtain ⟨d0, d1, d2, d3, d4⟩ := H1.out))
        | (go_at_call 55; go_must (refine (CI.out _ H1.out.2.2.2.2).mono ?_; rintro e2 w2 ⟨rfl, b2⟩; have H2 := Lib.hid (man_held H1.out b2); obtain ⟨g0, g1, g2, g3, g4⟩ := H2.out)))
      go_returns
      exact ⟨_, rfl, KRow.nil _ _, H2.out.2.2.2.2⟩
  · rw [if_neg hk] at HE
    have HR' : Hid (menR N D z l = []) := Lib.hid (menR_bad z (by rw [HE.out]; exact hk))
    rw [HE.out, HR'.out]
    have hk' : (ckE N D == 0) = false := by simpa using hk
    clear HE HR HF HR' CS
    generalize ckE N D = KE at *
    go_enter Try.func38, Try.ntmps38
    go_wp2_with (first
      | (rw [← eW, ← eb]; clear eW eb; go_at_call 34; go_must (refine (CK.out _).mono ?_; rintro e1 w1 ⟨rfl, b1⟩; have H1 := Lib.hid (man_held HC.out b1); obtain ⟨d0, d1, d2, d3, d4⟩ := H1.out)))
    go_returns
    exact ⟨_, rfl, KRow.nil _ _, H1.out.2.2.2.2⟩

/-- The events of runs. -/
def lvL : Int → List Rn → List Ev
  | _, [] => []
  | b, r :: R => ⟨1, b, b + r.2, r.1, 0, [], 0⟩ :: lvL (b + r.2) R
theorem lvL_append (b : Int) (R Q : List Rn) : lvL b (R ++ Q) = lvL b R ++ lvL (b + lg R) Q := by
  induction R generalizing b with
  | nil => simp [lvL, lg]
  | cons r R ih => simp only [List.cons_append, lvL, ih, lg]; rw [← Int.add_assoc]
theorem lvL_len (b : Int) (R : List Rn) : (lvL b R).length = R.length := by
  induction R generalizing b with
  | nil => rfl
  | cons r R ih => simp [lvL, ih]
theorem nn_take {R : List Rn} (h : nn R) (j : Nat) : nn (R.take j) := fun r hr => h r (List.mem_of_mem_take hr)
theorem lg_take_le {R : List Rn} (h : nn R) (j : Nat) : lg (R.take j) ≤ lg R := by
  have e : lg R = lg (R.take j) + lg (R.drop j) := by rw [← lg_append, List.take_append_drop]
  have := nn_lg (P := R.drop j) fun r hr => h r (List.mem_of_mem_drop hr)
  omega

set_option maxRecDepth 20000 in
set_option maxHeartbeats 8000000 in
theorem levels_any (R : List Rn) (V : Value) (w : World) (hT : RnArg w V R) (hn : nn R) (hg : lg R ≤ 4611686018427387904) (hlen : R.length ≤ 1099511627776) :
    Calls Try.prog 102 #[V] w fun e w' => ∃ V', e = .returned V' ∧ EvRow w' w.heap.size V' (lvL 0 R) ∧ Below w.heap.size w w' := by
  obtain ⟨A, c, rfl, hA⟩ := hT
  have HA := Lib.hid hA
  have HN := Lib.hid hn
  have HT := Lib.hid (fun j => lg_take_le hn j)
  have HT0 := Lib.hid (fun j => nn_lg (nn_take hn j))
  have hl' : (R.length : Int) ≤ 1099511627776 := by omega
  clear hA hn
  go_enter Try.func102, Try.ntmps102
  go_wp2
  go_loopw [10, 3, 4] (fun i r t wr => ∃ (j : Nat), j ≤ R.length ∧ i = .int .i64 j ∧ t = .int .i64 (lg (R.take j)) ∧ Hid (EvRow wr w.heap.size r (lvL 0 (R.take j))) ∧ Hid (Below w.heap.size w wr)) (fun i _ _ _ => R.length - (intOf i).toNat)
  case atStart => exact ⟨0, Nat.zero_le _, rfl, rfl, Lib.hid (KRow.nil _ _), Lib.hid (Below.refl _ _)⟩
  case round =>
    obtain ⟨j, hj, rfl, rfl, HR, HB⟩ := hrel
    have hb := HB.out
    by_cases hjl : j < R.length
    · obtain ⟨g, o, rfl, hg', hc⟩ := HA.out (by omega)
      obtain ⟨a0, a1⟩ := Sw.arg_two hc j hjl
      have f0 := (hb.cell (p := ⟨g, o + j * 2, none⟩) hg').trans a0
      have f1 := (hb.cell (p := ⟨g, o + j * 2 + 1, none⟩) hg').trans a1
      have hP := Sw.lg_take R j hjl
      have t0 := HT0.out j
      have t1 := HT.out (j + 1)
      have t2 := HN.out R[j] (List.getElem_mem hjl)
      have HL : Hid (lvL 0 (R.take (j + 1)) = lvL 0 (R.take j) ++ [⟨1, lg (R.take j), lg (R.take j) + R[j].2, R[j].1, 0, [], 0⟩]) := Lib.hid (by
        rw [List.take_succ_eq_append_getElem hjl, lvL_append, Int.zero_add]; rfl)
      have hll : (lvL 0 (R.take j)).length ≤ j := by rw [lvL_len, List.length_take]; omega
      have HP := Lib.hid hP
      clear a0 a1 hc
      generalize R[j].1 = y0 at *
      generalize R[j].2 = y1 at *
      generalize lg (R.take j) = B at *
      have q1 : IntKind.i64.wrap (B + y1) = B + y1 := IntWalk.i64_in _ (by omega)
      obtain ⟨RA, RN, RC, rfl, hRN⟩ := HR.out.form
      clear hRN
      go_wp2_with (first
        | (at_builtin; go_must (refine wpList_append_k (g := wr.heap.size + 1) Try.underlying36 ev_info rfl (by omega) evC_size rfl _ _ rfl (⟨1, B, B + y1, y0, 0, [], 0⟩ : Ev) rfl rfl rfl (World.size_alloc _ _).symm (HR.out.alloc _) (Nat.le_trans hb.size (by rw [World.size_alloc]; omega)) rfl (by omega) (by omega) ?_; intro v5 w5 R5 b5; have H5 := Lib.hid R5; have B5 := Lib.hid ((hb.alloc hb.size _).trans b5); clear R5 b5)))
      go_roundw
      case rel => exact ⟨j + 1, by omega, val_int (by omega), by rw [HP.out], Lib.hid (by rw [HL.out]; exact H5.out), B5⟩
      case measure => simp [intOf]; omega
    · have he : R.take j = R := List.take_of_length_le (by omega)
      rw [he] at HR
      clear he
      go_wp2
      go_returns
      exact ⟨_, rfl, HR.out, hb⟩

/-- What is expected. -/
def meL (N D : Int) (z : Bool) (l : List It) : List Ev := if menE N D l = 0 then (mnR z N D (lvL 0 (menR N D z l))).o else []
theorem iv_nn {R : List Rn} (h : nn R) : nn (Sw.iv R) := by
  intro r hr
  obtain ⟨x, hx, rfl⟩ := List.mem_map.1 hr
  exact h x hx
/-- The runs of an encoding. -/
theorem menR_ok {N D : Int} (z : Bool) {l : List It} (he : menE N D l = 0) : Bt N D ∧ ckE N D = 0 ∧ mlE l = 0 ∧ efE N D l = 0 ∧ Sw.vl (efL N D l) = true ∧ Sw.vl (menR N D z l) = true := by
  have he' := he
  unfold menE at he
  split at he
  · rename_i hk
    split at he
    · rename_i hm
      have hv := ef_vl (ck_bt hk) (okI_of hm) he
      refine ⟨ck_bt hk, hk, hm, he, hv, ?_⟩
      unfold menR; rw [if_pos he']; split
      · exact hv
      · exact Sw.iv_vl hv
    · rename_i hm; exact absurd he hm
  · rename_i hk; exact absurd he hk
theorem menR_nn (N D : Int) (z : Bool) (l : List It) : nn (menR N D z l) ∧ lg (menR N D z l) ≤ 1099511627776 ∧ (menR N D z l).length ≤ 262144 := by
  by_cases he : menE N D l = 0
  · obtain ⟨_, _, _, _, _, hv⟩ := menR_ok z he
    obtain ⟨h1, h2, h3⟩ := (Sw.vl_iff _).1 hv
    exact ⟨fun r hr => by have := (h2 r hr).2; omega, h3, h1⟩
  · rw [menR_bad z he]; exact ⟨fun r hr => (by cases hr), by simp [lg], by simp⟩
theorem lvL_d (b : Int) (R : List Rn) : ∀ j (h : j < (lvL b R).length), (lvL b R)[j].d.length ≤ 140737488351232 := by
  have : ∀ x ∈ lvL b R, x.d = [] := by
    induction R generalizing b with
    | nil => intro x hx; cases hx
    | cons r R ih =>
      intro x hx
      rcases List.mem_cons.1 hx with rfl | hx
      · rfl
      · exact ih _ x hx
  intro j h
  rw [this _ (List.getElem_mem h)]; simp

set_option maxRecDepth 20000 in
set_option maxHeartbeats 8000000 in
theorem expectG_any (N D : Int) (z : Bool) (l : List It) (V : Value) (w : World) (hN0 : -9223372036854775808 ≤ N) (hN1 : N ≤ 9223372036854775807) (hD0 : -9223372036854775808 ≤ D) (hD1 : D ≤ 9223372036854775807) (hT : ItArg w V l) (hl : l.length ≤ 140737488351232) (hd : ∀ j (h : j < l.length), l[j].d.size ≤ 140737488351232) :
    Calls Try.prog 80 #[.agg (manA N D z), V, .func (.func 38) #[] #[], .func (.func 42) #[] #[]] w fun e w' => ∃ V', e = .returned (.tuple #[V', .int .i64 (menE N D l)]) ∧ EvRow w' w.heap.size V' (meL N D z l) ∧ Below w.heap.size w w' := by
  have CE := Lib.hid (fun W (hb : Below w.heap.size w W) => encode17_any N D z l V W hN0 hN1 hD0 hD1 (hT.keep hb) hl hd)
  obtain ⟨m1, m2, m3⟩ := menR_nn N D z l
  have CL := Lib.hid (fun V1 W (h1 : RnArg W V1 (menR N D z l)) => levels_any _ V1 W h1 m1 (by omega) (by omega))
  have CD := Lib.hid (fun V1 W (he : menE N D l = 0) (h1 : EvArg W V1 (lvL 0 (menR N D z l))) => manDecode_any N D z _ V1 W h1 (menR_ok z he).1 (menR_ok z he).2.1 (by rw [lvL_len]; omega) (lvL_d _ _))
  obtain ⟨W, b, eW, eb, c0, c1, c2, lb, B0⟩ := man_at w N D z
  have HC : Hid (W.cell? ⟨b, 0, none⟩ = some (.int .i64 N) ∧ W.cell? ⟨b, 1, none⟩ = some (.int .i64 D) ∧ W.cell? ⟨b, 2, none⟩ = some (.bool z) ∧ b < W.heap.size ∧ Below w.heap.size w W) := Lib.hid ⟨c0, c1, c2, lb, B0⟩
  have HX : Hid (meL N D z l = if menE N D l = 0 then (mnR z N D (lvL 0 (menR N D z l))).o else []) := Lib.hid rfl
  have HB0 := Lib.hid B0
  obtain ⟨A, c, rfl, hA⟩ := hT
  clear hA m1 m2 m3 B0
  by_cases he : menE N D l = 0
  · have CD' := Lib.hid (fun V1 W h1 => CD.out V1 W he h1)
    have HX' : Hid (meL N D z l = (mnR z N D (lvL 0 (menR N D z l))).o) := Lib.hid (by rw [HX.out, if_pos he])
    rw [he] at CE
    rw [he, HX'.out]
    generalize (mnR z N D (lvL 0 (menR N D z l))).o = ML at *
    generalize lvL 0 (menR N D z l) = LL at *
    generalize menR N D z l = MR at *
    clear HX HX' CD he
    go_enter Try.func80, Try.ntmps80
    go_upto_region 4 with (first
      | (rw [← eW, ← eb]; clear eW eb; go_at_call 38; go_must (refine (CE.out _ HB0.out).mono ?_; rintro e1 w1 ⟨V1, rfl, r1, b1⟩; obtain ⟨VA, VN, VC, rfl, hVN⟩ := r1.form; clear hVN; have H1 := Lib.hid (man_held HC.out b1); have R1 := Lib.hid (r1.arg Sw.rnC_size); obtain ⟨d0, d1, d2, d3, d4⟩ := H1.out)))
    go_region_held3 (fun w' => w'.cell? ⟨b, 0, none⟩ = some (.int .i64 N) ∧ w'.cell? ⟨b, 1, none⟩ = some (.int .i64 D) ∧ w'.cell? ⟨b, 2, none⟩ = some (.bool z) ∧ b < w'.heap.size ∧ Below w.heap.size w w') (first | with_reducible assumption | with_reducible exact man_held H1.out (Below.refl _ _).drew | fail)
      (first
        | (go_at_call 102; refine (CL.out _ _ (KArg.keep R1.out (show Below w1.heap.size w1 w1.drew from (Below.refl _ _).drew))).mono ?_; rintro e5 w5 ⟨V5, rfl, r5, b5⟩; have h5 := man_held (by with_reducible assumption) b5)
        | (go_at_call 42; refine (CD'.out _ _ (KRow.arg evC_size r5)).mono ?_; rintro e6 w6 ⟨V6, rfl, r6, b6⟩; have h6 := man_held (by with_reducible assumption) b6))
    all_goals
      rename_i hS9
      have hB9 := Lib.hid hS9.2.2.2.2
      have hR6 := Lib.hid (r6.mono h5.2.2.2.2.size)
      obtain ⟨VA6, VN6, VC6, rfl, hVN⟩ := r6.form
      clear hS9 hVN
      go_wp2
      go_returns
      exact ⟨_, rfl, hR6.out, hB9.out⟩
  · have HX' : Hid (meL N D z l = []) := Lib.hid (by rw [HX.out, if_neg he])
    have he' : (menE N D l == 0) = false := by simpa using he
    rw [HX'.out]
    generalize menE N D l = ME at *
    clear HX HX' CD
    go_enter Try.func80, Try.ntmps80
    go_wp2_with (first
      | (rw [← eW, ← eb]; clear eW eb; go_at_call 38; go_must (refine (CE.out _ HB0.out).mono ?_; rintro e1 w1 ⟨V1, rfl, r1, b1⟩; obtain ⟨VA, VN, VC, rfl, hVN⟩ := r1.form; clear hVN; have H1 := Lib.hid (man_held HC.out b1); obtain ⟨d0, d1, d2, d3, d4⟩ := H1.out)))
    go_returns
    exact ⟨_, rfl, KRow.nil _ _, H1.out.2.2.2.2⟩

set_option maxRecDepth 20000 in
set_option maxHeartbeats 8000000 in
theorem expect17_any (N D : Int) (z : Bool) (l : List It) (V : Value) (w : World) (hN0 : -9223372036854775808 ≤ N) (hN1 : N ≤ 9223372036854775807) (hD0 : -9223372036854775808 ≤ D) (hD1 : D ≤ 9223372036854775807) (hT : ItArg w V l) (hl : l.length ≤ 140737488351232) (hd : ∀ j (h : j < l.length), l[j].d.size ≤ 140737488351232) :
    Calls Try.prog 39 #[.agg (manA N D z), V] w fun e w' => ∃ V', e = .returned (.tuple #[V', .int .i64 (menE N D l)]) ∧ EvRow w' w.heap.size V' (meL N D z l) ∧ Below w.heap.size w w' := by
  have CE := Lib.hid (fun W (hb : Below w.heap.size w W) => expectG_any N D z l V W hN0 hN1 hD0 hD1 (hT.keep hb) hl hd)
  obtain ⟨W, b, eW, eb, c0, c1, c2, lb, B0⟩ := man_at w N D z
  have HB0 := Lib.hid B0
  obtain ⟨A, c, rfl, hA⟩ := hT
  clear hA B0
  go_enter Try.func39, Try.ntmps39
  go_wp2_with (first
    | (rw [← eW, ← eb]; clear eW eb; go_at_call 80; go_must (refine (CE.out _ HB0.out).mono ?_; rintro e1 w1 ⟨V1, rfl, r1, b1⟩; obtain ⟨VA, VN, VC, rfl, hVN⟩ := r1.form; clear hVN)))
  go_returns
  exact ⟨_, rfl, r1.mono HB0.out.size, HB0.out.trans (b1.mono HB0.out.size)⟩

end Go.Proofs.Ytpooolijghbkbaa

namespace Go.Proofs.Ytpooolijghbkbaa
open Go Go.RowKit Go.Joins
open Sw (Rn RnRow RnArg rnC lg nil_or_snoc pt pt_nil pt_snoc lg_append)
set_option linter.unusedVariables false
set_option linter.unusedSimpArgs false

set_option maxRecDepth 20000 in
set_option maxHeartbeats 8000000 in
theorem rlevels_any (R : List Rn) (V : Value) (w : World) (hT : RnArg w V R) (hn : nn R) (hg : lg R ≤ 4611686018427387904) (hlen : R.length ≤ 1099511627776) :
    Calls Try.prog 73 #[V] w fun e w' => ∃ V', e = .returned V' ∧ EvRow w' w.heap.size V' (lvL 0 R) ∧ Below w.heap.size w w' := by
  obtain ⟨A, c, rfl, hA⟩ := hT
  have HA := Lib.hid hA
  have HN := Lib.hid hn
  have HT := Lib.hid (fun j => lg_take_le hn j)
  have HT0 := Lib.hid (fun j => nn_lg (nn_take hn j))
  have hl' : (R.length : Int) ≤ 1099511627776 := by omega
  clear hA hn
  go_enter Try.func73, Try.ntmps73
  go_wp2_with (first
    | (at_make; go_must (refine wpList_room_k (n := R.length) (enc := evC) Try.underlying36 ev_info rfl _ _ rfl rfl rfl rfl (by omega) (by omega) (Nat.le_refl _) ?_; intro w1 R1 b1; have HR1 := Lib.hid R1; have HB1 := Lib.hid b1; clear R1 b1)))
  go_loopw [5, 3, 4] (fun i r t wr => ∃ (j : Nat), j ≤ R.length ∧ i = .int .i64 j ∧ t = .int .i64 (lg (R.take j)) ∧ Hid (EvRow wr w.heap.size r (lvL 0 (R.take j))) ∧ Hid (Below w.heap.size w wr)) (fun i _ _ _ => R.length - (intOf i).toNat)
  case atStart => exact ⟨0, Nat.zero_le _, rfl, rfl, HR1, HB1⟩
  case round =>
    obtain ⟨j, hj, rfl, rfl, HR, HB⟩ := hrel
    have hb := HB.out
    by_cases hjl : j < R.length
    · obtain ⟨g, o, rfl, hg', hc⟩ := HA.out (by omega)
      obtain ⟨a0, a1⟩ := Sw.arg_two hc j hjl
      have hP := Sw.lg_take R j hjl
      have t0 := HT0.out j
      have t1 := HT.out (j + 1)
      have t2 := HN.out R[j] (List.getElem_mem hjl)
      have HL : Hid (lvL 0 (R.take (j + 1)) = lvL 0 (R.take j) ++ [⟨1, lg (R.take j), lg (R.take j) + R[j].2, R[j].1, 0, [], 0⟩]) := Lib.hid (by
        rw [List.take_succ_eq_append_getElem hjl, lvL_append, Int.zero_add]; rfl)
      have hll : (lvL 0 (R.take j)).length ≤ j := by rw [lvL_len, List.length_take]; omega
      have HP := Lib.hid hP
      clear hc
      generalize R[j].1 = y0 at *
      generalize R[j].2 = y1 at *
      generalize lg (R.take j) = B at *
      generalize lvL 0 (R.take j) = E at *
      have q1 : IntKind.i64.wrap (B + y1) = B + y1 := IntWalk.i64_in _ (by omega)
      have HS := Lib.hid (fun w' (hb : Below w.heap.size w w') => And.intro ((hb.cell (p := ⟨g, o + j * 2, none⟩) hg').trans a0) (And.intro ((hb.cell (p := ⟨g, o + j * 2 + 1, none⟩) hg').trans a1) hb))
      clear a0 a1
      have hM1 : E.length + 1 ≤ 140737488355328 := by omega
      have hM2 : (E.length + 1) * 64 ≤ 140737488355328 := by omega
      have hi0 : (0 : Int) ≤ (j : Int) := by omega
      have hi1 : (j : Int) < R.length := by omega
      obtain ⟨UA, UN, UC, rfl, hUN⟩ := HR.out.form
      clear hUN
      have HRd := Lib.hid (show EvRow wr.drew w.heap.size (.slice UA UN UC) E from HR.out)
      have hdr := Lib.hid (show Below w.heap.size w wr.drew from hb.drew)
      go_wp2
      go_region_held3 (fun w' => w'.cell? ⟨g, o + j * 2, none⟩ = some (.int .i64 y0) ∧ w'.cell? ⟨g, o + j * 2 + 1, none⟩ = some (.int .i64 y1) ∧ Below w.heap.size w w') (first | exact HS.out _ hdr.out | assumption | exact HS.out _ (hdr.out.alloc hdr.out.size _) | go_keep)
        ((refine step_append_ks (P := Try.prog) Try.underlying36 ev_info rfl (by decide) evC_size (by rfl) (.tmp 15) (.tmp 30) (by rfl) (by rfl) (by rfl) (by rfl) HRd.out hdr.out.size [(⟨1, B, B + y1, y0, 0, [], 0⟩ : Ev)] (by rfl) (by decide) (by rfl) (by rfl) hM1 hM2 ?_; intro v3 w3 r3 b3; have hw3 := HS.out w3 (hdr.out.trans b3)))
      all_goals
        obtain ⟨e0, e1, _⟩ := hw3
        go_wp2
        go_roundw
        case rel => exact ⟨j + 1, by omega, val_int (by omega), by rw [HP.out], Lib.hid (by rw [HL.out]; exact r3), Lib.hid (hdr.out.trans b3)⟩
        case measure => simp [intOf]; omega
    · have he : R.take j = R := List.take_of_length_le (by omega)
      rw [he] at HR
      clear he
      go_wp2
      go_returns
      exact ⟨_, rfl, HR.out, hb⟩

theorem example_any (w : World) : Calls Try.prog 72 #[] w fun e w' => e = .returned (.agg (manA 8 1 true)) ∧ Below w.heap.size w w' := by
  go_enter Try.func72, Try.ntmps72
  go_wp2
  go_returns
  exact ⟨rfl, by (repeat' (first | with_reducible exact Below.refl _ _ | with_reducible exact Nat.le_refl _ | with_reducible assumption | with_reducible refine below_drewN ?_ _ | with_reducible refine Below.drew ?_ | with_reducible refine Below.trans ?_ (Below.mono (by assumption) ?_) | with_reducible refine Below.alloc ?_ ?_ _ | with_reducible refine Below.setCell ?_ ?_ _ | with_reducible refine le_setCell ?_ _ _ | with_reducible refine le_alloc ?_ _ | with_reducible refine le_drewN ?_ _ | with_reducible refine le_drew ?_ | with_reducible refine Nat.le_trans ?_ (Below.size (by assumption)) | (simp only [World.size_alloc, World.size_setCell]; omega) | omega))⟩
theorem bit17_any (f t v u : Int) (w : World) : Calls Try.prog 74 #[.int .i64 f, .int .i64 t, .int .i64 v, .int .i64 u] w fun e w' => e = .returned (.agg (evA 2 f t v 0 ⟨#[]⟩ u)) ∧ Below w.heap.size w w' := by
  go_enter Try.func74, Try.ntmps74
  go_wp2
  go_returns
  exact ⟨rfl, by (repeat' (first | with_reducible exact Below.refl _ _ | with_reducible exact Nat.le_refl _ | with_reducible assumption | with_reducible refine below_drewN ?_ _ | with_reducible refine Below.drew ?_ | with_reducible refine Below.trans ?_ (Below.mono (by assumption) ?_) | with_reducible refine Below.alloc ?_ ?_ _ | with_reducible refine Below.setCell ?_ ?_ _ | with_reducible refine le_setCell ?_ _ _ | with_reducible refine le_alloc ?_ _ | with_reducible refine le_drewN ?_ _ | with_reducible refine le_drew ?_ | with_reducible refine Nat.le_trans ?_ (Below.size (by assumption)) | (simp only [World.size_alloc, World.size_setCell]; omega) | omega))⟩

def xI : List It := [⟨0, 0, 0, ⟨#[49, 48]⟩, 0⟩]
def xJ : List It := [⟨0, 0, 1, ⟨#[49, 48]⟩, 5⟩]
def xR : List Rn := [(0, 20), (1, 4), (0, 4), (1, 8), (0, 20)]
def xO : List Ev := [⟨2, 24, 28, 1, 0, [], 0⟩, ⟨2, 32, 36, 0, 0, [], 0⟩]
def xP : List Ev := [⟨2, 24, 28, 1, 0, [], 0⟩, ⟨2, 32, 40, 0, 0, [], 5⟩]
theorem xI_e : menE 8 1 xI = 0 := by decide +kernel
theorem xI_r : menR 8 1 true xI = xR := by decide +kernel
theorem xJ_e : menE 8 1 xJ = 0 := by decide +kernel
theorem xJ_o : meL 8 1 true xJ = xP := by decide +kernel
theorem xR_o : (mnR true 8 1 (lvL 0 xR)).o = xO := by decide +kernel

end Go.Proofs.Ytpooolijghbkbaa

namespace Go.Proofs.Ytpooolijghbkbaa
open Go Go.RowKit Go.Joins
open Sw (Rn RnRow RnArg rnC lg nil_or_snoc pt pt_nil pt_snoc lg_append)
set_option linter.unusedVariables false
set_option linter.unusedSimpArgs false

set_option maxRecDepth 20000 in
set_option maxHeartbeats 8000000 in
theorem awake17_any (w : World) : Calls Try.prog 36 #[] w fun e w' => e = .returned (.bool true) ∧ Below w.heap.size w w' := by
  have EX := Lib.hid (fun W => example_any W)
  have BT := Lib.hid (fun f t v u W => bit17_any f t v u W)
  have CE := Lib.hid (fun W V h => encode17_any 8 1 true xI V W (by decide) (by decide) (by decide) (by decide) h (by decide) (by decide))
  have CX := Lib.hid (fun W V h => expect17_any 8 1 true xJ V W (by decide) (by decide) (by decide) (by decide) h (by decide) (by decide))
  rw [xI_e, xI_r] at CE
  rw [xJ_e, xJ_o] at CX
  have CL := Lib.hid (fun V W h => rlevels_any xR V W h (xI_r ▸ (menR_nn 8 1 true xI).1) (by decide) (by decide))
  have CD := Lib.hid (fun V W h => manDecode_any 8 1 true (lvL 0 xR) V W h (ck_bt (by decide +kernel)) (by decide +kernel) (by decide) (by decide))
  rw [xR_o] at CD
  have S8 := Lib.hid (fun V V' W h1 h2 => Sw.same_any xR V V' W h1 h2 (by decide))
  have S7 := Lib.hid (fun l V V' W h1 h2 hl => same_any l V V' W h1 h2 hl)
  have LI := Lib.hid (fun W => (KRow.lit (T := 32) itC_size W W.heap.size (Nat.le_refl _) xI #[.int .i64 0, .int .i64 0, .int .i64 0, .string ⟨#[49, 48]⟩, .int .i64 0] rfl 1 rfl (by decide)).arg itC_size)
  have LJ := Lib.hid (fun W => (KRow.lit (T := 32) itC_size W W.heap.size (Nat.le_refl _) xJ #[.int .i64 0, .int .i64 0, .int .i64 1, .string ⟨#[49, 48]⟩, .int .i64 5] rfl 1 rfl (by decide)).arg itC_size)
  have LW := Lib.hid (fun W => (KRow.lit (T := 50) Sw.rnC_size W W.heap.size (Nat.le_refl _) xR #[.int .i64 0, .int .i64 20, .int .i64 1, .int .i64 4, .int .i64 0, .int .i64 4, .int .i64 1, .int .i64 8, .int .i64 0, .int .i64 20] rfl 5 rfl (by decide)).arg Sw.rnC_size)
  have LO := Lib.hid (fun W => (KRow.lit (T := 44) evC_size W W.heap.size (Nat.le_refl _) xO #[.int .i64 2, .int .i64 24, .int .i64 28, .int .i64 1, .int .i64 0, .string ⟨#[]⟩, .int .i64 0, .int .i64 2, .int .i64 32, .int .i64 36, .int .i64 0, .int .i64 0, .string ⟨#[]⟩, .int .i64 0] rfl 2 rfl (by decide)).arg evC_size)
  have LP := Lib.hid (fun W => (KRow.lit (T := 44) evC_size W W.heap.size (Nat.le_refl _) xP #[.int .i64 2, .int .i64 24, .int .i64 28, .int .i64 1, .int .i64 0, .string ⟨#[]⟩, .int .i64 0, .int .i64 2, .int .i64 32, .int .i64 40, .int .i64 0, .int .i64 0, .string ⟨#[]⟩, .int .i64 5] rfl 2 rfl (by decide)).arg evC_size)
  have BB := Lib.hid (Below.refl w.heap.size w)
  go_enter Try.func36, Try.ntmps36
  go_wp2_with (first
    | (go_at_call 72; refine (EX.out _).mono ?_; rintro e1 w1 ⟨rfl, b1⟩; have ZZ := A4; have A2 := Lib.hid (KArg.keep A2.out b1); have AW := Lib.hid (KArg.keep AW.out b1); have A4 := Lib.hid (KArg.keep A4.out b1); have BB := Lib.hid (BB.out.trans (Below.mono b1 BB.out.size)))
    | (go_at_call 72; refine (EX.out _).mono ?_; rintro e1 w1 ⟨rfl, b1⟩; have AW := Lib.hid (KArg.keep (LW.out w2) b1); have A2 := Lib.hid (KArg.keep (KArg.keep A2.out (ba w2 _)) b1); have BB := Lib.hid ((BB.out.trans ((ba w2 _).mono BB.out.size)).trans (Below.mono b1 (BB.out.trans ((ba w2 _).mono BB.out.size)).size)))
    | (go_at_call 72; refine (EX.out _).mono ?_; rintro e1 w1 ⟨rfl, b1⟩; have BB := Lib.hid (BB.out.trans (Below.mono b1 BB.out.size)))
    | (go_at_call 38; go_must (refine (CE.out _ _ (LI.out w1)).mono ?_; rintro e2 w2 ⟨V2, rfl, r2, b2⟩; obtain ⟨g2, c2, rfl⟩ := r2.full (by decide); have A2 := Lib.hid (r2.arg Sw.rnC_size); have BB := Lib.hid ((BB.out.trans ((ba w1 _).mono BB.out.size)).trans (Below.mono b2 (BB.out.trans ((ba w1 _).mono BB.out.size)).size))))
    | (go_at_call 39; go_must (refine (CX.out _ _ (LJ.out w1)).mono ?_; rintro e4 w4 ⟨V4, rfl, r4, b4⟩; obtain ⟨g4, c4, rfl⟩ := r4.full (by decide); have A4 := Lib.hid (r4.arg evC_size); have A2 := Lib.hid (KArg.keep (KArg.keep A2.out (ba w1 _)) b4); have AW := Lib.hid (KArg.keep (KArg.keep AW.out (ba w1 _)) b4); have BB := Lib.hid ((BB.out.trans ((ba w1 _).mono BB.out.size)).trans (Below.mono b4 (BB.out.trans ((ba w1 _).mono BB.out.size)).size))))
    | (go_at_call 48; go_must (refine (S8.out _ _ _ A2.out AW.out).mono ?_; rintro e5 w5 ⟨rfl, b5⟩; have A2 := Lib.hid (KArg.keep A2.out b5); have AW := Lib.hid (KArg.keep AW.out b5); have A4 := Lib.hid (KArg.keep A4.out b5); have BB := Lib.hid (BB.out.trans (Below.mono b5 BB.out.size))))
    | (go_at_call 73; go_must (refine (CL.out _ _ AW.out).mono ?_; rintro e7 w7 ⟨V7, rfl, r7, b7⟩; obtain ⟨g7, c7, rfl⟩ := r7.full (by decide); have A7 := Lib.hid (r7.arg evC_size); have A4 := Lib.hid (KArg.keep A4.out b7); have BB := Lib.hid (BB.out.trans (Below.mono b7 BB.out.size))))
    | (go_at_call 42; go_must (refine (CD.out _ _ A7.out).mono ?_; rintro e8 w8 ⟨V8, rfl, r8, b8⟩; obtain ⟨g8, c8, rfl⟩ := r8.full (by decide); have A8 := Lib.hid (r8.arg evC_size); have A4 := Lib.hid (KArg.keep A4.out b8); have BB := Lib.hid (BB.out.trans (Below.mono b8 BB.out.size))))
    | (go_at_call 74; refine (BT.out _ _ _ _ _).mono ?_; rintro e9 w9 ⟨rfl, b9⟩; have A8 := Lib.hid (KArg.keep A8.out b9); have A4 := Lib.hid (KArg.keep A4.out b9); have BB := Lib.hid (BB.out.trans (Below.mono b9 BB.out.size)))
    | (go_at_call 45; have ZZ := S1done; refine (S7.out xP _ _ _ (KArg.keep A4.out (ba w9 _)) (LP.out w9) (by decide)).mono ?_; rintro e6 w6 ⟨rfl, b6⟩; have BB := Lib.hid ((BB.out.trans ((ba w9 _).mono BB.out.size)).trans (Below.mono b6 (BB.out.trans ((ba w9 _).mono BB.out.size)).size)))
    | (go_at_call 45; refine (S7.out xO _ _ _ (KArg.keep A8.out (ba w9 _)) (LO.out w9) (by decide)).mono ?_; rintro e6 w6 ⟨rfl, b6⟩; have S1done := b6; have A8 := Lib.hid (KArg.keep (KArg.keep A8.out (ba w9 _)) b6); have A4 := Lib.hid (KArg.keep (KArg.keep A4.out (ba w9 _)) b6); have BB := Lib.hid ((BB.out.trans ((ba w9 _).mono BB.out.size)).trans (Below.mono b6 (BB.out.trans ((ba w9 _).mono BB.out.size)).size))))
  go_returns
  exact ⟨rfl, BB.out⟩

end Go.Proofs.Ytpooolijghbkbaa

namespace Go.Proofs.Ytpooolijghbkbaa
open Go Go.RowKit Go.Joins
open Sw (Rn RnRow RnArg rnC lg)
set_option linter.unusedVariables false
set_option linter.unusedSimpArgs false

theorem one_d {k f t v a : Int} {s : ByteArray} {u : Int} (hs : s.size ≤ 140737488351232) : ∀ j (h : j < [(⟨k, f, t, v, a, s.data.toList, u⟩ : Ev)].length), [(⟨k, f, t, v, a, s.data.toList, u⟩ : Ev)][j].d.length ≤ 140737488351232 := by
  intro j hj
  simp only [List.length_cons, List.length_nil] at hj
  obtain rfl : j = 0 := by omega
  show s.data.toList.length ≤ 140737488351232
  rw [Array.length_toList]; exact hs
theorem cbox_at (w : World) (N D : Int) (z : Bool) (S : Array Value) (k f t v a : Int) (s : ByteArray) (u : Int) : ∃ W b3 b4 b5, W = ((w.alloc (.cells (manA N D z) 59)).alloc (.cells S 39)).alloc (.cells (evA k f t v a s u) 44) ∧ b5 = w.heap.size + 1 + 1 ∧ b4 = w.heap.size + 1 ∧ b3 = w.heap.size ∧ (b3 < b4 ∧ b4 < b5 ∧ b5 < W.heap.size ∧ w.heap.size ≤ b3) ∧
    RowAt W b3 59 (manA N D z) ∧ RowAt W b4 39 S ∧ RowAt W b5 44 (evA k f t v a s u) ∧ Below w.heap.size w W := by
  refine ⟨_, _, _, _, rfl, rfl, rfl, rfl, by simp only [World.size_alloc]; omega, ?_, ?_, ?_, by (repeat' (first | with_reducible exact Below.refl _ _ | with_reducible exact Nat.le_refl _ | with_reducible assumption | with_reducible refine below_drewN ?_ _ | with_reducible refine Below.drew ?_ | with_reducible refine Below.trans ?_ (Below.mono (by assumption) ?_) | with_reducible refine Below.alloc ?_ ?_ _ | with_reducible refine Below.setCell ?_ ?_ _ | with_reducible refine le_setCell ?_ _ _ | with_reducible refine le_alloc ?_ _ | with_reducible refine le_drewN ?_ _ | with_reducible refine le_drew ?_ | with_reducible refine Nat.le_trans ?_ (Below.size (by assumption)) | (simp only [World.size_alloc, World.size_setCell]; omega) | omega))⟩
  · exact ((RowAt.new w _ _).alloc _).alloc _
  · exact (RowAt.at (by simp only [World.size_alloc])).alloc _
  · exact RowAt.at (by simp only [World.size_alloc])

set_option maxRecDepth 20000 in
set_option maxHeartbeats 16000000 in
theorem law_checks17 (N D : Int) (z : Bool) (x0 x1 x2 x3 x4 x5 x6 : Int) (d : ByteArray) (k f t v a : Int) (s : ByteArray) (u : Int) (w : World) (hN0 : -9223372036854775808 ≤ N) (hN1 : N ≤ 9223372036854775807) (hD0 : -9223372036854775808 ≤ D) (hD1 : D ≤ 9223372036854775807) (hs : s.size ≤ 140737488351232) :
    Calls Try.prog 9 #[.agg (manA N D z), .agg (stA x0 x1 x2 x3 x4 x5 x6 d), .agg (evA k f t v a s u)] w fun e w' => e = .returned (.bool true) ∧ Below w.heap.size w w' := by
  have CK := Lib.hid (fun W => manCheck_any N D z W hN0 hN1 hD0 hD1)
  have CR := Lib.hid (fun W => refManCheck_any N D z W hN0 hN1 hD0 hD1)
  have CA := Lib.hid awake17_any
  obtain ⟨W, b3, b4, b5, eW, e5, e4, e3, ⟨l3, l4, l5, l0⟩, r3, r4, r5, B0⟩ := cbox_at w N D z (stA x0 x1 x2 x3 x4 x5 x6 d) k f t v a s u
  have H3 := Lib.hid r3; have H4 := Lib.hid r4; have H5 := Lib.hid r5; have HB0 := Lib.hid B0
  have BB := Lib.hid (Below.refl W.heap.size W)
  obtain ⟨a0, a1, a2⟩ := row3 r3
  clear r3 r4 r5 B0
  by_cases hk : ckE N D = 0
  · rw [hk] at CK CR
    clear hk
    go_enter Try.func9, Try.ntmps9
    go_wp2_with (first
      | (rw [← eW, ← e5, ← e4, ← e3]; clear eW e5 e4 e3; go_at_call 34; go_must (refine (CK.out _).mono ?_; rintro r1 w1 ⟨rfl, b1⟩; have BB := Lib.hid (BB.out.trans (Below.mono b1 BB.out.size)); have m3 := (H3.out.keep BB.out).lt; have m4 := (H4.out.keep BB.out).lt; have m5 := (H5.out.keep BB.out).lt; obtain ⟨a0, a1, a2⟩ := row3 (H3.out.keep BB.out); obtain ⟨⟨s0, s1, s2, s3, s4, s5, s6, s7⟩, s8⟩ := row8 (H4.out.keep BB.out); obtain ⟨⟨e0, e1, e2, e3, e4, e5, e6⟩, e7⟩ := row7 (H5.out.keep BB.out)))
      | (go_at_call 35; go_must (refine (CR.out _).mono ?_; rintro r2 w2 ⟨rfl, b2⟩; have BB := Lib.hid (BB.out.trans (Below.mono b2 BB.out.size)); have m3 := (H3.out.keep BB.out).lt; have m4 := (H4.out.keep BB.out).lt; have m5 := (H5.out.keep BB.out).lt; obtain ⟨a0, a1, a2⟩ := row3 (H3.out.keep BB.out); obtain ⟨⟨s0, s1, s2, s3, s4, s5, s6, s7⟩, s8⟩ := row8 (H4.out.keep BB.out); obtain ⟨⟨e0, e1, e2, e3, e4, e5, e6⟩, e7⟩ := row7 (H5.out.keep BB.out)))
      | (go_at_call 36; go_must (refine (CA.out _).mono ?_; rintro r10 w10 ⟨rfl, b10⟩; have BB := Lib.hid (BB.out.trans (Below.mono b10 BB.out.size)))))
    go_returns
    exact ⟨rfl, HB0.out.trans (BB.out.mono HB0.out.size)⟩
  · have CS := Lib.hid (fun W => manStep_bad N D z x0 x1 x2 x3 x4 x5 x6 d k f t v a s u W hN0 hN1 hD0 hD1 hk)
    have hme : menE N D [] = ckE N D := by unfold menE; rw [if_neg hk]
    have hmr : menR N D z [] = [] := menR_bad z (by rw [hme]; exact hk)
    have hml : meL N D z [] = [] := by unfold meL; rw [if_neg (by rw [hme]; exact hk)]
    have CE := Lib.hid (fun W => encode17_any N D z [] (.slice none 0 0) W hN0 hN1 hD0 hD1 ⟨_, _, rfl, fun h => absurd h (by simp)⟩ (by simp) (by intro j h; simp at h))
    have CX := Lib.hid (fun W => expect17_any N D z [] (.slice none 0 0) W hN0 hN1 hD0 hD1 ⟨_, _, rfl, fun h => absurd h (by simp)⟩ (by simp) (by intro j h; simp at h))
    rw [hme, hmr] at CE
    rw [hme, hml] at CX
    have CT := Lib.hid (fun W => manStart_any N D z W)
    have CN := Lib.hid (fun W => manEnd_any N D z (stA x0 x1 x2 x3 x4 x5 x6 d) W)
    have CD := Lib.hid (fun V W h => badDecode_any N D z [⟨k, f, t, v, a, s.data.toList, u⟩] V W h hN0 hN1 hD0 hD1 hk (by simp) (one_d hs))
    rw [bdP_zero] at CD
    have LE := Lib.hid (fun W => (KRow.lit (T := 44) evC_size W W.heap.size (Nat.le_refl _) [⟨k, f, t, v, a, s.data.toList, u⟩] (evA k f t v a s u) (by simp [kCs, evC]) 1 rfl (by simp)).arg evC_size)
    have Q0 := fun W => eql_st 0 0 0 0 0 0 0 ⟨#[]⟩ W
    have Q1 := fun W => eql_st x0 x1 x2 x3 x4 x5 x6 d W
    have hk' : (ckE N D == 0) = false := by simpa using hk
    generalize ckE N D = KE at *
    clear hme hmr hml
    go_enter Try.func9, Try.ntmps9
    go_wp2_with (first
      | (rw [← eW, ← e5, ← e4, ← e3]; clear eW e5 e4 e3; go_at_call 34; go_must (refine (CK.out _).mono ?_; rintro r1 w1 ⟨rfl, b1⟩; have BB := Lib.hid (BB.out.trans (Below.mono b1 BB.out.size)); have m3 := (H3.out.keep BB.out).lt; have m4 := (H4.out.keep BB.out).lt; have m5 := (H5.out.keep BB.out).lt; obtain ⟨a0, a1, a2⟩ := row3 (H3.out.keep BB.out); obtain ⟨⟨s0, s1, s2, s3, s4, s5, s6, s7⟩, s8⟩ := row8 (H4.out.keep BB.out); obtain ⟨⟨e0, e1, e2, e3, e4, e5, e6⟩, e7⟩ := row7 (H5.out.keep BB.out)))
      | (go_at_call 35; go_must (refine (CR.out _).mono ?_; rintro r2 w2 ⟨rfl, b2⟩; have BB := Lib.hid (BB.out.trans (Below.mono b2 BB.out.size)); have m3 := (H3.out.keep BB.out).lt; have m4 := (H4.out.keep BB.out).lt; have m5 := (H5.out.keep BB.out).lt; obtain ⟨a0, a1, a2⟩ := row3 (H3.out.keep BB.out); obtain ⟨⟨s0, s1, s2, s3, s4, s5, s6, s7⟩, s8⟩ := row8 (H4.out.keep BB.out); obtain ⟨⟨e0, e1, e2, e3, e4, e5, e6⟩, e7⟩ := row7 (H5.out.keep BB.out)))
      | (go_at_call 37; go_must (refine (CS.out _).mono ?_; rintro r4 w4 ⟨rfl, b4'⟩; have BB := Lib.hid (BB.out.trans (Below.mono b4' BB.out.size)); have m3 := (H3.out.keep BB.out).lt; have m4 := (H4.out.keep BB.out).lt; have m5 := (H5.out.keep BB.out).lt; obtain ⟨a0, a1, a2⟩ := row3 (H3.out.keep BB.out); obtain ⟨⟨s0, s1, s2, s3, s4, s5, s6, s7⟩, s8⟩ := row8 (H4.out.keep BB.out); obtain ⟨⟨e0, e1, e2, e3, e4, e5, e6⟩, e7⟩ := row7 (H5.out.keep BB.out)))
      | (go_at_call 38; go_must (refine (CE.out _).mono ?_; rintro r5 w5 ⟨V5, rfl, v5, b5'⟩; obtain ⟨A5, M5, C5, rfl, hM5⟩ := v5.form; obtain rfl : M5 = 0 := hM5; have N8 := Lib.hid ((RowAt.new w4 39 (stA x0 x1 x2 x3 x4 x5 x6 d)).keep b5'); have BB := Lib.hid ((BB.out.trans ((ba w4 _).mono BB.out.size)).trans (Below.mono b5' (BB.out.trans ((ba w4 _).mono BB.out.size)).size)); have m3 := (H3.out.keep BB.out).lt; have m4 := (H4.out.keep BB.out).lt; have m5 := (H5.out.keep BB.out).lt; obtain ⟨a0, a1, a2⟩ := row3 (H3.out.keep BB.out); obtain ⟨⟨s0, s1, s2, s3, s4, s5, s6, s7⟩, s8⟩ := row8 (H4.out.keep BB.out); obtain ⟨⟨e0, e1, e2, e3, e4, e5, e6⟩, e7⟩ := row7 (H5.out.keep BB.out); obtain ⟨⟨n0, n1, n2, n3, n4, n5, n6, n7⟩, n9⟩ := row8 N8.out))
      | (go_at_call 39; go_must (refine (CX.out _).mono ?_; rintro r6 w6 ⟨V6, rfl, v6, b6'⟩; obtain ⟨A6, M6, C6, rfl, hM6⟩ := v6.form; obtain rfl : M6 = 0 := hM6; have N8 := Lib.hid (N8.out.keep b6'); have BB := Lib.hid (BB.out.trans (Below.mono b6' BB.out.size)); have m3 := (H3.out.keep BB.out).lt; have m4 := (H4.out.keep BB.out).lt; have m5 := (H5.out.keep BB.out).lt; obtain ⟨a0, a1, a2⟩ := row3 (H3.out.keep BB.out); obtain ⟨⟨s0, s1, s2, s3, s4, s5, s6, s7⟩, s8⟩ := row8 (H4.out.keep BB.out); obtain ⟨⟨e0, e1, e2, e3, e4, e5, e6⟩, e7⟩ := row7 (H5.out.keep BB.out); obtain ⟨⟨n0, n1, n2, n3, n4, n5, n6, n7⟩, n9⟩ := row8 N8.out))
      | (go_at_call 40; go_must (refine (CT.out _).mono ?_; rintro r7 w7 ⟨rfl, b7⟩; have N8 := Lib.hid (N8.out.keep b7); have BB := Lib.hid (BB.out.trans (Below.mono b7 BB.out.size)); have m3 := (H3.out.keep BB.out).lt; have m4 := (H4.out.keep BB.out).lt; have m5 := (H5.out.keep BB.out).lt; obtain ⟨a0, a1, a2⟩ := row3 (H3.out.keep BB.out); obtain ⟨⟨s0, s1, s2, s3, s4, s5, s6, s7⟩, s8⟩ := row8 (H4.out.keep BB.out); obtain ⟨⟨e0, e1, e2, e3, e4, e5, e6⟩, e7⟩ := row7 (H5.out.keep BB.out); obtain ⟨⟨n0, n1, n2, n3, n4, n5, n6, n7⟩, n9⟩ := row8 N8.out))
      | (go_at_call 41; go_must (refine (CN.out _).mono ?_; rintro r8 w8 ⟨rfl, b8⟩; have N8 := Lib.hid (N8.out.keep b8); have BB := Lib.hid (BB.out.trans (Below.mono b8 BB.out.size)); have m3 := (H3.out.keep BB.out).lt; have m4 := (H4.out.keep BB.out).lt; have m5 := (H5.out.keep BB.out).lt; obtain ⟨a0, a1, a2⟩ := row3 (H3.out.keep BB.out); obtain ⟨⟨s0, s1, s2, s3, s4, s5, s6, s7⟩, s8⟩ := row8 (H4.out.keep BB.out); obtain ⟨⟨e0, e1, e2, e3, e4, e5, e6⟩, e7⟩ := row7 (H5.out.keep BB.out); obtain ⟨⟨n0, n1, n2, n3, n4, n5, n6, n7⟩, n9⟩ := row8 N8.out))
      | (go_at_call 42; go_must (refine (CD.out _ _ (LE.out w8)).mono ?_; rintro r9 w9 ⟨V9, rfl, v9, b9⟩; obtain ⟨A9, M9, C9, rfl, hM9⟩ := v9.form; obtain rfl : M9 = 0 := hM9; have BB := Lib.hid ((BB.out.trans ((ba w8 _).mono BB.out.size)).trans (Below.mono b9 (BB.out.trans ((ba w8 _).mono BB.out.size)).size)); have m3 := (H3.out.keep BB.out).lt; have m4 := (H4.out.keep BB.out).lt; have m5 := (H5.out.keep BB.out).lt; obtain ⟨a0, a1, a2⟩ := row3 (H3.out.keep BB.out); obtain ⟨⟨s0, s1, s2, s3, s4, s5, s6, s7⟩, s8⟩ := row8 (H4.out.keep BB.out); obtain ⟨⟨e0, e1, e2, e3, e4, e5, e6⟩, e7⟩ := row7 (H5.out.keep BB.out)))
      | (go_at_call 36; go_must (refine (CA.out _).mono ?_; rintro r10 w10 ⟨rfl, b10⟩; have BB := Lib.hid (BB.out.trans (Below.mono b10 BB.out.size)))))

    go_returns
    exact ⟨rfl, HB0.out.trans (BB.out.mono HB0.out.size)⟩

end Go.Proofs.Ytpooolijghbkbaa

namespace Go.Proofs.Ytpooolijghbkbaa
open Go Go.RowKit Go.Joins
set_option linter.unusedVariables false
set_option linter.unusedSimpArgs false

theorem heldE {W0 W w : World} {b2 bS : Nat} {z : Bool} {N D s0 s1 s2 s3 s6 : Int} (h : (W.cell? ⟨b2, 0, none⟩ = some (.int .i64 N) ∧ W.cell? ⟨b2, 1, none⟩ = some (.int .i64 D) ∧ W.cell? ⟨b2, 2, none⟩ = some (.bool z)) ∧ (W.cell? ⟨bS, 0, none⟩ = some (.int .i64 s0) ∧ W.cell? ⟨bS, 1, none⟩ = some (.int .i64 s1) ∧ W.cell? ⟨bS, 2, none⟩ = some (.int .i64 s2) ∧ W.cell? ⟨bS, 3, none⟩ = some (.int .i64 s3) ∧ W.cell? ⟨bS, 4, none⟩ = some (.int .i64 0) ∧ W.cell? ⟨bS, 5, none⟩ = some (.int .i64 0) ∧ W.cell? ⟨bS, 6, none⟩ = some (.int .i64 s6) ∧ W.cell? ⟨bS, 7, none⟩ = some (.string ⟨#[]⟩)) ∧ b2 < W.heap.size ∧ bS < W.heap.size ∧ Below W0.heap.size W0 W) (hb : Below W.heap.size W w) : (w.cell? ⟨b2, 0, none⟩ = some (.int .i64 N) ∧ w.cell? ⟨b2, 1, none⟩ = some (.int .i64 D) ∧ w.cell? ⟨b2, 2, none⟩ = some (.bool z)) ∧ (w.cell? ⟨bS, 0, none⟩ = some (.int .i64 s0) ∧ w.cell? ⟨bS, 1, none⟩ = some (.int .i64 s1) ∧ w.cell? ⟨bS, 2, none⟩ = some (.int .i64 s2) ∧ w.cell? ⟨bS, 3, none⟩ = some (.int .i64 s3) ∧ w.cell? ⟨bS, 4, none⟩ = some (.int .i64 0) ∧ w.cell? ⟨bS, 5, none⟩ = some (.int .i64 0) ∧ w.cell? ⟨bS, 6, none⟩ = some (.int .i64 s6) ∧ w.cell? ⟨bS, 7, none⟩ = some (.string ⟨#[]⟩)) ∧ b2 < w.heap.size ∧ bS < w.heap.size ∧ Below W0.heap.size W0 w := by
  obtain ⟨⟨a0, a1, a2⟩, ⟨c0, c1, c2, c3, c4, c5, c6, c7⟩, l0, l1, B⟩ := h
  have hs := hb.size
  exact ⟨⟨(hb.cell l0).trans a0, (hb.cell l0).trans a1, (hb.cell l0).trans a2⟩, ⟨(hb.cell l1).trans c0, (hb.cell l1).trans c1, (hb.cell l1).trans c2, (hb.cell l1).trans c3, (hb.cell l1).trans c4, (hb.cell l1).trans c5, (hb.cell l1).trans c6, (hb.cell l1).trans c7⟩, by omega, by omega, B.trans (hb.mono B.size)⟩

set_option maxRecDepth 100000 in
set_option maxHeartbeats 16000000 in
theorem law_dec17 (N D : Int) (z : Bool) (l : List Ev) (V : Value) (w : World) (hT : EvArg w V l) (hl : l.length ≤ 2000) (P R : Nat → MN) (Q : Nat → List Ev) (LD : List Ev) (hQ : ∀ j, j < l.length → (Q j).length ≤ 1) (hLD : LD.length ≤ 2000)
    (P0 : P 0 = MN.zero) (R0 : R 0 = MN.zero)
    (HP : ∀ j (hj : j < l.length) W, Calls Try.prog 37 #[.agg (manA N D z), .agg (mnA (P j).y (P j).e (P j).m (P j).p), .agg (evA l[j].k l[j].f l[j].t l[j].v l[j].a ⟨l[j].d.toArray⟩ l[j].u)] W fun r w' => ∃ V, r = .returned (.tuple #[.agg (mnA (P (j + 1)).y (P (j + 1)).e (P (j + 1)).m (P (j + 1)).p), V]) ∧ EvRow w' W.heap.size V (Q j) ∧ Below W.heap.size W w')
    (HR : ∀ j (hj : j < l.length) W, Calls Try.prog 44 #[.agg (manA N D z), .agg (rnA (phI (R j).e) (R j).e (R j).m (R j).y (R j).p), .agg (evA l[j].k l[j].f l[j].t l[j].v l[j].a ⟨l[j].d.toArray⟩ l[j].u)] W fun r w' => ∃ V, r = .returned (.tuple #[.agg (rnA (phI (R (j + 1)).e) (R (j + 1)).e (R (j + 1)).m (R (j + 1)).y (R (j + 1)).p), V]) ∧ EvRow w' W.heap.size V (Q j) ∧ Below W.heap.size W w')
    (HD1 : ∀ W, EvArg W V l → Calls Try.prog 42 #[.agg (manA N D z), V] W fun r w' => ∃ V', r = .returned V' ∧ EvRow w' W.heap.size V' LD ∧ Below W.heap.size W w')
    (HD2 : ∀ W, EvArg W V l → Calls Try.prog 46 #[.agg (manA N D z), V] W fun r w' => ∃ V', r = .returned V' ∧ EvRow w' W.heap.size V' LD ∧ Below W.heap.size W w') :
    Calls Try.prog 10 #[.agg (manA N D z), V] w fun e w' => e = .returned (.bool true) ∧ Below w.heap.size w w' := by
  have CT := Lib.hid (fun W => manStart_any N D z W)
  have CU := Lib.hid (fun W => refManStart_any N D z W)
  have CN := Lib.hid (fun S W => manEnd_any N D z S W)
  have CA := Lib.hid awake17_any
  have CM := Lib.hid (fun L V V' W h1 h2 hl => same_any L V V' W h1 h2 hl)
  have HP := Lib.hid HP; have HR := Lib.hid HR; have HQ := Lib.hid hQ
  have HTA := Lib.hid (fun W (hb : Below w.heap.size w W) => hT.keep hb)
  have C1 := Lib.hid (fun W hb => HD1 W (hT.keep (w' := W) hb))
  have C2 := Lib.hid (fun W hb => HD2 W (hT.keep (w' := W) hb))
  obtain ⟨A, c, rfl, hA⟩ := hT
  have HA := Lib.hid hA
  obtain ⟨X, b2, eX, e2, l2, r2, B0⟩ := one_mbox w N D z
  have HB0 := Lib.hid B0; have H2 := Lib.hid r2
  obtain ⟨z0, z1, z2⟩ := row3 r2
  have hl' : (l.length : Int) ≤ 2000 := by omega
  clear hA B0 r2 HD1 HD2 hQ
  go_enter Try.func10, Try.ntmps10
  go_wp2_with (first
    | (rw [← eX, ← e2]; clear eX e2; go_at_call 40; go_must (refine (CT.out _).mono ?_; rintro e1 w1 ⟨rfl, b1⟩; have B1 := Lib.hid (HB0.out.trans (b1.mono HB0.out.size)); have Z1 := Lib.hid (H2.out.keep b1); have m1 := Z1.out.lt; obtain ⟨z0, z1, z2⟩ := row3 Z1.out))
    | (go_at_call 43; go_must (refine (CU.out _).mono ?_; rintro e3 w3 ⟨rfl, b3⟩; have S3 := Lib.hid ((RowAt.new w1 39 (mnA 0 0 0 0)).keep b3); have B3 := Lib.hid ((B1.out.alloc B1.out.size (.cells (mnA 0 0 0 0) 39)).trans (b3.mono (B1.out.alloc B1.out.size _).size)); have Z3 := Lib.hid ((Z1.out.alloc (.cells (mnA 0 0 0 0) 39)).keep b3); have m3 := S3.out.lt; have s3 := b3.size; rw [World.size_alloc] at s3)))
  have r6 := Lib.hid (RowAt.new w3 39 (rnA 0 0 0 0 0))
  have S6 := Lib.hid (S3.out.alloc (.cells (rnA 0 0 0 0 0) 39))
  have Z6 := Lib.hid (Z3.out.alloc (.cells (rnA 0 0 0 0 0) 39))
  have B6 := Lib.hid (B3.out.alloc B3.out.size (.cells (rnA 0 0 0 0 0) 39))
  obtain ⟨W, bS, bR, eW, eS, eR⟩ : ∃ W bS bR, W = w3.alloc (.cells (rnA 0 0 0 0 0) 39) ∧ bS = w1.heap.size ∧ bR = w3.heap.size := ⟨_, _, _, rfl, rfl, rfl⟩
  rw [← eW, ← eR] at r6
  rw [← eW, ← eS] at S6
  rw [← eW] at Z6 B6
  rw [← eW, ← eS, ← eR]
  have hSR : bS < bR := by omega
  have h2S : b2 < bS := by omega
  have hW : W.heap.size = bR + 1 := by rw [eW, eR, World.size_alloc]
  have hwS : w.heap.size ≤ bS := by have := B1.out.size; omega
  clear eW eS eR z0 z1 z2 B1 Z1 m1 S3 B3 Z3 m3 s3 b1 b3 HB0 H2 CT CU
  go_loopw [7] (fun i wr => ∃ (j : Nat), j ≤ l.length ∧ i = .int .i64 j ∧ Hid (RowAt wr b2 59 (manA N D z)) ∧ Hid (RowAt wr bS 39 (mnA (P j).y (P j).e (P j).m (P j).p)) ∧ Hid (RowAt wr bR 39 (rnA (phI (R j).e) (R j).e (R j).m (R j).y (R j).p)) ∧ Hid (Below w.heap.size w wr) ∧ W.heap.size ≤ wr.heap.size) (fun i _ => l.length - (intOf i).toNat)
  case atStart => exact ⟨0, Nat.zero_le _, rfl, Z6, by rw [P0]; exact S6, by rw [R0]; exact r6, B6, Nat.le_refl _⟩
  case round =>
    obtain ⟨j, hj, rfl, HZ, HS, HX, HB, hWr⟩ := hrel
    have hb := HB.out
    obtain ⟨⟨g0, g1, g2, g3, g4, g5, g6, g7⟩, g8⟩ := row8 HS.out
    obtain ⟨⟨k0, k1, k2, k3, k4, k5, k6, k7⟩, k8⟩ := row8 HX.out
    obtain ⟨z0, z1, z2⟩ := row3 HZ.out
    have m5 : bS < wr.heap.size := by omega
    have m6 : bR < wr.heap.size := by omega
    have m2 : b2 < wr.heap.size := by omega
    clear g8 k8
    by_cases hjl : j < l.length
    · obtain ⟨g, o', rfl, hg, hc⟩ := HA.out (by omega)
      obtain ⟨a0, a1, a2, a3, a4, a5, a6⟩ := arg_seven hc j hjl
      have f0 := (hb.cell (p := ⟨g, o' + j * 7, none⟩) hg).trans a0
      have f1 := (hb.cell (p := ⟨g, o' + j * 7 + 1, none⟩) hg).trans a1
      have f2 := (hb.cell (p := ⟨g, o' + j * 7 + 2, none⟩) hg).trans a2
      have f3 := (hb.cell (p := ⟨g, o' + j * 7 + 3, none⟩) hg).trans a3
      have f4 := (hb.cell (p := ⟨g, o' + j * 7 + 4, none⟩) hg).trans a4
      have f5 := (hb.cell (p := ⟨g, o' + j * 7 + 5, none⟩) hg).trans a5
      have f6 := (hb.cell (p := ⟨g, o' + j * 7 + 6, none⟩) hg).trans a6
      have mg : g < wr.heap.size := Nat.lt_of_lt_of_le hg hb.size
      have CP := Lib.hid (fun W => HP.out j hjl W)
      have CR := Lib.hid (fun W => HR.out j hjl W)
      have hone := HQ.out j hjl
      have HPj := Lib.hid (show P (j + 1) = P (j + 1) from rfl)
      have HE7 := Lib.hid (fun W' (hb' : Below wr.heap.size wr W') => (⟨(hb'.cell (p := ⟨g, o' + j * 7, none⟩) mg).trans f0, (hb'.cell (p := ⟨g, o' + j * 7 + 1, none⟩) mg).trans f1, (hb'.cell (p := ⟨g, o' + j * 7 + 2, none⟩) mg).trans f2, (hb'.cell (p := ⟨g, o' + j * 7 + 3, none⟩) mg).trans f3, (hb'.cell (p := ⟨g, o' + j * 7 + 4, none⟩) mg).trans f4, (hb'.cell (p := ⟨g, o' + j * 7 + 5, none⟩) mg).trans f5, (hb'.cell (p := ⟨g, o' + j * 7 + 6, none⟩) mg).trans f6⟩ : W'.cell? ⟨g, o' + j * 7, none⟩ = some _ ∧ W'.cell? ⟨g, o' + j * 7 + 1, none⟩ = some _ ∧ W'.cell? ⟨g, o' + j * 7 + 2, none⟩ = some _ ∧ W'.cell? ⟨g, o' + j * 7 + 3, none⟩ = some _ ∧ W'.cell? ⟨g, o' + j * 7 + 4, none⟩ = some _ ∧ W'.cell? ⟨g, o' + j * 7 + 5, none⟩ = some _ ∧ W'.cell? ⟨g, o' + j * 7 + 6, none⟩ = some _))
      clear a0 a1 a2 a3 a4 a5 a6 hc
      have hi0 : (0 : Int) ≤ (j : Int) := by omega
      have hi1 : (j : Int) < l.length := by omega
      generalize Q j = QJ at *
      obtain ⟨py, hpy⟩ : ∃ x, x = (P j).y := ⟨_, rfl⟩
      obtain ⟨pe, hpe⟩ : ∃ x, x = (P j).e := ⟨_, rfl⟩
      obtain ⟨pm, hpm⟩ : ∃ x, x = (P j).m := ⟨_, rfl⟩
      obtain ⟨pp, hpp⟩ : ∃ x, x = (P j).p := ⟨_, rfl⟩
      obtain ⟨ry, hry⟩ : ∃ x, x = (R j).y := ⟨_, rfl⟩
      obtain ⟨re, hre⟩ : ∃ x, x = (R j).e := ⟨_, rfl⟩
      obtain ⟨rm, hrm⟩ : ∃ x, x = (R j).m := ⟨_, rfl⟩
      obtain ⟨rp, hrp⟩ : ∃ x, x = (R j).p := ⟨_, rfl⟩
      obtain ⟨py', hpy'⟩ : ∃ x, x = (P (j + 1)).y := ⟨_, rfl⟩
      obtain ⟨pe', hpe'⟩ : ∃ x, x = (P (j + 1)).e := ⟨_, rfl⟩
      obtain ⟨pm', hpm'⟩ : ∃ x, x = (P (j + 1)).m := ⟨_, rfl⟩
      obtain ⟨pp', hpp'⟩ : ∃ x, x = (P (j + 1)).p := ⟨_, rfl⟩
      obtain ⟨ry', hry'⟩ : ∃ x, x = (R (j + 1)).y := ⟨_, rfl⟩
      obtain ⟨re', hre'⟩ : ∃ x, x = (R (j + 1)).e := ⟨_, rfl⟩
      obtain ⟨rm', hrm'⟩ : ∃ x, x = (R (j + 1)).m := ⟨_, rfl⟩
      obtain ⟨rp', hrp'⟩ : ∃ x, x = (R (j + 1)).p := ⟨_, rfl⟩
      have HEQ := Lib.hid (And.intro hpy' (And.intro hpe' (And.intro hpm' (And.intro hpp' (And.intro hry' (And.intro hre' (And.intro hrm' hrp')))))))
      rw [← hpy, ← hpe, ← hpm, ← hpp] at HS CP
      rw [← hry, ← hre, ← hrm, ← hrp] at HX CR
      rw [← hpy', ← hpe', ← hpm', ← hpp'] at CP
      rw [← hry', ← hre', ← hrm', ← hrp'] at CR
      rw [← hpy] at g0; rw [← hpe] at g1; rw [← hpm] at g2; rw [← hpp] at g6
      rw [← hre] at k0 k1; rw [← hrm] at k2; rw [← hry] at k3; rw [← hrp] at k6
      clear hpy hpe hpm hpp hry hre hrm hrp hpy' hpe' hpm' hpp' hry' hre' hrm' hrp' HPj
      generalize (⟨l[j].d.toArray⟩ : ByteArray) = x5 at *
      generalize l[j].k = x0 at *
      generalize l[j].f = x1 at *
      generalize l[j].t = x2 at *
      generalize l[j].v = x3 at *
      generalize l[j].a = x4 at *
      generalize l[j].u = x6 at *
      go_wp2
      have hs8 : Hid ((wr.cell? ⟨b2, 0, none⟩ = some (.int .i64 N) ∧ wr.cell? ⟨b2, 1, none⟩ = some (.int .i64 D) ∧ wr.cell? ⟨b2, 2, none⟩ = some (.bool z)) ∧ (wr.cell? ⟨bS, 0, none⟩ = some (.int .i64 py) ∧ wr.cell? ⟨bS, 1, none⟩ = some (.int .i64 pe) ∧ wr.cell? ⟨bS, 2, none⟩ = some (.int .i64 pm) ∧ wr.cell? ⟨bS, 3, none⟩ = some (.int .i64 0) ∧ wr.cell? ⟨bS, 4, none⟩ = some (.int .i64 0) ∧ wr.cell? ⟨bS, 5, none⟩ = some (.int .i64 0) ∧ wr.cell? ⟨bS, 6, none⟩ = some (.int .i64 pp) ∧ wr.cell? ⟨bS, 7, none⟩ = some (.string ⟨#[]⟩)) ∧ (wr.cell? ⟨g, o' + j * 7, none⟩ = some (.int .i64 x0) ∧ wr.cell? ⟨g, o' + j * 7 + 1, none⟩ = some (.int .i64 x1) ∧ wr.cell? ⟨g, o' + j * 7 + 2, none⟩ = some (.int .i64 x2) ∧ wr.cell? ⟨g, o' + j * 7 + 3, none⟩ = some (.int .i64 x3) ∧ wr.cell? ⟨g, o' + j * 7 + 4, none⟩ = some (.int .i64 x4) ∧ wr.cell? ⟨g, o' + j * 7 + 5, none⟩ = some (.string x5) ∧ wr.cell? ⟨g, o' + j * 7 + 6, none⟩ = some (.int .i64 x6)) ∧ wr.heap.size ≤ wr.heap.size ∧ Below wr.heap.size wr wr) := Lib.hid ⟨⟨z0, z1, z2⟩, ⟨g0, g1, g2, g3, g4, g5, g6, g7⟩, ⟨f0, f1, f2, f3, f4, f5, f6⟩, Nat.le_refl _, Below.refl _ _⟩
      clear z0 z1 z2 g0 g1 g2 g3 g4 g5 g6 g7 f0 f1 f2 f3 f4 f5 f6 k0 k1 k2 k3 k4 k5 k6 k7
      go_region_held3 (fun w' => (w'.cell? ⟨b2, 0, none⟩ = some (.int .i64 N) ∧ w'.cell? ⟨b2, 1, none⟩ = some (.int .i64 D) ∧ w'.cell? ⟨b2, 2, none⟩ = some (.bool z)) ∧ (w'.cell? ⟨bS, 0, none⟩ = some (.int .i64 py) ∧ w'.cell? ⟨bS, 1, none⟩ = some (.int .i64 pe) ∧ w'.cell? ⟨bS, 2, none⟩ = some (.int .i64 pm) ∧ w'.cell? ⟨bS, 3, none⟩ = some (.int .i64 0) ∧ w'.cell? ⟨bS, 4, none⟩ = some (.int .i64 0) ∧ w'.cell? ⟨bS, 5, none⟩ = some (.int .i64 0) ∧ w'.cell? ⟨bS, 6, none⟩ = some (.int .i64 pp) ∧ w'.cell? ⟨bS, 7, none⟩ = some (.string ⟨#[]⟩)) ∧ (w'.cell? ⟨g, o' + j * 7, none⟩ = some (.int .i64 x0) ∧ w'.cell? ⟨g, o' + j * 7 + 1, none⟩ = some (.int .i64 x1) ∧ w'.cell? ⟨g, o' + j * 7 + 2, none⟩ = some (.int .i64 x2) ∧ w'.cell? ⟨g, o' + j * 7 + 3, none⟩ = some (.int .i64 x3) ∧ w'.cell? ⟨g, o' + j * 7 + 4, none⟩ = some (.int .i64 x4) ∧ w'.cell? ⟨g, o' + j * 7 + 5, none⟩ = some (.string x5) ∧ w'.cell? ⟨g, o' + j * 7 + 6, none⟩ = some (.int .i64 x6)) ∧ wr.heap.size ≤ w'.heap.size ∧ Below wr.heap.size wr w') (first | with_reducible assumption | (with_reducible refine held17set ?_ (by with_reducible assumption) m2 m5 mg; with_reducible refine held17set ?_ (by with_reducible assumption) m2 m5 mg; with_reducible refine held17set ?_ (by with_reducible assumption) m2 m5 mg; with_reducible refine held17set ?_ (by with_reducible assumption) m2 m5 mg; with_reducible refine held17set ?_ (by with_reducible assumption) m2 m5 mg; with_reducible refine held17set ?_ (by with_reducible assumption) m2 m5 mg; with_reducible refine held17set ?_ (by with_reducible assumption) m2 m5 mg; with_reducible refine held17set ?_ (by with_reducible assumption) m2 m5 mg; with_reducible assumption) | with_reducible exact held17 hs8.out (Below.refl _ _).drew m2 m5 mg | with_reducible exact held17 (by with_reducible assumption) ((ba _ _).mono (And.left (And.right (And.right (And.right (by with_reducible assumption)))))) m2 m5 mg | fail)
        (first
          | (go_at_call 37; refine (CP.out _).mono ?_; rintro e9 w9 ⟨V9, rfl, v9, b9⟩; have h9 := held17 (by with_reducible assumption) (b9.mono (held17B (by with_reducible assumption))) m2 m5 mg; have u9 := Nat.le_refl wr.heap.size; (first | (have r9 := Lib.hid ((mrow_drew (RowAt.new wr 39 (rnA 0 0 0 0 0))).keep b9); obtain ⟨⟨q0, q1, q2, q3, q4, q5, q6, q7⟩, q8⟩ := row8 r9.out) | skip)))
      all_goals
        first
          | (obtain ⟨W8, b8, eW8, eb8, HN8⟩ := mway_two py' pe' pm' 0 pp' (by rw [World.size_drew, World.size_alloc]; omega) h9.2.2.2.2 v9 r9.out; rw [← eW8, ← eb8])
          | (obtain ⟨W8, b8, eW8, eb8, HN8⟩ := mway_one (rnA py' pe' pm' 0 pp') (Nat.le_refl _) h9.2.2.2.2 v9; rw [← eW8, ← eb8])
        clear eW8 eb8 h9 v9 b9 hs8
        try clear r9 q0 q1 q2 q3 q4 q5 q6 q7 q8
        obtain ⟨n8, c8, p8, t8, v8⟩ := HN8
        have Z8 := Lib.hid (HZ.out.below c8 m2); have S8 := Lib.hid (HS.out.below c8 m5); have X8 := Lib.hid (HX.out.below c8 m6); have B8 := Lib.hid (hb.trans (c8.mono hb.size)); have N8 := Lib.hid n8
        have s8 := c8.size
        have f8 := HE7.out W8 c8
        obtain ⟨VA, VN, VC, rfl, hVN⟩ := v8.form
        have V8 := Lib.hid v8
        clear hVN n8 c8 v8
        have m28 : b2 < W8.heap.size := by omega
        have m68 : bR < W8.heap.size := by omega
        have mg8 : g < W8.heap.size := by omega
        have hs9 : Hid ((W8.cell? ⟨b2, 0, none⟩ = some (.int .i64 N) ∧ W8.cell? ⟨b2, 1, none⟩ = some (.int .i64 D) ∧ W8.cell? ⟨b2, 2, none⟩ = some (.bool z)) ∧ (W8.cell? ⟨bR, 0, none⟩ = some (.int .i64 (phI re)) ∧ W8.cell? ⟨bR, 1, none⟩ = some (.int .i64 re) ∧ W8.cell? ⟨bR, 2, none⟩ = some (.int .i64 rm) ∧ W8.cell? ⟨bR, 3, none⟩ = some (.int .i64 ry) ∧ W8.cell? ⟨bR, 4, none⟩ = some (.int .i64 0) ∧ W8.cell? ⟨bR, 5, none⟩ = some (.int .i64 0) ∧ W8.cell? ⟨bR, 6, none⟩ = some (.int .i64 rp) ∧ W8.cell? ⟨bR, 7, none⟩ = some (.string ⟨#[]⟩)) ∧ (W8.cell? ⟨g, o' + j * 7, none⟩ = some (.int .i64 x0) ∧ W8.cell? ⟨g, o' + j * 7 + 1, none⟩ = some (.int .i64 x1) ∧ W8.cell? ⟨g, o' + j * 7 + 2, none⟩ = some (.int .i64 x2) ∧ W8.cell? ⟨g, o' + j * 7 + 3, none⟩ = some (.int .i64 x3) ∧ W8.cell? ⟨g, o' + j * 7 + 4, none⟩ = some (.int .i64 x4) ∧ W8.cell? ⟨g, o' + j * 7 + 5, none⟩ = some (.string x5) ∧ W8.cell? ⟨g, o' + j * 7 + 6, none⟩ = some (.int .i64 x6)) ∧ W8.heap.size ≤ W8.heap.size ∧ Below W8.heap.size W8 W8) := Lib.hid ⟨row3 Z8.out, (row8 X8.out).1, f8, Nat.le_refl _, Below.refl _ _⟩
        obtain ⟨z0, z1, z2⟩ := row3 Z8.out
        obtain ⟨f0, f1, f2, f3, f4, f5, f6⟩ := f8
        obtain ⟨⟨k0, k1, k2, k3, k4, k5, k6, k7⟩, k8⟩ := row8 X8.out
        go_wp2
        clear z0 z1 z2 f0 f1 f2 f3 f4 f5 f6 k0 k1 k2 k3 k4 k5 k6 k7 k8
        go_region_held3 (fun w' => (w'.cell? ⟨b2, 0, none⟩ = some (.int .i64 N) ∧ w'.cell? ⟨b2, 1, none⟩ = some (.int .i64 D) ∧ w'.cell? ⟨b2, 2, none⟩ = some (.bool z)) ∧ (w'.cell? ⟨bR, 0, none⟩ = some (.int .i64 (phI re)) ∧ w'.cell? ⟨bR, 1, none⟩ = some (.int .i64 re) ∧ w'.cell? ⟨bR, 2, none⟩ = some (.int .i64 rm) ∧ w'.cell? ⟨bR, 3, none⟩ = some (.int .i64 ry) ∧ w'.cell? ⟨bR, 4, none⟩ = some (.int .i64 0) ∧ w'.cell? ⟨bR, 5, none⟩ = some (.int .i64 0) ∧ w'.cell? ⟨bR, 6, none⟩ = some (.int .i64 rp) ∧ w'.cell? ⟨bR, 7, none⟩ = some (.string ⟨#[]⟩)) ∧ (w'.cell? ⟨g, o' + j * 7, none⟩ = some (.int .i64 x0) ∧ w'.cell? ⟨g, o' + j * 7 + 1, none⟩ = some (.int .i64 x1) ∧ w'.cell? ⟨g, o' + j * 7 + 2, none⟩ = some (.int .i64 x2) ∧ w'.cell? ⟨g, o' + j * 7 + 3, none⟩ = some (.int .i64 x3) ∧ w'.cell? ⟨g, o' + j * 7 + 4, none⟩ = some (.int .i64 x4) ∧ w'.cell? ⟨g, o' + j * 7 + 5, none⟩ = some (.string x5) ∧ w'.cell? ⟨g, o' + j * 7 + 6, none⟩ = some (.int .i64 x6)) ∧ W8.heap.size ≤ w'.heap.size ∧ Below W8.heap.size W8 w') (first | with_reducible assumption | (with_reducible refine held17set ?_ (by with_reducible assumption) m28 m68 mg8; with_reducible refine held17set ?_ (by with_reducible assumption) m28 m68 mg8; with_reducible refine held17set ?_ (by with_reducible assumption) m28 m68 mg8; with_reducible refine held17set ?_ (by with_reducible assumption) m28 m68 mg8; with_reducible refine held17set ?_ (by with_reducible assumption) m28 m68 mg8; with_reducible refine held17set ?_ (by with_reducible assumption) m28 m68 mg8; with_reducible refine held17set ?_ (by with_reducible assumption) m28 m68 mg8; with_reducible refine held17set ?_ (by with_reducible assumption) m28 m68 mg8; with_reducible assumption) | with_reducible exact held17 hs9.out (Below.refl _ _).drew m28 m68 mg8 | with_reducible exact held17 (by with_reducible assumption) ((ba _ _).mono (And.left (And.right (And.right (And.right (by with_reducible assumption)))))) m28 m68 mg8 | fail)
          (first
            | (go_at_call 44; refine (CR.out _).mono ?_; rintro e9 w9 ⟨V9, rfl, v9, b9⟩; have h9 := held17 (by with_reducible assumption) (b9.mono (held17B (by with_reducible assumption))) m28 m68 mg8; have u9 := Nat.le_refl W8.heap.size; (first | (have r9 := Lib.hid ((mrow_drew (RowAt.new W8 39 (rnA 0 0 0 0 0))).keep b9); obtain ⟨⟨q0, q1, q2, q3, q4, q5, q6, q7⟩, q8⟩ := row8 r9.out) | skip)))
        all_goals
          first
            | (obtain ⟨W9, b9, eW9, eb9, HN9⟩ := mway_two (phI re') re' rm' ry' rp' (by rw [World.size_drew, World.size_alloc]; omega) h9.2.2.2.2 v9 r9.out; rw [← eW9, ← eb9])
            | (obtain ⟨W9, b9, eW9, eb9, HN9⟩ := mway_one (rnA (phI re') re' rm' ry' rp') (Nat.le_refl _) h9.2.2.2.2 v9; rw [← eW9, ← eb9])
          clear eW9 eb9 h9 v9 hs9
          try clear r9 q0 q1 q2 q3 q4 q5 q6 q7 q8
          obtain ⟨n9, c9, p9, t9, v9⟩ := HN9
          have Z9 := Lib.hid (Z8.out.below c9 m28); have S9 := Lib.hid (S8.out.below c9 (by omega)); have X9 := Lib.hid (X8.out.below c9 m68); have B9 := Lib.hid (B8.out.trans (c9.mono B8.out.size)); have N8' := Lib.hid (N8.out.keep c9); have N9 := Lib.hid n9; have A8 := Lib.hid ((V8.out.keep c9).arg evC_size)
          have s9 := c9.size
          obtain ⟨VA', VN', VC', rfl, hVN'⟩ := v9.form
          have A9 := Lib.hid (v9.arg evC_size)
          clear hVN' n9 c9 v9 Z8 S8 X8 B8 N8 V8
          go_wp2_with (first
            | (go_at_call 45; go_must (refine (CM.out QJ _ _ _ A8.out A9.out (by omega)).mono ?_; rintro e5 w5 ⟨rfl, b5⟩; have Z5 := Lib.hid (Z9.out.keep b5); have S5 := Lib.hid (S9.out.keep b5); have X5 := Lib.hid (X9.out.keep b5); have B5 := Lib.hid (B9.out.trans (b5.mono B9.out.size)); have N95 := Lib.hid (N9.out.keep b5); have s5 := b5.size; obtain ⟨⟨d0, d1, d2, d3, d4, d5, d6, d7⟩, d8⟩ := row8 (N8'.out.keep b5)))
            | (refine wpList_store_kp S5.out (mnA py' pe' pm' pp') (.tmp 5) (.tmp 50) 39 rfl rfl rfl rfl (by kernel_rfl) rfl rfl ?_; intro w6 r6 k6; have S6 := Lib.hid r6; have Z6 := Lib.hid (k6.row Z5.out (by simp only [List.mem_singleton]; omega)); have X6 := Lib.hid (k6.row X5.out (by simp only [List.mem_singleton]; omega)); have B6 := Lib.hid (B5.out.trans (k6.below (by simp only [List.mem_singleton]; intro k hk; omega) B5.out.size)); obtain ⟨⟨y0, y1, y2, y3, y4, y5, y6, y7⟩, y8⟩ := row8 (k6.row N95.out (by simp only [List.mem_singleton]; omega)); have s6 := k6.size)
            | (refine wpList_store_kp X6.out (rnA (phI re') re' rm' ry' rp') (.tmp 6) (.tmp 51) 39 rfl rfl rfl rfl (by kernel_rfl) rfl rfl ?_; intro w7 r7 k7; have X7 := Lib.hid r7; have Z7 := Lib.hid (k7.row Z6.out (by simp only [List.mem_singleton]; omega)); have S7 := Lib.hid (k7.row S6.out (by simp only [List.mem_singleton]; omega)); have B7 := Lib.hid (B6.out.trans (k7.below (by simp only [List.mem_singleton]; intro k hk; omega) B6.out.size)); have s7 := k7.size))
          have S7' : Hid (RowAt w7 bS 39 (mnA (P (j + 1)).y (P (j + 1)).e (P (j + 1)).m (P (j + 1)).p)) := Lib.hid (by obtain ⟨h1, h2, h3, h4, _⟩ := HEQ.out; rw [← h1, ← h2, ← h3, ← h4]; exact S7.out)
          have X7' : Hid (RowAt w7 bR 39 (rnA (phI (R (j + 1)).e) (R (j + 1)).e (R (j + 1)).m (R (j + 1)).y (R (j + 1)).p)) := Lib.hid (by obtain ⟨_, _, _, _, h1, h2, h3, h4⟩ := HEQ.out; rw [← h1, ← h2, ← h3, ← h4]; exact X7.out)
          go_roundw
          case rel => exact ⟨j + 1, by omega, val_int (by omega), Z7, S7', X7', B7, by omega⟩
          case measure => simp [intOf]; omega
    · clear HP HR HQ HA hj hWr HX
      go_wp2
      have hS0 : Hid ((wr.cell? ⟨b2, 0, none⟩ = some (.int .i64 N) ∧ wr.cell? ⟨b2, 1, none⟩ = some (.int .i64 D) ∧ wr.cell? ⟨b2, 2, none⟩ = some (.bool z)) ∧ (wr.cell? ⟨bS, 0, none⟩ = some (.int .i64 (P j).y) ∧ wr.cell? ⟨bS, 1, none⟩ = some (.int .i64 (P j).e) ∧ wr.cell? ⟨bS, 2, none⟩ = some (.int .i64 (P j).m) ∧ wr.cell? ⟨bS, 3, none⟩ = some (.int .i64 0) ∧ wr.cell? ⟨bS, 4, none⟩ = some (.int .i64 0) ∧ wr.cell? ⟨bS, 5, none⟩ = some (.int .i64 0) ∧ wr.cell? ⟨bS, 6, none⟩ = some (.int .i64 (P j).p) ∧ wr.cell? ⟨bS, 7, none⟩ = some (.string ⟨#[]⟩)) ∧ b2 < wr.heap.size ∧ bS < wr.heap.size ∧ Below w.heap.size w wr) := Lib.hid ⟨row3 HZ.out, (row8 HS.out).1, m2, m5, hb⟩
      go_region_held3 (fun w' => (w'.cell? ⟨b2, 0, none⟩ = some (.int .i64 N) ∧ w'.cell? ⟨b2, 1, none⟩ = some (.int .i64 D) ∧ w'.cell? ⟨b2, 2, none⟩ = some (.bool z)) ∧ (w'.cell? ⟨bS, 0, none⟩ = some (.int .i64 (P j).y) ∧ w'.cell? ⟨bS, 1, none⟩ = some (.int .i64 (P j).e) ∧ w'.cell? ⟨bS, 2, none⟩ = some (.int .i64 (P j).m) ∧ w'.cell? ⟨bS, 3, none⟩ = some (.int .i64 0) ∧ w'.cell? ⟨bS, 4, none⟩ = some (.int .i64 0) ∧ w'.cell? ⟨bS, 5, none⟩ = some (.int .i64 0) ∧ w'.cell? ⟨bS, 6, none⟩ = some (.int .i64 (P j).p) ∧ w'.cell? ⟨bS, 7, none⟩ = some (.string ⟨#[]⟩)) ∧ b2 < w'.heap.size ∧ bS < w'.heap.size ∧ Below w.heap.size w w') (first | with_reducible assumption | with_reducible exact heldE hS0.out (Below.refl _ _).drew | fail)
        (first
          | (go_at_call 41; refine (CN.out _ _).mono ?_; rintro e5 w5 ⟨rfl, k5⟩; have h5 := heldE (by with_reducible assumption) k5)
          | (go_at_call 42; refine (C1.out _ (And.right (And.right (And.right (And.right (by with_reducible assumption)))))).mono ?_; rintro e6 w6 ⟨V6, rfl, v6, k6⟩; have h6 := heldE (by with_reducible assumption) k6; (try have A7' := KArg.keep (KRow.arg evC_size v7) k6))
          | (go_at_call 46; refine (C2.out _ (And.right (And.right (And.right (And.right (by with_reducible assumption)))))).mono ?_; rintro e7 w7 ⟨V7, rfl, v7, k7⟩; have h7 := heldE (by with_reducible assumption) k7; (try have A6' := KArg.keep (KRow.arg evC_size v6) k7))
          | (go_at_call 45; first | (refine (CM.out LD _ _ _ A6' (KRow.arg evC_size v7) (by omega)).mono ?_; rintro e8 w8 ⟨rfl, k8⟩; have h8 := heldE (by with_reducible assumption) k8) | (refine (CM.out LD _ _ _ (KRow.arg evC_size v6) A7' (by omega)).mono ?_; rintro e8 w8 ⟨rfl, k8⟩; have h8 := heldE (by with_reducible assumption) k8))
          | (go_at_call 36; refine (CA.out _).mono ?_; rintro e9 w9 ⟨rfl, k9⟩; have h9 := heldE (by with_reducible assumption) k9))
      all_goals
        rename_i hS9
        have B9 := Lib.hid hS9.2.2.2.2
        clear hS9
        go_wp2
        go_returns
        exact ⟨rfl, B9.out⟩

end Go.Proofs.Ytpooolijghbkbaa

namespace Go.Proofs.Ytpooolijghbkbaa
open Go Go.RowKit Go.Joins
set_option linter.unusedVariables false
set_option linter.unusedSimpArgs false

set_option maxRecDepth 20000 in
set_option maxHeartbeats 4000000 in
theorem law_long17 (N D : Int) (z : Bool) (l : List Ev) (V : Value) (w : World) (hT : EvArg w V l) (hl : 2000 < l.length) (hl' : l.length ≤ 140737488351232) :
    Calls Try.prog 10 #[.agg (manA N D z), V] w fun e w' => e = .returned (.bool true) ∧ Below w.heap.size w w' := by
  have CA := Lib.hid awake17_any
  obtain ⟨A, c, rfl, hA⟩ := hT
  clear hA
  have h1 : (2000 : Int) < l.length := by omega
  go_enter Try.func10, Try.ntmps10
  go_wp2_with (go_at_call 36; go_must (refine (CA.out _).mono ?_; rintro e9 w9 ⟨rfl, k9⟩))
  go_returns
  exact ⟨rfl, (ba w _).trans (k9.mono (by simp only [World.size_alloc]; omega))⟩

theorem law_decodes17 (N D : Int) (z : Bool) (l : List Ev) (V : Value) (w : World) (hN0 : -9223372036854775808 ≤ N) (hN1 : N ≤ 9223372036854775807) (hD0 : -9223372036854775808 ≤ D) (hD1 : D ≤ 9223372036854775807) (hT : EvArg w V l) (hl : l.length ≤ 140737488351232) (hd : ∀ j (h : j < l.length), l[j].d.length ≤ 140737488351232) :
    Calls Try.prog 10 #[.agg (manA N D z), V] w fun e w' => e = .returned (.bool true) ∧ Below w.heap.size w w' := by
  by_cases h2 : 2000 < l.length
  · exact law_long17 N D z l V w hT h2 hl
  have h3 : l.length ≤ 2000 := by omega
  by_cases hk : ckE N D = 0
  · have h := ck_bt hk
    refine law_dec17 N D z l V w hT h3 (fun j => mnR z N D (l.take j)) (fun j => rnR z N D (l.take j)) (fun j => if hj : j < l.length then (mnS z N D ⟨(mnR z N D (l.take j)).y, (mnR z N D (l.take j)).e, (mnR z N D (l.take j)).m, (mnR z N D (l.take j)).p, []⟩ l[j]).o else []) (mnR z N D l).o ?_ (Nat.le_trans (mnR_len z N D l) h3) rfl rfl ?_ ?_ ?_ ?_
    · intro j hj; rw [dif_pos hj]; exact mnS_one z N D _ _ _ _ _
    · intro j hj W
      have hp := mnS_parts z N D (mnR z N D (l.take j)).y (mnR z N D (l.take j)).e (mnR z N D (l.take j)).m (mnR z N D (l.take j)).p (mnR z N D (l.take j)).o l[j]
      have hs : mnR z N D (l.take (j + 1)) = _ := (mnR_snoc z N D hj).trans hp
      simp only [dif_pos hj, hs]
      exact manStep_any N D z (mnR z N D (l.take j)) l[j] W h hk (rcN_all z N D _) (hd j hj)
    · intro j hj W
      have hp := rnS_parts z N D (rnR z N D (l.take j)).y (rnR z N D (l.take j)).e (rnR z N D (l.take j)).m (rnR z N D (l.take j)).p (rnR z N D (l.take j)).o l[j]
      have hs : rnR z N D (l.take (j + 1)) = _ := (rnR_snoc z N D hj).trans hp
      simp only [dif_pos hj, hs, relN_out z h.d1 hj]
      exact rmanStep_any N D z (rnR z N D (l.take j)) l[j] W h hk (rcN_allR z N D _) (hd j hj)
    · intro W h1; exact manDecode_any N D z l V W h1 h hk (by omega) hd
    · intro W h1
      have := refManDecode_any N D z l V W h1 h hk (by omega) hd
      rw [← (relN_all z h.d1 l (N := N)).o] at this
      exact this
  · refine law_dec17 N D z l V w hT h3 (fun _ => MN.zero) (fun _ => MN.zero) (fun _ => []) [] (fun _ _ => by simp) (by simp) rfl rfl ?_ ?_ ?_ ?_
    · intro j hj W; exact badStep_any N D z MN.zero l[j] W hN0 hN1 hD0 hD1 hk
    · intro j hj W; exact badRefStep_any N D z MN.zero l[j] W hN0 hN1 hD0 hD1 hk
    · intro W h1
      have := badDecode_any N D z l V W h1 hN0 hN1 hD0 hD1 hk (by omega) hd
      rw [bdP_zero] at this; exact this
    · intro W h1
      have := badRefDecode_any N D z l V W h1 hN0 hN1 hD0 hD1 hk (by omega) hd
      rw [bdP_zero] at this; exact this

end Go.Proofs.Ytpooolijghbkbaa
