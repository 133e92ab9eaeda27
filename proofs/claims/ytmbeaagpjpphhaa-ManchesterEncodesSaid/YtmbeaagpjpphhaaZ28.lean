/-
  Layer 17: the walks of transmission and transmit (the program's).
  Layer 17: the walk of transmission (the program's).
  Layer 17: the walk of send (the program's).
  Layer 17: the walks of Encode, Levels, Expect (the program's).
  Layer 17: what the specification sends, plain.
  Layer 17: the two conventions, plain.
  Layer 17: a level divided into two, plain.
  Layer 17: the walk of chain (levels of one channel, one after the other).
  Layer 17: the round trip, plain: what the decoder makes of the parts that a sender sends.
  Layer 17: the round trip, plain: the parts of an item.
  Layer 17: encoded items behind other levels, plain.
-/
import Derived.Test.YtmbeaagpjpphhaaZ27
import Derived.Test.YtmbeaagpjpphhaaZ23
import Derived.Laws.RangeString
import Derived.Laws.RangeAny
import Derived.Deep.Cut
import Derived.Deep.RegionHeld3
import Derived.Test.YtmbeaagpjpphhaaZ10
import Derived.Test.YtmbeaagpjpphhaaZ21
namespace Go.Proofs.Ytmbeaagpjpphhaa
open Go Go.RowKit Go.Joins
open Sw (Rn RnRow RnArg rnC lg nil_or_snoc pt pt_nil pt_snoc lg_append)
set_option linter.unusedVariables false
set_option linter.unusedSimpArgs false

/-- The iterator of a string, moved. -/
def setIt (w : World) (k : Nat) (s : ByteArray) (p : Nat) : World := { w with heap := w.heap.setIfInBounds k (.stringIter s p) }
theorem run_next_at {P : Program} (w : World) (s : ByteArray) (k pos : Nat) (ty : TypeId) (hk : w.heap[k]? = some (.stringIter s pos)) (h : pos < s.size) (ha : (s[pos]'h).toNat < 128) :
    (Instr.next (.pointer (some ⟨k, 0, none⟩)) true ty).run P w = .ok (.tuple #[.bool true, .int .i64 pos, .int .i32 (s[pos]'h).toNat]) (setIt w k s (pos + 1)) := by
  simp only [Instr.next, getObj, setObj, Sem.run_bind, Sem.run, hk, Result.andThen, h, if_true, decode_ascii s pos h ha]
  simp [goInt, Sem.run, hk, setIt]
theorem run_end_at {P : Program} (w : World) (s : ByteArray) (k pos : Nat) (ty : TypeId) (hk : w.heap[k]? = some (.stringIter s pos)) (h : ¬ pos < s.size) :
    (Instr.next (.pointer (some ⟨k, 0, none⟩)) true ty).run P w = .ok (.tuple #[.bool false]) w := by
  simp [Instr.next, getObj, Sem.run, hk, h]
theorem setIt_kp {w : World} {k : Nat} (s : ByteArray) (p : Nat) (X : List Nat) (hk : k ∈ X) : Kp X w (setIt w k s p) := by
  refine ⟨rfl, rfl, rfl, by simp [setIt], fun i hi hx => ?_⟩
  have : k ≠ i := fun e => hx (e ▸ hk)
  simp [setIt, Array.getElem?_setIfInBounds, this]
theorem setIt_at {w : World} {k : Nat} (s : ByteArray) (p : Nat) (hk : k < w.heap.size) : (setIt w k s p).heap[k]? = some (.stringIter s p) := by
  simp [setIt, Array.getElem?_setIfInBounds, hk]
theorem setIt_size (w : World) (k : Nat) (s : ByteArray) (p : Nat) : (setIt w k s p).heap.size = w.heap.size := by simp [setIt]

theorem snF_one (R P : List Rn) (v t : Int) : snF R (P ++ [(v, t)]) = sn (snF R P) v t := by rw [snF_append]; rfl
/-- One more part. -/
theorem send_next (b : Nat) (V : Value) (R P : List Rn) (T v t : Int) (w : World) (hS : Snd w b V (snF R P) (T + lg P)) (hR : R.length ≤ 262145) (hx : bdR R T) (h0 : 0 ≤ T) (hP : nn P) (t0 : 0 ≤ t) (hT : T + lg P + t ≤ 4611686018427387904) :
    Calls Try.prog 57 #[.pointer (some ⟨b, 0, none⟩), .int .i64 v, .int .i64 t] w fun e w' => e = .returned (.tuple #[]) ∧ SndP w w' b V (snF R (P ++ [(v, t)])) (T + lg (P ++ [(v, t)])) := by
  have := send_any b V (snF R P) (T + lg P) v t w hS (snF_len R P hR) (snF_bd hP hx h0) (by have := nn_lg hP; omega) t0 hT
  rw [snF_one, lg_append, show lg [(v, t)] = t by simp [lg], ← Int.add_assoc]
  exact this
theorem nn_one {P : List Rn} (h : nn P) {v t : Int} (ht : 0 ≤ t) : nn (P ++ [(v, t)]) := nn_append h fun r hr => by simp only [List.mem_singleton] at hr; subst hr; exact ht

/-- What a walk with a sender has left. -/
def SndQ (w wr : World) (b : Nat) (V V1 : Value) : Prop := Kp (b :: ows V) w wr ∧ (V1.ownBlock = V.ownBlock ∨ ∃ k, V1.ownBlock = some k ∧ w.heap.size ≤ k)
theorem SndQ.refl (w : World) (b : Nat) (V : Value) : SndQ w w b V V := ⟨Kp.refl _ _, .inl rfl⟩
theorem sndQ_trans {w w1 w2 : World} {b : Nat} {V V1 V2 : Value} (h1 : SndQ w w1 b V V1) (h2 : SndQ w1 w2 b V1 V2) : SndQ w w2 b V V2 := by
  obtain ⟨k1, o1⟩ := h1
  obtain ⟨k2, o2⟩ := h2
  have hn : ∀ k, k < w.heap.size → k ∉ b :: ows V → k ∉ b :: ows V1 := by
    intro k hk hx hm
    rcases List.mem_cons.1 hm with h | h
    · exact hx (List.mem_cons.2 (.inl h))
    · rw [ows_mem] at h
      rcases o1 with o1 | ⟨k', o1, hk'⟩
      · exact hx (List.mem_cons.2 (.inr (ows_mem.2 (o1 ▸ h))))
      · rw [o1] at h; simp only [Option.some.injEq] at h; omega
  refine ⟨⟨k2.os.trans k1.os, k2.tape.trans k1.tape, k2.output.trans k1.output, Nat.le_trans k1.size k2.size, fun k hk hx => (k2.block k (Nat.lt_of_lt_of_le hk k1.size) (hn k hk hx)).trans (k1.block k hk hx)⟩, ?_⟩
  rcases o2 with o2 | ⟨k, o2, hk⟩
  · rcases o1 with o1 | ⟨k, o1, hk⟩
    · exact .inl (o2.trans o1)
    · exact .inr ⟨k, o2.trans o1, hk⟩
  · exact .inr ⟨k, o2, Nat.le_trans k1.size hk⟩
theorem sndQ_below {w w1 w2 : World} {b : Nat} {V V1 : Value} (h1 : SndQ w w1 b V V1) (hb : Below w1.heap.size w1 w2) : SndQ w w2 b V V1 := sndQ_trans h1 ⟨Kp.of_below hb, .inl rfl⟩
/-- A block that the sender does not own is kept, and stays so. -/
theorem sndQ_row {w w1 : World} {b x : Nat} {V V1 : Value} {T : TypeId} {cs : Array Value} (h : SndQ w w1 b V V1) (hr : RowAt w x T cs) (hb : x ≠ b) (hv : V.ownBlock ≠ some x) : RowAt w1 x T cs ∧ V1.ownBlock ≠ some x := by
  refine ⟨h.1.row hr (by simp only [List.mem_cons, ows_mem, not_or]; exact ⟨hb, hv⟩), ?_⟩
  have := hr.lt
  rcases h.2 with e | ⟨k, e, hk⟩
  · rw [e]; exact hv
  · rw [e]; intro e2; simp only [Option.some.injEq] at e2; omega
theorem sndQ_blk {w w1 : World} {b x : Nat} {V V1 : Value} {o : Obj} (h : SndQ w w1 b V V1) (hr : w.heap[x]? = some o) (hb : x ≠ b) (hv : V.ownBlock ≠ some x) : w1.heap[x]? = some o ∧ V1.ownBlock ≠ some x := by
  have hl := (Array.getElem?_eq_some_iff.1 hr).1
  refine ⟨(h.1.block x hl (by simp only [List.mem_cons, ows_mem, not_or]; exact ⟨hb, hv⟩)).trans hr, ?_⟩
  rcases h.2 with e | ⟨k, e, hk⟩
  · rw [e]; exact hv
  · rw [e]; intro e2; simp only [Option.some.injEq] at e2; omega

theorem heldR {w W : World} {b4 : Nat} {x0 x1 : Value} {W0 : World} (h : W.cell? ⟨b4, 0, none⟩ = some x0 ∧ W.cell? ⟨b4, 1, none⟩ = some x1 ∧ b4 < W.heap.size ∧ Below W0.heap.size W0 W) (hb : Below W.heap.size W w) : w.cell? ⟨b4, 0, none⟩ = some x0 ∧ w.cell? ⟨b4, 1, none⟩ = some x1 ∧ b4 < w.heap.size ∧ Below W0.heap.size W0 w := by
  obtain ⟨a0, a1, l0, B⟩ := h
  have hs := hb.size
  exact ⟨(hb.cell l0).trans a0, (hb.cell l0).trans a1, by omega, B.trans (hb.mono B.size)⟩

set_option maxRecDepth 20000 in
set_option maxHeartbeats 8000000 in
theorem transmit_any (b : Nat) (V : Value) (R : List Rn) (T N D : Int) (s : ByteArray) (w : World) (h : Bt N D) (hS : Snd w b V R T) (hR : R.length ≤ 262145) (hx : bdR R T) (h0 : 0 ≤ T) (hT : T ≤ 4503599627370496) (hs : s.size ≤ 8192) (ha : ∀ j (hj : j < s.size), (s[j]'hj).toNat < 128) :
    Calls Try.prog 107 #[.pointer (some ⟨b, 0, none⟩), rat N D, .string s] w fun e w' => e = .returned (.tuple #[]) ∧ ∃ V', Snd w' b V' (snF R (bpL N D s.data.toList s.size)) (T + lg (bpL N D s.data.toList s.size)) ∧ SndQ w w' b V V' := by
  have HB : Hid (∀ q W, 0 ≤ q → q ≤ 1099511627776 → Calls Try.prog 58 #[rat N D, .int .i64 q] W fun e w' => e = .returned (.int .i64 (bdI N D q)) ∧ Below W.heap.size W w') := Lib.hid fun q W q0 q1 => boundary_any N D q W h q0 q1
  have HM : Hid (∀ q W, 0 ≤ q → q ≤ 1099511627776 → Calls Try.prog 106 #[rat N D, .int .i64 q] W fun e w' => e = .returned (.int .i64 (smI N D q)) ∧ Below W.heap.size W w') := Lib.hid fun q W q0 q1 => sample_any N D q W h q0 q1
  have HH := Lib.hid (fun c W => halves_any c W)
  have HS := Lib.hid (fun V1 P v t W hS1 hP t0 hT1 => send_next b V1 R P T v t W hS1 hR hx h0 hP t0 hT1)
  have HA := Lib.hid ha
  have HP := Lib.hid (fun j : Nat => hp_ok h j (s.data.toList.getD j 0))
  have HBP := Lib.hid (fun j => bp_ok h s.data.toList j)
  have hL := Array.length_toList (xs := s.data)
  obtain ⟨W, b4, k, eW, e4, ek⟩ : ∃ W b4 k, W = (w.alloc (.cells #[.int .i64 N, .int .i64 D] 23)).iter s 0 ∧ b4 = w.heap.size ∧ k = w.heap.size + 1 := ⟨_, _, _, rfl, rfl, rfl⟩
  have hWs : W.heap.size = k + 1 := by rw [eW, ek]; simp [World.iter, World.size_alloc]
  have hit : W.heap[k]? = some (.stringIter s 0) := by rw [eW, ek, ← World.size_alloc w (.cells #[.int .i64 N, .int .i64 D] 23)]; exact World.iter_heap _ s 0
  have hB0 : Below w.heap.size w W := by rw [eW]; exact (ba w _).trans ((ba _ _).mono (by rw [World.size_alloc]; omega))
  have hr4 : RowAt W b4 23 #[.int .i64 N, .int .i64 D] := by rw [eW, e4]; exact (RowAt.new w _ _).alloc _
  have hS1 := hS.keep hB0
  have lb := hS.box.lt
  have lo : ∀ x, V.ownBlock = some x → x < w.heap.size := fun x e => (hS.row.lt x e).2
  have HIT := Lib.hid hit; have HR4 := Lib.hid hr4; have HS1 := Lib.hid hS1; have HQ := Lib.hid (show SndQ w W b V V from sndQ_below (SndQ.refl w b V) hB0)
  have HO : Hid (V.ownBlock ≠ some b4 ∧ V.ownBlock ≠ some k) := Lib.hid ⟨fun e => by have := lo _ e; omega, fun e => by have := lo _ e; omega⟩
  clear hit hr4 hS1 hS ha lo hB0
  go_enter Try.func107, Try.ntmps107
  go_wp2
  rw [← eW, ← ek, ← e4]
  have l4 : b4 < k := by omega
  have lb4 : b ≠ b4 := by omega
  have lbk : b ≠ k := by omega
  have le4 : w.heap.size ≤ b4 := by omega
  clear eW ek e4
  go_loopw [15] (fun pp wr => ∃ (j : Nat) (V1 : Value), j ≤ s.size ∧ Hid (wr.heap[k]? = some (.stringIter s j)) ∧ Hid (Snd wr b V1 (snF R (bpL N D s.data.toList j)) (T + lg (bpL N D s.data.toList j))) ∧ Hid (V1.ownBlock ≠ some b4 ∧ V1.ownBlock ≠ some k) ∧ Hid (RowAt wr b4 23 #[.int .i64 N, .int .i64 D]) ∧ Hid (SndQ w wr b V V1)) (fun _ w' => s.size - w'.iterPos k)
  case atStart => exact ⟨0, V, Nat.zero_le _, HIT, Lib.hid (by simpa [bpL, snF, lg] using HS1.out), HO, HR4, HQ⟩
  case round =>
    obtain ⟨j, V1, hj, HI, HS1, HO, HR4, HQ⟩ := hrel
    have hkl := (Array.getElem?_eq_some_iff.1 HI.out).1
    by_cases hjl : j < s.size
    · have hji : (j : Int) < s.size := by omega
      have hnx := fun ty => run_next_at (P := Try.prog) wr s k j ty HI.out hjl (HA.out j hjl)
      have hmk : k ∈ [k] := by simp
      have KX := setIt_kp (w := wr) s (j + 1) [k] hmk
      have HI1 := Lib.hid (setIt_at (w := wr) (k := k) s (j + 1) hkl)
      have hz1 := setIt_size wr k s (j + 1)
      have HR1 := Lib.hid (KX.row HR4.out (by simp only [List.mem_singleton]; omega))
      have HX1 : Hid (Snd (setIt wr k s (j + 1)) b V1 (snF R (bpL N D s.data.toList j)) (T + lg (bpL N D s.data.toList j))) := Lib.hid ⟨KX.row HS1.out.box (by simp only [List.mem_singleton]; omega), HS1.out.row.kp KX (fun g hg hx => HO.out.2 (by rw [List.mem_singleton] at hx; rw [← hx]; exact hg))⟩
      have HQ1 : Hid (SndQ w (setIt wr k s (j + 1)) b V V1) := Lib.hid (by
        refine ⟨⟨HQ.out.1.os, HQ.out.1.tape, HQ.out.1.output, by rw [hz1]; exact HQ.out.1.size, fun i hi hx => (KX.block i (Nat.lt_of_lt_of_le hi HQ.out.1.size) (by simp only [List.mem_singleton]; omega)).trans (HQ.out.1.block i hi hx)⟩, HQ.out.2⟩)
      have hp0 : wr.iterPos k = j := by simp [World.iterPos, HI.out]
      clear KX HI
      obtain ⟨W1, hW1⟩ : ∃ W1, W1 = setIt wr k s (j + 1) := ⟨_, rfl⟩
      rw [← hW1] at hnx HI1 hz1 HR1 HX1 HQ1
      clear hW1 HQ HS1 HR4
      obtain ⟨a0, a1⟩ := row2 HR1.out
      have l41 := HR1.out.lt
      have HW : Hid (W1.cell? ⟨b4, 0, none⟩ = some (.int .i64 N) ∧ W1.cell? ⟨b4, 1, none⟩ = some (.int .i64 D) ∧ b4 < W1.heap.size ∧ Below W1.heap.size W1 W1) := Lib.hid ⟨a0, a1, l41, Below.refl _ _⟩
      have q1 : IntKind.i64.wrap ((j : Int) + 1) = (j : Int) + 1 := IntWalk.i64_in _ (by omega)
      go_upto_region 4 with (fail)
      clear hnx a0 a1
      go_cut [7, 8, 9] from 14 (fun p7 p8 p9 wc => p7 = .int .i64 (bdI N D j) ∧ p8 = .int .i64 (smI N D j) ∧ p9 = .int .i64 (bdI N D ((j : Int) + 1)) ∧ Hid (Below W1.heap.size W1 wc))
      case first =>
        go_region_held3 (fun w' => w'.cell? ⟨b4, 0, none⟩ = some (.int .i64 N) ∧ w'.cell? ⟨b4, 1, none⟩ = some (.int .i64 D) ∧ b4 < w'.heap.size ∧ Below W1.heap.size W1 w') (first | with_reducible assumption | with_reducible exact heldR HW.out (Below.refl _ _).drew | fail)
          (first
            | (go_at_call 58; refine (HB.out _ _ (by omega) (by omega)).mono ?_; rintro e6 w6 ⟨rfl, k6⟩; have h6 := heldR (by with_reducible assumption) k6)
            | (go_at_call 106; refine (HM.out _ _ (by omega) (by omega)).mono ?_; rintro e6 w6 ⟨rfl, k6⟩; have h6 := heldR (by with_reducible assumption) k6))
        all_goals
          rename_i hS9
          have YB := Lib.hid hS9.2.2.2
          clear hS9
          go_wp2
          go_meet
          case rel => exact ⟨rfl, rfl, rfl, YB⟩
      case rest =>
        obtain ⟨w0, hw0⟩ : ∃ x, x = wc := ⟨_, rfl⟩
        subst hw0
        obtain ⟨rfl, rfl, rfl, HB9⟩ := hcut
        have hPj := HP.out j
        have hBj := HBP.out j
        have hnl := nn_lg hBj.1
        have q2 : IntKind.i64.wrap (smI N D j - bdI N D j) = smI N D j - bdI N D j := IntWalk.i64_in _ (by have := hPj.2.1; simp only [hpL, lg] at this; omega)
        have q3 : IntKind.i64.wrap (bdI N D ((j : Int) + 1) - smI N D j) = bdI N D ((j : Int) + 1) - smI N D j := IntWalk.i64_in _ (by have := hPj.2.1; simp only [hpL, lg] at this; omega)
        have HX2 := Lib.hid (HX1.out.keep HB9.out)
        have HQ2 := Lib.hid (sndQ_below HQ1.out HB9.out)
        have HR2 := Lib.hid (HR1.out.keep HB9.out)
        have HI2 : Hid (w0.heap[k]? = some (.stringIter s (j + 1))) := Lib.hid ((HB9.out.block k (by omega)).trans HI1.out)
        have hgd : s.data.toList.getD j 0 = s[j]'hjl := by
          rw [List.getD, List.getElem?_eq_getElem (by rw [hL]; exact hjl)]; rfl
        have HG : Hid (bpL N D s.data.toList (j + 1) = (bpL N D s.data.toList j ++ [((hvI (s[j]'hjl)).1, smI N D j - bdI N D j)]) ++ [((hvI (s[j]'hjl)).2, bdI N D ((j : Int) + 1) - smI N D j)]) := Lib.hid (by rw [bpL, hgd, hpL, List.append_assoc]; rfl)
        have m1 := hPj.2.2.1
        have m2 := hPj.2.2.2
        have m3 := hPj.2.1
        simp only [hpL, lg] at m3
        have m4 := hBj.2
        have hk0 : k < w0.heap.size := (Array.getElem?_eq_some_iff.1 HI2.out).1
        clear HX1 HQ1 HR1 HI1 HW HB HM hgd hPj
        go_wp2_with (first
          | (go_at_call 117; go_must (refine (HH.out (s[j]'hjl) _).mono ?_; rintro e1 w1 ⟨rfl, hw⟩; have hw' := hw.symm; subst hw'))
          | (go_at_call 57; refine (HS.out _ _ _ _ _ HX3.out (nn_one hBj.1 (by omega)) (by omega) (by rw [lg_append, Sw.lg_one]; simp only; omega)).mono ?_; rintro e3 w3 ⟨rfl, V3, x3, k3, o3⟩)
          | (go_at_call 57; refine (HS.out _ _ _ _ _ HX2.out hBj.1 (by omega) (by omega)).mono ?_; rintro e2 w2 ⟨rfl, V2, x2, k2, o2⟩; have HX3 := Lib.hid x2))
        have Q12 := sndQ_trans (show SndQ w0 w2 b V1 V2 from ⟨k2, o2⟩) (show SndQ w2 w3 b V2 V3 from ⟨k3, o3⟩)
        obtain ⟨i3, oi3⟩ := sndQ_blk Q12 HI2.out (Ne.symm lbk) HO.out.2
        obtain ⟨r3, or3⟩ := sndQ_row Q12 HR2.out (Ne.symm lb4) HO.out.1
        have X3 : Hid (Snd w3 b V3 (snF R (bpL N D s.data.toList (j + 1))) (T + lg (bpL N D s.data.toList (j + 1)))) := Lib.hid (by rw [HG.out]; exact x3)
        have Q3 := Lib.hid (sndQ_trans HQ2.out Q12)
        have hp3 : w3.iterPos k = j + 1 := by simp [World.iterPos, i3]
        have I3 := Lib.hid i3; have R3 := Lib.hid r3
        clear i3 r3 Q12 x3 x2 k2 k3 o2 o3
        go_roundw
        case rel => exact ⟨j + 1, V3, by omega, I3, X3, Lib.hid ⟨or3, oi3⟩, R3, Q3⟩
        case measure => rw [hp3, hp0]; omega
    · have hne := fun ty => run_end_at (P := Try.prog) wr s k j ty HI.out hjl
      obtain rfl : j = s.size := by omega
      clear HB HM HH HS HP
      go_wp2
      go_returns
      exact ⟨rfl, V1, HS1.out, HQ.out⟩

end Go.Proofs.Ytmbeaagpjpphhaa

namespace Go.Proofs.Ytmbeaagpjpphhaa
open Go Go.RowKit Go.Joins
open Sw (Rn RnRow RnArg rnC lg nil_or_snoc pt pt_nil pt_snoc lg_append)
set_option linter.unusedVariables false
set_option linter.unusedSimpArgs false

theorem box5 (w : World) (S : Array Value) : ∃ W q, W = w.alloc (.cells S 32) ∧ q = w.heap.size ∧ q < W.heap.size ∧ RowAt W q 32 S ∧ Below w.heap.size w W :=
  ⟨_, _, rfl, rfl, by simp only [World.size_alloc]; omega, RowAt.new w _ _, ba w _⟩
theorem row5 {w : World} {b : Nat} {T : TypeId} {x0 x1 x2 x3 x4 : Value} (h : RowAt w b T #[x0, x1, x2, x3, x4]) : w.cell? ⟨b, 0, none⟩ = some x0 ∧ w.cell? ⟨b, 1, none⟩ = some x1 ∧ w.cell? ⟨b, 2, none⟩ = some x2 ∧ w.cell? ⟨b, 3, none⟩ = some x3 ∧ w.cell? ⟨b, 4, none⟩ = some x4 := ⟨h.cell 0, h.cell 1, h.cell 2, h.cell 3, h.cell 4⟩
theorem cat_data (a b : ByteArray) : (a ++ b).data.toList = a.data.toList ++ b.data.toList := by simp [ByteArray.data_append]
theorem cut_data (a : ByteArray) (n : Nat) : (a.extract 0 n).data.toList = a.data.toList.take n := by simp [ByteArray.data_extract]
theorem transmission_any (g v x : Int) (d : ByteArray) (u : Int) (w : World) (hd : d.size ≤ 4096) (hx : u = 5 → 0 ≤ x ∧ x < d.size) :
    Calls Try.prog 108 #[.agg (itA g v x d u)] w fun e w' => ∃ s : ByteArray, e = .returned (.string s) ∧ s.data.toList = txL x u d.data.toList ∧ Below w.heap.size w w' := by
  obtain ⟨W, q, eW, eq, lq, r0, B0⟩ := box5 w (itA g v x d u)
  obtain ⟨c0, c1, c2, c3, c4⟩ := row5 r0
  have HB := Lib.hid B0
  clear r0 B0
  by_cases hu : u = 5
  · obtain ⟨x0, x1⟩ := hx hu
    obtain ⟨n, rfl⟩ := Int.eq_ofNat_of_zero_le x0
    have x2 : (n : Int) ≤ d.size := by omega
    subst hu
    go_enter Try.func108, Try.ntmps108
    go_upto_region 1 with (fail)
    rw [← eW, ← eq]
    clear eW eq
    go_wp2
    go_returns
    exact ⟨_, rfl, by rw [cat_data, cat_data, cut_data]; unfold txL; simp, HB.out⟩
  · have hu' : (u == 5) = false := by simpa using hu
    go_enter Try.func108, Try.ntmps108
    go_upto_region 1 with (fail)
    rw [← eW, ← eq]
    clear eW eq
    go_wp2
    go_returns
    exact ⟨_, rfl, by rw [cat_data]; unfold txL; simp [hu], HB.out⟩

/-- Runs of valid levels. -/
theorem pu_gd {R : List Rn} {v t : Int} (h : Sw.gd R) (hv : v = 0 ∨ v = 1) : Sw.gd (pu R v t) := by
  unfold pu
  split
  · exact h
  · exact Sw.pt_gd h (by rw [Sw.gd_cons]; exact ⟨⟨hv, by simp only; omega⟩, Sw.gd_nil⟩)
def lv (P : List Rn) : Prop := ∀ r ∈ P, r.1 = 0 ∨ r.1 = 1
theorem puF_gd {P R : List Rn} (hP : lv P) (h : Sw.gd R) : Sw.gd (puF R P) := by
  induction P generalizing R with
  | nil => exact h
  | cons r P ih => exact ih (fun x hx => hP x (by simp [hx])) (pu_gd h (hP r (by simp)))
theorem puF_lg {P R : List Rn} (hP : nn P) : lg (puF R P) = lg R + lg P := by
  induction P generalizing R with
  | nil => simp [puF, lg]
  | cons r P ih =>
    have h1 := hP r (by simp)
    have e : puF R (r :: P) = puF (pu R r.1 r.2) P := rfl
    rw [e, ih (fun x hx => hP x (by simp [hx]))]
    have : lg (pu R r.1 r.2) = lg R + r.2 := by
      unfold pu; split
      · omega
      · rw [Sw.pt_lg]
    rw [this]; simp only [lg]; omega
theorem hv_lv (c : UInt8) : ((hvI c).1 = 0 ∨ (hvI c).1 = 1) ∧ ((hvI c).2 = 0 ∨ (hvI c).2 = 1) := by
  unfold hvI; split
  · exact ⟨.inr rfl, .inl rfl⟩
  · split
    · exact ⟨.inl rfl, .inr rfl⟩
    · exact ⟨.inr rfl, .inr rfl⟩
theorem lv_append {P Q : List Rn} (h1 : lv P) (h2 : lv Q) : lv (P ++ Q) := by
  intro r hr
  rcases List.mem_append.1 hr with h | h
  · exact h1 r h
  · exact h2 r h
theorem bp_lv (N D : Int) (L : List UInt8) (j : Nat) : lv (bpL N D L j) := by
  induction j with
  | zero => intro r hr; simp [bpL] at hr
  | succ j ih =>
    refine lv_append ih fun r hr => ?_
    simp only [hpL, List.mem_cons, List.not_mem_nil, or_false] at hr
    rcases hr with rfl | rfl
    · exact (hv_lv _).1
    · exact (hv_lv _).2
theorem ip_lv (N D : Int) (e : It) : lv (ipL N D e) := by
  intro r hr
  simp only [ipL, List.mem_cons, List.mem_append, List.not_mem_nil, or_false] at hr
  rcases hr with rfl | hr | rfl
  · exact .inl rfl
  · exact bp_lv _ _ _ _ r hr
  · exact .inl rfl
theorem ep_lv (N D : Int) (l : List It) (j : Nat) : lv (epL N D l j) := by
  induction j with
  | zero => intro r hr; simp only [epL, List.mem_cons, List.not_mem_nil, or_false] at hr; subst hr; exact .inl rfl
  | succ j ih => exact lv_append ih (ip_lv N D _)
/-- All runs; the error; the runs that are returned. -/
def efL (N D : Int) (l : List It) : List Rn := puF [] (epL N D l l.length)
def efE (N D : Int) (l : List It) : Int := if 262144 < (efL N D l).length then 6 else if 1099511627776 < lg (epL N D l l.length) then 2 else 0
def efR (N D : Int) (z : Bool) (l : List It) : List Rn := if efE N D l = 0 then (if z = true then efL N D l else Sw.iv (efL N D l)) else []
theorem ef_vl {N D : Int} (h : Bt N D) {l : List It} (hl : okI l) (he : efE N D l = 0) : Sw.vl (efL N D l) = true := by
  unfold efE at he
  have a := ep_ok h hl l.length (Nat.le_refl _)
  split at he
  · omega
  split at he
  · omega
  refine (Sw.vl_iff _).2 ⟨by omega, puF_gd (ep_lv N D l _) Sw.gd_nil, ?_⟩
  unfold efL; rw [puF_lg a.1]; simp only [lg]; omega
/-- The sender's result. -/
theorem sn_ef {N D : Int} (h : Bt N D) {l : List It} (hl : okI l) : rnX (snF [] (epL N D l l.length)) (lg (epL N D l l.length)) = efE N D l ∧ (efE N D l = 0 → snF [] (epL N D l l.length) = efL N D l) := by
  have a := ep_ok h hl l.length (Nat.le_refl _)
  have b := sn_pu a.1 [] [] (.inl ⟨by simp, rfl⟩)
  unfold rnX efE efL
  rcases b with ⟨b1, b2⟩ | ⟨b1, b2⟩
  · rw [b2]; exact ⟨rfl, fun _ => rfl⟩
  · rw [if_pos (by omega), if_pos (by omega)]
    exact ⟨rfl, fun he => by omega⟩

end Go.Proofs.Ytmbeaagpjpphhaa

namespace Go.Proofs.Ytmbeaagpjpphhaa
open Go Go.RowKit Go.Joins
open Sw (Rn RnRow RnArg rnC lg nil_or_snoc pt pt_nil pt_snoc lg_append)
set_option linter.unusedVariables false
set_option linter.unusedSimpArgs false

theorem Snd.drew {w : World} {b : Nat} {V : Value} {R : List Rn} {T : Int} (h : Snd w b V R T) : Snd w.drew b V R T := ⟨h.box, h.row⟩
/-- An item that may be sent. -/
structure OkT (e : It) : Prop where
  g0 : 0 ≤ e.g
  g1 : e.g ≤ 1048576
  d : e.d.size ≤ 4096
  ok : Sb.okB e.d.data.toList = true
  u : e.u = 0 ∨ e.u = 5
  x : e.u = 5 → 0 ≤ e.x ∧ e.x < e.d.size
  v : e.v = 0
  x0 : e.u = 0 → e.x = 0
theorem mg_ok {e : It} (h : mgT e = 0) : OkT e := by
  unfold mgT mgE mcE at h
  split at h
  · omega
  split at h
  · omega
  split at h
  · omega
  split at h
  · omega
  split at h
  · omega
  split at h
  · omega
  rename_i h1 h2 h3 h4 h5 h6
  refine ⟨by omega, by omega, by omega, by simpa using h3, by omega, fun hu => ?_, by omega, fun hu => ?_⟩
  · exact ⟨Int.not_lt.1 fun hc => h5 ⟨hu, .inl hc⟩, Int.not_le.1 fun hc => h5 ⟨hu, .inr hc⟩⟩
  · exact Classical.byContradiction fun hc => h6 (.inr ⟨hu, hc⟩)
theorem mf_ok {l : List It} (h : mfE l = 0) : ∀ j (hj : j < l.length), OkT l[j] := by
  induction l with
  | nil => intro j hj; simp at hj
  | cons e l ih =>
    have h0 : mgT e = 0 := by
      unfold mfE at h; split at h
      · assumption
      · assumption
    have h1 : mfE l = 0 := by unfold mfE at h; rw [if_pos h0] at h; exact h
    intro j hj
    cases j with
    | zero => exact mg_ok h0
    | succ j => exact ih h1 j (by simpa using hj)
theorem ml_ok {l : List It} (h : mlE l = 0) : l.length ≤ 1024 ∧ ∀ j (hj : j < l.length), OkT l[j] := by
  unfold mlE at h
  split at h
  · omega
  · exact ⟨by omega, mf_ok h⟩
theorem okI_of {l : List It} (h : mlE l = 0) : okI l := ⟨(ml_ok h).1, fun j hj => ⟨((ml_ok h).2 j hj).g0, ((ml_ok h).2 j hj).g1, ((ml_ok h).2 j hj).d⟩⟩
theorem tx_ascii {e : It} (h : OkT e) (s : ByteArray) (hs : s.data.toList = txL e.x e.u e.d.data.toList) : s.size ≤ 8192 ∧ ∀ j (hj : j < s.size), (s[j]'hj).toNat < 128 := by
  have hl : s.data.toList.length = s.size := Array.length_toList
  have hd : e.d.data.toList.length = e.d.size := Array.length_toList
  refine ⟨by have := tx_len e.x e.u e.d.data.toList; rw [← hl, hs]; have := h.d; omega, fun j hj => ?_⟩
  have hall : ∀ c ∈ txL e.x e.u e.d.data.toList, c.toNat < 128 := by
    have hb : ∀ c ∈ e.d.data.toList, c.toNat < 128 := by
      intro c hc
      have := Sb.okB_mem h.ok hc
      omega
    intro c hc
    unfold txL at hc
    rcases List.mem_cons.1 hc with rfl | hc
    · decide
    · split at hc
      · rcases List.mem_append.1 hc with hc | hc
        · exact hb c (List.mem_of_mem_take hc)
        · simp only [List.mem_singleton] at hc; subst hc; decide
      · exact hb c hc
  have : (s[j]'hj) ∈ s.data.toList := by
    rw [List.mem_iff_getElem]; exact ⟨j, by rw [hl]; exact hj, rfl⟩
  rw [hs] at this
  exact hall _ this

theorem held9 {w W : World} {b2 n9 X0 : Nat} {N D x0 x1 x2 x4 : Int} {x3 : ByteArray} (h : W.cell? ⟨b2, 0, none⟩ = some (.int .i64 N) ∧ W.cell? ⟨b2, 1, none⟩ = some (.int .i64 D) ∧ (W.cell? ⟨n9, 0, none⟩ = some (.int .i64 x0) ∧ W.cell? ⟨n9, 1, none⟩ = some (.int .i64 x1) ∧ W.cell? ⟨n9, 2, none⟩ = some (.int .i64 x2) ∧ W.cell? ⟨n9, 3, none⟩ = some (.string x3) ∧ W.cell? ⟨n9, 4, none⟩ = some (.int .i64 x4)) ∧ b2 < W.heap.size ∧ n9 < W.heap.size ∧ X0 ≤ W.heap.size) (hb : Below W.heap.size W w) : w.cell? ⟨b2, 0, none⟩ = some (.int .i64 N) ∧ w.cell? ⟨b2, 1, none⟩ = some (.int .i64 D) ∧ (w.cell? ⟨n9, 0, none⟩ = some (.int .i64 x0) ∧ w.cell? ⟨n9, 1, none⟩ = some (.int .i64 x1) ∧ w.cell? ⟨n9, 2, none⟩ = some (.int .i64 x2) ∧ w.cell? ⟨n9, 3, none⟩ = some (.string x3) ∧ w.cell? ⟨n9, 4, none⟩ = some (.int .i64 x4)) ∧ b2 < w.heap.size ∧ n9 < w.heap.size ∧ X0 ≤ w.heap.size := by
  obtain ⟨a0, a1, ⟨e0, e1, e2, e3, e4⟩, l0, l1, X⟩ := h
  have hs := hb.size
  exact ⟨(hb.cell l0).trans a0, (hb.cell l0).trans a1, ⟨(hb.cell l1).trans e0, (hb.cell l1).trans e1, (hb.cell l1).trans e2, (hb.cell l1).trans e3, (hb.cell l1).trans e4⟩, by omega, by omega, by omega⟩
/-- A walk with a sender changes no block that was there ahead of the sender. -/
theorem sndQ_old {w W wr : World} {b : Nat} {V1 : Value} (hB : Below w.heap.size w W) (hb : w.heap.size ≤ b) (h : SndQ W wr b (.slice none 0 0) V1) : Below w.heap.size w wr :=
  hB.trans (h.1.below (fun k hk => by simp only [ows, Value.ownBlock, Option.toList, List.mem_cons, List.not_mem_nil, or_false] at hk; omega) hB.size)

set_option maxRecDepth 20000 in
set_option maxHeartbeats 8000000 in
theorem msend_any (N D : Int) (z : Bool) (l : List It) (V : Value) (w : World) (h : Bt N D) (hT : ItArg w V l) (hl : mlE l = 0) :
    Calls Try.prog 79 #[.agg (manA N D z), V] w fun e w' => ∃ V', e = .returned (.tuple #[V', .int .i64 (efE N D l)]) ∧ RnRow w' w.heap.size V' (efR N D z l) ∧ Below w.heap.size w w' := by
  have HB : Hid (∀ q W, 0 ≤ q → q ≤ 1099511627776 → Calls Try.prog 58 #[rat N D, .int .i64 q] W fun e w' => e = .returned (.int .i64 (bdI N D q)) ∧ Below W.heap.size W w') := Lib.hid fun q W q0 q1 => boundary_any N D q W h q0 q1
  have hR0 : bdR ([] : List Rn) 0 := fun x hx => by cases hx
  have HS := Lib.hid (fun b V1 P v t W hS1 hP t0 hT1 => send_next b V1 [] P 0 v t W hS1 (by simp) hR0 (Int.le_refl _) hP t0 hT1)
  have HT : Hid (∀ b V1 P s W, Snd W b V1 (snF [] P) (0 + lg P) → nn P → 0 + lg P ≤ 4503599627370496 → s.size ≤ 8192 → (∀ j (hj : j < s.size), (s[j]'hj).toNat < 128) → Calls Try.prog 107 #[.pointer (some ⟨b, 0, none⟩), rat N D, .string s] W fun e w' => e = .returned (.tuple #[]) ∧ ∃ V', Snd w' b V' (snF (snF [] P) (bpL N D s.data.toList s.size)) (0 + lg P + lg (bpL N D s.data.toList s.size)) ∧ SndQ W w' b V1 V') := Lib.hid fun b V1 P s W hS1 hP hT1 hs ha => transmit_any b V1 (snF [] P) (0 + lg P) N D s W h hS1 (snF_len [] P (by simp)) (snF_bd hP hR0 (Int.le_refl _)) (by have := nn_lg hP; omega) hT1 hs ha
  have HU := Lib.hid (fun b V1 R T W hS1 hR => runs_any b V1 R T W hS1 hR)
  have HI := Lib.hid (fun l V W hT => Sw.invert_any l V W hT)
  have hok := ml_ok hl
  have hoi := okI_of hl
  have HOK := Lib.hid hok.2
  have HEP := Lib.hid (fun j hj => ep_ok h hoi j hj)
  have HEF := Lib.hid (sn_ef h hoi)
  have HVL := Lib.hid (fun he => ef_vl h hoi he)
  have hn := hok.1
  have d1 := (bd_next h 0)
  have d2 := (bd_next h (0 + 1))
  rw [bd_zero] at d1
  rw [show (0 : Int) + 1 + 1 = 2 by omega] at d2
  have hb2 : 8 ≤ bdI N D 2 ∧ bdI N D 2 ≤ 2097154 := by omega
  obtain ⟨EE, eEE⟩ : ∃ x, x = efE N D l := ⟨_, rfl⟩
  obtain ⟨ER, eER⟩ : ∃ x, x = efR N D z l := ⟨_, rfl⟩
  rw [← eEE, ← eER]
  have HEE := Lib.hid eEE; have HER0 := Lib.hid eER
  clear eEE eER
  obtain ⟨A, c, rfl, hA⟩ := hT
  have HA := Lib.hid hA
  have hl' : (l.length : Int) ≤ 1024 := by omega
  obtain ⟨W, b2, b, eW, e2, eb⟩ : ∃ W b2 b, W = (w.alloc (.cells (manA N D z) 59)).alloc (.cells #[.slice none 0 0, .int .i64 0] 81) ∧ b2 = w.heap.size ∧ b = w.heap.size + 1 := ⟨_, _, _, rfl, rfl, rfl⟩
  have hBW : Below w.heap.size w W := by rw [eW]; exact (ba w _).trans ((ba _ _).mono (by rw [World.size_alloc]; omega))
  have hSW : Snd W b (.slice none 0 0) [] 0 := by rw [eW, eb, ← World.size_alloc w (.cells (manA N D z) 59)]; exact Snd.new _
  have hrW : RowAt W b2 59 (manA N D z) := by rw [eW, e2]; exact (RowAt.new w _ _).alloc _
  have lW : W.heap.size = b + 1 := by rw [eW, eb]; simp [World.size_alloc]
  have l2 : b2 < b := by omega
  have le2 : w.heap.size ≤ b2 := by omega
  have HBW := Lib.hid hBW; have HSW := Lib.hid hSW; have HRW := Lib.hid hrW
  obtain ⟨z0, z1, z2⟩ := row3 hrW
  clear hBW hSW hrW hok hA d1 d2
  go_enter Try.func79, Try.ntmps79
  go_upto_region 2 with (fail)
  rw [← eW, ← eb, ← e2]
  clear eW eb e2
  go_wp2_with (first
    | (go_at_call 58; go_must (refine (HB.out _ _ (by omega) (by omega)).mono ?_; rintro e1 w1 ⟨rfl, k1⟩; have X1 := Lib.hid (HSW.out.keep k1); have Q1 := Lib.hid (sndQ_below (SndQ.refl W b (.slice none 0 0)) k1); have R1 := Lib.hid (HRW.out.keep k1)))
    | (go_at_call 57; refine (HS.out _ _ [] _ _ _ X1.out (fun r hr => by cases hr) (by omega) (by simp only [lg]; omega)).mono ?_; rintro e2 w2 ⟨rfl, V2, x2, k2, o2⟩))
  have QQ := show SndQ w1 w2 b (.slice none 0 0) V2 from ⟨k2, o2⟩
  obtain ⟨r2, or2⟩ := sndQ_row QQ R1.out (by omega) (by simp [Value.ownBlock])
  have R2 := Lib.hid r2; have O2 := Lib.hid or2
  have Q2 := Lib.hid (sndQ_trans Q1.out QQ)
  have X2 : Hid (Snd w2 b V2 (snF [] (epL N D l 0)) (0 + lg (epL N D l 0))) := Lib.hid x2
  clear QQ r2 or2 x2 k2 o2 X1 Q1 R1 z0 z1 z2 HSW HRW
  go_loopw [19] (fun i wr => ∃ (j : Nat) (V1 : Value), j ≤ l.length ∧ i = .int .i64 j ∧ Hid (Snd wr b V1 (snF [] (epL N D l j)) (0 + lg (epL N D l j))) ∧ Hid (RowAt wr b2 59 (manA N D z)) ∧ Hid (V1.ownBlock ≠ some b2) ∧ Hid (SndQ W wr b (.slice none 0 0) V1)) (fun i _ => l.length - (intOf i).toNat)
  case atStart => exact ⟨0, V2, Nat.zero_le _, rfl, X2, R2, O2, Q2⟩
  case round =>
    obtain ⟨j, V1, hj, rfl, HX, HR, HO, HQ⟩ := hrel
    have hb := sndQ_old HBW.out (by omega) HQ.out
    obtain ⟨z0, z1, z2⟩ := row3 HR.out
    by_cases hjl : j < l.length
    · obtain ⟨g, o, rfl, hg, hc⟩ := HA.out (by omega)
      obtain ⟨a0, a1, a2, a3, a4⟩ := arg_five hc j hjl
      have f0 := (hb.cell (p := ⟨g, o + j * 5, none⟩) hg).trans a0
      have f1 := (hb.cell (p := ⟨g, o + j * 5 + 1, none⟩) hg).trans a1
      have f2 := (hb.cell (p := ⟨g, o + j * 5 + 2, none⟩) hg).trans a2
      have f3 := (hb.cell (p := ⟨g, o + j * 5 + 3, none⟩) hg).trans a3
      have f4 := (hb.cell (p := ⟨g, o + j * 5 + 4, none⟩) hg).trans a4
      have hk := HOK.out j hjl
      have hp := HEP.out j (by omega)
      have hnl := nn_lg hp.1
      have hbp := bp_ok h (txL l[j].x l[j].u l[j].d.data.toList) (txL l[j].x l[j].u l[j].d.data.toList).length
      have htl := tx_len l[j].x l[j].u l[j].d.data.toList
      have hdl : l[j].d.data.toList.length = l[j].d.size := Array.length_toList
      have HTX := Lib.hid (fun W => transmission_any l[j].g l[j].v l[j].x l[j].d l[j].u W hk.d hk.x)
      have HTA := Lib.hid (fun s hs => tx_ascii hk s hs)
      have HIP : Hid (epL N D l (j + 1) = (((epL N D l j ++ [(0, l[j].g)]) ++ bpL N D (txL l[j].x l[j].u l[j].d.data.toList) (txL l[j].x l[j].u l[j].d.data.toList).length)) ++ [(0, bdI N D 2)]) := Lib.hid (by
        rw [epL, show l.getD j default = l[j] by simp [List.getD, List.getElem?_eq_getElem hjl], ipL]
        simp only [List.append_assoc, List.cons_append, List.nil_append])
      have g0 := hk.g0; have g1 := hk.g1; have hd := hk.d
      generalize txL l[j].x l[j].u l[j].d.data.toList = TX at *
      clear a0 a1 a2 a3 a4 hc hk
      generalize l[j].g = x0 at *
      generalize l[j].v = x1 at *
      generalize l[j].x = x2 at *
      generalize l[j].d = x3 at *
      generalize l[j].u = x4 at *
      obtain ⟨X, n9, eX, e9, l9, r9, B9⟩ := box5 wr (itA x0 x1 x2 x3 x4)
      go_upto_region 7 with (fail)
      rw [← eX, ← e9]
      have hb9 : b2 < n9 ∧ b < n9 := ⟨by have := HR.out.lt; omega, by have := HX.out.box.lt; omega⟩
      have hzw : wr.heap.size ≤ n9 := by omega
      clear eX e9
      obtain ⟨i0, i1, i2, i3, i4⟩ := row5 r9
      have R9 := Lib.hid r9
      have RX := Lib.hid (HR.out.keep B9); have XX := Lib.hid (HX.out.keep B9); have QX := Lib.hid (sndQ_below HQ.out B9)
      have O9 : Hid (V1.ownBlock ≠ some n9) := Lib.hid fun e => by have := (HX.out.row.lt n9 e).2; omega
      clear r9 B9 f0 f1 f2 f3 f4 HX HR HQ hb z0 z1 z2
      go_upto_region 8 with (first
        | (go_at_call 57; refine (HS.out _ _ _ _ _ _ XX.out hp.1 g0 (by omega)).mono ?_; rintro e3 w3 ⟨rfl, V3, x3', k3, o3⟩))
      have Q3 := show SndQ X w3 b V1 V3 from ⟨k3, o3⟩
      obtain ⟨r3, or3⟩ := sndQ_row Q3 RX.out (by omega) HO.out
      obtain ⟨r9, or9⟩ := sndQ_row Q3 R9.out (by omega) O9.out
      have R3 := Lib.hid r3; have O3 := Lib.hid or3; have R93 := Lib.hid r9; have O93 := Lib.hid or9
      have X3 := Lib.hid x3'
      have Q3' := Lib.hid (sndQ_trans QX.out Q3)
      obtain ⟨z0, z1, z2⟩ := row3 r3
      obtain ⟨i0, i1, i2, i3, i4⟩ := row5 r9
      have HW : Hid (w3.cell? ⟨b2, 0, none⟩ = some (.int .i64 N) ∧ w3.cell? ⟨b2, 1, none⟩ = some (.int .i64 D) ∧ (w3.cell? ⟨n9, 0, none⟩ = some (.int .i64 x0) ∧ w3.cell? ⟨n9, 1, none⟩ = some (.int .i64 x1) ∧ w3.cell? ⟨n9, 2, none⟩ = some (.int .i64 x2) ∧ w3.cell? ⟨n9, 3, none⟩ = some (.string x3) ∧ w3.cell? ⟨n9, 4, none⟩ = some (.int .i64 x4)) ∧ b2 < w3.heap.size ∧ n9 < w3.heap.size ∧ 0 ≤ w3.heap.size) := Lib.hid ⟨z0, z1, ⟨i0, i1, i2, i3, i4⟩, r3.lt, r9.lt, Nat.zero_le _⟩
      have hnn : nn (epL N D l j ++ [(0, x0)]) := nn_one hp.1 g0
      have hlg : lg (epL N D l j ++ [(0, x0)]) = lg (epL N D l j) + x0 := by rw [lg_append, Sw.lg_one]
      clear k3 o3 Q3 r3 or3 r9 or9 x3' XX QX RX R9 z0 z1 z2 i0 i1 i2 i3 i4
      go_region_held3 (fun w' => w'.cell? ⟨b2, 0, none⟩ = some (.int .i64 N) ∧ w'.cell? ⟨b2, 1, none⟩ = some (.int .i64 D) ∧ (w'.cell? ⟨n9, 0, none⟩ = some (.int .i64 x0) ∧ w'.cell? ⟨n9, 1, none⟩ = some (.int .i64 x1) ∧ w'.cell? ⟨n9, 2, none⟩ = some (.int .i64 x2) ∧ w'.cell? ⟨n9, 3, none⟩ = some (.string x3) ∧ w'.cell? ⟨n9, 4, none⟩ = some (.int .i64 x4)) ∧ b2 < w'.heap.size ∧ n9 < w'.heap.size ∧ 0 ≤ w'.heap.size) (first | with_reducible assumption | with_reducible exact held9 HW.out (Below.refl _ _).drew | fail)
        (first
          | (go_at_call 108; refine (HTX.out _).mono ?_; rintro e6 w6 ⟨s6, rfl, hs6, k6⟩; have h6 := held9 (by with_reducible assumption) k6)
          | (go_at_call 107; refine (HT.out b V3 _ s6 _ (Snd.keep (Snd.drew X3.out) k6) hnn (by rw [hlg]; omega) (HTA.out s6 hs6).1 (HTA.out s6 hs6).2).mono ?_; rintro e7 w7 ⟨rfl, V7, x7, q7⟩; have r7 := sndQ_row q7 (RowAt.keep (show RowAt w3.drew b2 _ _ from R3.out) k6) (by omega) O3.out; have r8 := sndQ_row q7 (RowAt.keep (show RowAt w3.drew n9 _ _ from R93.out) k6) (by omega) O93.out; have h7 : w7.cell? ⟨b2, 0, none⟩ = some (.int .i64 N) ∧ w7.cell? ⟨b2, 1, none⟩ = some (.int .i64 D) ∧ (w7.cell? ⟨n9, 0, none⟩ = some (.int .i64 x0) ∧ w7.cell? ⟨n9, 1, none⟩ = some (.int .i64 x1) ∧ w7.cell? ⟨n9, 2, none⟩ = some (.int .i64 x2) ∧ w7.cell? ⟨n9, 3, none⟩ = some (.string x3) ∧ w7.cell? ⟨n9, 4, none⟩ = some (.int .i64 x4)) ∧ b2 < w7.heap.size ∧ n9 < w7.heap.size ∧ 0 ≤ w7.heap.size := ⟨(row3 r7.1).1, (row3 r7.1).2.1, row5 r8.1, r7.1.lt, r8.1.lt, Nat.zero_le _⟩))
      all_goals
        rename_i hS9
        clear hS9
        have hsz : s6.size = TX.length := by rw [← hs6]; exact (Array.length_toList (xs := s6.data)).symm
        have X7 : Hid (Snd w7 b V7 (snF [] ((epL N D l j ++ [(0, x0)]) ++ bpL N D TX TX.length)) (0 + lg ((epL N D l j ++ [(0, x0)]) ++ bpL N D TX TX.length))) := Lib.hid (by rw [hs6, hsz, ← snF_append, Int.add_assoc, ← lg_append] at x7; exact x7)
        have Q7 := Lib.hid (sndQ_trans (sndQ_below Q3'.out (show Below w3.heap.size w3 w3.drew from (Below.refl _ _).drew)) (sndQ_trans ⟨Kp.of_below k6, .inl rfl⟩ q7))
        have R7 := Lib.hid r7.1; have O7 := Lib.hid r7.2
        have hn7 : nn ((epL N D l j ++ [(0, x0)]) ++ bpL N D TX TX.length) := nn_append hnn hbp.1
        have hl7 : lg ((epL N D l j ++ [(0, x0)]) ++ bpL N D TX TX.length) = lg (epL N D l j) + x0 + lg (bpL N D TX TX.length) := by rw [lg_append, hlg]
        have hb7 := hbp.2
        clear x7 q7 r7 r8 h7 h6 k6 hs6 X3 Q3' R3 R93 O3 O93
        go_wp2_with (first
          | (go_at_call 57; refine (HS.out _ _ _ _ _ _ X7.out hn7 (by omega) (by rw [hl7]; omega)).mono ?_; rintro e8 w8 ⟨rfl, V8, x8, k8, o8⟩))
        have Q8 := show SndQ w7 w8 b V7 V8 from ⟨k8, o8⟩
        obtain ⟨r8, or8⟩ := sndQ_row Q8 R7.out (by omega) O7.out
        have R8 := Lib.hid r8; have O8 := Lib.hid or8
        have Q8' := Lib.hid (sndQ_trans Q7.out Q8)
        have X8 : Hid (Snd w8 b V8 (snF [] (epL N D l (j + 1))) (0 + lg (epL N D l (j + 1)))) := Lib.hid (by rw [HIP.out]; exact x8)
        clear Q8 r8 or8 x8 k8 o8
        go_roundw
        case rel => exact ⟨j + 1, V8, by omega, val_int (by omega), X8, R8, O8, Q8'⟩
        case measure => simp [intOf]; omega
    · obtain rfl : j = l.length := by omega
      have hlen := snF_len [] (epL N D l l.length) (by simp)
      have HER : Hid (efR N D z l = if efE N D l = 0 then (if z = true then efL N D l else Sw.iv (efL N D l)) else []) := Lib.hid rfl
      by_cases hE : efE N D l = 0
      · have HC : Hid (∀ W, W = wr → Calls Try.prog 59 #[.pointer (some ⟨b, 0, none⟩)] W fun e w' => e = .returned (.tuple #[V1, .int .i64 0]) ∧ wr = w') := Lib.hid (by
          rintro W rfl
          refine (HU.out _ _ _ _ _ HX.out hlen).mono fun e w' ⟨h1, h2⟩ => ⟨?_, h2.symm⟩
          rw [h1, Int.zero_add, HEF.out.1, hE]; rfl)
        have HRW := Lib.hid (show RnRow wr (b + 1) V1 (efL N D l) by have := HX.out.row; rw [HEF.out.2 hE] at this; exact this)
        have HIV := Lib.hid (Sw.ivV_yes (HVL.out hE))
        obtain ⟨VA, VN, VC, rfl, hVN⟩ := HX.out.row.form
        have HR' := Lib.hid (HER.out.trans (if_pos hE))
        clear hVN
        obtain rfl : (0 : Int) = EE := by rw [HEE.out, hE]
        have HQ' := Lib.hid (HER0.out.trans HR'.out)
        generalize efL N D l = EL at *
        clear HR' HER HU HS HT HB HEP HEF HVL HOK HA
        cases z
        · go_wp2_with (first
            | (go_at_call 59; go_must (refine (HC.out _ rfl).mono ?_; rintro e8 w8 ⟨rfl, rfl⟩))
            | (go_at_call 109; go_must (refine (HI.out EL _ _ (HRW.out.arg Sw.rnC_size)).mono ?_; rintro e9 w9 ⟨v9, rfl, r9, b9⟩)))
          go_returns
          exact ⟨_, rfl, by rw [HIV.out] at r9; rw [HQ'.out]; exact r9.mono hb.size, hb.trans (b9.mono hb.size)⟩
        · go_wp2_with (first
            | (go_at_call 59; go_must (refine (HC.out _ rfl).mono ?_; rintro e8 w8 ⟨rfl, rfl⟩)))
          go_returns
          exact ⟨_, rfl, by rw [HQ'.out]; exact HRW.out.mono (by omega), hb⟩
      · have HC : Hid (∀ W, W = wr → Calls Try.prog 59 #[.pointer (some ⟨b, 0, none⟩)] W fun e w' => e = .returned (.tuple #[.slice none 0 0, .int .i64 EE]) ∧ wr = w') := Lib.hid (by
          rintro W rfl
          refine (HU.out _ _ _ _ _ HX.out hlen).mono fun e w' ⟨h1, h2⟩ => ⟨?_, h2.symm⟩
          rw [h1, Int.zero_add, HEF.out.1, if_neg hE, HEE.out])
        have HR' := Lib.hid (HER.out.trans (if_neg hE))
        have HIV : Hid (Sw.ivV [] = []) := Lib.hid rfl
        obtain rfl : ([] : List Rn) = ER := (HER0.out.trans HR'.out).symm
        clear HR' HER HU HS HT HB HEP HEF HVL HOK HA
        cases z
        · go_wp2_with (first
            | (go_at_call 59; go_must (refine (HC.out _ rfl).mono ?_; rintro e8 w8 ⟨rfl, rfl⟩))
            | (go_at_call 109; go_must (refine (HI.out [] _ _ ((KRow.nil _ _ : RnRow wr 0 _ []).arg Sw.rnC_size)).mono ?_; rintro e9 w9 ⟨v9, rfl, r9, b9⟩)))
          go_returns
          exact ⟨_, rfl, by rw [HIV.out] at r9; exact r9.mono hb.size, hb.trans (b9.mono hb.size)⟩
        · go_wp2_with (first
            | (go_at_call 59; go_must (refine (HC.out _ rfl).mono ?_; rintro e8 w8 ⟨rfl, rfl⟩)))
          go_returns
          exact ⟨_, rfl, KRow.nil _ _, hb⟩

end Go.Proofs.Ytmbeaagpjpphhaa

namespace Go.Proofs.Ytmbeaagpjpphhaa
open Go Go.RowKit Go.Joins
open Sw (Rn RnRow RnArg rnC lg nil_or_snoc pt pt_nil pt_snoc lg_append)
set_option linter.unusedVariables false
set_option linter.unusedSimpArgs false

/-- The error of an encoding, its runs. -/
def menE (N D : Int) (l : List It) : Int := if ckE N D = 0 then (if mlE l = 0 then efE N D l else mlE l) else ckE N D
def menR (N D : Int) (z : Bool) (l : List It) : List Rn := if menE N D l = 0 then (if z = true then efL N D l else Sw.iv (efL N D l)) else []
theorem menR_bad {N D : Int} (z : Bool) {l : List It} (h : menE N D l ≠ 0) : menR N D z l = [] := by unfold menR; rw [if_neg h]

set_option maxRecDepth 20000 in
set_option maxHeartbeats 8000000 in
theorem encode17_any (N D : Int) (z : Bool) (l : List It) (V : Value) (w : World) (hN0 : -9223372036854775808 ≤ N) (hN1 : N ≤ 9223372036854775807) (hD0 : -9223372036854775808 ≤ D) (hD1 : D ≤ 9223372036854775807) (hT : ItArg w V l) (hl : l.length ≤ 140737488351232) (hd : ∀ j (h : j < l.length), l[j].d.size ≤ 140737488351232) :
    Calls Try.prog 38 #[.agg (manA N D z), V] w fun e w' => ∃ V', e = .returned (.tuple #[V', .int .i64 (menE N D l)]) ∧ RnRow w' w.heap.size V' (menR N D z l) ∧ Below w.heap.size w w' := by
  have CK := Lib.hid (fun W => manCheck_any N D z W hN0 hN1 hD0 hD1)
  have CI := Lib.hid (fun W (hb : Below w.heap.size w W) => mcheckItems_any l V W (hT.keep hb) hl hd)
  have CS := Lib.hid (fun W (hb : Below w.heap.size w W) (h : Bt N D) (hm : mlE l = 0) => msend_any N D z l V W h (hT.keep hb) hm)
  obtain ⟨W, b, eW, eb, c0, c1, c2, lb, B0⟩ := man_at w N D z
  have HB0 := Lib.hid B0
  have HC : Hid (W.cell? ⟨b, 0, none⟩ = some (.int .i64 N) ∧ W.cell? ⟨b, 1, none⟩ = some (.int .i64 D) ∧ W.cell? ⟨b, 2, none⟩ = some (.bool z) ∧ b < W.heap.size ∧ Below w.heap.size w W) := Lib.hid ⟨c0, c1, c2, lb, B0⟩
  have HE : Hid (menE N D l = if ckE N D = 0 then (if mlE l = 0 then efE N D l else mlE l) else ckE N D) := Lib.hid rfl
  have HR : Hid (menR N D z l = if menE N D l = 0 then (if z = true then efL N D l else Sw.iv (efL N D l)) else []) := Lib.hid rfl
  have HF : Hid (efR N D z l = if efE N D l = 0 then (if z = true then efL N D l else Sw.iv (efL N D l)) else []) := Lib.hid rfl
  obtain ⟨A, c, rfl, hA⟩ := hT
  clear hA B0
  by_cases hk : ckE N D = 0
  · rw [hk] at CK
    rw [if_pos hk] at HE
    by_cases hm : mlE l = 0
    · rw [hm] at CI
      rw [if_pos hm] at HE
      have CS' := Lib.hid (fun W hb => CS.out W hb (ck_bt hk) hm)
      have HR' : Hid (efR N D z l = menR N D z l) := Lib.hid (by rw [HR.out, HF.out, HE.out])
      rw [HE.out, ← HR'.out]
      clear HE HR HF HR' CS
      go_enter Try.func38, Try.ntmps38
      go_wp2_with (first
        | (rw [← eW, ← eb]; clear eW eb; go_at_call 34; go_must (refine (CK.out _).mono ?_; rintro e1 w1 ⟨rfl, b1⟩; have H1 := Lib.hid (man_held HC.out b1); obtain ⟨d0, d1, d2, d3, d4⟩ := H1.out))
        | (go_at_call 55; go_must (refine (CI.out _ H1.out.2.2.2.2).mono ?_; rintro e2 w2 ⟨rfl, b2⟩; have H2 := Lib.hid (man_held H1.out b2); obtain ⟨g0, g1, g2, g3, g4⟩ := H2.out))
        | (go_at_call 79; go_must (refine (CS'.out _ H2.out.2.2.2.2).mono ?_; rintro e3 w3 ⟨V3, rfl, r3, b3⟩; obtain ⟨VA, VN, VC, rfl, hVN⟩ := r3.form; clear hVN)))
      go_returns
      exact ⟨_, rfl, r3.mono H2.out.2.2.2.2.size, H2.out.2.2.2.2.trans (b3.mono H2.out.2.2.2.2.size)⟩
    · rw [if_neg hm] at HE
      have HR' : Hid (menR N D z l = []) := Lib.hid (menR_bad z (by rw [HE.out]; exact hm))
      rw [HE.out, HR'.out]
      have hm' : (mlE l == 0) = false := by simpa using hm
      clear HE HR HF HR' CS
      generalize mlE l = ME at *
      go_enter Try.func38, Try.ntmps38
      go_wp2_with (first
        | (rw [← eW, ← eb]; clear eW eb; go_at_call 34; go_must (refine (CK.out _).mono ?_; rintro e1 w1 ⟨rfl, b1⟩; have H1 := Lib.hid (man_held HC.out b1); obtain ⟨d0, d1, d2, d3, d4⟩ := H1.out))
        | (go_at_call 55; go_must (refine (CI.out _ H1.out.2.2.2.2).mono ?_; rintro e2 w2 ⟨rfl, b2⟩; have H2 := Lib.hid (man_held H1.out b2); obtain ⟨g0, g1, g2, g3, g4⟩ := H2.out)))
      go_returns
      exact ⟨_, rfl, KRow.nil _ _, H2.out.2.2.2.2⟩
  · rw [if_neg hk] at HE
    have HR' : Hid (menR N D z l = []) := Lib.hid (menR_bad z (by rw [HE.out]; exact hk))
    rw [HE.out, HR'.out]
    have hk' : (ckE N D == 0) = false := by simpa using hk
    clear HE HR HF HR' CS
    generalize ckE N D = KE at *
    go_enter Try.func38, Try.ntmps38
    go_wp2_with (first
      | (rw [← eW, ← eb]; clear eW eb; go_at_call 34; go_must (refine (CK.out _).mono ?_; rintro e1 w1 ⟨rfl, b1⟩; have H1 := Lib.hid (man_held HC.out b1); obtain ⟨d0, d1, d2, d3, d4⟩ := H1.out)))
    go_returns
    exact ⟨_, rfl, KRow.nil _ _, H1.out.2.2.2.2⟩

/-- The events of runs. -/
def lvL : Int → List Rn → List Ev
  | _, [] => []
  | b, r :: R => ⟨1, b, b + r.2, r.1, 0, [], 0⟩ :: lvL (b + r.2) R
theorem lvL_append (b : Int) (R Q : List Rn) : lvL b (R ++ Q) = lvL b R ++ lvL (b + lg R) Q := by
  induction R generalizing b with
  | nil => simp [lvL, lg]
  | cons r R ih => simp only [List.cons_append, lvL, ih, lg]; rw [← Int.add_assoc]
theorem lvL_len (b : Int) (R : List Rn) : (lvL b R).length = R.length := by
  induction R generalizing b with
  | nil => rfl
  | cons r R ih => simp [lvL, ih]
theorem nn_take {R : List Rn} (h : nn R) (j : Nat) : nn (R.take j) := fun r hr => h r (List.mem_of_mem_take hr)
theorem lg_take_le {R : List Rn} (h : nn R) (j : Nat) : lg (R.take j) ≤ lg R := by
  have e : lg R = lg (R.take j) + lg (R.drop j) := by rw [← lg_append, List.take_append_drop]
  have := nn_lg (P := R.drop j) fun r hr => h r (List.mem_of_mem_drop hr)
  omega

set_option maxRecDepth 20000 in
set_option maxHeartbeats 8000000 in
theorem levels_any (R : List Rn) (V : Value) (w : World) (hT : RnArg w V R) (hn : nn R) (hg : lg R ≤ 4611686018427387904) (hlen : R.length ≤ 1099511627776) :
    Calls Try.prog 103 #[V] w fun e w' => ∃ V', e = .returned V' ∧ EvRow w' w.heap.size V' (lvL 0 R) ∧ Below w.heap.size w w' := by
  obtain ⟨A, c, rfl, hA⟩ := hT
  have HA := Lib.hid hA
  have HN := Lib.hid hn
  have HT := Lib.hid (fun j => lg_take_le hn j)
  have HT0 := Lib.hid (fun j => nn_lg (nn_take hn j))
  have hl' : (R.length : Int) ≤ 1099511627776 := by omega
  clear hA hn
  go_enter Try.func103, Try.ntmps103
  go_wp2
  go_loopw [10, 3, 4] (fun i r t wr => ∃ (j : Nat), j ≤ R.length ∧ i = .int .i64 j ∧ t = .int .i64 (lg (R.take j)) ∧ Hid (EvRow wr w.heap.size r (lvL 0 (R.take j))) ∧ Hid (Below w.heap.size w wr)) (fun i _ _ _ => R.length - (intOf i).toNat)
  case atStart => exact ⟨0, Nat.zero_le _, rfl, rfl, Lib.hid (KRow.nil _ _), Lib.hid (Below.refl _ _)⟩
  case round =>
    obtain ⟨j, hj, rfl, rfl, HR, HB⟩ := hrel
    have hb := HB.out
    by_cases hjl : j < R.length
    · obtain ⟨g, o, rfl, hg', hc⟩ := HA.out (by omega)
      obtain ⟨a0, a1⟩ := Sw.arg_two hc j hjl
      have f0 := (hb.cell (p := ⟨g, o + j * 2, none⟩) hg').trans a0
      have f1 := (hb.cell (p := ⟨g, o + j * 2 + 1, none⟩) hg').trans a1
      have hP := Sw.lg_take R j hjl
      have t0 := HT0.out j
      have t1 := HT.out (j + 1)
      have t2 := HN.out R[j] (List.getElem_mem hjl)
      have HL : Hid (lvL 0 (R.take (j + 1)) = lvL 0 (R.take j) ++ [⟨1, lg (R.take j), lg (R.take j) + R[j].2, R[j].1, 0, [], 0⟩]) := Lib.hid (by
        rw [List.take_succ_eq_append_getElem hjl, lvL_append, Int.zero_add]; rfl)
      have hll : (lvL 0 (R.take j)).length ≤ j := by rw [lvL_len, List.length_take]; omega
      have HP := Lib.hid hP
      clear a0 a1 hc
      generalize R[j].1 = y0 at *
      generalize R[j].2 = y1 at *
      generalize lg (R.take j) = B at *
      have q1 : IntKind.i64.wrap (B + y1) = B + y1 := IntWalk.i64_in _ (by omega)
      obtain ⟨RA, RN, RC, rfl, hRN⟩ := HR.out.form
      clear hRN
      go_wp2_with (first
        | (at_builtin; go_must (refine wpList_append_k (g := wr.heap.size + 1) Try.underlying36 ev_info rfl (by omega) evC_size rfl _ _ rfl (⟨1, B, B + y1, y0, 0, [], 0⟩ : Ev) rfl rfl rfl (World.size_alloc _ _).symm (HR.out.alloc _) (Nat.le_trans hb.size (by rw [World.size_alloc]; omega)) rfl (by omega) (by omega) ?_; intro v5 w5 R5 b5; have H5 := Lib.hid R5; have B5 := Lib.hid ((hb.alloc hb.size _).trans b5); clear R5 b5)))
      go_roundw
      case rel => exact ⟨j + 1, by omega, val_int (by omega), by rw [HP.out], Lib.hid (by rw [HL.out]; exact H5.out), B5⟩
      case measure => simp [intOf]; omega
    · have he : R.take j = R := List.take_of_length_le (by omega)
      rw [he] at HR
      clear he
      go_wp2
      go_returns
      exact ⟨_, rfl, HR.out, hb⟩

/-- What is expected. -/
def meL (N D : Int) (z : Bool) (l : List It) : List Ev := if menE N D l = 0 then (mnR z N D (lvL 0 (menR N D z l))).o else []
theorem iv_nn {R : List Rn} (h : nn R) : nn (Sw.iv R) := by
  intro r hr
  obtain ⟨x, hx, rfl⟩ := List.mem_map.1 hr
  exact h x hx
/-- The runs of an encoding. -/
theorem menR_ok {N D : Int} (z : Bool) {l : List It} (he : menE N D l = 0) : Bt N D ∧ ckE N D = 0 ∧ mlE l = 0 ∧ efE N D l = 0 ∧ Sw.vl (efL N D l) = true ∧ Sw.vl (menR N D z l) = true := by
  have he' := he
  unfold menE at he
  split at he
  · rename_i hk
    split at he
    · rename_i hm
      have hv := ef_vl (ck_bt hk) (okI_of hm) he
      refine ⟨ck_bt hk, hk, hm, he, hv, ?_⟩
      unfold menR; rw [if_pos he']; split
      · exact hv
      · exact Sw.iv_vl hv
    · rename_i hm; exact absurd he hm
  · rename_i hk; exact absurd he hk
theorem menR_nn (N D : Int) (z : Bool) (l : List It) : nn (menR N D z l) ∧ lg (menR N D z l) ≤ 1099511627776 ∧ (menR N D z l).length ≤ 262144 := by
  by_cases he : menE N D l = 0
  · obtain ⟨_, _, _, _, _, hv⟩ := menR_ok z he
    obtain ⟨h1, h2, h3⟩ := (Sw.vl_iff _).1 hv
    exact ⟨fun r hr => by have := (h2 r hr).2; omega, h3, h1⟩
  · rw [menR_bad z he]; exact ⟨fun r hr => (by cases hr), by simp [lg], by simp⟩
theorem lvL_d (b : Int) (R : List Rn) : ∀ j (h : j < (lvL b R).length), (lvL b R)[j].d.length ≤ 140737488351232 := by
  have : ∀ x ∈ lvL b R, x.d = [] := by
    induction R generalizing b with
    | nil => intro x hx; cases hx
    | cons r R ih =>
      intro x hx
      rcases List.mem_cons.1 hx with rfl | hx
      · rfl
      · exact ih _ x hx
  intro j h
  rw [this _ (List.getElem_mem h)]; simp

set_option maxRecDepth 20000 in
set_option maxHeartbeats 8000000 in
theorem expectG_any (N D : Int) (z : Bool) (l : List It) (V : Value) (w : World) (hN0 : -9223372036854775808 ≤ N) (hN1 : N ≤ 9223372036854775807) (hD0 : -9223372036854775808 ≤ D) (hD1 : D ≤ 9223372036854775807) (hT : ItArg w V l) (hl : l.length ≤ 140737488351232) (hd : ∀ j (h : j < l.length), l[j].d.size ≤ 140737488351232) :
    Calls Try.prog 80 #[.agg (manA N D z), V, .func (.func 38) #[] #[], .func (.func 42) #[] #[]] w fun e w' => ∃ V', e = .returned (.tuple #[V', .int .i64 (menE N D l)]) ∧ EvRow w' w.heap.size V' (meL N D z l) ∧ Below w.heap.size w w' := by
  have CE := Lib.hid (fun W (hb : Below w.heap.size w W) => encode17_any N D z l V W hN0 hN1 hD0 hD1 (hT.keep hb) hl hd)
  obtain ⟨m1, m2, m3⟩ := menR_nn N D z l
  have CL := Lib.hid (fun V1 W (h1 : RnArg W V1 (menR N D z l)) => levels_any _ V1 W h1 m1 (by omega) (by omega))
  have CD := Lib.hid (fun V1 W (he : menE N D l = 0) (h1 : EvArg W V1 (lvL 0 (menR N D z l))) => manDecode_any N D z _ V1 W h1 (menR_ok z he).1 (menR_ok z he).2.1 (by rw [lvL_len]; omega) (lvL_d _ _))
  obtain ⟨W, b, eW, eb, c0, c1, c2, lb, B0⟩ := man_at w N D z
  have HC : Hid (W.cell? ⟨b, 0, none⟩ = some (.int .i64 N) ∧ W.cell? ⟨b, 1, none⟩ = some (.int .i64 D) ∧ W.cell? ⟨b, 2, none⟩ = some (.bool z) ∧ b < W.heap.size ∧ Below w.heap.size w W) := Lib.hid ⟨c0, c1, c2, lb, B0⟩
  have HX : Hid (meL N D z l = if menE N D l = 0 then (mnR z N D (lvL 0 (menR N D z l))).o else []) := Lib.hid rfl
  have HB0 := Lib.hid B0
  obtain ⟨A, c, rfl, hA⟩ := hT
  clear hA m1 m2 m3 B0
  by_cases he : menE N D l = 0
  · have CD' := Lib.hid (fun V1 W h1 => CD.out V1 W he h1)
    have HX' : Hid (meL N D z l = (mnR z N D (lvL 0 (menR N D z l))).o) := Lib.hid (by rw [HX.out, if_pos he])
    rw [he] at CE
    rw [he, HX'.out]
    generalize (mnR z N D (lvL 0 (menR N D z l))).o = ML at *
    generalize lvL 0 (menR N D z l) = LL at *
    generalize menR N D z l = MR at *
    clear HX HX' CD he
    go_enter Try.func80, Try.ntmps80
    go_upto_region 4 with (first
      | (rw [← eW, ← eb]; clear eW eb; go_at_call 38; go_must (refine (CE.out _ HB0.out).mono ?_; rintro e1 w1 ⟨V1, rfl, r1, b1⟩; obtain ⟨VA, VN, VC, rfl, hVN⟩ := r1.form; clear hVN; have H1 := Lib.hid (man_held HC.out b1); have R1 := Lib.hid (r1.arg Sw.rnC_size); obtain ⟨d0, d1, d2, d3, d4⟩ := H1.out)))
    go_region_held3 (fun w' => w'.cell? ⟨b, 0, none⟩ = some (.int .i64 N) ∧ w'.cell? ⟨b, 1, none⟩ = some (.int .i64 D) ∧ w'.cell? ⟨b, 2, none⟩ = some (.bool z) ∧ b < w'.heap.size ∧ Below w.heap.size w w') (first | with_reducible assumption | with_reducible exact man_held H1.out (Below.refl _ _).drew | fail)
      (first
        | (go_at_call 103; refine (CL.out _ _ (KArg.keep R1.out (show Below w1.heap.size w1 w1.drew from (Below.refl _ _).drew))).mono ?_; rintro e5 w5 ⟨V5, rfl, r5, b5⟩; have h5 := man_held (by with_reducible assumption) b5)
        | (go_at_call 42; refine (CD'.out _ _ (KRow.arg evC_size r5)).mono ?_; rintro e6 w6 ⟨V6, rfl, r6, b6⟩; have h6 := man_held (by with_reducible assumption) b6))
    all_goals
      rename_i hS9
      have hB9 := Lib.hid hS9.2.2.2.2
      have hR6 := Lib.hid (r6.mono h5.2.2.2.2.size)
      obtain ⟨VA6, VN6, VC6, rfl, hVN⟩ := r6.form
      clear hS9 hVN
      go_wp2
      go_returns
      exact ⟨_, rfl, hR6.out, hB9.out⟩
  · have HX' : Hid (meL N D z l = []) := Lib.hid (by rw [HX.out, if_neg he])
    have he' : (menE N D l == 0) = false := by simpa using he
    rw [HX'.out]
    generalize menE N D l = ME at *
    clear HX HX' CD
    go_enter Try.func80, Try.ntmps80
    go_wp2_with (first
      | (rw [← eW, ← eb]; clear eW eb; go_at_call 38; go_must (refine (CE.out _ HB0.out).mono ?_; rintro e1 w1 ⟨V1, rfl, r1, b1⟩; obtain ⟨VA, VN, VC, rfl, hVN⟩ := r1.form; clear hVN; have H1 := Lib.hid (man_held HC.out b1); obtain ⟨d0, d1, d2, d3, d4⟩ := H1.out)))
    go_returns
    exact ⟨_, rfl, KRow.nil _ _, H1.out.2.2.2.2⟩

set_option maxRecDepth 20000 in
set_option maxHeartbeats 8000000 in
theorem expect17_any (N D : Int) (z : Bool) (l : List It) (V : Value) (w : World) (hN0 : -9223372036854775808 ≤ N) (hN1 : N ≤ 9223372036854775807) (hD0 : -9223372036854775808 ≤ D) (hD1 : D ≤ 9223372036854775807) (hT : ItArg w V l) (hl : l.length ≤ 140737488351232) (hd : ∀ j (h : j < l.length), l[j].d.size ≤ 140737488351232) :
    Calls Try.prog 39 #[.agg (manA N D z), V] w fun e w' => ∃ V', e = .returned (.tuple #[V', .int .i64 (menE N D l)]) ∧ EvRow w' w.heap.size V' (meL N D z l) ∧ Below w.heap.size w w' := by
  have CE := Lib.hid (fun W (hb : Below w.heap.size w W) => expectG_any N D z l V W hN0 hN1 hD0 hD1 (hT.keep hb) hl hd)
  obtain ⟨W, b, eW, eb, c0, c1, c2, lb, B0⟩ := man_at w N D z
  have HB0 := Lib.hid B0
  obtain ⟨A, c, rfl, hA⟩ := hT
  clear hA B0
  go_enter Try.func39, Try.ntmps39
  go_wp2_with (first
    | (rw [← eW, ← eb]; clear eW eb; go_at_call 80; go_must (refine (CE.out _ HB0.out).mono ?_; rintro e1 w1 ⟨V1, rfl, r1, b1⟩; obtain ⟨VA, VN, VC, rfl, hVN⟩ := r1.form; clear hVN)))
  go_returns
  exact ⟨_, rfl, r1.mono HB0.out.size, HB0.out.trans (b1.mono HB0.out.size)⟩

end Go.Proofs.Ytmbeaagpjpphhaa

namespace Go.Proofs.Ytmbeaagpjpphhaa
open Go
open Sw (Rn lg gd nil_or_snoc pt pt_nil pt_snoc lg_append)
set_option linter.unusedVariables false

/-- The characters that the specification sends. -/
def scL (x u : Int) (d : List UInt8) : List UInt8 := 49 :: (if u = 5 then d.take x.toNat else d)
theorem bp_congr (N D : Int) {L L' : List UInt8} (n : Nat) (h : ∀ i, i < n → L.getD i 0 = L'.getD i 0) : bpL N D L n = bpL N D L' n := by
  induction n with
  | zero => rfl
  | succ n ih => rw [bpL, bpL, ih fun i hi => h i (by omega), h n (by omega)]
theorem puF_one (R P : List Rn) (v t : Int) : puF R (P ++ [(v, t)]) = pu (puF R P) v t := by rw [puF_append]; rfl
theorem puF_two (R P : List Rn) (v t v' t' : Int) : puF R (P ++ [(v, t), (v', t')]) = pu (pu (puF R P) v t) v' t' := by rw [puF_append]; rfl
/-- A transmission with a break, as the specification sends it. -/
theorem tx_break {N D : Int} (h : Bt N D) (R : List Rn) (x : Int) (d : List UInt8) :
    puF R (bpL N D (txL x 5 d) (txL x 5 d).length) = pu (puF R (bpL N D (scL x 5 d) (scL x 5 d).length)) 1 (bdI N D (((scL x 5 d).length : Int) + 1) - bdI N D (scL x 5 d).length) := by
  have e1 : txL x 5 d = scL x 5 d ++ [120] := by unfold txL scL; rw [if_pos rfl, if_pos rfl]; rfl
  have hl : (txL x 5 d).length = (scL x 5 d).length + 1 := by rw [e1]; simp
  obtain ⟨_, _, w1, w2⟩ := hp_ok h ((scL x 5 d).length : Nat) 120
  rw [hl, bpL, bp_congr N D (L' := scL x 5 d) (scL x 5 d).length (by
    intro i hi
    rw [e1, List.getD, List.getD, List.getElem?_append_left hi])]
  have hc : (txL x 5 d).getD (scL x 5 d).length 0 = 120 := by
    rw [e1, List.getD, List.getElem?_append_right (Nat.le_refl _), Nat.sub_self]; rfl
  have hv : hvI 120 = (1, 1) := by decide
  rw [hc, hpL, hv, puF_two, pu_two _ _ (by omega) (by omega)]
  congr 1
  omega
theorem tx_plain (x u : Int) (d : List UInt8) (hu : u ≠ 5) : txL x u d = scL x u d := by unfold txL scL; rw [if_neg hu, if_neg hu]
/-- Twice as many quarters. -/
theorem sc_two (n N D : Int) (h : 1 ≤ D) : sc (2 * n) N (2 * D) = bdI N D n := by
  show 2 * n * N / (2 * D) = n * N / D
  rw [Int.mul_assoc, Int.mul_ediv_mul_of_pos _ _ (by omega)]
theorem sc_odd (n N D : Int) : sc (2 * n + 1) N (2 * D) = smI N D n := rfl
theorem bd_nn {N D : Int} (h : Bt N D) (k : Int) (hk : 0 ≤ k) : 0 ≤ bdI N D k := sc_nn h.d1 hk (by have := h.n1; have := h.d1; omega)
theorem bd_top {N D : Int} (h : Bt N D) (k : Nat) : bdI N D (k : Int) ≤ 1048577 * (k : Int) := by
  induction k with
  | zero => have := bd_zero N D; simp only [Int.natCast_zero] at *; omega
  | succ k ih => have := (bd_next h (k : Int)).2; rw [show ((k + 1 : Nat) : Int) = (k : Int) + 1 by omega]; omega

end Go.Proofs.Ytmbeaagpjpphhaa

namespace Go.Proofs.Ytmbeaagpjpphhaa
open Go
open Sw (Rn)
set_option linter.unusedVariables false

/-- Whether an event is a level. -/
def ilP (k v : Int) : Bool := k == 1 && (v == 0 || v == 1)
/-- An event of the other convention. -/
def ilE (e : Ev) : Ev := if ilP e.k e.v then { e with v := 1 - e.v } else e
theorem ilP_iff (k v : Int) : ilP k v = true ↔ k = 1 ∧ (v = 0 ∨ v = 1) := by unfold ilP; simp
theorem ilE_d (e : Ev) : (ilE e).d = e.d := by unfold ilE; split <;> rfl
theorem ilE_t (e : Ev) : (ilE e).t = e.t ∧ (ilE e).f = e.f := by unfold ilE; split <;> exact ⟨rfl, rfl⟩
theorem acN_il (s : MN) (e : Ev) : AcN s (ilE e) ↔ AcN s e := by
  unfold ilE
  split
  · rename_i h
    obtain ⟨h1, h2⟩ := (ilP_iff _ _).1 h
    constructor
    · rintro ⟨⟨a1, a2, a3, a4, a5, a6, a7, a8, a9, b1, b2, b3⟩, c1, c2, c3, c4, c5⟩
      exact ⟨⟨a1, a2, a3, a4, by omega, a6, by omega, by omega, by omega, by omega, by omega, by omega⟩, c1, c2, c3, h2, c5⟩
    · rintro ⟨⟨a1, a2, a3, a4, a5, a6, a7, a8, a9, b1, b2, b3⟩, c1, c2, c3, c4, c5⟩
      exact ⟨⟨a1, a2, a3, a4, by dsimp only; omega, a6, by dsimp only; omega, by dsimp only; omega, by dsimp only; omega, by dsimp only; omega, by dsimp only; omega, by dsimp only; omega⟩, c1, c2, c3, by dsimp only; omega, c5⟩
  · exact Iff.rfl
theorem mnS_il (z : Bool) (N D : Int) (s : MN) (e : Ev) : mnS (!z) N D s (ilE e) = mnS z N D s e := by
  unfold mnS
  by_cases h : AcN s e
  · rw [if_pos h, if_pos ((acN_il s e).2 h)]
    obtain ⟨t1, t2⟩ := ilE_t e
    have hs : sgI (!z) (ilE e).v = sgI z e.v := by
      have hp : ilP e.k e.v = true := (ilP_iff _ _).2 ⟨h.2.1, h.2.2.2.2.1⟩
      unfold ilE
      rw [if_pos hp]
      exact sg_not z e.v
    rw [t1, t2, hs]
  · rw [if_neg h, if_neg (fun x => h ((acN_il s e).1 x))]
theorem mnR_il (z : Bool) (N D : Int) (l : List Ev) : mnR (!z) N D (l.map ilE) = mnR z N D l := by
  unfold mnR
  generalize MN.zero = s
  induction l generalizing s with
  | nil => rfl
  | cons e l ih => rw [List.map_cons, List.foldl_cons, List.foldl_cons, mnS_il]; exact ih _
theorem menR_il (N D : Int) (z : Bool) (l : List It) : menR N D (!z) l = Sw.iv (menR N D z l) := by
  unfold menR
  split
  · cases z
    · simp [Sw.iv_iv]
    · simp
  · rfl

end Go.Proofs.Ytmbeaagpjpphhaa

namespace Go.Proofs.Ytmbeaagpjpphhaa
open Go
set_option linter.unusedVariables false

theorem mnS_two (z : Bool) (N D : Int) (s : MN) (x : Ev) (at' : Int) (h : AcN s x) (h1 : x.f < at') (h2 : at' < x.t) :
    mnS z N D (mnS z N D s ⟨x.k, x.f, at', x.v, x.a, x.d, x.u⟩) ⟨x.k, at', x.t, x.v, x.a, x.d, x.u⟩ = mnS z N D s x := by
  have hA : AcN s ⟨x.k, x.f, at', x.v, x.a, x.d, x.u⟩ := by
    obtain ⟨⟨a1, a2, a3, a4, a5, a6, a7, a8, a9, b1, b2, b3⟩, c1, c2, c3, c4, c5⟩ := h
    exact ⟨⟨a1, a2, a3, by dsimp only; omega, by dsimp only; omega, a6, by dsimp only; omega, by dsimp only; omega, by dsimp only; omega, by dsimp only; omega, by dsimp only; omega, by dsimp only; omega⟩, c1, c2, by dsimp only; omega, c4, c5⟩
  have hB : ∀ y m p o, AcN ⟨y, at', m, p, o⟩ ⟨x.k, at', x.t, x.v, x.a, x.d, x.u⟩ := by
    intro y m p o
    obtain ⟨⟨a1, a2, a3, a4, a5, a6, a7, a8, a9, b1, b2, b3⟩, c1, c2, c3, c4, c5⟩ := h
    exact ⟨⟨a1, a2, by dsimp only; omega, by dsimp only; omega, by dsimp only; omega, a6, by dsimp only; omega, by dsimp only; omega, by dsimp only; omega, by dsimp only; omega, by dsimp only; omega, by dsimp only; omega⟩, c1, c2, by dsimp only; omega, c4, .inr rfl⟩
  have e1 : mnS z N D s ⟨x.k, x.f, at', x.v, x.a, x.d, x.u⟩ = if sgI z x.v = s.p then ⟨s.y, at', s.m, s.p, s.o⟩ else ⟨(edG s.y N D s.y s.m x.f (sgI z x.v)).1, at', (edG s.y N D s.y s.m x.f (sgI z x.v)).2.1, sgI z x.v, s.o ++ (edG s.y N D s.y s.m x.f (sgI z x.v)).2.2⟩ := by
    show (if AcN s ⟨x.k, x.f, at', x.v, x.a, x.d, x.u⟩ then _ else _) = _
    rw [if_pos hA]
  have e2 : mnS z N D s x = if sgI z x.v = s.p then ⟨s.y, x.t, s.m, s.p, s.o⟩ else ⟨(edG s.y N D s.y s.m x.f (sgI z x.v)).1, x.t, (edG s.y N D s.y s.m x.f (sgI z x.v)).2.1, sgI z x.v, s.o ++ (edG s.y N D s.y s.m x.f (sgI z x.v)).2.2⟩ := by
    unfold mnS; rw [if_pos h]
  have e3 : ∀ y m p o, sgI z x.v = p → mnS z N D ⟨y, at', m, p, o⟩ ⟨x.k, at', x.t, x.v, x.a, x.d, x.u⟩ = ⟨y, x.t, m, p, o⟩ := by
    intro y m p o hp
    show (if AcN ⟨y, at', m, p, o⟩ ⟨x.k, at', x.t, x.v, x.a, x.d, x.u⟩ then _ else _) = _
    rw [if_pos (hB y m p o)]
    exact if_pos hp
  rw [e1, e2]
  split
  · rename_i hp; exact e3 _ _ _ _ hp
  · exact e3 _ _ _ _ rfl
/-- A level of a chain: what the statement asks of each. -/
def chE (e : Ev) : Prop := ∀ s : MN, s.e = 0 ∨ e.f = s.e → AcN s e
theorem mnS_e (z : Bool) (N D : Int) (s : MN) (e : Ev) (h : AcN s e) : (mnS z N D s e).e = e.t := by
  unfold mnS; rw [if_pos h]; split <;> rfl
/-- Levels one after the other: each is taken. -/
theorem chain_e (z : Bool) (N D : Int) (l : List Ev) (hc : ∀ j (h : j < l.length), chE l[j]) (hn : ∀ j (h : j + 1 < l.length), l[j + 1].f = l[j].t) : ∀ n (hn : n < l.length), (mnR z N D (l.take n)).e = 0 ∨ l[n].f = (mnR z N D (l.take n)).e := by
  intro n
  induction n with
  | zero => intro _; left; simp [mnR]
  | succ n ih =>
    intro h
    right
    have hA := hc n (by omega) _ (ih (by omega))
    unfold mnR
    rw [List.take_succ_eq_append_getElem (by omega), List.foldl_append]
    have := mnS_e z N D _ _ hA
    unfold mnR at this
    simp only [List.foldl_cons, List.foldl_nil]
    rw [this]
    exact hn n h
theorem pieces_il (z : Bool) (N D : Int) (l : List Ev) (n : Nat) (at' : Int) (h : n < l.length) (hc : ∀ j (h : j < l.length), chE l[j]) (hn : ∀ j (h : j + 1 < l.length), l[j + 1].f = l[j].t) (h1 : l[n].f < at') (h2 : at' < l[n].t) :
    mnR z N D (l.take n ++ [⟨l[n].k, l[n].f, at', l[n].v, l[n].a, l[n].d, l[n].u⟩, ⟨l[n].k, at', l[n].t, l[n].v, l[n].a, l[n].d, l[n].u⟩] ++ l.drop (n + 1)) = mnR z N D l := by
  have hA := hc n h _ (chain_e z N D l hc hn n h)
  have e : l = l.take n ++ l[n] :: l.drop (n + 1) := by rw [← List.drop_eq_getElem_cons h, List.take_append_drop]
  have two := mnS_two z N D _ _ at' hA h1 h2
  unfold mnR at two ⊢
  rw [List.foldl_append, List.foldl_append]
  simp only [List.foldl_cons, List.foldl_nil]
  rw [two]
  conv => rhs; rw [e, List.foldl_append, List.foldl_cons]

end Go.Proofs.Ytmbeaagpjpphhaa

namespace Go.Proofs.Ytmbeaagpjpphhaa
open Go Go.RowKit Go.Joins
set_option linter.unusedVariables false
set_option linter.unusedSimpArgs false

/-- What chain asks of each event. -/
def chP (e : Ev) : Prop := AcL 0 0 e.k e.f e.t e.v e.a e.d.length e.u
instance (e : Ev) : Decidable (chP e) := by unfold chP; exact inferInstance
theorem chP_e {e : Ev} (h : chP e) : chE e := by
  intro s hs
  obtain ⟨a1, a2, a3, a4, a5, _⟩ := h
  exact ⟨a1, a2, a3, a4, a5, hs⟩
def ChG (l : List Ev) : Prop := (∀ j (h : j < l.length), chP l[j]) ∧ ∀ n (h : n + 1 < l.length), l[n + 1].f = l[n].t
theorem chP_iff (k f t v a : Int) (d : List UInt8) (u : Int) : chP ⟨k, f, t, v, a, d, u⟩ ↔ VeP k f t v a d.length u ∧ k = 1 ∧ u = 0 ∧ ¬ t ≤ f ∧ ¬ v < 0 ∧ ¬ 1 < v := by
  unfold chP AcL
  constructor
  · rintro ⟨a1, a2, a3, a4, a5, _⟩
    have := a1.2.2.2.1
    simp only at *
    exact ⟨a1, a2, a3, by omega, by omega, by omega⟩
  · rintro ⟨a1, a2, a3, a4, a5, a6⟩
    simp only at *
    exact ⟨a1, a2, a3, by omega, by omega, by simp⟩

set_option maxRecDepth 20000 in
set_option maxHeartbeats 8000000 in
theorem chain_any (l : List Ev) (V : Value) (w : World) (hT : EvArg w V l) (hl : l.length ≤ 140737488351232) (hd : ∀ j (h : j < l.length), l[j].d.length ≤ 140737488351232) (q : Bool) (hq1 : ChG l → q = true) (hq0 : ¬ ChG l → q = false) :
    Calls Try.prog 51 #[V] w fun e w' => e = .returned (.bool q) ∧ Below w.heap.size w w' := by
  have HT : Hid ((∀ j (h : j < l.length), chP l[j]) → (∀ n (h : n + 1 < l.length), l[n + 1].f = l[n].t) → q = true) := Lib.hid fun h1 h2 => hq1 ⟨h1, h2⟩
  have HF1 : Hid (∀ j (h : j < l.length), ¬ chP l[j] → q = false) := Lib.hid fun j h h1 => hq0 fun h2 => h1 (h2.1 j h)
  have HF2 : Hid (∀ n (h : n + 1 < l.length), l[n + 1].f ≠ l[n].t → q = false) := Lib.hid fun j h h1 => hq0 fun h2 => h1 (h2.2 j h)
  clear hq1 hq0
  obtain ⟨A, c, rfl, hA⟩ := hT
  have HA := Lib.hid hA; have HD := Lib.hid hd
  have hl' : (l.length : Int) ≤ 140737488351232 := by omega
  clear hA hd
  go_enter Try.func51, Try.ntmps51
  go_wp2
  go_loopw [3] (fun i wr => ∃ (j : Nat), j ≤ l.length ∧ i = .int .i64 j ∧ Hid (∀ i (h : i < l.length), i < j → chP l[i]) ∧ Hid (∀ n (h : n + 1 < l.length), n + 1 < j → l[n + 1].f = l[n].t) ∧ Hid (Below w.heap.size w wr)) (fun i _ => l.length - (intOf i).toNat)
  case atStart => exact ⟨0, Nat.zero_le _, rfl, Lib.hid (fun i h h0 => by omega), Lib.hid (fun i h h0 => by omega), Lib.hid (Below.refl _ _)⟩
  case round =>
    obtain ⟨j, hj, rfl, HG, HN, HB⟩ := hrel
    have hb := HB.out
    by_cases hjl : j < l.length
    · obtain ⟨g, o, rfl, hg, hc⟩ := HA.out (by omega)
      obtain ⟨a0, a1, a2, a3, a4, a5, a6⟩ := arg_seven hc j hjl
      have f0 := (hb.cell (p := ⟨g, o + j * 7, none⟩) hg).trans a0
      have f1 := (hb.cell (p := ⟨g, o + j * 7 + 1, none⟩) hg).trans a1
      have f2 := (hb.cell (p := ⟨g, o + j * 7 + 2, none⟩) hg).trans a2
      have f3 := (hb.cell (p := ⟨g, o + j * 7 + 3, none⟩) hg).trans a3
      have f4 := (hb.cell (p := ⟨g, o + j * 7 + 4, none⟩) hg).trans a4
      have f5 := (hb.cell (p := ⟨g, o + j * 7 + 5, none⟩) hg).trans a5
      have f6 := (hb.cell (p := ⟨g, o + j * 7 + 6, none⟩) hg).trans a6
      have HI := Lib.hid (chP_iff l[j].k l[j].f l[j].t l[j].v l[j].a l[j].d l[j].u)
      have HF1j := Lib.hid (HF1.out j hjl)
      have hsz : (⟨l[j].d.toArray⟩ : ByteArray).size ≤ 140737488351232 := by simpa [ByteArray.size] using HD.out j hjl
      have hz : (⟨l[j].d.toArray⟩ : ByteArray).size = l[j].d.length := by simp [ByteArray.size]
      have HV := Lib.hid (fun W => refValid_xy l[j].k l[j].f l[j].t l[j].v l[j].a ⟨l[j].d.toArray⟩ l[j].u W hsz)
      rw [hz] at HV
      have HFJ : Hid (∀ n (h : n + 1 = j), l[j].f ≠ (l[n]'(by omega)).t → q = false) := Lib.hid (by
        intro n h h1; subst h; exact HF2.out n hjl h1)
      have HNJ : Hid ((∀ n (h : n + 1 = j), l[j].f = (l[n]'(by omega)).t) → ∀ n (h : n + 1 < l.length), n + 1 < j + 1 → l[n + 1].f = l[n].t) := Lib.hid (by
        intro h1 n h h2
        by_cases hn : n + 1 = j
        · subst hn; exact h1 n rfl
        · exact HN.out n h (by omega))
      have HGJ : Hid (chP l[j] → ∀ i (h : i < l.length), i < j + 1 → chP l[i]) := Lib.hid (by
        intro h1 i h h2
        by_cases hn : i = j
        · subst hn; exact h1
        · exact HG.out i h (by omega))
      have HCP : Hid (chP l[j] ↔ chP ⟨l[j].k, l[j].f, l[j].t, l[j].v, l[j].a, l[j].d, l[j].u⟩) := Lib.hid Iff.rfl
      clear a0 a1 a2 a3 a4 a5 a6 hsz hz
      have hP : VeP l[j].k l[j].f l[j].t l[j].v l[j].a l[j].d.length l[j].u ∨ ¬ VeP l[j].k l[j].f l[j].t l[j].v l[j].a l[j].d.length l[j].u := Classical.em _
      generalize l[j].d.length = xn at *
      generalize (⟨l[j].d.toArray⟩ : ByteArray) = x5 at *
      generalize l[j].k = x0 at *
      generalize l[j].f = x1 at *
      generalize l[j].t = x2 at *
      generalize l[j].v = x3 at *
      generalize l[j].a = x4 at *
      generalize l[j].u = x6 at *
      rcases hP with hP | hP
      rotate_left
      · have hv : decide (VeP x0 x1 x2 x3 x4 xn x6) = false := decide_eq_false hP
        rw [hv] at HV
        obtain rfl : q = false := HF1j.out (fun h => hP (HI.out.1 (HCP.out.1 h)).1)
        clear hv HI HCP HF1j HF1 HF2 HT HGJ HG HN HNJ HFJ hP
        go_wp2_with (go_at_call 88; go_must (refine (HV.out _).mono ?_; rintro e1 w1 ⟨rfl, rfl⟩))
        go_returns
        exact ⟨rfl, by (repeat' (first | with_reducible exact Below.refl _ _ | with_reducible exact Nat.le_refl _ | with_reducible assumption | with_reducible refine below_drewN ?_ _ | with_reducible refine Below.drew ?_ | with_reducible refine Below.trans ?_ (Below.mono (by assumption) ?_) | with_reducible refine Below.alloc ?_ ?_ _ | with_reducible refine Below.setCell ?_ ?_ _ | with_reducible refine le_setCell ?_ _ _ | with_reducible refine le_alloc ?_ _ | with_reducible refine le_drewN ?_ _ | with_reducible refine le_drew ?_ | with_reducible refine Nat.le_trans ?_ (Below.size (by assumption)) | (simp only [World.size_alloc, World.size_setCell]; omega) | omega))⟩
      have hv : decide (VeP x0 x1 x2 x3 x4 xn x6) = true := decide_eq_true hP
      rw [hv] at HV
      clear hv
      by_cases h1 : x0 = 1
      rotate_left
      · have d : (x0 != 1) = true := by simpa using h1
        obtain rfl : q = false := HF1j.out (fun h => h1 (HI.out.1 (HCP.out.1 h)).2.1)
        clear HI HCP HF1j HF1 HF2 HT HGJ HG HN HNJ HFJ hP
        go_wp2_with (go_at_call 88; go_must (refine (HV.out _).mono ?_; rintro e1 w1 ⟨rfl, rfl⟩))
        go_returns
        exact ⟨rfl, by (repeat' (first | with_reducible exact Below.refl _ _ | with_reducible exact Nat.le_refl _ | with_reducible assumption | with_reducible refine below_drewN ?_ _ | with_reducible refine Below.drew ?_ | with_reducible refine Below.trans ?_ (Below.mono (by assumption) ?_) | with_reducible refine Below.alloc ?_ ?_ _ | with_reducible refine Below.setCell ?_ ?_ _ | with_reducible refine le_setCell ?_ _ _ | with_reducible refine le_alloc ?_ _ | with_reducible refine le_drewN ?_ _ | with_reducible refine le_drew ?_ | with_reducible refine Nat.le_trans ?_ (Below.size (by assumption)) | (simp only [World.size_alloc, World.size_setCell]; omega) | omega))⟩
      by_cases h2 : x6 = 0
      rotate_left
      · have d : (x6 != 0) = true := by simpa using h2
        obtain rfl : q = false := HF1j.out (fun h => h2 (HI.out.1 (HCP.out.1 h)).2.2.1)
        clear HI HCP HF1j HF1 HF2 HT HGJ HG HN HNJ HFJ hP
        subst h1
        go_wp2_with (go_at_call 88; go_must (refine (HV.out _).mono ?_; rintro e1 w1 ⟨rfl, rfl⟩))
        go_returns
        exact ⟨rfl, by (repeat' (first | with_reducible exact Below.refl _ _ | with_reducible exact Nat.le_refl _ | with_reducible assumption | with_reducible refine below_drewN ?_ _ | with_reducible refine Below.drew ?_ | with_reducible refine Below.trans ?_ (Below.mono (by assumption) ?_) | with_reducible refine Below.alloc ?_ ?_ _ | with_reducible refine Below.setCell ?_ ?_ _ | with_reducible refine le_setCell ?_ _ _ | with_reducible refine le_alloc ?_ _ | with_reducible refine le_drewN ?_ _ | with_reducible refine le_drew ?_ | with_reducible refine Nat.le_trans ?_ (Below.size (by assumption)) | (simp only [World.size_alloc, World.size_setCell]; omega) | omega))⟩
      by_cases h3 : ¬ x2 ≤ x1
      rotate_left
      · have d : decide (x2 ≤ x1) = true := decide_eq_true (Classical.not_not.1 h3)
        obtain rfl : q = false := HF1j.out (fun h => h3 (HI.out.1 (HCP.out.1 h)).2.2.2.1)
        clear HI HCP HF1j HF1 HF2 HT HGJ HG HN HNJ HFJ hP
        subst h1
        subst h2
        go_wp2_with (go_at_call 88; go_must (refine (HV.out _).mono ?_; rintro e1 w1 ⟨rfl, rfl⟩))
        go_returns
        exact ⟨rfl, by (repeat' (first | with_reducible exact Below.refl _ _ | with_reducible exact Nat.le_refl _ | with_reducible assumption | with_reducible refine below_drewN ?_ _ | with_reducible refine Below.drew ?_ | with_reducible refine Below.trans ?_ (Below.mono (by assumption) ?_) | with_reducible refine Below.alloc ?_ ?_ _ | with_reducible refine Below.setCell ?_ ?_ _ | with_reducible refine le_setCell ?_ _ _ | with_reducible refine le_alloc ?_ _ | with_reducible refine le_drewN ?_ _ | with_reducible refine le_drew ?_ | with_reducible refine Nat.le_trans ?_ (Below.size (by assumption)) | (simp only [World.size_alloc, World.size_setCell]; omega) | omega))⟩
      by_cases h4 : ¬ x3 < 0
      rotate_left
      · have d : decide (x3 < 0) = true := decide_eq_true (Classical.not_not.1 h4)
        obtain rfl : q = false := HF1j.out (fun h => h4 (HI.out.1 (HCP.out.1 h)).2.2.2.2.1)
        clear HI HCP HF1j HF1 HF2 HT HGJ HG HN HNJ HFJ hP
        subst h1
        subst h2
        have d3 : decide (x2 ≤ x1) = false := decide_eq_false h3
        go_wp2_with (go_at_call 88; go_must (refine (HV.out _).mono ?_; rintro e1 w1 ⟨rfl, rfl⟩))
        go_returns
        exact ⟨rfl, by (repeat' (first | with_reducible exact Below.refl _ _ | with_reducible exact Nat.le_refl _ | with_reducible assumption | with_reducible refine below_drewN ?_ _ | with_reducible refine Below.drew ?_ | with_reducible refine Below.trans ?_ (Below.mono (by assumption) ?_) | with_reducible refine Below.alloc ?_ ?_ _ | with_reducible refine Below.setCell ?_ ?_ _ | with_reducible refine le_setCell ?_ _ _ | with_reducible refine le_alloc ?_ _ | with_reducible refine le_drewN ?_ _ | with_reducible refine le_drew ?_ | with_reducible refine Nat.le_trans ?_ (Below.size (by assumption)) | (simp only [World.size_alloc, World.size_setCell]; omega) | omega))⟩
      by_cases h5 : ¬ 1 < x3
      rotate_left
      · have d : decide (1 < x3) = true := decide_eq_true (Classical.not_not.1 h5)
        obtain rfl : q = false := HF1j.out (fun h => h5 (HI.out.1 (HCP.out.1 h)).2.2.2.2.2)
        clear HI HCP HF1j HF1 HF2 HT HGJ HG HN HNJ HFJ hP
        subst h1
        subst h2
        have d3 : decide (x2 ≤ x1) = false := decide_eq_false h3
        have d4 : decide (x3 < 0) = false := decide_eq_false h4
        go_wp2_with (go_at_call 88; go_must (refine (HV.out _).mono ?_; rintro e1 w1 ⟨rfl, rfl⟩))
        go_returns
        exact ⟨rfl, by (repeat' (first | with_reducible exact Below.refl _ _ | with_reducible exact Nat.le_refl _ | with_reducible assumption | with_reducible refine below_drewN ?_ _ | with_reducible refine Below.drew ?_ | with_reducible refine Below.trans ?_ (Below.mono (by assumption) ?_) | with_reducible refine Below.alloc ?_ ?_ _ | with_reducible refine Below.setCell ?_ ?_ _ | with_reducible refine le_setCell ?_ _ _ | with_reducible refine le_alloc ?_ _ | with_reducible refine le_drewN ?_ _ | with_reducible refine le_drew ?_ | with_reducible refine Nat.le_trans ?_ (Below.size (by assumption)) | (simp only [World.size_alloc, World.size_setCell]; omega) | omega))⟩
      have HGj := Lib.hid (HGJ.out (HCP.out.2 (HI.out.2 ⟨hP, h1, h2, h3, h4, h5⟩)))
      subst h1 h2
      have d3 : decide (x2 ≤ x1) = false := decide_eq_false h3
      have d4 : decide (x3 < 0) = false := decide_eq_false h4
      have d5 : decide (1 < x3) = false := decide_eq_false h5
      clear h3 h4 h5 hP HI HCP HF1j HF1 HF2 HT HGJ HG HN
      by_cases hz : 0 < j
      rotate_left
      · have HNj := Lib.hid (HNJ.out (fun n h => by omega))
        have e0 : decide ((0 : Int) < (j : Int)) = false := decide_eq_false (by omega)
        have e1 : decide (0 < j) = false := decide_eq_false hz
        clear HNJ HFJ
        go_wp2_with (go_at_call 88; go_must (refine (HV.out _).mono ?_; rintro e1 w1 ⟨rfl, rfl⟩))
        try (go_region; go_wp2)
        go_roundw
        case rel => exact ⟨j + 1, by omega, val_int (by omega), HGj, HNj, Lib.hid (by (repeat' (first | with_reducible exact Below.refl _ _ | with_reducible exact Nat.le_refl _ | with_reducible assumption | with_reducible refine below_drewN ?_ _ | with_reducible refine Below.drew ?_ | with_reducible refine Below.trans ?_ (Below.mono (by assumption) ?_) | with_reducible refine Below.alloc ?_ ?_ _ | with_reducible refine Below.setCell ?_ ?_ _ | with_reducible refine le_setCell ?_ _ _ | with_reducible refine le_alloc ?_ _ | with_reducible refine le_drewN ?_ _ | with_reducible refine le_drew ?_ | with_reducible refine Nat.le_trans ?_ (Below.size (by assumption)) | (simp only [World.size_alloc, World.size_setCell]; omega) | omega)))⟩
        case measure => simp [intOf]; omega
      obtain ⟨n, rfl⟩ : ∃ n, j = n + 1 := ⟨j - 1, by omega⟩
      · obtain ⟨b0, b1, b2, b3, b4, b5, b6⟩ := arg_seven hc n (by omega)
        have g2 := (hb.cell (p := ⟨g, o + n * 7 + 2, none⟩) hg).trans b2
        have HFJ' := Lib.hid (HFJ.out n rfl)
        have HNJ' : Hid (x1 = (l[n]'(by omega)).t → ∀ n_1 (h : n_1 + 1 < l.length), n_1 + 1 < n + 1 + 1 → l[n_1 + 1].f = l[n_1].t) := Lib.hid (fun h => HNJ.out (fun m hm => by obtain rfl : m = n := (by omega); exact h))
        clear HFJ HNJ b0 b1 b2 b3 b4 b5 b6
        generalize l[n].t = y2 at *
        have q1 : IntKind.i64.wrap (((n + 1 : Nat) : Int) - 1) = (n : Int) := by rw [IntWalk.i64_in _ (by omega)]; omega
        have q2 : (0 : Int) < ((n + 1 : Nat) : Int) := by omega
        have q3 : (0 : Int) ≤ (n : Int) := by omega
        have q4 : (n : Int) < l.length := by omega
        have q5 : decide ((0 : Int) < ((n + 1 : Nat) : Int)) = true := decide_eq_true q2
        have mg : g < wr.heap.size := Nat.lt_of_lt_of_le hg hb.size
        by_cases hy : x1 = y2
        · have HNj := Lib.hid (HNJ'.out hy)
          subst hy
          clear HNJ' HFJ'
          have hyy : (x1 != x1) = false := by simp
          go_wp2_with (go_at_call 88; go_must (refine (HV.out _).mono ?_; rintro e1 w1 ⟨rfl, rfl⟩))
          go_region
          go_wp2
          go_roundw
          case rel => exact ⟨n + 1 + 1, by omega, val_int (by omega), HGj, HNj, Lib.hid (by (repeat' (first | with_reducible exact Below.refl _ _ | with_reducible exact Nat.le_refl _ | with_reducible assumption | with_reducible refine below_drewN ?_ _ | with_reducible refine Below.drew ?_ | with_reducible refine Below.trans ?_ (Below.mono (by assumption) ?_) | with_reducible refine Below.alloc ?_ ?_ _ | with_reducible refine Below.setCell ?_ ?_ _ | with_reducible refine le_setCell ?_ _ _ | with_reducible refine le_alloc ?_ _ | with_reducible refine le_drewN ?_ _ | with_reducible refine le_drew ?_ | with_reducible refine Nat.le_trans ?_ (Below.size (by assumption)) | (simp only [World.size_alloc, World.size_setCell]; omega) | omega)))⟩
          case measure => simp [intOf]; omega
        · have hyy : (x1 != y2) = true := by simpa using hy
          obtain rfl : q = false := HFJ'.out hy
          clear HNJ' HFJ'
          go_wp2_with (go_at_call 88; go_must (refine (HV.out _).mono ?_; rintro e1 w1 ⟨rfl, rfl⟩))
          go_region
          go_wp2
          go_returns
          exact ⟨rfl, by (repeat' (first | with_reducible exact Below.refl _ _ | with_reducible exact Nat.le_refl _ | with_reducible assumption | with_reducible refine below_drewN ?_ _ | with_reducible refine Below.drew ?_ | with_reducible refine Below.trans ?_ (Below.mono (by assumption) ?_) | with_reducible refine Below.alloc ?_ ?_ _ | with_reducible refine Below.setCell ?_ ?_ _ | with_reducible refine le_setCell ?_ _ _ | with_reducible refine le_alloc ?_ _ | with_reducible refine le_drewN ?_ _ | with_reducible refine le_drew ?_ | with_reducible refine Nat.le_trans ?_ (Below.size (by assumption)) | (simp only [World.size_alloc, World.size_setCell]; omega) | omega))⟩
    · obtain rfl : q = true := HT.out (fun i h => HG.out i h (by omega)) (fun n h => HN.out n h (by omega))
      clear HT HF1 HF2 HG HN HD HA
      go_wp2
      go_returns
      exact ⟨rfl, hb⟩

end Go.Proofs.Ytmbeaagpjpphhaa

namespace Go.Proofs.Ytmbeaagpjpphhaa
open Go
open Sw (Rn lg gd nil_or_snoc pt pt_nil pt_snoc lg_append)
set_option linter.unusedVariables false

/-- A decoder's state at a tick. -/
structure CR where
  y : Int
  m : Int
  p : Int
  t : Int
  o : List Ev
/-- A part of the signal. -/
def fS (N D : Int) (c : CR) (r : Rn) : CR :=
  if r.2 ≤ 0 then c else if r.1 = c.p then ⟨c.y, c.m, c.p, c.t + r.2, c.o⟩ else ⟨(edG c.y N D c.y c.m c.t r.1).1, (edG c.y N D c.y c.m c.t r.1).2.1, r.1, c.t + r.2, c.o ++ (edG c.y N D c.y c.m c.t r.1).2.2⟩
theorem fS_zero (N D : Int) (c : CR) (v : Int) {t : Int} (h : t ≤ 0) : fS N D c (v, t) = c := by unfold fS; rw [if_pos h]
theorem fS_same (N D : Int) (c : CR) (v : Int) {t : Int} (h : 1 ≤ t) (hv : v = c.p) : fS N D c (v, t) = ⟨c.y, c.m, c.p, c.t + t, c.o⟩ := by unfold fS; rw [if_neg (by simp only; omega), if_pos hv]
theorem fS_turn (N D : Int) (c : CR) (v : Int) {t : Int} (h : 1 ≤ t) (hv : v ≠ c.p) : fS N D c (v, t) = ⟨(edG c.y N D c.y c.m c.t v).1, (edG c.y N D c.y c.m c.t v).2.1, v, c.t + t, c.o ++ (edG c.y N D c.y c.m c.t v).2.2⟩ := by unfold fS; rw [if_neg (by simp only; omega), if_neg hv]
theorem fS_p (N D : Int) (c : CR) (v : Int) {t : Int} (h : 1 ≤ t) : (fS N D c (v, t)).p = v := by
  by_cases hv : v = c.p
  · rw [fS_same N D c v h hv]; exact hv.symm
  · rw [fS_turn N D c v h hv]
theorem fS_two (N D : Int) (c : CR) (v : Int) {a b : Int} (ha : 1 ≤ a) (hb : 1 ≤ b) : fS N D (fS N D c (v, a)) (v, b) = fS N D c (v, a + b) := by
  rw [fS_same N D (fS N D c (v, a)) v hb (fS_p N D c v ha).symm]
  by_cases hv : v = c.p
  · rw [fS_same N D c v ha hv, fS_same N D c v (by omega) hv]; simp only [Int.add_assoc]
  · rw [fS_turn N D c v ha hv, fS_turn N D c v (by omega) hv]; simp only [Int.add_assoc]
theorem fS_pu (N D : Int) (c : CR) {R : List Rn} (hR : ∀ x ∈ R, 1 ≤ x.2) (v t : Int) : (pu R v t).foldl (fS N D) c = fS N D (R.foldl (fS N D) c) (v, t) := by
  unfold pu
  split
  · rename_i h; rw [fS_zero N D _ v h]
  · rename_i h
    rcases nil_or_snoc R with rfl | ⟨q, y, rfl⟩
    · rw [pt_nil]; rfl
    · rw [pt_snoc]
      have hy := hR y (by simp)
      by_cases hv : y.1 = v
      · rw [if_pos hv, List.foldl_append, List.foldl_append]
        simp only [List.foldl_cons, List.foldl_nil]
        rw [show y = (y.1, y.2) from rfl, hv]
        exact (fS_two N D _ v hy (by omega)).symm
      · rw [if_neg hv, List.foldl_append]; rfl
theorem pu_pos {R : List Rn} (hR : ∀ x ∈ R, 1 ≤ x.2) (v t : Int) : ∀ x ∈ pu R v t, 1 ≤ x.2 := by
  unfold pu
  split
  · exact hR
  · rcases nil_or_snoc R with rfl | ⟨q, y, rfl⟩
    · rw [pt_nil]; intro x hx; simp only [List.mem_singleton] at hx; subst hx; simp only; omega
    · rw [pt_snoc]
      have hy := hR y (by simp)
      split
      · intro x hx
        rcases List.mem_append.1 hx with hx | hx
        · exact hR x (by simp [hx])
        · simp only [List.mem_singleton] at hx; subst hx; simp only; omega
      · intro x hx
        rcases List.mem_append.1 hx with hx | hx
        · exact hR x hx
        · simp only [List.mem_singleton] at hx; subst hx; simp only; omega
theorem fS_puF (N D : Int) (c : CR) (P : List Rn) : ∀ R : List Rn, (∀ x ∈ R, 1 ≤ x.2) → (puF R P).foldl (fS N D) c = (R ++ P).foldl (fS N D) c := by
  induction P with
  | nil => intro R _; simp [puF]
  | cons r P ih =>
    intro R hR
    have e : puF R (r :: P) = puF (pu R r.1 r.2) P := rfl
    rw [e, ih _ (pu_pos hR r.1 r.2), List.foldl_append, fS_pu N D c hR, List.foldl_append]
    rfl

/-- Events of levels, folded. -/
theorem lv_fold (z : Bool) (N D : Int) (R : List Rn) : ∀ (b : Int) (s : MN) (c : CR), gd R → 0 ≤ b → b + lg R ≤ 1099511627776 → (s.e = b ∨ s.e = 0) → s.y = c.y → s.m = c.m → s.p = c.p → s.o = c.o → c.t = b →
    ((lvL b (if z = true then R else Sw.iv R)).foldl (mnS z N D) s).o = (R.foldl (fS N D) c).o := by
  induction R with
  | nil => intro b s c _ _ _ _ _ _ _ ho _; cases z <;> simpa [lvL, Sw.iv] using ho
  | cons r R ih =>
    intro b s c hg hb hl he hy hm hp ho ht
    rw [Sw.gd_cons] at hg
    obtain ⟨⟨h1, h2⟩, hg⟩ := hg
    have hn := Sw.gd_nonneg hg
    simp only [lg] at hl
    have key : ∀ v' : Int, (v' = 0 ∨ v' = 1) → sgI z v' = r.1 → ∀ Q, (lvL (b + r.2) Q).foldl (mnS z N D) (mnS z N D s ⟨1, b, b + r.2, v', 0, [], 0⟩) = (lvL (b + r.2) Q).foldl (mnS z N D) ⟨(fS N D c r).y, b + r.2, (fS N D c r).m, (fS N D c r).p, (fS N D c r).o⟩ := by
      intro v' hv' hs Q
      congr 1
      have hA : AcN s ⟨1, b, b + r.2, v', 0, [], 0⟩ := by
        refine ⟨⟨by dsimp only; omega, by dsimp only; omega, hb, by dsimp only; omega, by dsimp only; omega, by simp, by dsimp only; omega, by dsimp only; omega, by dsimp only; omega, by dsimp only; omega, by dsimp only; omega, by dsimp only; omega⟩, rfl, rfl, by dsimp only; omega, hv', ?_⟩
        rcases he with h | h
        · exact .inr h.symm
        · exact .inl h
      unfold mnS
      rw [if_pos hA]
      simp only [hs]
      unfold fS
      rw [if_neg (show ¬ r.2 ≤ 0 by omega), ← hp, ← hy, ← hm, ← ho, ht]
      by_cases hq : r.1 = s.p
      · simp only [if_pos hq]
      · simp only [if_neg hq]
    have ht' : (fS N D c r).t = b + r.2 := by
      unfold fS; rw [if_neg (show ¬ r.2 ≤ 0 by omega)]; split <;> simp only [ht]
    cases z with
    | true =>
      simp only [if_true, lvL, List.foldl_cons]
      rw [key r.1 h1 rfl R]
      have := ih (b + r.2) ⟨(fS N D c r).y, b + r.2, (fS N D c r).m, (fS N D c r).p, (fS N D c r).o⟩ (fS N D c r) hg (by omega) (by omega) (.inl rfl) rfl rfl rfl rfl ht'
      simpa using this
    | false =>
      have hiv : Sw.iv (r :: R) = (1 - r.1, r.2) :: Sw.iv R := rfl
      simp only [Bool.false_eq_true, if_false, hiv, lvL, List.foldl_cons]
      rw [key (1 - r.1) (by omega) (by show (if false = true then _ else 1 - (1 - r.1)) = r.1; simp; omega) (Sw.iv R)]
      have := ih (b + r.2) ⟨(fS N D c r).y, b + r.2, (fS N D c r).m, (fS N D c r).p, (fS N D c r).o⟩ (fS N D c r) hg (by omega) (by omega) (.inl rfl) rfl rfl rfl rfl ht'
      simpa using this
abbrev CR.zero : CR := ⟨0, 0, 0, 0, []⟩
/-- What is expected, out of the parts. -/
theorem me_fold {N D : Int} (z : Bool) {l : List It} (he : menE N D l = 0) : meL N D z l = ((epL N D l l.length).foldl (fS N D) CR.zero).o := by
  obtain ⟨hB, hk, hm, hf, hv, _⟩ := menR_ok z he
  obtain ⟨v1, v2, v3⟩ := (Sw.vl_iff _).1 hv
  unfold meL
  rw [if_pos he]
  unfold menR
  rw [if_pos he]
  unfold mnR
  rw [lv_fold z N D (efL N D l) 0 MN.zero CR.zero v2 (Int.le_refl _) (by omega) (.inl rfl) rfl rfl rfl rfl rfl]
  unfold efL
  rw [fS_puF N D CR.zero _ [] (fun x hx => by cases hx)]
  rfl

end Go.Proofs.Ytmbeaagpjpphhaa

namespace Go.Proofs.Ytmbeaagpjpphhaa
open Go
open Sw (Rn lg gd nil_or_snoc pt pt_nil pt_snoc lg_append)
set_option linter.unusedVariables false

theorem mul4 (x y D : Int) : 4 * (x - y) * D = 4 * (x * D) - 4 * (y * D) := by rw [Int.mul_assoc, Int.sub_mul, Int.mul_sub]
/-- The distances of edges from the last middle. -/
theorem dist {N D : Int} (h : Bt N D) (k : Int) :
    4 * (bdI N D k - smI N D (k - 1)) * D < 3 * N ∧ (bdI N D k - smI N D (k - 1)) * D < 2 * N ∧
    3 * N ≤ 4 * (smI N D k - smI N D (k - 1)) * D ∧ 4 * (smI N D k - smI N D (k - 1)) * D ≤ 5 * N ∧ (smI N D k - smI N D (k - 1)) * D < 2 * N ∧
    5 * N < 4 * (bdI N D (k + 1) - smI N D (k - 1)) * D ∧ (bdI N D (k + 1) - smI N D (k - 1)) * D < 2 * N ∧
    smI N D (k - 1) + smI N D 0 < smI N D k := by
  obtain ⟨d1, d2, n1, n2, n3⟩ := h
  have a1 := sc_low k N D d1
  have b1 := sc_low (k + 1) N D d1
  have b2 := sc_high (k + 1) N D d1
  have c1 := sc_low (2 * (k - 1) + 1) N (2 * D) (by omega)
  have c2 := sc_high (2 * (k - 1) + 1) N (2 * D) (by omega)
  have e1 := sc_low (2 * k + 1) N (2 * D) (by omega)
  have e2 := sc_high (2 * k + 1) N (2 * D) (by omega)
  have f1 := sc_low (2 * 0 + 1) N (2 * D) (by omega)
  have x1 : (2 * (k - 1) + 1) * N = 2 * (k * N) - N := by rw [show 2 * (k - 1) + 1 = 2 * k - 1 by omega, Int.sub_mul, Int.mul_assoc]; omega
  have x2 : (2 * k + 1) * N = 2 * (k * N) + N := by rw [Int.add_mul, Int.mul_assoc]; omega
  have x3 : (k + 1) * N = k * N + N := by rw [Int.add_mul]; omega
  have x4 : (2 * 0 + 1) * N = N := by omega
  rw [x1] at c1 c2; rw [x2] at e1 e2; rw [x3] at b1 b2; rw [x4] at f1
  have y : ∀ x : Int, x * (2 * D) = 2 * (x * D) := fun x => Int.mul_left_comm _ _ _
  have y1 : ∀ x : Int, (x + 1) * (2 * D) = 2 * (x * D) + 2 * D := fun x => by rw [y, Int.add_mul]; omega
  have y2 : ∀ x : Int, (x + 1) * D = x * D + D := fun x => by rw [Int.add_mul]; omega
  rw [y] at c1 e1 f1; rw [y1] at c2 e2; rw [y2] at b2
  rw [mul4, mul4, mul4, Int.sub_mul, Int.sub_mul, Int.sub_mul]
  have g1 : bdI N D k = sc k N D := rfl
  have g2 : bdI N D (k + 1) = sc (k + 1) N D := rfl
  have g3 : smI N D k = sc (2 * k + 1) N (2 * D) := rfl
  have g4 : smI N D (k - 1) = sc (2 * (k - 1) + 1) N (2 * D) := rfl
  have g5 : smI N D 0 = sc (2 * 0 + 1) N (2 * D) := rfl
  rw [g1, g2, g3, g4, g5]
  refine ⟨by omega, by omega, by omega, by omega, by omega, by omega, by omega, ?_⟩
  refine Int.lt_of_mul_lt_mul_right (a := D) ?_ (by omega)
  rw [Int.add_mul]; omega

/-- A boundary: no effect. -/
theorem ed_early {N D m t v : Int} (h1 : 4 * (t - m) * D < 3 * N) (h2 : (t - m) * D < 2 * N) : edG 1 N D 1 m t v = (1, m, []) := by
  unfold edG; rw [if_neg (by omega), if_pos h1]
/-- A middle. -/
theorem ed_mid {N D m t v : Int} (h1 : 3 * N ≤ 4 * (t - m) * D) (h2 : 4 * (t - m) * D ≤ 5 * N) (h3 : (t - m) * D < 2 * N) : edG 1 N D 1 m t v = (1, t, [⟨2, m + smI N D 0, t, v, 0, [], 0⟩]) := by
  unfold edG; rw [if_neg (by omega), if_neg (by omega)]
  unfold bnE; rw [if_neg (by omega), if_neg (by omega)]
/-- Too late for a middle. -/
theorem ed_code {N D m t v : Int} (h1 : 5 * N < 4 * (t - m) * D) (h3 : (t - m) * D < 2 * N) (hN : 0 ≤ N) : edG 1 N D 1 m t v = (1, t, [⟨2, m + smI N D 0, t, 0, 0, [], 5⟩]) := by
  unfold edG; rw [if_neg (by omega), if_neg (by omega)]
  unfold bnE; rw [if_pos h1, if_pos h1]

/-- A bit of a transmission. -/
theorem bit_fold {N D : Int} (h : Bt N D) (s k p v : Int) (ch : UInt8) (o : List Ev) (hv : v = 0 ∨ v = 1) (hc : hvI ch = (1 - v, v)) (hp : p = 0 ∨ p = 1) :
    (hpL N D k ch).foldl (fS N D) ⟨1, s + smI N D (k - 1), p, s + bdI N D k, o⟩ = ⟨1, s + smI N D k, v, s + bdI N D (k + 1), o ++ [⟨2, s + smI N D (k - 1) + smI N D 0, s + smI N D k, v, 0, [], 0⟩]⟩ := by
  obtain ⟨_, _, w1, w2⟩ := hp_ok h k ch
  obtain ⟨e1, e2, e3, e4, e5, _, _, _⟩ := dist h k
  have first : fS N D ⟨1, s + smI N D (k - 1), p, s + bdI N D k, o⟩ (1 - v, smI N D k - bdI N D k) = ⟨1, s + smI N D (k - 1), 1 - v, s + smI N D k, o⟩ := by
    by_cases hq : 1 - v = p
    · rw [fS_same N D _ _ w1 hq]; subst hq
      simp only [CR.mk.injEq, true_and, and_true]; omega
    · rw [fS_turn N D _ _ w1 hq]
      simp only
      rw [ed_early (by rw [show s + bdI N D k - (s + smI N D (k - 1)) = bdI N D k - smI N D (k - 1) by omega]; exact e1) (by rw [show s + bdI N D k - (s + smI N D (k - 1)) = bdI N D k - smI N D (k - 1) by omega]; exact e2)]
      simp only [CR.mk.injEq, true_and, List.append_nil, and_true]; omega
  simp only [hpL, hc, List.foldl_cons, List.foldl_nil]
  rw [first, fS_turn N D _ _ w2 (by simp only; omega)]
  simp only
  have hd : s + smI N D k - (s + smI N D (k - 1)) = smI N D k - smI N D (k - 1) := by omega
  rw [ed_mid (by rw [hd]; exact e3) (by rw [hd]; exact e4) (by rw [hd]; exact e5)]
  simp only [CR.mk.injEq, true_and, and_true]; omega
/-- A bit without an edge in its middle. -/
theorem brk_fold {N D : Int} (h : Bt N D) (s k p : Int) (o : List Ev) (hp : p = 0 ∨ p = 1) :
    (hpL N D k 120).foldl (fS N D) ⟨1, s + smI N D (k - 1), p, s + bdI N D k, o⟩ = ⟨1, s + smI N D (k - 1), 1, s + bdI N D (k + 1), o⟩ := by
  obtain ⟨_, _, w1, w2⟩ := hp_ok h k 120
  obtain ⟨e1, e2, _⟩ := dist h k
  have hc : hvI 120 = (1, 1) := by decide
  have first : fS N D ⟨1, s + smI N D (k - 1), p, s + bdI N D k, o⟩ (1, smI N D k - bdI N D k) = ⟨1, s + smI N D (k - 1), 1, s + smI N D k, o⟩ := by
    by_cases hq : 1 = p
    · rw [fS_same N D _ _ w1 hq]; subst hq
      simp only [CR.mk.injEq, true_and, and_true]; omega
    · rw [fS_turn N D _ _ w1 hq]
      simp only
      rw [ed_early (by rw [show s + bdI N D k - (s + smI N D (k - 1)) = bdI N D k - smI N D (k - 1) by omega]; exact e1) (by rw [show s + bdI N D k - (s + smI N D (k - 1)) = bdI N D k - smI N D (k - 1) by omega]; exact e2)]
      simp only [CR.mk.injEq, true_and, List.append_nil, and_true]; omega
  simp only [hpL, hc, List.foldl_cons, List.foldl_nil]
  rw [first, fS_same N D _ _ w2 rfl]
  simp only [CR.mk.injEq, true_and, and_true]; omega
/-- A state at which a transmission may begin. -/
def rdy (N D : Int) (c : CR) : Prop := c.p = 0 ∧ (c.y = 0 ∨ c.m + bdI N D 2 ≤ c.t)
theorem start_fold {N D : Int} (h : Bt N D) (c : CR) (hr : rdy N D c) : (hpL N D 0 49).foldl (fS N D) c = ⟨1, c.t + smI N D 0, 1, c.t + bdI N D 1, c.o⟩ := by
  obtain ⟨_, _, w1, w2⟩ := hp_ok h 0 49
  have hc : hvI 49 = (0, 1) := by decide
  have b0 := bd_zero N D
  have first : fS N D c (0, smI N D 0 - bdI N D 0) = ⟨c.y, c.m, 0, c.t + smI N D 0, c.o⟩ := by
    rw [fS_same N D _ _ w1 hr.1.symm, hr.1]
    simp only [CR.mk.injEq, true_and, and_true]; omega
  simp only [hpL, hc, List.foldl_cons, List.foldl_nil]
  rw [first, fS_turn N D _ _ w2 (by simp only; omega)]
  simp only
  have hl : c.y = 0 ∨ 2 * N ≤ (c.t + smI N D 0 - c.m) * D := by
    rcases hr.2 with hy | hm
    · exact .inl hy
    · right
      have s2 := (sm_bd h 0).1
      have hb := sc_high 2 N D h.d1
      have g : bdI N D 2 = sc 2 N D := rfl
      have : (bdI N D 2 + 2) * D ≤ (c.t + smI N D 0 - c.m) * D := Int.mul_le_mul_of_nonneg_right (by omega) (by have := h.d1; omega)
      rw [Int.add_mul] at this hb
      rw [g] at this
      have := h.d1
      omega
  unfold edG
  rw [if_pos hl]
  simp only [if_true, List.append_nil, CR.mk.injEq, true_and, and_true]
  rw [show (0 : Int) + 1 = 1 by omega]; omega

/-- The events of the first bits of a transmission that begins at s. -/
def boL (N D s : Int) (d : List UInt8) : Nat → List Ev
  | 0 => []
  | i + 1 => boL N D s d i ++ [⟨2, s + smI N D i + smI N D 0, s + smI N D ((i : Int) + 1), ((d.getD i 0).toNat : Int) - 48, 0, [], 0⟩]
theorem boL_len (N D s : Int) (d : List UInt8) (n : Nat) : (boL N D s d n).length = n := by
  induction n with
  | zero => rfl
  | succ n ih => simp [boL, ih]
theorem hv_bit {c : UInt8} (h : c.toNat = 48 ∨ c.toNat = 49) : hvI c = (1 - ((c.toNat : Int) - 48), (c.toNat : Int) - 48) := by
  rcases h with h | h
  · have : c = 48 := UInt8.toNat_inj.1 (by simpa using h)
    subst this; rfl
  · have : c = 49 := UInt8.toNat_inj.1 (by simpa using h)
    subst this; rfl
/-- The state behind the start bit and some bits. -/
theorem bits_fold {N D : Int} (h : Bt N D) (c : CR) (hr : rdy N D c) (L d : List UInt8) (hL0 : L.getD 0 0 = 49) (n : Nat) (hL : ∀ i, i < n → L.getD (i + 1) 0 = d.getD i 0 ∧ ((d.getD i 0).toNat = 48 ∨ (d.getD i 0).toNat = 49)) :
    ∃ p, (p = 0 ∨ p = 1) ∧ (bpL N D L (n + 1)).foldl (fS N D) c = ⟨1, c.t + smI N D n, p, c.t + bdI N D ((n : Int) + 1), c.o ++ boL N D c.t d n⟩ := by
  induction n with
  | zero =>
    refine ⟨1, .inr rfl, ?_⟩
    simp only [bpL, List.nil_append, boL, List.append_nil]
    rw [hL0]
    exact start_fold h c hr
  | succ n ih =>
    obtain ⟨p, hp, e⟩ := ih fun i hi => hL i (by omega)
    obtain ⟨l1, l2⟩ := hL n (by omega)
    refine ⟨((d.getD n 0).toNat : Int) - 48, by omega, ?_⟩
    rw [bpL, List.foldl_append, e, l1]
    have := bit_fold h c.t ((n : Int) + 1) p (((d.getD n 0).toNat : Int) - 48) (d.getD n 0) (c.o ++ boL N D c.t d n) (by omega) (hv_bit l2) hp
    rw [show (n : Int) + 1 - 1 = n by omega] at this
    rw [show ((n + 1 : Nat) : Int) = (n : Int) + 1 by omega, this]
    simp only [boL, List.append_assoc]
/-- The number of events of an item, and how they look. -/
def nbI (e : It) : Nat := if e.u = 5 then e.x.toNat else e.d.size
def okEv (e : It) (L : List Ev) : Prop := L.length = (if e.u = 5 then e.x.toNat + 1 else e.d.size) ∧ (∀ i, i < nbI e → ∃ x, L[i]? = some x ∧ x.k = 2 ∧ x.v = ((e.d.data.toList.getD i 0).toNat : Int) - 48 ∧ x.u = 0 ∧ x.f < x.t) ∧ (e.u = 5 → ∃ x, L[e.x.toNat]? = some x ∧ x.k = 2 ∧ x.v = 0 ∧ x.u = 5)
theorem boL_at {N D : Int} (h : Bt N D) (s : Int) (d : List UInt8) (n i : Nat) (hi : i < n) (Q : List Ev) : ∃ x, (boL N D s d n ++ Q)[i]? = some x ∧ x.k = 2 ∧ x.v = ((d.getD i 0).toNat : Int) - 48 ∧ x.u = 0 ∧ x.f < x.t := by
  induction n generalizing Q with
  | zero => omega
  | succ n ih =>
    by_cases hn : i = n
    · subst hn
      refine ⟨⟨2, s + smI N D i + smI N D 0, s + smI N D ((i : Int) + 1), ((d.getD i 0).toNat : Int) - 48, 0, [], 0⟩, ?_, rfl, rfl, rfl, ?_⟩
      · rw [boL, List.append_assoc, List.getElem?_append_right (by rw [boL_len]; omega), boL_len]; simp
      · have := (dist h ((i : Int) + 1)).2.2.2.2.2.2.2
        rw [show (i : Int) + 1 - 1 = i by omega] at this
        show s + smI N D i + smI N D 0 < s + smI N D ((i : Int) + 1)
        omega
    · rw [boL, List.append_assoc]
      exact ih (by omega) _
theorem item_fold {N D : Int} (h : Bt N D) (c : CR) (hr : rdy N D c) {e : It} (ho : OkT e) : ∃ L, okEv e L ∧ ((ipL N D e).foldl (fS N D) c).o = c.o ++ L ∧ rdy N D ((ipL N D e).foldl (fS N D) c) := by
  have b2 : 1 ≤ bdI N D 2 := by
    have d1 := (bd_next h 0).1; have d2 := (bd_next h (0 + 1)).1
    rw [bd_zero] at d1; rw [show (0 : Int) + 1 + 1 = 2 by omega] at d2; omega
  have hdl : e.d.data.toList.length = e.d.size := Array.length_toList
  have hN : 0 ≤ N := by have := h.n1; have := h.d1; omega
  -- the gap
  obtain ⟨c1, hc1, hr1, ho1⟩ : ∃ c1, fS N D c (0, e.g) = c1 ∧ rdy N D c1 ∧ c1.o = c.o := by
    refine ⟨_, rfl, ?_⟩
    by_cases hg : e.g ≤ 0
    · rw [fS_zero N D c 0 hg]; exact ⟨hr, rfl⟩
    · rw [fS_same N D c 0 (by omega) hr.1.symm]
      refine ⟨⟨hr.1, ?_⟩, rfl⟩
      rcases hr.2 with h1 | h1
      · exact .inl h1
      · exact .inr (by simp only; omega)
  have hfold : (ipL N D e).foldl (fS N D) c = fS N D ((bpL N D (txL e.x e.u e.d.data.toList) (txL e.x e.u e.d.data.toList).length).foldl (fS N D) c1) (0, bdI N D 2) := by
    simp only [ipL, List.foldl_cons, List.foldl_append, List.foldl_nil, hc1]
  rw [hfold]
  have hbit : ∀ i, i < e.d.size → (e.d.data.toList.getD i 0).toNat = 48 ∨ (e.d.data.toList.getD i 0).toNat = 49 := by
    intro i hi
    have : e.d.data.toList.getD i 0 ∈ e.d.data.toList := by
      rw [List.getD, List.getElem?_eq_getElem (by omega)]; exact List.getElem_mem _
    exact Sb.okB_mem ho.ok this
  by_cases hu : e.u = 5
  · obtain ⟨x0, x1⟩ := ho.x hu
    have hxn : e.x.toNat < e.d.size := by omega
    have htx : txL e.x e.u e.d.data.toList = 49 :: (e.d.data.toList.take e.x.toNat ++ [120]) := by unfold txL; rw [if_pos hu]
    have hlen : (txL e.x e.u e.d.data.toList).length = e.x.toNat + 1 + 1 := by rw [htx]; simp; omega
    obtain ⟨p, hp, hb⟩ := bits_fold h c1 hr1 (txL e.x e.u e.d.data.toList) e.d.data.toList (by rw [htx]; rfl) e.x.toNat (by
      intro i hi
      refine ⟨?_, hbit i (by omega)⟩
      rw [htx, List.getD_cons_succ, List.getD, List.getD, List.getElem?_append_left (by rw [List.length_take]; omega), List.getElem?_take, if_pos hi])
    rw [hlen, bpL, List.foldl_append, hb]
    have hbr : (txL e.x e.u e.d.data.toList).getD (e.x.toNat + 1) 0 = 120 := by
      have ht : (e.d.data.toList.take e.x.toNat).length = e.x.toNat := by rw [List.length_take]; omega
      rw [htx, List.getD_cons_succ, List.getD, List.getElem?_append_right (by omega), ht]
      simp
    rw [hbr]
    have hk := brk_fold h c1.t ((e.x.toNat : Int) + 1) p (c1.o ++ boL N D c1.t e.d.data.toList e.x.toNat) hp
    rw [show (e.x.toNat : Int) + 1 - 1 = e.x.toNat by omega] at hk
    rw [show ((e.x.toNat + 1 : Nat) : Int) = (e.x.toNat : Int) + 1 by omega, hk]
    have hds := dist h ((e.x.toNat : Int) + 1)
    rw [show (e.x.toNat : Int) + 1 - 1 = e.x.toNat by omega] at hds
    rw [fS_turn N D _ _ b2 (by simp only; omega)]
    simp only
    have hd : ∀ B : Int, c1.t + B - (c1.t + smI N D e.x.toNat) = B - smI N D e.x.toNat := fun B => by omega
    rw [ed_code (by rw [hd]; exact hds.2.2.2.2.2.1) (by rw [hd]; exact hds.2.2.2.2.2.2.1) hN]
    refine ⟨boL N D c1.t e.d.data.toList e.x.toNat ++ [⟨2, c1.t + smI N D e.x.toNat + smI N D 0, c1.t + bdI N D ((e.x.toNat : Int) + 1 + 1), 0, 0, [], 5⟩], ⟨?_, ?_, ?_⟩, ?_, ?_⟩
    · rw [if_pos hu, List.length_append, boL_len]; rfl
    · intro i hi
      unfold nbI at hi; rw [if_pos hu] at hi
      exact boL_at h c1.t _ _ i hi _
    · intro _
      refine ⟨⟨2, c1.t + smI N D e.x.toNat + smI N D 0, c1.t + bdI N D ((e.x.toNat : Int) + 1 + 1), 0, 0, [], 5⟩, ?_, rfl, rfl, rfl⟩
      rw [List.getElem?_append_right (by rw [boL_len]; omega), boL_len]; simp
    · simp only [ho1, List.append_assoc]
    · exact ⟨rfl, .inr (by simp only; omega)⟩
  · have htx : txL e.x e.u e.d.data.toList = 49 :: e.d.data.toList := by unfold txL; rw [if_neg hu]
    have hlen : (txL e.x e.u e.d.data.toList).length = e.d.size + 1 := by rw [htx]; simp
    obtain ⟨p, hp, hb⟩ := bits_fold h c1 hr1 (txL e.x e.u e.d.data.toList) e.d.data.toList (by rw [htx]; rfl) e.d.size (by
      intro i hi
      exact ⟨by rw [htx, List.getD_cons_succ], hbit i hi⟩)
    rw [hlen, hb]
    have hds := dist h ((e.d.size : Int) + 1)
    rw [show (e.d.size : Int) + 1 - 1 = e.d.size by omega] at hds
    have hd : ∀ B : Int, c1.t + B - (c1.t + smI N D e.d.size) = B - smI N D e.d.size := fun B => by omega
    have hs := (sm_bd h e.d.size).2
    have hend : fS N D ⟨1, c1.t + smI N D e.d.size, p, c1.t + bdI N D ((e.d.size : Int) + 1), c1.o ++ boL N D c1.t e.d.data.toList e.d.size⟩ (0, bdI N D 2) = ⟨1, c1.t + smI N D e.d.size, 0, c1.t + bdI N D ((e.d.size : Int) + 1) + bdI N D 2, c1.o ++ boL N D c1.t e.d.data.toList e.d.size⟩ := by
      by_cases hq : (0 : Int) = p
      · rw [fS_same N D _ _ b2 hq]; subst hq; rfl
      · rw [fS_turn N D _ _ b2 hq]
        simp only
        rw [ed_early (by rw [hd]; exact hds.1) (by rw [hd]; exact hds.2.1)]
        simp only [List.append_nil]
    rw [hend]
    refine ⟨boL N D c1.t e.d.data.toList e.d.size, ⟨?_, ?_, fun h5 => absurd h5 hu⟩, by simp only [ho1], ⟨rfl, .inr (by simp only; omega)⟩⟩
    · rw [if_neg hu, boL_len]
    · intro i hi
      unfold nbI at hi; rw [if_neg hu] at hi
      have := boL_at h c1.t e.d.data.toList _ i hi []
      rwa [List.append_nil] at this

theorem fm_congr {α β : Type} {l : List α} {F G : α → List β} (h : ∀ x ∈ l, F x = G x) : l.flatMap F = l.flatMap G := by
  induction l with
  | nil => rfl
  | cons a l ih => rw [List.flatMap_cons, List.flatMap_cons, h a (by simp), ih fun x hx => h x (by simp [hx])]
/-- The events of items, item for item. -/
theorem items_fold {N D : Int} (h : Bt N D) {l : List It} (hl : ∀ j (hj : j < l.length), OkT l[j]) : ∀ n, n ≤ l.length → ∃ F : Nat → List Ev, (∀ j (hj : j < n) (hj' : j < l.length), okEv l[j] (F j)) ∧ ((epL N D l n).foldl (fS N D) CR.zero).o = (List.range n).flatMap F ∧ rdy N D ((epL N D l n).foldl (fS N D) CR.zero) := by
  intro n
  induction n with
  | zero =>
    intro _
    have b2 : 1 ≤ bdI N D 2 := by
      have d1 := (bd_next h 0).1; have d2 := (bd_next h (0 + 1)).1
      rw [bd_zero] at d1; rw [show (0 : Int) + 1 + 1 = 2 by omega] at d2; omega
    refine ⟨fun _ => [], fun j hj => by omega, ?_, ?_⟩
    · simp only [epL, List.foldl_cons, List.foldl_nil]; rw [fS_same N D _ _ b2 rfl]; rfl
    · simp only [epL, List.foldl_cons, List.foldl_nil]; rw [fS_same N D _ _ b2 rfl]; exact ⟨rfl, .inl rfl⟩
  | succ n ih =>
    intro hn
    obtain ⟨F, f1, f2, f3⟩ := ih (by omega)
    have e : l.getD n default = l[n] := by simp [List.getD, List.getElem?_eq_getElem (show n < l.length by omega)]
    obtain ⟨L, g1, g2, g3⟩ := item_fold h _ f3 (hl n (by omega))
    refine ⟨fun j => if j = n then L else F j, ?_, ?_, ?_⟩
    · intro j hj hj'
      by_cases hjn : j = n
      · subst hjn; simp only [if_true]; exact g1
      · simp only [if_neg hjn]; exact f1 j (by omega) hj'
    · rw [epL, e, List.foldl_append, g2, f2, List.range_succ, List.flatMap_append]
      congr 1
      · refine fm_congr fun j hj => ?_
        rw [List.mem_range] at hj
        simp only [if_neg (show ¬ j = n by omega)]
      · simp
    · rw [epL, e, List.foldl_append]; exact g3

end Go.Proofs.Ytmbeaagpjpphhaa

namespace Go.Proofs.Ytmbeaagpjpphhaa
open Go
open Sw (Rn lg gd nil_or_snoc pt pt_nil pt_snoc lg_append)
set_option linter.unusedVariables false

/-- An event later by some ticks. -/
def shE (b : Int) (e : Ev) : Ev := ⟨e.k, e.f + b, e.t + b, e.v, e.a, e.d, e.u⟩
/-- Two states, one later than the other. -/
structure RelC (b : Int) (c c' : CR) : Prop where
  y : c'.y = c.y
  m : c'.m = c.m + b
  p : c'.p = c.p
  t : c'.t = c.t + b
theorem edG_sh (q N D y m t v b : Int) : edG q N D y (m + b) (t + b) v = ((edG q N D y m t v).1, (edG q N D y m t v).2.1 + b, (edG q N D y m t v).2.2.map (shE b)) := by
  have e : t + b - (m + b) = t - m := by omega
  unfold edG
  rw [e]
  split
  · split <;> simp
  · split
    · simp
    · have : bnE N D (m + b) (t + b) v = shE b (bnE N D m t v) := by
        unfold bnE shE
        simp only [e, Ev.mk.injEq, true_and, and_true]
        omega
      simp [this]
theorem edG_sh' (q N D y m t v b : Int) : (edG q N D y (m + b) (t + b) v).1 = (edG q N D y m t v).1 ∧ (edG q N D y (m + b) (t + b) v).2.1 = (edG q N D y m t v).2.1 + b ∧ (edG q N D y (m + b) (t + b) v).2.2 = (edG q N D y m t v).2.2.map (shE b) := by
  rw [edG_sh]
  exact ⟨rfl, rfl, rfl⟩
theorem fS_sh {N D b : Int} {c c' : CR} (h : RelC b c c') (r : Rn) : ∃ L, (fS N D c r).o = c.o ++ L ∧ (fS N D c' r).o = c'.o ++ L.map (shE b) ∧ RelC b (fS N D c r) (fS N D c' r) := by
  obtain ⟨hy, hm, hp, ht⟩ := h
  unfold fS
  rw [hy, hm, hp, ht]
  by_cases h1 : r.2 ≤ 0
  · rw [if_pos h1, if_pos h1]; exact ⟨[], by simp, by simp, ⟨hy, hm, hp, ht⟩⟩
  · rw [if_neg h1, if_neg h1]
    by_cases h2 : r.1 = c.p
    · rw [if_pos h2, if_pos h2]; exact ⟨[], by simp, by simp, ⟨rfl, rfl, rfl, by simp only; omega⟩⟩
    · rw [if_neg h2, if_neg h2]
      obtain ⟨e1, e2, e3⟩ := edG_sh' c.y N D c.y c.m c.t r.1 b
      rw [e1, e2, e3]
      exact ⟨_, rfl, rfl, ⟨rfl, rfl, rfl, by simp only; omega⟩⟩
theorem fold_sh {N D b : Int} (P : List Rn) : ∀ {c c' : CR}, RelC b c c' → ∃ L, (P.foldl (fS N D) c).o = c.o ++ L ∧ (P.foldl (fS N D) c').o = c'.o ++ L.map (shE b) ∧ RelC b (P.foldl (fS N D) c) (P.foldl (fS N D) c') := by
  induction P with
  | nil => intro c c' h; exact ⟨[], by simp, by simp, h⟩
  | cons r P ih =>
    intro c c' h
    obtain ⟨L, l1, l2, l3⟩ := fS_sh (N := N) (D := D) h r
    obtain ⟨M, m1, m2, m3⟩ := ih l3
    refine ⟨L ++ M, ?_, ?_, m3⟩
    · rw [List.foldl_cons, m1, l1, List.append_assoc]
    · rw [List.foldl_cons, m2, l2, List.map_append, List.append_assoc]
theorem bp_head (N D : Int) (L : List UInt8) (n : Nat) : ∃ Q, bpL N D L (n + 1) = hpL N D 0 (L.getD 0 0) ++ Q := by
  induction n with
  | zero => exact ⟨[], by simp [bpL]⟩
  | succ n ih =>
    obtain ⟨Q, hQ⟩ := ih
    exact ⟨Q ++ hpL N D (n + 1 : Nat) (L.getD (n + 1) 0), by rw [bpL, hQ, List.append_assoc]⟩
theorem gap_rdy {N D : Int} {c : CR} (hr : rdy N D c) (g : Int) : (fS N D c (0, g)).o = c.o ∧ rdy N D (fS N D c (0, g)) ∧ (fS N D c (0, g)).t = c.t + (if g ≤ 0 then 0 else g) := by
  by_cases hg : g ≤ 0
  · rw [fS_zero N D c 0 hg, if_pos hg]; exact ⟨rfl, hr, by omega⟩
  · rw [fS_same N D c 0 (by omega) hr.1.symm, if_neg hg]
    refine ⟨rfl, ⟨hr.1, ?_⟩, rfl⟩
    rcases hr.2 with h1 | h1
    · exact .inl h1
    · exact .inr (by simp only; omega)
theorem item_sh {N D b : Int} (h : Bt N D) {c c' : CR} (hr : rdy N D c) (hr' : rdy N D c') (ht : c'.t = c.t + b) {e : It} (ho : OkT e) :
    ∃ L, ((ipL N D e).foldl (fS N D) c).o = c.o ++ L ∧ ((ipL N D e).foldl (fS N D) c').o = c'.o ++ L.map (shE b) ∧ ((ipL N D e).foldl (fS N D) c').t = ((ipL N D e).foldl (fS N D) c).t + b ∧ rdy N D ((ipL N D e).foldl (fS N D) c) ∧ rdy N D ((ipL N D e).foldl (fS N D) c') := by
  obtain ⟨_, _, _, r1⟩ := item_fold h c hr ho
  obtain ⟨_, _, _, r2⟩ := item_fold h c' hr' ho
  obtain ⟨g1, g2, g3⟩ := gap_rdy hr e.g
  obtain ⟨g1', g2', g3'⟩ := gap_rdy hr' e.g
  obtain ⟨n, hn, h0⟩ : ∃ n, (txL e.x e.u e.d.data.toList).length = n + 1 ∧ (txL e.x e.u e.d.data.toList).getD 0 0 = 49 := by
    unfold txL
    exact ⟨_, rfl, rfl⟩
  obtain ⟨Q, hQ⟩ := bp_head N D (txL e.x e.u e.d.data.toList) n
  rw [h0] at hQ
  have key : ∀ c0 : CR, (ipL N D e).foldl (fS N D) c0 = (Q ++ [(0, bdI N D 2)]).foldl (fS N D) ((hpL N D 0 49).foldl (fS N D) (fS N D c0 (0, e.g))) := by
    intro c0
    simp only [ipL, hn, hQ, List.foldl_cons, List.foldl_append, List.foldl_nil]
  have s1 := start_fold h _ g2
  have s2 := start_fold h _ g2'
  have hR : RelC b ((hpL N D 0 49).foldl (fS N D) (fS N D c (0, e.g))) ((hpL N D 0 49).foldl (fS N D) (fS N D c' (0, e.g))) := by
    rw [s1, s2]
    exact ⟨rfl, by simp only; omega, rfl, by simp only; omega⟩
  obtain ⟨L, l1, l2, l3⟩ := fold_sh (N := N) (D := D) (Q ++ [(0, bdI N D 2)]) hR
  refine ⟨L, ?_, ?_, ?_, r1, r2⟩
  · rw [key, l1, s1, g1]
  · rw [key, l2, s2, g1']
  · rw [key, key]; exact l3.t
/-- The first pause of two bits, at whatever state. -/
theorem pause_rdy {N D : Int} (h : Bt N D) (c : CR) (hm : c.m ≤ c.t) (hp : c.p = 0 ∨ c.p = 1) : ∃ L0, (fS N D c (0, bdI N D 2)).o = c.o ++ L0 ∧ rdy N D (fS N D c (0, bdI N D 2)) ∧ (fS N D c (0, bdI N D 2)).t = c.t + bdI N D 2 := by
  have b2 : 1 ≤ bdI N D 2 := by
    have d1 := (bd_next h 0).1; have d2 := (bd_next h (0 + 1)).1
    rw [bd_zero] at d1; rw [show (0 : Int) + 1 + 1 = 2 by omega] at d2; omega
  by_cases h0 : (0 : Int) = c.p
  · rw [fS_same N D c 0 b2 h0]
    exact ⟨[], by simp, ⟨h0.symm, .inr (by simp only; omega)⟩, rfl⟩
  · rw [fS_turn N D c 0 b2 h0]
    refine ⟨_, rfl, ⟨rfl, .inr ?_⟩, rfl⟩
    have : (edG c.y N D c.y c.m c.t 0).2.1 ≤ c.t := by
      unfold edG
      split
      · split
        · exact Int.le_refl _
        · exact hm
      · split
        · exact hm
        · exact Int.le_refl _
    simp only
    omega
theorem items_sh {N D b : Int} (h : Bt N D) {l : List It} (hl : ∀ j (hj : j < l.length), OkT l[j]) (c : CR) (hm : c.m ≤ c.t) (hp : c.p = 0 ∨ c.p = 1) (ht : c.t = b) : ∀ n, n ≤ l.length → ∃ L0, ((epL N D l n).foldl (fS N D) c).o = c.o ++ L0 ++ ((epL N D l n).foldl (fS N D) CR.zero).o.map (shE b) ∧ ((epL N D l n).foldl (fS N D) c).t = ((epL N D l n).foldl (fS N D) CR.zero).t + b ∧ rdy N D ((epL N D l n).foldl (fS N D) CR.zero) ∧ rdy N D ((epL N D l n).foldl (fS N D) c) := by
  intro n
  induction n with
  | zero =>
    intro _
    have b2 : 1 ≤ bdI N D 2 := by
      have d1 := (bd_next h 0).1; have d2 := (bd_next h (0 + 1)).1
      rw [bd_zero] at d1; rw [show (0 : Int) + 1 + 1 = 2 by omega] at d2; omega
    obtain ⟨L0, p1, p2, p3⟩ := pause_rdy h c hm hp
    simp only [epL, List.foldl_cons, List.foldl_nil]
    rw [fS_same N D CR.zero 0 b2 rfl]
    exact ⟨L0, by rw [p1]; simp, by rw [p3]; simp only; omega, ⟨rfl, .inl rfl⟩, p2⟩
  | succ n ih =>
    intro hn
    obtain ⟨L0, f1, f2, f3, f4⟩ := ih (by omega)
    have e : l.getD n default = l[n] := by simp [List.getD, List.getElem?_eq_getElem (show n < l.length by omega)]
    obtain ⟨L, g1, g2, g3, g4, g5⟩ := item_sh h f3 f4 f2 (hl n (by omega))
    refine ⟨L0, ?_, ?_, ?_, ?_⟩
    · rw [epL, e, List.foldl_append, List.foldl_append, g2, f1, g1, List.map_append, List.append_assoc]
    · rw [epL, e, List.foldl_append, List.foldl_append]; exact g3
    · rw [epL, e, List.foldl_append]; exact g4
    · rw [epL, e, List.foldl_append]; exact g5
/-- Levels one after the other are taken. -/
theorem lv_e (z : Bool) (N D : Int) (A : List Rn) : ∀ (b : Int) (s : MN), (∀ r ∈ A, (r.1 = 0 ∨ r.1 = 1) ∧ 1 ≤ r.2) → 0 ≤ b → b + lg A ≤ 1099511627776 → (s.e = b ∨ s.e = 0) → ((lvL b A).foldl (mnS z N D) s).e = b + lg A ∨ ((lvL b A).foldl (mnS z N D) s).e = 0 := by
  induction A with
  | nil => intro b s _ _ _ he; simpa [lvL, lg] using he
  | cons r A ih =>
    intro b s hA hb hl he
    have h1 := hA r (by simp)
    have hn := nn_lg (P := A) fun x hx => by have := hA x (by simp [hx]); omega
    simp only [lg] at hl
    have hAc : AcN s ⟨1, b, b + r.2, r.1, 0, [], 0⟩ := by
      refine ⟨⟨by dsimp only; omega, by dsimp only; omega, hb, by dsimp only; omega, by dsimp only; omega, by simp, by dsimp only; omega, by dsimp only; omega, by dsimp only; omega, by dsimp only; omega, by dsimp only; omega, by dsimp only; omega⟩, rfl, rfl, by dsimp only; omega, h1.1, ?_⟩
      rcases he with h | h
      · exact .inr h.symm
      · exact .inl h
    have he' : (mnS z N D s ⟨1, b, b + r.2, r.1, 0, [], 0⟩).e = b + r.2 := by unfold mnS; rw [if_pos hAc]; split <;> rfl
    simp only [lvL, List.foldl_cons, lg]
    have := ih (b + r.2) (mnS z N D s ⟨1, b, b + r.2, r.1, 0, [], 0⟩) (fun x hx => hA x (by simp [hx])) (by omega) (by omega) (.inl he')
    rw [← Int.add_assoc]; exact this
/-- Encoded items are decoded after any other levels. -/
theorem resume {N D : Int} (z : Bool) {l : List It} (he : menE N D l = 0) (A : List Rn) (hA : ∀ r ∈ A, (r.1 = 0 ∨ r.1 = 1) ∧ 1 ≤ r.2) (hl : lg A + lg (menR N D z l) ≤ 1099511627776) :
    ∃ P, (mnR z N D (lvL 0 A ++ lvL (lg A) (menR N D z l))).o = P ++ (meL N D z l).map (shE (lg A)) := by
  obtain ⟨hB, hk, hm, hf, hv, _⟩ := menR_ok z he
  obtain ⟨v1, v2, v3⟩ := (Sw.vl_iff _).1 hv
  have hnA := nn_lg (P := A) fun x hx => by have := hA x hx; omega
  have hR : menR N D z l = if z = true then efL N D l else Sw.iv (efL N D l) := by unfold menR; rw [if_pos he]
  have hlg : lg (menR N D z l) = lg (efL N D l) := by rw [hR]; cases z <;> simp [Sw.iv_lg]
  have hn2 := Sw.gd_nonneg v2
  rw [hlg] at hl
  unfold mnR
  rw [List.foldl_append]
  have hS := lv_e z N D A 0 MN.zero hA (Int.le_refl _) (by omega) (.inl rfl)
  have hrc := rcN_fold (z := z) (N := N) (D := D) (lvL 0 A) MN.zero rcN_zero
  generalize (lvL 0 A).foldl (mnS z N D) MN.zero = s at *
  rw [Int.zero_add] at hS
  rw [hR, lv_fold z N D (efL N D l) (lg A) s ⟨s.y, s.m, s.p, lg A, s.o⟩ v2 hnA hl hS rfl rfl rfl rfl rfl]
  unfold efL
  rw [fS_puF N D _ _ [] (fun x hx => by cases hx), List.nil_append]
  have hml := hrc.m
  obtain ⟨L0, q, _⟩ := items_sh (b := lg A) hB (ml_ok hm).2 ⟨s.y, s.m, s.p, lg A, s.o⟩ (by simp only; omega) hrc.p rfl l.length (Nat.le_refl _)
  exact ⟨_, by rw [q, me_fold z he]⟩

end Go.Proofs.Ytmbeaagpjpphhaa
