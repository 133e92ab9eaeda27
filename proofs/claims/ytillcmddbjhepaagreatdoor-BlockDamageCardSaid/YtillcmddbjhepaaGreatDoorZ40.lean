/-
  Stored captures, plain mathematics: what the stored form of a capture gives; damage.
  Stored captures, plain mathematics: a byte of a block is another one.
  The chapter's examples.
  The law's invert.
  The walk of the statement BlockEncodes.
  The walk of the statement BlockDecodes.
-/
import Derived.Test.YtillcmddbjhepaaGreatDoorZ30
import Derived.Test.YtillcmddbjhepaaGreatDoorZ39
import Derived.Test.YtillcmddbjhepaaGreatDoorZ31
import Derived.BigQuiet
import Derived.Test.YtillcmddbjhepaaGreatDoorZ12
import Derived.Deep.RegionHeld3
import Derived.Test.YtillcmddbjhepaaGreatDoorZ23
import Derived.Test.YtillcmddbjhepaaGreatDoorZ36
namespace Go.Proofs.YtillcmddbjhepaaGreatDoor
open Go Si
set_option linter.unusedVariables false
set_option linter.unusedSimpArgs false

theorem bdy_len {m : Nat} {L : List Rn} (hm : m ≤ 65535) (h : ∀ r ∈ L, okRn m r) : ∀ n, (bdy L n).length ≤ 320 * n
  | 0 => by simp [bdy]
  | n + 1 => by
    rw [bdy_succ, List.length_append]
    have h1 := bdy_len hm h n
    have h2 := okRn_bb hm (blk_okRn h n)
    have h3 : (blk L n).length ≤ 16 := by rw [blk_len]; exact szN_le _ _
    omega
theorem enc_len {N : List ByteArray} {L : List Rn} (h : OkL N L) : (enc N L).length ≤ 100000000 := by
  have hm := (pow_ch h.n16).1
  have h1 := bdy_len hm h.run (bkN L.length)
  have h2 : bkN L.length ≤ 16384 := by have := h.len; unfold bkN; omega
  have h3 := nms_len N (fun j hj => h.nsz _ (List.getElem_mem hj))
  have h4 := h.n16
  have h5 : (entsE (enL L)).length ≤ 24 * (enL L).length := by
    have key : ∀ E : List En, (∀ x ∈ E, okE x) → (entsE E).length ≤ 24 * E.length := by
      intro E
      induction E with
      | nil => intro _; simp [entsE]
      | cons x E ih =>
        intro hx
        rw [entsE_cons, List.length_append, List.length_cons]
        have i1 := ih fun y hy => hx y (by simp [hy])
        obtain ⟨g1, g2, g3⟩ := hx x (by simp)
        have i2 : (entE x).length ≤ 24 := by
          unfold entE
          simp only [List.length_append, four_len]
          have := put_le10 (n := x.1) (by omega)
          have := put_le10 (n := x.2.1) (by omega)
          omega
        omega
    exact key _ h.en
  rw [enL_len] at h5
  rw [enc_hdE]
  unfold hdE
  simp only [List.length_append, four_len, List.length_cons, List.length_nil]
  have p1 := put_le10 (n := N.length) (by omega)
  have p2 := put_le10 (n := L.length) (by have := h.len; omega)
  have p3 := put_le10 (n := (lg L).toNat) (by have := h.lgT; omega)
  have p4 := put_le10 (n := bkN L.length) (by omega)
  omega

theorem take_blk (L : List Rn) (k : Nat) : L = L.take (16 * k) ++ (blk L k ++ L.drop (16 * (k + 1))) := by
  unfold blk
  rw [show 16 * (k + 1) = 16 * k + 16 by omega, ← List.drop_drop, List.take_append_drop, List.take_append_drop]
theorem blk_at {L : List Rn} (h : ps L) {k : Nat} {a : Int} (h1 : lg (L.take (16 * k)) ≤ a) (h2 : a < lg (L.take (16 * (k + 1)))) : atv (blk L k) (a - lg (L.take (16 * k))) = atv L a := by
  obtain ⟨g1, g2, g3⟩ := lg_blk h k
  have p1 := ps_take h (16 * k)
  have p2 : ps (blk L k) := ps_take (ps_drop h (16 * k)) 16
  have p3 := ps_nonneg p1
  have e : atv L a = atv (L.take (16 * k) ++ (blk L k ++ L.drop (16 * (k + 1)))) a := by rw [← take_blk]
  rw [e, atv_append _ _ _ p1 (by omega), if_neg (by omega), atv_append _ _ _ p2 (by omega), if_pos (by omega)]
section
variable {N : List ByteArray} {L : List Rn}
theorem lgT_nat (h : OkL N L) : ((lg L).toNat : Int) = lg L := lg_toNat h.ps
/-- At of a stored form. -/
theorem atR_enc (h : OkL N L) {a : Int} (h2 : 0 ≤ a ∧ a < lg L) : atR (enc N L) a = ((atv L a).1, 0) := by
  obtain ⟨b, h1, _, _, _, hp⟩ := rd_enc h
  have h3 : 0 ≤ a ∧ a < ((lg L).toNat : Int) := by rw [lgT_nat h]; exact h2
  have hk := plc_P h1 h3
  have he := plc_ends h1 h3
  simp only [hp, pts_at] at he
  have hk' : plc (enL L) a (enL L).length < bkN L.length := by rw [hdPts_len, h1] at hk; rw [enL_len] at hk ⊢; exact hk
  have h4 := atR_4 h1 h3 (L := blk L (plc (enL L) a (enL L).length)) (by simp only [hp, pts_at]; exact pBk_enc h _ hk')
  rw [h4]
  simp only [hp, pts_at]
  clear h4 hk
  generalize plc (enL L) a (enL L).length = k at *
  have g1 := ps_nonneg (ps_take h.ps (16 * k))
  have g2 := ps_nonneg (ps_take h.ps (16 * (k + 1)))
  have e1 : ((ptK L k).1 : Int) = lg (L.take (16 * k)) := by show ((lg (L.take (16 * k))).toNat : Int) = _; omega
  have e2 : ((ptK L k).2.1 : Int) = lg (L.take (16 * (k + 1))) := by show ((lg (L.take (16 * (k + 1)))).toNat : Int) = _; omega
  rw [e1, e2] at he
  rw [e1, blk_at h.ps he.1 he.2]
theorem atR_enc2 (h : OkL N L) {a : Int} (h2 : ¬ (0 ≤ a ∧ a < lg L)) : atR (enc N L) a = (0, 2) := by
  obtain ⟨b, h1, _, _, _, hp⟩ := rd_enc h
  exact atR_2 h1 (by rw [lgT_nat h]; exact h2)
theorem fdR_enc2 (h : OkL N L) {a : Int} (h2 : ¬ (0 ≤ a ∧ a < lg L)) : fdR (enc N L) a = (0, 2) := by
  obtain ⟨b, h1, _, _, _, hp⟩ := rd_enc h
  exact fdR_2 h1 (by rw [lgT_nat h]; exact h2)
theorem prt_ext {A B : List Rn} (pA : ps A) (pB : ps B) {f t f' t' : Int} (h0 : 0 ≤ f) (h1 : f < t) (h2 : t ≤ lg A) (h3 : 0 ≤ f') (h4 : t' - f' = t - f) (h5 : t' ≤ lg B) (h : ∀ k, 0 ≤ k → k < t - f → atv A (f + k) = atv B (f' + k)) : prt A f t = prt B f' t' := by
  refine al_unique (jn_al _) (prt_ps A f t) (jn_al _) (prt_ps B f' t') fun k hk => ?_
  by_cases c : k < t - f
  · rw [prt_at pA h0 hk c, prt_at pB h3 hk (by omega), h k hk c]
  · rw [atv_end (prt_ps A f t) (by rw [prt_lg pA h0 h1 h2]; omega), atv_end (prt_ps B f' t') (by rw [prt_lg pB h3 (by omega) h5]; omega)]
set_option maxHeartbeats 2000000 in
/-- Range of a stored form. -/
theorem rgR_enc (h : OkL N L) {f t : Int} (h2 : 0 ≤ f ∧ f < t ∧ t ≤ lg L) : rgR (enc N L) f t = (prt L f t, 0) := by
  obtain ⟨b, h1, _, _, _, hp⟩ := rd_enc h
  have hT := lgT_nat h
  have h3 : 0 ≤ f ∧ f < t ∧ t ≤ ((lg L).toNat : Int) := by rw [hT]; exact h2
  have hf : 0 ≤ f ∧ f < ((lg L).toNat : Int) := ⟨h3.1, Int.lt_of_lt_of_le h3.2.1 h3.2.2⟩
  have ht : 0 ≤ t - 1 ∧ t - 1 < ((lg L).toNat : Int) := ⟨by omega, by have := h3.2.2; omega⟩
  have hk := plc_P h1 hf
  have hk2 := plc_P h1 ht
  have hk12 := plc_mono h1 h3.1 (show f ≤ t - 1 by omega) ht.2
  have he := plc_ends h1 hf
  have he2 := plc_ends h1 ht
  simp only [hp, pts_at] at he he2
  have hk' : plc (enL L) f (enL L).length < bkN L.length := by rw [hdPts_len, h1] at hk; rw [enL_len] at hk ⊢; exact hk
  have hk2' : plc (enL L) (t - 1) (enL L).length < bkN L.length := by rw [hdPts_len, h1] at hk2; rw [enL_len] at hk2 ⊢; exact hk2
  have key : ∀ i k, i ≤ k → k < bkN L.length → pBs N.length (sub (pts L (bkN L.length)) i k) = some ((L.drop (16 * i)).take (16 * (k + 1 - i))) := by
    intro i k hik hkb
    have hsl := sub_len (pts L (bkN L.length)) i k hik (by rw [pts_len]; exact hkb)
    rw [pBs_will (B := (List.range (k + 1 - i)).map fun j => blk L (i + j)) (by rw [hsl]; simp) (fun j g1 g2 => ?_)]
    · have : ∀ n, ((List.range n).map fun j => blk L (i + j)).flatten = (L.drop (16 * i)).take (16 * n) := by
        intro n
        induction n with
        | zero => simp
        | succ n ih =>
          rw [List.range_succ, List.map_append, List.flatten_append, ih]
          simp only [List.map_cons, List.map_nil, List.flatten_cons, List.flatten_nil, List.append_nil]
          unfold blk
          rw [show 16 * (n + 1) = 16 * n + 16 by omega, List.take_add, List.drop_drop, show 16 * i + 16 * n = 16 * (i + n) by omega]
      rw [this]
    · rw [sub_at _ _ _ _ _ (by rw [pts_len]; omega), pts_at]
      simp only [List.getElem_map, List.getElem_range]
      exact pBk_enc h _ (by omega)
  have h4 := rgR_4 h1 h3 hk (L := (L.drop (16 * plc (enL L) f (enL L).length)).take (16 * (plc (enL L) (t - 1) (enL L).length + 1 - plc (enL L) f (enL L).length))) (by rw [hp]; exact key _ _ hk12 hk2')
  rw [h4]
  simp only [hp, pts_at]
  clear h4 hk hk2
  generalize plc (enL L) f (enL L).length = i at *
  generalize plc (enL L) (t - 1) (enL L).length = k at *
  have g1 := ps_nonneg (ps_take h.ps (16 * i))
  have e1 : ((ptK L i).1 : Int) = lg (L.take (16 * i)) := by show ((lg (L.take (16 * i))).toNat : Int) = _; omega
  have g2 := ps_nonneg (ps_take h.ps (16 * (k + 1)))
  have e2 : ((ptK L k).2.1 : Int) = lg (L.take (16 * (k + 1))) := by show ((lg (L.take (16 * (k + 1)))).toNat : Int) = _; omega
  rw [e1] at he ⊢
  rw [e2] at he2
  have hsp : L.take (16 * (k + 1)) = L.take (16 * i) ++ (L.drop (16 * i)).take (16 * (k + 1 - i)) := by
    rw [show 16 * (k + 1) = 16 * i + 16 * (k + 1 - i) by omega, List.take_add]
  have hlg : lg (L.take (16 * (k + 1))) = lg (L.take (16 * i)) + lg ((L.drop (16 * i)).take (16 * (k + 1 - i))) := by rw [hsp, lg_append]
  have pX : ps ((L.drop (16 * i)).take (16 * (k + 1 - i))) := ps_take (ps_drop h.ps _) _
  refine congrArg (fun z => (z, (0 : Nat))) ?_
  refine prt_ext pX h.ps (by omega) (by omega) (by omega) (by omega) (by omega) (by omega) fun j hj1 hj2 => ?_
  have e : atv L (f + j) = atv (L.take (16 * (k + 1)) ++ L.drop (16 * (k + 1))) (f + j) := by rw [List.take_append_drop]
  rw [e, atv_append _ _ _ (ps_take h.ps _) (by omega), if_pos (by omega), hsp, atv_append _ _ _ (ps_take h.ps _) (by omega), if_neg (by omega)]
  rw [show f + j - lg (L.take (16 * i)) = f - lg (L.take (16 * i)) + j by omega]
theorem rgR_enc2 (h : OkL N L) {f t : Int} (h2 : ¬ (0 ≤ f ∧ f < t ∧ t ≤ lg L)) : rgR (enc N L) f t = ([], 2) := by
  obtain ⟨b, h1, _, _, _, hp⟩ := rd_enc h
  exact rgR_2 h1 (by rw [lgT_nat h]; exact h2)
end

end Go.Proofs.YtillcmddbjhepaaGreatDoor

namespace Go.Proofs.YtillcmddbjhepaaGreatDoor
open Go Si
set_option linter.unusedVariables false
set_option linter.unusedSimpArgs false

theorem ck_one {l : List UInt8} (h : l.length ≤ 4096) : ck l = ckp 0 l := by
  unfold ck
  rw [List.take_of_length_le h, List.drop_of_length_le h, ckr_nil]
theorem fb_app (a b : List UInt8) (m : Bool) : Sd.fb (a ++ b) m = Sd.fb a m ++ Sd.fb b m := by unfold Sd.fb; rw [List.flatMap_append]
theorem fb_inj {a b : List UInt8} {m : Bool} (h : Sd.fb a m = Sd.fb b m) : a = b := by rw [← Sd.by8_fb a m, ← Sd.by8_fb b m, h]
theorem fb_bit (l : List UInt8) (m : Bool) : ∀ x ∈ Sd.fb l m, x.toNat = 48 ∨ x.toNat = 49 := by
  intro x hx
  unfold Sd.fb at hx
  obtain ⟨y, _, hy⟩ := List.mem_flatMap.1 hx
  exact Sd.fi_bits _ _ _ x hy
theorem app_left {α : Type} {A B B' : List α} {j : Nat} (h : j < A.length) : (A ++ B)[j]? = (A ++ B')[j]? := by
  rw [List.getElem?_append_left h, List.getElem?_append_left h]
theorem app_right {α : Type} {A B B' C : List α} {j : Nat} (hl : B.length = B'.length) (h : A.length ≤ j) (h2 : B.length ≤ j - A.length) : (A ++ (B ++ C))[j]? = (A ++ (B' ++ C))[j]? := by
  rw [List.getElem?_append_right h, List.getElem?_append_right h, List.getElem?_append_right h2, List.getElem?_append_right (by omega), hl]
theorem ckp_ne (a c : List UInt8) (u v : UInt8) (h : ckp 0 (a ++ u :: c) = ckp 0 (a ++ v :: c)) : u = v := by
  have e : ∀ l, ckp 0 l = Sd.cr 32 79764919 4294967295 4294967295 true (Sd.fb (four 0 ++ l) false) := fun l => Sd.crI_nat 31 79764919 4294967295 4294967295 true _
  rw [e, e] at h
  have k : ∀ x : UInt8, Sd.fb (four 0 ++ (a ++ x :: c)) false = Sd.fb (four 0 ++ a) false ++ (Sd.fi x.toNat 8 false ++ Sd.fb c false) := fun x => by
    rw [← List.append_assoc, fb_app, Sd.fb_cons]
  have hfi : ∀ x : UInt8, (Sd.fi x.toNat 8 false).length = 8 := fun x => Sd.fi_length _ _ _
  have hb := Sd.cr_burst (W := 32) (P := 79764919) (I := 4294967295) (X := 4294967295) (R := true) (by decide) (by decide) (by decide) (by decide)
    (s := Sd.fb (four 0 ++ (a ++ u :: c)) false) (t := Sd.fb (four 0 ++ (a ++ v :: c)) false) (by rw [k, k]; simp only [List.length_append, hfi]) (fb_bit _ _) (fb_bit _ _)
    (Sd.fb (four 0 ++ a) false).length (fun j h1 h2 hj => by
      have hh : (Sd.fb (four 0 ++ (a ++ u :: c)) false)[j]? = (Sd.fb (four 0 ++ (a ++ v :: c)) false)[j]? := by
        rw [k, k]
        rcases hj with hj | hj
        · exact app_left hj
        · exact app_right (by rw [hfi, hfi]) (by omega) (by rw [hfi]; omega)
      rw [List.getElem?_eq_getElem h1, List.getElem?_eq_getElem h2] at hh
      exact Option.some.inj hh) h
  have h2 := fb_inj hb
  have h3 := List.append_cancel_left h2
  have h4 := List.append_cancel_left h3
  injection h4
theorem set_split {l : List UInt8} {i : Nat} (h : i < l.length) (x : UInt8) : l = l.take i ++ l[i] :: l.drop (i + 1) ∧ l.set i x = l.take i ++ x :: l.drop (i + 1) := by
  refine ⟨by rw [← List.drop_eq_getElem_cons h, List.take_append_drop], ?_⟩
  rw [List.set_eq_take_append_cons_drop, if_pos h]
theorem ck_set {l : List UInt8} {i : Nat} (h : i < l.length) (hl : l.length ≤ 4096) {x : UInt8} (hx : x ≠ l[i]) : ck (l.set i x) ≠ ck l := by
  intro e
  rw [ck_one (by rw [List.length_set]; exact hl), ck_one hl] at e
  obtain ⟨e1, e2⟩ := set_split h x
  rw [e2] at e
  conv at e => rhs; rw [e1]
  exact hx (ckp_ne _ _ _ _ e)
theorem pBs_none {ch : Nat} {P : List Pt} {j : Nat} (hj : j < P.length) (h : pBk ch P[j] = none) : pBs ch P = none := by
  cases hp : pBs ch P with
  | none => rfl
  | some L =>
    obtain ⟨B, b1, b2, b3⟩ := pBs_was hp
    have := b3 j hj (by omega)
    rw [h] at this
    cases this

/-- The last one of n blocks whose bytes begin at or before a place. -/
def htc (E : List En) (x : Nat) : Nat → Nat
  | 0 => 0
  | i + 1 => if szE (E.take i) ≤ x then i else htc E x i
theorem htc_in {E : List En} {x : Nat} : ∀ n, n ≤ E.length → x < szE (E.take n) → htc E x n < n ∧ szE (E.take (htc E x n)) ≤ x ∧ x < szE (E.take (htc E x n + 1))
  | 0, _, h => by simp [szE] at h
  | n + 1, hn, h => by
    rw [htc]
    by_cases c : szE (E.take n) ≤ x
    · rw [if_pos c]; exact ⟨by omega, c, h⟩
    · rw [if_neg c]
      obtain ⟨h1, h2, h3⟩ := htc_in (E := E) (x := x) n (by omega) (by omega)
      exact ⟨by omega, h2, h3⟩
theorem szE_mono (E : List En) : ∀ n k, k ≤ n → szE (E.take k) ≤ szE (E.take n) := by
  intro n
  induction n with
  | zero => intro k hk; obtain rfl : k = 0 := (by omega); exact Nat.le_refl _
  | succ n ih =>
    intro k hk
    rcases Nat.eq_or_lt_of_le hk with e | e
    · subst e; exact Nat.le_refl _
    · have := ih k (by omega)
      by_cases c : n < E.length
      · rw [szE_take E n c]; omega
      · rw [List.take_of_length_le (by omega : E.length ≤ n + 1)]
        rw [List.take_of_length_le (by omega : E.length ≤ n)] at this
        exact this
theorem bkB_set (E : List En) (q : List UInt8) (x : UInt8) (i j n : Nat) : bkB E (q.set i x) j n = if i < szE (E.take j) then bkB E q j n else (bkB E q j n).set (i - szE (E.take j)) x := by
  unfold bkB
  rw [List.drop_set]
  split
  · rfl
  · rw [List.take_set]

section
variable {N : List ByteArray} {L : List Rn}
set_option maxHeartbeats 1000000 in
/-- A stored form of which a byte of a block is another one. -/
theorem dmg (h : OkL N L) {p : Nat} {x : UInt8} :
    ∃ b, rd (enc N L) = ((N, L.length, (lg L).toNat, enL L, b), 0) ∧ b ≤ (enc N L).length ∧ (enL L).length ≤ 16384 ∧ (∀ e ∈ enL L, okE e) ∧ b + szE (enL L) = (enc N L).length ∧
      (b ≤ p → (hp : p < (enc N L).length) → x ≠ (enc N L)[p] → dc ((enc N L).set p x) = (([], []), 12) ∧ ∀ a, 0 ≤ a → a < lg L → fdR ((enc N L).set p x) a = (plc (enL L) a (enL L).length, 0) ∧
        (plc (enL L) a (enL L).length = htc (enL L) (p - b) (enL L).length → atR ((enc N L).set p x) a = (0, 12)) ∧
        (plc (enL L) a (enL L).length ≠ htc (enL L) (p - b) (enL L).length → atR ((enc N L).set p x) a = ((atv L a).1, 0))) := by
  obtain ⟨b, h1, hb1, hb2, hb3, hp0⟩ := rd_enc h
  have hsz : szE (enL L) = (bdy L (bkN L.length)).length := by
    have := szE_enL L (bkN L.length) (Nat.le_refl _)
    rw [List.take_of_length_le (by rw [enL_len]; omega)] at this
    exact this
  have hbl : b + szE (enL L) = (enc N L).length := by
    have := congrArg List.length hb3
    rw [List.length_drop] at this
    omega
  refine ⟨b, h1, hb2, by rw [enL_len]; have := h.len; unfold bkN; omega, h.en, hbl, fun hbp hpl hx => ?_⟩
  obtain ⟨w1, w2, w3, w4, w5, w6⟩ := rd_was h1
  have he := enc_hdE N L
  generalize hH : hdE N L.length (lg L).toNat (enL L) = H at *
  generalize hq : bdy L (bkN L.length) = q at *
  have hs : (enc N L).set p x = H ++ (four (ck H) ++ q.set (p - b) x) := by
    rw [he, List.set_append_right _ _ (by omega), List.set_append_right _ _ (by rw [four_len]; omega), four_len, show p - H.length - 4 = p - b by omega]
  have hrd := rd_will (l := (enc N L).set p x) (q := q.set (p - b) x) (N := N) (R := L.length) (T := (lg L).toNat) (E := enL L) (by rw [hH]; exact hs) h.n16 h.nsz h.len (by have := h.lgT; omega) (enL_len L) h.en h.asc (by rw [List.length_set]; exact hsz)
  rw [hH, ← w2] at hrd
  obtain ⟨r1, r2⟩ := hrd
  have hEl : (enL L).length = bkN L.length := enL_len L
  have hpb : p - b < szE (enL L) := by omega
  have hht := htc_in (E := enL L) (x := p - b) (enL L).length (Nat.le_refl _) (by rw [List.take_of_length_le (Nat.le_refl _)]; exact hpb)
  have hPl : (hdPts ((enc N L).set p x)).length = (enL L).length := by rw [hdPts_len, r1]
  have hbk : ∀ j (hj : j < (enL L).length), bkB (enL L) q j (enL L)[j].2.1 = bb (blk L j) := by
    intro j hj
    rw [enL_at]
    unfold bkB
    rw [szE_enL L j (by omega), ← hq]
    exact bdy_drop L _ j (by omega)
  have hPj : ∀ j (hj : j < (hdPts ((enc N L).set p x)).length) (hj' : j < (enL L).length), pBk N.length (hdPts ((enc N L).set p x))[j] = rBk (bkB (enL L) (q.set (p - b) x) j (enL L)[j].2.1) (2 ^ N.length - 1) (szN L.length j) (enL L)[j].2.2 (eT (enL L) (lg L).toNat j - (enL L)[j].1) := by
    intro j hj hj'
    rw [hdPts_at r1 j hj hj', r2]
    unfold pBk
    simp only [toList_mk]
  have hgood : ∀ j (hj : j < (enL L).length), rBk (bb (blk L j)) (2 ^ N.length - 1) (szN L.length j) (enL L)[j].2.2 (eT (enL L) (lg L).toNat j - (enL L)[j].1) = some (blk L j) := by
    intro j hj
    have := pBk_enc h j (by omega)
    unfold pBk ptK at this
    simp only [toList_mk] at this
    rw [enL_at, eT_eA, eA_enL L (j + 1) (by omega)]
    exact this
  have hst := szE_take (enL L)
  have hother : ∀ j (hj : j < (hdPts ((enc N L).set p x)).length), j ≠ htc (enL L) (p - b) (enL L).length → pBk N.length (hdPts ((enc N L).set p x))[j] = some (blk L j) := by
    intro j hj hne
    have hj' : j < (enL L).length := by omega
    rw [hPj j hj hj', bkB_set]
    by_cases c : p - b < szE ((enL L).take j)
    · rw [if_pos c, hbk j hj']; exact hgood j hj'
    · rw [if_neg c, hbk j hj']
      have hlt : j < htc (enL L) (p - b) (enL L).length := by
        rcases Nat.lt_or_ge j (htc (enL L) (p - b) (enL L).length) with hh | hh
        · exact hh
        · have := szE_mono (enL L) j (htc (enL L) (p - b) (enL L).length + 1) (by omega)
          omega
      have h5 := szE_mono (enL L) (htc (enL L) (p - b) (enL L).length) (j + 1) (by omega)
      have h6 := hst j hj'
      have h7 : (enL L)[j].2.1 = (bb (blk L j)).length := by rw [enL_at]; rfl
      rw [List.set_eq_of_length_le (by omega)]
      exact hgood j hj'
  have hhurt : ∀ (hj : htc (enL L) (p - b) (enL L).length < (hdPts ((enc N L).set p x)).length), pBk N.length (hdPts ((enc N L).set p x))[htc (enL L) (p - b) (enL L).length] = none := by
    intro hj
    have hj' : htc (enL L) (p - b) (enL L).length < (enL L).length := hht.1
    rw [hPj _ hj hj', bkB_set, if_neg (by omega), hbk _ hj']
    have hx2 : x ≠ (enc N L)[p] := hx
    generalize htc (enL L) (p - b) (enL L).length = k at *
    have h6 := hst k hj'
    have h7 : (enL L)[k].2.1 = (bb (blk L k)).length := by rw [enL_at]; rfl
    have h8 : (enL L)[k].2.2 = ck (bb (blk L k)) := by rw [enL_at]; rfl
    have hi : p - b - szE ((enL L).take k) < (bb (blk L k)).length := by omega
    have hlen : (bb (blk L k)).length ≤ 4096 := by
      have h9 := okRn_bb (pow_ch h.n16).1 (blk_okRn h.run k)
      have : (blk L k).length ≤ 16 := by rw [blk_len]; exact szN_le _ _
      omega
    refine rBk_ck ?_
    rw [h8]
    refine ck_set hi hlen ?_
    have hel : (bb (blk L k))[p - b - szE ((enL L).take k)] = (enc N L)[p] := by
      have g1 := hbk k hj'
      have g2 : (bb (blk L k))[p - b - szE ((enL L).take k)]? = (enc N L)[p]? := by
        rw [← g1]
        unfold bkB
        rw [List.getElem?_take, if_pos (by omega), List.getElem?_drop, ← hb3, List.getElem?_drop, show b + (szE ((enL L).take k) + (p - b - szE ((enL L).take k))) = p by omega]
      rw [List.getElem?_eq_getElem hi, List.getElem?_eq_getElem hpl] at g2
      exact Option.some.inj g2
    rw [hel]
    exact hx2
  refine ⟨?_, fun a h0 ha => ?_⟩
  · exact dc_2 (by rw [r1]) (by rw [r1]; exact pBs_none (by rw [hPl]; exact hht.1) (hhurt (by rw [hPl]; exact hht.1)))
  · have hT := lgT_nat h
    have h3 : 0 ≤ a ∧ a < ((lg L).toNat : Int) := by rw [hT]; exact ⟨h0, ha⟩
    have hk := plc_P r1 h3
    have hen := plc_ends r1 h3
    refine ⟨fdR_3 r1 h3, fun e => ?_, fun e => ?_⟩
    · refine atR_3 r1 h3 ?_
      simp only [e]
      exact hhurt (by rw [← e]; exact hk)
    · have hlt : plc (enL L) a (enL L).length < (enL L).length := Nat.lt_of_lt_of_eq hk hPl
      rw [atR_4 r1 h3 (hother _ hk e), hdPts_at r1 _ hk hlt]
      simp only [hdPts_at r1 _ hk hlt] at hen
      simp only
      have e1 : (enL L)[plc (enL L) a (enL L).length].1 = (lg (L.take (16 * plc (enL L) a (enL L).length))).toNat := by rw [enL_at]; rfl
      rw [eT_eA, eA_enL L _ (by omega), e1] at hen
      rw [e1]
      have g1 := ps_nonneg (ps_take h.ps (16 * plc (enL L) a (enL L).length))
      have g2 := ps_nonneg (ps_take h.ps (16 * (plc (enL L) a (enL L).length + 1)))
      generalize plc (enL L) a (enL L).length = k at *
      rw [show ((lg (L.take (16 * k))).toNat : Int) = lg (L.take (16 * k)) by omega] at hen ⊢
      rw [blk_at h.ps hen.1 (by omega)]
end

end Go.Proofs.YtillcmddbjhepaaGreatDoor

namespace Go.Proofs.YtillcmddbjhepaaGreatDoor
open Go Go.RowKit Go.Joins
open Go.BigFrame
set_option linter.unusedVariables false
set_option linter.unusedSimpArgs false

def exN : List ByteArray := [⟨#[97]⟩]
def exR : List Si.Rn := [(1, 8), (0, 4)]
theorem ex_ck : Si.ckC exN exR = 0 := by decide +kernel
theorem ex_jn : Si.jn exR = exR := by decide +kernel
theorem ex_ok : OkL exN exR := (okL_of ex_ck).2
theorem ex_sz : Si.szs exN := by
  intro s hs
  simp only [exN, List.mem_cons, List.mem_nil_iff, or_false] at hs
  subst hs; decide +kernel
theorem ex_bb : bb exR = [1, 8, 0, 4] := by
  show rb (1, 8) ++ (rb (0, 4) ++ []) = _
  unfold rb
  rw [show ((1 : Int), (8 : Int)).1.toNat = 1 from rfl, show ((1 : Int), (8 : Int)).2.toNat = 8 from rfl, show ((0 : Int), (4 : Int)).1.toNat = 0 from rfl, show ((0 : Int), (4 : Int)).2.toNat = 4 from rfl, Sb.put_lt (by decide), Sb.put_lt (by decide), Sb.put_lt (by decide), Sb.put_lt (by decide)]
  rfl
theorem ex_en : enL exR = [(0, 4, ck [1, 8, 0, 4])] := by
  show [enK exR 0] = _
  unfold enK
  rw [show blk exR 0 = exR from rfl, ex_bb]
  rfl
theorem ex_enc : ∃ c0 c1 c2 c3 h0 h1 h2 h3 : UInt8, enc exN exR = [83, 66, 1, 1, 1, 97, 2, 12, 1, 0, 4, c0, c1, c2, c3, h0, h1, h2, h3, 1, 8, 0, 4] := by
  have hb : bdy exR (bkN exR.length) = [1, 8, 0, 4] := by
    show bb (blk exR 0) ++ [] = _
    rw [show blk exR 0 = exR from rfl, ex_bb]; rfl
  rw [enc_hdE, ex_en, hb]
  obtain ⟨c, hc⟩ : ∃ c, ck [1, 8, 0, 4] = c := ⟨_, rfl⟩
  rw [hc]
  obtain ⟨H, hH⟩ : ∃ H, ck (hdE exN exR.length (Si.lg exR).toNat [(0, 4, c)]) = H := ⟨_, rfl⟩
  rw [hH]
  have e : hdE exN exR.length (Si.lg exR).toNat [(0, 4, c)] = [83, 66, 1, 1, 1, 97, 2, 12, 1, 0, 4] ++ four c := by
    unfold hdE
    rw [show exN.length = 1 from rfl, show exR.length = 2 from rfl, show (Si.lg exR).toNat = 12 from rfl, show bkN 2 = 1 from rfl, show nms exN = nm1 ⟨#[97]⟩ ++ [] from rfl]
    unfold nm1
    rw [show (⟨#[97]⟩ : ByteArray).size = 1 from rfl, show entsE [(0, 4, c)] = entE (0, 4, c) ++ [] from rfl]
    unfold entE
    rw [Sb.put_lt (by decide), Sb.put_lt (by decide), Sb.put_lt (by decide), Sb.put_lt (show (0, 4, c).1 < 128 from (by decide : 0 < 128)), Sb.put_lt (show (0, 4, c).2.1 < 128 from (by decide : 4 < 128))]
    rfl
  rw [e]
  exact ⟨_, _, _, _, _, _, _, _, rfl⟩

/-- What the stored form of the example gives. -/
theorem ex_dc : dc (enc exN exR) = ((exN, exR), 0) := by have := dc_of ex_ck; rwa [ex_jn] at this
theorem ex_cnt : (rd (enc exN exR)).1.2.2.2.1.length = 1 ∧ (rd (enc exN exR)).2 = 0 := by
  obtain ⟨b, h1, _⟩ := rd_enc ex_ok
  rw [h1, ex_en]; exact ⟨rfl, rfl⟩
theorem ex_at7 : atR (enc exN exR) 7 = (1, 0) := by rw [atR_enc ex_ok (by decide)]; rfl
theorem ex_at8 : atR (enc exN exR) 8 = (0, 0) := by rw [atR_enc ex_ok (by decide)]; rfl
theorem ex_fd : fdR (enc exN exR) 12 = (0, 2) := fdR_enc2 ex_ok (by decide)
theorem ex_rg : rgR (enc exN exR) 7 9 = ([(1, 1), (0, 1)], 0) := by
  rw [rgR_enc ex_ok (by decide)]
  have : Si.prt exR 7 9 = [(1, 1), (0, 1)] := by decide +kernel
  rw [this]
/-- What Find gives, as a value. -/
theorem FiR.val {l : List UInt8} {at_ : Int} {w : World} {e : Ending} {w' : World} (h : FiR l at_ w e w') : e = .returned (.tuple #[.int .i64 ((fdR l at_).1 : Nat), .int .i64 ((fdR l at_).2 : Nat)]) ∧ Below w.heap.size w w' := by
  unfold FiR at h
  by_cases c : (rd l).2 = 0
  · rw [if_pos c] at h
    obtain ⟨⟨⟨N, R, T, E, b⟩, er⟩, hr⟩ : ∃ p, rd l = p := ⟨_, rfl⟩
    rw [hr] at c h
    simp only at c h
    subst c
    obtain ⟨hb, h⟩ := h
    by_cases c2 : 0 ≤ at_ ∧ at_ < (T : Int)
    · rw [if_pos c2] at h
      obtain ⟨k, rfl, hk⟩ := h
      rw [fdR_3 hr c2, fdI_plc hr c2.1 c2.2 hk]
      exact ⟨rfl, hb⟩
    · rw [if_neg c2] at h
      rw [h, fdR_2 hr c2]
      exact ⟨rfl, hb⟩
  · rw [if_neg c] at h
    rw [h.1, fdR_1 c]
    exact ⟨rfl, h.2⟩

set_option maxRecDepth 100000 in
set_option maxHeartbeats 8000000 in
theorem awake_any (w : World) (hE : Sd.Env w) :
    Calls Tryz.prog 8 #[] w fun e w' => e = .returned (.bool true) ∧ Below w.heap.size w w' := by
  obtain ⟨c0, c1, c2, c3, h0, h1, h2, h3, henc⟩ := ex_enc
  have HSF := Lib.hid (fun (S : ByteArray) (h : S.data.toList = enc exN exR) => show S.size = 23 ∧ (S.extract 0 11).toList = [83, 66, 1, 1, 1, 97, 2, 12, 1, 0, 4] ∧ (S.extract 19 S.size).toList = [1, 8, 0, 4] ∧ (S.extract 19 23).toList = [1, 8, 0, 4] by
    rw [henc] at h
    have e : S = ⟨#[83, 66, 1, 1, 1, 97, 2, 12, 1, 0, 4, c0, c1, c2, c3, h0, h1, h2, h3, 1, 8, 0, 4]⟩ := Si.eq_of_toList h
    subst e
    refine ⟨rfl, ?_, ?_, ?_⟩
    · rw [ByteArray.toList_eq, ext_list]; rfl
    · rw [ByteArray.toList_eq, ext_list]; rfl
    · rw [ByteArray.toList_eq, ext_list]; rfl)
  have HB3 := Lib.hid (show Below w.heap.size w (((w.alloc (.cells #[.string ⟨#[97]⟩] 9)).alloc (.cells #[.int .i64 1, .int .i64 8, .int .i64 0, .int .i64 4] 54)).alloc (.cells #[.slice (some ⟨w.heap.size, 0, none⟩) 1 1, .slice (some ⟨w.heap.size + 1, 0, none⟩) 2 2] 25)) from ((ba w _).alloc (le_alloc (Nat.le_refl _) _) _).alloc (le_alloc (le_alloc (Nat.le_refl _) _) _) _)
  have hsz1 : (w.alloc (.cells #[.string ⟨#[97]⟩] 9)).heap.size = w.heap.size + 1 := by rw [World.size_alloc]
  have hsz2 : ((w.alloc (.cells #[.string ⟨#[97]⟩] 9)).alloc (.cells #[.int .i64 1, .int .i64 8, .int .i64 0, .int .i64 4] 54)).heap.size = w.heap.size + 1 + 1 := by rw [World.size_alloc, hsz1]
  have HN3 := Lib.hid (show Si.NmArg (((w.alloc (.cells #[.string ⟨#[97]⟩] 9)).alloc (.cells #[.int .i64 1, .int .i64 8, .int .i64 0, .int .i64 4] 54)).alloc (.cells #[.slice (some ⟨w.heap.size, 0, none⟩) 1 1, .slice (some ⟨w.heap.size + 1, 0, none⟩) 2 2] 25)) (.slice (some ⟨w.heap.size, 0, none⟩) 1 1) exN from KRow.name (KRow.alloc (KRow.alloc (KRow.lit (T := 9) Si.nmC_size w w.heap.size (Nat.le_refl _) exN _ rfl 1 rfl (by decide)) _) _))
  have HR3 := Lib.hid (show Si.RnRow (((w.alloc (.cells #[.string ⟨#[97]⟩] 9)).alloc (.cells #[.int .i64 1, .int .i64 8, .int .i64 0, .int .i64 4] 54)).alloc (.cells #[.slice (some ⟨w.heap.size, 0, none⟩) 1 1, .slice (some ⟨w.heap.size + 1, 0, none⟩) 2 2] 25)) (w.heap.size + 1) (.slice (some ⟨w.heap.size + 1, 0, none⟩) 2 2) exR by
    have h := KRow.lit (T := 54) Si.rnC_size (w.alloc (.cells #[.string ⟨#[97]⟩] 9)) (w.alloc (.cells #[.string ⟨#[97]⟩] 9)).heap.size (Nat.le_refl _) exR #[.int .i64 1, .int .i64 8, .int .i64 0, .int .i64 4] rfl 2 rfl (by decide)
    rw [hsz1] at h
    exact KRow.alloc h _)
  have HC3 := Lib.hid (show RowAt (((w.alloc (.cells #[.string ⟨#[97]⟩] 9)).alloc (.cells #[.int .i64 1, .int .i64 8, .int .i64 0, .int .i64 4] 54)).alloc (.cells #[.slice (some ⟨w.heap.size, 0, none⟩) 1 1, .slice (some ⟨w.heap.size + 1, 0, none⟩) 2 2] 25)) (w.heap.size + 1 + 1) 25 #[.slice (some ⟨w.heap.size, 0, none⟩) 1 1, .slice (some ⟨w.heap.size + 1, 0, none⟩) 2 2] from RowAt.at hsz2.symm)
  clear hsz1 hsz2
  have hs := enc_len ex_ok
  have CE := Lib.hid (fun vN vR W (hb : Below w.heap.size w W) (hN : Si.NmArg W vN exN) (hR : Si.RnArg W vR exR) => encode_any exN exR vN vR W (hE.below hb) hN ex_sz hR (by decide))
  unfold encS at CE
  rw [ex_ck, if_pos rfl, ex_jn] at CE
  have CD := Lib.hid (fun (B : ByteArray) (hB : B.data.toList = enc exN exR) W (hb : Below w.heap.size w W) => show Calls Tryz.prog 11 #[.string B] W (DcR ((exN, exR), 0) W) by
    have h := Decode_any B W (hE.below hb) (by rw [size_len, hB]; omega)
    rw [hB, ex_dc] at h; exact h)
  have CC := Lib.hid (fun (B : ByteArray) (hB : B.data.toList = enc exN exR) W (hb : Below w.heap.size w W) => show Calls Tryz.prog 14 #[.string B] W fun e w' => e = .returned (.tuple #[.int .i64 1, .int .i64 0]) ∧ Below W.heap.size W w' by
    have h := count_any B W (hE.below hb) (by rw [size_len, hB]; omega)
    rw [hB, ex_cnt.1, ex_cnt.2] at h; exact h)
  have CA7 := Lib.hid (fun (B : ByteArray) (hB : B.data.toList = enc exN exR) W (hb : Below w.heap.size w W) => show Calls Tryz.prog 18 #[.string B, .int .i64 7] W fun e w' => e = .returned (.tuple #[.int .i64 1, .int .i64 0]) ∧ Below W.heap.size W w' by
    have h := At_any B 7 W (hE.below hb) (by rw [size_len, hB]; omega)
    rw [hB, ex_at7] at h; exact h)
  have CA8 := Lib.hid (fun (B : ByteArray) (hB : B.data.toList = enc exN exR) W (hb : Below w.heap.size w W) => show Calls Tryz.prog 18 #[.string B, .int .i64 8] W fun e w' => e = .returned (.tuple #[.int .i64 0, .int .i64 0]) ∧ Below W.heap.size W w' by
    have h := At_any B 8 W (hE.below hb) (by rw [size_len, hB]; omega)
    rw [hB, ex_at8] at h; exact h)
  have CF := Lib.hid (fun (B : ByteArray) (hB : B.data.toList = enc exN exR) W (hb : Below w.heap.size w W) => show Calls Tryz.prog 16 #[.string B, .int .i64 12] W fun e w' => e = .returned (.tuple #[.int .i64 0, .int .i64 2]) ∧ Below W.heap.size W w' by
    refine (Find_any B 12 W (hE.below hb) (by rw [size_len, hB]; omega)).mono fun e w' hx => ?_
    have h := hx.val
    rw [hB, ex_fd] at h; exact h)
  have CR := Lib.hid (fun (B : ByteArray) (hB : B.data.toList = enc exN exR) W (hb : Below w.heap.size w W) => show Calls Tryz.prog 20 #[.string B, .int .i64 7, .int .i64 9] W (RgQ ([(1, 1), (0, 1)], 0) W) by
    have h := Range_any B 7 9 W (hE.below hb) (by rw [size_len, hB]; omega)
    rw [hB, ex_rg] at h; exact h)
  clear hE hs henc
  go_enter Tryz.func8, Tryz.ntmps8
  go_wp2_with (first
    | (go_at_call 9; go_must (refine (CE.out _ _ _ HB3.out HN3.out (KRow.arg Si.rnC_size HR3.out)).mono ?_; rintro e w4 ⟨S, rfl, hS, hb⟩; have KB := Lib.hid (HB3.out.trans (hb.mono HB3.out.size)); replace HC3 := Lib.hid (HC3.out.keep hb); replace HR3 := Lib.hid (KRow.keep HR3.out hb); obtain ⟨s1, s2, s3, s4⟩ := HSF.out S hS; have HS := Lib.hid hS; clear hS hb HSF))
    | (go_at_call 11; go_must (refine (CD.out _ HS.out _ KB.out).mono ?_; rintro e w5 ⟨vN, vR, rfl, hN, hR, hb⟩; obtain ⟨nA, nn, nc, rfl, hnn⟩ := KRow.form hN; obtain ⟨g, c, hg⟩ := KRow.full hR (by decide); obtain rfl : vR = .slice (some ⟨g, 0, none⟩) 2 c := hg; replace KB := Lib.hid ((KB.out.trans (hb.mono KB.out.size)).alloc (KB.out.trans (hb.mono KB.out.size)).size (.cells #[.slice nA nn nc, .slice (some ⟨g, 0, none⟩) 2 c] 25)); replace HC3 := Lib.hid ((HC3.out.keep hb).alloc (.cells #[.slice nA nn nc, .slice (some ⟨g, 0, none⟩) 2 c] 25)); replace HR3 := Lib.hid (KRow.alloc (KRow.keep HR3.out hb) (.cells #[.slice nA nn nc, .slice (some ⟨g, 0, none⟩) 2 c] 25)); have HD := Lib.hid (RowAt.new w5 25 #[.slice nA nn nc, .slice (some ⟨g, 0, none⟩) 2 c]); have HX := Lib.hid (KRow.alloc hR (.cells #[.slice nA nn nc, .slice (some ⟨g, 0, none⟩) 2 c] 25)); clear hnn hN hR hb CD))
    | (go_at_call 14; go_must (refine (CC.out _ HS.out _ KB.out).mono ?_; rintro e w6 ⟨rfl, hb⟩; replace KB := Lib.hid (KB.out.trans (hb.mono KB.out.size)); replace HC3 := Lib.hid (HC3.out.keep hb); replace HR3 := Lib.hid (KRow.keep HR3.out hb); replace HD := Lib.hid (HD.out.keep hb); replace HX := Lib.hid (KRow.keep HX.out hb); clear hb CC))
    | (go_at_call_of 18 (Value.int IntKind.i64 7); go_must (refine (CA7.out _ HS.out _ KB.out).mono ?_; rintro e w7 ⟨rfl, hb⟩; replace KB := Lib.hid (KB.out.trans (hb.mono KB.out.size)); replace HC3 := Lib.hid (HC3.out.keep hb); replace HR3 := Lib.hid (KRow.keep HR3.out hb); replace HD := Lib.hid (HD.out.keep hb); replace HX := Lib.hid (KRow.keep HX.out hb); clear hb CA7))
    | (go_at_call_of 18 (Value.int IntKind.i64 8); go_must (refine (CA8.out _ HS.out _ KB.out).mono ?_; rintro e w8 ⟨rfl, hb⟩; replace KB := Lib.hid (KB.out.trans (hb.mono KB.out.size)); replace HC3 := Lib.hid (HC3.out.keep hb); replace HR3 := Lib.hid (KRow.keep HR3.out hb); replace HD := Lib.hid (HD.out.keep hb); replace HX := Lib.hid (KRow.keep HX.out hb); clear hb CA8))
    | (go_at_call 16; go_must (refine (CF.out _ HS.out _ KB.out).mono ?_; rintro e w9 ⟨rfl, hb⟩; replace KB := Lib.hid (KB.out.trans (hb.mono KB.out.size)); replace HC3 := Lib.hid (HC3.out.keep hb); replace HR3 := Lib.hid (KRow.keep HR3.out hb); replace HD := Lib.hid (HD.out.keep hb); replace HX := Lib.hid (KRow.keep HX.out hb); clear hb CF))
    | (go_at_call 20; go_must (refine (CR.out _ HS.out _ KB.out).mono ?_; rintro e w10 ⟨v, rfl, hr, hb⟩; obtain ⟨g2, c2, hg2⟩ := KRow.full hr (by decide); obtain rfl : v = .slice (some ⟨g2, 0, none⟩) 2 c2 := hg2; have k0 : w10.cell? ⟨g2, 0, none⟩ = some (.int .i64 1) := KRow.cell Si.rnC_size hr 0 (by decide) 0 (by omega); have k1 : w10.cell? ⟨g2, 1, none⟩ = some (.int .i64 1) := KRow.cell Si.rnC_size hr 0 (by decide) 1 (by omega); replace KB := Lib.hid (KB.out.trans (hb.mono KB.out.size)); replace HC3 := Lib.hid (HC3.out.keep hb); replace HR3 := Lib.hid (KRow.keep HR3.out hb); replace HD := Lib.hid (HD.out.keep hb); replace HX := Lib.hid (KRow.keep HX.out hb); clear hb CR hr; have k2 : w10.cell? ⟨w5.heap.size, 1, none⟩ = some (.slice (some ⟨g, 0, none⟩) 2 c) := HD.out.cell 1; have k3 : w10.cell? ⟨g, 2, none⟩ = some (.int .i64 0) := KRow.cell Si.rnC_size HX.out 1 (by decide) 0 (by omega); have k4 : w10.cell? ⟨g, 3, none⟩ = some (.int .i64 4) := KRow.cell Si.rnC_size HX.out 1 (by decide) 1 (by omega); have k5 : w10.cell? ⟨w.heap.size + 1 + 1, 1, none⟩ = some (.slice (some ⟨w.heap.size + 1, 0, none⟩) 2 2) := HC3.out.cell 1; have k6 : w10.cell? ⟨w.heap.size + 1, 2, none⟩ = some (.int .i64 0) := KRow.cell Si.rnC_size HR3.out 1 (by decide) 0 (by omega); have k7 : w10.cell? ⟨w.heap.size + 1, 3, none⟩ = some (.int .i64 4) := KRow.cell Si.rnC_size HR3.out 1 (by decide) 1 (by omega)))
    | fail)
  go_big_quiet (fail)
  go_wp2
  go_returns
  exact ⟨rfl, Go.below_drewN KB.out _⟩

end Go.Proofs.YtillcmddbjhepaaGreatDoor

namespace Go.Proofs.YtillcmddbjhepaaGreatDoor
open Go Go.RowKit Go.Joins
open Go.BigFrame
set_option linter.unusedVariables false
set_option linter.unusedSimpArgs false

theorem flip_all : ∀ (a : Fin 256) (v : Fin 8), 0 ≤ bits .xor .u8 ((a.1 : Nat) : Int) (2 ^ v.1 % 256) ∧ bits .xor .u8 ((a.1 : Nat) : Int) (2 ^ v.1 % 256) ≤ 255 ∧ bits .xor .u8 ((a.1 : Nat) : Int) (2 ^ v.1 % 256) ≠ ((a.1 : Nat) : Int) := by decide +kernel
theorem flip_one (a : UInt8) (v : Nat) (hv : v ≤ 7) : ∃ x : UInt8, bits .xor .u8 (a.toNat : Int) (2 ^ v % 256) = (x.toNat : Int) ∧ x ≠ a := by
  obtain ⟨h1, h2, h3⟩ := flip_all ⟨a.toNat, a.toNat_lt⟩ ⟨v, by omega⟩
  simp only at h1 h2 h3
  refine ⟨UInt8.ofNat (bits .xor .u8 (a.toNat : Int) (2 ^ v % 256)).toNat, ?_, fun e => ?_⟩
  · rw [UInt8.toNat_ofNat']
    omega
  · apply h3
    have := congrArg UInt8.toNat e
    rw [UInt8.toNat_ofNat'] at this
    omega

set_option maxRecDepth 100000 in
set_option maxHeartbeats 4000000 in
theorem invert_any (s : ByteArray) (p v : Nat) (w : World) (hp : p < s.size) (hv : v ≤ 7) (hs : s.size ≤ 140737488351232) :
    Calls Tryz.prog 24 #[.string s, .int .i64 p, .int .i64 v] w fun e w' => ∃ u : ByteArray, e = .returned (.string u) ∧ (∃ x, u.data.toList = s.data.toList.set p x ∧ x ≠ s[p]) ∧ Below w.heap.size w w' := by
  obtain ⟨x, hx, hxn⟩ := flip_one s[p] v hv
  have hk : (convert 60 9 (.slice (some ⟨w.heap.size, 0, none⟩) 1 1)).run Tryz.prog (w.alloc (.cells #[.int .u8 (x.toNat : Int)] 5)).drew = .ok (.string ⟨#[x]⟩) (w.alloc (.cells #[.int .u8 (x.toNat : Int)] 5)).drew := by
    refine Sb.conv_rd (w := (w.alloc (.cells #[.int .u8 (x.toNat : Int)] 5)).drew) (B := w.heap.size + 1) (l := [x]) (fun _ => ⟨w.heap.size, 0, rfl, Nat.lt_succ_self _, ?_⟩) 1 1 rfl _ (fun _ _ => rfl)
    intro j hj
    have : j = 0 := by simp at hj; omega
    subst this
    go_simp
    try simp
  have HU := Lib.hid (show ((s.extract 0 p) ++ ⟨#[x]⟩ ++ (s.extract (p + 1) s.size)).data.toList = s.data.toList.set p x by
    have hpl : p < s.data.toList.length := by rw [← size_len]; exact hp
    rw [app_list, app_list, ext_list, ext_list, List.drop_zero, (set_split hpl x).2, List.take_of_length_le (show s.data.toList.length ≤ s.size by rw [← size_len]; exact Nat.le_refl _)]
    simp)
  have HXN := Lib.hid hxn
  have hpi : (p : Int) < s.size := by omega
  have hsi : (s.size : Int) ≤ 140737488351232 := by omega
  have hvi : (v : Int) ≤ 7 := by omega
  have hz1 : (s.extract 0 p).size = p := by rw [ByteArray.size_extract]; omega
  have hz2 : (s.extract (p + 1) s.size).size = s.size - (p + 1) := by rw [ByteArray.size_extract]; omega
  clear hxn
  go_enter Tryz.func24, Tryz.ntmps24
  go_wp2
  go_region
  go_wp2
  go_returns
  exact ⟨_, rfl, ⟨x, HU.out, HXN.out⟩, (ba w _).drew⟩

end Go.Proofs.YtillcmddbjhepaaGreatDoor

namespace Go.Proofs.YtillcmddbjhepaaGreatDoor
open Go Go.RowKit Go.Joins
open Go.BigFrame
set_option linter.unusedVariables false
set_option linter.unusedSimpArgs false

set_option maxRecDepth 100000 in
set_option maxHeartbeats 4000000 in
theorem law_encodes (N : List ByteArray) (R : List Si.Rn) (vN vR : Value) (w : World) (hE : Sd.Env w) (hN : Si.NmArg w vN N) (hs : Si.szs N) (hR : Si.RnArg w vR R) :
    Calls Tryz.prog 3 #[.agg #[vN, vR]] w fun e w' => e = .returned (.bool true) ∧ Below w.heap.size w w' := by
  have KB := Lib.hid (ba w (.cells #[vN, vR] 25))
  have RB := Lib.hid (RowAt.new w 25 #[vN, vR])
  have CA := Lib.hid (fun W (hb : Below w.heap.size w W) => awake_any W (hE.below hb))
  have CS := Lib.hid (fun W (hb : Below w.heap.size w W) => small_any N R vN vR W (hN.keep hb) (hR.keep hb))
  by_cases hsm : smP N R
  · rw [decide_eq_true hsm] at CS
    have CE := Lib.hid (fun W (hb : Below w.heap.size w W) => encode_any N R vN vR W (hE.below hb) (hN.keep hb) hs (hR.keep hb) (by have := hsm.1; omega))
    have CF := Lib.hid (fun W (hb : Below w.heap.size w W) => rencode_any N R vN vR W (hN.keep hb) hs (hR.keep hb) (by have := hsm.1; omega))
    generalize encS N R = X at *
    generalize Si.ckC N R = z at *
    obtain ⟨A1, c1, rfl, _⟩ := hN.form
    obtain ⟨A2, c2, rfl⟩ := KArg.form hR
    clear hE hN hs hR hsm
    go_enter Tryz.func3, Tryz.ntmps3
    go_wp2_with (first
      | (go_at_call 7; go_must (refine (CS.out _ KB.out).mono ?_; rintro e w1 ⟨rfl, hb⟩; replace KB := Lib.hid (KB.out.trans (hb.mono KB.out.size)); replace RB := Lib.hid (RB.out.keep hb); have j0 := RB.out.cell 0; have j1 := RB.out.cell 1; clear hb CS))
      | (go_at_call 8; go_must (refine (CA.out _ KB.out).mono ?_; rintro e w9 ⟨rfl, hb⟩; replace KB := Lib.hid (KB.out.trans (hb.mono KB.out.size)); clear hb))
      | (go_at_call 9; go_must (refine (CE.out _ KB.out).mono ?_; rintro e w2 ⟨S, rfl, hS, hb⟩; replace KB := Lib.hid (KB.out.trans (hb.mono KB.out.size)); replace RB := Lib.hid (RB.out.keep hb); have k0 := RB.out.cell 0; have k1 := RB.out.cell 1; have HS := Lib.hid hS; clear hb CE hS j0 j1))
      | (go_at_call 10; go_must (refine (CF.out _ KB.out).mono ?_; rintro e w3 ⟨S2, rfl, hS, hb⟩; replace KB := Lib.hid (KB.out.trans (hb.mono KB.out.size)); obtain rfl : S2 = S := Si.eq_of_toList (hS.trans HS.out.symm); have hq : (S2.toList == S2.toList) = true := (Si.str_eq rfl).1; clear hb CF hS k0 k1))
      | fail)
    go_returns
    exact ⟨by simp, KB.out⟩
  · rw [decide_eq_false hsm] at CS
    obtain ⟨A1, c1, rfl, _⟩ := hN.form
    obtain ⟨A2, c2, rfl⟩ := KArg.form hR
    clear hE hN hs hR hsm
    go_enter Tryz.func3, Tryz.ntmps3
    go_wp2_with (first
      | (go_at_call 7; go_must (refine (CS.out _ KB.out).mono ?_; rintro e w1 ⟨rfl, hb⟩; replace KB := Lib.hid (KB.out.trans (hb.mono KB.out.size)); replace RB := Lib.hid (RB.out.keep hb); have j0 := RB.out.cell 0; have j1 := RB.out.cell 1; clear hb CS))
      | (go_at_call 8; go_must (refine (CA.out _ KB.out).mono ?_; rintro e w9 ⟨rfl, hb⟩; replace KB := Lib.hid (KB.out.trans (hb.mono KB.out.size)); clear hb))
      | fail)
    go_returns
    exact ⟨rfl, KB.out⟩

end Go.Proofs.YtillcmddbjhepaaGreatDoor

namespace Go.Proofs.YtillcmddbjhepaaGreatDoor
open Go Go.RowKit Go.Joins
open Go.BigFrame
set_option linter.unusedVariables false
set_option linter.unusedSimpArgs false

set_option maxRecDepth 100000 in
set_option maxHeartbeats 4000000 in
theorem law_decodes (s : ByteArray) (w : World) (hE : Sd.Env w) :
    Calls Tryz.prog 4 #[.string s] w fun e w' => e = .returned (.bool true) ∧ Below w.heap.size w w' := by
  have KB := Lib.hid (Below.refl w.heap.size w)
  have CA := Lib.hid (fun W (hb : Below w.heap.size w W) => awake_any W (hE.below hb))
  by_cases hsm : s.size ≤ 800
  · have hsi : (s.size : Int) ≤ 800 := by omega
    have hsd : decide ((800 : Int) < s.size) = false := decide_eq_false (by omega)
    have CD := Lib.hid (fun W (hb : Below w.heap.size w W) => Decode_any s W (hE.below hb) (by omega))
    have CF := Lib.hid (fun W (hb : Below w.heap.size w W) => rDecode_any s W (by omega))
    have HLL := Lib.hid (show (dc s.data.toList).1.1.length ≤ 1099511627776 ∧ (dc s.data.toList).1.2.length ≤ 1099511627776 by
      by_cases h : (dc s.data.toList).2 = 0
      · have := (okL_of (dc_enc h).2.1).2
        have h1 := this.n16; have h2 := this.len
        omega
      · rw [dc_no h]; exact ⟨by simp, by simp⟩)
    generalize dc s.data.toList = p at *
    obtain ⟨⟨N, R⟩, z⟩ := p
    unfold DcR at CD CF
    simp only at CD CF HLL
    have CX := Lib.hid (fun v1 v2 u1 u2 W (h1 : Si.NmArg W v1 N) (h2 : Si.RnArg W v2 R) (k1 : Si.NmArg W u1 N) (k2 : Si.RnArg W u2 R) => alike_any N R v1 v2 u1 u2 W h1 h2 k1 k2 HLL.out.1 HLL.out.2)
    clear hE
    go_enter Tryz.func4, Tryz.ntmps4
    go_wp2_with (first
      | (go_at_call 8; go_must (refine (CA.out _ KB.out).mono ?_; rintro e w9 ⟨rfl, hb⟩; replace KB := Lib.hid (KB.out.trans (hb.mono KB.out.size)); clear hb))
      | (go_at_call 11; go_must (refine (CD.out _ KB.out).mono ?_; rintro e w1 ⟨vN, vR, rfl, hN, hR, hb⟩; obtain ⟨nA1, nn1, nc1, rfl, hnn⟩ := KRow.form hN; obtain ⟨rA1, rn1, rc1, rfl, hrn⟩ := KRow.form hR; replace KB := Lib.hid ((KB.out.trans (hb.mono KB.out.size)).alloc (KB.out.trans (hb.mono KB.out.size)).size (.cells #[.slice nA1 nn1 nc1, .slice rA1 rn1 rc1] 25)); have RB1 := Lib.hid (RowAt.new w1 25 #[.slice nA1 nn1 nc1, .slice rA1 rn1 rc1]); have HN1 := Lib.hid (KRow.alloc hN (.cells #[.slice nA1 nn1 nc1, .slice rA1 rn1 rc1] 25)); have HR1 := Lib.hid (KRow.alloc hR (.cells #[.slice nA1 nn1 nc1, .slice rA1 rn1 rc1] 25)); clear hnn hrn hN hR hb CD))
      | (go_at_call 12; go_must (refine (CF.out _ KB.out).mono ?_; rintro e w2 ⟨vN, vR, rfl, hN, hR, hb⟩; obtain ⟨nA2, nn2, nc2, rfl, hnn⟩ := KRow.form hN; obtain ⟨rA2, rn2, rc2, rfl, hrn⟩ := KRow.form hR; replace RB1 := Lib.hid ((RB1.out.keep hb).alloc (.cells #[.slice nA2 nn2 nc2, .slice rA2 rn2 rc2] 25)); replace HN1 := Lib.hid (KRow.alloc (KRow.keep HN1.out hb) (.cells #[.slice nA2 nn2 nc2, .slice rA2 rn2 rc2] 25)); replace HR1 := Lib.hid (KRow.alloc (KRow.keep HR1.out hb) (.cells #[.slice nA2 nn2 nc2, .slice rA2 rn2 rc2] 25)); have j0 := RB1.out.cell 0; have j1 := RB1.out.cell 1; replace KB := Lib.hid ((KB.out.trans (hb.mono KB.out.size)).alloc (KB.out.trans (hb.mono KB.out.size)).size (.cells #[.slice nA2 nn2 nc2, .slice rA2 rn2 rc2] 25)); have RB2 := Lib.hid (RowAt.new w2 25 #[.slice nA2 nn2 nc2, .slice rA2 rn2 rc2]); have HN2 := Lib.hid (KRow.alloc hN (.cells #[.slice nA2 nn2 nc2, .slice rA2 rn2 rc2] 25)); have HR2 := Lib.hid (KRow.alloc hR (.cells #[.slice nA2 nn2 nc2, .slice rA2 rn2 rc2] 25)); clear hnn hrn hN hR hb CF))
      | (go_at_call 13; go_must (refine (CX.out _ _ _ _ _ (KRow.name HN1.out) (KRow.arg Si.rnC_size HR1.out) (KRow.name HN2.out) (KRow.arg Si.rnC_size HR2.out)).mono ?_; rintro e w3 ⟨rfl, hb⟩; replace KB := Lib.hid (KB.out.trans (hb.mono KB.out.size)); clear hb CX j0 j1))
      | fail)
    go_returns
    exact ⟨by simp, KB.out⟩
  · have hsi : ¬ (s.size : Int) ≤ 800 := by omega
    have hsd : decide ((800 : Int) < s.size) = true := decide_eq_true (by omega)
    clear hE
    go_enter Tryz.func4, Tryz.ntmps4
    go_wp2_with (first
      | (go_at_call 8; go_must (refine (CA.out _ KB.out).mono ?_; rintro e w9 ⟨rfl, hb⟩; replace KB := Lib.hid (KB.out.trans (hb.mono KB.out.size)); clear hb))
      | fail)
    go_returns
    exact ⟨rfl, KB.out⟩

end Go.Proofs.YtillcmddbjhepaaGreatDoor
