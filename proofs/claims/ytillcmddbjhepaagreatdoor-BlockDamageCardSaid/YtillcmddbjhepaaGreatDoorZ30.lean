/-
  Stored captures, plain mathematics: all blocks, written and read.
  Stored captures, plain mathematics: bytes that are decoded are the stored form; clean runs.
  Stored captures, plain mathematics: the block of a tick, parts.
  Stored captures, plain mathematics: Find, At, Range, case by case.
  The laws' small, same.
  The laws' alike.
  Decode. (Written by tools/s10_genH4.py.)
-/
import Derived.Test.YtillcmddbjhepaaGreatDoorZ29
import Derived.Test.YtillcmddbjhepaaGreatDoorZ09
import Derived.Test.YtillcmddbjhepaaGreatDoorZ28
import Derived.Test.YtillcmddbjhepaaGreatDoorZ11
import Derived.BigQuiet
namespace Go.Proofs.YtillcmddbjhepaaGreatDoor
open Go Si
set_option linter.unusedVariables false
set_option linter.unusedSimpArgs false

theorem pBs_was {ch : Nat} : ∀ {P : List Pt} {L : List Rn}, pBs ch P = some L → ∃ B : List (List Rn), B.length = P.length ∧ L = B.flatten ∧ ∀ j (h : j < P.length) (h' : j < B.length), pBk ch P[j] = some B[j]
  | [], L, h => by rw [pBs] at h; injection h with h; subst h; exact ⟨[], rfl, rfl, fun j h => absurd h (by simp)⟩
  | p :: P, L, h => by
    rw [pBs] at h
    cases hp : pBk ch p with
    | none => rw [hp] at h; cases h
    | some X =>
      rw [hp] at h
      simp only at h
      cases hr : pBs ch P with
      | none => rw [hr] at h; cases h
      | some M =>
        rw [hr] at h
        simp only [Option.map_some, Option.some.injEq] at h
        subst h
        obtain ⟨B, h1, h2, h3⟩ := pBs_was hr
        refine ⟨X :: B, by simp [h1], by rw [h2]; rfl, fun j hj hj' => ?_⟩
        rcases j with _ | j
        · exact hp
        · exact h3 j (by simpa using hj) (by simpa using hj')
theorem pBs_will {ch : Nat} : ∀ {P : List Pt} {B : List (List Rn)}, B.length = P.length → (∀ j (h : j < P.length) (h' : j < B.length), pBk ch P[j] = some B[j]) → pBs ch P = some B.flatten
  | [], [], _, _ => rfl
  | p :: P, X :: B, hl, h => by
    have h0 : pBk ch p = some X := h 0 (by simp) (by simp)
    rw [pBs, h0]
    simp only
    rw [pBs_will (P := P) (B := B) (by simpa using hl) (fun j hj hj' => h (j + 1) (by simpa using hj) (by simpa using hj'))]
    rfl
  | [], _ :: _, hl, _ => absurd hl (by simp)
  | _ :: _, [], hl, _ => absurd hl (by simp)

/-! Blocks of sixteen. -/
theorem flat_drop {R : Nat} {B : List (List Rn)} (hl : B.length = bkN R) (hB : ∀ j (h : j < B.length), B[j].length = szN R j) : ∀ j, j ≤ B.length → B.flatten.drop (16 * j) = (B.drop j).flatten
  | 0, _ => by simp
  | j + 1, hj => by
    rw [show 16 * (j + 1) = 16 * j + 16 by omega, ← List.drop_drop, flat_drop hl hB j (by omega), List.drop_eq_getElem_cons (by omega : j < B.length), List.flatten_cons]
    have h1 := hB j (by omega)
    by_cases c : j + 1 < B.length
    · have : szN R j = 16 := by unfold szN; unfold bkN at hl; omega
      rw [List.drop_append_of_le_length (by omega), List.drop_of_length_le (by omega), List.nil_append]
    · have e : B.drop (j + 1) = [] := List.drop_of_length_le (by omega)
      rw [e, List.flatten_nil, List.append_nil, List.drop_of_length_le (by have := szN_le R j; omega)]
theorem flat_blk {R : Nat} {B : List (List Rn)} (hl : B.length = bkN R) (hB : ∀ j (h : j < B.length), B[j].length = szN R j) (j : Nat) (hj : j < B.length) : blk B.flatten j = B[j] := by
  unfold blk
  rw [flat_drop hl hB j (by omega), List.drop_eq_getElem_cons hj, List.flatten_cons]
  have h1 := hB j hj
  by_cases c : j + 1 < B.length
  · have : szN R j = 16 := by unfold szN; unfold bkN at hl; omega
    rw [List.take_append_of_le_length (by omega), List.take_of_length_le (by omega)]
  · have e : B.drop (j + 1) = [] := List.drop_of_length_le (by omega)
    rw [e, List.flatten_nil, List.append_nil, List.take_of_length_le (by have := szN_le R j; omega)]
theorem flat_len {R : Nat} {B : List (List Rn)} (hl : B.length = bkN R) (hB : ∀ j (h : j < B.length), B[j].length = szN R j) : B.flatten.length = R := by
  by_cases h0 : B.length = 0
  · have : B = [] := List.eq_nil_of_length_eq_zero h0
    subst this
    unfold bkN at hl
    simp at hl ⊢
    omega
  · have h1 := hB (B.length - 1) (by omega)
    have h2 := flat_drop hl hB (B.length - 1) (by omega)
    rw [List.drop_eq_getElem_cons (by omega : B.length - 1 < B.length), List.drop_of_length_le (by omega : B.length ≤ B.length - 1 + 1), List.flatten_cons, List.flatten_nil, List.append_nil] at h2
    have h3 := congrArg List.length h2
    rw [List.length_drop, h1] at h3
    have h4 := (szN_at (n := R) (k := B.length - 1) (by omega))
    have h5 : szN R (B.length - 1) = R - 16 * (B.length - 1) := by unfold szN; unfold bkN at hl; omega
    omega

/-! The table of a capture. -/
def enK (L : List Rn) (k : Nat) : En := ((lg (L.take (16 * k))).toNat, (bb (blk L k)).length, ck (bb (blk L k)))
def enL (L : List Rn) : List En := (List.range (bkN L.length)).map (enK L)
theorem enL_len (L : List Rn) : (enL L).length = bkN L.length := by simp [enL]
theorem enL_at (L : List Rn) (k : Nat) (h : k < (enL L).length) : (enL L)[k] = enK L k := by simp [enL]
theorem ents_enL (L : List Rn) (n : Nat) : ents L n = entsE ((List.range n).map (enK L)) := by
  unfold ents entsE
  rw [List.flatMap_map]
  rfl
theorem hdF_hdE (N : List ByteArray) (L : List Rn) : hdF N L = hdE N L.length (lg L).toNat (enL L) := by
  unfold hdF hdE enL
  rw [ents_enL]
  simp only [List.append_assoc]
theorem enc_hdE (N : List ByteArray) (L : List Rn) : enc N L = hdE N L.length (lg L).toNat (enL L) ++ (four (ck (hdE N L.length (lg L).toNat (enL L))) ++ bdy L (bkN L.length)) := by
  unfold enc; rw [hdF_hdE, List.append_assoc]
theorem szE_enL (L : List Rn) : ∀ j, j ≤ bkN L.length → szE ((enL L).take j) = (bdy L j).length
  | 0, _ => by simp [szE, bdy]
  | j + 1, h => by
    rw [szE_take _ _ (by rw [enL_len]; omega), szE_enL L j (by omega), bdy_succ, List.length_append, enL_at]
    rfl
theorem bdy_drop (L : List Rn) (n : Nat) : ∀ j, j < n → ((bdy L n).drop (bdy L j).length).take (bb (blk L j)).length = bb (blk L j) := by
  induction n with
  | zero => intro j h; omega
  | succ n ih =>
    intro j h
    rw [bdy_succ]
    by_cases c : j < n
    · have hle : (bdy L j).length + (bb (blk L j)).length ≤ (bdy L n).length := by
        have h1 := ih j c
        have h2 := congrArg List.length h1
        rw [List.length_take, List.length_drop] at h2
        by_cases h3 : (bb (blk L j)).length = 0
        · have : ∀ m k, k ≤ m → (bdy L k).length ≤ (bdy L m).length := by
            intro m
            induction m with
            | zero => intro k hk; obtain rfl : k = 0 := (by omega); exact Nat.le_refl _
            | succ m ihm =>
              intro k hk
              rcases Nat.eq_or_lt_of_le hk with e | e
              · subst e; exact Nat.le_refl _
              · rw [bdy_succ, List.length_append]; have := ihm k (by omega); omega
          have := this n j (by omega)
          omega
        · omega
      rw [List.drop_append_of_le_length (by omega), List.take_append_of_le_length (by rw [List.length_drop]; omega)]
      exact ih j c
    · obtain rfl : j = n := by omega
      simp
/-- What is asked of clean runs that are stored. -/
structure OkL (N : List ByteArray) (L : List Rn) : Prop where
  n16 : N.length ≤ 16
  nsz : ∀ s ∈ N, s.size ≤ 16
  len : L.length ≤ 262144
  lgT : lg L ≤ 1099511627776
  run : ∀ r ∈ L, okRn (2 ^ N.length - 1) r
theorem OkL.ps {N : List ByteArray} {L : List Rn} (h : OkL N L) : ps L := fun r hr => (h.run r hr).2.2.1
theorem okRn_bb {m : Nat} {L : List Rn} (hm : m ≤ 65535) (h : ∀ r ∈ L, okRn m r) : (bb L).length ≤ 20 * L.length :=
  bb_len fun r hr => by have := h r hr; obtain ⟨h1, h2, h3, h4⟩ := this; omega
theorem pow_ch {n : Nat} (h : n ≤ 16) : 2 ^ n - 1 ≤ 65535 ∧ 1 ≤ 2 ^ n := by
  have : 2 ^ n ≤ 2 ^ 16 := Nat.pow_le_pow_right (by omega) h
  have := Nat.two_pow_pos n
  omega
theorem blk_mem {L : List Rn} {k : Nat} {r : Rn} (h : r ∈ blk L k) : r ∈ L := List.mem_of_mem_drop (List.mem_of_mem_take h)
theorem blk_okRn {m : Nat} {L : List Rn} (h : ∀ r ∈ L, okRn m r) (k : Nat) : ∀ r ∈ blk L k, okRn m r := fun r hr => h r (blk_mem hr)
theorem lg_toNat {L : List Rn} (h : ps L) : ((lg L).toNat : Int) = lg L := by have := ps_nonneg h; omega
theorem OkL.en {N : List ByteArray} {L : List Rn} (h : OkL N L) : ∀ x ∈ enL L, okE x := by
  intro x hx
  obtain ⟨k, hk, rfl⟩ := List.getElem_of_mem hx
  rw [enL_at]
  have h1 := okRn_bb (pow_ch h.n16).1 (blk_okRn h.run k)
  have h2 : (blk L k).length ≤ 16 := by rw [blk_len]; exact szN_le _ _
  have h3 := ps_nonneg (ps_take h.ps (16 * k))
  have h4 := ps_nonneg (ps_drop h.ps (16 * k))
  have h5 := lg_split L (16 * k)
  have h6 := h.lgT
  refine ⟨?_, ?_, ck_lt _⟩
  · show (lg (L.take (16 * k))).toNat ≤ 1099511627776; omega
  · show (bb (blk L k)).length ≤ 1048576; omega
theorem eA_enL (L : List Rn) (k : Nat) (h : k ≤ bkN L.length) : eA (enL L) (lg L).toNat k = (lg (L.take (16 * k))).toNat := by
  unfold eA
  by_cases c : k < (enL L).length
  · rw [dif_pos c, enL_at]; rfl
  · rw [dif_neg c, List.take_of_length_le]
    rw [enL_len] at c; unfold bkN at c; omega
theorem OkL.asc {N : List ByteArray} {L : List Rn} (h : OkL N L) : asc (enL L) (lg L).toNat := by
  rw [asc_iff]
  refine ⟨by rw [eA_enL L 0 (Nat.zero_le _)]; simp [lg], fun k hk => ?_⟩
  have hk' : k < bkN L.length := by rw [enL_len] at hk; exact hk
  rw [eA_enL L (k + 1) (by omega), enL_at]
  show (lg (L.take (16 * k))).toNat < _
  obtain ⟨h1, h2, h3⟩ := lg_blk h.ps k
  have h4 := ps_nonneg (ps_take h.ps (16 * k))
  have h5 := ps_len (ps_take (ps_drop h.ps (16 * k)) 16)
  have h6 : (blk L k).length = szN L.length k := blk_len L k
  have h7 := (szN_at hk').2.1
  unfold blk at h2 h6
  omega

/-- The stored form is read: its head and its blocks. -/
theorem rd_enc {N : List ByteArray} {L : List Rn} (h : OkL N L) :
    ∃ b, rd (enc N L) = ((N, L.length, (lg L).toNat, enL L, b), 0) ∧ b = (enc N L).length - (bdy L (bkN L.length)).length ∧ b ≤ (enc N L).length ∧ (enc N L).drop b = bdy L (bkN L.length) ∧ hdPts (enc N L) = pts L (bkN L.length) := by
  have h6 := h.lgT
  have hsz : szE (enL L) = (bdy L (bkN L.length)).length := by
    have := szE_enL L (bkN L.length) (Nat.le_refl _)
    rw [List.take_of_length_le (by rw [enL_len]; omega)] at this
    exact this
  obtain ⟨h1, h2⟩ := rd_will (l := enc N L) (q := bdy L (bkN L.length)) (enc_hdE N L) h.n16 h.nsz h.len (by omega) (enL_len L) h.en h.asc hsz
  have hln := congrArg List.length (enc_hdE N L)
  simp only [List.length_append, four_len] at hln
  refine ⟨_, h1, by omega, by omega, h2, ?_⟩
  unfold hdPts
  rw [h1]
  simp only
  rw [h2]
  apply List.ext_getElem (by rw [ptG_len, pts_len, enL_len])
  intro j i1 i2
  have hj : j < (enL L).length := by rw [ptG_len] at i1; exact i1
  have hj' : j < bkN L.length := by rw [enL_len] at hj; exact hj
  rw [ptG_at, pts_at, if_pos hj, enL_at, eT_eA, eA_enL L (j + 1) (by omega)]
  unfold ptK
  have e : bkB (enL L) (bdy L (bkN L.length)) j (enK L j).2.1 = bb (blk L j) := by
    unfold bkB
    rw [szE_enL L j (by omega)]
    exact bdy_drop L _ j hj'
  rw [e]
  rfl
/-- A block of the stored form is read. -/
theorem pBk_enc {N : List ByteArray} {L : List Rn} (h : OkL N L) (k : Nat) (hk : k < bkN L.length) : pBk N.length (ptK L k) = some (blk L k) := by
  unfold pBk ptK
  simp only
  obtain ⟨h1, h2, h3⟩ := lg_blk h.ps k
  have h4 := ps_nonneg (ps_take h.ps (16 * k))
  rw [← blk_len]
  exact rBk_will (by have := pow_ch h.n16; omega) (blk_okRn h.run k) (by omega)
theorem blks_flat (L : List Rn) : ((List.range (bkN L.length)).map (blk L)).flatten = L := by
  have h1 : ∀ n, n ≤ bkN L.length → ((List.range n).map (blk L)).flatten = L.take (16 * n) := by
    intro n
    induction n with
    | zero => intro _; simp
    | succ n ih =>
      intro hn
      rw [List.range_succ, List.map_append, List.flatten_append, ih (by omega)]
      simp only [List.map_cons, List.map_nil, List.flatten_cons, List.flatten_nil, List.append_nil]
      unfold blk
      rw [show 16 * (n + 1) = 16 * n + 16 by omega, List.take_add]
  rw [h1 _ (Nat.le_refl _), List.take_of_length_le]
  unfold bkN; omega
theorem pBs_enc {N : List ByteArray} {L : List Rn} (h : OkL N L) : pBs N.length (pts L (bkN L.length)) = some L := by
  rw [pBs_will (B := (List.range (bkN L.length)).map (blk L)) (by simp [pts]) (fun j h1 h2 => ?_), blks_flat]
  rw [pts_at]
  simp only [List.getElem_map, List.getElem_range]
  exact pBk_enc h j (by rw [pts_len] at h1; exact h1)

end Go.Proofs.YtillcmddbjhepaaGreatDoor

namespace Go.Proofs.YtillcmddbjhepaaGreatDoor
open Go Si
set_option linter.unusedVariables false
set_option linter.unusedSimpArgs false

/-! Clean runs. -/
theorem clP_al (l : List Rn) : clP l ↔ al l := by
  unfold clP al
  constructor
  · intro h i hi
    have := h (i + 1) hi (by omega)
    rw [Nat.add_sub_cancel, l0_at (by omega : i < l.length), l0_at hi] at this
    exact this
  · intro h i hi h0
    obtain ⟨j, rfl⟩ : ∃ j, i = j + 1 := ⟨i - 1, by omega⟩
    rw [Nat.add_sub_cancel, l0_at (by omega : j < l.length), l0_at hi]
    exact h j hi
theorem al_pre {a b : List Rn} (h : al (a ++ b)) : al a := fun i hi => by
  have := h i (by rw [List.length_append]; omega)
  rw [List.getElem_append_left (by omega), List.getElem_append_left (by omega)] at this
  exact this
theorem fold_id : ∀ (l o : List Rn), al (o ++ l) → l.foldl pt o = o ++ l
  | [], o, _ => by simp
  | r :: l, o, h => by
    rw [List.foldl_cons]
    have e : pt o r = o ++ [r] := by
      rcases nil_or_snoc o with rfl | ⟨o', x, rfl⟩
      · rfl
      · rw [pt_snoc, if_neg]
        have := h o'.length (by simp)
        simpa using this
    rw [e, fold_id l (o ++ [r]) (by rw [List.append_assoc]; exact h), List.append_assoc]
    rfl
theorem jn_id {l : List Rn} (h : al l) : jn l = l := by unfold jn; rw [fold_id l [] h]; rfl
theorem fold_eq : ∀ (l o : List Rn), (l.foldl pt o).length = o.length + l.length → l.foldl pt o = o ++ l
  | [], o, _ => by simp
  | r :: l, o, h => by
    rw [List.foldl_cons] at h ⊢
    have h1 := (fold_len l (pt o r)).1
    have h2 := (pt_len o r).1
    rw [List.length_cons] at h
    have e : pt o r = o ++ [r] := by
      rcases nil_or_snoc o with rfl | ⟨o', x, rfl⟩
      · rfl
      · rw [pt_snoc]
        by_cases c : x.1 = r.1
        · exfalso
          have : pt (o' ++ [x]) r = o' ++ [(x.1, x.2 + r.2)] := by rw [pt_snoc, if_pos c]
          rw [this] at h1
          simp only [List.length_append, List.length_cons, List.length_nil] at h h1
          rw [this] at h
          omega
        · rw [if_neg c]
    rw [e] at h ⊢
    rw [fold_eq l (o ++ [r]) (by rw [h, List.length_append]; simp; omega), List.append_assoc]
    rfl
theorem clP_jn (l : List Rn) : clP l ↔ (jn l).length = l.length := by
  rw [clP_al]
  constructor
  · intro h; rw [jn_id h]
  · intro h
    have := fold_eq l [] (by unfold jn at h; rw [h]; simp)
    have e : jn l = l := by unfold jn; rw [this]; rfl
    rw [← e]; exact jn_al l

/-- All blocks of a head that was read. -/
theorem dec_was {l : List UInt8} {N : List ByteArray} {R T : Nat} {E : List En} {b : Nat} (h : rd l = ((N, R, T, E, b), 0)) {L : List Rn} (hL : pBs N.length (hdPts l) = some L) :
    OkL N L ∧ R = L.length ∧ (T : Int) = lg L ∧ E = enL L ∧ l = enc N L ∧ hdPts l = pts L (bkN L.length) := by
  obtain ⟨e1, e2, e3, e4, e5, e6⟩ := rd_was h
  have hi : rH l = ((N, R, T, E, b), 0) := by
    rcases rd_form l with ⟨e, h0, hx⟩ | ⟨N', R', T', E', b', hx, _, hy⟩
    · rw [h] at hx; injection hx with _ hx; exact absurd hx.symm h0
    · rw [h] at hx; rw [hx]; exact hy
  obtain ⟨q1, q2, q3, q4, q5, q6⟩ := rH_inv hi
  obtain ⟨B, b1, b2, b3⟩ := pBs_was hL
  have hPl : (hdPts l).length = E.length := by rw [hdPts_len, h]
  have hP : ∀ j (hj : j < (hdPts l).length) (hj' : j < E.length), (hdPts l)[j] = (E[j].1, eT E T j, szN R j, E[j].2.1, E[j].2.2, ⟨(bkB E (l.drop b) j E[j].2.1).toArray⟩) := by
    intro j hj hj'
    have : hdPts l = ptG R E T (l.drop b) E.length := by unfold hdPts; rw [h]
    simp only [this, ptG_at]
    rw [if_pos hj']
  have hB : ∀ j (hj : j < B.length) (hj' : j < E.length), bkB E (l.drop b) j E[j].2.1 = bb B[j] ∧ ck (bkB E (l.drop b) j E[j].2.1) = E[j].2.2 ∧ B[j].length = szN R j ∧ lg B[j] = ((eT E T j - E[j].1 : Nat) : Int) ∧ ∀ r ∈ B[j], okRn (2 ^ N.length - 1) r := by
    intro j hj hj'
    have := b3 j (by omega) hj
    rw [hP j (by omega) hj'] at this
    unfold pBk at this
    exact rBk_was this
  have hBl : B.length = bkN R := by rw [b1, hPl, q4]
  have hB2 : ∀ j (hj : j < B.length), B[j].length = szN R j := fun j hj => (hB j hj (by omega)).2.2.1
  have hR : L.length = R := by rw [b2]; exact flat_len hBl hB2
  have hbk : ∀ j (hj : j < B.length), blk L j = B[j] := fun j hj => by rw [b2]; exact flat_blk hBl hB2 j hj
  have hrun : ∀ r ∈ L, okRn (2 ^ N.length - 1) r := by
    intro r hr
    rw [b2] at hr
    obtain ⟨X, hX, hrX⟩ := List.mem_flatten.1 hr
    obtain ⟨j, hj, rfl⟩ := List.getElem_of_mem hX
    exact (hB j hj (by omega)).2.2.2.2 r hrX
  have hps : ps L := fun r hr => (hrun r hr).2.2.1
  obtain ⟨a0, a1⟩ := (asc_iff E T).1 e4
  have hlgT : ∀ j, j ≤ E.length → lg (L.take (16 * j)) = (eA E T j : Int) := by
    intro j
    induction j with
    | zero => intro _; rw [a0]; simp [lg]
    | succ j ih =>
      intro hj
      obtain ⟨g1, g2, g3⟩ := lg_blk hps j
      have h1 := (hB j (by omega) (by omega)).2.2.2.1
      have h2 := a1 j (by omega)
      have h3 := ih (by omega)
      rw [eA_in (by omega : j < E.length)] at h3
      rw [eT_eA] at h1
      rw [g2, hbk j (by omega), h1, h3]
      omega
  have hT : lg L = T := by
    have := hlgT E.length (Nat.le_refl _)
    rw [List.take_of_length_le (by rw [hR, q4]; unfold bkN; omega)] at this
    rw [this]; unfold eA; rw [dif_neg (by omega)]
  have hE : E = enL L := by
    apply List.ext_getElem (by rw [enL_len, hR, q4])
    intro j h1 h2
    rw [enL_at]
    obtain ⟨c1, c2, c3, c4, c5⟩ := hB j (by omega) h1
    have h3 := hlgT j (by omega)
    rw [eA_in h1] at h3
    unfold enK
    rw [hbk j (by omega), ← c1, h3, c2]
    have h4 : (bkB E (l.drop b) j E[j].2.1).length = E[j].2.1 := by
      unfold bkB
      rw [List.length_take, List.length_drop]
      have h5 := szE_take E j h1
      have h6 := szE_le E (j + 1)
      omega
    rw [h4]
    rfl
  have hrest : ∀ j, j ≤ E.length → (l.drop b).take (szE (E.take j)) = bdy L j := by
    intro j
    induction j with
    | zero => intro _; simp [szE, bdy]
    | succ j ih =>
      intro hj
      rw [szE_take E j (by omega), List.take_add, ih (by omega), bdy_succ, hbk j (by omega), ← (hB j (by omega) (by omega)).1]
      rfl
  have hrest2 : l.drop b = bdy L (bkN L.length) := by
    have := hrest E.length (Nat.le_refl _)
    rw [List.take_of_length_le (Nat.le_refl E.length), e5, List.take_of_length_le (Nat.le_refl _), q4] at this
    rw [this, hR]
  have hlen : l = enc N L := by
    rw [enc_hdE, ← hE, ← hrest2, hR, hT]
    exact e1
  have hok : OkL N L := ⟨q6, e6, by omega, by rw [hT]; omega, hrun⟩
  refine ⟨hok, hR.symm, hT.symm, hE, hlen, ?_⟩
  obtain ⟨_, _, _, _, _, k⟩ := rd_enc hok
  rw [hlen]
  exact k

/-- Decode: what it gives. -/
def dc (l : List UInt8) : (List ByteArray × List Rn) × Int :=
  if (rd l).2 = 0 then (match pBs (rd l).1.1.length (hdPts l) with
    | none => (([], []), 12)
    | some L => if clP L then (if ckC (rd l).1.1 L = 0 then (((rd l).1.1, L), 0) else (([], []), ckC (rd l).1.1 L)) else (([], []), 12))
  else (([], []), (rd l).2)
theorem dc_1 {l : List UInt8} (h : ¬ (rd l).2 = 0) : dc l = (([], []), ((rd l).2 : Int)) := by unfold dc; rw [if_neg h]
theorem dc_2 {l : List UInt8} (h : (rd l).2 = 0) (h2 : pBs (rd l).1.1.length (hdPts l) = none) : dc l = (([], []), 12) := by unfold dc; rw [if_pos h, h2]
theorem dc_3 {l : List UInt8} (h : (rd l).2 = 0) {L : List Rn} (h2 : pBs (rd l).1.1.length (hdPts l) = some L) (h3 : ¬ clP L) : dc l = (([], []), 12) := by unfold dc; rw [if_pos h, h2]; simp only; rw [if_neg h3]
theorem dc_4 {l : List UInt8} (h : (rd l).2 = 0) {L : List Rn} (h2 : pBs (rd l).1.1.length (hdPts l) = some L) (h3 : clP L) (h4 : ¬ ckC (rd l).1.1 L = 0) : dc l = (([], []), ckC (rd l).1.1 L) := by unfold dc; rw [if_pos h, h2]; simp only; rw [if_pos h3, if_neg h4]
theorem dc_5 {l : List UInt8} (h : (rd l).2 = 0) {L : List Rn} (h2 : pBs (rd l).1.1.length (hdPts l) = some L) (h3 : clP L) (h4 : ckC (rd l).1.1 L = 0) : dc l = (((rd l).1.1, L), 0) := by unfold dc; rw [if_pos h, h2]; simp only; rw [if_pos h3, if_pos h4]
/-- What is decoded is the stored form of its capture. -/
theorem dc_enc {l : List UInt8} (h : (dc l).2 = 0) : l = enc (dc l).1.1 (dc l).1.2 ∧ ckC (dc l).1.1 (dc l).1.2 = 0 ∧ jn (dc l).1.2 = (dc l).1.2 := by
  by_cases h1 : (rd l).2 = 0
  · cases h2 : pBs (rd l).1.1.length (hdPts l) with
    | none => rw [dc_2 h1 h2] at h; exact absurd h (by decide)
    | some L =>
      by_cases h3 : clP L
      · by_cases h4 : ckC (rd l).1.1 L = 0
        · rw [dc_5 h1 h2 h3 h4]
          obtain ⟨⟨⟨N, R, T, E, b⟩, e⟩, hr⟩ : ∃ p, rd l = p := ⟨_, rfl⟩
          rw [hr] at h1 h2 h4 ⊢
          simp only at h1
          subst h1
          exact ⟨(dec_was hr h2).2.2.2.2.1, h4, jn_id ((clP_al L).1 h3)⟩
        · rw [dc_4 h1 h2 h3 h4] at h; exact absurd h h4
      · rw [dc_3 h1 h2 h3] at h; exact absurd h (by decide)
  · rw [dc_1 h1] at h; simp only at h; omega
theorem dc_no {l : List UInt8} (h : ¬ (dc l).2 = 0) : dc l = (([], []), (dc l).2) := by
  by_cases h1 : (rd l).2 = 0
  · cases h2 : pBs (rd l).1.1.length (hdPts l) with
    | none => rw [dc_2 h1 h2]
    | some L =>
      by_cases h3 : clP L
      · by_cases h4 : ckC (rd l).1.1 L = 0
        · rw [dc_5 h1 h2 h3 h4] at h; exact absurd rfl h
        · rw [dc_4 h1 h2 h3 h4]
      · rw [dc_3 h1 h2 h3]
  · rw [dc_1 h1]
/-- A capture that is valid may be stored. -/
theorem okL_of {N : List ByteArray} {R : List Rn} (h : ckC N R = 0) : OkL N (jn R) ∧ OkL N R := by
  obtain ⟨h1, h2, h3, h4, h5, h6⟩ := ckC_ok h
  obtain ⟨v1, v2, v3⟩ := (vr_iff _ _ 0 (by omega)).1 h6
  have hn : ∀ s ∈ N, s.size ≤ 16 := fun s hs => by
    have h := nm_le (List.all_eq_true.1 h5 s hs)
    rw [size_len]; exact h
  have hm := mk_nat N.length
  have hp := pow_ch h4
  have key : ∀ L : List Rn, lv (mk N.length) L → ps L → lg L ≤ 1099511627776 → L.length ≤ 262144 → OkL N L := fun L k1 k2 k3 k4 => by
    refine ⟨h4, hn, k4, k3, fun r hr => ?_⟩
    have g1 := k1 r hr
    have g2 := k2 r hr
    have g3 : r.2 ≤ lg L := by
      obtain ⟨i, hi, rfl⟩ := List.getElem_of_mem hr
      have e1 := lg_take L i hi
      have e2 := ps_nonneg (ps_take k2 i)
      have e3 := lg_split L (i + 1)
      have e4 := ps_nonneg (ps_drop k2 (i + 1))
      omega
    refine ⟨g1.1, ?_, g2, by omega⟩
    rw [hm] at g1
    omega
  refine ⟨key _ (jn_lv v1) (jn_ps v2) (by rw [jn_lg]; omega) (Nat.le_trans (jn_len R) h1), key R v1 v2 (by omega) h1⟩
theorem ckC_jn {N : List ByteArray} {R : List Rn} (h : ckC N R = 0) : ckC N (jn R) = 0 := by
  obtain ⟨h1, h2, h3, h4, h5, h6⟩ := ckC_ok h
  exact ckC_0 (by have := jn_len R; omega) h2 (jn_vr h6)
/-- The stored form is decoded. -/
theorem dc_of {N : List ByteArray} {R : List Rn} (h : ckC N R = 0) : dc (enc N (jn R)) = ((N, jn R), 0) := by
  have ho := (okL_of h).1
  obtain ⟨b, h1, _, _, _, h2⟩ := rd_enc ho
  have h3 := pBs_enc ho
  have := dc_5 (l := enc N (jn R)) (L := jn R) (by rw [h1]) (by rw [h2, h1]; exact h3) ((clP_al _).2 (jn_al R)) (by rw [h1]; exact ckC_jn h)
  rw [this, h1]

end Go.Proofs.YtillcmddbjhepaaGreatDoor

namespace Go.Proofs.YtillcmddbjhepaaGreatDoor
open Go Si
set_option linter.unusedVariables false
set_option linter.unusedSimpArgs false

/-- The last one of n blocks that begins at or before a tick. -/
def plc (E : List En) (at_ : Int) : Nat → Nat
  | 0 => 0
  | i + 1 => if (((E.getD i (0, 0, 0)).1 : Nat) : Int) ≤ at_ then i else plc E at_ i
theorem getD_at {E : List En} {i : Nat} (h : i < E.length) : E.getD i (0, 0, 0) = E[i] := by rw [List.getD_eq_getElem?_getD, List.getElem?_eq_getElem h]; rfl
theorem plc_lt (E : List En) (at_ : Int) : ∀ n, 0 < n → plc E at_ n < n
  | 0, h => absurd h (by omega)
  | n + 1, _ => by
    rw [plc]
    split
    · omega
    · rcases Nat.eq_zero_or_pos n with h | h
      · subst h; show 0 < 1; omega
      · have := plc_lt E at_ n h; omega
theorem plc_eq {E : List En} {at_ : Int} {k : Nat} : ∀ n, k < n → n ≤ E.length → ((E.getD k (0, 0, 0)).1 : Int) ≤ at_ → (∀ t, k < t → t < n → at_ < ((E.getD t (0, 0, 0)).1 : Int)) → plc E at_ n = k
  | 0, h, _, _, _ => absurd h (by omega)
  | n + 1, h, hn, h1, h2 => by
    rw [plc]
    rcases Nat.lt_succ_iff_lt_or_eq.1 h with h | h
    · rw [if_neg (by have := h2 n h (by omega); omega)]
      exact plc_eq n h (by omega) h1 (fun t a b => h2 t a (by omega))
    · subst h; rw [if_pos h1]
/-- The block of a tick: between its ends. -/
theorem plc_in {E : List En} {T : Nat} (ha : asc E T) {at_ : Int} (h0 : 0 ≤ at_) (h1 : at_ < T) : plc E at_ E.length < E.length ∧ (eA E T (plc E at_ E.length) : Int) ≤ at_ ∧ at_ < (eA E T (plc E at_ E.length + 1) : Int) := by
  obtain ⟨a0, a1⟩ := (asc_iff E T).1 ha
  have hne : 0 < E.length := by
    rcases Nat.eq_zero_or_pos E.length with h | h
    · unfold eA at a0; rw [dif_neg (by omega)] at a0; omega
    · exact h
  have key : ∀ n, 0 < n → n ≤ E.length → (eA E T (plc E at_ n) : Int) ≤ at_ ∧ (at_ < (eA E T n : Int) → at_ < (eA E T (plc E at_ n + 1) : Int)) := by
    intro n
    induction n with
    | zero => intro h; omega
    | succ n ih =>
      intro _ hn
      rw [plc]
      by_cases c : ((E.getD n (0, 0, 0)).1 : Int) ≤ at_
      · rw [if_pos c]
        rw [getD_at (by omega : n < E.length), ← eA_in (T := T) (by omega : n < E.length)] at c
        exact ⟨c, id⟩
      · rw [if_neg c]
        rw [getD_at (by omega : n < E.length), ← eA_in (T := T) (by omega : n < E.length)] at c
        have hn0 : 0 < n := by
          rcases Nat.eq_zero_or_pos n with h | h
          · subst h; rw [a0] at c; omega
          · exact h
        obtain ⟨i1, i2⟩ := ih hn0 (by omega)
        exact ⟨i1, fun _ => i2 (by omega)⟩
  obtain ⟨k1, k2⟩ := key E.length hne (Nat.le_refl _)
  refine ⟨plc_lt E at_ _ hne, k1, k2 ?_⟩
  unfold eA; rw [dif_neg (by omega)]; exact h1
/-- The first block that ends behind a tick is the last one that begins at or before it. -/
theorem fdI_plc {l : List UInt8} {N : List ByteArray} {R T : Nat} {E : List En} {b : Nat} (h : rd l = ((N, R, T, E, b), 0)) {at_ : Int} (h0 : 0 ≤ at_) (h1 : at_ < T) {k : Nat} (hk : FdI (hdPts l) at_ k) : k = plc E at_ E.length := by
  have ha := (rd_was h).2.2.2.1
  obtain ⟨p1, p2, p3⟩ := plc_in ha h0 h1
  obtain ⟨k1, k2, k3⟩ := hk
  have hl : (hdPts l).length = E.length := by rw [hdPts_len, h]
  generalize plc E at_ E.length = m at *
  have e1 := hdPts_end h m p1
  rcases Nat.lt_trichotomy k m with c | c | c
  · exfalso
    have h4 := k3 (m - 1) (by omega) (by omega)
    rw [hdPts_end h (m - 1) (by omega), show m - 1 + 1 = m by omega] at h4
    omega
  · exact c
  · exfalso
    have h4 := k2 m c
    rw [e1] at h4
    omega

/-- Find: what it gives. -/
def fdR (l : List UInt8) (at_ : Int) : Nat × Nat := if (rd l).2 = 0 then (if 0 ≤ at_ ∧ at_ < ((rd l).1.2.2.1 : Int) then (plc (rd l).1.2.2.2.1 at_ (rd l).1.2.2.2.1.length, 0) else (0, 2)) else (0, (rd l).2)
/-- At: what it gives. -/
def atR (l : List UInt8) (at_ : Int) : Int × Nat :=
  if (fdR l at_).2 = 0 then (match pBk (rd l).1.1.length ((hdPts l).getD (fdR l at_).1 (0, 0, 0, 0, 0, ⟨#[]⟩)) with
    | none => (0, 12)
    | some L => ((atv L (at_ - ((hdPts l).getD (fdR l at_).1 (0, 0, 0, 0, 0, ⟨#[]⟩)).1)).1, 0))
  else (0, (fdR l at_).2)
/-- The blocks from one to another one. -/
def sub (P : List Pt) (i k : Nat) : List Pt := (P.drop i).take (k + 1 - i)
/-- Range: what it gives. -/
def rgR (l : List UInt8) (f t : Int) : List Rn × Nat :=
  if (rd l).2 = 0 then
    (if 0 ≤ f ∧ f < t ∧ t ≤ ((rd l).1.2.2.1 : Int) then
      (match pBs (rd l).1.1.length (sub (hdPts l) (fdR l f).1 (fdR l (t - 1)).1) with
        | none => ([], 12)
        | some L => (prt L (f - ((hdPts l).getD (fdR l f).1 (0, 0, 0, 0, 0, ⟨#[]⟩)).1) (t - ((hdPts l).getD (fdR l f).1 (0, 0, 0, 0, 0, ⟨#[]⟩)).1), 0))
    else ([], 2))
  else ([], (rd l).2)
theorem sub_len (P : List Pt) (i k : Nat) (h1 : i ≤ k) (h2 : k < P.length) : (sub P i k).length = k + 1 - i := by unfold sub; rw [List.length_take, List.length_drop]; omega
theorem sub_at (P : List Pt) (i k j : Nat) (hj : j < (sub P i k).length) (hj2 : i + j < P.length) : (sub P i k)[j] = P[i + j] := by simp only [sub, List.getElem_take, List.getElem_drop]
theorem sub_mem {P : List Pt} {i k : Nat} {p : Pt} (h : p ∈ sub P i k) : p ∈ P := List.mem_of_mem_drop (List.mem_of_mem_take h)

/-! Parts. -/
theorem s1_shift (b : Int) (r : Rn) (f t c : Int) : s1 (b + c) r f t = s1 b r (f - c) (t - c) := by
  unfold s1
  rw [show min (b + c + r.2) t = min (b + r.2) (t - c) + c by omega, show max (b + c) f = max b (f - c) + c by omega]
  by_cases h : max b (f - c) < min (b + r.2) (t - c)
  · rw [if_pos h, if_pos (by omega), show min (b + r.2) (t - c) + c - (max b (f - c) + c) = min (b + r.2) (t - c) - max b (f - c) by omega]
  · rw [if_neg h, if_neg (by omega)]
theorem sl_shift (l : List Rn) : ∀ (b f t c : Int), sl (b + c) l f t = sl b l (f - c) (t - c) := by
  induction l with
  | nil => intros; rfl
  | cons r l ih =>
    intro b f t c
    rw [sl_cons, sl_cons, s1_shift, show b + c + r.2 = b + r.2 + c by omega, ih]
theorem sl_app (l r : List Rn) : ∀ (b f t : Int), sl b (l ++ r) f t = sl b l f t ++ sl (b + lg l) r f t := by
  induction l with
  | nil => intro b f t; simp [sl, lg]
  | cons x l ih =>
    intro b f t
    have e : lg (x :: l) = x.2 + lg l := rfl
    rw [List.cons_append, sl_cons, sl_cons, ih, e, List.append_assoc, Int.add_assoc]
theorem sl_prt (L : List Rn) (b f t : Int) : jn (sl b L f t) = prt L (f - b) (t - b) := by
  unfold prt
  have := sl_shift L 0 f t b
  rw [Int.zero_add] at this
  rw [this]
/-- The levels of blocks that stand one behind the other. -/
def rgX (ch : Nat) (f t : Int) : List Pt → Option (List Rn)
  | [] => some []
  | p :: r => match pBk ch p with
    | none => none
    | some L => (rgX ch f t r).map fun M => sl (p.1 : Int) L f t ++ M
theorem rgX_yes {ch : Nat} {f t : Int} {P : List Pt} {j : Nat} (hj : j < P.length) {L : List Rn} (h : pBk ch P[j] = some L) (X : List Rn) : aP X (rgX ch f t (P.drop j)) = aP (X ++ sl (P[j].1 : Int) L f t) (rgX ch f t (P.drop (j + 1))) := by
  rw [List.drop_eq_getElem_cons hj, rgX, h]
  unfold aP
  cases rgX ch f t (P.drop (j + 1)) with
  | none => rfl
  | some M => simp
theorem rgX_no {ch : Nat} {f t : Int} {P : List Pt} {j : Nat} (hj : j < P.length) (h : pBk ch P[j] = none) (X : List Rn) : aP X (rgX ch f t (P.drop j)) = none := by
  rw [List.drop_eq_getElem_cons hj, rgX, h]; rfl
/-- Each block begins where the one before it ends. -/
def chnP : List Pt → Prop
  | [] => True
  | [p] => p.1 ≤ p.2.1
  | p :: q :: r => p.1 ≤ p.2.1 ∧ p.2.1 = q.1 ∧ chnP (q :: r)
theorem pBk_lg {ch : Nat} {p : Pt} {L : List Rn} (h : pBk ch p = some L) (hp : p.1 ≤ p.2.1) : lg L = (p.2.1 : Int) - (p.1 : Int) ∧ ∀ r ∈ L, okRn (2 ^ ch - 1) r := by
  unfold pBk at h
  obtain ⟨_, _, _, h4, h5⟩ := rBk_was h
  exact ⟨by omega, h5⟩
theorem rgX_pBs {ch : Nat} {f t : Int} : ∀ {P : List Pt}, chnP P → rgX ch f t P = (pBs ch P).map fun L => sl ((P.getD 0 (0, 0, 0, 0, 0, ⟨#[]⟩)).1 : Int) L f t
  | [], _ => rfl
  | p :: P, h => by
    rw [rgX, pBs]
    cases hp : pBk ch p with
    | none => rfl
    | some L =>
      simp only
      rcases P with _ | ⟨q, r⟩
      · simp [rgX, pBs, sl]
      · obtain ⟨h1, h2, h3⟩ := h
        have hl := (pBk_lg hp h1).1
        rw [rgX_pBs h3]
        cases pBs ch (q :: r) with
        | none => rfl
        | some M =>
          simp only [Option.map_some, Option.some.injEq]
          simp only [List.getD_cons_zero]
          rw [sl_app, hl, show (p.1 : Int) + ((p.2.1 : Int) - (p.1 : Int)) = (p.2.1 : Int) by omega, h2]
theorem chnP_of {P : List Pt} (h1 : ∀ j (h : j < P.length), P[j].1 ≤ P[j].2.1) (h2 : ∀ j (h : j + 1 < P.length), P[j].2.1 = P[j + 1].1) : chnP P := by
  induction P with
  | nil => trivial
  | cons p P ih =>
    rcases P with _ | ⟨q, r⟩
    · exact h1 0 (by simp)
    · exact ⟨h1 0 (by simp), h2 0 (by simp), ih (fun j h => h1 (j + 1) (by simpa using h)) (fun j h => h2 (j + 1) (by simpa using h))⟩
/-- The blocks of a head. -/
theorem hdPts_at {l : List UInt8} {N : List ByteArray} {R T : Nat} {E : List En} {b : Nat} (h : rd l = ((N, R, T, E, b), 0)) (j : Nat) (hj : j < (hdPts l).length) (hj' : j < E.length) : (hdPts l)[j] = (E[j].1, eT E T j, szN R j, E[j].2.1, E[j].2.2, ⟨(bkB E (l.drop b) j E[j].2.1).toArray⟩) := by
  have : hdPts l = ptG R E T (l.drop b) E.length := by unfold hdPts; rw [h]
  simp only [this, ptG_at]
  rw [if_pos hj']
theorem hdPts_ok {l : List UInt8} {N : List ByteArray} {R T : Nat} {E : List En} {b : Nat} (h : rd l = ((N, R, T, E, b), 0)) (hl : l.length ≤ 140737488351232) : ∀ p ∈ hdPts l, okP p := by
  intro p hp
  obtain ⟨j, hj, rfl⟩ := List.getElem_of_mem hp
  have hj' : j < E.length := by rw [hdPts_len, h] at hj; exact hj
  rw [hdPts_at h j hj hj']
  obtain ⟨e1, e2, e3, e4, e5, e6⟩ := rd_was h
  obtain ⟨a0, a1⟩ := (asc_iff E T).1 e4
  have hi : T ≤ 1099511627776 := by
    rcases rd_form l with ⟨e, h0, hx⟩ | ⟨N', R', T', E', b', hx, _, hy⟩
    · rw [h] at hx; injection hx with _ hx; exact absurd hx.symm h0
    · rw [h] at hx
      injection hx with hx _
      injection hx with _ hx
      injection hx with _ hx
      injection hx with hx _
      rw [hx]
      exact (rH_inv hy).1
  refine ⟨?_, ?_, szN_le _ _, ?_⟩
  · show E[j].1 ≤ eT E T j
    have := a1 j hj'
    rw [eT_eA]; omega
  · show eT E T j ≤ _
    rw [eT_eA]
    have := eA_mono e4 E.length (j + 1) (by omega) (Nat.le_refl _)
    have h2 : eA E T E.length = T := by unfold eA; rw [dif_neg (by omega)]
    omega
  · show (bkB E (l.drop b) j E[j].2.1).toArray.size ≤ _
    unfold bkB
    simp only [List.size_toArray, List.length_take, List.length_drop]
    omega
theorem hdPts_chnP {l : List UInt8} {N : List ByteArray} {R T : Nat} {E : List En} {b : Nat} (h : rd l = ((N, R, T, E, b), 0)) (i k : Nat) : chnP (sub (hdPts l) i k) := by
  obtain ⟨e1, e2, e3, e4, e5, e6⟩ := rd_was h
  obtain ⟨a0, a1⟩ := (asc_iff E T).1 e4
  have hl : (hdPts l).length = E.length := by rw [hdPts_len, h]
  have hs : ∀ j, j < (sub (hdPts l) i k).length → i + j < (hdPts l).length := fun j hj => by
    unfold sub at hj; rw [List.length_take, List.length_drop] at hj; omega
  refine chnP_of (fun j hj => ?_) (fun j hj => ?_)
  · have h1 := hs j hj
    rw [sub_at _ _ _ _ _ h1, hdPts_at h _ h1 (by omega)]
    have := a1 (i + j) (by omega)
    show E[i + j].1 ≤ eT E T (i + j)
    rw [eT_eA]; omega
  · have h1 := hs (j + 1) hj
    have h0 := hs j (by omega)
    rw [sub_at _ _ _ _ _ h0, sub_at _ _ _ _ _ h1, hdPts_at h _ h0 (by omega), hdPts_at h _ h1 (by omega)]
    show eT E T (i + j) = E[i + (j + 1)].1
    rw [eT_eA, eA_in (by omega : i + j + 1 < E.length)]
    rfl

end Go.Proofs.YtillcmddbjhepaaGreatDoor

namespace Go.Proofs.YtillcmddbjhepaaGreatDoor
open Go Si
set_option linter.unusedVariables false
set_option linter.unusedSimpArgs false

theorem gP_at {P : List Pt} {k : Nat} (h : k < P.length) : P.getD k (0, 0, 0, 0, 0, ⟨#[]⟩) = P[k] := by rw [List.getD_eq_getElem?_getD, List.getElem?_eq_getElem h]; rfl
theorem fdR_1 {l : List UInt8} {a : Int} (h : ¬ (rd l).2 = 0) : fdR l a = (0, (rd l).2) := by unfold fdR; rw [if_neg h]
section
variable {l : List UInt8} {N : List ByteArray} {R T : Nat} {E : List En} {b : Nat}
theorem fdR_2 (h : rd l = ((N, R, T, E, b), 0)) {a : Int} (h2 : ¬ (0 ≤ a ∧ a < T)) : fdR l a = (0, 2) := by
  unfold fdR; rw [h]; simp only; rw [if_pos trivial, if_neg h2]
theorem fdR_3 (h : rd l = ((N, R, T, E, b), 0)) {a : Int} (h2 : 0 ≤ a ∧ a < T) : fdR l a = (plc E a E.length, 0) := by
  unfold fdR; rw [h]; simp only; rw [if_pos trivial, if_pos h2]
theorem atR_1 {a : Int} (h : ¬ (rd l).2 = 0) : atR l a = (0, (rd l).2) := by unfold atR; rw [fdR_1 h, if_neg h]
theorem atR_2 (h : rd l = ((N, R, T, E, b), 0)) {a : Int} (h2 : ¬ (0 ≤ a ∧ a < T)) : atR l a = (0, 2) := by unfold atR; rw [fdR_2 h h2]; rfl
theorem plc_P (h : rd l = ((N, R, T, E, b), 0)) {a : Int} (h2 : 0 ≤ a ∧ a < T) : plc E a E.length < (hdPts l).length := by
  rw [hdPts_len, h]; exact (plc_in (rd_was h).2.2.2.1 h2.1 h2.2).1
/-- The block of a tick: where it begins and ends. -/
theorem plc_ends (h : rd l = ((N, R, T, E, b), 0)) {a : Int} (h2 : 0 ≤ a ∧ a < T) : ((hdPts l)[plc E a E.length]'(plc_P h h2)).1 ≤ a ∧ a < (((hdPts l)[plc E a E.length]'(plc_P h h2)).2.1 : Int) := by
  obtain ⟨p1, p2, p3⟩ := plc_in (rd_was h).2.2.2.1 h2.1 h2.2
  rw [hdPts_at h _ (plc_P h h2) p1]
  rw [eA_in p1] at p2
  exact ⟨p2, p3⟩
theorem atR_3 (h : rd l = ((N, R, T, E, b), 0)) {a : Int} (h2 : 0 ≤ a ∧ a < T) (h3 : pBk N.length ((hdPts l)[plc E a E.length]'(plc_P h h2)) = none) : atR l a = (0, 12) := by
  unfold atR; rw [fdR_3 h h2]; simp only
  rw [if_pos trivial, gP_at (plc_P h h2), h]; simp only; rw [h3]
theorem atR_4 (h : rd l = ((N, R, T, E, b), 0)) {a : Int} (h2 : 0 ≤ a ∧ a < T) {L : List Rn} (h3 : pBk N.length ((hdPts l)[plc E a E.length]'(plc_P h h2)) = some L) : atR l a = ((atv L (a - ((hdPts l)[plc E a E.length]'(plc_P h h2)).1)).1, 0) := by
  unfold atR; rw [fdR_3 h h2]; simp only
  rw [if_pos trivial, gP_at (plc_P h h2), h]; simp only; rw [h3]
theorem rgR_1 {f t : Int} (h : ¬ (rd l).2 = 0) : rgR l f t = ([], (rd l).2) := by unfold rgR; rw [if_neg h]
theorem rgR_2 (h : rd l = ((N, R, T, E, b), 0)) {f t : Int} (h2 : ¬ (0 ≤ f ∧ f < t ∧ t ≤ T)) : rgR l f t = ([], 2) := by unfold rgR; rw [h]; simp only; rw [if_pos trivial, if_neg h2]
theorem rgR_3 (h : rd l = ((N, R, T, E, b), 0)) {f t : Int} (h2 : 0 ≤ f ∧ f < t ∧ t ≤ T) (h3 : pBs N.length (sub (hdPts l) (plc E f E.length) (plc E (t - 1) E.length)) = none) : rgR l f t = ([], 12) := by
  unfold rgR; rw [fdR_3 h (a := f) (by omega), fdR_3 h (a := t - 1) (by omega), h]; simp only; rw [if_pos trivial, if_pos h2, h3]
theorem rgR_4 (h : rd l = ((N, R, T, E, b), 0)) {f t : Int} (h2 : 0 ≤ f ∧ f < t ∧ t ≤ T) (hk : plc E f E.length < (hdPts l).length) {L : List Rn} (h3 : pBs N.length (sub (hdPts l) (plc E f E.length) (plc E (t - 1) E.length)) = some L) : rgR l f t = (prt L (f - (hdPts l)[plc E f E.length].1) (t - (hdPts l)[plc E f E.length].1), 0) := by
  unfold rgR; rw [fdR_3 h (a := f) (by omega), fdR_3 h (a := t - 1) (by omega), gP_at hk, h]; simp only; rw [if_pos trivial, if_pos h2, h3]
/-- The blocks of a part follow one another. -/
theorem plc_mono (h : rd l = ((N, R, T, E, b), 0)) {a c : Int} (h0 : 0 ≤ a) (h1 : a ≤ c) (h2 : c < T) : plc E a E.length ≤ plc E c E.length := by
  have ha := (rd_was h).2.2.2.1
  obtain ⟨p1, p2, p3⟩ := plc_in ha h0 (by omega : a < (T : Int))
  obtain ⟨q1, q2, q3⟩ := plc_in ha (by omega : 0 ≤ c) h2
  rcases Nat.lt_or_ge (plc E c E.length) (plc E a E.length) with hlt | hge
  · have := eA_mono ha (plc E a E.length) (plc E c E.length + 1) (by omega) (by omega)
    omega
  · exact hge
end
theorem pBs_all {ch : Nat} {P : List Pt} (hP : ∀ p ∈ P, okP p) {L : List Rn} (h : pBs ch P = some L) : (∀ r ∈ L, okRn (2 ^ ch - 1) r) ∧ L.length ≤ 16 * P.length := by
  obtain ⟨B, b1, b2, b3⟩ := pBs_was h
  have hB : ∀ X ∈ B, X.length ≤ 16 ∧ ∀ r ∈ X, okRn (2 ^ ch - 1) r := by
    intro X hX
    obtain ⟨j, hj, rfl⟩ := List.getElem_of_mem hX
    have h1 := b3 j (by omega) hj
    have h2 := hP _ (List.getElem_mem (show j < P.length by omega))
    refine ⟨?_, (pBk_lg h1 h2.1).2⟩
    unfold pBk at h1
    have h3 := rBk_len h1
    have h4 := h2.2.2.1
    omega
  refine ⟨fun r hr => ?_, ?_⟩
  · rw [b2] at hr
    obtain ⟨X, hX, hrX⟩ := List.mem_flatten.1 hr
    exact (hB X hX).2 r hrX
  · rw [b2, ← b1]
    clear b1 b2 b3 h
    induction B with
    | nil => simp
    | cons X B ih =>
      have h1 := (hB X (by simp)).1
      have h2 := ih fun Y hY => hB Y (by simp [hY])
      rw [List.flatten_cons, List.length_append, List.length_cons]
      omega
theorem pBs_lg {ch : Nat} : ∀ {P : List Pt} {L : List Rn}, chnP P → pBs ch P = some L → (h0 : 0 < P.length) → lg L = ((P[P.length - 1]'(by omega)).2.1 : Int) - (P[0].1 : Int)
  | [], L, _, _, h0 => absurd h0 (by simp)
  | p :: P, L, hc, h, _ => by
    rw [pBs] at h
    cases hp : pBk ch p with
    | none => rw [hp] at h; cases h
    | some X =>
      rw [hp] at h
      simp only at h
      cases hr : pBs ch P with
      | none => rw [hr] at h; cases h
      | some M =>
        rw [hr] at h
        simp only [Option.map_some, Option.some.injEq] at h
        subst h
        rcases P with _ | ⟨q, r⟩
        · have h1 := (pBk_lg hp hc).1
          rw [pBs] at hr; injection hr with hr; subst hr
          rw [List.append_nil]
          exact h1
        · obtain ⟨h1, h2, h3⟩ := hc
          have h4 := (pBk_lg hp h1).1
          have h5 := pBs_lg h3 hr (by simp)
          rw [lg_append, h4, h5]
          simp only [List.length_cons, Nat.add_sub_cancel, List.getElem_cons_zero, List.getElem_cons_succ]
          rw [h2]
          omega

theorem rgR_len (l : List UInt8) (f t : Int) (hl : l.length ≤ 140737488351232) : (rgR l f t).1.length ≤ 1099511627776 := by
  obtain ⟨⟨⟨N, R, T, E, b⟩, er⟩, h⟩ : ∃ p, rd l = p := ⟨_, rfl⟩
  by_cases c : er = 0
  · subst c
    by_cases h2 : 0 ≤ f ∧ f < t ∧ t ≤ T
    · have hk := plc_P h (a := f) ⟨h2.1, Int.lt_of_lt_of_le h2.2.1 h2.2.2⟩
      cases hp : pBs N.length (sub (hdPts l) (plc E f E.length) (plc E (t - 1) E.length)) with
      | none => rw [rgR_3 h h2 hp]; simp
      | some L =>
        rw [rgR_4 h h2 hk hp]
        have h3 := (pBs_all (fun p hp => hdPts_ok h hl p (sub_mem hp)) hp).2
        have h4 := prt_len L (f - (hdPts l)[plc E f E.length].1) (t - (hdPts l)[plc E f E.length].1)
        have h5 : (sub (hdPts l) (plc E f E.length) (plc E (t - 1) E.length)).length ≤ (hdPts l).length := by unfold sub; rw [List.length_take, List.length_drop]; omega
        have h6 := hdPts_small l
        show (prt L _ _).length ≤ _
        omega
    · rw [rgR_2 h h2]; simp
  · rw [rgR_1 (by rw [h]; exact c)]; simp

end Go.Proofs.YtillcmddbjhepaaGreatDoor

namespace Go.Proofs.YtillcmddbjhepaaGreatDoor
open Go Go.RowKit Go.Joins Si
open Go.BigFrame
set_option linter.unusedVariables false
set_option linter.unusedSimpArgs false

def nmI (N : List ByteArray) (j : Nat) : Nat := (N.getD j ⟨#[]⟩).size
theorem nmI_at {N : List ByteArray} {j : Nat} (h : j < N.length) : nmI N j = N[j].size := by unfold nmI; rw [List.getD_eq_getElem?_getD, List.getElem?_eq_getElem h]; rfl
/-- A capture that is examined. -/
def smP (N : List ByteArray) (R : List Rn) : Prop := R.length ≤ 60 ∧ N.length ≤ 20 ∧ ∀ j, j < N.length → nmI N j ≤ 20
instance (N : List ByteArray) (R : List Rn) : Decidable (smP N R) := by unfold smP; exact inferInstance

set_option maxRecDepth 100000 in
set_option maxHeartbeats 4000000 in
theorem small_any (N : List ByteArray) (R : List Rn) (vN vR : Value) (w : World) (hN : NmArg w vN N) (hR : RnArg w vR R) : Calls Tryz.prog 7 #[.agg #[vN, vR]] w fun e w' => e = .returned (.bool (decide (smP N R))) ∧ Below w.heap.size w w' := by
  obtain ⟨A1, c1, rfl, hcap, q1⟩ := hN.form
  obtain ⟨A2, c2, rfl, q2⟩ := hR
  have BB := Lib.hid (ba w (.cells #[.slice A1 N.length c1, .slice A2 R.length c2] 25))
  have PA := Lib.hid (RowAt.new w 25 #[.slice A1 N.length c1, .slice A2 R.length c2])
  have H1 := Lib.hid q1
  obtain ⟨r, hr⟩ : ∃ r, R.length = r := ⟨_, rfl⟩
  have HR := Lib.hid hr
  clear hN q1 q2 hcap
  by_cases h1 : R.length ≤ 60
  · by_cases h2 : N.length ≤ 20
    · have h1' : (r : Int) ≤ 60 := by omega
      have h2' : (N.length : Int) ≤ 20 := by omega
      have h1d : decide ((60 : Int) < r) = false := decide_eq_false (by omega)
      have h2d : decide ((20 : Int) < N.length) = false := decide_eq_false (by omega)
      rw [hr] at BB PA ⊢
      have HG := Lib.hid h1
      clear hr h1
      go_enter Tryz.func7, Tryz.ntmps7
      go_wp2
      go_loopw [3] (fun i wr => ∃ j : Nat, j ≤ N.length ∧ i = .int .i64 j ∧ Hid (∀ i, i < j → nmI N i ≤ 20) ∧ Hid (RowAt wr w.heap.size 25 #[.slice A1 N.length c1, .slice A2 r c2]) ∧ Hid (Below w.heap.size w wr)) (fun i _ => N.length - (intOf i).toNat)
      case atStart => exact ⟨0, Nat.zero_le _, rfl, Lib.hid (fun i h => absurd h (by omega)), PA, BB⟩
      case round =>
        clear PA BB
        obtain ⟨j, hj, rfl, HA, PA, KB⟩ := hrel
        have g0 : wr.cell? ⟨w.heap.size, 0, none⟩ = some (.slice A1 N.length c1) := PA.out.cell 0
        by_cases hlt : j < N.length
        · obtain ⟨g, o, rfl, hg, hcl⟩ := H1.out (by omega)
          have f0 := (KB.out.cell (p := ⟨g, o + j, none⟩) hg).trans (hcl j hlt)
          have hji : (j : Int) < N.length := by omega
          have HX := Lib.hid (nmI_at hlt)
          clear hcl
          generalize N[j] = s at *
          have HLT := Lib.hid hlt
          clear hlt
          by_cases hs : s.size ≤ 20
          · have hs' : (s.size : Int) ≤ 20 := by omega
            have hsd : decide ((20 : Int) < s.size) = false := decide_eq_false (by omega)
            have HA2 := Lib.hid (show ∀ i, i < j + 1 → nmI N i ≤ 20 from fun i hi => by
              rcases Nat.lt_succ_iff_lt_or_eq.1 hi with e | e
              · exact HA.out i e
              · subst e; rw [HX.out]; exact hs)
            clear HA HX hs
            go_wp2
            go_roundw
            case rel => exact ⟨j + 1, by have := HLT.out; omega, val_int (by omega), HA2, PA, KB⟩
            case measure => simp [intOf]; have := HLT.out; omega
          · have hs' : (20 : Int) < s.size := by omega
            have HF := Lib.hid (show decide (smP N R) = false from decide_eq_false fun h => hs (by rw [← HX.out]; exact h.2.2 j HLT.out))
            clear HA HX hs
            go_wp2
            go_returns
            exact ⟨by rw [HF.out]; rfl, KB.out⟩
        · have HF := Lib.hid (show decide (smP N R) = true from decide_eq_true ⟨HG.out, h2, fun i hi => HA.out i (by omega)⟩)
          have hji : ¬ (j : Int) < N.length := by omega
          clear HA
          go_wp2
          go_returns
          exact ⟨by rw [HF.out]; rfl, KB.out⟩
    · have h1' : (r : Int) ≤ 60 := by omega
      have h2' : (20 : Int) < N.length := by omega
      have h1d : decide ((60 : Int) < r) = false := decide_eq_false (by omega)
      have HF := Lib.hid (show decide (smP N R) = false from decide_eq_false fun h => h2 h.2.1)
      rw [hr] at BB PA ⊢
      clear hr h1 h2 H1
      generalize N.length = n at *
      go_enter Tryz.func7, Tryz.ntmps7
      go_wp2
      go_returns
      exact ⟨by rw [HF.out]; rfl, BB.out⟩
  · have h1' : (60 : Int) < r := by omega
    have HF := Lib.hid (show decide (smP N R) = false from decide_eq_false fun h => h1 h.1)
    rw [hr] at BB PA ⊢
    clear hr h1 H1
    generalize N.length = n at *
    go_enter Tryz.func7, Tryz.ntmps7
    go_wp2
    go_returns
    exact ⟨by rw [HF.out]; rfl, BB.out⟩

set_option maxRecDepth 20000 in
set_option maxHeartbeats 2000000 in
theorem same_any (l : List Rn) (V V' : Value) (w : World) (h1 : RnArg w V l) (h2 : RnArg w V' l) (hl : l.length ≤ 1099511627776) :
    Calls Tryz.prog 22 #[V, V'] w fun e w' => e = .returned (.bool true) ∧ Below w.heap.size w w' := by
  obtain ⟨A1, c1, rfl, h1⟩ := h1
  obtain ⟨A2, c2, rfl, h2⟩ := h2
  have H1 := Lib.hid h1; have H2 := Lib.hid h2
  have hl' : (l.length : Int) ≤ 1099511627776 := by omega
  clear h1 h2
  go_enter Tryz.func22, Tryz.ntmps22
  go_wp2
  go_loopw [5] (fun x wr => ∃ (k m : Nat), k ≤ l.length ∧ x = .int .i64 k ∧ wr = w.drewN m) (fun x _ => l.length - (intOf x).toNat)
  case atStart => exact ⟨0, 0, by omega, rfl, rfl⟩
  case round =>
    obtain ⟨k, m, hk, rfl, rfl⟩ := hrel
    by_cases hlt : k < l.length
    · obtain ⟨g1, o1, rfl, hg1, hc1⟩ := H1.out (by omega)
      obtain ⟨g2, o2, rfl, hg2, hc2⟩ := H2.out (by omega)
      obtain ⟨a0, a1⟩ := arg_two hc1 k hlt
      obtain ⟨b0, b1⟩ := arg_two hc2 k hlt
      clear hc1 hc2
      generalize l[k].1 = x0 at *
      generalize l[k].2 = x1 at *
      go_wp2
      go_quiet (fail)
      go_wp2
      go_roundw
      case rel => exact ⟨k + 1, m + nq, by omega, by go_num, rfl⟩
      case measure => simp [intOf]; omega
    · go_wp2
      go_returns
      exact ⟨rfl, Go.below_drewN (Below.refl _ _) _⟩

end Go.Proofs.YtillcmddbjhepaaGreatDoor

namespace Go.Proofs.YtillcmddbjhepaaGreatDoor
open Go Go.RowKit Go.Joins Si
set_option linter.unusedVariables false
set_option linter.unusedSimpArgs false

set_option maxRecDepth 20000 in
set_option maxHeartbeats 4000000 in
theorem alike_any (N : List ByteArray) (R : List Rn) (v1 v2 u1 u2 : Value) (w : World) (h1 : NmArg w v1 N) (h2 : RnArg w v2 R) (k1 : NmArg w u1 N) (k2 : RnArg w u2 R) (hl1 : N.length ≤ 1099511627776) (hl2 : R.length ≤ 1099511627776) :
    Calls Tryz.prog 13 #[.agg #[v1, v2], .agg #[u1, u2]] w fun e w' => e = .returned (.bool true) ∧ Below w.heap.size w w' := by
  have HS := Lib.hid (fun w' (hb : Below w.heap.size w w') => same_any R v2 u2 w' (h2.keep hb) (k2.keep hb) hl2)
  have HN1 := Lib.hid (fun w' (hb : Below w.heap.size w w') => h1.keep hb)
  have HN2 := Lib.hid (fun w' (hb : Below w.heap.size w w') => k1.keep hb)
  obtain ⟨A1, c1, rfl, _, q1⟩ := h1.form
  obtain ⟨A2, c2, rfl, q2⟩ := h2
  obtain ⟨A3, c3, rfl, _, q3⟩ := k1.form
  obtain ⟨A4, c4, rfl, q4⟩ := k2
  have H1 := Lib.hid q1; have H2 := Lib.hid q3
  have BA := Lib.hid (ba w (.cells #[.slice A1 N.length c1, .slice A2 R.length c2] 25))
  have PA := Lib.hid (RowAt.new w 25 #[.slice A1 N.length c1, .slice A2 R.length c2])
  have BB := Lib.hid (ba (w.alloc (.cells #[.slice A1 N.length c1, .slice A2 R.length c2] 25)) (.cells #[.slice A3 N.length c3, .slice A4 R.length c4] 25))
  have PB := Lib.hid (RowAt.new (w.alloc (.cells #[.slice A1 N.length c1, .slice A2 R.length c2] 25)) 25 #[.slice A3 N.length c3, .slice A4 R.length c4])
  rw [World.size_alloc] at PB
  have PA2 := Lib.hid (PA.out.keep BB.out)
  have B2 := Lib.hid (BA.out.trans (BB.out.mono BA.out.size))
  clear h1 k1 q1 q2 q3 q4
  have hn : (N.length : Int) ≤ 1099511627776 := by omega
  go_enter Tryz.func13, Tryz.ntmps13
  have e0 := PA2.out.cell 0
  have e1 := PB.out.cell 0
  go_wp2
  go_loopw [5] (fun x wr => ∃ k : Nat, k ≤ N.length ∧ x = .int .i64 k ∧ Hid (RowAt wr w.heap.size 25 #[.slice A1 N.length c1, .slice A2 R.length c2]) ∧ Hid (RowAt wr (w.heap.size + 1) 25 #[.slice A3 N.length c3, .slice A4 R.length c4]) ∧ Hid (Below w.heap.size w wr)) (fun x _ => N.length - (intOf x).toNat)
  case atStart => exact ⟨0, by omega, rfl, PA2, PB, B2⟩
  case round =>
    clear PA PA2 PB B2 BA BB e0 e1
    obtain ⟨k, hk, rfl, PA, PB, B3⟩ := hrel
    have g0 : wr.cell? ⟨w.heap.size, 0, none⟩ = some (.slice A1 N.length c1) := PA.out.cell 0
    have g1 : wr.cell? ⟨w.heap.size, 1, none⟩ = some (.slice A2 R.length c2) := PA.out.cell 1
    have g2 : wr.cell? ⟨w.heap.size + 1, 0, none⟩ = some (.slice A3 N.length c3) := PB.out.cell 0
    have g3 : wr.cell? ⟨w.heap.size + 1, 1, none⟩ = some (.slice A4 R.length c4) := PB.out.cell 1
    by_cases hlt : k < N.length
    · obtain ⟨gA, o1, rfl, hg1, hc1⟩ := H1.out (by omega)
      obtain ⟨gB, o2, rfl, hg2, hc2⟩ := H2.out (by omega)
      have a0 := (B3.out.cell (p := ⟨gA, o1 + k, none⟩) hg1).trans (hc1 k hlt)
      have b0 := (B3.out.cell (p := ⟨gB, o2 + k, none⟩) hg2).trans (hc2 k hlt)
      clear hc1 hc2
      generalize N[k] = x0 at *
      have q1 : (x0.toList == x0.toList) = true := (str_eq rfl).1
      go_wp2
      go_quiet (fail)
      go_wp2
      go_roundw
      case rel => exact ⟨k + 1, by omega, by go_num, PA, PB, Lib.hid (Go.below_drewN B3.out _)⟩
      case measure => simp [intOf]; omega
    · go_wp2_with (first
        | (go_at_call 22; go_must (refine (HS.out _ B3.out).mono ?_; rintro e3 w3 ⟨rfl, b3⟩; have B4 := Lib.hid (B3.out.trans (b3.mono B3.out.size)); clear b3)))
      go_returns
      exact ⟨rfl, B4.out⟩

end Go.Proofs.YtillcmddbjhepaaGreatDoor

namespace Go.Proofs.YtillcmddbjhepaaGreatDoor
open Go Go.RowKit Go.Joins
set_option linter.unusedVariables false
set_option linter.unusedSimpArgs false

/-- What Decode gives. -/
def DcR (p : (List ByteArray × List Si.Rn) × Int) (w : World) (e : Ending) (w' : World) : Prop :=
  ∃ (vN vR : Value), e = .returned (.tuple #[.agg #[vN, vR], .int .i64 p.2]) ∧ Si.NmRow w' w.heap.size vN p.1.1 ∧ Si.RnRow w' w.heap.size vR p.1.2 ∧ Below w.heap.size w w'
theorem DcR.bad {p : (List ByteArray × List Si.Rn) × Int} {w w' : World} {z : Int} (h : p = (([], []), z)) (hb : Below w.heap.size w w') : DcR p w (.returned (.tuple #[.agg #[.slice none 0 0, .slice none 0 0], .int .i64 z])) w' := by
  subst h
  exact ⟨_, _, rfl, KRow.nil _ _, KRow.nil _ _, hb⟩
theorem okL_ck {N : List ByteArray} {L : List Si.Rn} (h : ∀ s ∈ N, s.size ≤ 16) : Si.szs N := fun s hs => by have := h s hs; omega

set_option maxRecDepth 100000 in
set_option maxHeartbeats 8000000 in
theorem Decode_any (s : ByteArray) (w : World) (hEn : Sd.Env w) (hs : s.size ≤ 140737488351232) :
    Calls Tryz.prog 11 #[.string s] w (DcR (dc s.data.toList) w) := by
  have hsl := size_len s
  have RB := Lib.hid (RowAt.new w 25 #[.slice none 0 0, .slice none 0 0])
  have KB := Lib.hid (ba w (.cells #[.slice none 0 0, .slice none 0 0] 25))
  have CH := Lib.hid (fun (_ : Unit) => readHead_any s (w.alloc (.cells #[.slice none 0 0, .slice none 0 0] 25)) (hEn.below (ba w _)) hs)
  obtain ⟨q, hq⟩ : ∃ q, dc s.data.toList = q := ⟨_, rfl⟩
  obtain ⟨⟨⟨N, R, T, E, b⟩, er⟩, h⟩ : ∃ p, rd s.data.toList = p := ⟨_, rfl⟩
  have HLP := Lib.hid (hdPts_small s.data.toList)
  unfold HdR at CH
  rw [hq]
  by_cases c : er = 0
  case neg =>
    have HBAD := Lib.hid (show q = (([], []), (er : Int)) by rw [← hq, dc_1 (by rw [h]; exact c), h])
    rw [h] at CH
    simp only at CH
    have c' : ((er : Int) != 0) = true := by simp; omega
    clear h hq hsl
    go_enter Tryz.func11, Tryz.ntmps11
    go_wp2_with (first
      | (go_at_call 38; go_must (refine (CH.out ()).mono ?_; rintro e w1 ⟨vN, vP, T1, er1, rfl, hE, hT, hb, hN, hP⟩; obtain rfl : er1 = er := hE; obtain rfl : T1 = T := hT; obtain ⟨nA, nn, nc, rfl, hnn⟩ := KRow.form hN; obtain ⟨pA, pn, pc, rfl, hpn⟩ := KRow.form hP; replace RB := Lib.hid ((RB.out.keep hb).alloc (.cells #[.slice nA nn nc, .int .i64 T1, .slice pA pn pc] 71)); replace KB := Lib.hid ((KB.out.trans (hb.mono KB.out.size)).alloc (KB.out.trans (hb.mono KB.out.size)).size (.cells #[.slice nA nn nc, .int .i64 T1, .slice pA pn pc] 71)); clear hnn hpn hb hN hP CH))
      | ((with_reducible refine wpList_store_at (B := w.heap.size) RB.out (Nat.le_refl _) #[.slice none 0 0, .slice none 0 0] (.tmp 2) _ 25 rfl rfl rfl rfl (by kernel_rfl) rfl rfl ?_); intro wz rz bz)
      | fail)
    have z0 : wz.cell? ⟨w.heap.size, 0, none⟩ = some (.slice none 0 0) := rz.cell 0
    have z1 : wz.cell? ⟨w.heap.size, 1, none⟩ = some (.slice none 0 0) := rz.cell 1
    refine bodyPost_ret (v := .tuple #[.agg #[.slice none 0 0, .slice none 0 0], .int .i64 er1]) (by simp [results, Tryz.results11, go_sem, z0, z1]) rfl ?_
    exact DcR.bad HBAD.out (KB.out.trans bz)
  subst c
  have HOK := Lib.hid (hdPts_ok h (by rw [← hsl]; exact hs))
  have HW := Lib.hid (fun L (hL : pBs N.length (hdPts s.data.toList) = some L) => (dec_was h hL).1)
  have HNS := Lib.hid (rd_was h).2.2.2.2.2
  have HN16 := Lib.hid (show N.length ≤ 16 by
    obtain ⟨a1, a2, a3, a4, h0, h1, _⟩ := rd_inv h
    exact (rNm_le h1 (rH_st h0).2).2.1)
  have HD2 := Lib.hid (fun hx => dc_2 (l := s.data.toList) (by rw [h]) hx)
  have HD3 := Lib.hid (fun L hx => dc_3 (l := s.data.toList) (by rw [h]) (L := L) hx)
  have HD4 := Lib.hid (fun L hx => dc_4 (l := s.data.toList) (by rw [h]) (L := L) hx)
  have HD5 := Lib.hid (fun L hx => dc_5 (l := s.data.toList) (by rw [h]) (L := L) hx)
  rw [h] at CH HD2 HD3 HD4 HD5
  simp only at CH HD2 HD3 HD4 HD5
  rw [hq] at HD2 HD3 HD4 HD5
  obtain ⟨P, hP⟩ : ∃ P, hdPts s.data.toList = P := ⟨_, rfl⟩
  rw [hP] at CH HLP HOK HW HD2 HD3 HD4 HD5
  obtain ⟨ch, hch⟩ : ∃ ch, N.length = ch := ⟨_, rfl⟩
  have HCH := Lib.hid hch
  rw [hch] at HW HN16 HD2 HD3 HD4 HD5
  have CP := Lib.hid (fun W (hW : Below w.heap.size w W) vP nA nc T (hQ : PtArg W vP P) => readParts_any P vP vP nA ch nc T W (hEn.below hW) hQ HOK.out HLP.out HN16.out)
  obtain ⟨r, hr⟩ : ∃ r, pBs ch P = r := ⟨_, rfl⟩
  rw [hr] at CP HW HD2 HD3 HD4 HD5
  clear h hq hsl hP hch hr hEn
  cases r with
  | none =>
    have HBAD := Lib.hid (HD2.out rfl)
    clear HD2 HD3 HD4 HD5 HW
    go_enter Tryz.func11, Tryz.ntmps11
    go_wp2_with (first
      | (go_at_call 38; go_must (refine (CH.out ()).mono ?_; rintro e w1 ⟨vN, vP, T1, er1, rfl, hE, hT, hb, hN, hP⟩; obtain rfl : er1 = 0 := hE; obtain rfl : T1 = T := hT; obtain ⟨nA, nn, nc, rfl, hnn⟩ := KRow.form hN; obtain ⟨pA, pn, pc, rfl, hpn⟩ := KRow.form hP; replace RB := Lib.hid ((RB.out.keep hb).alloc (.cells #[.slice nA nn nc, .int .i64 T1, .slice pA pn pc] 71)); obtain rfl : nn = ch := hnn.trans HCH.out; have HH := Lib.hid (RowAt.new w1 71 #[.slice nA nn nc, .int .i64 T1, .slice pA pn pc]); have HN := Lib.hid (KRow.alloc (KRow.mono hN (show w.heap.size + 1 ≤ (w.alloc _).heap.size by rw [World.size_alloc]; exact Nat.le_refl _)) (.cells #[.slice nA nn nc, .int .i64 T1, .slice pA pn pc] 71)); have HP := Lib.hid (KArg.keep (KRow.arg ptC_size hP) (ba w1 (.cells #[.slice nA nn nc, .int .i64 T1, .slice pA pn pc] 71))); have HLW := Lib.hid (show w.heap.size < w1.heap.size from Nat.lt_of_lt_of_le (by rw [World.size_alloc]; exact Nat.lt_succ_self _) hb.size); replace KB := Lib.hid ((KB.out.trans (hb.mono KB.out.size)).alloc (KB.out.trans (hb.mono KB.out.size)).size (.cells #[.slice nA nn nc, .int .i64 T1, .slice pA pn pc] 71)); clear hnn hpn hb hN hP CH))
      | (go_at_call 39; go_must (refine (CP.out _ KB.out _ _ _ _ HP.out).mono ?_; rintro e w2 ⟨v, er2, rfl, ⟨rA, rn, rc, rfl⟩, hE, hr, hb⟩; obtain rfl : er2 = 12 := hE; replace RB := Lib.hid (RB.out.keep hb); replace KB := Lib.hid (KB.out.trans (hb.mono KB.out.size)); clear hb hr CP))
      | ((with_reducible refine wpList_store_at (B := w.heap.size) RB.out (Nat.le_refl _) #[.slice none 0 0, .slice none 0 0] (.tmp 2) _ 25 rfl rfl rfl rfl (by kernel_rfl) rfl rfl ?_); intro wz rz bz)
      | fail)
    have z0 : wz.cell? ⟨w.heap.size, 0, none⟩ = some (.slice none 0 0) := rz.cell 0
    have z1 : wz.cell? ⟨w.heap.size, 1, none⟩ = some (.slice none 0 0) := rz.cell 1
    refine bodyPost_ret (v := .tuple #[.agg #[.slice none 0 0, .slice none 0 0], .int .i64 12]) (by simp [results, Tryz.results11, go_sem, z0, z1]) rfl ?_
    exact DcR.bad HBAD.out (KB.out.trans bz)
  | some L =>
    have HOL := Lib.hid (HW.out L rfl)
    have hLl := HOL.out.len
    have CC := Lib.hid (fun V W (hT : Si.RnArg W V L) => isClean_any L V W hT (by have := HOL.out.len; omega))
    obtain ⟨bc, hbc⟩ : ∃ bc, decide (clP L) = bc := ⟨_, rfl⟩
    rw [hbc] at CC
    cases bc with
    | false =>
      have HBAD := Lib.hid (HD3.out L rfl (of_decide_eq_false hbc))
      clear HD2 HD3 HD4 HD5 HW hbc
      go_enter Tryz.func11, Tryz.ntmps11
      go_wp2_with (first
        | (go_at_call 38; go_must (refine (CH.out ()).mono ?_; rintro e w1 ⟨vN, vP, T1, er1, rfl, hE, hT, hb, hN, hP⟩; obtain rfl : er1 = 0 := hE; obtain rfl : T1 = T := hT; obtain ⟨nA, nn, nc, rfl, hnn⟩ := KRow.form hN; obtain ⟨pA, pn, pc, rfl, hpn⟩ := KRow.form hP; replace RB := Lib.hid ((RB.out.keep hb).alloc (.cells #[.slice nA nn nc, .int .i64 T1, .slice pA pn pc] 71)); obtain rfl : nn = ch := hnn.trans HCH.out; have HH := Lib.hid (RowAt.new w1 71 #[.slice nA nn nc, .int .i64 T1, .slice pA pn pc]); have HN := Lib.hid (KRow.alloc (KRow.mono hN (show w.heap.size + 1 ≤ (w.alloc _).heap.size by rw [World.size_alloc]; exact Nat.le_refl _)) (.cells #[.slice nA nn nc, .int .i64 T1, .slice pA pn pc] 71)); have HP := Lib.hid (KArg.keep (KRow.arg ptC_size hP) (ba w1 (.cells #[.slice nA nn nc, .int .i64 T1, .slice pA pn pc] 71))); have HLW := Lib.hid (show w.heap.size < w1.heap.size from Nat.lt_of_lt_of_le (by rw [World.size_alloc]; exact Nat.lt_succ_self _) hb.size); replace KB := Lib.hid ((KB.out.trans (hb.mono KB.out.size)).alloc (KB.out.trans (hb.mono KB.out.size)).size (.cells #[.slice nA nn nc, .int .i64 T1, .slice pA pn pc] 71)); clear hnn hpn hb hN hP CH))
        | (go_at_call 39; go_must (refine (CP.out _ KB.out _ _ _ _ HP.out).mono ?_; rintro e w2 ⟨v, er2, rfl, ⟨rA, rn, rc, rfl⟩, hE, hr, hb⟩; obtain rfl : er2 = 0 := hE; replace RB := Lib.hid (RB.out.keep hb); replace KB := Lib.hid (KB.out.trans (hb.mono KB.out.size)); replace HH := Lib.hid (HH.out.keep hb); replace HN := Lib.hid (KRow.keep HN.out hb); have HR := Lib.hid (KRow.mono hr (show w.heap.size + 1 ≤ _ from Nat.le_trans (Nat.succ_le_of_lt HLW.out) (by rw [World.size_alloc]; exact Nat.le_succ _))); clear hb hr CP))
        | (go_at_call 40; go_must (refine (CC.out _ _ (KRow.arg Si.rnC_size HR.out)).mono ?_; rintro e w3 ⟨rfl, hb⟩; replace RB := Lib.hid (RB.out.keep hb); replace KB := Lib.hid (KB.out.trans (hb.mono KB.out.size)); replace HH := Lib.hid (HH.out.keep hb); replace HN := Lib.hid (KRow.keep HN.out hb); replace HR := Lib.hid (KRow.keep HR.out hb); have j0 : w3.cell? ⟨w1.heap.size, 0, none⟩ = some (.slice nA nn nc) := HH.out.cell 0; clear hb CC))
        | ((with_reducible refine wpList_store_at (B := w.heap.size) RB.out (Nat.le_refl _) #[.slice none 0 0, .slice none 0 0] (.tmp 2) _ 25 rfl rfl rfl rfl (by kernel_rfl) rfl rfl ?_); intro wz rz bz)
        | fail)
      have z0 : wz.cell? ⟨w.heap.size, 0, none⟩ = some (.slice none 0 0) := rz.cell 0
      have z1 : wz.cell? ⟨w.heap.size, 1, none⟩ = some (.slice none 0 0) := rz.cell 1
      refine bodyPost_ret (v := .tuple #[.agg #[.slice none 0 0, .slice none 0 0], .int .i64 12]) (by simp [results, Tryz.results11, go_sem, z0, z1]) rfl ?_
      exact DcR.bad HBAD.out (KB.out.trans bz)
    | true =>
      have hcl := of_decide_eq_true hbc
      have CX := Lib.hid (fun V1 V2 W (hN : Si.NmArg W V1 N) (hR : Si.RnArg W V2 L) => Si.check_any N L V1 V2 W hN (okL_ck (L := L) HNS.out) hR (by have := HOL.out.len; omega))
      obtain ⟨z, hz⟩ : ∃ z, Si.ckC N L = z := ⟨_, rfl⟩
      have HD4L := Lib.hid (HD4.out L rfl hcl)
      have HD5L := Lib.hid (HD5.out L rfl hcl)
      clear HD2 HD3 HD4 HD5 HW hbc hcl
      rw [hz] at CX HD4L HD5L
      by_cases cz : z = 0
      · subst cz
        have HF := Lib.hid (HD5L.out rfl)
        clear HD4L HD5L hz
        go_enter Tryz.func11, Tryz.ntmps11
        go_wp2_with (first
          | (go_at_call 38; go_must (refine (CH.out ()).mono ?_; rintro e w1 ⟨vN, vP, T1, er1, rfl, hE, hT, hb, hN, hP⟩; obtain rfl : er1 = 0 := hE; obtain rfl : T1 = T := hT; obtain ⟨nA, nn, nc, rfl, hnn⟩ := KRow.form hN; obtain ⟨pA, pn, pc, rfl, hpn⟩ := KRow.form hP; replace RB := Lib.hid ((RB.out.keep hb).alloc (.cells #[.slice nA nn nc, .int .i64 T1, .slice pA pn pc] 71)); obtain rfl : nn = ch := hnn.trans HCH.out; have HH := Lib.hid (RowAt.new w1 71 #[.slice nA nn nc, .int .i64 T1, .slice pA pn pc]); have HN := Lib.hid (KRow.alloc (KRow.mono hN (show w.heap.size + 1 ≤ (w.alloc _).heap.size by rw [World.size_alloc]; exact Nat.le_refl _)) (.cells #[.slice nA nn nc, .int .i64 T1, .slice pA pn pc] 71)); have HP := Lib.hid (KArg.keep (KRow.arg ptC_size hP) (ba w1 (.cells #[.slice nA nn nc, .int .i64 T1, .slice pA pn pc] 71))); have HLW := Lib.hid (show w.heap.size < w1.heap.size from Nat.lt_of_lt_of_le (by rw [World.size_alloc]; exact Nat.lt_succ_self _) hb.size); replace KB := Lib.hid ((KB.out.trans (hb.mono KB.out.size)).alloc (KB.out.trans (hb.mono KB.out.size)).size (.cells #[.slice nA nn nc, .int .i64 T1, .slice pA pn pc] 71)); clear hnn hpn hb hN hP CH))
          | (go_at_call 39; go_must (refine (CP.out _ KB.out _ _ _ _ HP.out).mono ?_; rintro e w2 ⟨v, er2, rfl, ⟨rA, rn, rc, rfl⟩, hE, hr, hb⟩; obtain rfl : er2 = 0 := hE; replace RB := Lib.hid (RB.out.keep hb); replace KB := Lib.hid (KB.out.trans (hb.mono KB.out.size)); replace HH := Lib.hid (HH.out.keep hb); replace HN := Lib.hid (KRow.keep HN.out hb); have HR := Lib.hid (KRow.mono hr (show w.heap.size + 1 ≤ _ from Nat.le_trans (Nat.succ_le_of_lt HLW.out) (by rw [World.size_alloc]; exact Nat.le_succ _))); clear hb hr CP))
          | (go_at_call 40; go_must (refine (CC.out _ _ (KRow.arg Si.rnC_size HR.out)).mono ?_; rintro e w3 ⟨rfl, hb⟩; replace RB := Lib.hid (RB.out.keep hb); replace KB := Lib.hid (KB.out.trans (hb.mono KB.out.size)); replace HH := Lib.hid (HH.out.keep hb); replace HN := Lib.hid (KRow.keep HN.out hb); replace HR := Lib.hid (KRow.keep HR.out hb); have j0 : w3.cell? ⟨w1.heap.size, 0, none⟩ = some (.slice nA nn nc) := HH.out.cell 0; clear hb CC))
          | (go_at_call 25; go_must (refine (CX.out _ _ _ (KRow.name (KRow.alloc HN.out (.cells #[.slice nA nn nc, .slice rA rn rc] 25))) (KRow.arg Si.rnC_size (KRow.alloc HR.out (.cells #[.slice nA nn nc, .slice rA rn rc] 25)))).mono ?_; rintro e w4 ⟨rfl, hb⟩; have HC := Lib.hid ((RowAt.new w3 25 #[.slice nA nn nc, .slice rA rn rc]).keep hb); replace RB := Lib.hid ((RB.out.alloc (.cells #[.slice nA nn nc, .slice rA rn rc] 25)).keep hb); replace KB := Lib.hid ((KB.out.alloc KB.out.size (.cells #[.slice nA nn nc, .slice rA rn rc] 25)).trans (hb.mono (KB.out.alloc KB.out.size (.cells #[.slice nA nn nc, .slice rA rn rc] 25)).size)); replace HN := Lib.hid (KRow.keep (KRow.alloc HN.out (.cells #[.slice nA nn nc, .slice rA rn rc] 25)) hb); replace HR := Lib.hid (KRow.keep (KRow.alloc HR.out (.cells #[.slice nA nn nc, .slice rA rn rc] 25)) hb); have k0 : w4.cell? ⟨w3.heap.size, 0, none⟩ = some (.slice nA nn nc) := HC.out.cell 0; have k1 : w4.cell? ⟨w3.heap.size, 1, none⟩ = some (.slice rA rn rc) := HC.out.cell 1; clear hb CX))
          | ((with_reducible refine wpList_store_kp RB.out #[.slice nA nn nc, .slice rA rn rc] (.tmp 2) _ 25 rfl rfl rfl rfl (by kernel_rfl) rfl rfl ?_); intro wz rz bz)
          | fail)
        have z0 : wz.cell? ⟨w.heap.size, 0, none⟩ = some (.slice nA nn nc) := rz.cell 0
        have z1 : wz.cell? ⟨w.heap.size, 1, none⟩ = some (.slice rA rn rc) := rz.cell 1
        refine bodyPost_ret (v := .tuple #[.agg #[.slice nA nn nc, .slice rA rn rc], .int .i64 0]) (by simp [results, Tryz.results11, go_sem, z0, z1]) rfl ?_
        rw [HF.out]
        exact ⟨_, _, rfl, KRow.mono (KRow.kp HN.out bz (fun g hg hm => by simp at hm; have := (KRow.lt HN.out g hg).1; omega)) (Nat.le_succ _), KRow.mono (KRow.kp HR.out bz (fun g hg hm => by simp at hm; have := (KRow.lt HR.out g hg).1; omega)) (Nat.le_succ _), KB.out.trans (bz.below (B := w.heap.size) (by simp) KB.out.size)⟩
      · have cz' : (z != 0) = true := by simp; omega
        have HBAD := Lib.hid (HD4L.out cz)
        clear HD4L HD5L hz
        go_enter Tryz.func11, Tryz.ntmps11
        go_wp2_with (first
          | (go_at_call 38; go_must (refine (CH.out ()).mono ?_; rintro e w1 ⟨vN, vP, T1, er1, rfl, hE, hT, hb, hN, hP⟩; obtain rfl : er1 = 0 := hE; obtain rfl : T1 = T := hT; obtain ⟨nA, nn, nc, rfl, hnn⟩ := KRow.form hN; obtain ⟨pA, pn, pc, rfl, hpn⟩ := KRow.form hP; replace RB := Lib.hid ((RB.out.keep hb).alloc (.cells #[.slice nA nn nc, .int .i64 T1, .slice pA pn pc] 71)); obtain rfl : nn = ch := hnn.trans HCH.out; have HH := Lib.hid (RowAt.new w1 71 #[.slice nA nn nc, .int .i64 T1, .slice pA pn pc]); have HN := Lib.hid (KRow.alloc (KRow.mono hN (show w.heap.size + 1 ≤ (w.alloc _).heap.size by rw [World.size_alloc]; exact Nat.le_refl _)) (.cells #[.slice nA nn nc, .int .i64 T1, .slice pA pn pc] 71)); have HP := Lib.hid (KArg.keep (KRow.arg ptC_size hP) (ba w1 (.cells #[.slice nA nn nc, .int .i64 T1, .slice pA pn pc] 71))); have HLW := Lib.hid (show w.heap.size < w1.heap.size from Nat.lt_of_lt_of_le (by rw [World.size_alloc]; exact Nat.lt_succ_self _) hb.size); replace KB := Lib.hid ((KB.out.trans (hb.mono KB.out.size)).alloc (KB.out.trans (hb.mono KB.out.size)).size (.cells #[.slice nA nn nc, .int .i64 T1, .slice pA pn pc] 71)); clear hnn hpn hb hN hP CH))
          | (go_at_call 39; go_must (refine (CP.out _ KB.out _ _ _ _ HP.out).mono ?_; rintro e w2 ⟨v, er2, rfl, ⟨rA, rn, rc, rfl⟩, hE, hr, hb⟩; obtain rfl : er2 = 0 := hE; replace RB := Lib.hid (RB.out.keep hb); replace KB := Lib.hid (KB.out.trans (hb.mono KB.out.size)); replace HH := Lib.hid (HH.out.keep hb); replace HN := Lib.hid (KRow.keep HN.out hb); have HR := Lib.hid (KRow.mono hr (show w.heap.size + 1 ≤ _ from Nat.le_trans (Nat.succ_le_of_lt HLW.out) (by rw [World.size_alloc]; exact Nat.le_succ _))); clear hb hr CP))
          | (go_at_call 40; go_must (refine (CC.out _ _ (KRow.arg Si.rnC_size HR.out)).mono ?_; rintro e w3 ⟨rfl, hb⟩; replace RB := Lib.hid (RB.out.keep hb); replace KB := Lib.hid (KB.out.trans (hb.mono KB.out.size)); replace HH := Lib.hid (HH.out.keep hb); replace HN := Lib.hid (KRow.keep HN.out hb); replace HR := Lib.hid (KRow.keep HR.out hb); have j0 : w3.cell? ⟨w1.heap.size, 0, none⟩ = some (.slice nA nn nc) := HH.out.cell 0; clear hb CC))
          | (go_at_call 25; go_must (refine (CX.out _ _ _ (KRow.name (KRow.alloc HN.out (.cells #[.slice nA nn nc, .slice rA rn rc] 25))) (KRow.arg Si.rnC_size (KRow.alloc HR.out (.cells #[.slice nA nn nc, .slice rA rn rc] 25)))).mono ?_; rintro e w4 ⟨rfl, hb⟩; have HC := Lib.hid ((RowAt.new w3 25 #[.slice nA nn nc, .slice rA rn rc]).keep hb); replace RB := Lib.hid ((RB.out.alloc (.cells #[.slice nA nn nc, .slice rA rn rc] 25)).keep hb); replace KB := Lib.hid ((KB.out.alloc KB.out.size (.cells #[.slice nA nn nc, .slice rA rn rc] 25)).trans (hb.mono (KB.out.alloc KB.out.size (.cells #[.slice nA nn nc, .slice rA rn rc] 25)).size)); replace HN := Lib.hid (KRow.keep (KRow.alloc HN.out (.cells #[.slice nA nn nc, .slice rA rn rc] 25)) hb); replace HR := Lib.hid (KRow.keep (KRow.alloc HR.out (.cells #[.slice nA nn nc, .slice rA rn rc] 25)) hb); clear hb CX))
          | ((with_reducible refine wpList_store_at (B := w.heap.size) RB.out (Nat.le_refl _) #[.slice none 0 0, .slice none 0 0] (.tmp 2) _ 25 rfl rfl rfl rfl (by kernel_rfl) rfl rfl ?_); intro wz rz bz)
          | fail)
        have z0 : wz.cell? ⟨w.heap.size, 0, none⟩ = some (.slice none 0 0) := rz.cell 0
        have z1 : wz.cell? ⟨w.heap.size, 1, none⟩ = some (.slice none 0 0) := rz.cell 1
        refine bodyPost_ret (v := .tuple #[.agg #[.slice none 0 0, .slice none 0 0], .int .i64 z]) (by simp [results, Tryz.results11, go_sem, z0, z1]) rfl ?_
        exact DcR.bad HBAD.out (KB.out.trans bz)

end Go.Proofs.YtillcmddbjhepaaGreatDoor
