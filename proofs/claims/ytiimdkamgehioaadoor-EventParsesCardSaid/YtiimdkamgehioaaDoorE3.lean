/-
  The line of an event, and the event of a line: the mathematics of layer 7, without the program (qt, unq: layer 5's quoting).
-/
import Derived.Test.YtiimdkamgehioaaDoorE2
import Derived.Test.YtiimdkamgehioaaDoorM2
namespace Go.Proofs.YtiimdkamgehioaaDoor
open Go
set_option linter.unusedSimpArgs false

/-- What stands before the first blank, and behind it. -/
def wd : List UInt8 → Option (List UInt8 × List UInt8)
  | [] => none
  | c :: r => if c = 32 then some ([], r) else (wd r).map fun p => (c :: p.1, p.2)
theorem wd_app (x y : List UInt8) (h : ∀ c ∈ x, c ≠ 32) : wd (x ++ 32 :: y) = some (x, y) := by
  induction x with
  | nil => rfl
  | cons c r ih =>
    rw [List.cons_append, wd, if_neg (h c List.mem_cons_self), ih fun d hd => h d (List.mem_cons_of_mem _ hd)]
    rfl
theorem wd_back {l x y : List UInt8} (h : wd l = some (x, y)) : l = x ++ 32 :: y := by
  induction l generalizing x with
  | nil => cases h
  | cons c r ih =>
    rw [wd] at h
    split at h
    · rename_i hc
      simp only [Option.some.injEq, Prod.mk.injEq] at h
      obtain ⟨rfl, rfl⟩ := h
      rw [hc]; rfl
    · cases hr : wd r with
      | none => rw [hr] at h; cases h
      | some p =>
        rw [hr] at h
        simp only [Option.map_some, Option.some.injEq, Prod.mk.injEq] at h
        obtain ⟨rfl, rfl⟩ := h
        rw [ih hr]; rfl

/-- The kinds' names. -/
def nm7 (k : Int) : List UInt8 :=
  if k = 1 then [108, 101, 118, 101, 108] else if k = 2 then [98, 105, 116] else if k = 3 then [98, 121, 116, 101] else if k = 4 then [109, 97, 114, 107]
  else if k = 5 then [102, 114, 97, 109, 101] else if k = 6 then [112, 97, 99, 107, 101, 116] else if k = 7 then [99, 111, 109, 109, 97, 110, 100] else [112, 97, 105, 114]
def kd (x : List UInt8) : Option Int :=
  if x = nm7 1 then some 1 else if x = nm7 2 then some 2 else if x = nm7 3 then some 3 else if x = nm7 4 then some 4
  else if x = nm7 5 then some 5 else if x = nm7 6 then some 6 else if x = nm7 7 then some 7 else if x = nm7 8 then some 8 else none
theorem kd_nm (k : Int) (h1 : 1 ≤ k) (h2 : k ≤ 8) : kd (nm7 k) = some k ∧ ∀ c ∈ nm7 k, c ≠ 32 := by
  have : k = 1 ∨ k = 2 ∨ k = 3 ∨ k = 4 ∨ k = 5 ∨ k = 6 ∨ k = 7 ∨ k = 8 := by omega
  rcases this with rfl | rfl | rfl | rfl | rfl | rfl | rfl | rfl <;> exact ⟨by decide, by decide⟩
theorem kd_back {x : List UInt8} {k : Int} (h : kd x = some k) : nm7 k = x ∧ 1 ≤ k ∧ k ≤ 8 := by
  unfold kd at h
  (repeat' split at h) <;> first
    | (cases h; done)
    | (rename_i hx
       simp only [Option.some.injEq] at h
       subst h
       exact ⟨hx.symm, by decide, by decide⟩)

/-- The line. -/
def ln7 (e : Ev) : List UInt8 := nm7 e.k ++ 32 :: (Lib.itoa e.f ++ 32 :: (Lib.itoa e.t ++ 32 :: (Lib.itoa e.v ++ 32 :: (Lib.itoa e.a ++ 32 :: (Lib.itoa e.u ++ 32 :: qt e.d)))))
/-- A blank's word as a number, and what follows. -/
def wn (l : List UInt8) : Option (Int × List UInt8) :=
  match wd l with
  | none => none
  | some (x, y) => match n7 x with
    | none => none
    | some v => some (v, y)
theorem wn_itoa (v : Int) (y : List UInt8) (h1 : -9007199254740992 ≤ v) (h2 : v ≤ 9007199254740992) : wn (Lib.itoa v ++ 32 :: y) = some (v, y) := by
  unfold wn
  rw [wd_app _ _ (itoa_blank v)]
  simp only [n7_itoa v h1 h2]
theorem wn_back {l y : List UInt8} {v : Int} (h : wn l = some (v, y)) (h1 : -9007199254740992 ≤ v) (h2 : v ≤ 9007199254740992) : l = Lib.itoa v ++ 32 :: y := by
  unfold wn at h
  split at h
  · cases h
  · rename_i x y' hw
    split at h
    · cases h
    · rename_i u hn
      simp only [Option.some.injEq, Prod.mk.injEq] at h
      obtain ⟨rfl, rfl⟩ := h
      rw [n7_back x u hn h1 h2]
      exact wd_back hw
/-- The event of a line, its bounds not yet asked. -/
def p7 (s : List UInt8) : Option Ev :=
  match wd s with
  | none => none
  | some (x, r0) => match kd x with
    | none => none
    | some k => match wn r0 with
      | none => none
      | some (f, r1) => match wn r1 with
        | none => none
        | some (t, r2) => match wn r2 with
          | none => none
          | some (v, r3) => match wn r3 with
            | none => none
            | some (a, r4) => match wn r4 with
              | none => none
              | some (u, r5) => match unq r5 with
                | none => none
                | some d => if qt d = r5 then some ⟨k, f, t, v, a, d, u⟩ else none
theorem vE_all {e : Ev} (h : vE e = true) : (1 ≤ e.k ∧ e.k ≤ 8) ∧ (0 ≤ e.f ∧ e.f ≤ 1099511627776) ∧ (0 ≤ e.t ∧ e.t ≤ 1099511627776) ∧ (-9007199254740992 ≤ e.v ∧ e.v ≤ 9007199254740992) ∧ (-9007199254740992 ≤ e.a ∧ e.a ≤ 9007199254740992) ∧ (0 ≤ e.u ∧ e.u ≤ 12) ∧ e.d.length ≤ 4096 ∧ e.f ≤ e.t := by
  unfold vE at h
  simp only [decide_eq_true_eq] at h
  omega
/-- A line is read back. -/
theorem p7_ln (e : Ev) (h : vE e = true) : p7 (ln7 e) = some e := by
  obtain ⟨hk, hf, ht, hv, ha, hu, _, _⟩ := vE_all h
  obtain ⟨e1, e2⟩ := kd_nm e.k hk.1 hk.2
  unfold p7 ln7
  rw [wd_app _ _ e2]
  simp only [e1]
  rw [wn_itoa e.f _ (by omega) (by omega)]
  simp only
  rw [wn_itoa e.t _ (by omega) (by omega)]
  simp only
  rw [wn_itoa e.v _ (by omega) (by omega)]
  simp only
  rw [wn_itoa e.a _ (by omega) (by omega)]
  simp only
  rw [wn_itoa e.u _ (by omega) (by omega)]
  simp only [unq_qt, if_true]
/-- What is read as a valid event is its line. -/
theorem ln7_p7 {s : List UInt8} {e : Ev} (h : p7 s = some e) (hv : vE e = true) : ln7 e = s := by
  obtain ⟨hk, hf, ht, hw, ha, hu, _, _⟩ := vE_all hv
  unfold p7 at h
  split at h
  · cases h
  rename_i x r0 h0
  split at h
  · cases h
  rename_i k hkd
  split at h
  · cases h
  rename_i f r1 h1
  split at h
  · cases h
  rename_i t r2 h2
  split at h
  · cases h
  rename_i v r3 h3
  split at h
  · cases h
  rename_i a r4 h4
  split at h
  · cases h
  rename_i u r5 h5
  split at h
  · cases h
  rename_i d hd
  by_cases hq : qt d = r5
  case neg => rw [if_neg hq] at h; cases h
  rw [if_pos hq] at h
  simp only [Option.some.injEq] at h
  subst h
  simp only at hk hf ht hw ha hu
  unfold ln7
  simp only
  rw [(kd_back hkd).1, hq, ← wn_back h5 (by omega) (by omega), ← wn_back h4 (by omega) (by omega), ← wn_back h3 (by omega) (by omega), ← wn_back h2 (by omega) (by omega), ← wn_back h1 (by omega) (by omega)]
  exact (wd_back h0).symm

end Go.Proofs.YtiimdkamgehioaaDoor
