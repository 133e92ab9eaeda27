/-
  The walks of reversed, crc, Bits and Bytes of the program.
  Stored captures, plain mathematics: the four bytes of a number, the checksum by pieces.
  Stored captures, plain mathematics: the bytes of a capture of clean runs.
  Stored captures, plain mathematics: reading numbers and four bytes.
  The walks of the specification's next, final, Bits and Bytes.
-/
import Derived.Test.YtillcmddbjhepaaGreatDoorZ04
import Derived.Deep.RegionHeld3
import Derived.Test.YtillcmddbjhepaaGreatDoorZ01
import Derived.Test.YtillcmddbjhepaaGreatDoorZ03
namespace Go.Proofs.YtillcmddbjhepaaGreatDoor
namespace Sd
open Go.RowKit
set_option linter.unusedVariables false
set_option linter.unusedSimpArgs false

set_option maxHeartbeats 1000000 in
theorem reversed_any (V n : Nat) (w : World) (hV : V ≤ 31) (hn : n < 2 ^ (V + 1)) :
    Calls Tryz.prog 123 #[.int .i64 n, .int .i64 ((V : Int) + 1)] w fun e w' => e = .returned (.int .i64 (rv n (V + 1) : Nat)) ∧ Below w.heap.size w w' := by
  have hn' := lt32 hV hn
  have C1 := fun w => fromInt_any n ((V : Int) + 1) true w (by omega) (by omega)
  have e1 : fiT n ((V : Int) + 1) true = fi n (V + 1) true := fiT_in (W := V + 1) n true (by omega)
  rw [e1] at C1
  have C2 := fun w => int_any ⟨(fi n (V + 1) true).toArray⟩ false w (by rw [size_mk, fi_length]; omega)
  have hi := in_ok false (fi_ok n (V + 1) true (by omega)) (by rw [fi_length]; omega)
  unfold inVal at C2
  rw [toList_mk, hi.1, hi.2, numV_rv] at C2
  generalize (⟨(fi n (V + 1) true).toArray⟩ : ByteArray) = T at C1 C2
  have H1 := Lib.hid C1; have H2 := Lib.hid C2
  clear C1 C2 hi e1
  generalize rv n (V + 1) = M at *
  go_enter Tryz.func123, Tryz.ntmps123
  go_wp2_with (first
    | (go_at_call 127; go_must (refine (H1.out _).mono ?_; rintro e w1 ⟨rfl, b1⟩))
    | (go_at_call 126; go_must (refine (H2.out _).mono ?_; rintro e w2 ⟨rfl, b2⟩)))
  go_returns
  exact ⟨rfl, b1.trans (b2.mono b1.size)⟩

set_option maxRecDepth 20000 in
set_option maxHeartbeats 1000000 in
theorem crc_any (V P I X : Nat) (R : Bool) (s : ByteArray) (w : World) (hs : s.size ≤ 140737488351232) (hok : ob s.data.toList = true) (hV : V ≤ 31) (hP : P < 2 ^ (V + 1)) (hI : I < 2 ^ (V + 1)) (hX : X < 2 ^ (V + 1)) :
    Calls Tryz.prog 112 #[crV ((V : Int) + 1) P I X R, .string s] w fun e w' => e = .returned (.int .i64 (cr (V + 1) P I X R s.data.toList : Nat)) ∧ Below w.heap.size w w' := by
  have C1 := fun w => register_any V P I X R s w hs hok hV hP hI
  have hr := rgn_lt hP (bs s.data.toList) I hI
  have C2 := fun w => reversed_any V (rgn (V + 1) P I (bs s.data.toList)) w hV hr
  have hv := rv_lt (rgn (V + 1) P I (bs s.data.toList)) (V + 1)
  have hr' := lt32 hV hr
  have hv' := lt32 hV hv
  have hX' := lt32 hV hX
  unfold cr rvI
  generalize rgn (V + 1) P I (bs s.data.toList) = N at *
  unfold crV at *
  have H1 := Lib.hid C1; have H2 := Lib.hid C2
  clear C1 C2
  clear hr hv hP hI hX hs hok
  cases R
  · have hx := xor_i64 N X (by omega) (by omega)
    rw [if_neg (by simp)]
    go_enter Tryz.func112, Tryz.ntmps112
    go_wp2_with (first
      | (go_at_call 122; go_must (refine (H1.out _).mono ?_; rintro e w1 ⟨rfl, b1⟩; obtain ⟨c0, c1, c2, c3, c4, c5⟩ := (At5.new _ _ _ _ _ _ _).below b1)))
    go_returns
    exact ⟨ret_int (by first | exact hx | rfl), (ba w _).trans (b1.mono (by rw [World.size_alloc]; omega))⟩
  · rw [if_pos rfl]
    generalize rv N (V + 1) = M at *
    have hx := xor_i64 M X (by omega) (by omega)
    go_enter Tryz.func112, Tryz.ntmps112
    go_wp2_with (first
      | (go_at_call 122; go_must (refine (H1.out _).mono ?_; rintro e w1 ⟨rfl, b1⟩; have g1 := (At5.new _ _ _ _ _ _ _).below b1; obtain ⟨c0, c1, c2, c3, c4, c5⟩ := g1))
      | (go_at_call 123; go_must (refine (H2.out _).mono ?_; rintro e w2 ⟨rfl, b2⟩; obtain ⟨d0, d1, d2, d3, d4, d5⟩ := At5.below ⟨c0, c1, c2, c3, c4, c5⟩ b2)))
    go_returns
    exact ⟨ret_int (by first | exact hx | rfl), ((ba w _).trans (b1.mono (by rw [World.size_alloc]; omega))).trans (b2.mono (Nat.le_trans (by rw [World.size_alloc]; omega) b1.size))⟩

/-- A valid description's numbers. -/
theorem rt_nat {W P I X : Int} (h : rt W P I X = true) : ∃ V p i x : Nat, W = (V : Int) + 1 ∧ P = p ∧ I = i ∧ X = x ∧ V ≤ 31 ∧ p < 2 ^ (V + 1) ∧ i < 2 ^ (V + 1) ∧ x < 2 ^ (V + 1) ∧ p % 2 = 1 := by
  unfold rt at h
  simp only [Bool.and_eq_true, decide_eq_true_eq] at h
  obtain ⟨⟨⟨⟨⟨h1, h2⟩, hp⟩, hi⟩, hx⟩, ho⟩ := h
  obtain ⟨V, rfl⟩ : ∃ V : Nat, W = (V : Int) + 1 := ⟨W.toNat - 1, by omega⟩
  rw [show ((V : Int) + 1) = ((V + 1 : Nat) : Int) by omega, ft_nat, decide_eq_true_eq] at hp hi hx
  obtain ⟨p, rfl⟩ : ∃ p : Nat, P = p := ⟨P.toNat, by omega⟩
  obtain ⟨i, rfl⟩ : ∃ i : Nat, I = i := ⟨I.toNat, by omega⟩
  obtain ⟨x, rfl⟩ : ∃ x : Nat, X = x := ⟨X.toNat, by omega⟩
  exact ⟨V, p, i, x, rfl, rfl, rfl, rfl, by omega, by omega, by omega, by omega, by omega⟩

/-- What Bits and Bytes answer: the CRC, and the error. -/
def crI (W P I X : Int) (R : Bool) (l : List UInt8) : Nat := cr W.toNat P.toNat I.toNat X.toNat R l
theorem crI_nat (V p i x : Nat) (R : Bool) (l : List UInt8) : crI ((V : Int) + 1) p i x R l = cr (V + 1) p i x R l := by
  unfold crI
  rw [show ((V : Int) + 1).toNat = V + 1 by omega]; simp
def biE (W P I X : Int) (l : List UInt8) : Nat := if rt W P I X = true then (if ob l = true then (if l.length ≤ 65536 then 0 else 6) else 4) else 1
def biV (W P I X : Int) (R : Bool) (l : List UInt8) : Nat := if biE W P I X l = 0 then crI W P I X R l else 0
def byE (W P I X : Int) (l : List UInt8) : Nat := if rt W P I X = true then (if l.length ≤ 8192 then 0 else 6) else 1
def byV (W P I X : Int) (R : Bool) (l : List UInt8) : Nat := if byE W P I X l = 0 then crI W P I X R (fb l (!R)) else 0
def two (a b : Nat) : Value := .tuple #[.int .i64 a, .int .i64 b]
theorem two_of {a b : Nat} {x y : Int} (hx : x = a) (hy : y = b) : Ending.returned (.tuple #[.int .i64 x, .int .i64 y]) = .returned (two a b) := by subst hx hy; rfl
theorem biV_err {W P I X : Int} {R : Bool} {l : List UInt8} (h : biE W P I X l ≠ 0) : biV W P I X R l = 0 := by unfold biV; rw [if_neg h]
theorem byV_err {W P I X : Int} {R : Bool} {l : List UInt8} (h : byE W P I X l ≠ 0) : byV W P I X R l = 0 := by unfold byV; rw [if_neg h]
theorem bi_arg {W P I X : Int} {R : Bool} {l : List UInt8} (h : rt W P I X = false) : biE W P I X l = 1 ∧ biV W P I X R l = 0 := by
  have : biE W P I X l = 1 := by unfold biE; rw [h]; rfl
  exact ⟨this, biV_err (by rw [this]; decide)⟩
theorem bi_syn {W P I X : Int} {R : Bool} {l : List UInt8} (h : rt W P I X = true) (h1 : ob l = false) : biE W P I X l = 4 ∧ biV W P I X R l = 0 := by
  have : biE W P I X l = 4 := by unfold biE; rw [h, h1]; rfl
  exact ⟨this, biV_err (by rw [this]; decide)⟩
theorem bi_lim {W P I X : Int} {R : Bool} {l : List UInt8} (h : rt W P I X = true) (h1 : ob l = true) (h2 : 65536 < l.length) : biE W P I X l = 6 ∧ biV W P I X R l = 0 := by
  have : biE W P I X l = 6 := by unfold biE; rw [h, h1, if_pos rfl, if_pos rfl, if_neg (by omega)]
  exact ⟨this, biV_err (by rw [this]; decide)⟩
theorem bi_ok {W P I X : Int} {R : Bool} {l : List UInt8} (h : rt W P I X = true) (h1 : ob l = true) (h2 : l.length ≤ 65536) : biE W P I X l = 0 ∧ biV W P I X R l = crI W P I X R l := by
  have : biE W P I X l = 0 := by unfold biE; rw [h, h1, if_pos rfl, if_pos rfl, if_pos h2]
  exact ⟨this, by unfold biV; rw [if_pos this]⟩
theorem by_arg {W P I X : Int} {R : Bool} {l : List UInt8} (h : rt W P I X = false) : byE W P I X l = 1 ∧ byV W P I X R l = 0 := by
  have : byE W P I X l = 1 := by unfold byE; rw [h]; rfl
  exact ⟨this, byV_err (by rw [this]; decide)⟩
theorem by_lim {W P I X : Int} {R : Bool} {l : List UInt8} (h : rt W P I X = true) (h2 : 8192 < l.length) : byE W P I X l = 6 ∧ byV W P I X R l = 0 := by
  have : byE W P I X l = 6 := by unfold byE; rw [h, if_pos rfl, if_neg (by omega)]
  exact ⟨this, byV_err (by rw [this]; decide)⟩
theorem by_ok {W P I X : Int} {R : Bool} {l : List UInt8} (h : rt W P I X = true) (h2 : l.length ≤ 8192) : byE W P I X l = 0 ∧ byV W P I X R l = crI W P I X R (fb l (!R)) := by
  have : byE W P I X l = 0 := by unfold byE; rw [h, if_pos rfl, if_pos h2]
  exact ⟨this, by unfold byV; rw [if_pos this]⟩
theorem fb_ob (l : List UInt8) (msb : Bool) : ob (fb l msb) = true := by
  unfold ob
  rw [List.all_eq_true]
  intro b hb
  simp only [fb, List.mem_flatMap] at hb
  obtain ⟨x, _, hx⟩ := hb
  exact (isBit_iff b).2 (fi_bits _ _ _ b hx)

/-- What a region that draws its order holds of the world. -/
theorem held5 {w0 w w' : World} {b : Nat} {W P I X : Int} {R : Bool}
    (h : w.cell? ⟨b, 0, none⟩ = some (.int .i64 W) ∧ w.cell? ⟨b, 1, none⟩ = some (.int .i64 P) ∧ w.cell? ⟨b, 2, none⟩ = some (.int .i64 I) ∧ w.cell? ⟨b, 3, none⟩ = some (.int .i64 X) ∧ w.cell? ⟨b, 4, none⟩ = some (.bool R) ∧ Below w0.heap.size w0 w ∧ b < w.heap.size) (hb : Below w.heap.size w w') :
    w'.cell? ⟨b, 0, none⟩ = some (.int .i64 W) ∧ w'.cell? ⟨b, 1, none⟩ = some (.int .i64 P) ∧ w'.cell? ⟨b, 2, none⟩ = some (.int .i64 I) ∧ w'.cell? ⟨b, 3, none⟩ = some (.int .i64 X) ∧ w'.cell? ⟨b, 4, none⟩ = some (.bool R) ∧ Below w0.heap.size w0 w' ∧ b < w'.heap.size := by
  obtain ⟨h0, h1, h2, h3, h4, h6, h5⟩ := h
  obtain ⟨g0, g1, g2, g3, g4, g5⟩ := At5.below ⟨h0, h1, h2, h3, h4, h5⟩ hb
  exact ⟨g0, g1, g2, g3, g4, h6.trans (hb.mono h6.size), g5⟩

set_option maxRecDepth 20000 in
set_option maxHeartbeats 2000000 in
theorem bytes_any (W P I X : Int) (R : Bool) (s : ByteArray) (w : World) (hs : s.size ≤ 140737488351232) :
    Calls Tryz.prog 93 #[crV W P I X R, .string s] w fun e w' => e = .returned (two (byV W P I X R s.data.toList) (byE W P I X s.data.toList)) ∧ Below w.heap.size w w' := by
  have hlen := size_len s
  have hs' : (s.size : Int) ≤ 140737488351232 := by omega
  have C1 := fun w => right_any W P I X R w
  unfold crV at C1 ⊢
  rcases h1 : rt W P I X with _ | _
  · rw [h1] at C1
    obtain ⟨e1, e2⟩ := by_arg (R := R) (l := s.data.toList) h1
    rw [e1, e2]
    have H1 := Lib.hid C1
    clear C1 h1 e1 e2 hlen
    go_enter Tryz.func93, Tryz.ntmps93
    go_wp2_with (first
      | (go_at_call 111; go_must (refine (H1.out _).mono ?_; rintro e w1 ⟨rfl, b1⟩; obtain ⟨c0, c1, c2, c3, c4, c5⟩ := (At5.new _ _ _ _ _ _ _).below b1)))
    go_returns
    exact ⟨two_of rfl rfl, (ba w _).trans (b1.mono (by rw [World.size_alloc]; omega))⟩
  rw [h1] at C1
  by_cases h3 : 8192 < s.size
  · obtain ⟨e1, e2⟩ := by_lim (R := R) h1 (l := s.data.toList) (by omega)
    rw [e1, e2]
    have H1 := Lib.hid C1
    clear C1 h1 e1 e2 hlen
    go_enter Tryz.func93, Tryz.ntmps93
    go_wp2_with (first
      | (go_at_call 111; go_must (refine (H1.out _).mono ?_; rintro e w1 ⟨rfl, b1⟩; obtain ⟨c0, c1, c2, c3, c4, c5⟩ := (At5.new _ _ _ _ _ _ _).below b1)))
    go_returns
    exact ⟨two_of rfl rfl, (ba w _).trans (b1.mono (by rw [World.size_alloc]; omega))⟩
  · obtain ⟨e1, e2⟩ := by_ok (R := R) h1 (l := s.data.toList) (by omega)
    rw [e1, e2]
    obtain ⟨V, p, i, x, rfl, rfl, rfl, rfl, hV, hp, hi, hx, -⟩ := rt_nat h1
    have C2 := fun w => fromBytes_any s (!R) w hs
    rw [show fbT s.data.toList (!R) = fb s.data.toList (!R) by unfold fbT; rw [if_pos (by omega)]] at C2
    have C3 := fun w => crc_any V p i x R ⟨(fb s.data.toList (!R)).toArray⟩ w (by rw [size_mk, fb_length]; omega) (by rw [toList_mk]; exact fb_ob _ _) hV hp hi hx
    rw [← crI_nat, toList_mk] at C3
    unfold crV at C3
    generalize crI ((V : Int) + 1) p i x R (fb s.data.toList (!R)) = M at *
    generalize (⟨(fb s.data.toList (!R)).toArray⟩ : ByteArray) = T at *
    have H1 := Lib.hid C1; have H2 := Lib.hid C2; have H3 := Lib.hid C3
    clear C1 C2 C3 h1 e1 e2 hlen hp hi hx
    go_enter Tryz.func93, Tryz.ntmps93
    go_wp2_with (first
      | (go_at_call 111; go_must (refine (H1.out _).mono ?_; rintro e w1 ⟨rfl, b1⟩; obtain ⟨c0, c1, c2, c3, c4, c5⟩ := (At5.new _ _ _ _ _ _ _).below b1)))
    have HB : Below w.heap.size w w1 := (ba w _).trans (b1.mono (by rw [World.size_alloc]; omega))
    go_region_held3 (fun w' => w'.cell? ⟨w.heap.size, 0, none⟩ = some (.int .i64 ((V : Int) + 1)) ∧ w'.cell? ⟨w.heap.size, 1, none⟩ = some (.int .i64 p) ∧ w'.cell? ⟨w.heap.size, 2, none⟩ = some (.int .i64 i) ∧ w'.cell? ⟨w.heap.size, 3, none⟩ = some (.int .i64 x) ∧ w'.cell? ⟨w.heap.size, 4, none⟩ = some (.bool R) ∧ Below w.heap.size w w' ∧ w.heap.size < w'.heap.size) (first | exact ⟨c0, c1, c2, c3, c4, HB.drew, c5⟩ | assumption | go_keep)
      (first
        | (go_at_call 113; refine (H2.out _).mono ?_; rintro e w2 ⟨rfl, b2⟩; have h2 := held5 (by assumption) b2)
        | (go_at_call 112; refine (H3.out _).mono ?_; rintro e w3 ⟨rfl, b3⟩; have h3 := held5 (by assumption) b3))
    all_goals go_wp2
    all_goals go_returns
    all_goals (refine ⟨two_of rfl rfl, ?_⟩; rename_i hh; exact hh.2.2.2.2.2.1)

end Sd
end Go.Proofs.YtillcmddbjhepaaGreatDoor

namespace Go.Proofs.YtillcmddbjhepaaGreatDoor
set_option linter.unusedSimpArgs false
set_option linter.unusedVariables false
open Go

def four (n : Nat) : List UInt8 := [UInt8.ofNat n, UInt8.ofNat (n / 256), UInt8.ofNat (n / 65536), UInt8.ofNat (n / 16777216)]
theorem four_len (n : Nat) : (four n).length = 4 := rfl
theorem four_take (n k : Nat) (h : k < 4) : (four n).take (k + 1) = (four n).take k ++ [UInt8.ofNat (n / 256 ^ k)] := by
  rcases k with _ | _ | _ | _ | k <;> first | omega | simp [four]

/-- The checksum of a piece, behind the checksum of the pieces before it. -/
def ckp (s : Nat) (l : List UInt8) : Nat := Sd.crI 32 79764919 4294967295 4294967295 true (Sd.fb (four s ++ l) (!true))
theorem ckp_lt (s : Nat) (l : List UInt8) : ckp s l < 4294967296 := by
  have h := Sd.crI_nat 31 79764919 4294967295 4294967295 true (Sd.fb (four s ++ l) (!true))
  have h2 := Sd.cr_lt (W := 32) (P := 79764919) (I := 4294967295) (X := 4294967295) (R := true) (Sd.fb (four s ++ l) (!true)) (by decide) (by decide) (by decide)
  unfold ckp
  have e : Sd.crI 32 79764919 4294967295 4294967295 true (Sd.fb (four s ++ l) (!true)) = Sd.cr 32 79764919 4294967295 4294967295 true (Sd.fb (four s ++ l) (!true)) := h
  rw [e]
  exact h2
theorem rt32 : Sd.rt 32 79764919 4294967295 4294967295 = true := by decide
set_option linter.unusedVariables false in
theorem by_piece (s : Nat) (l : List UInt8) (h : l.length ≤ 4096) : Sd.byE 32 79764919 4294967295 4294967295 (four s ++ l) = 0 ∧ Sd.byV 32 79764919 4294967295 4294967295 true (four s ++ l) = ckp s l :=
  Sd.by_ok rt32 (by rw [List.length_append, four_len]; omega)

/-- The checksum of what is left, behind the checksum of the pieces before it. -/
def ckr (s : Nat) (l : List UInt8) : Nat := if h : l.length = 0 then s else ckr (ckp s (l.take 4096)) (l.drop 4096)
termination_by l.length
decreasing_by simp only [List.length_drop]; omega
theorem ckr_nil (s : Nat) : ckr s [] = s := by rw [ckr]; simp
theorem ckr_more (s : Nat) (l : List UInt8) (h : 0 < l.length) : ckr s l = ckr (ckp s (l.take 4096)) (l.drop 4096) := by rw [ckr, dif_neg (by omega)]
def ck (l : List UInt8) : Nat := ckr (ckp 0 (l.take 4096)) (l.drop 4096)
theorem ckr_lt (s : Nat) (l : List UInt8) (h : s < 4294967296) : ckr s l < 4294967296 := by
  induction hn : l.length using Nat.strongRecOn generalizing s l with
  | ind n ih =>
    by_cases h0 : 0 < l.length
    · rw [ckr_more s l h0]
      exact ih (l.drop 4096).length (by simp only [List.length_drop]; omega) _ _ (ckp_lt _ _) rfl
    · have : l = [] := List.eq_nil_of_length_eq_zero (by omega)
      subst this
      rw [ckr_nil]; exact h
theorem ck_lt (l : List UInt8) : ck l < 4294967296 := ckr_lt _ _ (ckp_lt _ _)

end Go.Proofs.YtillcmddbjhepaaGreatDoor

namespace Go.Proofs.YtillcmddbjhepaaGreatDoor
set_option linter.unusedSimpArgs false
open Go
set_option linter.unusedVariables false

def bkN (n : Nat) : Nat := (n + 15) / 16
def szN (n k : Nat) : Nat := min (n - 16 * k) 16
theorem szN_le (n k : Nat) : szN n k ≤ 16 := Nat.min_le_right _ _
theorem szN_at {n k : Nat} (h : k < bkN n) : 16 * k < n ∧ 0 < szN n k ∧ 16 * k + szN n k ≤ n := by unfold bkN at h; unfold szN; omega

def rb (r : Si.Rn) : List UInt8 := Sb.put r.1.toNat ++ Sb.put r.2.toNat
def bb (l : List Si.Rn) : List UInt8 := l.flatMap rb
def blk (l : List Si.Rn) (k : Nat) : List Si.Rn := (l.drop (16 * k)).take 16
def ent (l : List Si.Rn) (k : Nat) : List UInt8 := Sb.put (Si.lg (l.take (16 * k))).toNat ++ Sb.put (bb (blk l k)).length ++ four (ck (bb (blk l k)))
def ents (l : List Si.Rn) (n : Nat) : List UInt8 := (List.range n).flatMap (ent l)
def bdy (l : List Si.Rn) (n : Nat) : List UInt8 := (List.range n).flatMap fun k => bb (blk l k)
def nm1 (s : ByteArray) : List UInt8 := Sb.put s.size ++ s.data.toList
def nms (N : List ByteArray) : List UInt8 := N.flatMap nm1
def hdF (N : List ByteArray) (l : List Si.Rn) : List UInt8 := [83, 66, 1] ++ Sb.put N.length ++ nms N ++ Sb.put l.length ++ Sb.put (Si.lg l).toNat ++ Sb.put (bkN l.length) ++ ents l (bkN l.length)
def enc (N : List ByteArray) (l : List Si.Rn) : List UInt8 := hdF N l ++ four (ck (hdF N l)) ++ bdy l (bkN l.length)

theorem bb_nil : bb [] = [] := rfl
theorem bb_append (l r : List Si.Rn) : bb (l ++ r) = bb l ++ bb r := by simp [bb]
theorem bb_one (r : Si.Rn) : bb [r] = rb r := by simp [bb]
theorem bb_take (l : List Si.Rn) (j : Nat) (h : j < l.length) : bb (l.take (j + 1)) = bb (l.take j) ++ rb l[j] := by
  rw [List.take_succ_eq_append_getElem h, bb_append, bb_one]
theorem ents_succ (l : List Si.Rn) (n : Nat) : ents l (n + 1) = ents l n ++ ent l n := by simp [ents, List.range_succ]
theorem bdy_succ (l : List Si.Rn) (n : Nat) : bdy l (n + 1) = bdy l n ++ bb (blk l n) := by simp [bdy, List.range_succ]
theorem nms_append (l r : List ByteArray) : nms (l ++ r) = nms l ++ nms r := by simp [nms]
theorem nms_one (s : ByteArray) : nms [s] = nm1 s := by simp [nms]
theorem nms_take (N : List ByteArray) (j : Nat) (h : j < N.length) : nms (N.take (j + 1)) = nms (N.take j) ++ nm1 N[j] := by
  rw [List.take_succ_eq_append_getElem h, nms_append, nms_one]
theorem put_le10 {n : Nat} (h : n < 18446744073709551616) : (Sb.put n).length ≤ 10 := Sb.put_ten h
theorem rb_len {r : Si.Rn} (h1 : r.1 ≤ 9223372036854775807) (h2 : r.2 ≤ 9223372036854775807) : (rb r).length ≤ 20 := by
  unfold rb
  rw [List.length_append]
  have := put_le10 (n := r.1.toNat) (by omega)
  have := put_le10 (n := r.2.toNat) (by omega)
  omega
theorem bb_len {l : List Si.Rn} (h : ∀ r ∈ l, r.1 ≤ 9223372036854775807 ∧ r.2 ≤ 9223372036854775807) : (bb l).length ≤ 20 * l.length := by
  induction l with
  | nil => simp [bb]
  | cons r l ih =>
    have e : bb (r :: l) = rb r ++ bb l := rfl
    rw [e, List.length_append, List.length_cons]
    have h1 := h r (by simp)
    have := rb_len h1.1 h1.2
    have := ih fun x hx => h x (by simp [hx])
    omega
/-- A block, as far as i of its runs. -/
def prtB (l : List Si.Rn) (k i : Nat) : List Si.Rn := (l.drop (16 * k)).take i
theorem prtB_succ (l : List Si.Rn) (k i : Nat) (h : 16 * k + i < l.length) : bb (prtB l k (i + 1)) = bb (prtB l k i) ++ rb l[16 * k + i] := by
  unfold prtB
  have h2 : i < (l.drop (16 * k)).length := by rw [List.length_drop]; omega
  rw [List.take_succ_eq_append_getElem h2, bb_append, bb_one, List.getElem_drop]
theorem prtB_all (l : List Si.Rn) (k : Nat) : prtB l k (szN l.length k) = blk l k := by
  unfold prtB blk szN
  by_cases h : l.length - 16 * k ≤ 16
  · rw [Nat.min_eq_left h, List.take_of_length_le (by rw [List.length_drop]; omega), List.take_of_length_le (by rw [List.length_drop]; omega)]
  · rw [Nat.min_eq_right (by omega)]
theorem take_next (l : List Si.Rn) (k : Nat) (h : k < bkN l.length) : l.take (16 * k + szN l.length k) = l.take (16 * (k + 1)) := by
  unfold szN
  by_cases h2 : l.length - 16 * k ≤ 16
  · have := (szN_at h).1
    rw [Nat.min_eq_left h2, List.take_of_length_le (by omega), List.take_of_length_le (by omega)]
  · rw [Nat.min_eq_right (by omega)]; rfl
theorem prtB_len (l : List Si.Rn) (k i : Nat) : (prtB l k i).length ≤ i := by unfold prtB; rw [List.length_take]; omega
theorem prtB_mem {l : List Si.Rn} {k i : Nat} {r : Si.Rn} (h : r ∈ prtB l k i) : r ∈ l := List.mem_of_mem_drop (List.mem_of_mem_take h)
theorem app_str (a b : List UInt8) : (⟨a.toArray⟩ ++ ⟨b.toArray⟩ : ByteArray) = ⟨(a ++ b).toArray⟩ := by
  apply ByteArray.ext; apply Array.toList_inj.1; simp

end Go.Proofs.YtillcmddbjhepaaGreatDoor

namespace Go.Proofs.YtillcmddbjhepaaGreatDoor
set_option linter.unusedSimpArgs false
open Go
set_option linter.unusedVariables false

/-- A number of at most so much: its value, where it ends, its error. -/
def rN (l : List UInt8) (a most : Nat) : Nat × Nat × Nat := if Sb.tuE l a ≠ 0 then (0, 0, Sb.tuE l a) else if most < Sb.tuV l a then (0, 0, 6) else (Sb.tuV l a, Sb.tuN l a, 0)
theorem rN_err {l : List UInt8} {a most : Nat} (h : Sb.tuE l a ≠ 0) : rN l a most = (0, 0, Sb.tuE l a) := by unfold rN; rw [if_pos h]
theorem rN_lim {l : List UInt8} {a most : Nat} (h : Sb.tuE l a = 0) (h1 : most < Sb.tuV l a) : rN l a most = (0, 0, 6) := by unfold rN; rw [if_neg (by rw [h]; decide), if_pos h1]
theorem rN_ok {l : List UInt8} {a most : Nat} (h : Sb.tuE l a = 0) (h1 : ¬ most < Sb.tuV l a) : rN l a most = (Sb.tuV l a, Sb.tuN l a, 0) := by unfold rN; rw [if_neg (by rw [h]; decide), if_neg h1]
/-- Four bytes. -/
def f4 (l : List UInt8) (a : Nat) : Nat := (l.getD a 0).toNat + 256 * (l.getD (a + 1) 0).toNat + 65536 * (l.getD (a + 2) 0).toNat + 16777216 * (l.getD (a + 3) 0).toNat
def rF (l : List UInt8) (a : Nat) : Nat × Nat × Nat := if l.length < a + 4 then (0, 0, 5) else (f4 l a, a + 4, 0)
def r3 (p : Nat × Nat × Nat) : Value := .tuple #[.int .i64 p.1, .int .i64 p.2.1, .int .i64 p.2.2]
theorem r3_of {p : Nat × Nat × Nat} {x y z : Nat} (h : p = (x, y, z)) : Ending.returned (.tuple #[.int .i64 (x : Int), .int .i64 (y : Int), .int .i64 (z : Int)]) = .returned (r3 p) := by subst h; rfl
theorem f4_four (l r : List UInt8) (n : Nat) (h : n < 4294967296) : f4 (l ++ four n ++ r) l.length = n := by
  have e : ∀ (m : List UInt8) (i : Nat), (l ++ m)[l.length + i]? = m[i]? := fun m i => by
    rw [List.getElem?_append_right (by omega), Nat.add_sub_cancel_left]
  have e0 := e (four n ++ r) 0
  rw [Nat.add_zero] at e0
  unfold f4
  simp only [List.getD_eq_getElem?_getD]
  rw [List.append_assoc, e0, e, e, e]
  unfold four
  simp only [List.cons_append, List.getElem?_cons_zero, List.getElem?_cons_succ, Option.getD_some, UInt8.toNat_ofNat', List.nil_append]
  omega

end Go.Proofs.YtillcmddbjhepaaGreatDoor

namespace Go.Proofs.YtillcmddbjhepaaGreatDoor
namespace Sd
open Go.RowKit
set_option linter.unusedVariables false
set_option linter.unusedSimpArgs false

set_option maxRecDepth 20000 in
set_option maxHeartbeats 1000000 in
theorem next_any (V P N b : Nat) (I X : Int) (R : Bool) (w : World) (hV : V ≤ 31) (hP : P < 2 ^ (V + 1)) (hN : N < 2 ^ (V + 1)) :
    Calls Tryz.prog 96 #[crV ((V : Int) + 1) P I X R, .int .i64 N, .int .i64 b] w fun e w' => e = .returned (.int .i64 (stp (V + 1) P N b : Nat)) ∧ Below w.heap.size w w' := by
  unfold crV
  have hp := lt32 hV hP
  have hn := lt32 hV hN
  obtain ⟨hw, hw0, hw1⟩ := shl_1 (V := V + 1) (by omega)
  have hm := mod_lt32 (N := N) hV
  have hs0 := @stp_yes V P N b
  have hs1 := @stp_no V P N b
  have ht : ((N : Int) / 2 ^ V = (b : Int)) ↔ N / 2 ^ (V + 1 - 1) = b := by
    have e : (N : Int) / 2 ^ V = ((N / 2 ^ V : Nat) : Int) := by simp
    rw [e, Nat.add_sub_cancel]; omega
  obtain ⟨Z, hZ⟩ : ∃ Z, 2 ^ (V + 1) = Z := ⟨_, rfl⟩
  have hmod : ((N : Int) * 2) % (Z : Int) = ((2 * N % Z : Nat) : Int) := by rw [Nat.mul_comm]; simp
  rw [hZ] at hw hw0 hw1 hm hs0 hs1
  obtain ⟨M, hM⟩ : ∃ M, 2 * N % Z = M := ⟨_, rfl⟩
  rw [hM] at hm hs0 hs1 hmod
  clear hM
  have hP' := Lib.hid hP; have hN' := Lib.hid hN
  clear hP hN hZ
  by_cases hd : (N : Int) / 2 ^ V = (b : Int)
  · rw [hs0 (ht.1 hd)]
    have HH := Lib.hid hs1
    clear hs0 hs1 ht
    go_enter Tryz.func96, Tryz.ntmps96
    go_wp2
    go_returns
    exact ⟨ret_int hmod, ba w _⟩
  · rw [hs1 (fun h => hd (ht.2 h))]
    have hx := xor_i64 M P (by omega) (by omega)
    have HH := Lib.hid hs0
    clear hs0 hs1 ht
    go_enter Tryz.func96, Tryz.ntmps96
    go_wp2
    go_returns
    exact ⟨ret_int (by first | rfl | (rw [hmod]; exact hx)), ba w _⟩

theorem rv_succ (n k : Nat) : rv n (k + 1) = 2 * rv n k + n / 2 ^ k % 2 := rfl
theorem rv_lt32 (n k : Nat) (h : k ≤ 31) : rv n k < 2147483648 := Nat.lt_of_lt_of_le (rv_lt n k) (Nat.pow_le_pow_right (n := 2) (by omega) (by omega : k ≤ 31))

set_option maxRecDepth 20000 in
set_option maxHeartbeats 1000000 in
theorem final_any (V N X : Nat) (P I : Int) (R : Bool) (w : World) (hV : V ≤ 31) (hN : N < 2 ^ (V + 1)) (hX : X < 2 ^ (V + 1)) :
    Calls Tryz.prog 97 #[crV ((V : Int) + 1) P I X R, .int .i64 N] w fun e w' => e = .returned (.int .i64 (rvI N (V + 1) R ^^^ X : Nat)) ∧ Below w.heap.size w w' := by
  unfold crV rvI
  have hn := lt32 hV hN
  have hx0 := lt32 hV hX
  cases R
  · rw [if_neg (by simp)]
    have hx := xor_i64 N X (by omega) (by omega)
    clear hN hX
    go_enter Tryz.func97, Tryz.ntmps97
    go_wp2
    go_returns
    exact ⟨ret_int (by first | exact hx | rfl), ba w _⟩
  · rw [if_pos rfl]
    have hx := fun M (h : M < 4294967296) => xor_i64 M X (by omega) (by omega)
    have HR := Lib.hid (rv_succ N)
    have HL := Lib.hid (rv_lt32 N)
    have HN := Lib.hid (lt32 hV (rv_lt N (V + 1)))
    have HX := Lib.hid hx
    clear hN hX hx
    go_enter Tryz.func97, Tryz.ntmps97
    go_wp2
    go_loop [6, 5] (fun x y => ∃ k M : Nat, k ≤ V + 1 ∧ x = .int .i64 k ∧ y = .int .i64 M ∧ Hid (M = rv N k)) (fun x _ => V + 1 - (intOf x).toNat)
    case atStart => exact ⟨0, 0, by omega, rfl, rfl, rfl⟩
    case round =>
      obtain ⟨k, M, hk, rfl, rfl, HM⟩ := hrel
      by_cases he : k = V + 1
      · subst he
        have h1 := HN.out
        have h2 := HX.out M (by rw [HM.out]; exact h1)
        have h3 := HM.out
        have H3 := Lib.hid h3
        clear h1 h3
        go_wp2
        go_returns
        exact ⟨ret_int (by first | (rw [← H3.out]; done) | (rw [← H3.out]; exact h2)), ba w _⟩
      · have hlt : k ≤ V := by omega
        have hM : M < 2147483648 := by rw [HM.out]; exact HL.out k (by omega)
        have hq : ((N : Int) / 2 ^ k) % 2 = ((N / 2 ^ k % 2 : Nat) : Int) := by simp
        have hq0 : (N : Int) / 2 ^ k = ((N / 2 ^ k : Nat) : Int) := by simp
        obtain ⟨Q, hQ⟩ : ∃ Q, N / 2 ^ k = Q := ⟨_, rfl⟩
        have hS := HR.out k
        have hQ0 : Q ≤ N := by rw [← hQ]; exact Nat.div_le_self _ _
        rw [hQ] at hq hq0 hS
        rw [← HM.out] at hS
        have HS := Lib.hid hS
        clear hS hQ
        go_wp2
        go_round
        case rel => exact ⟨k + 1, 2 * M + Q % 2, by omega, by go_num, val_int (by omega), HS.out.symm⟩
        case measure => simp [intOf]; omega

end Sd
end Go.Proofs.YtillcmddbjhepaaGreatDoor
