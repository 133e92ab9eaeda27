/-
  The walks of reversed, crc, Bits and Bytes of the program.
-/
import Derived.Test.YtljbhbpddokelaaDoorW6
import Derived.Deep.RegionHeld3
namespace Go.Proofs.YtljbhbpddokelaaDoor
open Go.RowKit
set_option linter.unusedVariables false
set_option linter.unusedSimpArgs false

set_option maxHeartbeats 1000000 in
theorem reversed_any (V n : Nat) (w : World) (hV : V ≤ 31) (hn : n < 2 ^ (V + 1)) :
    Calls Tryd.prog 40 #[.int .i64 n, .int .i64 ((V : Int) + 1)] w fun e w' => e = .returned (.int .i64 (rv n (V + 1) : Nat)) ∧ Below w.heap.size w w' := by
  have hn' := lt32 hV hn
  have C1 := fun w => fromInt_any n ((V : Int) + 1) true w (by omega) (by omega)
  have e1 : fiT n ((V : Int) + 1) true = fi n (V + 1) true := fiT_in (W := V + 1) n true (by omega)
  rw [e1] at C1
  have C2 := fun w => int_any ⟨(fi n (V + 1) true).toArray⟩ false w (by rw [size_mk, fi_length]; omega)
  have hi := in_ok false (fi_ok n (V + 1) true (by omega)) (by rw [fi_length]; omega)
  unfold inVal at C2
  rw [toList_mk, hi.1, hi.2, numV_rv] at C2
  generalize (⟨(fi n (V + 1) true).toArray⟩ : ByteArray) = T at C1 C2
  have H1 := Lib.hid C1; have H2 := Lib.hid C2
  clear C1 C2 hi e1
  generalize rv n (V + 1) = M at *
  go_enter Tryd.func40, Tryd.ntmps40
  go_wp2_with (first
    | (go_at_call 43; go_must (refine (H1.out _).mono ?_; rintro e w1 ⟨rfl, b1⟩))
    | (go_at_call 42; go_must (refine (H2.out _).mono ?_; rintro e w2 ⟨rfl, b2⟩)))
  go_returns
  exact ⟨rfl, b1.trans (b2.mono b1.size)⟩

set_option maxRecDepth 20000 in
set_option maxHeartbeats 1000000 in
theorem crc_any (V P I X : Nat) (R : Bool) (s : ByteArray) (w : World) (hs : s.size ≤ 140737488351232) (hok : ob s.data.toList = true) (hV : V ≤ 31) (hP : P < 2 ^ (V + 1)) (hI : I < 2 ^ (V + 1)) (hX : X < 2 ^ (V + 1)) :
    Calls Tryd.prog 35 #[crV ((V : Int) + 1) P I X R, .string s] w fun e w' => e = .returned (.int .i64 (cr (V + 1) P I X R s.data.toList : Nat)) ∧ Below w.heap.size w w' := by
  have C1 := fun w => register_any V P I X R s w hs hok hV hP hI
  have hr := rgn_lt hP (bs s.data.toList) I hI
  have C2 := fun w => reversed_any V (rgn (V + 1) P I (bs s.data.toList)) w hV hr
  have hv := rv_lt (rgn (V + 1) P I (bs s.data.toList)) (V + 1)
  have hr' := lt32 hV hr
  have hv' := lt32 hV hv
  have hX' := lt32 hV hX
  unfold cr rvI
  generalize rgn (V + 1) P I (bs s.data.toList) = N at *
  unfold crV at *
  have H1 := Lib.hid C1; have H2 := Lib.hid C2
  clear C1 C2
  clear hr hv hP hI hX hs hok
  cases R
  · have hx := xor_i64 N X (by omega) (by omega)
    rw [if_neg (by simp)]
    go_enter Tryd.func35, Tryd.ntmps35
    go_wp2_with (first
      | (go_at_call 39; go_must (refine (H1.out _).mono ?_; rintro e w1 ⟨rfl, b1⟩; obtain ⟨c0, c1, c2, c3, c4, c5⟩ := (At5.new _ _ _ _ _ _ _).below b1)))
    go_returns
    exact ⟨ret_int (by first | exact hx | rfl), (ba w _).trans (b1.mono (by rw [World.size_alloc]; omega))⟩
  · rw [if_pos rfl]
    generalize rv N (V + 1) = M at *
    have hx := xor_i64 M X (by omega) (by omega)
    go_enter Tryd.func35, Tryd.ntmps35
    go_wp2_with (first
      | (go_at_call 39; go_must (refine (H1.out _).mono ?_; rintro e w1 ⟨rfl, b1⟩; have g1 := (At5.new _ _ _ _ _ _ _).below b1; obtain ⟨c0, c1, c2, c3, c4, c5⟩ := g1))
      | (go_at_call 40; go_must (refine (H2.out _).mono ?_; rintro e w2 ⟨rfl, b2⟩; obtain ⟨d0, d1, d2, d3, d4, d5⟩ := At5.below ⟨c0, c1, c2, c3, c4, c5⟩ b2)))
    go_returns
    exact ⟨ret_int (by first | exact hx | rfl), ((ba w _).trans (b1.mono (by rw [World.size_alloc]; omega))).trans (b2.mono (Nat.le_trans (by rw [World.size_alloc]; omega) b1.size))⟩

/-- A valid description's numbers. -/
theorem rt_nat {W P I X : Int} (h : rt W P I X = true) : ∃ V p i x : Nat, W = (V : Int) + 1 ∧ P = p ∧ I = i ∧ X = x ∧ V ≤ 31 ∧ p < 2 ^ (V + 1) ∧ i < 2 ^ (V + 1) ∧ x < 2 ^ (V + 1) ∧ p % 2 = 1 := by
  unfold rt at h
  simp only [Bool.and_eq_true, decide_eq_true_eq] at h
  obtain ⟨⟨⟨⟨⟨h1, h2⟩, hp⟩, hi⟩, hx⟩, ho⟩ := h
  obtain ⟨V, rfl⟩ : ∃ V : Nat, W = (V : Int) + 1 := ⟨W.toNat - 1, by omega⟩
  rw [show ((V : Int) + 1) = ((V + 1 : Nat) : Int) by omega, ft_nat, decide_eq_true_eq] at hp hi hx
  obtain ⟨p, rfl⟩ : ∃ p : Nat, P = p := ⟨P.toNat, by omega⟩
  obtain ⟨i, rfl⟩ : ∃ i : Nat, I = i := ⟨I.toNat, by omega⟩
  obtain ⟨x, rfl⟩ : ∃ x : Nat, X = x := ⟨X.toNat, by omega⟩
  exact ⟨V, p, i, x, rfl, rfl, rfl, rfl, by omega, by omega, by omega, by omega, by omega⟩

/-- What Bits and Bytes answer: the CRC, and the error. -/
def crI (W P I X : Int) (R : Bool) (l : List UInt8) : Nat := cr W.toNat P.toNat I.toNat X.toNat R l
theorem crI_nat (V p i x : Nat) (R : Bool) (l : List UInt8) : crI ((V : Int) + 1) p i x R l = cr (V + 1) p i x R l := by
  unfold crI
  rw [show ((V : Int) + 1).toNat = V + 1 by omega]; simp
def biE (W P I X : Int) (l : List UInt8) : Nat := if rt W P I X = true then (if ob l = true then (if l.length ≤ 65536 then 0 else 6) else 4) else 1
def biV (W P I X : Int) (R : Bool) (l : List UInt8) : Nat := if biE W P I X l = 0 then crI W P I X R l else 0
def byE (W P I X : Int) (l : List UInt8) : Nat := if rt W P I X = true then (if l.length ≤ 8192 then 0 else 6) else 1
def byV (W P I X : Int) (R : Bool) (l : List UInt8) : Nat := if byE W P I X l = 0 then crI W P I X R (fb l (!R)) else 0
def two (a b : Nat) : Value := .tuple #[.int .i64 a, .int .i64 b]
theorem two_of {a b : Nat} {x y : Int} (hx : x = a) (hy : y = b) : Ending.returned (.tuple #[.int .i64 x, .int .i64 y]) = .returned (two a b) := by subst hx hy; rfl
theorem biV_err {W P I X : Int} {R : Bool} {l : List UInt8} (h : biE W P I X l ≠ 0) : biV W P I X R l = 0 := by unfold biV; rw [if_neg h]
theorem byV_err {W P I X : Int} {R : Bool} {l : List UInt8} (h : byE W P I X l ≠ 0) : byV W P I X R l = 0 := by unfold byV; rw [if_neg h]
theorem bi_arg {W P I X : Int} {R : Bool} {l : List UInt8} (h : rt W P I X = false) : biE W P I X l = 1 ∧ biV W P I X R l = 0 := by
  have : biE W P I X l = 1 := by unfold biE; rw [h]; rfl
  exact ⟨this, biV_err (by rw [this]; decide)⟩
theorem bi_syn {W P I X : Int} {R : Bool} {l : List UInt8} (h : rt W P I X = true) (h1 : ob l = false) : biE W P I X l = 4 ∧ biV W P I X R l = 0 := by
  have : biE W P I X l = 4 := by unfold biE; rw [h, h1]; rfl
  exact ⟨this, biV_err (by rw [this]; decide)⟩
theorem bi_lim {W P I X : Int} {R : Bool} {l : List UInt8} (h : rt W P I X = true) (h1 : ob l = true) (h2 : 65536 < l.length) : biE W P I X l = 6 ∧ biV W P I X R l = 0 := by
  have : biE W P I X l = 6 := by unfold biE; rw [h, h1, if_pos rfl, if_pos rfl, if_neg (by omega)]
  exact ⟨this, biV_err (by rw [this]; decide)⟩
theorem bi_ok {W P I X : Int} {R : Bool} {l : List UInt8} (h : rt W P I X = true) (h1 : ob l = true) (h2 : l.length ≤ 65536) : biE W P I X l = 0 ∧ biV W P I X R l = crI W P I X R l := by
  have : biE W P I X l = 0 := by unfold biE; rw [h, h1, if_pos rfl, if_pos rfl, if_pos h2]
  exact ⟨this, by unfold biV; rw [if_pos this]⟩
theorem by_arg {W P I X : Int} {R : Bool} {l : List UInt8} (h : rt W P I X = false) : byE W P I X l = 1 ∧ byV W P I X R l = 0 := by
  have : byE W P I X l = 1 := by unfold byE; rw [h]; rfl
  exact ⟨this, byV_err (by rw [this]; decide)⟩
theorem by_lim {W P I X : Int} {R : Bool} {l : List UInt8} (h : rt W P I X = true) (h2 : 8192 < l.length) : byE W P I X l = 6 ∧ byV W P I X R l = 0 := by
  have : byE W P I X l = 6 := by unfold byE; rw [h, if_pos rfl, if_neg (by omega)]
  exact ⟨this, byV_err (by rw [this]; decide)⟩
theorem by_ok {W P I X : Int} {R : Bool} {l : List UInt8} (h : rt W P I X = true) (h2 : l.length ≤ 8192) : byE W P I X l = 0 ∧ byV W P I X R l = crI W P I X R (fb l (!R)) := by
  have : byE W P I X l = 0 := by unfold byE; rw [h, if_pos rfl, if_pos h2]
  exact ⟨this, by unfold byV; rw [if_pos this]⟩
theorem fb_ob (l : List UInt8) (msb : Bool) : ob (fb l msb) = true := by
  unfold ob
  rw [List.all_eq_true]
  intro b hb
  simp only [fb, List.mem_flatMap] at hb
  obtain ⟨x, _, hx⟩ := hb
  exact (isBit_iff b).2 (fi_bits _ _ _ b hx)

set_option maxRecDepth 20000 in
set_option maxHeartbeats 1000000 in
theorem bits_any (W P I X : Int) (R : Bool) (s : ByteArray) (w : World) (hs : s.size ≤ 140737488351232) :
    Calls Tryd.prog 18 #[crV W P I X R, .string s] w fun e w' => e = .returned (two (biV W P I X R s.data.toList) (biE W P I X s.data.toList)) ∧ Below w.heap.size w w' := by
  have hlen := size_len s
  have hs' : (s.size : Int) ≤ 140737488351232 := by omega
  have C1 := fun w => right_any W P I X R w
  have C2 := fun w => onlyBits_any s w hs
  unfold crV at C1 ⊢
  rcases h1 : rt W P I X with _ | _
  · rw [h1] at C1
    obtain ⟨e1, e2⟩ := bi_arg (R := R) (l := s.data.toList) h1
    rw [e1, e2]
    have H1 := Lib.hid C1
    clear C1 C2 h1 e1 e2 hlen
    go_enter Tryd.func18, Tryd.ntmps18
    go_wp2_with (first
      | (go_at_call 15; go_must (refine (H1.out _).mono ?_; rintro e w1 ⟨rfl, b1⟩; obtain ⟨c0, c1, c2, c3, c4, c5⟩ := (At5.new _ _ _ _ _ _ _).below b1)))
    go_returns
    exact ⟨two_of rfl rfl, (ba w _).trans (b1.mono (by rw [World.size_alloc]; omega))⟩
  rw [h1] at C1
  rcases h2 : ob s.data.toList with _ | _
  · rw [h2] at C2
    obtain ⟨e1, e2⟩ := bi_syn (R := R) h1 h2
    rw [e1, e2]
    have H1 := Lib.hid C1; have H2 := Lib.hid C2
    clear C1 C2 h1 h2 e1 e2 hlen
    go_enter Tryd.func18, Tryd.ntmps18
    go_wp2_with (first
      | (go_at_call 15; go_must (refine (H1.out _).mono ?_; rintro e w1 ⟨rfl, b1⟩; obtain ⟨c0, c1, c2, c3, c4, c5⟩ := (At5.new _ _ _ _ _ _ _).below b1))
      | (go_at_call 34; go_must (refine (H2.out _).mono ?_; rintro e w2 ⟨rfl, rfl⟩)))
    go_returns
    exact ⟨two_of rfl rfl, (ba w _).trans (b1.mono (by rw [World.size_alloc]; omega))⟩
  rw [h2] at C2
  by_cases h3 : 65536 < s.size
  · obtain ⟨e1, e2⟩ := bi_lim (R := R) h1 h2 (by omega)
    rw [e1, e2]
    have H1 := Lib.hid C1; have H2 := Lib.hid C2
    clear C1 C2 h1 h2 e1 e2 hlen
    go_enter Tryd.func18, Tryd.ntmps18
    go_wp2_with (first
      | (go_at_call 15; go_must (refine (H1.out _).mono ?_; rintro e w1 ⟨rfl, b1⟩; obtain ⟨c0, c1, c2, c3, c4, c5⟩ := (At5.new _ _ _ _ _ _ _).below b1))
      | (go_at_call 34; go_must (refine (H2.out _).mono ?_; rintro e w2 ⟨rfl, rfl⟩)))
    go_returns
    exact ⟨two_of rfl rfl, (ba w _).trans (b1.mono (by rw [World.size_alloc]; omega))⟩
  · obtain ⟨e1, e2⟩ := bi_ok (R := R) h1 h2 (by omega)
    rw [e1, e2]
    obtain ⟨V, p, i, x, rfl, rfl, rfl, rfl, hV, hp, hi, hx, -⟩ := rt_nat h1
    have C3 := fun w => crc_any V p i x R s w hs h2 hV hp hi hx
    rw [← crI_nat] at C3
    unfold crV at C3
    generalize crI ((V : Int) + 1) p i x R s.data.toList = M at *
    have H1 := Lib.hid C1; have H2 := Lib.hid C2; have H3 := Lib.hid C3
    clear C1 C2 C3 h1 h2 e1 e2 hlen hp hi hx
    go_enter Tryd.func18, Tryd.ntmps18
    go_wp2_with (first
      | (go_at_call 15; go_must (refine (H1.out _).mono ?_; rintro e w1 ⟨rfl, b1⟩; obtain ⟨c0, c1, c2, c3, c4, c5⟩ := (At5.new _ _ _ _ _ _ _).below b1))
      | (go_at_call 34; go_must (refine (H2.out _).mono ?_; rintro e w2 ⟨rfl, rfl⟩))
      | (go_at_call 35; go_must (refine (H3.out _).mono ?_; rintro e w3 ⟨rfl, b3⟩)))
    go_returns
    exact ⟨two_of rfl rfl, ((ba w _).trans (b1.mono (by rw [World.size_alloc]; omega))).trans (b3.mono (Nat.le_trans (by rw [World.size_alloc]; omega) b1.size))⟩

/-- What a region that draws its order holds of the world. -/
theorem held5 {w0 w w' : World} {b : Nat} {W P I X : Int} {R : Bool}
    (h : w.cell? ⟨b, 0, none⟩ = some (.int .i64 W) ∧ w.cell? ⟨b, 1, none⟩ = some (.int .i64 P) ∧ w.cell? ⟨b, 2, none⟩ = some (.int .i64 I) ∧ w.cell? ⟨b, 3, none⟩ = some (.int .i64 X) ∧ w.cell? ⟨b, 4, none⟩ = some (.bool R) ∧ Below w0.heap.size w0 w ∧ b < w.heap.size) (hb : Below w.heap.size w w') :
    w'.cell? ⟨b, 0, none⟩ = some (.int .i64 W) ∧ w'.cell? ⟨b, 1, none⟩ = some (.int .i64 P) ∧ w'.cell? ⟨b, 2, none⟩ = some (.int .i64 I) ∧ w'.cell? ⟨b, 3, none⟩ = some (.int .i64 X) ∧ w'.cell? ⟨b, 4, none⟩ = some (.bool R) ∧ Below w0.heap.size w0 w' ∧ b < w'.heap.size := by
  obtain ⟨h0, h1, h2, h3, h4, h6, h5⟩ := h
  obtain ⟨g0, g1, g2, g3, g4, g5⟩ := At5.below ⟨h0, h1, h2, h3, h4, h5⟩ hb
  exact ⟨g0, g1, g2, g3, g4, h6.trans (hb.mono h6.size), g5⟩

set_option maxRecDepth 20000 in
set_option maxHeartbeats 2000000 in
theorem bytes_any (W P I X : Int) (R : Bool) (s : ByteArray) (w : World) (hs : s.size ≤ 140737488351232) :
    Calls Tryd.prog 20 #[crV W P I X R, .string s] w fun e w' => e = .returned (two (byV W P I X R s.data.toList) (byE W P I X s.data.toList)) ∧ Below w.heap.size w w' := by
  have hlen := size_len s
  have hs' : (s.size : Int) ≤ 140737488351232 := by omega
  have C1 := fun w => right_any W P I X R w
  unfold crV at C1 ⊢
  rcases h1 : rt W P I X with _ | _
  · rw [h1] at C1
    obtain ⟨e1, e2⟩ := by_arg (R := R) (l := s.data.toList) h1
    rw [e1, e2]
    have H1 := Lib.hid C1
    clear C1 h1 e1 e2 hlen
    go_enter Tryd.func20, Tryd.ntmps20
    go_wp2_with (first
      | (go_at_call 15; go_must (refine (H1.out _).mono ?_; rintro e w1 ⟨rfl, b1⟩; obtain ⟨c0, c1, c2, c3, c4, c5⟩ := (At5.new _ _ _ _ _ _ _).below b1)))
    go_returns
    exact ⟨two_of rfl rfl, (ba w _).trans (b1.mono (by rw [World.size_alloc]; omega))⟩
  rw [h1] at C1
  by_cases h3 : 8192 < s.size
  · obtain ⟨e1, e2⟩ := by_lim (R := R) h1 (l := s.data.toList) (by omega)
    rw [e1, e2]
    have H1 := Lib.hid C1
    clear C1 h1 e1 e2 hlen
    go_enter Tryd.func20, Tryd.ntmps20
    go_wp2_with (first
      | (go_at_call 15; go_must (refine (H1.out _).mono ?_; rintro e w1 ⟨rfl, b1⟩; obtain ⟨c0, c1, c2, c3, c4, c5⟩ := (At5.new _ _ _ _ _ _ _).below b1)))
    go_returns
    exact ⟨two_of rfl rfl, (ba w _).trans (b1.mono (by rw [World.size_alloc]; omega))⟩
  · obtain ⟨e1, e2⟩ := by_ok (R := R) h1 (l := s.data.toList) (by omega)
    rw [e1, e2]
    obtain ⟨V, p, i, x, rfl, rfl, rfl, rfl, hV, hp, hi, hx, -⟩ := rt_nat h1
    have C2 := fun w => fromBytes_any s (!R) w hs
    rw [show fbT s.data.toList (!R) = fb s.data.toList (!R) by unfold fbT; rw [if_pos (by omega)]] at C2
    have C3 := fun w => crc_any V p i x R ⟨(fb s.data.toList (!R)).toArray⟩ w (by rw [size_mk, fb_length]; omega) (by rw [toList_mk]; exact fb_ob _ _) hV hp hi hx
    rw [← crI_nat, toList_mk] at C3
    unfold crV at C3
    generalize crI ((V : Int) + 1) p i x R (fb s.data.toList (!R)) = M at *
    generalize (⟨(fb s.data.toList (!R)).toArray⟩ : ByteArray) = T at *
    have H1 := Lib.hid C1; have H2 := Lib.hid C2; have H3 := Lib.hid C3
    clear C1 C2 C3 h1 e1 e2 hlen hp hi hx
    go_enter Tryd.func20, Tryd.ntmps20
    go_wp2_with (first
      | (go_at_call 15; go_must (refine (H1.out _).mono ?_; rintro e w1 ⟨rfl, b1⟩; obtain ⟨c0, c1, c2, c3, c4, c5⟩ := (At5.new _ _ _ _ _ _ _).below b1)))
    have HB : Below w.heap.size w w1 := (ba w _).trans (b1.mono (by rw [World.size_alloc]; omega))
    go_region_held3 (fun w' => w'.cell? ⟨w.heap.size, 0, none⟩ = some (.int .i64 ((V : Int) + 1)) ∧ w'.cell? ⟨w.heap.size, 1, none⟩ = some (.int .i64 p) ∧ w'.cell? ⟨w.heap.size, 2, none⟩ = some (.int .i64 i) ∧ w'.cell? ⟨w.heap.size, 3, none⟩ = some (.int .i64 x) ∧ w'.cell? ⟨w.heap.size, 4, none⟩ = some (.bool R) ∧ Below w.heap.size w w' ∧ w.heap.size < w'.heap.size) (first | exact ⟨c0, c1, c2, c3, c4, HB.drew, c5⟩ | assumption | go_keep)
      (first
        | (go_at_call 32; refine (H2.out _).mono ?_; rintro e w2 ⟨rfl, b2⟩; have h2 := held5 (by assumption) b2)
        | (go_at_call 35; refine (H3.out _).mono ?_; rintro e w3 ⟨rfl, b3⟩; have h3 := held5 (by assumption) b3))
    all_goals go_wp2
    all_goals go_returns
    all_goals (refine ⟨two_of rfl rfl, ?_⟩; rename_i hh; exact hh.2.2.2.2.2.1)

end Go.Proofs.YtljbhbpddokelaaDoor
