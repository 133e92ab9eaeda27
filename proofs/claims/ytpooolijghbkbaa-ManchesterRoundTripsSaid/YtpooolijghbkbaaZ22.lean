/-
  Layer 17: the program's Step as one, its Decode.
  Layer 17: the walk of the specification's edge.
-/
import Derived.Test.YtpooolijghbkbaaZ21
import Derived.Test.YtpooolijghbkbaaZ20
namespace Go.Proofs.Ytpooolijghbkbaa
open Go Go.RowKit Go.Joins
set_option linter.unusedVariables false
set_option linter.unusedSimpArgs false

theorem manStep_any (N D : Int) (z : Bool) (s : MN) (x : Ev) (w : World) (h : Bt N D) (hk : ckE N D = 0) (hs : RcN s) (hd : x.d.length ≤ 140737488351232) :
    Calls Try.prog 37 #[.agg (manA N D z), .agg (mnA s.y s.e s.m s.p), .agg (evA x.k x.f x.t x.v x.a ⟨x.d.toArray⟩ x.u)] w fun r w' => ∃ V, r = .returned (.tuple #[.agg (mnA (mnS z N D ⟨s.y, s.e, s.m, s.p, []⟩ x).y (mnS z N D ⟨s.y, s.e, s.m, s.p, []⟩ x).e (mnS z N D ⟨s.y, s.e, s.m, s.p, []⟩ x).m (mnS z N D ⟨s.y, s.e, s.m, s.p, []⟩ x).p), V]) ∧ EvRow w' w.heap.size V (mnS z N D ⟨s.y, s.e, s.m, s.p, []⟩ x).o ∧ Below w.heap.size w w' := by
  have hsz : (⟨x.d.toArray⟩ : ByteArray).size ≤ 140737488351232 := by simpa [ByteArray.size] using hd
  have hz : (⟨x.d.toArray⟩ : ByteArray).size = x.d.length := by simp [ByteArray.size]
  unfold mnS
  by_cases hA : AcL s.e s.e x.k x.f x.t x.v x.a x.d.length x.u
  · have hA' := hA
    rw [← hz] at hA'
    rw [if_pos (show AcN ⟨s.y, s.e, s.m, s.p, []⟩ x from hA)]
    by_cases hp : sgI z x.v = s.p
    · rw [if_pos (show sgI z x.v = (⟨s.y, s.e, s.m, s.p, []⟩ : MN).p from hp)]
      exact (manStep_same N D z s.y s.e s.m s.p x.k x.f x.t x.v x.a _ x.u w h hk hsz hA' hp).mono fun r w' ⟨h1, h2⟩ => ⟨.slice none 0 0, h1, KRow.nil _ _, h2⟩
    · rw [if_neg (show ¬ sgI z x.v = (⟨s.y, s.e, s.m, s.p, []⟩ : MN).p from hp)]
      exact manStep_turn N D z s.y s.e s.m s.p x.k x.f x.t x.v x.a _ x.u w h hk hsz hA' hp ⟨hs.y, hs.m, hs.e, hs.p⟩
  · have hA' := hA
    rw [← hz] at hA'
    rw [if_neg (show ¬ AcN ⟨s.y, s.e, s.m, s.p, []⟩ x from hA)]
    exact (manStep_no N D z s.y s.e s.m s.p x.k x.f x.t x.v x.a _ x.u w h hk hsz hA').mono fun r w' ⟨h1, h2⟩ => ⟨.slice none 0 0, h1, KRow.nil _ _, h2⟩

theorem mtwo_boxes (w : World) (N D : Int) (z : Bool) (S : Array Value) : ∃ W b5 b6, W = (w.alloc (.cells (manA N D z) 59)).alloc (.cells S 39) ∧ b6 = w.heap.size + 1 ∧ b5 = w.heap.size ∧ (b5 < b6 ∧ b6 < W.heap.size ∧ w.heap.size ≤ b5) ∧ RowAt W b5 59 (manA N D z) ∧ RowAt W b6 39 S ∧ Below w.heap.size w W := by
  refine ⟨_, _, _, rfl, rfl, rfl, by simp only [World.size_alloc]; omega, (RowAt.new w _ _).alloc _, RowAt.at (by simp only [World.size_alloc]), by (repeat' (first | with_reducible exact Below.refl _ _ | with_reducible exact Nat.le_refl _ | with_reducible assumption | with_reducible refine below_drewN ?_ _ | with_reducible refine Below.drew ?_ | with_reducible refine Below.trans ?_ (Below.mono (by assumption) ?_) | with_reducible refine Below.alloc ?_ ?_ _ | with_reducible refine Below.setCell ?_ ?_ _ | with_reducible refine le_setCell ?_ _ _ | with_reducible refine le_alloc ?_ _ | with_reducible refine le_drewN ?_ _ | with_reducible refine le_drew ?_ | with_reducible refine Nat.le_trans ?_ (Below.size (by assumption)) | (simp only [World.size_alloc, World.size_setCell]; omega) | omega))⟩

theorem man_held {w W W' : World} {b : Nat} {N D : Int} {z : Bool} (h : W.cell? ⟨b, 0, none⟩ = some (.int .i64 N) ∧ W.cell? ⟨b, 1, none⟩ = some (.int .i64 D) ∧ W.cell? ⟨b, 2, none⟩ = some (.bool z) ∧ b < W.heap.size ∧ Below w.heap.size w W) (hb : Below W.heap.size W W') : W'.cell? ⟨b, 0, none⟩ = some (.int .i64 N) ∧ W'.cell? ⟨b, 1, none⟩ = some (.int .i64 D) ∧ W'.cell? ⟨b, 2, none⟩ = some (.bool z) ∧ b < W'.heap.size ∧ Below w.heap.size w W' :=
  ⟨(hb.cell (p := ⟨b, 0, none⟩) h.2.2.2.1).trans h.1, (hb.cell (p := ⟨b, 1, none⟩) h.2.2.2.1).trans h.2.1, (hb.cell (p := ⟨b, 2, none⟩) h.2.2.2.1).trans h.2.2.1, Nat.lt_of_lt_of_le h.2.2.2.1 hb.size, h.2.2.2.2.trans (hb.mono h.2.2.2.2.size)⟩

set_option maxRecDepth 20000 in
set_option maxHeartbeats 8000000 in
theorem manDecodeG_any (N D : Int) (z : Bool) (l : List Ev) (V : Value) (w : World) (hT : EvArg w V l) (h : Bt N D) (hk : ckE N D = 0) (hl : l.length ≤ 1099511627776) (hd : ∀ j (h : j < l.length), l[j].d.length ≤ 140737488351232) :
    Calls Try.prog 81 #[.agg (manA N D z), .agg (mnA 0 0 0 0), V, .func (.func 37) #[] #[], .func (.func 41) #[] #[]] w fun e w' => ∃ v, e = .returned v ∧ EvRow w' w.heap.size v (mnR z N D l).o ∧ Below w.heap.size w w' := by
  have CS := Lib.hid (fun s e W hs hd => manStep_any N D z s e W h hk hs hd)
  have CE := Lib.hid (fun S W => manEnd_any N D z S W)
  have HD := Lib.hid hd
  obtain ⟨A, c, rfl, hA⟩ := hT
  have HA := Lib.hid hA
  have hl' : (l.length : Int) ≤ 1099511627776 := by omega
  obtain ⟨W, b5, b6, eW, e6, e5, ⟨l5, l6, l0⟩, r5, r6, B0⟩ := mtwo_boxes w N D z (mnA 0 0 0 0)
  have HB0 := Lib.hid B0; have H5 := Lib.hid r5; have H6 := Lib.hid r6
  have hL := mnR_len z N D l
  clear hA hd r5 r6 B0
  go_enter Try.func81, Try.ntmps81
  go_wp2
  rw [← eW, ← e6, ← e5]
  clear eW e6 e5
  go_loopw [18, 11] (fun i r wr => ∃ (j : Nat) (y e m p : Int) (o : List Ev), j ≤ l.length ∧ i = .int .i64 j ∧ Hid (mnR z N D (l.take j) = ⟨y, e, m, p, o⟩) ∧ Hid (EvRow wr W.heap.size r o) ∧ Hid (RowAt wr b5 59 (manA N D z)) ∧ Hid (RowAt wr b6 39 (mnA y e m p)) ∧ Hid (Below w.heap.size w wr) ∧ W.heap.size ≤ wr.heap.size) (fun i _ _ => l.length - (intOf i).toNat)
  case atStart => exact ⟨0, 0, 0, 0, 0, [], Nat.zero_le _, rfl, Lib.hid rfl, Lib.hid (KRow.nil _ _), H5, H6, HB0, Nat.le_refl _⟩
  case round =>
    obtain ⟨j, y, e, m, p, o, hj, rfl, HQ, HR, HZ, HS, HB, hW⟩ := hrel
    have hb := HB.out
    have ho : o.length ≤ j := by have := mnR_len z N D (l.take j); rw [HQ.out, List.length_take] at this; simp only at this; omega
    obtain ⟨⟨g0, g1, g2, g3, g4, g5, g6, g7⟩, g8⟩ := row8 HS.out
    obtain ⟨z0, z1, z2⟩ := row3 HZ.out
    have m5 : b5 < wr.heap.size := by omega
    have m6 : b6 < wr.heap.size := by omega
    clear g8
    by_cases hjl : j < l.length
    · obtain ⟨g, o', rfl, hg, hc⟩ := HA.out (by omega)
      obtain ⟨a0, a1, a2, a3, a4, a5, a6⟩ := arg_seven hc j hjl
      have f0 := (hb.cell (p := ⟨g, o' + j * 7, none⟩) hg).trans a0
      have f1 := (hb.cell (p := ⟨g, o' + j * 7 + 1, none⟩) hg).trans a1
      have f2 := (hb.cell (p := ⟨g, o' + j * 7 + 2, none⟩) hg).trans a2
      have f3 := (hb.cell (p := ⟨g, o' + j * 7 + 3, none⟩) hg).trans a3
      have f4 := (hb.cell (p := ⟨g, o' + j * 7 + 4, none⟩) hg).trans a4
      have f5 := (hb.cell (p := ⟨g, o' + j * 7 + 5, none⟩) hg).trans a5
      have f6 := (hb.cell (p := ⟨g, o' + j * 7 + 6, none⟩) hg).trans a6
      have HN : Hid (mnR z N D (l.take (j + 1)) = mnS z N D ⟨y, e, m, p, o⟩ l[j]) := Lib.hid (by rw [mnR_snoc z N D hjl, HQ.out])
      have HP := Lib.hid (HN.out.trans (mnS_parts z N D y e m p o l[j]))
      have CSj : Hid (∀ W, Calls Try.prog 37 #[.agg (manA N D z), .agg (mnA y e m p), .agg (evA l[j].k l[j].f l[j].t l[j].v l[j].a ⟨l[j].d.toArray⟩ l[j].u)] W fun r w' => ∃ V, r = .returned (.tuple #[.agg (mnA (mnS z N D ⟨y, e, m, p, []⟩ l[j]).y (mnS z N D ⟨y, e, m, p, []⟩ l[j]).e (mnS z N D ⟨y, e, m, p, []⟩ l[j]).m (mnS z N D ⟨y, e, m, p, []⟩ l[j]).p), V]) ∧ EvRow w' W.heap.size V (mnS z N D ⟨y, e, m, p, []⟩ l[j]).o ∧ Below W.heap.size W w') := Lib.hid fun W => CS.out ⟨y, e, m, p, o⟩ l[j] W (by have := rcN_all z N D (l.take j); rw [HQ.out] at this; exact this) (HD.out j hjl)
      have hone := mnS_one z N D y e m p l[j]
      clear a0 a1 a2 a3 a4 a5 a6 hc HN HQ
      generalize (mnS z N D ⟨y, e, m, p, []⟩ l[j]).y = y' at *
      generalize (mnS z N D ⟨y, e, m, p, []⟩ l[j]).e = e' at *
      generalize (mnS z N D ⟨y, e, m, p, []⟩ l[j]).m = m' at *
      generalize (mnS z N D ⟨y, e, m, p, []⟩ l[j]).p = p' at *
      generalize (mnS z N D ⟨y, e, m, p, []⟩ l[j]).o = x' at *
      generalize (⟨l[j].d.toArray⟩ : ByteArray) = x5 at *
      generalize l[j].k = x0 at *
      generalize l[j].f = x1 at *
      generalize l[j].t = x2 at *
      generalize l[j].v = x3 at *
      generalize l[j].a = x4 at *
      generalize l[j].u = x6 at *
      obtain ⟨RA, RN, RC, rfl, hRN⟩ := HR.out.form
      clear hRN
      go_wp2_with (first
        | (go_at_call 37; go_must (refine (CSj.out _).mono ?_; rintro e1 w1 ⟨V1, rfl, v1, b1⟩; obtain ⟨VA, VN, VC, rfl, hVN⟩ := v1.form; clear hVN; have k1 := (ba wr _).trans (b1.mono (by rw [World.size_alloc]; omega)); have V1 := Lib.hid v1; have B1 := Lib.hid (hb.trans (k1.mono hb.size)); have R1 := Lib.hid (HR.out.keep k1); have Z1 := Lib.hid ((HZ.out.keep k1).alloc (.cells (mnA y' e' m' p') 39)); have S1 := Lib.hid ((HS.out.keep k1).alloc (.cells (mnA y' e' m' p') 39)); have s1 := k1.size))
        | (refine wpList_store_kp S1.out (mnA y' e' m' p') (.tmp 6) (.tmp 30) 39 rfl rfl rfl rfl (by kernel_rfl) rfl rfl ?_; intro w3 r3 k3; have R3 := Lib.hid ((R1.out.alloc _).kp k3 (fun g hg hx => by have := R1.out.lt g hg; simp only [List.mem_singleton] at hx; omega)); have V3 := Lib.hid ((((V1.out.alloc _).kp k3 (fun g hg hx => by have := V1.out.lt g hg; rw [World.size_alloc] at this; simp only [List.mem_singleton] at hx; omega)).arg evC_size)); have Z3 := Lib.hid (k3.row Z1.out (by simp only [List.mem_singleton]; omega)); have S3 := Lib.hid r3; have B3 := Lib.hid ((B1.out.alloc B1.out.size _).trans (k3.below (by simp only [List.mem_singleton]; intro k hk; omega) (by rw [World.size_alloc]; exact Nat.le_trans B1.out.size (Nat.le_succ _)))); have s3 := k3.size; rw [World.size_alloc] at s3; clear r3 k3)
        | (at_builtin; go_must (refine wpList_append_arg Try.underlying36 ev_info rfl (by omega) evC_size ev_one rfl _ _ rfl rfl rfl R3.out V3.out (by omega) (by omega) (by omega) ?_; intro v4 w4 r4 b4; have R4 := Lib.hid r4; have B4 := Lib.hid b4; clear r4 b4)))
      go_roundw
      case rel => exact ⟨j + 1, y', e', m', p', o ++ x', by omega, val_int (by omega), HP, R4, Lib.hid (Z3.out.below B4.out (by omega)), Lib.hid (S3.out.below B4.out l6), Lib.hid (B3.out.trans (B4.out.mono HB0.out.size)), by have := B4.out.size; omega⟩
      case measure => simp [intOf]; omega
    · have he : l.take j = l := List.take_of_length_le (by omega)
      rw [he] at HQ
      have HO : Hid ((mnR z N D l).o = o) := Lib.hid (by rw [HQ.out])
      obtain ⟨RA, RN, RC, rfl, hRN⟩ := HR.out.form
      clear hRN he HQ
      go_wp2_with (first
        | (go_at_call 41; go_must (refine (CE.out _ _).mono ?_; rintro e1 w1 ⟨rfl, b1⟩; have R1 := Lib.hid (HR.out.keep b1); have B1 := Lib.hid (hb.trans (b1.mono hb.size)); have s1 := b1.size))
        | (at_builtin; go_must (refine wpList_append_arg Try.underlying36 ev_info rfl (by omega) evC_size ev_one rfl _ _ rfl rfl rfl R1.out (EvArg.none _) (by omega) (by simp only [List.length_nil]; omega) (by simp only [List.length_nil]; omega) ?_; intro v4 w4 r4 b4; rw [List.append_nil] at r4; have R4 := Lib.hid r4; have B4 := Lib.hid b4; clear r4 b4)))
      go_returns
      exact ⟨_, rfl, by rw [HO.out]; exact R4.out.mono HB0.out.size, B1.out.trans (B4.out.mono HB0.out.size)⟩

set_option maxRecDepth 20000 in
set_option maxHeartbeats 8000000 in
theorem manDecode_any (N D : Int) (z : Bool) (l : List Ev) (V : Value) (w : World) (hT : EvArg w V l) (h : Bt N D) (hk : ckE N D = 0) (hl : l.length ≤ 1099511627776) (hd : ∀ j (h : j < l.length), l[j].d.length ≤ 140737488351232) :
    Calls Try.prog 42 #[.agg (manA N D z), V] w fun e w' => ∃ v, e = .returned v ∧ EvRow w' w.heap.size v (mnR z N D l).o ∧ Below w.heap.size w w' := by
  have CS := Lib.hid (fun W => manStart_any N D z W)
  have CD := Lib.hid (fun W (hb : Below w.heap.size w W) => manDecodeG_any N D z l V W (hT.keep hb) h hk hl hd)
  obtain ⟨A, c, rfl, hA⟩ := hT
  obtain ⟨W, b, eW, eb, c0, c1, c2, l0, B0⟩ := man_at w N D z
  have hb0 := Lib.hid B0
  have HC : Hid (W.cell? ⟨b, 0, none⟩ = some (.int .i64 N) ∧ W.cell? ⟨b, 1, none⟩ = some (.int .i64 D) ∧ W.cell? ⟨b, 2, none⟩ = some (.bool z) ∧ b < W.heap.size ∧ Below w.heap.size w W) := Lib.hid ⟨c0, c1, c2, l0, B0⟩
  clear hA
  go_enter Try.func42, Try.ntmps42
  go_wp2
  rw [← eW, ← eb]
  clear eW eb
  go_region_held3 (fun w' => w'.cell? ⟨b, 0, none⟩ = some (.int .i64 N) ∧ w'.cell? ⟨b, 1, none⟩ = some (.int .i64 D) ∧ w'.cell? ⟨b, 2, none⟩ = some (.bool z) ∧ b < w'.heap.size ∧ Below w.heap.size w w') (first | with_reducible assumption | with_reducible exact man_held HC.out (Below.refl _ _).drew | fail)
    (first
      | (go_at_call 40; refine (CS.out _).mono ?_; rintro e5 w5 ⟨rfl, b5⟩; have h5 := man_held (by with_reducible assumption) b5)
      | (go_at_call 81; refine (CD.out _ (And.right (And.right (And.right (And.right (by with_reducible assumption : _ ∧ _ ∧ _ ∧ b < _ ∧ Below w.heap.size w _)))))).mono ?_; rintro e6 w6 ⟨v6, rfl, r6, b6⟩; have h6 := man_held (by with_reducible assumption) b6))
  have hr6 := Lib.hid (r6.mono h5.2.2.2.2.size)
  have hb6 := Lib.hid h6.2.2.2.2
  go_wp2
  go_returns
  exact ⟨_, rfl, hr6.out, hb6.out⟩

end Go.Proofs.Ytpooolijghbkbaa

namespace Go.Proofs.Ytpooolijghbkbaa
open Go Go.RowKit Go.Joins
set_option linter.unusedVariables false
set_option linter.unusedSimpArgs false

/-- The boxes of an edge: configuration, state, result. -/
theorem rbox_at (w : World) (N D : Int) (z : Bool) (S Z : Array Value) : ∃ W b4 b5 b8, W = ((w.alloc (.cells (manA N D z) 59)).alloc (.cells S 39)).alloc (.cells Z 39) ∧ b8 = w.heap.size + 1 + 1 ∧ b5 = w.heap.size + 1 ∧ b4 = w.heap.size ∧ (b4 < b5 ∧ b5 < b8 ∧ b8 < W.heap.size ∧ w.heap.size ≤ b4) ∧
    RowAt W b4 59 (manA N D z) ∧ RowAt W b5 39 S ∧ RowAt W b8 39 Z ∧ Below w.heap.size w W := by
  refine ⟨_, _, _, _, rfl, rfl, rfl, rfl, by simp only [World.size_alloc]; omega, ?_, ?_, ?_, by (repeat' (first | with_reducible exact Below.refl _ _ | with_reducible exact Nat.le_refl _ | with_reducible assumption | with_reducible refine below_drewN ?_ _ | with_reducible refine Below.drew ?_ | with_reducible refine Below.trans ?_ (Below.mono (by assumption) ?_) | with_reducible refine Below.alloc ?_ ?_ _ | with_reducible refine Below.setCell ?_ ?_ _ | with_reducible refine le_setCell ?_ _ _ | with_reducible refine le_alloc ?_ _ | with_reducible refine le_drewN ?_ _ | with_reducible refine le_drew ?_ | with_reducible refine Nat.le_trans ?_ (Below.size (by assumption)) | (simp only [World.size_alloc, World.size_setCell]; omega) | omega))⟩
  · exact ((RowAt.new w _ _).alloc _).alloc _
  · exact (RowAt.at (by simp only [World.size_alloc])).alloc _
  · exact RowAt.at (by simp only [World.size_alloc])

/-- The copy of the state in a new box. -/
theorem rnext_at {w W : World} {b4 b5 b8 : Nat} {A S Z : Array Value} (S' : Array Value) (l4 : b4 < b5 ∧ b5 < b8 ∧ b8 < W.heap.size) (r4 : RowAt W b4 59 A) (r5 : RowAt W b5 39 S) (r8 : RowAt W b8 39 Z) (B0 : Below w.heap.size w W) : ∃ X n, X = W.alloc (.cells S' 39) ∧ n = W.heap.size ∧ (b8 < n ∧ n < X.heap.size ∧ w.heap.size ≤ n) ∧ RowAt X b4 59 A ∧ RowAt X b5 39 S ∧ RowAt X b8 39 Z ∧ RowAt X n 39 S' ∧ Below w.heap.size w X :=
  ⟨_, _, rfl, rfl, ⟨l4.2.2, by simp only [World.size_alloc]; omega, B0.size⟩, r4.alloc _, r5.alloc _, r8.alloc _, RowAt.new _ _ _, B0.alloc B0.size _⟩

set_option maxRecDepth 20000 in
set_option maxHeartbeats 8000000 in
/-- No last middle. -/
theorem redge_idle (N D e m p t v : Int) (z : Bool) (w : World) (h : Bt N D) (hv : v = 0 ∨ v = 1) (hm : 0 ≤ m ∧ m ≤ t) (ht : t ≤ 1099511627776) :
    Calls Try.prog 83 #[.agg (manA N D z), .agg (rnA 1 e m 0 p), .int .i64 t, .int .i64 v] w fun r w' => r = .returned (.tuple #[.agg (rnA 1 e (if v = 1 then t else m) (if v = 1 then 1 else 0) v), .slice none 0 0]) ∧ Below w.heap.size w w' := by
  have d1 := h.d1; have d2 := h.d2; have n1' := h.n1; have n2' := h.n2
  obtain ⟨W, b4, b5, b8, eW, e8, e5, e4, ⟨l4, l5, l8, l0⟩, r4, r5, r8, B0⟩ := rbox_at w N D z (rnA 1 e m 0 p) (rnA 0 0 0 0 0)
  have HB0 := Lib.hid B0; have H5 := Lib.hid r5; have H8 := Lib.hid r8; have H4 := Lib.hid r4
  obtain ⟨⟨c0, c1, c2, c3, c4, c5, c6, c7⟩, c8⟩ := row8 r5
  obtain ⟨a0, a1, a2⟩ := row3 r4
  clear r4 r5 r8 B0
  have q1 : IntKind.i64.wrap (t - m) = t - m := IntWalk.i64_in _ (by omega)
  have hc : ((0 : Int) == 0) = true := rfl
  rcases hv with rfl | rfl
  · go_enter Try.func83, Try.ntmps83
    go_upto_region 2 with (fail)
    rw [← eW, ← e8, ← e5, ← e4]
    clear eW e8 e5 e4
    go_upto_region 4 with (fail)
    obtain ⟨X, n, eX, en, ⟨ln, lX, lw⟩, s4, s5, s8, sn, BX⟩ := rnext_at (rnA 1 e m 0 0) ⟨l4, l5, l8⟩ H4.out H5.out H8.out HB0.out
    rw [← eX, ← en]
    clear eX en c0 c1 c2 c3 c4 c5 c6 c7 c8 a0 a1 a2 H4 H5 H8 HB0
    obtain ⟨⟨c0, c1, c2, c3, c4, c5, c6, c7⟩, c8⟩ := row8 s5
    obtain ⟨⟨n0, n1, n2, n3, n4, n5, n6, n7⟩, n8⟩ := row8 sn
    obtain ⟨a0, a1, a2⟩ := row3 s4
    have HBX := Lib.hid BX; have H4 := Lib.hid s4; have H5 := Lib.hid s5; have H8 := Lib.hid s8; have Hn := Lib.hid sn
    clear s4 s5 s8 sn BX
    have N8 : RowAt (X.setCell ⟨n, 3, none⟩ (.int .i64 0)) b8 39 (rnA 0 0 0 0 0) := H8.out.other _ _ (by simp only; omega)
    have NB : Below w.heap.size w (X.setCell ⟨n, 3, none⟩ (.int .i64 0)) := HBX.out.setCell (by simp only; omega) _
    go_wp2_with (first | (refine wpList_store_at N8 (Nat.le_refl _) (rnA 1 e m 0 0) (.tmp 8) (.tmp 45) 39 rfl rfl rfl rfl (by kernel_rfl) rfl rfl ?_; intro w9 r9 b9; obtain ⟨⟨p0, p1, p2, p3, p4, p5, p6, p7⟩, p8⟩ := row8 r9))
    (try simp only [Exit.inBlock, Exit.then]); refine bodyPost_ret (by simp [results, Try.results83, go_sem, p0, p1, p2, p3, p4, p5, p6, p7]; try rfl) rfl ?_
    exact ⟨rfl, NB.trans (b9.mono (by omega))⟩
  · go_enter Try.func83, Try.ntmps83
    go_upto_region 2 with (fail)
    rw [← eW, ← e8, ← e5, ← e4]
    clear eW e8 e5 e4
    go_upto_region 4 with (fail)
    obtain ⟨X, n, eX, en, ⟨ln, lX, lw⟩, s4, s5, s8, sn, BX⟩ := rnext_at (rnA 1 e m 0 1) ⟨l4, l5, l8⟩ H4.out H5.out H8.out HB0.out
    rw [← eX, ← en]
    clear eX en c0 c1 c2 c3 c4 c5 c6 c7 c8 a0 a1 a2 H4 H5 H8 HB0
    obtain ⟨⟨c0, c1, c2, c3, c4, c5, c6, c7⟩, c8⟩ := row8 s5
    obtain ⟨⟨n0, n1, n2, n3, n4, n5, n6, n7⟩, n8⟩ := row8 sn
    obtain ⟨a0, a1, a2⟩ := row3 s4
    have HBX := Lib.hid BX; have H4 := Lib.hid s4; have H5 := Lib.hid s5; have H8 := Lib.hid s8; have Hn := Lib.hid sn
    clear s4 s5 s8 sn BX
    have N8 : RowAt (((X.setCell ⟨n, 3, none⟩ (.int .i64 0)).setCell ⟨n, 3, none⟩ (.int .i64 1)).setCell ⟨n, 2, none⟩ (.int .i64 t)) b8 39 (rnA 0 0 0 0 0) := ((H8.out.other _ _ (by simp only; omega)).other _ _ (by simp only; omega)).other _ _ (by simp only; omega)
    have NB : Below w.heap.size w (((X.setCell ⟨n, 3, none⟩ (.int .i64 0)).setCell ⟨n, 3, none⟩ (.int .i64 1)).setCell ⟨n, 2, none⟩ (.int .i64 t)) := ((HBX.out.setCell (by simp only; omega) _).setCell (by simp only; omega) _).setCell (by simp only; omega) _
    go_wp2_with (first | (refine wpList_store_at N8 (Nat.le_refl _) (rnA 1 e t 1 1) (.tmp 8) (.tmp 45) 39 rfl rfl rfl rfl (by kernel_rfl) rfl rfl ?_; intro w9 r9 b9; obtain ⟨⟨p0, p1, p2, p3, p4, p5, p6, p7⟩, p8⟩ := row8 r9))
    (try simp only [Exit.inBlock, Exit.then]); refine bodyPost_ret (by simp [results, Try.results83, go_sem, p0, p1, p2, p3, p4, p5, p6, p7]; try rfl) rfl ?_
    exact ⟨rfl, NB.trans (b9.mono (by omega))⟩

set_option maxRecDepth 20000 in
set_option maxHeartbeats 8000000 in
/-- The edge is much too late. -/
theorem redge_big (N D e m p t v : Int) (z : Bool) (w : World) (h : Bt N D) (hv : v = 0 ∨ v = 1) (hm : 0 ≤ m ∧ m ≤ t) (ht : t ≤ 1099511627776) (hb : 4194304 ≤ t - m) :
    Calls Try.prog 83 #[.agg (manA N D z), .agg (rnA 1 e m 1 p), .int .i64 t, .int .i64 v] w fun r w' => r = .returned (.tuple #[.agg (rnA 1 e (if v = 1 then t else m) (if v = 1 then 1 else 0) v), .slice none 0 0]) ∧ Below w.heap.size w w' := by
  have d1 := h.d1; have d2 := h.d2; have n1' := h.n1; have n2' := h.n2
  obtain ⟨W, b4, b5, b8, eW, e8, e5, e4, ⟨l4, l5, l8, l0⟩, r4, r5, r8, B0⟩ := rbox_at w N D z (rnA 1 e m 1 p) (rnA 0 0 0 0 0)
  have HB0 := Lib.hid B0; have H5 := Lib.hid r5; have H8 := Lib.hid r8; have H4 := Lib.hid r4
  obtain ⟨⟨c0, c1, c2, c3, c4, c5, c6, c7⟩, c8⟩ := row8 r5
  obtain ⟨a0, a1, a2⟩ := row3 r4
  clear r4 r5 r8 B0
  have q1 : IntKind.i64.wrap (t - m) = t - m := IntWalk.i64_in _ (by omega)
  have hc : ((1 : Int) == 0) = false := rfl
  rcases hv with rfl | rfl
  · go_enter Try.func83, Try.ntmps83
    go_upto_region 2 with (fail)
    rw [← eW, ← e8, ← e5, ← e4]
    clear eW e8 e5 e4
    go_upto_region 4 with (fail)
    obtain ⟨X, n, eX, en, ⟨ln, lX, lw⟩, s4, s5, s8, sn, BX⟩ := rnext_at (rnA 1 e m 1 0) ⟨l4, l5, l8⟩ H4.out H5.out H8.out HB0.out
    rw [← eX, ← en]
    clear eX en c0 c1 c2 c3 c4 c5 c6 c7 c8 a0 a1 a2 H4 H5 H8 HB0
    obtain ⟨⟨c0, c1, c2, c3, c4, c5, c6, c7⟩, c8⟩ := row8 s5
    obtain ⟨⟨n0, n1, n2, n3, n4, n5, n6, n7⟩, n8⟩ := row8 sn
    obtain ⟨a0, a1, a2⟩ := row3 s4
    have HBX := Lib.hid BX; have H4 := Lib.hid s4; have H5 := Lib.hid s5; have H8 := Lib.hid s8; have Hn := Lib.hid sn
    clear s4 s5 s8 sn BX
    have N8 : RowAt (X.setCell ⟨n, 3, none⟩ (.int .i64 0)) b8 39 (rnA 0 0 0 0 0) := H8.out.other _ _ (by simp only; omega)
    have NB : Below w.heap.size w (X.setCell ⟨n, 3, none⟩ (.int .i64 0)) := HBX.out.setCell (by simp only; omega) _
    go_wp2_with (first | (refine wpList_store_at N8 (Nat.le_refl _) (rnA 1 e m 0 0) (.tmp 8) (.tmp 45) 39 rfl rfl rfl rfl (by kernel_rfl) rfl rfl ?_; intro w9 r9 b9; obtain ⟨⟨p0, p1, p2, p3, p4, p5, p6, p7⟩, p8⟩ := row8 r9))
    (try simp only [Exit.inBlock, Exit.then]); refine bodyPost_ret (by simp [results, Try.results83, go_sem, p0, p1, p2, p3, p4, p5, p6, p7]; try rfl) rfl ?_
    exact ⟨rfl, NB.trans (b9.mono (by omega))⟩
  · go_enter Try.func83, Try.ntmps83
    go_upto_region 2 with (fail)
    rw [← eW, ← e8, ← e5, ← e4]
    clear eW e8 e5 e4
    go_upto_region 4 with (fail)
    obtain ⟨X, n, eX, en, ⟨ln, lX, lw⟩, s4, s5, s8, sn, BX⟩ := rnext_at (rnA 1 e m 1 1) ⟨l4, l5, l8⟩ H4.out H5.out H8.out HB0.out
    rw [← eX, ← en]
    clear eX en c0 c1 c2 c3 c4 c5 c6 c7 c8 a0 a1 a2 H4 H5 H8 HB0
    obtain ⟨⟨c0, c1, c2, c3, c4, c5, c6, c7⟩, c8⟩ := row8 s5
    obtain ⟨⟨n0, n1, n2, n3, n4, n5, n6, n7⟩, n8⟩ := row8 sn
    obtain ⟨a0, a1, a2⟩ := row3 s4
    have HBX := Lib.hid BX; have H4 := Lib.hid s4; have H5 := Lib.hid s5; have H8 := Lib.hid s8; have Hn := Lib.hid sn
    clear s4 s5 s8 sn BX
    have N8 : RowAt (((X.setCell ⟨n, 3, none⟩ (.int .i64 0)).setCell ⟨n, 3, none⟩ (.int .i64 1)).setCell ⟨n, 2, none⟩ (.int .i64 t)) b8 39 (rnA 0 0 0 0 0) := ((H8.out.other _ _ (by simp only; omega)).other _ _ (by simp only; omega)).other _ _ (by simp only; omega)
    have NB : Below w.heap.size w (((X.setCell ⟨n, 3, none⟩ (.int .i64 0)).setCell ⟨n, 3, none⟩ (.int .i64 1)).setCell ⟨n, 2, none⟩ (.int .i64 t)) := ((HBX.out.setCell (by simp only; omega) _).setCell (by simp only; omega) _).setCell (by simp only; omega) _
    go_wp2_with (first | (refine wpList_store_at N8 (Nat.le_refl _) (rnA 1 e t 1 1) (.tmp 8) (.tmp 45) 39 rfl rfl rfl rfl (by kernel_rfl) rfl rfl ?_; intro w9 r9 b9; obtain ⟨⟨p0, p1, p2, p3, p4, p5, p6, p7⟩, p8⟩ := row8 r9))
    (try simp only [Exit.inBlock, Exit.then]); refine bodyPost_ret (by simp [results, Try.results83, go_sem, p0, p1, p2, p3, p4, p5, p6, p7]; try rfl) rfl ?_
    exact ⟨rfl, NB.trans (b9.mono (by omega))⟩

set_option maxRecDepth 20000 in
set_option maxHeartbeats 8000000 in
/-- The edge is too late. -/
theorem redge_late (N D e m p t v : Int) (z : Bool) (w : World) (h : Bt N D) (hv : v = 0 ∨ v = 1) (hm : 0 ≤ m ∧ m ≤ t) (ht : t ≤ 1099511627776) (hb : ¬ 4194304 ≤ t - m) (hl : 2 * N ≤ (t - m) * D) :
    Calls Try.prog 83 #[.agg (manA N D z), .agg (rnA 1 e m 1 p), .int .i64 t, .int .i64 v] w fun r w' => r = .returned (.tuple #[.agg (rnA 1 e (if v = 1 then t else m) (if v = 1 then 1 else 0) v), .slice none 0 0]) ∧ Below w.heap.size w w' := by
  have d1 := h.d1; have d2 := h.d2; have n1' := h.n1; have n2' := h.n2
  obtain ⟨W, b4, b5, b8, eW, e8, e5, e4, ⟨l4, l5, l8, l0⟩, r4, r5, r8, B0⟩ := rbox_at w N D z (rnA 1 e m 1 p) (rnA 0 0 0 0 0)
  have HB0 := Lib.hid B0; have H5 := Lib.hid r5; have H8 := Lib.hid r8; have H4 := Lib.hid r4
  obtain ⟨⟨c0, c1, c2, c3, c4, c5, c6, c7⟩, c8⟩ := row8 r5
  obtain ⟨a0, a1, a2⟩ := row3 r4
  clear r4 r5 r8 B0
  have q1 : IntKind.i64.wrap (t - m) = t - m := IntWalk.i64_in _ (by omega)
  have hc : ((1 : Int) == 0) = false := rfl
  have hd0 : 0 ≤ (t - m) * D := Int.mul_nonneg (by omega) (by omega)
  have hd1 : (t - m) * D ≤ 4194304 * D := Int.mul_le_mul_of_nonneg_right (by omega) (by omega)
  have q2 : IntKind.i64.wrap ((t - m) * D) = (t - m) * D := IntWalk.i64_in _ (by omega)
  have q3 : IntKind.i64.wrap (2 * N) = 2 * N := IntWalk.i64_in _ (by omega)
  rcases hv with rfl | rfl
  · go_enter Try.func83, Try.ntmps83
    go_upto_region 2 with (fail)
    rw [← eW, ← e8, ← e5, ← e4]
    clear eW e8 e5 e4
    go_upto_region 4 with (fail)
    obtain ⟨X, n, eX, en, ⟨ln, lX, lw⟩, s4, s5, s8, sn, BX⟩ := rnext_at (rnA 1 e m 1 0) ⟨l4, l5, l8⟩ H4.out H5.out H8.out HB0.out
    rw [← eX, ← en]
    clear eX en c0 c1 c2 c3 c4 c5 c6 c7 c8 a0 a1 a2 H4 H5 H8 HB0
    obtain ⟨⟨c0, c1, c2, c3, c4, c5, c6, c7⟩, c8⟩ := row8 s5
    obtain ⟨⟨n0, n1, n2, n3, n4, n5, n6, n7⟩, n8⟩ := row8 sn
    obtain ⟨a0, a1, a2⟩ := row3 s4
    have HBX := Lib.hid BX; have H4 := Lib.hid s4; have H5 := Lib.hid s5; have H8 := Lib.hid s8; have Hn := Lib.hid sn
    clear s4 s5 s8 sn BX
    have N8 : RowAt (X.setCell ⟨n, 3, none⟩ (.int .i64 0)) b8 39 (rnA 0 0 0 0 0) := H8.out.other _ _ (by simp only; omega)
    have NB : Below w.heap.size w (X.setCell ⟨n, 3, none⟩ (.int .i64 0)) := HBX.out.setCell (by simp only; omega) _
    go_wp2_with (first | (refine wpList_store_at N8 (Nat.le_refl _) (rnA 1 e m 0 0) (.tmp 8) (.tmp 45) 39 rfl rfl rfl rfl (by kernel_rfl) rfl rfl ?_; intro w9 r9 b9; obtain ⟨⟨p0, p1, p2, p3, p4, p5, p6, p7⟩, p8⟩ := row8 r9))
    (try simp only [Exit.inBlock, Exit.then]); refine bodyPost_ret (by simp [results, Try.results83, go_sem, p0, p1, p2, p3, p4, p5, p6, p7]; try rfl) rfl ?_
    exact ⟨rfl, NB.trans (b9.mono (by omega))⟩
  · go_enter Try.func83, Try.ntmps83
    go_upto_region 2 with (fail)
    rw [← eW, ← e8, ← e5, ← e4]
    clear eW e8 e5 e4
    go_upto_region 4 with (fail)
    obtain ⟨X, n, eX, en, ⟨ln, lX, lw⟩, s4, s5, s8, sn, BX⟩ := rnext_at (rnA 1 e m 1 1) ⟨l4, l5, l8⟩ H4.out H5.out H8.out HB0.out
    rw [← eX, ← en]
    clear eX en c0 c1 c2 c3 c4 c5 c6 c7 c8 a0 a1 a2 H4 H5 H8 HB0
    obtain ⟨⟨c0, c1, c2, c3, c4, c5, c6, c7⟩, c8⟩ := row8 s5
    obtain ⟨⟨n0, n1, n2, n3, n4, n5, n6, n7⟩, n8⟩ := row8 sn
    obtain ⟨a0, a1, a2⟩ := row3 s4
    have HBX := Lib.hid BX; have H4 := Lib.hid s4; have H5 := Lib.hid s5; have H8 := Lib.hid s8; have Hn := Lib.hid sn
    clear s4 s5 s8 sn BX
    have N8 : RowAt (((X.setCell ⟨n, 3, none⟩ (.int .i64 0)).setCell ⟨n, 3, none⟩ (.int .i64 1)).setCell ⟨n, 2, none⟩ (.int .i64 t)) b8 39 (rnA 0 0 0 0 0) := ((H8.out.other _ _ (by simp only; omega)).other _ _ (by simp only; omega)).other _ _ (by simp only; omega)
    have NB : Below w.heap.size w (((X.setCell ⟨n, 3, none⟩ (.int .i64 0)).setCell ⟨n, 3, none⟩ (.int .i64 1)).setCell ⟨n, 2, none⟩ (.int .i64 t)) := ((HBX.out.setCell (by simp only; omega) _).setCell (by simp only; omega) _).setCell (by simp only; omega) _
    go_wp2_with (first | (refine wpList_store_at N8 (Nat.le_refl _) (rnA 1 e t 1 1) (.tmp 8) (.tmp 45) 39 rfl rfl rfl rfl (by kernel_rfl) rfl rfl ?_; intro w9 r9 b9; obtain ⟨⟨p0, p1, p2, p3, p4, p5, p6, p7⟩, p8⟩ := row8 r9))
    (try simp only [Exit.inBlock, Exit.then]); refine bodyPost_ret (by simp [results, Try.results83, go_sem, p0, p1, p2, p3, p4, p5, p6, p7]; try rfl) rfl ?_
    exact ⟨rfl, NB.trans (b9.mono (by omega))⟩

end Go.Proofs.Ytpooolijghbkbaa
