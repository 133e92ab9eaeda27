/-
  Layer 17: an invalid configuration: Step and Decode of the program do nothing; two states compared.
  Layer 17: an invalid configuration: Step and Decode of the specification do nothing.
-/
import Derived.Test.YtpooolijghbkbaaZ22
import Derived.Test.YtpooolijghbkbaaZ23
namespace Go.Proofs.Ytpooolijghbkbaa
open Go Go.RowKit Go.Joins
set_option linter.unusedVariables false
set_option linter.unusedSimpArgs false

/-- Any state. -/
abbrev stA (x0 x1 x2 x3 x4 x5 x6 : Int) (d : ByteArray) : Array Value := #[.int .i64 x0, .int .i64 x1, .int .i64 x2, .int .i64 x3, .int .i64 x4, .int .i64 x5, .int .i64 x6, .string d]
set_option maxRecDepth 20000 in
set_option maxHeartbeats 4000000 in
theorem manStep_bad (N D : Int) (z : Bool) (x0 x1 x2 x3 x4 x5 x6 : Int) (d : ByteArray) (k f t v a : Int) (s : ByteArray) (u : Int) (w : World) (hN0 : -9223372036854775808 ≤ N) (hN1 : N ≤ 9223372036854775807) (hD0 : -9223372036854775808 ≤ D) (hD1 : D ≤ 9223372036854775807) (hk : ckE N D ≠ 0) :
    Calls Try.prog 37 #[.agg (manA N D z), .agg (stA x0 x1 x2 x3 x4 x5 x6 d), .agg (evA k f t v a s u)] w fun r w' => r = .returned (.tuple #[.agg (stA x0 x1 x2 x3 x4 x5 x6 d), .slice none 0 0]) ∧ Below w.heap.size w w' := by
  have CK := Lib.hid (fun W => manCheck_any N D z W hN0 hN1 hD0 hD1)
  have hk' : (ckE N D != 0) = true := by simpa using hk
  generalize ckE N D = KE at *
  obtain ⟨W, b3, b4, b5, b6, eW, e6, e5, e4, e3, ⟨l3, l4, l5, l6, l0⟩, r3, r4, r5, r6, B0⟩ := mbox_at w N D z (stA x0 x1 x2 x3 x4 x5 x6 d) k f t v a s u (mnA 0 0 0 0)
  have HB0 := Lib.hid B0
  have H4 := Lib.hid r4; have H6 := Lib.hid r6
  obtain ⟨a0, a1, a2⟩ := row3 r3
  clear r3 r4 r5 r6 B0
  go_enter Try.func37, Try.ntmps37
  go_wp2_with (first
    | (rw [← eW, ← e6, ← e5, ← e4, ← e3]; clear eW e6 e5 e4 e3; go_at_call 34; go_must (refine (CK.out _).mono ?_; rintro e1 w1 ⟨rfl, b1⟩; have K6 := Lib.hid (H6.out.keep b1); have B1 := Lib.hid (HB0.out.trans (b1.mono HB0.out.size)); obtain ⟨⟨f0, f1, f2, f3, f4, f5, f6, f7⟩, f8⟩ := row8 (H4.out.keep b1)))
    | (refine wpList_store_at K6.out (Nat.le_refl _) (stA x0 x1 x2 x3 x4 x5 x6 d) (.tmp 6) (.tmp 20) 39 rfl rfl rfl rfl (by kernel_rfl) rfl rfl ?_; intro w9 r9 b9; obtain ⟨⟨p0, p1, p2, p3, p4, p5, p6, p7⟩, p8⟩ := row8 r9))
  (try simp only [Exit.inBlock, Exit.then]); refine bodyPost_ret (by simp [results, Try.results37, go_sem, p0, p1, p2, p3, p4, p5, p6, p7]; try rfl) rfl ?_
  exact ⟨rfl, B1.out.trans (b9.mono (by omega))⟩

/-- The fold that does nothing. -/
def bdQ (z : Bool) (N D : Int) (s : MN) (e : Ev) : MN := s
def bdP (z : Bool) (N D : Int) (l : List Ev) : MN := l.foldl (bdQ z N D) MN.zero
theorem bdP_zero (z : Bool) (N D : Int) (l : List Ev) : bdP z N D l = MN.zero := by
  unfold bdP
  induction l with
  | nil => rfl
  | cons e l ih => exact ih
theorem bdP_snoc (z : Bool) (N D : Int) {l : List Ev} {j : Nat} (hj : j < l.length) : bdP z N D (l.take (j + 1)) = bdQ z N D (bdP z N D (l.take j)) l[j] := by rw [bdP_zero]; unfold bdQ; rw [bdP_zero]
theorem bdQ_parts (z : Bool) (N D y e0 m p : Int) (o : List Ev) (e : Ev) : bdQ z N D ⟨y, e0, m, p, o⟩ e = ⟨(bdQ z N D ⟨y, e0, m, p, []⟩ e).y, (bdQ z N D ⟨y, e0, m, p, []⟩ e).e, (bdQ z N D ⟨y, e0, m, p, []⟩ e).m, (bdQ z N D ⟨y, e0, m, p, []⟩ e).p, o ++ (bdQ z N D ⟨y, e0, m, p, []⟩ e).o⟩ := by simp [bdQ]
theorem bdQ_one (z : Bool) (N D y e0 m p : Int) (e : Ev) : (bdQ z N D ⟨y, e0, m, p, []⟩ e).o.length ≤ 1 := by simp [bdQ]
theorem bdP_len (z : Bool) (N D : Int) (l : List Ev) : (bdP z N D l).o.length ≤ l.length := by rw [bdP_zero]; simp
theorem badStep_any (N D : Int) (z : Bool) (s : MN) (x : Ev) (w : World) (hN0 : -9223372036854775808 ≤ N) (hN1 : N ≤ 9223372036854775807) (hD0 : -9223372036854775808 ≤ D) (hD1 : D ≤ 9223372036854775807) (hk : ckE N D ≠ 0) :
    Calls Try.prog 37 #[.agg (manA N D z), .agg (mnA s.y s.e s.m s.p), .agg (evA x.k x.f x.t x.v x.a ⟨x.d.toArray⟩ x.u)] w fun r w' => ∃ V, r = .returned (.tuple #[.agg (mnA (bdQ z N D ⟨s.y, s.e, s.m, s.p, []⟩ x).y (bdQ z N D ⟨s.y, s.e, s.m, s.p, []⟩ x).e (bdQ z N D ⟨s.y, s.e, s.m, s.p, []⟩ x).m (bdQ z N D ⟨s.y, s.e, s.m, s.p, []⟩ x).p), V]) ∧ EvRow w' w.heap.size V (bdQ z N D ⟨s.y, s.e, s.m, s.p, []⟩ x).o ∧ Below w.heap.size w w' :=
  (manStep_bad N D z s.y s.e s.m 0 0 0 s.p ⟨#[]⟩ x.k x.f x.t x.v x.a _ x.u w hN0 hN1 hD0 hD1 hk).mono fun r w' ⟨h1, h2⟩ => ⟨.slice none 0 0, h1, KRow.nil _ _, h2⟩

set_option maxRecDepth 20000 in
set_option maxHeartbeats 8000000 in
theorem badDecodeG_any (N D : Int) (z : Bool) (l : List Ev) (V : Value) (w : World) (hT : EvArg w V l) (hN0 : -9223372036854775808 ≤ N) (hN1 : N ≤ 9223372036854775807) (hD0 : -9223372036854775808 ≤ D) (hD1 : D ≤ 9223372036854775807) (hk : ckE N D ≠ 0) (hl : l.length ≤ 1099511627776) (hd : ∀ j (h : j < l.length), l[j].d.length ≤ 140737488351232) :
    Calls Try.prog 81 #[.agg (manA N D z), .agg (mnA 0 0 0 0), V, .func (.func 37) #[] #[], .func (.func 41) #[] #[]] w fun e w' => ∃ v, e = .returned v ∧ EvRow w' w.heap.size v (bdP z N D l).o ∧ Below w.heap.size w w' := by
  have CS := Lib.hid (fun s e W => badStep_any N D z s e W hN0 hN1 hD0 hD1 hk)
  have CE := Lib.hid (fun S W => manEnd_any N D z S W)
  have HD := Lib.hid hd
  obtain ⟨A, c, rfl, hA⟩ := hT
  have HA := Lib.hid hA
  have hl' : (l.length : Int) ≤ 1099511627776 := by omega
  obtain ⟨W, b5, b6, eW, e6, e5, ⟨l5, l6, l0⟩, r5, r6, B0⟩ := mtwo_boxes w N D z (mnA 0 0 0 0)
  have HB0 := Lib.hid B0; have H5 := Lib.hid r5; have H6 := Lib.hid r6
  have hL := bdP_len z N D l
  clear hA hd r5 r6 B0
  go_enter Try.func81, Try.ntmps81
  go_wp2
  rw [← eW, ← e6, ← e5]
  clear eW e6 e5
  go_loopw [18, 11] (fun i r wr => ∃ (j : Nat) (y e m p : Int) (o : List Ev), j ≤ l.length ∧ i = .int .i64 j ∧ Hid (bdP z N D (l.take j) = ⟨y, e, m, p, o⟩) ∧ Hid (EvRow wr W.heap.size r o) ∧ Hid (RowAt wr b5 59 (manA N D z)) ∧ Hid (RowAt wr b6 39 (mnA y e m p)) ∧ Hid (Below w.heap.size w wr) ∧ W.heap.size ≤ wr.heap.size) (fun i _ _ => l.length - (intOf i).toNat)
  case atStart => exact ⟨0, 0, 0, 0, 0, [], Nat.zero_le _, rfl, Lib.hid rfl, Lib.hid (KRow.nil _ _), H5, H6, HB0, Nat.le_refl _⟩
  case round =>
    obtain ⟨j, y, e, m, p, o, hj, rfl, HQ, HR, HZ, HS, HB, hW⟩ := hrel
    have hb := HB.out
    have ho : o.length ≤ j := by have := bdP_len z N D (l.take j); rw [HQ.out, List.length_take] at this; simp only at this; omega
    obtain ⟨⟨g0, g1, g2, g3, g4, g5, g6, g7⟩, g8⟩ := row8 HS.out
    obtain ⟨z0, z1, z2⟩ := row3 HZ.out
    have m5 : b5 < wr.heap.size := by omega
    have m6 : b6 < wr.heap.size := by omega
    clear g8
    by_cases hjl : j < l.length
    · obtain ⟨g, o', rfl, hg, hc⟩ := HA.out (by omega)
      obtain ⟨a0, a1, a2, a3, a4, a5, a6⟩ := arg_seven hc j hjl
      have f0 := (hb.cell (p := ⟨g, o' + j * 7, none⟩) hg).trans a0
      have f1 := (hb.cell (p := ⟨g, o' + j * 7 + 1, none⟩) hg).trans a1
      have f2 := (hb.cell (p := ⟨g, o' + j * 7 + 2, none⟩) hg).trans a2
      have f3 := (hb.cell (p := ⟨g, o' + j * 7 + 3, none⟩) hg).trans a3
      have f4 := (hb.cell (p := ⟨g, o' + j * 7 + 4, none⟩) hg).trans a4
      have f5 := (hb.cell (p := ⟨g, o' + j * 7 + 5, none⟩) hg).trans a5
      have f6 := (hb.cell (p := ⟨g, o' + j * 7 + 6, none⟩) hg).trans a6
      have HN : Hid (bdP z N D (l.take (j + 1)) = bdQ z N D ⟨y, e, m, p, o⟩ l[j]) := Lib.hid (by rw [bdP_snoc z N D hjl, HQ.out])
      have HP := Lib.hid (HN.out.trans (bdQ_parts z N D y e m p o l[j]))
      have CSj : Hid (∀ W, Calls Try.prog 37 #[.agg (manA N D z), .agg (mnA y e m p), .agg (evA l[j].k l[j].f l[j].t l[j].v l[j].a ⟨l[j].d.toArray⟩ l[j].u)] W fun r w' => ∃ V, r = .returned (.tuple #[.agg (mnA (bdQ z N D ⟨y, e, m, p, []⟩ l[j]).y (bdQ z N D ⟨y, e, m, p, []⟩ l[j]).e (bdQ z N D ⟨y, e, m, p, []⟩ l[j]).m (bdQ z N D ⟨y, e, m, p, []⟩ l[j]).p), V]) ∧ EvRow w' W.heap.size V (bdQ z N D ⟨y, e, m, p, []⟩ l[j]).o ∧ Below W.heap.size W w') := Lib.hid fun W => CS.out ⟨y, e, m, p, o⟩ l[j] W
      have hone := bdQ_one z N D y e m p l[j]
      clear a0 a1 a2 a3 a4 a5 a6 hc HN HQ
      generalize (bdQ z N D ⟨y, e, m, p, []⟩ l[j]).y = y' at *
      generalize (bdQ z N D ⟨y, e, m, p, []⟩ l[j]).e = e' at *
      generalize (bdQ z N D ⟨y, e, m, p, []⟩ l[j]).m = m' at *
      generalize (bdQ z N D ⟨y, e, m, p, []⟩ l[j]).p = p' at *
      generalize (bdQ z N D ⟨y, e, m, p, []⟩ l[j]).o = x' at *
      generalize (⟨l[j].d.toArray⟩ : ByteArray) = x5 at *
      generalize l[j].k = x0 at *
      generalize l[j].f = x1 at *
      generalize l[j].t = x2 at *
      generalize l[j].v = x3 at *
      generalize l[j].a = x4 at *
      generalize l[j].u = x6 at *
      obtain ⟨RA, RN, RC, rfl, hRN⟩ := HR.out.form
      clear hRN
      go_wp2_with (first
        | (go_at_call 37; go_must (refine (CSj.out _).mono ?_; rintro e1 w1 ⟨V1, rfl, v1, b1⟩; obtain ⟨VA, VN, VC, rfl, hVN⟩ := v1.form; clear hVN; have k1 := (ba wr _).trans (b1.mono (by rw [World.size_alloc]; omega)); have V1 := Lib.hid v1; have B1 := Lib.hid (hb.trans (k1.mono hb.size)); have R1 := Lib.hid (HR.out.keep k1); have Z1 := Lib.hid ((HZ.out.keep k1).alloc (.cells (mnA y' e' m' p') 39)); have S1 := Lib.hid ((HS.out.keep k1).alloc (.cells (mnA y' e' m' p') 39)); have s1 := k1.size))
        | (refine wpList_store_kp S1.out (mnA y' e' m' p') (.tmp 6) (.tmp 30) 39 rfl rfl rfl rfl (by kernel_rfl) rfl rfl ?_; intro w3 r3 k3; have R3 := Lib.hid ((R1.out.alloc _).kp k3 (fun g hg hx => by have := R1.out.lt g hg; simp only [List.mem_singleton] at hx; omega)); have V3 := Lib.hid ((((V1.out.alloc _).kp k3 (fun g hg hx => by have := V1.out.lt g hg; rw [World.size_alloc] at this; simp only [List.mem_singleton] at hx; omega)).arg evC_size)); have Z3 := Lib.hid (k3.row Z1.out (by simp only [List.mem_singleton]; omega)); have S3 := Lib.hid r3; have B3 := Lib.hid ((B1.out.alloc B1.out.size _).trans (k3.below (by simp only [List.mem_singleton]; intro k hk; omega) (by rw [World.size_alloc]; exact Nat.le_trans B1.out.size (Nat.le_succ _)))); have s3 := k3.size; rw [World.size_alloc] at s3; clear r3 k3)
        | (at_builtin; go_must (refine wpList_append_arg Try.underlying36 ev_info rfl (by omega) evC_size ev_one rfl _ _ rfl rfl rfl R3.out V3.out (by omega) (by omega) (by omega) ?_; intro v4 w4 r4 b4; have R4 := Lib.hid r4; have B4 := Lib.hid b4; clear r4 b4)))
      go_roundw
      case rel => exact ⟨j + 1, y', e', m', p', o ++ x', by omega, val_int (by omega), HP, R4, Lib.hid (Z3.out.below B4.out (by omega)), Lib.hid (S3.out.below B4.out l6), Lib.hid (B3.out.trans (B4.out.mono HB0.out.size)), by have := B4.out.size; omega⟩
      case measure => simp [intOf]; omega
    · have he : l.take j = l := List.take_of_length_le (by omega)
      rw [he] at HQ
      have HO : Hid ((bdP z N D l).o = o) := Lib.hid (by rw [HQ.out])
      obtain ⟨RA, RN, RC, rfl, hRN⟩ := HR.out.form
      clear hRN he HQ
      go_wp2_with (first
        | (go_at_call 41; go_must (refine (CE.out _ _).mono ?_; rintro e1 w1 ⟨rfl, b1⟩; have R1 := Lib.hid (HR.out.keep b1); have B1 := Lib.hid (hb.trans (b1.mono hb.size)); have s1 := b1.size))
        | (at_builtin; go_must (refine wpList_append_arg Try.underlying36 ev_info rfl (by omega) evC_size ev_one rfl _ _ rfl rfl rfl R1.out (EvArg.none _) (by omega) (by simp only [List.length_nil]; omega) (by simp only [List.length_nil]; omega) ?_; intro v4 w4 r4 b4; rw [List.append_nil] at r4; have R4 := Lib.hid r4; have B4 := Lib.hid b4; clear r4 b4)))
      go_returns
      exact ⟨_, rfl, by rw [HO.out]; exact R4.out.mono HB0.out.size, B1.out.trans (B4.out.mono HB0.out.size)⟩

set_option maxRecDepth 20000 in
set_option maxHeartbeats 8000000 in
theorem badDecode_any (N D : Int) (z : Bool) (l : List Ev) (V : Value) (w : World) (hT : EvArg w V l) (hN0 : -9223372036854775808 ≤ N) (hN1 : N ≤ 9223372036854775807) (hD0 : -9223372036854775808 ≤ D) (hD1 : D ≤ 9223372036854775807) (hk : ckE N D ≠ 0) (hl : l.length ≤ 1099511627776) (hd : ∀ j (h : j < l.length), l[j].d.length ≤ 140737488351232) :
    Calls Try.prog 42 #[.agg (manA N D z), V] w fun e w' => ∃ v, e = .returned v ∧ EvRow w' w.heap.size v (bdP z N D l).o ∧ Below w.heap.size w w' := by
  have CS := Lib.hid (fun W => manStart_any N D z W)
  have CD := Lib.hid (fun W (hb : Below w.heap.size w W) => badDecodeG_any N D z l V W (hT.keep hb) hN0 hN1 hD0 hD1 hk hl hd)
  obtain ⟨A, c, rfl, hA⟩ := hT
  obtain ⟨W, b, eW, eb, c0, c1, c2, l0, B0⟩ := man_at w N D z
  have hb0 := Lib.hid B0
  have HC : Hid (W.cell? ⟨b, 0, none⟩ = some (.int .i64 N) ∧ W.cell? ⟨b, 1, none⟩ = some (.int .i64 D) ∧ W.cell? ⟨b, 2, none⟩ = some (.bool z) ∧ b < W.heap.size ∧ Below w.heap.size w W) := Lib.hid ⟨c0, c1, c2, l0, B0⟩
  clear hA
  go_enter Try.func42, Try.ntmps42
  go_wp2
  rw [← eW, ← eb]
  clear eW eb
  go_region_held3 (fun w' => w'.cell? ⟨b, 0, none⟩ = some (.int .i64 N) ∧ w'.cell? ⟨b, 1, none⟩ = some (.int .i64 D) ∧ w'.cell? ⟨b, 2, none⟩ = some (.bool z) ∧ b < w'.heap.size ∧ Below w.heap.size w w') (first | with_reducible assumption | with_reducible exact man_held HC.out (Below.refl _ _).drew | fail)
    (first
      | (go_at_call 40; refine (CS.out _).mono ?_; rintro e5 w5 ⟨rfl, b5⟩; have h5 := man_held (by with_reducible assumption) b5)
      | (go_at_call 81; refine (CD.out _ (And.right (And.right (And.right (And.right (by with_reducible assumption : _ ∧ _ ∧ _ ∧ b < _ ∧ Below w.heap.size w _)))))).mono ?_; rintro e6 w6 ⟨v6, rfl, r6, b6⟩; have h6 := man_held (by with_reducible assumption) b6))
  have hr6 := Lib.hid (r6.mono h5.2.2.2.2.size)
  have hb6 := Lib.hid h6.2.2.2.2
  go_wp2
  go_returns
  exact ⟨_, rfl, hr6.out, hb6.out⟩

/-- Two states are the same. -/
def eqS (x0 x1 x2 x3 x4 x5 x6 : Int) (s : ByteArray) (y0 y1 y2 y3 y4 y5 y6 : Int) (s' : ByteArray) : Bool := x0 == y0 && (x1 == y1 && (x2 == y2 && (x3 == y3 && (x4 == y4 && (x5 == y5 && (x6 == y6 && s.data.toList == s'.data.toList))))))
set_option maxRecDepth 20000 in
set_option maxHeartbeats 1000000 in
theorem eqFields_st (d : Nat) (x0 x1 x2 x3 x4 x5 x6 : Int) (s : ByteArray) (w : World) :
    (Op.eqFields (d + 1) (stA x0 x1 x2 x3 x4 x5 x6 s) (stA x0 x1 x2 x3 x4 x5 x6 s) (Try.prog.fieldsOf 39).toList).run Try.prog w = .ok true w := by
  unfold Program.fieldsOf
  rw [Try.underlying39]
  simp only
  go_simp
theorem eql_st (x0 x1 x2 x3 x4 x5 x6 : Int) (s : ByteArray) (w : World) :
    (binOp .eql 39 (.agg (stA x0 x1 x2 x3 x4 x5 x6 s)) (.agg (stA x0 x1 x2 x3 x4 x5 x6 s))).run Try.prog w = .ok (.bool true) w := by
  have hst : Try.prog.underlying 39 = some (.struct (Try.prog.fieldsOf 39)) := by unfold Program.fieldsOf; rw [Try.underlying39]
  rw [run_eql_struct, run_equalIn_agg w 9999 _ _ _ hst (by kernel_rfl), eqFields_st 9998]; rfl

end Go.Proofs.Ytpooolijghbkbaa

namespace Go.Proofs.Ytpooolijghbkbaa
open Go Go.RowKit Go.Joins
set_option linter.unusedVariables false
set_option linter.unusedSimpArgs false

set_option maxRecDepth 20000 in
set_option maxHeartbeats 4000000 in
theorem rmanStep_bad (N D : Int) (z : Bool) (x0 x1 x2 x3 x4 x5 x6 : Int) (d : ByteArray) (k f t v a : Int) (s : ByteArray) (u : Int) (w : World) (hN0 : -9223372036854775808 ≤ N) (hN1 : N ≤ 9223372036854775807) (hD0 : -9223372036854775808 ≤ D) (hD1 : D ≤ 9223372036854775807) (hk : ckE N D ≠ 0) :
    Calls Try.prog 44 #[.agg (manA N D z), .agg (stA x0 x1 x2 x3 x4 x5 x6 d), .agg (evA k f t v a s u)] w fun r w' => r = .returned (.tuple #[.agg (stA x0 x1 x2 x3 x4 x5 x6 d), .slice none 0 0]) ∧ Below w.heap.size w w' := by
  have CK := Lib.hid (fun W => refManCheck_any N D z W hN0 hN1 hD0 hD1)
  have hk' : (ckE N D != 0) = true := by simpa using hk
  generalize ckE N D = KE at *
  obtain ⟨W, b3, b4, b5, b6, eW, e6, e5, e4, e3, ⟨l3, l4, l5, l6, l0⟩, r3, r4, r5, r6, B0⟩ := mbox_at w N D z (stA x0 x1 x2 x3 x4 x5 x6 d) k f t v a s u (mnA 0 0 0 0)
  have HB0 := Lib.hid B0
  have H4 := Lib.hid r4; have H6 := Lib.hid r6
  obtain ⟨a0, a1, a2⟩ := row3 r3
  clear r3 r4 r5 r6 B0
  go_enter Try.func44, Try.ntmps44
  go_wp2_with (first
    | (rw [← eW, ← e6, ← e5, ← e4, ← e3]; clear eW e6 e5 e4 e3; go_at_call 35; go_must (refine (CK.out _).mono ?_; rintro e1 w1 ⟨rfl, b1⟩; have K6 := Lib.hid (H6.out.keep b1); have B1 := Lib.hid (HB0.out.trans (b1.mono HB0.out.size)); obtain ⟨⟨f0, f1, f2, f3, f4, f5, f6, f7⟩, f8⟩ := row8 (H4.out.keep b1)))
    | (refine wpList_store_at K6.out (Nat.le_refl _) (stA x0 x1 x2 x3 x4 x5 x6 d) (.tmp 6) (.tmp 19) 39 rfl rfl rfl rfl (by kernel_rfl) rfl rfl ?_; intro w9 r9 b9; obtain ⟨⟨p0, p1, p2, p3, p4, p5, p6, p7⟩, p8⟩ := row8 r9))
  (try simp only [Exit.inBlock, Exit.then]); refine bodyPost_ret (by simp [results, Try.results44, go_sem, p0, p1, p2, p3, p4, p5, p6, p7]; try rfl) rfl ?_
  exact ⟨rfl, B1.out.trans (b9.mono (by omega))⟩
theorem badRefStep_any (N D : Int) (z : Bool) (s : MN) (x : Ev) (w : World) (hN0 : -9223372036854775808 ≤ N) (hN1 : N ≤ 9223372036854775807) (hD0 : -9223372036854775808 ≤ D) (hD1 : D ≤ 9223372036854775807) (hk : ckE N D ≠ 0) :
    Calls Try.prog 44 #[.agg (manA N D z), .agg (rnA (phI s.e) s.e s.m s.y s.p), .agg (evA x.k x.f x.t x.v x.a ⟨x.d.toArray⟩ x.u)] w fun r w' => ∃ V, r = .returned (.tuple #[.agg (rnA (phI (bdQ z N D ⟨s.y, s.e, s.m, s.p, []⟩ x).e) (bdQ z N D ⟨s.y, s.e, s.m, s.p, []⟩ x).e (bdQ z N D ⟨s.y, s.e, s.m, s.p, []⟩ x).m (bdQ z N D ⟨s.y, s.e, s.m, s.p, []⟩ x).y (bdQ z N D ⟨s.y, s.e, s.m, s.p, []⟩ x).p), V]) ∧ EvRow w' w.heap.size V (bdQ z N D ⟨s.y, s.e, s.m, s.p, []⟩ x).o ∧ Below w.heap.size w w' :=
  (rmanStep_bad N D z (phI s.e) s.e s.m s.y 0 0 s.p ⟨#[]⟩ x.k x.f x.t x.v x.a _ x.u w hN0 hN1 hD0 hD1 hk).mono fun r w' ⟨h1, h2⟩ => ⟨.slice none 0 0, h1, KRow.nil _ _, h2⟩

set_option maxRecDepth 20000 in
set_option maxHeartbeats 8000000 in
theorem badRefDecode_any (N D : Int) (z : Bool) (l : List Ev) (V : Value) (w : World) (hT : EvArg w V l) (hN0 : -9223372036854775808 ≤ N) (hN1 : N ≤ 9223372036854775807) (hD0 : -9223372036854775808 ≤ D) (hD1 : D ≤ 9223372036854775807) (hk : ckE N D ≠ 0) (hl : l.length ≤ 1099511627776) (hd : ∀ j (h : j < l.length), l[j].d.length ≤ 140737488351232) :
    Calls Try.prog 46 #[.agg (manA N D z), V] w fun e w' => ∃ v, e = .returned v ∧ EvRow w' w.heap.size v (bdP z N D l).o ∧ Below w.heap.size w w' := by
  have CT := Lib.hid (fun W => refManStart_any N D z W)
  have CS := Lib.hid (fun s x W => badRefStep_any N D z s x W hN0 hN1 hD0 hD1 hk)
  have HD := Lib.hid hd
  obtain ⟨A, c, rfl, hA⟩ := hT
  have HA := Lib.hid hA
  have hl' : (l.length : Int) ≤ 1099511627776 := by omega
  obtain ⟨X, b2, eX, e2, l2, r2, B0⟩ := one_mbox w N D z
  have hXs : X.heap.size = b2 + 1 := by rw [eX, e2, World.size_alloc]
  have HB0 := Lib.hid B0; have H2 := Lib.hid r2
  obtain ⟨z0, z1, z2⟩ := row3 r2
  have hL := bdP_len z N D l
  clear hA hd r2 B0
  go_enter Try.func46, Try.ntmps46
  go_wp2_with (first
    | (rw [← eX, ← e2]; clear eX e2; go_at_call 43; go_must (refine (CT.out _).mono ?_; rintro e1 w1 ⟨rfl, b1⟩; have rL0 := Lib.hid ((KRow.lit (T := 44) evC_size X X.heap.size (Nat.le_refl _) [] #[] rfl 0 rfl (by decide)).keep b1); have B1 := (HB0.out.alloc HB0.out.size (.cells #[] 44)).trans (b1.mono (HB0.out.alloc HB0.out.size _).size); have Z1 := (H2.out.alloc _).keep b1; have s1 := b1.size; rw [World.size_alloc] at s1)))
  have r5 : RowAt (w1.alloc (.cells (rnA 0 0 0 0 0) 39)) w1.heap.size 39 (rnA 0 0 0 0 0) := RowAt.new _ _ _
  obtain ⟨W, b5, eW, e5⟩ : ∃ W b5, W = w1.alloc (.cells (rnA 0 0 0 0 0) 39) ∧ b5 = w1.heap.size := ⟨_, _, rfl, rfl⟩
  have HL := Lib.hid (rL0.out.alloc (.cells (rnA 0 0 0 0 0) 39))
  have HZ0 := Lib.hid (Z1.alloc (.cells (rnA 0 0 0 0 0) 39))
  have HBW := Lib.hid (B1.alloc B1.size (.cells (rnA 0 0 0 0 0) 39))
  have hW : W.heap.size = b5 + 1 := by rw [eW, e5, World.size_alloc]
  rw [← eW, ← e5] at r5
  rw [← eW] at HL HZ0 HBW
  rw [← eW, ← e5]
  have H5 := Lib.hid r5
  have hb5 : b2 < b5 := by omega
  have hw1 := HB0.out.size
  obtain ⟨H, hH⟩ : ∃ H, H = b2 + 1 := ⟨_, rfl⟩
  rw [← hH] at hXs
  rw [hXs] at HL hw1 s1
  rw [← hH]
  have hHb : H < b5 := by omega
  have hHW : H ≤ W.heap.size := by omega
  have hb2 : b2 < H := by omega
  have hHw : w.heap.size ≤ H := by omega
  clear eW e5 r5 Z1 B1 b1 HB0 H2 z0 z1 z2 CT rL0 hH
  go_loopw [7, 5] (fun i r wr => ∃ (j : Nat) (y e m p : Int) (o : List Ev), j ≤ l.length ∧ i = .int .i64 j ∧ Hid (bdP z N D (l.take j) = ⟨y, e, m, p, o⟩) ∧ Hid (EvRow wr H r o) ∧ Hid (r.ownBlock ≠ some b5) ∧ Hid (RowAt wr b2 59 (manA N D z)) ∧ Hid (RowAt wr b5 39 (rnA (phI e) e m y p)) ∧ Hid (Below w.heap.size w wr) ∧ W.heap.size ≤ wr.heap.size) (fun i _ _ => l.length - (intOf i).toNat)
  case atStart => exact ⟨0, 0, 0, 0, 0, [], Nat.zero_le _, rfl, Lib.hid rfl, HL, Lib.hid (by simp [Value.ownBlock]; omega), HZ0, H5, HBW, Nat.le_refl _⟩
  case round =>
    obtain ⟨j, y, e, m, p, o, hj, rfl, HQ, HR, HO, HZ, HS, HB, hW⟩ := hrel
    have hb := HB.out
    have ho : o.length ≤ j := by have := bdP_len z N D (l.take j); rw [HQ.out, List.length_take] at this; simp only at this; omega
    obtain ⟨⟨g0, g1, g2, g3, g4, g5, g6, g7⟩, g8⟩ := row8 HS.out
    obtain ⟨z0, z1, z2⟩ := row3 HZ.out
    have m5 : b5 < wr.heap.size := by omega
    have m2 : b2 < wr.heap.size := by omega
    clear g8
    by_cases hjl : j < l.length
    · obtain ⟨g, o', rfl, hg, hc⟩ := HA.out (by omega)
      obtain ⟨a0, a1, a2, a3, a4, a5, a6⟩ := arg_seven hc j hjl
      have f0 := (hb.cell (p := ⟨g, o' + j * 7, none⟩) hg).trans a0
      have f1 := (hb.cell (p := ⟨g, o' + j * 7 + 1, none⟩) hg).trans a1
      have f2 := (hb.cell (p := ⟨g, o' + j * 7 + 2, none⟩) hg).trans a2
      have f3 := (hb.cell (p := ⟨g, o' + j * 7 + 3, none⟩) hg).trans a3
      have f4 := (hb.cell (p := ⟨g, o' + j * 7 + 4, none⟩) hg).trans a4
      have f5 := (hb.cell (p := ⟨g, o' + j * 7 + 5, none⟩) hg).trans a5
      have f6 := (hb.cell (p := ⟨g, o' + j * 7 + 6, none⟩) hg).trans a6
      have mg : g < wr.heap.size := Nat.lt_of_lt_of_le hg hb.size
      have HN : Hid (bdP z N D (l.take (j + 1)) = bdQ z N D ⟨y, e, m, p, o⟩ l[j]) := Lib.hid (by rw [bdP_snoc z N D hjl, HQ.out])
      have HP := Lib.hid (HN.out.trans (bdQ_parts z N D y e m p o l[j]))
      have CSj : Hid (∀ W, Calls Try.prog 44 #[.agg (manA N D z), .agg (rnA (phI e) e m y p), .agg (evA l[j].k l[j].f l[j].t l[j].v l[j].a ⟨l[j].d.toArray⟩ l[j].u)] W fun r w' => ∃ V, r = .returned (.tuple #[.agg (rnA (phI (bdQ z N D ⟨y, e, m, p, []⟩ l[j]).e) (bdQ z N D ⟨y, e, m, p, []⟩ l[j]).e (bdQ z N D ⟨y, e, m, p, []⟩ l[j]).m (bdQ z N D ⟨y, e, m, p, []⟩ l[j]).y (bdQ z N D ⟨y, e, m, p, []⟩ l[j]).p), V]) ∧ EvRow w' W.heap.size V (bdQ z N D ⟨y, e, m, p, []⟩ l[j]).o ∧ Below W.heap.size W w') := Lib.hid fun W => CS.out ⟨y, e, m, p, o⟩ l[j] W
      have hone := bdQ_one z N D y e m p l[j]
      clear a0 a1 a2 a3 a4 a5 a6 hc HN HQ
      generalize (bdQ z N D ⟨y, e, m, p, []⟩ l[j]).y = y' at *
      generalize (bdQ z N D ⟨y, e, m, p, []⟩ l[j]).e = e' at *
      generalize (bdQ z N D ⟨y, e, m, p, []⟩ l[j]).m = m' at *
      generalize (bdQ z N D ⟨y, e, m, p, []⟩ l[j]).p = p' at *
      generalize (bdQ z N D ⟨y, e, m, p, []⟩ l[j]).o = x' at *
      generalize (⟨l[j].d.toArray⟩ : ByteArray) = x5 at *
      generalize l[j].k = x0 at *
      generalize l[j].f = x1 at *
      generalize l[j].t = x2 at *
      generalize l[j].v = x3 at *
      generalize l[j].a = x4 at *
      generalize l[j].u = x6 at *
      obtain ⟨RA, RN, RC, rfl, hRN⟩ := HR.out.form
      clear hRN
      go_wp2
      have hs : Hid ((wr.cell? ⟨b2, 0, none⟩ = some (.int .i64 N) ∧ wr.cell? ⟨b2, 1, none⟩ = some (.int .i64 D) ∧ wr.cell? ⟨b2, 2, none⟩ = some (.bool z)) ∧ (wr.cell? ⟨b5, 0, none⟩ = some (.int .i64 (phI e)) ∧ wr.cell? ⟨b5, 1, none⟩ = some (.int .i64 e) ∧ wr.cell? ⟨b5, 2, none⟩ = some (.int .i64 m) ∧ wr.cell? ⟨b5, 3, none⟩ = some (.int .i64 y) ∧ wr.cell? ⟨b5, 4, none⟩ = some (.int .i64 0) ∧ wr.cell? ⟨b5, 5, none⟩ = some (.int .i64 0) ∧ wr.cell? ⟨b5, 6, none⟩ = some (.int .i64 p) ∧ wr.cell? ⟨b5, 7, none⟩ = some (.string ⟨#[]⟩)) ∧ (wr.cell? ⟨g, o' + j * 7, none⟩ = some (.int .i64 x0) ∧ wr.cell? ⟨g, o' + j * 7 + 1, none⟩ = some (.int .i64 x1) ∧ wr.cell? ⟨g, o' + j * 7 + 2, none⟩ = some (.int .i64 x2) ∧ wr.cell? ⟨g, o' + j * 7 + 3, none⟩ = some (.int .i64 x3) ∧ wr.cell? ⟨g, o' + j * 7 + 4, none⟩ = some (.int .i64 x4) ∧ wr.cell? ⟨g, o' + j * 7 + 5, none⟩ = some (.string x5) ∧ wr.cell? ⟨g, o' + j * 7 + 6, none⟩ = some (.int .i64 x6)) ∧ wr.heap.size ≤ wr.heap.size ∧ Below wr.heap.size wr wr) := Lib.hid ⟨⟨z0, z1, z2⟩, ⟨g0, g1, g2, g3, g4, g5, g6, g7⟩, ⟨f0, f1, f2, f3, f4, f5, f6⟩, Nat.le_refl _, Below.refl _ _⟩
      clear z0 z1 z2 g0 g1 g2 g3 g4 g5 g6 g7 f0 f1 f2 f3 f4 f5 f6
      go_region_held3 (fun w' => (w'.cell? ⟨b2, 0, none⟩ = some (.int .i64 N) ∧ w'.cell? ⟨b2, 1, none⟩ = some (.int .i64 D) ∧ w'.cell? ⟨b2, 2, none⟩ = some (.bool z)) ∧ (w'.cell? ⟨b5, 0, none⟩ = some (.int .i64 (phI e)) ∧ w'.cell? ⟨b5, 1, none⟩ = some (.int .i64 e) ∧ w'.cell? ⟨b5, 2, none⟩ = some (.int .i64 m) ∧ w'.cell? ⟨b5, 3, none⟩ = some (.int .i64 y) ∧ w'.cell? ⟨b5, 4, none⟩ = some (.int .i64 0) ∧ w'.cell? ⟨b5, 5, none⟩ = some (.int .i64 0) ∧ w'.cell? ⟨b5, 6, none⟩ = some (.int .i64 p) ∧ w'.cell? ⟨b5, 7, none⟩ = some (.string ⟨#[]⟩)) ∧ (w'.cell? ⟨g, o' + j * 7, none⟩ = some (.int .i64 x0) ∧ w'.cell? ⟨g, o' + j * 7 + 1, none⟩ = some (.int .i64 x1) ∧ w'.cell? ⟨g, o' + j * 7 + 2, none⟩ = some (.int .i64 x2) ∧ w'.cell? ⟨g, o' + j * 7 + 3, none⟩ = some (.int .i64 x3) ∧ w'.cell? ⟨g, o' + j * 7 + 4, none⟩ = some (.int .i64 x4) ∧ w'.cell? ⟨g, o' + j * 7 + 5, none⟩ = some (.string x5) ∧ w'.cell? ⟨g, o' + j * 7 + 6, none⟩ = some (.int .i64 x6)) ∧ wr.heap.size ≤ w'.heap.size ∧ Below wr.heap.size wr w') (first | with_reducible assumption | (with_reducible refine held17set ?_ (by with_reducible assumption) m2 m5 mg; with_reducible refine held17set ?_ (by with_reducible assumption) m2 m5 mg; with_reducible refine held17set ?_ (by with_reducible assumption) m2 m5 mg; with_reducible refine held17set ?_ (by with_reducible assumption) m2 m5 mg; with_reducible refine held17set ?_ (by with_reducible assumption) m2 m5 mg; with_reducible refine held17set ?_ (by with_reducible assumption) m2 m5 mg; with_reducible refine held17set ?_ (by with_reducible assumption) m2 m5 mg; with_reducible refine held17set ?_ (by with_reducible assumption) m2 m5 mg; with_reducible assumption) | with_reducible exact held17 hs.out (Below.refl _ _).drew m2 m5 mg | with_reducible exact held17 (by with_reducible assumption) ((ba _ _).mono (And.left (And.right (And.right (And.right (by with_reducible assumption)))))) m2 m5 mg | fail)
        (first
          | (go_at_call 44; refine (CSj.out _).mono ?_; rintro e9 w9 ⟨V9, rfl, v9, b9⟩; have h9 := held17 (by with_reducible assumption) (b9.mono (held17B (by with_reducible assumption))) m2 m5 mg; have u9 := Nat.le_refl wr.heap.size; (first | (have r9 := Lib.hid ((mrow_drew (RowAt.new wr 39 (rnA 0 0 0 0 0))).keep b9); obtain ⟨⟨q0, q1, q2, q3, q4, q5, q6, q7⟩, q8⟩ := row8 r9.out) | skip)))
      all_goals
        clear CSj
        first
          | (obtain ⟨W8, b8, eW8, eb8, HN8⟩ := mway_two (phI e') e' m' y' p' (by rw [World.size_drew, World.size_alloc]; omega) h9.2.2.2.2 v9 r9.out; rw [← eW8, ← eb8])
          | (obtain ⟨W8, b8, eW8, eb8, HN8⟩ := mway_one (rnA (phI e') e' m' y' p') (Nat.le_refl _) h9.2.2.2.2 v9; rw [← eW8, ← eb8])
        clear eW8 eb8
      all_goals
        clear h9 v9 b9
        try clear r9 q0 q1 q2 q3 q4 q5 q6 q7 q8
        obtain ⟨n8, k8, p8, t8, v8⟩ := HN8
        have S8 := Lib.hid (HS.out.below k8 m5); have Z8 := Lib.hid (HZ.out.below k8 m2); have R8 := Lib.hid (HR.out.keep k8); have V8 := Lib.hid v8; have B8 := Lib.hid (hb.trans (k8.mono hb.size)); have z8 := k8.size; have N8 := Lib.hid n8
        have O8 : Hid ((Value.slice RA RN RC).ownBlock ≠ some b8) := Lib.hid (fun e => by have := (HR.out.lt b8 e).2; omega)
        obtain ⟨VA, VN, VC, rfl, hVN⟩ := v8.form
        clear hVN n8 k8 v8 hs
        go_wp2_with (first
          | (at_builtin; go_must (refine wpList_append_arg_at Try.underlying36 ev_info rfl (by omega) evC_size ev_one rfl _ _ rfl rfl rfl R8.out (V8.out.arg evC_size) (by omega) (by omega) (by omega) ?_; intro v4 w4 r4 b4 n4 o4; have R4 := Lib.hid r4; have B4 := Lib.hid b4; have S4 := Lib.hid (row_kept S8.out n4 HO.out); have D4 := row_kept N8.out n4 O8.out; obtain ⟨⟨d0, d1, d2, d3, d4, d5, d6, d7⟩, d8⟩ := row8 D4; have O4 : Hid (v4.ownBlock ≠ some b5) := Lib.hid (by rcases o4 with h | h <;> rw [h]; exact HO.out; intro h; simp only [Option.some.injEq] at h; omega); clear r4 b4 n4 o4))
          | (refine wpList_store_kp S4.out (rnA (phI e') e' m' y' p') (.tmp 6) (.tmp 32) 39 rfl rfl rfl rfl (by kernel_rfl) rfl rfl ?_; intro w3 r3 k3; have R3 := Lib.hid (R4.out.kp k3 (fun g hg hx => O4.out (by rw [List.mem_singleton] at hx; rw [← hx]; exact hg))); have Z3 := Lib.hid (k3.row (Z8.out.below B4.out hb2) (by simp only [List.mem_singleton]; omega)); have S3 := Lib.hid r3; have B3 := Lib.hid ((B8.out.trans (B4.out.mono hHw)).trans (k3.below (by simp only [List.mem_singleton]; intro k hk; omega) (Nat.le_trans hHw (Nat.le_trans (by omega) B4.out.size)))); have s3 := k3.size; have s4 := B4.out.size; clear r3 k3))
        go_roundw
        case rel => exact ⟨j + 1, y', e', m', p', o ++ x', by omega, val_int (by omega), HP, R3, O4, Z3, S3, B3, by omega⟩
        case measure => simp [intOf]; omega
    · have he : l.take j = l := List.take_of_length_le (by omega)
      rw [he] at HQ
      have HX : Hid ((bdP z N D l).o = o) := Lib.hid (by rw [HQ.out])
      obtain ⟨RA, RN, RC, rfl, hRN⟩ := HR.out.form
      clear hRN he HQ
      go_wp2
      go_returns
      exact ⟨_, rfl, by rw [HX.out]; exact HR.out.mono hHw, hb⟩

end Go.Proofs.Ytpooolijghbkbaa
