/-
  The walk of the statement NrziInverts.
-/
import Derived.Test.YtfbclbolkojjeaaNB
import Derived.Test.YtfbclbolkojjeaaND
import Derived.Deep.RegionHeld3
namespace Go.Proofs.Ytfbclbolkojjeaa
open Go Go.RowKit Go.Joins
set_option linter.unusedVariables false
set_option linter.unusedSimpArgs false

theorem tuE_d (e : Ev) : (tuE e).d = e.d := by unfold tuE; split <;> rfl
theorem nzS_d (z : Bool) (l : List Ev) : ∀ (s : NS), (∀ e ∈ s.o, e.d = []) → ∀ e ∈ (l.foldl (nzS z) s).o, e.d = [] := by
  induction l with
  | nil => intro s h; exact h
  | cons a l ih =>
    intro s h
    rw [List.foldl_cons]
    refine ih _ ?_
    unfold nzS
    by_cases ha : AcE s.q a
    · rw [if_pos ha]
      intro e he
      rcases List.mem_append.1 he with he | he
      · exact h e he
      · simp only [List.mem_singleton] at he; rw [he]; rfl
    · rw [if_neg ha]; exact h
theorem ev_eqF (x : Ev) : eqF x.k x.f x.t x.v x.a ⟨x.d.toArray⟩ x.u x.k x.f x.t x.v x.a ⟨x.d.toArray⟩ x.u = true := by rw [elem_eqF, decide_eq_true rfl]

set_option maxRecDepth 100000 in
set_option maxHeartbeats 8000000 in
theorem law_inverts (l : List Ev) (V : Value) (w : World) (hT : EvArg w V l) (hl : l.length ≤ 140737488351232) (hd : ∀ j (h : j < l.length), l[j].d.length ≤ 140737488351232) :
    Calls Try.prog 12 #[V] w fun e w' => e = .returned (.bool true) ∧ Below w.heap.size w w' := by
  have CT := Lib.hid (fun W (hb : Below w.heap.size w W) => small16_any l V W (hT.keep hb) hl hd)
  have CA := Lib.hid awake_any
  have hTY := smL_iff l
  have HT := Lib.hid (fun W (hb : Below w.heap.size w W) => hT.keep hb)
  obtain ⟨A, c, rfl⟩ := hT.form
  clear hT
  cases ht : smL l
  · rw [ht] at CT
    clear ht hTY
    go_enter Try.func12, Try.ntmps12
    go_wp2_with (first
      | (go_at_call 32; go_must (refine (CT.out _ (Below.refl _ _)).mono ?_; rintro e1 w1 ⟨rfl, rfl⟩))
      | (go_at_call 33; go_must (refine (CA.out _).mono ?_; rintro e9 w9 ⟨rfl, b9⟩; have B9 := Lib.hid b9)))
    go_returns
    exact ⟨rfl, B9.out⟩
  obtain ⟨hl40, hd20⟩ := hTY.1 ht
  rw [ht] at CT
  clear ht hTY hl
  have CD := Lib.hid (fun z W (hb : Below w.heap.size w W) => decode_any z l (.slice A l.length c) W (HT.out W hb) (by omega) hd)
  have CU := Lib.hid (fun W (hb : Below w.heap.size w W) => turned_any l (.slice A l.length c) W (HT.out W hb) (by omega))
  have CE := Lib.hid (fun V W h => decode_any false (l.map tuE) V W h (by rw [List.length_map]; omega) (fun j hj => by rw [List.getElem_map, tuE_d]; exact hd j (by simpa using hj)))
  have hA := nzR_len false l
  have CV := Lib.hid (fun V W h => turned_any (nzR false l).o V W h (by omega))
  have CSm := Lib.hid (fun V V' W h2 h3 => same_any ((nzR false l).o.map tuE) V V' W h2 h3 (by rw [List.length_map]; omega))
  have hB := inverts_one l
  have hC := inverts_two l
  have CDt := Lib.hid (fun W hb => CD.out true W hb)
  have CDf := Lib.hid (fun W hb => CD.out false W hb)
  rw [hB] at CDt
  clear hB CD hd
  generalize (nzR false l).o = AL at *
  generalize (nzR false (l.map tuE)).o = CL at *
  have hlen : CL.length = AL.length := by
    rcases hC with ⟨h1, h2⟩ | ⟨e, r, h1, h2, _⟩ <;> rw [h1, h2] <;> rfl
  have hsame : Hid (∀ k (h1 : k < AL.length) (h2 : k < CL.length), 1 ≤ k → CL[k] = AL[k]) := Lib.hid (by
    intro k h1 h2 hk
    rcases hC with ⟨e1, e2⟩ | ⟨e, r, e1, e2, _⟩
    · subst e1; simp at h1
    · subst e1 e2
      obtain ⟨k, rfl⟩ : ∃ n, k = n + 1 := ⟨k - 1, by omega⟩
      rfl)
  have hzero : Hid (∀ (h1 : 0 < AL.length) (h2 : 0 < CL.length), AL[0].v = (1 : Int) - CL[0].v ∧ (-1 : Int) ≤ AL[0].v ∧ AL[0].v ≤ (1 : Int)) := Lib.hid (by
    intro h1 h2
    rcases hC with ⟨e1, e2⟩ | ⟨e, r, e1, e2, e3⟩
    · subst e1; simp at h1
    · subst e1 e2
      simp only [List.getElem_cons_zero]
      have : (tuE e).v = 1 - e.v := by unfold tuE; rw [if_pos e3]
      have := e3.2
      omega)
  clear hC
  have hal : (AL.length : Int) ≤ 40 := by omega
  have hcl : (CL.length : Int) = (AL.length : Int) := by omega
  have hce : ((AL.length : Int) != (CL.length : Int)) = false := by rw [hcl]; simp
  go_enter Try.func12, Try.ntmps12
  go_wp2_with (first
    | (go_at_call 32; go_must (refine (CT.out _ (Below.refl _ _)).mono ?_; rintro e1 w1 ⟨rfl, rfl⟩))
    | (go_at_call_of 41 (Value.agg #[Value.bool true]); go_must (refine (CDt.out _ B2.out).mono ?_; rintro e3 w3 ⟨v3, rfl, r3, b3⟩; obtain ⟨VA, VN, VC, rfl, hVN⟩ := r3.form; clear hVN; have R3 := Lib.hid (r3.arg evC_size); have R2' := Lib.hid (R2.out.keep b3); have B3 := Lib.hid (B2.out.trans (b3.mono B2.out.size)); clear r3 b3))
    | (go_at_call 41; first
        | (have tok := R4.out; clear tok; go_must (refine (CE.out _ _ R4.out).mono ?_; rintro e5 w5 ⟨v5, rfl, r5, b5⟩; obtain ⟨XA, XN, XC, rfl, hXN⟩ := r5.form; subst hXN; have R5 := Lib.hid (r5.arg evC_size); have R3'' := Lib.hid (R3'.out.keep b5); have R2''' := Lib.hid (R2''.out.keep b5); have B5 := Lib.hid (B4.out.trans (b5.mono B4.out.size)); clear r5 b5))
        | go_must (refine (CDf.out _ (Below.refl _ _)).mono ?_; rintro e2 w2 ⟨v2, rfl, r2, b2⟩; obtain ⟨UA, UN, UC, rfl, hUN⟩ := r2.form; subst hUN; have R2 := Lib.hid (r2.arg evC_size); have B2 := Lib.hid b2; clear r2 b2))
    | (go_at_call_of 48 (Value.slice A l.length c); go_must (refine (CU.out _ B3.out).mono ?_; rintro e4 w4 ⟨v4, rfl, r4, b4⟩; have R4 := Lib.hid (r4.arg evC_size); have R3' := Lib.hid (R3.out.keep b4); have R2'' := Lib.hid (R2'.out.keep b4); have B4 := Lib.hid (B3.out.trans (b4.mono B3.out.size)); clear r4 b4))
    | (go_at_call 48; go_must (refine (CV.out _ _ R2'''.out).mono ?_; rintro e6 w6 ⟨v6, rfl, r6, b6⟩; have R6 := Lib.hid (r6.arg evC_size); have Q3 := Lib.hid (R3''.out.keep b6); have Q2 := Lib.hid (R2'''.out.keep b6); have Q5 := Lib.hid (R5.out.keep b6); have B6 := Lib.hid (B5.out.trans (b6.mono B5.out.size)); clear r6 b6))
    | (go_at_call 38; go_must (refine (CSm.out _ _ _ R6.out Q3.out).mono ?_; rintro e7 w7 ⟨rfl, b7⟩; have P2 := Lib.hid (Q2.out.keep b7); have P5 := Lib.hid (Q5.out.keep b7); have B7 := Lib.hid (B6.out.trans (b7.mono B6.out.size)); clear b7)))
  clear CT CDf CDt CE CU CV CSm R6 R5 Q3 Q2 Q5 R4 R2 R3 R2' R3' R3'' R2'' R2''' B2 B3 B4 B5 B6 HT
  go_loopw [6] (fun i wr => ∃ (k m : Nat), 1 ≤ k ∧ (k ≤ AL.length ∨ k = 1) ∧ i = .int .i64 k ∧ wr = w7.drewN m) (fun i _ => AL.length - (intOf i).toNat)
  case atStart => exact ⟨1, 0, Nat.le_refl _, .inr rfl, rfl, rfl⟩
  case round =>
    obtain ⟨k, m, hk1, hk, rfl, rfl⟩ := hrel
    obtain ⟨A1, c1, e1, h1⟩ := P2.out
    obtain ⟨A2, c2, e2, h2⟩ := P5.out
    simp only [Value.slice.injEq] at e1 e2
    obtain ⟨rfl, _, rfl⟩ := e1
    obtain ⟨rfl, hcl2, rfl⟩ := e2
    clear hcl2
    have B8 := Lib.hid (Go.below_drewN B7.out m)
    by_cases hlt : k < AL.length
    · obtain ⟨g1, o1, rfl, hg1, hc1⟩ := h1 (by omega)
      obtain ⟨g2, o2, rfl, hg2, hc2⟩ := h2 (by omega)
      obtain ⟨a0, a1, a2, a3, a4, a5, a6⟩ := arg_seven hc1 k hlt
      have b := arg_seven hc2 k (by omega)
      rw [hsame.out k hlt (by omega) hk1] at b
      obtain ⟨b0, b1, b2, b3, b4, b5, b6⟩ := b
      have Q := fun W => neq_ev AL[k].k AL[k].f AL[k].t AL[k].v AL[k].a ⟨AL[k].d.toArray⟩ AL[k].u AL[k].k AL[k].f AL[k].t AL[k].v AL[k].a ⟨AL[k].d.toArray⟩ AL[k].u W
      rw [ev_eqF] at Q
      clear hc1 hc2 h1 h2
      generalize (⟨AL[k].d.toArray⟩ : ByteArray) = x5 at *
      generalize AL[k].k = x0 at *
      generalize AL[k].f = x1 at *
      generalize AL[k].t = x2 at *
      generalize AL[k].v = x3 at *
      generalize AL[k].a = x4 at *
      generalize AL[k].u = x6 at *
      have hcl3 : (k : Int) < (CL.length : Int) := by omega
      go_wp2
      go_quiet (fail)
      go_wp2
      go_roundw
      case rel => exact ⟨k + 1, m + nq, by omega, by omega, val_int (by omega), rfl⟩
      case measure => simp [intOf]; omega
    · by_cases h0 : AL.length = 0
      · obtain rfl : AL = [] := List.eq_nil_of_length_eq_zero h0
        have hk' : ¬ (k : Int) < 0 := by omega
        clear hsame hzero hk hcl hce h1 h2 h0 hlt hal hA hlen
        simp only [List.length_nil] at *
        generalize w7.drewN m = wr at *
        go_wp2
        have hB8 : Below w1.heap.size w1 wr.drew := B8.out.drew
        refine wp_region_held_drew (S := fun w' => Below w1.heap.size w1 w') (by kernel_rfl) hB8 (fun hH => ?_)
        refine wpAnyH_take (i := 0) (oi := { dst := some 48, op := Op.move (Operand.tmp 3), type := 36, pos := "law.go:146", after := #[], guard := none }) (v := ?_) rfl ?_ ?_ ?_ ?_ (Or.inl ⟨?_, ?_⟩) hH ?_
        rotate_left
        · kernel_rfl
        · kernel_rfl
        · kernel_rfl
        · exact fun _ _ _ h => h
        · kernel_rfl
        · intro wS hSw
          try dsimp only at hSw
          go_simp
          try with_reducible rfl
        try simp only [Act.put, List.setIfInBounds_toArray, List.set_cons_zero, List.set_cons_succ]
        refine wpAnyH_take (i := 1) (oi := { dst := some 49, op := Op.call { callee := Callee.builtin Builtin.len, args := #[Operand.tmp 48], argTypes := #[36] }, type := 3, pos := "law.go:146", after := #[{ on := 0, ground := Ground.data }], guard := none }) (v := ?_) rfl ?_ ?_ ?_ ?_ (Or.inl ⟨?_, ?_⟩) hH ?_
        rotate_left
        · kernel_rfl
        · kernel_rfl
        · kernel_rfl
        · exact fun _ _ _ h => h
        · kernel_rfl
        · intro wS hSw
          try dsimp only at hSw
          go_simp
          try with_reducible rfl
        try simp only [Act.put, List.setIfInBounds_toArray, List.set_cons_zero, List.set_cons_succ]
        refine wpAnyH_take (i := 2) (oi := { dst := some 50, op := Op.binOp BinOp.eql 3 (Operand.tmp 49) (Operand.const (Value.int IntKind.i64 0)) 3, type := 4, pos := "law.go:146", after := #[{ on := 1, ground := Ground.data }], guard := none }) (v := ?_) rfl ?_ ?_ ?_ ?_ (Or.inl ⟨?_, ?_⟩) hH ?_
        rotate_left
        · kernel_rfl
        · kernel_rfl
        · kernel_rfl
        · exact fun _ _ _ h => h
        · kernel_rfl
        · intro wS hSw
          try dsimp only at hSw
          go_simp
          try with_reducible rfl
        try simp only [Act.put, List.setIfInBounds_toArray, List.set_cons_zero, List.set_cons_succ]
        refine wpAnyH_take (i := 3) (oi := { dst := some 51, op := Op.move (Operand.tmp 50), type := 4, pos := "law.go:146", after := #[{ on := 2, ground := Ground.data }], guard := none }) (v := ?_) rfl ?_ ?_ ?_ ?_ (Or.inl ⟨?_, ?_⟩) hH ?_
        rotate_left
        · kernel_rfl
        · kernel_rfl
        · kernel_rfl
        · exact fun _ _ _ h => h
        · kernel_rfl
        · intro wS hSw
          try dsimp only at hSw
          go_simp
          try with_reducible rfl
        try simp only [Act.put, List.setIfInBounds_toArray, List.set_cons_zero, List.set_cons_succ]
        refine wpAnyH_take (i := 4) (oi := { dst := some 52, op := Op.move (Operand.tmp 3), type := 36, pos := "law.go:146", after := #[{ on := 3, ground := Ground.guard }], guard := some (3, false) }) (v := undef) rfl (by kernel_rfl) (by kernel_rfl) (by kernel_rfl) (fun _ _ _ h => h) (Or.inr ⟨by kernel_rfl, rfl⟩) hH ?_
        try simp only [Act.put, List.setIfInBounds_toArray, List.set_cons_zero, List.set_cons_succ]
        refine wpAnyH_take (i := 5) (oi := { dst := some 53, op := Op.indexAddr 36 (Operand.tmp 52) (Operand.const (Value.int IntKind.i64 0)), type := 0, pos := "law.go:146", after := #[{ on := 4, ground := Ground.data }, { on := 3, ground := Ground.guard }], guard := some (3, false) }) (v := undef) rfl (by kernel_rfl) (by kernel_rfl) (by kernel_rfl) (fun _ _ _ h => h) (Or.inr ⟨by kernel_rfl, rfl⟩) hH ?_
        try simp only [Act.put, List.setIfInBounds_toArray, List.set_cons_zero, List.set_cons_succ]
        refine wpAnyH_take (i := 6) (oi := { dst := some 54, op := Op.fieldAddr 44 (Operand.tmp 53) 3, type := 0, pos := "law.go:146", after := #[{ on := 5, ground := Ground.data }, { on := 3, ground := Ground.guard }], guard := some (3, false) }) (v := undef) rfl (by kernel_rfl) (by kernel_rfl) (by kernel_rfl) (fun _ _ _ h => h) (Or.inr ⟨by kernel_rfl, rfl⟩) hH ?_
        try simp only [Act.put, List.setIfInBounds_toArray, List.set_cons_zero, List.set_cons_succ]
        refine wpAnyH_take (i := 7) (oi := { dst := some 55, op := Op.load 3 (Operand.tmp 54), type := 3, pos := "law.go:146", after := #[{ on := 6, ground := Ground.data }, { on := 3, ground := Ground.guard }], guard := some (3, false) }) (v := undef) rfl (by kernel_rfl) (by kernel_rfl) (by kernel_rfl) (fun _ _ _ h => h) (Or.inr ⟨by kernel_rfl, rfl⟩) hH ?_
        try simp only [Act.put, List.setIfInBounds_toArray, List.set_cons_zero, List.set_cons_succ]
        refine wpAnyH_take (i := 8) (oi := { dst := some 56, op := Op.move (Operand.tmp 5), type := 36, pos := "law.go:146", after := #[{ on := 3, ground := Ground.guard }], guard := some (3, false) }) (v := undef) rfl (by kernel_rfl) (by kernel_rfl) (by kernel_rfl) (fun _ _ _ h => h) (Or.inr ⟨by kernel_rfl, rfl⟩) hH ?_
        try simp only [Act.put, List.setIfInBounds_toArray, List.set_cons_zero, List.set_cons_succ]
        refine wpAnyH_take (i := 9) (oi := { dst := some 57, op := Op.indexAddr 36 (Operand.tmp 56) (Operand.const (Value.int IntKind.i64 0)), type := 0, pos := "law.go:146", after := #[{ on := 8, ground := Ground.data }, { on := 3, ground := Ground.guard }], guard := some (3, false) }) (v := undef) rfl (by kernel_rfl) (by kernel_rfl) (by kernel_rfl) (fun _ _ _ h => h) (Or.inr ⟨by kernel_rfl, rfl⟩) hH ?_
        try simp only [Act.put, List.setIfInBounds_toArray, List.set_cons_zero, List.set_cons_succ]
        refine wpAnyH_take (i := 10) (oi := { dst := some 58, op := Op.fieldAddr 44 (Operand.tmp 57) 3, type := 0, pos := "law.go:146", after := #[{ on := 9, ground := Ground.data }, { on := 3, ground := Ground.guard }], guard := some (3, false) }) (v := undef) rfl (by kernel_rfl) (by kernel_rfl) (by kernel_rfl) (fun _ _ _ h => h) (Or.inr ⟨by kernel_rfl, rfl⟩) hH ?_
        try simp only [Act.put, List.setIfInBounds_toArray, List.set_cons_zero, List.set_cons_succ]
        refine wpAnyH_take (i := 11) (oi := { dst := some 59, op := Op.load 3 (Operand.tmp 58), type := 3, pos := "law.go:146", after := #[{ on := 10, ground := Ground.data }, { on := 3, ground := Ground.guard }], guard := some (3, false) }) (v := undef) rfl (by kernel_rfl) (by kernel_rfl) (by kernel_rfl) (fun _ _ _ h => h) (Or.inr ⟨by kernel_rfl, rfl⟩) hH ?_
        try simp only [Act.put, List.setIfInBounds_toArray, List.set_cons_zero, List.set_cons_succ]
        refine wpAnyH_take (i := 12) (oi := { dst := some 60, op := Op.binOp BinOp.sub 3 (Operand.const (Value.int IntKind.i64 1)) (Operand.tmp 59) 3, type := 3, pos := "law.go:146", after := #[{ on := 11, ground := Ground.data }, { on := 3, ground := Ground.guard }], guard := some (3, false) }) (v := undef) rfl (by kernel_rfl) (by kernel_rfl) (by kernel_rfl) (fun _ _ _ h => h) (Or.inr ⟨by kernel_rfl, rfl⟩) hH ?_
        try simp only [Act.put, List.setIfInBounds_toArray, List.set_cons_zero, List.set_cons_succ]
        refine wpAnyH_take (i := 13) (oi := { dst := some 61, op := Op.binOp BinOp.eql 3 (Operand.tmp 55) (Operand.tmp 60) 3, type := 4, pos := "law.go:146", after := #[{ on := 7, ground := Ground.data }, { on := 12, ground := Ground.data }, { on := 3, ground := Ground.guard }], guard := some (3, false) }) (v := undef) rfl (by kernel_rfl) (by kernel_rfl) (by kernel_rfl) (fun _ _ _ h => h) (Or.inr ⟨by kernel_rfl, rfl⟩) hH ?_
        try simp only [Act.put, List.setIfInBounds_toArray, List.set_cons_zero, List.set_cons_succ]
        refine wpAnyH_take (i := 14) (oi := { dst := some 62, op := Op.pick (Operand.tmp 51) (Operand.const (Value.bool true)) (Operand.tmp 61), type := 4, pos := "law.go:146", after := #[{ on := 3, ground := Ground.data }, { on := 13, ground := Ground.data }], guard := none }) (v := ?_) rfl ?_ ?_ ?_ ?_ (Or.inl ⟨?_, ?_⟩) hH ?_
        rotate_left
        · kernel_rfl
        · kernel_rfl
        · kernel_rfl
        · exact fun _ _ _ h => h
        · kernel_rfl
        · intro wS hSw
          try dsimp only at hSw
          go_simp
          try with_reducible rfl
        try simp only [Act.put, List.setIfInBounds_toArray, List.set_cons_zero, List.set_cons_succ]
        refine wpAnyH_take (i := 15) (oi := { dst := some 63, op := Op.move (Operand.tmp 62), type := 4, pos := "law.go:146", after := #[{ on := 14, ground := Ground.data }, { on := 3, ground := Ground.chain }], guard := none }) (v := ?_) rfl ?_ ?_ ?_ ?_ (Or.inl ⟨?_, ?_⟩) hH ?_
        rotate_left
        · kernel_rfl
        · kernel_rfl
        · kernel_rfl
        · exact fun _ _ _ h => h
        · kernel_rfl
        · intro wS hSw
          try dsimp only at hSw
          go_simp
          try with_reducible rfl
        try simp only [Act.put, List.setIfInBounds_toArray, List.set_cons_zero, List.set_cons_succ]
        refine wpAnyH_ready (rs := [16]) (by kernel_rfl) (by simp) ?_
        refine AllReadyH.cons (o := { dst := some 64, op := Op.call { callee := Callee.value (Operand.func 33), args := #[], argTypes := #[] }, type := 4, pos := "law.go:146", after := #[{ on := 15, ground := Ground.chain }, { on := 15, ground := Ground.guard }], guard := some (15, true) }) rfl (fun K hK => ?_) ?_
        rotate_left
        · exact AllReadyH.nil
        rw [if_pos (by kernel_rfl)]
        go_simp
        go_at_call 33
        refine (CA.out _).mono ?_
        rintro e9 w9 ⟨rfl, b9⟩
        refine hK.out _ _ (hB8.trans (b9.mono hB8.size)) (fun hH => ?_)
        try simp only [Act.put, List.setIfInBounds_toArray, List.set_cons_zero, List.set_cons_succ]
        refine wpAnyH_take (i := 17) (oi := { dst := some 65, op := Op.pick (Operand.tmp 63) (Operand.tmp 64) (Operand.const (Value.bool false)), type := 4, pos := "law.go:146", after := #[{ on := 15, ground := Ground.data }, { on := 16, ground := Ground.data }], guard := none }) (v := ?_) rfl ?_ ?_ ?_ ?_ (Or.inl ⟨?_, ?_⟩) hH ?_
        rotate_left
        · kernel_rfl
        · kernel_rfl
        · kernel_rfl
        · exact fun _ _ _ h => h
        · kernel_rfl
        · intro wS hSw
          try dsimp only at hSw
          go_simp
          try with_reducible rfl
        try simp only [Act.put, List.setIfInBounds_toArray, List.set_cons_zero, List.set_cons_succ]
        refine wpAnyH_take (i := 18) (oi := { dst := some 2, op := Op.assign (Operand.tmp 65), type := 4, pos := "law.go:146", after := #[{ on := 17, ground := Ground.data }, { on := 16, ground := Ground.chain }, { on := 0, ground := Ground.phase }, { on := 1, ground := Ground.phase }, { on := 2, ground := Ground.phase }, { on := 3, ground := Ground.phase }, { on := 4, ground := Ground.phase }, { on := 5, ground := Ground.phase }, { on := 6, ground := Ground.phase }, { on := 7, ground := Ground.phase }, { on := 8, ground := Ground.phase }, { on := 9, ground := Ground.phase }, { on := 10, ground := Ground.phase }, { on := 11, ground := Ground.phase }, { on := 12, ground := Ground.phase }, { on := 13, ground := Ground.phase }, { on := 14, ground := Ground.phase }, { on := 15, ground := Ground.phase }, { on := 16, ground := Ground.phase }, { on := 17, ground := Ground.phase }], guard := none }) (v := ?_) rfl ?_ ?_ ?_ ?_ (Or.inl ⟨?_, ?_⟩) hH ?_
        rotate_left
        · kernel_rfl
        · kernel_rfl
        · kernel_rfl
        · exact fun _ _ _ h => h
        · kernel_rfl
        · intro wS hSw
          try dsimp only at hSw
          go_simp
          try with_reducible rfl
        try simp only [Act.put, List.setIfInBounds_toArray, List.set_cons_zero, List.set_cons_succ]
        refine wpAnyH_done (by kernel_rfl) ?_ _
        have B9 := Lib.hid hH
        clear hH
        go_wp2
        go_returns
        exact ⟨rfl, B9.out⟩
      · have h0' : ((AL.length : Int) == 0) = false := by rw [beq_eq_false_iff_ne]; omega
        have p0 : 0 < AL.length := Nat.pos_of_ne_zero h0
        have p1 : 0 < CL.length := by rw [hlen]; exact p0
        obtain ⟨g1, o1, rfl, hg1, hc1⟩ := h1 p0
        obtain ⟨g2, o2, rfl, hg2, hc2⟩ := h2 p1
        clear h1 h2
        have a3 := (arg_seven hc1 0 p0).2.2.2.1
        have b3 := (arg_seven hc2 0 p1).2.2.2.1
        obtain ⟨v1, v2, v3⟩ := hzero.out p0 p1
        rw [v1] at a3
        simp only [Nat.zero_mul, Nat.add_zero] at a3 b3
        have hlt2 : (0 : Int) < (AL.length : Int) := by omega
        have hlt3 : (0 : Int) < (CL.length : Int) := by omega
        have hlt' : ¬ (k : Int) < (AL.length : Int) := by omega
        have x4 : (0 : Int) ≤ CL[0].v := by omega
        have x5 : CL[0].v ≤ (2 : Int) := by omega
        generalize CL[0].v = cv at *
        obtain ⟨av, hav⟩ : ∃ av, (1 : Int) - cv = av := ⟨_, rfl⟩
        rw [hav] at a3
        have w1' : -1 ≤ av := by omega
        have w2' : av ≤ 1 := by omega
        clear hc1 hc2 hsame hzero h0 hk v1 v2 v3 hcl hce hlen hA hlt p0 p1
        have hs : Hid (w7.cell? ⟨g1, o1 + 3, none⟩ = some (.int .i64 av) ∧ w7.cell? ⟨g2, o2 + 3, none⟩ = some (.int .i64 cv) ∧ Below w1.heap.size w1 w7) := Lib.hid ⟨a3, b3, B7.out⟩
        have hs2 : Hid ((w7.drewN m).drew.cell? ⟨g1, o1 + 3, none⟩ = some (.int .i64 av) ∧ (w7.drewN m).drew.cell? ⟨g2, o2 + 3, none⟩ = some (.int .i64 cv) ∧ Below w1.heap.size w1 (w7.drewN m).drew) := Lib.hid ⟨a3, b3, (Go.below_drewN B7.out m).drew⟩
        clear a3 b3 hg1 hg2
        have hw17 := B7.out.size
        have hN : 0 < AL.length := by omega
        generalize AL.length = N at *
        go_wp2
        have hwr : IntKind.i64.wrap av = av := IntWalk.i64_in _ (by omega)
        clear hlt2 hlt3 hlt' hk1 x4 x5 w1' w2' hal hw17
        go_region_held3 (fun w' => w'.cell? ⟨g1, o1 + 3, none⟩ = some (.int .i64 av) ∧ w'.cell? ⟨g2, o2 + 3, none⟩ = some (.int .i64 cv) ∧ Below w1.heap.size w1 w') (first | with_reducible assumption | exact hs2.out | fail)
          (first | (go_at_call 33; refine (CA.out _).mono ?_; rintro e9 w9 ⟨rfl, b9⟩; have h9 : w9.cell? ⟨g1, o1 + 3, none⟩ = some (.int .i64 av) ∧ w9.cell? ⟨g2, o2 + 3, none⟩ = some (.int .i64 cv) ∧ Below w1.heap.size w1 w9 := ⟨(b9.cell (World.block_lt_of_cell? _ ⟨g1, o1 + 3, none⟩ hs2.out.1)).trans hs2.out.1, (b9.cell (World.block_lt_of_cell? _ ⟨g2, o2 + 3, none⟩ hs2.out.2.1)).trans hs2.out.2.1, hs2.out.2.2.trans (b9.mono hs2.out.2.2.size)⟩) | fail)
        have B9 := Lib.hid h9.2.2
        clear h9
        go_wp2
        go_returns
        exact ⟨rfl, B9.out⟩

end Go.Proofs.Ytfbclbolkojjeaa
