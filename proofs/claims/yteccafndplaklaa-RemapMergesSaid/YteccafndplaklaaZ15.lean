/-
  The specification's Rename.
  The specification's Select.
-/
import Derived.Test.YteccafndplaklaaZ14
import Derived.Test.YteccafndplaklaaZ09
import Derived.Test.YteccafndplaklaaZ12
import Derived.Test.YteccafndplaklaaZ07
import Derived.Test.YteccafndplaklaaZ11
namespace Go.Proofs.Yteccafndplaklaa
open Go Go.RowKit Go.Joins
set_option linter.unusedVariables false
set_option linter.unusedSimpArgs false

theorem ck_one (s : ByteArray) : decide (ckC [s] [] = 0) = nmB s := by
  have h9 : dpT [s] [s].length = false := by unfold dpT has; simp
  cases h : nmB s with
  | false => exact decide_eq_false (by rw [ckC_n (by simp) (by rw [ckN_4 (by simp) (by simp) (by simp [h])]; decide), ckN_4 (by simp) (by simp) (by simp [h])]; decide)
  | true => exact decide_eq_true (ckC_0 (by simp) (ckN_0 (by simp) (by simp) (by simp [h]) h9) rfl)
theorem goodOne_any (s : ByteArray) (w : World) (hs : s.size ≤ 9223372036854775807) : Calls Try.prog 38 #[.agg #[.slice (some ⟨w.heap.size, 0, none⟩) 1 1, .slice none 0 0]] (w.alloc (.cells #[.string s] 9)) fun e w' => e = .returned (.bool (nmB s)) ∧ Below (w.alloc (.cells #[.string s] 9)).heap.size (w.alloc (.cells #[.string s] 9)) w' := by
  have h := good_any [s] [] _ _ (w.alloc (.cells #[.string s] 9)) (KRow.name (KRow.lit (T := 9) nmC_size w 0 (Nat.zero_le _) [s] #[.string s] rfl 1 rfl (by simp))) (fun x hx => by rcases List.mem_singleton.1 hx with rfl; exact hs) (rn_nil _) (by simp)
  rw [ck_one] at h
  exact h
theorem heldA12 {w W W' : World} {x0 x1 : Value} (h : W.cell? ⟨w.heap.size, 0, none⟩ = some x0 ∧ W.cell? ⟨w.heap.size, 1, none⟩ = some x1 ∧ Below w.heap.size w W ∧ w.heap.size + 2 ≤ W.heap.size) (hb : Below W.heap.size W W') :
    W'.cell? ⟨w.heap.size, 0, none⟩ = some x0 ∧ W'.cell? ⟨w.heap.size, 1, none⟩ = some x1 ∧ Below w.heap.size w W' ∧ w.heap.size + 2 ≤ W'.heap.size := by
  obtain ⟨h0, h1, h2, h3⟩ := h
  have := hb.size
  exact ⟨(hb.cell (p := ⟨w.heap.size, 0, none⟩) (show w.heap.size < _ by omega)).trans h0, (hb.cell (p := ⟨w.heap.size, 1, none⟩) (show w.heap.size < _ by omega)).trans h1, h2.trans (hb.mono h2.size), by omega⟩
theorem heldB12 {w W W' : World} {x0 x1 : Value} (h : W.cell? ⟨w.heap.size, 0, none⟩ = some x0 ∧ W.cell? ⟨w.heap.size, 1, none⟩ = some x1 ∧ Below w.heap.size w W ∧ w.heap.size + 2 ≤ W.heap.size) (hb : Below (w.heap.size + 2) W W') :
    W'.cell? ⟨w.heap.size, 0, none⟩ = some x0 ∧ W'.cell? ⟨w.heap.size, 1, none⟩ = some x1 ∧ Below w.heap.size w W' ∧ w.heap.size + 2 ≤ W'.heap.size := by
  obtain ⟨h0, h1, h2, h3⟩ := h
  have := hb.size
  exact ⟨(hb.cell (p := ⟨w.heap.size, 0, none⟩) (show w.heap.size < w.heap.size + 2 by omega)).trans h0, (hb.cell (p := ⟨w.heap.size, 1, none⟩) (show w.heap.size < w.heap.size + 2 by omega)).trans h1, h2.trans (hb.mono (by omega)), by omega⟩
theorem runs_apart {w : World} {B B' : Nat} {v u : Value} {l : List ByteArray} {R : List Rn} (h : NmRow w B v l) (h' : RnRow w B' u R) : ∀ k, u.ownBlock = some k → some k ≠ v.ownBlock := fun k hk e => names_apart h' h k e.symm hk.symm
theorem row_kept {w w' : World} {b : Nat} {T : TypeId} {cs : Array Value} {v : Value} (h : RowAt w b T cs) (ho : v.ownBlock ≠ some b) (hk : ∀ q, q < w.heap.size → some q ≠ v.ownBlock → w'.heap[q]? = w.heap[q]?) : RowAt w' b T cs := by
  have := hk b h.lt (fun e => ho e.symm)
  unfold RowAt at *
  rw [this]; exact h

set_option maxRecDepth 100000 in
set_option maxHeartbeats 16000000 in
theorem ren_region (N : List ByteArray) (R : List Rn) (A1 A2 : Option Addr) (c1 c2 : Nat) (w W : World) {Q : Exit → Act → World → Prop} (u0 u1 u2 u4 u5 u6 u7 u8 u9 u10 u11 u12 u13 u14 u15 u16 u17 u18 u19 u20 u21 u22 u23 u24 u25 u26 u27 u28 u29 u30 u31 u32 u33 u34 u35 u36 u37 u38 u39 u40 u41 u42 u43 u44 u45 u46 u47 u48 u49 u50 u51 u52 u53 u54 u55 u56 u57 : Value)
    (hPn : ∀ x (a : Act) (d : Nat) v W', Q (.panic x) (a.put (some d) v) W' → Q (.panic x) a W') (HNK : Hid (∀ w', Below w.heap.size w w' → NmArg w' (.slice A1 N.length c1) N)) (HRK : Hid (∀ w', Below w.heap.size w w' → RnArg w' (.slice A2 R.length c2) R)) (HLN : Hid (N.length ≤ 4096)) (HLR : Hid (R.length ≤ 16000)) (HN0' : Hid (0 < N.length))
    (S0 : Hid (W.drew.cell? ⟨w.heap.size, 0, none⟩ = some (.slice A1 N.length c1) ∧ W.drew.cell? ⟨w.heap.size, 1, none⟩ = some (.slice A2 R.length c2) ∧ Below w.heap.size w W.drew ∧ w.heap.size + 2 ≤ W.drew.heap.size)) (Q0d : Hid (RowAt W.drew (w.heap.size + 1) 25 #[.slice none 0 0, .slice none 0 0]))
    (hK : ∀ (gN UC : Nat) (VA : Option Addr) (VC bx : Nat) (x43 x44 x45 x46 x47 x48 x49 x50 x51 : Value) (W' : World), (W'.cell? ⟨w.heap.size, 0, none⟩ = some (.slice A1 N.length c1) ∧ W'.cell? ⟨w.heap.size, 1, none⟩ = some (.slice A2 R.length c2) ∧ Below w.heap.size w W' ∧ w.heap.size + 2 ≤ W'.heap.size) → RowAt W' (w.heap.size + 1) 25 #[.slice none 0 0, .slice none 0 0] → NmRow W' (w.heap.size + 2) (.slice (some ⟨gN, 0, none⟩) N.length UC) N → RnRow W' (w.heap.size + 2) (.slice VA R.length VC) R → RowAt W' bx 25 #[.slice (some ⟨gN, 0, none⟩) N.length UC, .slice VA R.length VC] → w.heap.size + 2 ≤ bx →
      Q .normal { tmps := #[u0, u1, u2, .pointer (some ⟨w.heap.size, 0, none⟩), u4, u5, u6, u7, u8, u9, u10, .pointer (some ⟨bx, 0, none⟩), u12, u13, u14, u15, u16, u17, u18, u19, u20, u21, u22, u23, u24, u25, u26, u27, u28, u29, u30, u31, u32, u33, u34, u35, u36, u37, u38, u39, u40, u41, u42, x43, x44, x45, x46, x47, x48, x49, x50, x51, u52, u53, u54, u55, u56, u57], defers := [] } W') :
    Code.wp Try.prog (Go.Code.region 12 #[{ dst := some 43, op := Go.Op.buildSlice 22 0 #[], type := 22, pos := "ref.go:63", after := #[], guard := none },
    { dst := some 44, op := Go.Op.fieldAddr 25 (Go.Operand.tmp 3) 0, type := 0, pos := "ref.go:63", after := #[], guard := none },
    { dst := some 45, op := Go.Op.load 22 (Go.Operand.tmp 44), type := 22, pos := "ref.go:63", after := #[{ on := 1, ground := Go.Ground.data }], guard := none },
    { dst := some 46, op := Go.Op.call { callee := Go.Callee.builtin Go.Builtin.append, args := #[Go.Operand.tmp 43, Go.Operand.tmp 45], argTypes := #[22, 22] }, type := 22, pos := "ref.go:63", after := #[{ on := 0, ground := Go.Ground.data }, { on := 2, ground := Go.Ground.data }], guard := none },
    { dst := some 47, op := Go.Op.buildSlice 23 0 #[], type := 23, pos := "ref.go:63", after := #[], guard := none },
    { dst := some 48, op := Go.Op.fieldAddr 25 (Go.Operand.tmp 3) 1, type := 0, pos := "ref.go:63", after := #[], guard := none },
    { dst := some 49, op := Go.Op.load 23 (Go.Operand.tmp 48), type := 23, pos := "ref.go:63", after := #[{ on := 5, ground := Go.Ground.data }], guard := none },
    { dst := some 50, op := Go.Op.call { callee := Go.Callee.builtin Go.Builtin.append, args := #[Go.Operand.tmp 47, Go.Operand.tmp 49], argTypes := #[23, 23] }, type := 23, pos := "ref.go:63", after := #[{ on := 4, ground := Go.Ground.data }, { on := 6, ground := Go.Ground.data }, { on := 3, ground := Go.Ground.chain }], guard := none },
    { dst := some 51, op := Go.Op.build 25 #[(0, Go.Operand.tmp 46), (1, Go.Operand.tmp 50)], type := 25, pos := "ref.go:63", after := #[{ on := 3, ground := Go.Ground.data }, { on := 7, ground := Go.Ground.data }], guard := none },
    { dst := some 11, op := Go.Op.alloc 25, type := 0, pos := "ref.go:63", after := #[], guard := none },
    { dst := none, op := Go.Op.store 25 (Go.Operand.tmp 11) (Go.Operand.tmp 51), type := 0, pos := "ref.go:63", after := #[{ on := 9, ground := Go.Ground.data }, { on := 8, ground := Go.Ground.data }, { on := 7, ground := Go.Ground.chain }, { on := 0, ground := Go.Ground.phase }, { on := 1, ground := Go.Ground.phase }, { on := 2, ground := Go.Ground.phase }, { on := 3, ground := Go.Ground.phase }, { on := 4, ground := Go.Ground.phase }, { on := 5, ground := Go.Ground.phase }, { on := 6, ground := Go.Ground.phase }, { on := 7, ground := Go.Ground.phase }, { on := 8, ground := Go.Ground.phase }, { on := 9, ground := Go.Ground.phase }], guard := none }] true) Q { tmps := #[u0, u1, u2, .pointer (some ⟨w.heap.size, 0, none⟩), u4, u5, u6, u7, u8, u9, u10, u11, u12, u13, u14, u15, u16, u17, u18, u19, u20, u21, u22, u23, u24, u25, u26, u27, u28, u29, u30, u31, u32, u33, u34, u35, u36, u37, u38, u39, u40, u41, u42, u43, u44, u45, u46, u47, u48, u49, u50, u51, u52, u53, u54, u55, u56, u57], defers := [] } W := by
  refine wp_region_held_drew (S := fun w' => w'.cell? ⟨w.heap.size, 0, none⟩ = some (.slice A1 N.length c1) ∧ w'.cell? ⟨w.heap.size, 1, none⟩ = some (.slice A2 R.length c2) ∧ Below w.heap.size w w' ∧ w.heap.size + 2 ≤ w'.heap.size) (by kernel_rfl) ?_ (fun hH => ?_)
  · exact S0.out
  generalize W.drew = WD at *
  refine wpAnyH_take (i := 1) (oi := { dst := some 44, op := Go.Op.fieldAddr 25 (Go.Operand.tmp 3) 0, type := 0, pos := "ref.go:63", after := #[], guard := none }) (v := ?_) rfl ?_ ?_ ?_ ?_ (Or.inl ⟨?_, ?_⟩) hH ?_
  rotate_left
  · kernel_rfl
  · kernel_rfl
  · kernel_rfl
  · exact fun _ _ _ h => hPn _ _ _ _ _ h
  · kernel_rfl
  · intro wS hSw
    try dsimp only at hSw
    go_simp
    try with_reducible rfl
  try simp only [Act.put, List.setIfInBounds_toArray, List.set_cons_zero, List.set_cons_succ]
  refine wpAnyH_take (i := 2) (oi := { dst := some 45, op := Go.Op.load 22 (Go.Operand.tmp 44), type := 22, pos := "ref.go:63", after := #[{ on := 1, ground := Go.Ground.data }], guard := none }) (v := ?_) rfl ?_ ?_ ?_ ?_ (Or.inl ⟨?_, ?_⟩) hH ?_
  rotate_left
  · kernel_rfl
  · kernel_rfl
  · kernel_rfl
  · exact fun _ _ _ h => hPn _ _ _ _ _ h
  · kernel_rfl
  · intro wS hSw
    try dsimp only at hSw
    go_simp
    try with_reducible rfl
  try simp only [Act.put, List.setIfInBounds_toArray, List.set_cons_zero, List.set_cons_succ]
  refine wpAnyH_take (i := 5) (oi := { dst := some 48, op := Go.Op.fieldAddr 25 (Go.Operand.tmp 3) 1, type := 0, pos := "ref.go:63", after := #[], guard := none }) (v := ?_) rfl ?_ ?_ ?_ ?_ (Or.inl ⟨?_, ?_⟩) hH ?_
  rotate_left
  · kernel_rfl
  · kernel_rfl
  · kernel_rfl
  · exact fun _ _ _ h => hPn _ _ _ _ _ h
  · kernel_rfl
  · intro wS hSw
    try dsimp only at hSw
    go_simp
    try with_reducible rfl
  try simp only [Act.put, List.setIfInBounds_toArray, List.set_cons_zero, List.set_cons_succ]
  refine wpAnyH_take (i := 6) (oi := { dst := some 49, op := Go.Op.load 23 (Go.Operand.tmp 48), type := 23, pos := "ref.go:63", after := #[{ on := 5, ground := Go.Ground.data }], guard := none }) (v := ?_) rfl ?_ ?_ ?_ ?_ (Or.inl ⟨?_, ?_⟩) hH ?_
  rotate_left
  · kernel_rfl
  · kernel_rfl
  · kernel_rfl
  · exact fun _ _ _ h => hPn _ _ _ _ _ h
  · kernel_rfl
  · intro wS hSw
    try dsimp only at hSw
    go_simp
    try with_reducible rfl
  try simp only [Act.put, List.setIfInBounds_toArray, List.set_cons_zero, List.set_cons_succ]
  refine wpAnyH_ready (rs := [0, 4, 9]) (by kernel_rfl) (by simp) ?_
  refine AllReadyH.cons (o := { dst := some 43, op := Go.Op.buildSlice 22 0 #[], type := 22, pos := "ref.go:63", after := #[], guard := none }) rfl (fun K hK => ?_) (AllReadyH.cons (o := { dst := some 47, op := Go.Op.buildSlice 23 0 #[], type := 23, pos := "ref.go:63", after := #[], guard := none }) rfl (fun K hK => ?_) (AllReadyH.cons (o := { dst := some 11, op := Go.Op.alloc 25, type := 0, pos := "ref.go:63", after := #[], guard := none }) rfl (fun K hK => ?_) AllReadyH.nil))
  · go_simp
    have S1 := Lib.hid (heldA12 S0.out (ba WD (.cells #[] 9)))
    have Q1 := Lib.hid (Q0d.out.alloc (.cells #[] 9))
    have N1 := Lib.hid (KRow.lit (T := 9) nmC_size WD (w.heap.size + 2) S0.out.2.2.2 [] #[] rfl 0 rfl (by decide))
    generalize WD.alloc (.cells #[] 9) = w1 at *
    refine hK.out _ _ ?_ (fun hH1 => ?_)
    · exact S1.out
    clear hK K hH
    try simp only [Act.put, List.setIfInBounds_toArray, List.set_cons_zero, List.set_cons_succ]
    refine wpAnyH_ready (rs := [3, 4, 9]) (by kernel_rfl) (by simp) ?_
    refine AllReadyH.cons (o := { dst := some 46, op := Go.Op.call { callee := Go.Callee.builtin Go.Builtin.append, args := #[Go.Operand.tmp 43, Go.Operand.tmp 45], argTypes := #[22, 22] }, type := 22, pos := "ref.go:63", after := #[{ on := 0, ground := Go.Ground.data }, { on := 2, ground := Go.Ground.data }], guard := none }) rfl (fun K hK => ?_) (AllReadyH.cons (o := { dst := some 47, op := Go.Op.buildSlice 23 0 #[], type := 23, pos := "ref.go:63", after := #[], guard := none }) rfl (fun K hK => ?_) (AllReadyH.cons (o := { dst := some 11, op := Go.Op.alloc 25, type := 0, pos := "ref.go:63", after := #[], guard := none }) rfl (fun K hK => ?_) AllReadyH.nil))
    · have A2 := Lib.hid (HNK.out _ S1.out.2.2.1)
      refine step_append_arg (enc := nmC) Try.underlying22 name_info rfl (by omega) nmC_size nmC_one rfl (.tmp 43) (.tmp 45) rfl rfl rfl N1.out A2.out.1 S1.out.2.2.2 (by have := HLN.out; simp; omega) (by have := HLN.out; simp; omega) ?_
      intro v2 w2 r2 b2 k2
      rw [List.nil_append] at r2
      obtain ⟨gN, UC, rfl⟩ := KRow.full r2 HN0'.out
      have S2 := Lib.hid (heldB12 S1.out b2)
      have Q2 := Lib.hid (Q1.out.below b2 (Nat.lt_succ_self _))
      have N2 := Lib.hid r2
      clear r2 b2 k2
      refine hK.out _ _ ?_ (fun hH2 => ?_)
      · exact S2.out
      clear hK K hH1
      try simp only [Act.put, List.setIfInBounds_toArray, List.set_cons_zero, List.set_cons_succ]
      refine wpAnyH_ready (rs := [4, 9]) (by kernel_rfl) (by simp) ?_
      refine AllReadyH.cons (o := { dst := some 47, op := Go.Op.buildSlice 23 0 #[], type := 23, pos := "ref.go:63", after := #[], guard := none }) rfl (fun K hK => ?_) (AllReadyH.cons (o := { dst := some 11, op := Go.Op.alloc 25, type := 0, pos := "ref.go:63", after := #[], guard := none }) rfl (fun K hK => ?_) AllReadyH.nil)
      · go_simp
        have S3 := Lib.hid (heldA12 S2.out (ba w2 (.cells #[] 48)))
        have Q3 := Lib.hid (Q2.out.alloc (.cells #[] 48))
        have N3 := Lib.hid (KRow.alloc N2.out (.cells #[] 48))
        have R3 := Lib.hid (KRow.lit (T := 48) rnC_size w2 (w.heap.size + 2) S2.out.2.2.2 [] #[] rfl 0 rfl (by decide))
        generalize w2.alloc (.cells #[] 48) = w3 at *
        refine hK.out _ _ ?_ (fun hH3 => ?_)
        · exact S3.out
        clear hK K hH2
        try simp only [Act.put, List.setIfInBounds_toArray, List.set_cons_zero, List.set_cons_succ]
        refine wpAnyH_ready (rs := [7, 9]) (by kernel_rfl) (by simp) ?_
        refine AllReadyH.cons (o := { dst := some 50, op := Go.Op.call { callee := Go.Callee.builtin Go.Builtin.append, args := #[Go.Operand.tmp 47, Go.Operand.tmp 49], argTypes := #[23, 23] }, type := 23, pos := "ref.go:63", after := #[{ on := 4, ground := Go.Ground.data }, { on := 6, ground := Go.Ground.data }, { on := 3, ground := Go.Ground.chain }], guard := none }) rfl (fun K hK => ?_) (AllReadyH.cons (o := { dst := some 11, op := Go.Op.alloc 25, type := 0, pos := "ref.go:63", after := #[], guard := none }) rfl (fun K hK => ?_) AllReadyH.nil)
        · have A4 := Lib.hid (HRK.out _ S3.out.2.2.1)
          refine step_append_arg (enc := rnC) Try.underlying23 run_info rfl (by omega) rnC_size rnC_one rfl (.tmp 47) (.tmp 49) rfl rfl rfl R3.out A4.out S3.out.2.2.2 (by have := HLR.out; simp; omega) (by have := HLR.out; simp; omega) ?_
          intro v4 w4 r4 b4 k4
          rw [List.nil_append] at r4
          obtain ⟨VA, VN, VC, rfl, hVN⟩ := KRow.form r4
          obtain rfl := hVN
          have S4 := Lib.hid (heldB12 S3.out b4)
          have Q4 := Lib.hid (Q3.out.below b4 (Nat.lt_succ_self _))
          have R4 := Lib.hid r4
          have N4 := Lib.hid (KRow.kept N3.out k4 (names_apart R3.out N3.out))
          clear r4 b4 k4
          refine hK.out _ _ ?_ (fun hH4 => ?_)
          · exact S4.out
          clear hK K hH3
          try simp only [Act.put, List.setIfInBounds_toArray, List.set_cons_zero, List.set_cons_succ]
          refine wpAnyH_take (i := 8) (oi := { dst := some 51, op := Go.Op.build 25 #[(0, Go.Operand.tmp 46), (1, Go.Operand.tmp 50)], type := 25, pos := "ref.go:63", after := #[{ on := 3, ground := Go.Ground.data }, { on := 7, ground := Go.Ground.data }], guard := none }) (v := ?_) rfl ?_ ?_ ?_ ?_ (Or.inl ⟨?_, ?_⟩) hH4 ?_
          rotate_left
          · kernel_rfl
          · kernel_rfl
          · kernel_rfl
          · exact fun _ _ _ h => hPn _ _ _ _ _ h
          · kernel_rfl
          · intro wS hSw
            try dsimp only at hSw
            go_simp
            try with_reducible rfl
          try simp only [Act.put, List.setIfInBounds_toArray, List.set_cons_zero, List.set_cons_succ]
          refine wpAnyH_ready (rs := [9]) (by kernel_rfl) (by simp) ?_
          refine AllReadyH.cons (o := { dst := some 11, op := Go.Op.alloc 25, type := 0, pos := "ref.go:63", after := #[], guard := none }) rfl (fun K hK => ?_) AllReadyH.nil
          · go_simp
            have S5 := Lib.hid (heldA12 S4.out (ba w4 (.cells #[.slice none 0 0, .slice none 0 0] 25)))
            have Q5 := Lib.hid (Q4.out.alloc (.cells #[.slice none 0 0, .slice none 0 0] 25))
            have N5 := Lib.hid (KRow.alloc N4.out (.cells #[.slice none 0 0, .slice none 0 0] 25))
            have R5 := Lib.hid (KRow.alloc R4.out (.cells #[.slice none 0 0, .slice none 0 0] 25))
            have X5 := Lib.hid (RowAt.new w4 25 #[.slice none 0 0, .slice none 0 0])
            have hgx : w.heap.size + 2 ≤ w4.heap.size := S4.out.2.2.2
            generalize w4.alloc (.cells #[.slice none 0 0, .slice none 0 0] 25) = w5 at *
            refine hK.out _ _ ?_ (fun hH5 => ?_)
            · exact S5.out
            clear hK K hH4
            try simp only [Act.put, List.setIfInBounds_toArray, List.set_cons_zero, List.set_cons_succ]
            refine wpAnyH_ready (rs := [10]) (by kernel_rfl) (by simp) ?_
            refine AllReadyH.cons (o := { dst := none, op := Go.Op.store 25 (Go.Operand.tmp 11) (Go.Operand.tmp 51), type := 0, pos := "ref.go:63", after := #[{ on := 9, ground := Go.Ground.data }, { on := 8, ground := Go.Ground.data }, { on := 7, ground := Go.Ground.chain }, { on := 0, ground := Go.Ground.phase }, { on := 1, ground := Go.Ground.phase }, { on := 2, ground := Go.Ground.phase }, { on := 3, ground := Go.Ground.phase }, { on := 4, ground := Go.Ground.phase }, { on := 5, ground := Go.Ground.phase }, { on := 6, ground := Go.Ground.phase }, { on := 7, ground := Go.Ground.phase }, { on := 8, ground := Go.Ground.phase }, { on := 9, ground := Go.Ground.phase }], guard := none }) rfl (fun K hK => ?_) AllReadyH.nil
            · refine step_store_at2 X5.out #[.slice (some ⟨gN, 0, none⟩) N.length UC, .slice VA R.length VC] (.tmp 11) (.tmp 51) 25 rfl rfl rfl rfl (by kernel_rfl) rfl rfl ?_
              intro w6 r6 b6 k6
              have S6 := Lib.hid (heldB12 S5.out (b6.mono hgx))
              have Q6 := Lib.hid (Q5.out.below (b6.mono hgx) (Nat.lt_succ_self _))
              have X6 := Lib.hid r6
              have N6 := Lib.hid (KRow.apart N5.out k6 (fun e => KRow.off N5.out X5.out (by decide) e))
              have R6 := Lib.hid (KRow.apart R5.out k6 (fun e => KRow.off R5.out X5.out (by decide) e))
              clear r6 b6 k6
              refine hK.out _ _ ?_ (fun hH6 => ?_)
              · exact S6.out
              clear hK K hH5
              try simp only [Act.put, List.setIfInBounds_toArray, List.set_cons_zero, List.set_cons_succ]
              refine wpAnyH_done (by kernel_rfl) ?_ _
              exact hK _ _ _ _ _ _ _ _ _ _ _ _ _ _ _ S6.out Q6.out N6.out R6.out X6.out hgx
        · go_simp
          have S7 := Lib.hid (heldA12 S3.out (ba w3 (.cells #[.slice none 0 0, .slice none 0 0] 25)))
          have Q7 := Lib.hid (Q3.out.alloc (.cells #[.slice none 0 0, .slice none 0 0] 25))
          have N7 := Lib.hid (KRow.alloc N3.out (.cells #[.slice none 0 0, .slice none 0 0] 25))
          have R7 := Lib.hid (KRow.alloc R3.out (.cells #[.slice none 0 0, .slice none 0 0] 25))
          have X7 := Lib.hid (RowAt.new w3 25 #[.slice none 0 0, .slice none 0 0])
          have hgx : w.heap.size + 2 ≤ w3.heap.size := S3.out.2.2.2
          generalize w3.alloc (.cells #[.slice none 0 0, .slice none 0 0] 25) = w7 at *
          refine hK.out _ _ ?_ (fun hH7 => ?_)
          · exact S7.out
          clear hK K hH3
          try simp only [Act.put, List.setIfInBounds_toArray, List.set_cons_zero, List.set_cons_succ]
          refine wpAnyH_ready (rs := [7]) (by kernel_rfl) (by simp) ?_
          refine AllReadyH.cons (o := { dst := some 50, op := Go.Op.call { callee := Go.Callee.builtin Go.Builtin.append, args := #[Go.Operand.tmp 47, Go.Operand.tmp 49], argTypes := #[23, 23] }, type := 23, pos := "ref.go:63", after := #[{ on := 4, ground := Go.Ground.data }, { on := 6, ground := Go.Ground.data }, { on := 3, ground := Go.Ground.chain }], guard := none }) rfl (fun K hK => ?_) AllReadyH.nil
          · have A8 := Lib.hid (HRK.out _ S7.out.2.2.1)
            refine step_append_arg (enc := rnC) Try.underlying23 run_info rfl (by omega) rnC_size rnC_one rfl (.tmp 47) (.tmp 49) rfl rfl rfl R7.out A8.out S7.out.2.2.2 (by have := HLR.out; simp; omega) (by have := HLR.out; simp; omega) ?_
            intro v8 w8 r8 b8 k8
            rw [List.nil_append] at r8
            obtain ⟨VA, VN, VC, rfl, hVN⟩ := KRow.form r8
            obtain rfl := hVN
            have S8 := Lib.hid (heldB12 S7.out b8)
            have Q8 := Lib.hid (Q7.out.below b8 (Nat.lt_succ_self _))
            have R8 := Lib.hid r8
            have N8 := Lib.hid (KRow.kept N7.out k8 (names_apart R7.out N7.out))
            have X8 := Lib.hid (row_kept X7.out (KRow.off R7.out X7.out (by decide)) k8)
            clear r8 b8 k8
            refine hK.out _ _ ?_ (fun hH8 => ?_)
            · exact S8.out
            clear hK K hH7
            try simp only [Act.put, List.setIfInBounds_toArray, List.set_cons_zero, List.set_cons_succ]
            refine wpAnyH_take (i := 8) (oi := { dst := some 51, op := Go.Op.build 25 #[(0, Go.Operand.tmp 46), (1, Go.Operand.tmp 50)], type := 25, pos := "ref.go:63", after := #[{ on := 3, ground := Go.Ground.data }, { on := 7, ground := Go.Ground.data }], guard := none }) (v := ?_) rfl ?_ ?_ ?_ ?_ (Or.inl ⟨?_, ?_⟩) hH8 ?_
            rotate_left
            · kernel_rfl
            · kernel_rfl
            · kernel_rfl
            · exact fun _ _ _ h => hPn _ _ _ _ _ h
            · kernel_rfl
            · intro wS hSw
              try dsimp only at hSw
              go_simp
              try with_reducible rfl
            try simp only [Act.put, List.setIfInBounds_toArray, List.set_cons_zero, List.set_cons_succ]
            refine wpAnyH_ready (rs := [10]) (by kernel_rfl) (by simp) ?_
            refine AllReadyH.cons (o := { dst := none, op := Go.Op.store 25 (Go.Operand.tmp 11) (Go.Operand.tmp 51), type := 0, pos := "ref.go:63", after := #[{ on := 9, ground := Go.Ground.data }, { on := 8, ground := Go.Ground.data }, { on := 7, ground := Go.Ground.chain }, { on := 0, ground := Go.Ground.phase }, { on := 1, ground := Go.Ground.phase }, { on := 2, ground := Go.Ground.phase }, { on := 3, ground := Go.Ground.phase }, { on := 4, ground := Go.Ground.phase }, { on := 5, ground := Go.Ground.phase }, { on := 6, ground := Go.Ground.phase }, { on := 7, ground := Go.Ground.phase }, { on := 8, ground := Go.Ground.phase }, { on := 9, ground := Go.Ground.phase }], guard := none }) rfl (fun K hK => ?_) AllReadyH.nil
            · refine step_store_at2 X8.out #[.slice (some ⟨gN, 0, none⟩) N.length UC, .slice VA R.length VC] (.tmp 11) (.tmp 51) 25 rfl rfl rfl rfl (by kernel_rfl) rfl rfl ?_
              intro w9 r9 b9 k9
              have S9 := Lib.hid (heldB12 S8.out (b9.mono hgx))
              have Q9 := Lib.hid (Q8.out.below (b9.mono hgx) (Nat.lt_succ_self _))
              have X9 := Lib.hid r9
              have N9 := Lib.hid (KRow.apart N8.out k9 (fun e => KRow.off N8.out X8.out (by decide) e))
              have R9 := Lib.hid (KRow.apart R8.out k9 (fun e => KRow.off R8.out X8.out (by decide) e))
              clear r9 b9 k9
              refine hK.out _ _ ?_ (fun hH9 => ?_)
              · exact S9.out
              clear hK K hH8
              try simp only [Act.put, List.setIfInBounds_toArray, List.set_cons_zero, List.set_cons_succ]
              refine wpAnyH_done (by kernel_rfl) ?_ _
              exact hK _ _ _ _ _ _ _ _ _ _ _ _ _ _ _ S9.out Q9.out N9.out R9.out X9.out hgx
      · go_simp
        have S10 := Lib.hid (heldA12 S2.out (ba w2 (.cells #[.slice none 0 0, .slice none 0 0] 25)))
        have Q10 := Lib.hid (Q2.out.alloc (.cells #[.slice none 0 0, .slice none 0 0] 25))
        have N10 := Lib.hid (KRow.alloc N2.out (.cells #[.slice none 0 0, .slice none 0 0] 25))
        have X10 := Lib.hid (RowAt.new w2 25 #[.slice none 0 0, .slice none 0 0])
        have hgx : w.heap.size + 2 ≤ w2.heap.size := S2.out.2.2.2
        generalize w2.alloc (.cells #[.slice none 0 0, .slice none 0 0] 25) = w10 at *
        refine hK.out _ _ ?_ (fun hH10 => ?_)
        · exact S10.out
        clear hK K hH2
        try simp only [Act.put, List.setIfInBounds_toArray, List.set_cons_zero, List.set_cons_succ]
        refine wpAnyH_ready (rs := [4]) (by kernel_rfl) (by simp) ?_
        refine AllReadyH.cons (o := { dst := some 47, op := Go.Op.buildSlice 23 0 #[], type := 23, pos := "ref.go:63", after := #[], guard := none }) rfl (fun K hK => ?_) AllReadyH.nil
        · go_simp
          have S11 := Lib.hid (heldA12 S10.out (ba w10 (.cells #[] 48)))
          have Q11 := Lib.hid (Q10.out.alloc (.cells #[] 48))
          have N11 := Lib.hid (KRow.alloc N10.out (.cells #[] 48))
          have X11 := Lib.hid (X10.out.alloc (.cells #[] 48))
          have R11 := Lib.hid (KRow.lit (T := 48) rnC_size w10 (w.heap.size + 2) S10.out.2.2.2 [] #[] rfl 0 rfl (by decide))
          generalize w10.alloc (.cells #[] 48) = w11 at *
          refine hK.out _ _ ?_ (fun hH11 => ?_)
          · exact S11.out
          clear hK K hH10
          try simp only [Act.put, List.setIfInBounds_toArray, List.set_cons_zero, List.set_cons_succ]
          refine wpAnyH_ready (rs := [7]) (by kernel_rfl) (by simp) ?_
          refine AllReadyH.cons (o := { dst := some 50, op := Go.Op.call { callee := Go.Callee.builtin Go.Builtin.append, args := #[Go.Operand.tmp 47, Go.Operand.tmp 49], argTypes := #[23, 23] }, type := 23, pos := "ref.go:63", after := #[{ on := 4, ground := Go.Ground.data }, { on := 6, ground := Go.Ground.data }, { on := 3, ground := Go.Ground.chain }], guard := none }) rfl (fun K hK => ?_) AllReadyH.nil
          · have A12 := Lib.hid (HRK.out _ S11.out.2.2.1)
            refine step_append_arg (enc := rnC) Try.underlying23 run_info rfl (by omega) rnC_size rnC_one rfl (.tmp 47) (.tmp 49) rfl rfl rfl R11.out A12.out S11.out.2.2.2 (by have := HLR.out; simp; omega) (by have := HLR.out; simp; omega) ?_
            intro v12 w12 r12 b12 k12
            rw [List.nil_append] at r12
            obtain ⟨VA, VN, VC, rfl, hVN⟩ := KRow.form r12
            obtain rfl := hVN
            have S12 := Lib.hid (heldB12 S11.out b12)
            have Q12 := Lib.hid (Q11.out.below b12 (Nat.lt_succ_self _))
            have R12 := Lib.hid r12
            have N12 := Lib.hid (KRow.kept N11.out k12 (names_apart R11.out N11.out))
            have X12 := Lib.hid (row_kept X11.out (KRow.off R11.out X11.out (by decide)) k12)
            clear r12 b12 k12
            refine hK.out _ _ ?_ (fun hH12 => ?_)
            · exact S12.out
            clear hK K hH11
            try simp only [Act.put, List.setIfInBounds_toArray, List.set_cons_zero, List.set_cons_succ]
            refine wpAnyH_take (i := 8) (oi := { dst := some 51, op := Go.Op.build 25 #[(0, Go.Operand.tmp 46), (1, Go.Operand.tmp 50)], type := 25, pos := "ref.go:63", after := #[{ on := 3, ground := Go.Ground.data }, { on := 7, ground := Go.Ground.data }], guard := none }) (v := ?_) rfl ?_ ?_ ?_ ?_ (Or.inl ⟨?_, ?_⟩) hH12 ?_
            rotate_left
            · kernel_rfl
            · kernel_rfl
            · kernel_rfl
            · exact fun _ _ _ h => hPn _ _ _ _ _ h
            · kernel_rfl
            · intro wS hSw
              try dsimp only at hSw
              go_simp
              try with_reducible rfl
            try simp only [Act.put, List.setIfInBounds_toArray, List.set_cons_zero, List.set_cons_succ]
            refine wpAnyH_ready (rs := [10]) (by kernel_rfl) (by simp) ?_
            refine AllReadyH.cons (o := { dst := none, op := Go.Op.store 25 (Go.Operand.tmp 11) (Go.Operand.tmp 51), type := 0, pos := "ref.go:63", after := #[{ on := 9, ground := Go.Ground.data }, { on := 8, ground := Go.Ground.data }, { on := 7, ground := Go.Ground.chain }, { on := 0, ground := Go.Ground.phase }, { on := 1, ground := Go.Ground.phase }, { on := 2, ground := Go.Ground.phase }, { on := 3, ground := Go.Ground.phase }, { on := 4, ground := Go.Ground.phase }, { on := 5, ground := Go.Ground.phase }, { on := 6, ground := Go.Ground.phase }, { on := 7, ground := Go.Ground.phase }, { on := 8, ground := Go.Ground.phase }, { on := 9, ground := Go.Ground.phase }], guard := none }) rfl (fun K hK => ?_) AllReadyH.nil
            · refine step_store_at2 X12.out #[.slice (some ⟨gN, 0, none⟩) N.length UC, .slice VA R.length VC] (.tmp 11) (.tmp 51) 25 rfl rfl rfl rfl (by kernel_rfl) rfl rfl ?_
              intro w13 r13 b13 k13
              have S13 := Lib.hid (heldB12 S12.out (b13.mono hgx))
              have Q13 := Lib.hid (Q12.out.below (b13.mono hgx) (Nat.lt_succ_self _))
              have X13 := Lib.hid r13
              have N13 := Lib.hid (KRow.apart N12.out k13 (fun e => KRow.off N12.out X12.out (by decide) e))
              have R13 := Lib.hid (KRow.apart R12.out k13 (fun e => KRow.off R12.out X12.out (by decide) e))
              clear r13 b13 k13
              refine hK.out _ _ ?_ (fun hH13 => ?_)
              · exact S13.out
              clear hK K hH12
              try simp only [Act.put, List.setIfInBounds_toArray, List.set_cons_zero, List.set_cons_succ]
              refine wpAnyH_done (by kernel_rfl) ?_ _
              exact hK _ _ _ _ _ _ _ _ _ _ _ _ _ _ _ S13.out Q13.out N13.out R13.out X13.out hgx
    · go_simp
      have S14 := Lib.hid (heldA12 S1.out (ba w1 (.cells #[] 48)))
      have Q14 := Lib.hid (Q1.out.alloc (.cells #[] 48))
      have N14 := Lib.hid (KRow.alloc N1.out (.cells #[] 48))
      have R14 := Lib.hid (KRow.lit (T := 48) rnC_size w1 (w.heap.size + 2) S1.out.2.2.2 [] #[] rfl 0 rfl (by decide))
      generalize w1.alloc (.cells #[] 48) = w14 at *
      refine hK.out _ _ ?_ (fun hH14 => ?_)
      · exact S14.out
      clear hK K hH1
      try simp only [Act.put, List.setIfInBounds_toArray, List.set_cons_zero, List.set_cons_succ]
      refine wpAnyH_ready (rs := [3, 9]) (by kernel_rfl) (by simp) ?_
      refine AllReadyH.cons (o := { dst := some 46, op := Go.Op.call { callee := Go.Callee.builtin Go.Builtin.append, args := #[Go.Operand.tmp 43, Go.Operand.tmp 45], argTypes := #[22, 22] }, type := 22, pos := "ref.go:63", after := #[{ on := 0, ground := Go.Ground.data }, { on := 2, ground := Go.Ground.data }], guard := none }) rfl (fun K hK => ?_) (AllReadyH.cons (o := { dst := some 11, op := Go.Op.alloc 25, type := 0, pos := "ref.go:63", after := #[], guard := none }) rfl (fun K hK => ?_) AllReadyH.nil)
      · have A15 := Lib.hid (HNK.out _ S14.out.2.2.1)
        refine step_append_arg (enc := nmC) Try.underlying22 name_info rfl (by omega) nmC_size nmC_one rfl (.tmp 43) (.tmp 45) rfl rfl rfl N14.out A15.out.1 S14.out.2.2.2 (by have := HLN.out; simp; omega) (by have := HLN.out; simp; omega) ?_
        intro v15 w15 r15 b15 k15
        rw [List.nil_append] at r15
        obtain ⟨gN, UC, rfl⟩ := KRow.full r15 HN0'.out
        have S15 := Lib.hid (heldB12 S14.out b15)
        have Q15 := Lib.hid (Q14.out.below b15 (Nat.lt_succ_self _))
        have N15 := Lib.hid r15
        have R15 := Lib.hid (KRow.kept R14.out k15 (runs_apart N14.out R14.out))
        clear r15 b15 k15
        refine hK.out _ _ ?_ (fun hH15 => ?_)
        · exact S15.out
        clear hK K hH14
        try simp only [Act.put, List.setIfInBounds_toArray, List.set_cons_zero, List.set_cons_succ]
        refine wpAnyH_ready (rs := [7, 9]) (by kernel_rfl) (by simp) ?_
        refine AllReadyH.cons (o := { dst := some 50, op := Go.Op.call { callee := Go.Callee.builtin Go.Builtin.append, args := #[Go.Operand.tmp 47, Go.Operand.tmp 49], argTypes := #[23, 23] }, type := 23, pos := "ref.go:63", after := #[{ on := 4, ground := Go.Ground.data }, { on := 6, ground := Go.Ground.data }, { on := 3, ground := Go.Ground.chain }], guard := none }) rfl (fun K hK => ?_) (AllReadyH.cons (o := { dst := some 11, op := Go.Op.alloc 25, type := 0, pos := "ref.go:63", after := #[], guard := none }) rfl (fun K hK => ?_) AllReadyH.nil)
        · have A16 := Lib.hid (HRK.out _ S15.out.2.2.1)
          refine step_append_arg (enc := rnC) Try.underlying23 run_info rfl (by omega) rnC_size rnC_one rfl (.tmp 47) (.tmp 49) rfl rfl rfl R15.out A16.out S15.out.2.2.2 (by have := HLR.out; simp; omega) (by have := HLR.out; simp; omega) ?_
          intro v16 w16 r16 b16 k16
          rw [List.nil_append] at r16
          obtain ⟨VA, VN, VC, rfl, hVN⟩ := KRow.form r16
          obtain rfl := hVN
          have S16 := Lib.hid (heldB12 S15.out b16)
          have Q16 := Lib.hid (Q15.out.below b16 (Nat.lt_succ_self _))
          have R16 := Lib.hid r16
          have N16 := Lib.hid (KRow.kept N15.out k16 (names_apart R15.out N15.out))
          clear r16 b16 k16
          refine hK.out _ _ ?_ (fun hH16 => ?_)
          · exact S16.out
          clear hK K hH15
          try simp only [Act.put, List.setIfInBounds_toArray, List.set_cons_zero, List.set_cons_succ]
          refine wpAnyH_take (i := 8) (oi := { dst := some 51, op := Go.Op.build 25 #[(0, Go.Operand.tmp 46), (1, Go.Operand.tmp 50)], type := 25, pos := "ref.go:63", after := #[{ on := 3, ground := Go.Ground.data }, { on := 7, ground := Go.Ground.data }], guard := none }) (v := ?_) rfl ?_ ?_ ?_ ?_ (Or.inl ⟨?_, ?_⟩) hH16 ?_
          rotate_left
          · kernel_rfl
          · kernel_rfl
          · kernel_rfl
          · exact fun _ _ _ h => hPn _ _ _ _ _ h
          · kernel_rfl
          · intro wS hSw
            try dsimp only at hSw
            go_simp
            try with_reducible rfl
          try simp only [Act.put, List.setIfInBounds_toArray, List.set_cons_zero, List.set_cons_succ]
          refine wpAnyH_ready (rs := [9]) (by kernel_rfl) (by simp) ?_
          refine AllReadyH.cons (o := { dst := some 11, op := Go.Op.alloc 25, type := 0, pos := "ref.go:63", after := #[], guard := none }) rfl (fun K hK => ?_) AllReadyH.nil
          · go_simp
            have S17 := Lib.hid (heldA12 S16.out (ba w16 (.cells #[.slice none 0 0, .slice none 0 0] 25)))
            have Q17 := Lib.hid (Q16.out.alloc (.cells #[.slice none 0 0, .slice none 0 0] 25))
            have N17 := Lib.hid (KRow.alloc N16.out (.cells #[.slice none 0 0, .slice none 0 0] 25))
            have R17 := Lib.hid (KRow.alloc R16.out (.cells #[.slice none 0 0, .slice none 0 0] 25))
            have X17 := Lib.hid (RowAt.new w16 25 #[.slice none 0 0, .slice none 0 0])
            have hgx : w.heap.size + 2 ≤ w16.heap.size := S16.out.2.2.2
            generalize w16.alloc (.cells #[.slice none 0 0, .slice none 0 0] 25) = w17 at *
            refine hK.out _ _ ?_ (fun hH17 => ?_)
            · exact S17.out
            clear hK K hH16
            try simp only [Act.put, List.setIfInBounds_toArray, List.set_cons_zero, List.set_cons_succ]
            refine wpAnyH_ready (rs := [10]) (by kernel_rfl) (by simp) ?_
            refine AllReadyH.cons (o := { dst := none, op := Go.Op.store 25 (Go.Operand.tmp 11) (Go.Operand.tmp 51), type := 0, pos := "ref.go:63", after := #[{ on := 9, ground := Go.Ground.data }, { on := 8, ground := Go.Ground.data }, { on := 7, ground := Go.Ground.chain }, { on := 0, ground := Go.Ground.phase }, { on := 1, ground := Go.Ground.phase }, { on := 2, ground := Go.Ground.phase }, { on := 3, ground := Go.Ground.phase }, { on := 4, ground := Go.Ground.phase }, { on := 5, ground := Go.Ground.phase }, { on := 6, ground := Go.Ground.phase }, { on := 7, ground := Go.Ground.phase }, { on := 8, ground := Go.Ground.phase }, { on := 9, ground := Go.Ground.phase }], guard := none }) rfl (fun K hK => ?_) AllReadyH.nil
            · refine step_store_at2 X17.out #[.slice (some ⟨gN, 0, none⟩) N.length UC, .slice VA R.length VC] (.tmp 11) (.tmp 51) 25 rfl rfl rfl rfl (by kernel_rfl) rfl rfl ?_
              intro w18 r18 b18 k18
              have S18 := Lib.hid (heldB12 S17.out (b18.mono hgx))
              have Q18 := Lib.hid (Q17.out.below (b18.mono hgx) (Nat.lt_succ_self _))
              have X18 := Lib.hid r18
              have N18 := Lib.hid (KRow.apart N17.out k18 (fun e => KRow.off N17.out X17.out (by decide) e))
              have R18 := Lib.hid (KRow.apart R17.out k18 (fun e => KRow.off R17.out X17.out (by decide) e))
              clear r18 b18 k18
              refine hK.out _ _ ?_ (fun hH18 => ?_)
              · exact S18.out
              clear hK K hH17
              try simp only [Act.put, List.setIfInBounds_toArray, List.set_cons_zero, List.set_cons_succ]
              refine wpAnyH_done (by kernel_rfl) ?_ _
              exact hK _ _ _ _ _ _ _ _ _ _ _ _ _ _ _ S18.out Q18.out N18.out R18.out X18.out hgx
        · go_simp
          have S19 := Lib.hid (heldA12 S15.out (ba w15 (.cells #[.slice none 0 0, .slice none 0 0] 25)))
          have Q19 := Lib.hid (Q15.out.alloc (.cells #[.slice none 0 0, .slice none 0 0] 25))
          have N19 := Lib.hid (KRow.alloc N15.out (.cells #[.slice none 0 0, .slice none 0 0] 25))
          have R19 := Lib.hid (KRow.alloc R15.out (.cells #[.slice none 0 0, .slice none 0 0] 25))
          have X19 := Lib.hid (RowAt.new w15 25 #[.slice none 0 0, .slice none 0 0])
          have hgx : w.heap.size + 2 ≤ w15.heap.size := S15.out.2.2.2
          generalize w15.alloc (.cells #[.slice none 0 0, .slice none 0 0] 25) = w19 at *
          refine hK.out _ _ ?_ (fun hH19 => ?_)
          · exact S19.out
          clear hK K hH15
          try simp only [Act.put, List.setIfInBounds_toArray, List.set_cons_zero, List.set_cons_succ]
          refine wpAnyH_ready (rs := [7]) (by kernel_rfl) (by simp) ?_
          refine AllReadyH.cons (o := { dst := some 50, op := Go.Op.call { callee := Go.Callee.builtin Go.Builtin.append, args := #[Go.Operand.tmp 47, Go.Operand.tmp 49], argTypes := #[23, 23] }, type := 23, pos := "ref.go:63", after := #[{ on := 4, ground := Go.Ground.data }, { on := 6, ground := Go.Ground.data }, { on := 3, ground := Go.Ground.chain }], guard := none }) rfl (fun K hK => ?_) AllReadyH.nil
          · have A20 := Lib.hid (HRK.out _ S19.out.2.2.1)
            refine step_append_arg (enc := rnC) Try.underlying23 run_info rfl (by omega) rnC_size rnC_one rfl (.tmp 47) (.tmp 49) rfl rfl rfl R19.out A20.out S19.out.2.2.2 (by have := HLR.out; simp; omega) (by have := HLR.out; simp; omega) ?_
            intro v20 w20 r20 b20 k20
            rw [List.nil_append] at r20
            obtain ⟨VA, VN, VC, rfl, hVN⟩ := KRow.form r20
            obtain rfl := hVN
            have S20 := Lib.hid (heldB12 S19.out b20)
            have Q20 := Lib.hid (Q19.out.below b20 (Nat.lt_succ_self _))
            have R20 := Lib.hid r20
            have N20 := Lib.hid (KRow.kept N19.out k20 (names_apart R19.out N19.out))
            have X20 := Lib.hid (row_kept X19.out (KRow.off R19.out X19.out (by decide)) k20)
            clear r20 b20 k20
            refine hK.out _ _ ?_ (fun hH20 => ?_)
            · exact S20.out
            clear hK K hH19
            try simp only [Act.put, List.setIfInBounds_toArray, List.set_cons_zero, List.set_cons_succ]
            refine wpAnyH_take (i := 8) (oi := { dst := some 51, op := Go.Op.build 25 #[(0, Go.Operand.tmp 46), (1, Go.Operand.tmp 50)], type := 25, pos := "ref.go:63", after := #[{ on := 3, ground := Go.Ground.data }, { on := 7, ground := Go.Ground.data }], guard := none }) (v := ?_) rfl ?_ ?_ ?_ ?_ (Or.inl ⟨?_, ?_⟩) hH20 ?_
            rotate_left
            · kernel_rfl
            · kernel_rfl
            · kernel_rfl
            · exact fun _ _ _ h => hPn _ _ _ _ _ h
            · kernel_rfl
            · intro wS hSw
              try dsimp only at hSw
              go_simp
              try with_reducible rfl
            try simp only [Act.put, List.setIfInBounds_toArray, List.set_cons_zero, List.set_cons_succ]
            refine wpAnyH_ready (rs := [10]) (by kernel_rfl) (by simp) ?_
            refine AllReadyH.cons (o := { dst := none, op := Go.Op.store 25 (Go.Operand.tmp 11) (Go.Operand.tmp 51), type := 0, pos := "ref.go:63", after := #[{ on := 9, ground := Go.Ground.data }, { on := 8, ground := Go.Ground.data }, { on := 7, ground := Go.Ground.chain }, { on := 0, ground := Go.Ground.phase }, { on := 1, ground := Go.Ground.phase }, { on := 2, ground := Go.Ground.phase }, { on := 3, ground := Go.Ground.phase }, { on := 4, ground := Go.Ground.phase }, { on := 5, ground := Go.Ground.phase }, { on := 6, ground := Go.Ground.phase }, { on := 7, ground := Go.Ground.phase }, { on := 8, ground := Go.Ground.phase }, { on := 9, ground := Go.Ground.phase }], guard := none }) rfl (fun K hK => ?_) AllReadyH.nil
            · refine step_store_at2 X20.out #[.slice (some ⟨gN, 0, none⟩) N.length UC, .slice VA R.length VC] (.tmp 11) (.tmp 51) 25 rfl rfl rfl rfl (by kernel_rfl) rfl rfl ?_
              intro w21 r21 b21 k21
              have S21 := Lib.hid (heldB12 S20.out (b21.mono hgx))
              have Q21 := Lib.hid (Q20.out.below (b21.mono hgx) (Nat.lt_succ_self _))
              have X21 := Lib.hid r21
              have N21 := Lib.hid (KRow.apart N20.out k21 (fun e => KRow.off N20.out X20.out (by decide) e))
              have R21 := Lib.hid (KRow.apart R20.out k21 (fun e => KRow.off R20.out X20.out (by decide) e))
              clear r21 b21 k21
              refine hK.out _ _ ?_ (fun hH21 => ?_)
              · exact S21.out
              clear hK K hH20
              try simp only [Act.put, List.setIfInBounds_toArray, List.set_cons_zero, List.set_cons_succ]
              refine wpAnyH_done (by kernel_rfl) ?_ _
              exact hK _ _ _ _ _ _ _ _ _ _ _ _ _ _ _ S21.out Q21.out N21.out R21.out X21.out hgx
      · go_simp
        have S22 := Lib.hid (heldA12 S14.out (ba w14 (.cells #[.slice none 0 0, .slice none 0 0] 25)))
        have Q22 := Lib.hid (Q14.out.alloc (.cells #[.slice none 0 0, .slice none 0 0] 25))
        have N22 := Lib.hid (KRow.alloc N14.out (.cells #[.slice none 0 0, .slice none 0 0] 25))
        have R22 := Lib.hid (KRow.alloc R14.out (.cells #[.slice none 0 0, .slice none 0 0] 25))
        have X22 := Lib.hid (RowAt.new w14 25 #[.slice none 0 0, .slice none 0 0])
        have hgx : w.heap.size + 2 ≤ w14.heap.size := S14.out.2.2.2
        generalize w14.alloc (.cells #[.slice none 0 0, .slice none 0 0] 25) = w22 at *
        refine hK.out _ _ ?_ (fun hH22 => ?_)
        · exact S22.out
        clear hK K hH14
        try simp only [Act.put, List.setIfInBounds_toArray, List.set_cons_zero, List.set_cons_succ]
        refine wpAnyH_ready (rs := [3]) (by kernel_rfl) (by simp) ?_
        refine AllReadyH.cons (o := { dst := some 46, op := Go.Op.call { callee := Go.Callee.builtin Go.Builtin.append, args := #[Go.Operand.tmp 43, Go.Operand.tmp 45], argTypes := #[22, 22] }, type := 22, pos := "ref.go:63", after := #[{ on := 0, ground := Go.Ground.data }, { on := 2, ground := Go.Ground.data }], guard := none }) rfl (fun K hK => ?_) AllReadyH.nil
        · have A23 := Lib.hid (HNK.out _ S22.out.2.2.1)
          refine step_append_arg (enc := nmC) Try.underlying22 name_info rfl (by omega) nmC_size nmC_one rfl (.tmp 43) (.tmp 45) rfl rfl rfl N22.out A23.out.1 S22.out.2.2.2 (by have := HLN.out; simp; omega) (by have := HLN.out; simp; omega) ?_
          intro v23 w23 r23 b23 k23
          rw [List.nil_append] at r23
          obtain ⟨gN, UC, rfl⟩ := KRow.full r23 HN0'.out
          have S23 := Lib.hid (heldB12 S22.out b23)
          have Q23 := Lib.hid (Q22.out.below b23 (Nat.lt_succ_self _))
          have N23 := Lib.hid r23
          have R23 := Lib.hid (KRow.kept R22.out k23 (runs_apart N22.out R22.out))
          have X23 := Lib.hid (row_kept X22.out (KRow.off N22.out X22.out (by decide)) k23)
          clear r23 b23 k23
          refine hK.out _ _ ?_ (fun hH23 => ?_)
          · exact S23.out
          clear hK K hH22
          try simp only [Act.put, List.setIfInBounds_toArray, List.set_cons_zero, List.set_cons_succ]
          refine wpAnyH_ready (rs := [7]) (by kernel_rfl) (by simp) ?_
          refine AllReadyH.cons (o := { dst := some 50, op := Go.Op.call { callee := Go.Callee.builtin Go.Builtin.append, args := #[Go.Operand.tmp 47, Go.Operand.tmp 49], argTypes := #[23, 23] }, type := 23, pos := "ref.go:63", after := #[{ on := 4, ground := Go.Ground.data }, { on := 6, ground := Go.Ground.data }, { on := 3, ground := Go.Ground.chain }], guard := none }) rfl (fun K hK => ?_) AllReadyH.nil
          · have A24 := Lib.hid (HRK.out _ S23.out.2.2.1)
            refine step_append_arg (enc := rnC) Try.underlying23 run_info rfl (by omega) rnC_size rnC_one rfl (.tmp 47) (.tmp 49) rfl rfl rfl R23.out A24.out S23.out.2.2.2 (by have := HLR.out; simp; omega) (by have := HLR.out; simp; omega) ?_
            intro v24 w24 r24 b24 k24
            rw [List.nil_append] at r24
            obtain ⟨VA, VN, VC, rfl, hVN⟩ := KRow.form r24
            obtain rfl := hVN
            have S24 := Lib.hid (heldB12 S23.out b24)
            have Q24 := Lib.hid (Q23.out.below b24 (Nat.lt_succ_self _))
            have R24 := Lib.hid r24
            have N24 := Lib.hid (KRow.kept N23.out k24 (names_apart R23.out N23.out))
            have X24 := Lib.hid (row_kept X23.out (KRow.off R23.out X23.out (by decide)) k24)
            clear r24 b24 k24
            refine hK.out _ _ ?_ (fun hH24 => ?_)
            · exact S24.out
            clear hK K hH23
            try simp only [Act.put, List.setIfInBounds_toArray, List.set_cons_zero, List.set_cons_succ]
            refine wpAnyH_take (i := 8) (oi := { dst := some 51, op := Go.Op.build 25 #[(0, Go.Operand.tmp 46), (1, Go.Operand.tmp 50)], type := 25, pos := "ref.go:63", after := #[{ on := 3, ground := Go.Ground.data }, { on := 7, ground := Go.Ground.data }], guard := none }) (v := ?_) rfl ?_ ?_ ?_ ?_ (Or.inl ⟨?_, ?_⟩) hH24 ?_
            rotate_left
            · kernel_rfl
            · kernel_rfl
            · kernel_rfl
            · exact fun _ _ _ h => hPn _ _ _ _ _ h
            · kernel_rfl
            · intro wS hSw
              try dsimp only at hSw
              go_simp
              try with_reducible rfl
            try simp only [Act.put, List.setIfInBounds_toArray, List.set_cons_zero, List.set_cons_succ]
            refine wpAnyH_ready (rs := [10]) (by kernel_rfl) (by simp) ?_
            refine AllReadyH.cons (o := { dst := none, op := Go.Op.store 25 (Go.Operand.tmp 11) (Go.Operand.tmp 51), type := 0, pos := "ref.go:63", after := #[{ on := 9, ground := Go.Ground.data }, { on := 8, ground := Go.Ground.data }, { on := 7, ground := Go.Ground.chain }, { on := 0, ground := Go.Ground.phase }, { on := 1, ground := Go.Ground.phase }, { on := 2, ground := Go.Ground.phase }, { on := 3, ground := Go.Ground.phase }, { on := 4, ground := Go.Ground.phase }, { on := 5, ground := Go.Ground.phase }, { on := 6, ground := Go.Ground.phase }, { on := 7, ground := Go.Ground.phase }, { on := 8, ground := Go.Ground.phase }, { on := 9, ground := Go.Ground.phase }], guard := none }) rfl (fun K hK => ?_) AllReadyH.nil
            · refine step_store_at2 X24.out #[.slice (some ⟨gN, 0, none⟩) N.length UC, .slice VA R.length VC] (.tmp 11) (.tmp 51) 25 rfl rfl rfl rfl (by kernel_rfl) rfl rfl ?_
              intro w25 r25 b25 k25
              have S25 := Lib.hid (heldB12 S24.out (b25.mono hgx))
              have Q25 := Lib.hid (Q24.out.below (b25.mono hgx) (Nat.lt_succ_self _))
              have X25 := Lib.hid r25
              have N25 := Lib.hid (KRow.apart N24.out k25 (fun e => KRow.off N24.out X24.out (by decide) e))
              have R25 := Lib.hid (KRow.apart R24.out k25 (fun e => KRow.off R24.out X24.out (by decide) e))
              clear r25 b25 k25
              refine hK.out _ _ ?_ (fun hH25 => ?_)
              · exact S25.out
              clear hK K hH24
              try simp only [Act.put, List.setIfInBounds_toArray, List.set_cons_zero, List.set_cons_succ]
              refine wpAnyH_done (by kernel_rfl) ?_ _
              exact hK _ _ _ _ _ _ _ _ _ _ _ _ _ _ _ S25.out Q25.out N25.out R25.out X25.out hgx
    · go_simp
      have S26 := Lib.hid (heldA12 S1.out (ba w1 (.cells #[.slice none 0 0, .slice none 0 0] 25)))
      have Q26 := Lib.hid (Q1.out.alloc (.cells #[.slice none 0 0, .slice none 0 0] 25))
      have N26 := Lib.hid (KRow.alloc N1.out (.cells #[.slice none 0 0, .slice none 0 0] 25))
      have X26 := Lib.hid (RowAt.new w1 25 #[.slice none 0 0, .slice none 0 0])
      have hgx : w.heap.size + 2 ≤ w1.heap.size := S1.out.2.2.2
      generalize w1.alloc (.cells #[.slice none 0 0, .slice none 0 0] 25) = w26 at *
      refine hK.out _ _ ?_ (fun hH26 => ?_)
      · exact S26.out
      clear hK K hH1
      try simp only [Act.put, List.setIfInBounds_toArray, List.set_cons_zero, List.set_cons_succ]
      refine wpAnyH_ready (rs := [3, 4]) (by kernel_rfl) (by simp) ?_
      refine AllReadyH.cons (o := { dst := some 46, op := Go.Op.call { callee := Go.Callee.builtin Go.Builtin.append, args := #[Go.Operand.tmp 43, Go.Operand.tmp 45], argTypes := #[22, 22] }, type := 22, pos := "ref.go:63", after := #[{ on := 0, ground := Go.Ground.data }, { on := 2, ground := Go.Ground.data }], guard := none }) rfl (fun K hK => ?_) (AllReadyH.cons (o := { dst := some 47, op := Go.Op.buildSlice 23 0 #[], type := 23, pos := "ref.go:63", after := #[], guard := none }) rfl (fun K hK => ?_) AllReadyH.nil)
      · have A27 := Lib.hid (HNK.out _ S26.out.2.2.1)
        refine step_append_arg (enc := nmC) Try.underlying22 name_info rfl (by omega) nmC_size nmC_one rfl (.tmp 43) (.tmp 45) rfl rfl rfl N26.out A27.out.1 S26.out.2.2.2 (by have := HLN.out; simp; omega) (by have := HLN.out; simp; omega) ?_
        intro v27 w27 r27 b27 k27
        rw [List.nil_append] at r27
        obtain ⟨gN, UC, rfl⟩ := KRow.full r27 HN0'.out
        have S27 := Lib.hid (heldB12 S26.out b27)
        have Q27 := Lib.hid (Q26.out.below b27 (Nat.lt_succ_self _))
        have N27 := Lib.hid r27
        have X27 := Lib.hid (row_kept X26.out (KRow.off N26.out X26.out (by decide)) k27)
        clear r27 b27 k27
        refine hK.out _ _ ?_ (fun hH27 => ?_)
        · exact S27.out
        clear hK K hH26
        try simp only [Act.put, List.setIfInBounds_toArray, List.set_cons_zero, List.set_cons_succ]
        refine wpAnyH_ready (rs := [4]) (by kernel_rfl) (by simp) ?_
        refine AllReadyH.cons (o := { dst := some 47, op := Go.Op.buildSlice 23 0 #[], type := 23, pos := "ref.go:63", after := #[], guard := none }) rfl (fun K hK => ?_) AllReadyH.nil
        · go_simp
          have S28 := Lib.hid (heldA12 S27.out (ba w27 (.cells #[] 48)))
          have Q28 := Lib.hid (Q27.out.alloc (.cells #[] 48))
          have N28 := Lib.hid (KRow.alloc N27.out (.cells #[] 48))
          have X28 := Lib.hid (X27.out.alloc (.cells #[] 48))
          have R28 := Lib.hid (KRow.lit (T := 48) rnC_size w27 (w.heap.size + 2) S27.out.2.2.2 [] #[] rfl 0 rfl (by decide))
          generalize w27.alloc (.cells #[] 48) = w28 at *
          refine hK.out _ _ ?_ (fun hH28 => ?_)
          · exact S28.out
          clear hK K hH27
          try simp only [Act.put, List.setIfInBounds_toArray, List.set_cons_zero, List.set_cons_succ]
          refine wpAnyH_ready (rs := [7]) (by kernel_rfl) (by simp) ?_
          refine AllReadyH.cons (o := { dst := some 50, op := Go.Op.call { callee := Go.Callee.builtin Go.Builtin.append, args := #[Go.Operand.tmp 47, Go.Operand.tmp 49], argTypes := #[23, 23] }, type := 23, pos := "ref.go:63", after := #[{ on := 4, ground := Go.Ground.data }, { on := 6, ground := Go.Ground.data }, { on := 3, ground := Go.Ground.chain }], guard := none }) rfl (fun K hK => ?_) AllReadyH.nil
          · have A29 := Lib.hid (HRK.out _ S28.out.2.2.1)
            refine step_append_arg (enc := rnC) Try.underlying23 run_info rfl (by omega) rnC_size rnC_one rfl (.tmp 47) (.tmp 49) rfl rfl rfl R28.out A29.out S28.out.2.2.2 (by have := HLR.out; simp; omega) (by have := HLR.out; simp; omega) ?_
            intro v29 w29 r29 b29 k29
            rw [List.nil_append] at r29
            obtain ⟨VA, VN, VC, rfl, hVN⟩ := KRow.form r29
            obtain rfl := hVN
            have S29 := Lib.hid (heldB12 S28.out b29)
            have Q29 := Lib.hid (Q28.out.below b29 (Nat.lt_succ_self _))
            have R29 := Lib.hid r29
            have N29 := Lib.hid (KRow.kept N28.out k29 (names_apart R28.out N28.out))
            have X29 := Lib.hid (row_kept X28.out (KRow.off R28.out X28.out (by decide)) k29)
            clear r29 b29 k29
            refine hK.out _ _ ?_ (fun hH29 => ?_)
            · exact S29.out
            clear hK K hH28
            try simp only [Act.put, List.setIfInBounds_toArray, List.set_cons_zero, List.set_cons_succ]
            refine wpAnyH_take (i := 8) (oi := { dst := some 51, op := Go.Op.build 25 #[(0, Go.Operand.tmp 46), (1, Go.Operand.tmp 50)], type := 25, pos := "ref.go:63", after := #[{ on := 3, ground := Go.Ground.data }, { on := 7, ground := Go.Ground.data }], guard := none }) (v := ?_) rfl ?_ ?_ ?_ ?_ (Or.inl ⟨?_, ?_⟩) hH29 ?_
            rotate_left
            · kernel_rfl
            · kernel_rfl
            · kernel_rfl
            · exact fun _ _ _ h => hPn _ _ _ _ _ h
            · kernel_rfl
            · intro wS hSw
              try dsimp only at hSw
              go_simp
              try with_reducible rfl
            try simp only [Act.put, List.setIfInBounds_toArray, List.set_cons_zero, List.set_cons_succ]
            refine wpAnyH_ready (rs := [10]) (by kernel_rfl) (by simp) ?_
            refine AllReadyH.cons (o := { dst := none, op := Go.Op.store 25 (Go.Operand.tmp 11) (Go.Operand.tmp 51), type := 0, pos := "ref.go:63", after := #[{ on := 9, ground := Go.Ground.data }, { on := 8, ground := Go.Ground.data }, { on := 7, ground := Go.Ground.chain }, { on := 0, ground := Go.Ground.phase }, { on := 1, ground := Go.Ground.phase }, { on := 2, ground := Go.Ground.phase }, { on := 3, ground := Go.Ground.phase }, { on := 4, ground := Go.Ground.phase }, { on := 5, ground := Go.Ground.phase }, { on := 6, ground := Go.Ground.phase }, { on := 7, ground := Go.Ground.phase }, { on := 8, ground := Go.Ground.phase }, { on := 9, ground := Go.Ground.phase }], guard := none }) rfl (fun K hK => ?_) AllReadyH.nil
            · refine step_store_at2 X29.out #[.slice (some ⟨gN, 0, none⟩) N.length UC, .slice VA R.length VC] (.tmp 11) (.tmp 51) 25 rfl rfl rfl rfl (by kernel_rfl) rfl rfl ?_
              intro w30 r30 b30 k30
              have S30 := Lib.hid (heldB12 S29.out (b30.mono hgx))
              have Q30 := Lib.hid (Q29.out.below (b30.mono hgx) (Nat.lt_succ_self _))
              have X30 := Lib.hid r30
              have N30 := Lib.hid (KRow.apart N29.out k30 (fun e => KRow.off N29.out X29.out (by decide) e))
              have R30 := Lib.hid (KRow.apart R29.out k30 (fun e => KRow.off R29.out X29.out (by decide) e))
              clear r30 b30 k30
              refine hK.out _ _ ?_ (fun hH30 => ?_)
              · exact S30.out
              clear hK K hH29
              try simp only [Act.put, List.setIfInBounds_toArray, List.set_cons_zero, List.set_cons_succ]
              refine wpAnyH_done (by kernel_rfl) ?_ _
              exact hK _ _ _ _ _ _ _ _ _ _ _ _ _ _ _ S30.out Q30.out N30.out R30.out X30.out hgx
      · go_simp
        have S31 := Lib.hid (heldA12 S26.out (ba w26 (.cells #[] 48)))
        have Q31 := Lib.hid (Q26.out.alloc (.cells #[] 48))
        have N31 := Lib.hid (KRow.alloc N26.out (.cells #[] 48))
        have X31 := Lib.hid (X26.out.alloc (.cells #[] 48))
        have R31 := Lib.hid (KRow.lit (T := 48) rnC_size w26 (w.heap.size + 2) S26.out.2.2.2 [] #[] rfl 0 rfl (by decide))
        generalize w26.alloc (.cells #[] 48) = w31 at *
        refine hK.out _ _ ?_ (fun hH31 => ?_)
        · exact S31.out
        clear hK K hH26
        try simp only [Act.put, List.setIfInBounds_toArray, List.set_cons_zero, List.set_cons_succ]
        refine wpAnyH_ready (rs := [3]) (by kernel_rfl) (by simp) ?_
        refine AllReadyH.cons (o := { dst := some 46, op := Go.Op.call { callee := Go.Callee.builtin Go.Builtin.append, args := #[Go.Operand.tmp 43, Go.Operand.tmp 45], argTypes := #[22, 22] }, type := 22, pos := "ref.go:63", after := #[{ on := 0, ground := Go.Ground.data }, { on := 2, ground := Go.Ground.data }], guard := none }) rfl (fun K hK => ?_) AllReadyH.nil
        · have A32 := Lib.hid (HNK.out _ S31.out.2.2.1)
          refine step_append_arg (enc := nmC) Try.underlying22 name_info rfl (by omega) nmC_size nmC_one rfl (.tmp 43) (.tmp 45) rfl rfl rfl N31.out A32.out.1 S31.out.2.2.2 (by have := HLN.out; simp; omega) (by have := HLN.out; simp; omega) ?_
          intro v32 w32 r32 b32 k32
          rw [List.nil_append] at r32
          obtain ⟨gN, UC, rfl⟩ := KRow.full r32 HN0'.out
          have S32 := Lib.hid (heldB12 S31.out b32)
          have Q32 := Lib.hid (Q31.out.below b32 (Nat.lt_succ_self _))
          have N32 := Lib.hid r32
          have R32 := Lib.hid (KRow.kept R31.out k32 (runs_apart N31.out R31.out))
          have X32 := Lib.hid (row_kept X31.out (KRow.off N31.out X31.out (by decide)) k32)
          clear r32 b32 k32
          refine hK.out _ _ ?_ (fun hH32 => ?_)
          · exact S32.out
          clear hK K hH31
          try simp only [Act.put, List.setIfInBounds_toArray, List.set_cons_zero, List.set_cons_succ]
          refine wpAnyH_ready (rs := [7]) (by kernel_rfl) (by simp) ?_
          refine AllReadyH.cons (o := { dst := some 50, op := Go.Op.call { callee := Go.Callee.builtin Go.Builtin.append, args := #[Go.Operand.tmp 47, Go.Operand.tmp 49], argTypes := #[23, 23] }, type := 23, pos := "ref.go:63", after := #[{ on := 4, ground := Go.Ground.data }, { on := 6, ground := Go.Ground.data }, { on := 3, ground := Go.Ground.chain }], guard := none }) rfl (fun K hK => ?_) AllReadyH.nil
          · have A33 := Lib.hid (HRK.out _ S32.out.2.2.1)
            refine step_append_arg (enc := rnC) Try.underlying23 run_info rfl (by omega) rnC_size rnC_one rfl (.tmp 47) (.tmp 49) rfl rfl rfl R32.out A33.out S32.out.2.2.2 (by have := HLR.out; simp; omega) (by have := HLR.out; simp; omega) ?_
            intro v33 w33 r33 b33 k33
            rw [List.nil_append] at r33
            obtain ⟨VA, VN, VC, rfl, hVN⟩ := KRow.form r33
            obtain rfl := hVN
            have S33 := Lib.hid (heldB12 S32.out b33)
            have Q33 := Lib.hid (Q32.out.below b33 (Nat.lt_succ_self _))
            have R33 := Lib.hid r33
            have N33 := Lib.hid (KRow.kept N32.out k33 (names_apart R32.out N32.out))
            have X33 := Lib.hid (row_kept X32.out (KRow.off R32.out X32.out (by decide)) k33)
            clear r33 b33 k33
            refine hK.out _ _ ?_ (fun hH33 => ?_)
            · exact S33.out
            clear hK K hH32
            try simp only [Act.put, List.setIfInBounds_toArray, List.set_cons_zero, List.set_cons_succ]
            refine wpAnyH_take (i := 8) (oi := { dst := some 51, op := Go.Op.build 25 #[(0, Go.Operand.tmp 46), (1, Go.Operand.tmp 50)], type := 25, pos := "ref.go:63", after := #[{ on := 3, ground := Go.Ground.data }, { on := 7, ground := Go.Ground.data }], guard := none }) (v := ?_) rfl ?_ ?_ ?_ ?_ (Or.inl ⟨?_, ?_⟩) hH33 ?_
            rotate_left
            · kernel_rfl
            · kernel_rfl
            · kernel_rfl
            · exact fun _ _ _ h => hPn _ _ _ _ _ h
            · kernel_rfl
            · intro wS hSw
              try dsimp only at hSw
              go_simp
              try with_reducible rfl
            try simp only [Act.put, List.setIfInBounds_toArray, List.set_cons_zero, List.set_cons_succ]
            refine wpAnyH_ready (rs := [10]) (by kernel_rfl) (by simp) ?_
            refine AllReadyH.cons (o := { dst := none, op := Go.Op.store 25 (Go.Operand.tmp 11) (Go.Operand.tmp 51), type := 0, pos := "ref.go:63", after := #[{ on := 9, ground := Go.Ground.data }, { on := 8, ground := Go.Ground.data }, { on := 7, ground := Go.Ground.chain }, { on := 0, ground := Go.Ground.phase }, { on := 1, ground := Go.Ground.phase }, { on := 2, ground := Go.Ground.phase }, { on := 3, ground := Go.Ground.phase }, { on := 4, ground := Go.Ground.phase }, { on := 5, ground := Go.Ground.phase }, { on := 6, ground := Go.Ground.phase }, { on := 7, ground := Go.Ground.phase }, { on := 8, ground := Go.Ground.phase }, { on := 9, ground := Go.Ground.phase }], guard := none }) rfl (fun K hK => ?_) AllReadyH.nil
            · refine step_store_at2 X33.out #[.slice (some ⟨gN, 0, none⟩) N.length UC, .slice VA R.length VC] (.tmp 11) (.tmp 51) 25 rfl rfl rfl rfl (by kernel_rfl) rfl rfl ?_
              intro w34 r34 b34 k34
              have S34 := Lib.hid (heldB12 S33.out (b34.mono hgx))
              have Q34 := Lib.hid (Q33.out.below (b34.mono hgx) (Nat.lt_succ_self _))
              have X34 := Lib.hid r34
              have N34 := Lib.hid (KRow.apart N33.out k34 (fun e => KRow.off N33.out X33.out (by decide) e))
              have R34 := Lib.hid (KRow.apart R33.out k34 (fun e => KRow.off R33.out X33.out (by decide) e))
              clear r34 b34 k34
              refine hK.out _ _ ?_ (fun hH34 => ?_)
              · exact S34.out
              clear hK K hH33
              try simp only [Act.put, List.setIfInBounds_toArray, List.set_cons_zero, List.set_cons_succ]
              refine wpAnyH_done (by kernel_rfl) ?_ _
              exact hK _ _ _ _ _ _ _ _ _ _ _ _ _ _ _ S34.out Q34.out N34.out R34.out X34.out hgx
  · go_simp
    have S35 := Lib.hid (heldA12 S0.out (ba WD (.cells #[] 48)))
    have Q35 := Lib.hid (Q0d.out.alloc (.cells #[] 48))
    have R35 := Lib.hid (KRow.lit (T := 48) rnC_size WD (w.heap.size + 2) S0.out.2.2.2 [] #[] rfl 0 rfl (by decide))
    generalize WD.alloc (.cells #[] 48) = w35 at *
    refine hK.out _ _ ?_ (fun hH35 => ?_)
    · exact S35.out
    clear hK K hH
    try simp only [Act.put, List.setIfInBounds_toArray, List.set_cons_zero, List.set_cons_succ]
    refine wpAnyH_ready (rs := [0, 9]) (by kernel_rfl) (by simp) ?_
    refine AllReadyH.cons (o := { dst := some 43, op := Go.Op.buildSlice 22 0 #[], type := 22, pos := "ref.go:63", after := #[], guard := none }) rfl (fun K hK => ?_) (AllReadyH.cons (o := { dst := some 11, op := Go.Op.alloc 25, type := 0, pos := "ref.go:63", after := #[], guard := none }) rfl (fun K hK => ?_) AllReadyH.nil)
    · go_simp
      have S36 := Lib.hid (heldA12 S35.out (ba w35 (.cells #[] 9)))
      have Q36 := Lib.hid (Q35.out.alloc (.cells #[] 9))
      have R36 := Lib.hid (KRow.alloc R35.out (.cells #[] 9))
      have N36 := Lib.hid (KRow.lit (T := 9) nmC_size w35 (w.heap.size + 2) S35.out.2.2.2 [] #[] rfl 0 rfl (by decide))
      generalize w35.alloc (.cells #[] 9) = w36 at *
      refine hK.out _ _ ?_ (fun hH36 => ?_)
      · exact S36.out
      clear hK K hH35
      try simp only [Act.put, List.setIfInBounds_toArray, List.set_cons_zero, List.set_cons_succ]
      refine wpAnyH_ready (rs := [3, 9]) (by kernel_rfl) (by simp) ?_
      refine AllReadyH.cons (o := { dst := some 46, op := Go.Op.call { callee := Go.Callee.builtin Go.Builtin.append, args := #[Go.Operand.tmp 43, Go.Operand.tmp 45], argTypes := #[22, 22] }, type := 22, pos := "ref.go:63", after := #[{ on := 0, ground := Go.Ground.data }, { on := 2, ground := Go.Ground.data }], guard := none }) rfl (fun K hK => ?_) (AllReadyH.cons (o := { dst := some 11, op := Go.Op.alloc 25, type := 0, pos := "ref.go:63", after := #[], guard := none }) rfl (fun K hK => ?_) AllReadyH.nil)
      · have A37 := Lib.hid (HNK.out _ S36.out.2.2.1)
        refine step_append_arg (enc := nmC) Try.underlying22 name_info rfl (by omega) nmC_size nmC_one rfl (.tmp 43) (.tmp 45) rfl rfl rfl N36.out A37.out.1 S36.out.2.2.2 (by have := HLN.out; simp; omega) (by have := HLN.out; simp; omega) ?_
        intro v37 w37 r37 b37 k37
        rw [List.nil_append] at r37
        obtain ⟨gN, UC, rfl⟩ := KRow.full r37 HN0'.out
        have S37 := Lib.hid (heldB12 S36.out b37)
        have Q37 := Lib.hid (Q36.out.below b37 (Nat.lt_succ_self _))
        have N37 := Lib.hid r37
        have R37 := Lib.hid (KRow.kept R36.out k37 (runs_apart N36.out R36.out))
        clear r37 b37 k37
        refine hK.out _ _ ?_ (fun hH37 => ?_)
        · exact S37.out
        clear hK K hH36
        try simp only [Act.put, List.setIfInBounds_toArray, List.set_cons_zero, List.set_cons_succ]
        refine wpAnyH_ready (rs := [7, 9]) (by kernel_rfl) (by simp) ?_
        refine AllReadyH.cons (o := { dst := some 50, op := Go.Op.call { callee := Go.Callee.builtin Go.Builtin.append, args := #[Go.Operand.tmp 47, Go.Operand.tmp 49], argTypes := #[23, 23] }, type := 23, pos := "ref.go:63", after := #[{ on := 4, ground := Go.Ground.data }, { on := 6, ground := Go.Ground.data }, { on := 3, ground := Go.Ground.chain }], guard := none }) rfl (fun K hK => ?_) (AllReadyH.cons (o := { dst := some 11, op := Go.Op.alloc 25, type := 0, pos := "ref.go:63", after := #[], guard := none }) rfl (fun K hK => ?_) AllReadyH.nil)
        · have A38 := Lib.hid (HRK.out _ S37.out.2.2.1)
          refine step_append_arg (enc := rnC) Try.underlying23 run_info rfl (by omega) rnC_size rnC_one rfl (.tmp 47) (.tmp 49) rfl rfl rfl R37.out A38.out S37.out.2.2.2 (by have := HLR.out; simp; omega) (by have := HLR.out; simp; omega) ?_
          intro v38 w38 r38 b38 k38
          rw [List.nil_append] at r38
          obtain ⟨VA, VN, VC, rfl, hVN⟩ := KRow.form r38
          obtain rfl := hVN
          have S38 := Lib.hid (heldB12 S37.out b38)
          have Q38 := Lib.hid (Q37.out.below b38 (Nat.lt_succ_self _))
          have R38 := Lib.hid r38
          have N38 := Lib.hid (KRow.kept N37.out k38 (names_apart R37.out N37.out))
          clear r38 b38 k38
          refine hK.out _ _ ?_ (fun hH38 => ?_)
          · exact S38.out
          clear hK K hH37
          try simp only [Act.put, List.setIfInBounds_toArray, List.set_cons_zero, List.set_cons_succ]
          refine wpAnyH_take (i := 8) (oi := { dst := some 51, op := Go.Op.build 25 #[(0, Go.Operand.tmp 46), (1, Go.Operand.tmp 50)], type := 25, pos := "ref.go:63", after := #[{ on := 3, ground := Go.Ground.data }, { on := 7, ground := Go.Ground.data }], guard := none }) (v := ?_) rfl ?_ ?_ ?_ ?_ (Or.inl ⟨?_, ?_⟩) hH38 ?_
          rotate_left
          · kernel_rfl
          · kernel_rfl
          · kernel_rfl
          · exact fun _ _ _ h => hPn _ _ _ _ _ h
          · kernel_rfl
          · intro wS hSw
            try dsimp only at hSw
            go_simp
            try with_reducible rfl
          try simp only [Act.put, List.setIfInBounds_toArray, List.set_cons_zero, List.set_cons_succ]
          refine wpAnyH_ready (rs := [9]) (by kernel_rfl) (by simp) ?_
          refine AllReadyH.cons (o := { dst := some 11, op := Go.Op.alloc 25, type := 0, pos := "ref.go:63", after := #[], guard := none }) rfl (fun K hK => ?_) AllReadyH.nil
          · go_simp
            have S39 := Lib.hid (heldA12 S38.out (ba w38 (.cells #[.slice none 0 0, .slice none 0 0] 25)))
            have Q39 := Lib.hid (Q38.out.alloc (.cells #[.slice none 0 0, .slice none 0 0] 25))
            have N39 := Lib.hid (KRow.alloc N38.out (.cells #[.slice none 0 0, .slice none 0 0] 25))
            have R39 := Lib.hid (KRow.alloc R38.out (.cells #[.slice none 0 0, .slice none 0 0] 25))
            have X39 := Lib.hid (RowAt.new w38 25 #[.slice none 0 0, .slice none 0 0])
            have hgx : w.heap.size + 2 ≤ w38.heap.size := S38.out.2.2.2
            generalize w38.alloc (.cells #[.slice none 0 0, .slice none 0 0] 25) = w39 at *
            refine hK.out _ _ ?_ (fun hH39 => ?_)
            · exact S39.out
            clear hK K hH38
            try simp only [Act.put, List.setIfInBounds_toArray, List.set_cons_zero, List.set_cons_succ]
            refine wpAnyH_ready (rs := [10]) (by kernel_rfl) (by simp) ?_
            refine AllReadyH.cons (o := { dst := none, op := Go.Op.store 25 (Go.Operand.tmp 11) (Go.Operand.tmp 51), type := 0, pos := "ref.go:63", after := #[{ on := 9, ground := Go.Ground.data }, { on := 8, ground := Go.Ground.data }, { on := 7, ground := Go.Ground.chain }, { on := 0, ground := Go.Ground.phase }, { on := 1, ground := Go.Ground.phase }, { on := 2, ground := Go.Ground.phase }, { on := 3, ground := Go.Ground.phase }, { on := 4, ground := Go.Ground.phase }, { on := 5, ground := Go.Ground.phase }, { on := 6, ground := Go.Ground.phase }, { on := 7, ground := Go.Ground.phase }, { on := 8, ground := Go.Ground.phase }, { on := 9, ground := Go.Ground.phase }], guard := none }) rfl (fun K hK => ?_) AllReadyH.nil
            · refine step_store_at2 X39.out #[.slice (some ⟨gN, 0, none⟩) N.length UC, .slice VA R.length VC] (.tmp 11) (.tmp 51) 25 rfl rfl rfl rfl (by kernel_rfl) rfl rfl ?_
              intro w40 r40 b40 k40
              have S40 := Lib.hid (heldB12 S39.out (b40.mono hgx))
              have Q40 := Lib.hid (Q39.out.below (b40.mono hgx) (Nat.lt_succ_self _))
              have X40 := Lib.hid r40
              have N40 := Lib.hid (KRow.apart N39.out k40 (fun e => KRow.off N39.out X39.out (by decide) e))
              have R40 := Lib.hid (KRow.apart R39.out k40 (fun e => KRow.off R39.out X39.out (by decide) e))
              clear r40 b40 k40
              refine hK.out _ _ ?_ (fun hH40 => ?_)
              · exact S40.out
              clear hK K hH39
              try simp only [Act.put, List.setIfInBounds_toArray, List.set_cons_zero, List.set_cons_succ]
              refine wpAnyH_done (by kernel_rfl) ?_ _
              exact hK _ _ _ _ _ _ _ _ _ _ _ _ _ _ _ S40.out Q40.out N40.out R40.out X40.out hgx
        · go_simp
          have S41 := Lib.hid (heldA12 S37.out (ba w37 (.cells #[.slice none 0 0, .slice none 0 0] 25)))
          have Q41 := Lib.hid (Q37.out.alloc (.cells #[.slice none 0 0, .slice none 0 0] 25))
          have N41 := Lib.hid (KRow.alloc N37.out (.cells #[.slice none 0 0, .slice none 0 0] 25))
          have R41 := Lib.hid (KRow.alloc R37.out (.cells #[.slice none 0 0, .slice none 0 0] 25))
          have X41 := Lib.hid (RowAt.new w37 25 #[.slice none 0 0, .slice none 0 0])
          have hgx : w.heap.size + 2 ≤ w37.heap.size := S37.out.2.2.2
          generalize w37.alloc (.cells #[.slice none 0 0, .slice none 0 0] 25) = w41 at *
          refine hK.out _ _ ?_ (fun hH41 => ?_)
          · exact S41.out
          clear hK K hH37
          try simp only [Act.put, List.setIfInBounds_toArray, List.set_cons_zero, List.set_cons_succ]
          refine wpAnyH_ready (rs := [7]) (by kernel_rfl) (by simp) ?_
          refine AllReadyH.cons (o := { dst := some 50, op := Go.Op.call { callee := Go.Callee.builtin Go.Builtin.append, args := #[Go.Operand.tmp 47, Go.Operand.tmp 49], argTypes := #[23, 23] }, type := 23, pos := "ref.go:63", after := #[{ on := 4, ground := Go.Ground.data }, { on := 6, ground := Go.Ground.data }, { on := 3, ground := Go.Ground.chain }], guard := none }) rfl (fun K hK => ?_) AllReadyH.nil
          · have A42 := Lib.hid (HRK.out _ S41.out.2.2.1)
            refine step_append_arg (enc := rnC) Try.underlying23 run_info rfl (by omega) rnC_size rnC_one rfl (.tmp 47) (.tmp 49) rfl rfl rfl R41.out A42.out S41.out.2.2.2 (by have := HLR.out; simp; omega) (by have := HLR.out; simp; omega) ?_
            intro v42 w42 r42 b42 k42
            rw [List.nil_append] at r42
            obtain ⟨VA, VN, VC, rfl, hVN⟩ := KRow.form r42
            obtain rfl := hVN
            have S42 := Lib.hid (heldB12 S41.out b42)
            have Q42 := Lib.hid (Q41.out.below b42 (Nat.lt_succ_self _))
            have R42 := Lib.hid r42
            have N42 := Lib.hid (KRow.kept N41.out k42 (names_apart R41.out N41.out))
            have X42 := Lib.hid (row_kept X41.out (KRow.off R41.out X41.out (by decide)) k42)
            clear r42 b42 k42
            refine hK.out _ _ ?_ (fun hH42 => ?_)
            · exact S42.out
            clear hK K hH41
            try simp only [Act.put, List.setIfInBounds_toArray, List.set_cons_zero, List.set_cons_succ]
            refine wpAnyH_take (i := 8) (oi := { dst := some 51, op := Go.Op.build 25 #[(0, Go.Operand.tmp 46), (1, Go.Operand.tmp 50)], type := 25, pos := "ref.go:63", after := #[{ on := 3, ground := Go.Ground.data }, { on := 7, ground := Go.Ground.data }], guard := none }) (v := ?_) rfl ?_ ?_ ?_ ?_ (Or.inl ⟨?_, ?_⟩) hH42 ?_
            rotate_left
            · kernel_rfl
            · kernel_rfl
            · kernel_rfl
            · exact fun _ _ _ h => hPn _ _ _ _ _ h
            · kernel_rfl
            · intro wS hSw
              try dsimp only at hSw
              go_simp
              try with_reducible rfl
            try simp only [Act.put, List.setIfInBounds_toArray, List.set_cons_zero, List.set_cons_succ]
            refine wpAnyH_ready (rs := [10]) (by kernel_rfl) (by simp) ?_
            refine AllReadyH.cons (o := { dst := none, op := Go.Op.store 25 (Go.Operand.tmp 11) (Go.Operand.tmp 51), type := 0, pos := "ref.go:63", after := #[{ on := 9, ground := Go.Ground.data }, { on := 8, ground := Go.Ground.data }, { on := 7, ground := Go.Ground.chain }, { on := 0, ground := Go.Ground.phase }, { on := 1, ground := Go.Ground.phase }, { on := 2, ground := Go.Ground.phase }, { on := 3, ground := Go.Ground.phase }, { on := 4, ground := Go.Ground.phase }, { on := 5, ground := Go.Ground.phase }, { on := 6, ground := Go.Ground.phase }, { on := 7, ground := Go.Ground.phase }, { on := 8, ground := Go.Ground.phase }, { on := 9, ground := Go.Ground.phase }], guard := none }) rfl (fun K hK => ?_) AllReadyH.nil
            · refine step_store_at2 X42.out #[.slice (some ⟨gN, 0, none⟩) N.length UC, .slice VA R.length VC] (.tmp 11) (.tmp 51) 25 rfl rfl rfl rfl (by kernel_rfl) rfl rfl ?_
              intro w43 r43 b43 k43
              have S43 := Lib.hid (heldB12 S42.out (b43.mono hgx))
              have Q43 := Lib.hid (Q42.out.below (b43.mono hgx) (Nat.lt_succ_self _))
              have X43 := Lib.hid r43
              have N43 := Lib.hid (KRow.apart N42.out k43 (fun e => KRow.off N42.out X42.out (by decide) e))
              have R43 := Lib.hid (KRow.apart R42.out k43 (fun e => KRow.off R42.out X42.out (by decide) e))
              clear r43 b43 k43
              refine hK.out _ _ ?_ (fun hH43 => ?_)
              · exact S43.out
              clear hK K hH42
              try simp only [Act.put, List.setIfInBounds_toArray, List.set_cons_zero, List.set_cons_succ]
              refine wpAnyH_done (by kernel_rfl) ?_ _
              exact hK _ _ _ _ _ _ _ _ _ _ _ _ _ _ _ S43.out Q43.out N43.out R43.out X43.out hgx
      · go_simp
        have S44 := Lib.hid (heldA12 S36.out (ba w36 (.cells #[.slice none 0 0, .slice none 0 0] 25)))
        have Q44 := Lib.hid (Q36.out.alloc (.cells #[.slice none 0 0, .slice none 0 0] 25))
        have N44 := Lib.hid (KRow.alloc N36.out (.cells #[.slice none 0 0, .slice none 0 0] 25))
        have R44 := Lib.hid (KRow.alloc R36.out (.cells #[.slice none 0 0, .slice none 0 0] 25))
        have X44 := Lib.hid (RowAt.new w36 25 #[.slice none 0 0, .slice none 0 0])
        have hgx : w.heap.size + 2 ≤ w36.heap.size := S36.out.2.2.2
        generalize w36.alloc (.cells #[.slice none 0 0, .slice none 0 0] 25) = w44 at *
        refine hK.out _ _ ?_ (fun hH44 => ?_)
        · exact S44.out
        clear hK K hH36
        try simp only [Act.put, List.setIfInBounds_toArray, List.set_cons_zero, List.set_cons_succ]
        refine wpAnyH_ready (rs := [3]) (by kernel_rfl) (by simp) ?_
        refine AllReadyH.cons (o := { dst := some 46, op := Go.Op.call { callee := Go.Callee.builtin Go.Builtin.append, args := #[Go.Operand.tmp 43, Go.Operand.tmp 45], argTypes := #[22, 22] }, type := 22, pos := "ref.go:63", after := #[{ on := 0, ground := Go.Ground.data }, { on := 2, ground := Go.Ground.data }], guard := none }) rfl (fun K hK => ?_) AllReadyH.nil
        · have A45 := Lib.hid (HNK.out _ S44.out.2.2.1)
          refine step_append_arg (enc := nmC) Try.underlying22 name_info rfl (by omega) nmC_size nmC_one rfl (.tmp 43) (.tmp 45) rfl rfl rfl N44.out A45.out.1 S44.out.2.2.2 (by have := HLN.out; simp; omega) (by have := HLN.out; simp; omega) ?_
          intro v45 w45 r45 b45 k45
          rw [List.nil_append] at r45
          obtain ⟨gN, UC, rfl⟩ := KRow.full r45 HN0'.out
          have S45 := Lib.hid (heldB12 S44.out b45)
          have Q45 := Lib.hid (Q44.out.below b45 (Nat.lt_succ_self _))
          have N45 := Lib.hid r45
          have R45 := Lib.hid (KRow.kept R44.out k45 (runs_apart N44.out R44.out))
          have X45 := Lib.hid (row_kept X44.out (KRow.off N44.out X44.out (by decide)) k45)
          clear r45 b45 k45
          refine hK.out _ _ ?_ (fun hH45 => ?_)
          · exact S45.out
          clear hK K hH44
          try simp only [Act.put, List.setIfInBounds_toArray, List.set_cons_zero, List.set_cons_succ]
          refine wpAnyH_ready (rs := [7]) (by kernel_rfl) (by simp) ?_
          refine AllReadyH.cons (o := { dst := some 50, op := Go.Op.call { callee := Go.Callee.builtin Go.Builtin.append, args := #[Go.Operand.tmp 47, Go.Operand.tmp 49], argTypes := #[23, 23] }, type := 23, pos := "ref.go:63", after := #[{ on := 4, ground := Go.Ground.data }, { on := 6, ground := Go.Ground.data }, { on := 3, ground := Go.Ground.chain }], guard := none }) rfl (fun K hK => ?_) AllReadyH.nil
          · have A46 := Lib.hid (HRK.out _ S45.out.2.2.1)
            refine step_append_arg (enc := rnC) Try.underlying23 run_info rfl (by omega) rnC_size rnC_one rfl (.tmp 47) (.tmp 49) rfl rfl rfl R45.out A46.out S45.out.2.2.2 (by have := HLR.out; simp; omega) (by have := HLR.out; simp; omega) ?_
            intro v46 w46 r46 b46 k46
            rw [List.nil_append] at r46
            obtain ⟨VA, VN, VC, rfl, hVN⟩ := KRow.form r46
            obtain rfl := hVN
            have S46 := Lib.hid (heldB12 S45.out b46)
            have Q46 := Lib.hid (Q45.out.below b46 (Nat.lt_succ_self _))
            have R46 := Lib.hid r46
            have N46 := Lib.hid (KRow.kept N45.out k46 (names_apart R45.out N45.out))
            have X46 := Lib.hid (row_kept X45.out (KRow.off R45.out X45.out (by decide)) k46)
            clear r46 b46 k46
            refine hK.out _ _ ?_ (fun hH46 => ?_)
            · exact S46.out
            clear hK K hH45
            try simp only [Act.put, List.setIfInBounds_toArray, List.set_cons_zero, List.set_cons_succ]
            refine wpAnyH_take (i := 8) (oi := { dst := some 51, op := Go.Op.build 25 #[(0, Go.Operand.tmp 46), (1, Go.Operand.tmp 50)], type := 25, pos := "ref.go:63", after := #[{ on := 3, ground := Go.Ground.data }, { on := 7, ground := Go.Ground.data }], guard := none }) (v := ?_) rfl ?_ ?_ ?_ ?_ (Or.inl ⟨?_, ?_⟩) hH46 ?_
            rotate_left
            · kernel_rfl
            · kernel_rfl
            · kernel_rfl
            · exact fun _ _ _ h => hPn _ _ _ _ _ h
            · kernel_rfl
            · intro wS hSw
              try dsimp only at hSw
              go_simp
              try with_reducible rfl
            try simp only [Act.put, List.setIfInBounds_toArray, List.set_cons_zero, List.set_cons_succ]
            refine wpAnyH_ready (rs := [10]) (by kernel_rfl) (by simp) ?_
            refine AllReadyH.cons (o := { dst := none, op := Go.Op.store 25 (Go.Operand.tmp 11) (Go.Operand.tmp 51), type := 0, pos := "ref.go:63", after := #[{ on := 9, ground := Go.Ground.data }, { on := 8, ground := Go.Ground.data }, { on := 7, ground := Go.Ground.chain }, { on := 0, ground := Go.Ground.phase }, { on := 1, ground := Go.Ground.phase }, { on := 2, ground := Go.Ground.phase }, { on := 3, ground := Go.Ground.phase }, { on := 4, ground := Go.Ground.phase }, { on := 5, ground := Go.Ground.phase }, { on := 6, ground := Go.Ground.phase }, { on := 7, ground := Go.Ground.phase }, { on := 8, ground := Go.Ground.phase }, { on := 9, ground := Go.Ground.phase }], guard := none }) rfl (fun K hK => ?_) AllReadyH.nil
            · refine step_store_at2 X46.out #[.slice (some ⟨gN, 0, none⟩) N.length UC, .slice VA R.length VC] (.tmp 11) (.tmp 51) 25 rfl rfl rfl rfl (by kernel_rfl) rfl rfl ?_
              intro w47 r47 b47 k47
              have S47 := Lib.hid (heldB12 S46.out (b47.mono hgx))
              have Q47 := Lib.hid (Q46.out.below (b47.mono hgx) (Nat.lt_succ_self _))
              have X47 := Lib.hid r47
              have N47 := Lib.hid (KRow.apart N46.out k47 (fun e => KRow.off N46.out X46.out (by decide) e))
              have R47 := Lib.hid (KRow.apart R46.out k47 (fun e => KRow.off R46.out X46.out (by decide) e))
              clear r47 b47 k47
              refine hK.out _ _ ?_ (fun hH47 => ?_)
              · exact S47.out
              clear hK K hH46
              try simp only [Act.put, List.setIfInBounds_toArray, List.set_cons_zero, List.set_cons_succ]
              refine wpAnyH_done (by kernel_rfl) ?_ _
              exact hK _ _ _ _ _ _ _ _ _ _ _ _ _ _ _ S47.out Q47.out N47.out R47.out X47.out hgx
    · go_simp
      have S48 := Lib.hid (heldA12 S35.out (ba w35 (.cells #[.slice none 0 0, .slice none 0 0] 25)))
      have Q48 := Lib.hid (Q35.out.alloc (.cells #[.slice none 0 0, .slice none 0 0] 25))
      have R48 := Lib.hid (KRow.alloc R35.out (.cells #[.slice none 0 0, .slice none 0 0] 25))
      have X48 := Lib.hid (RowAt.new w35 25 #[.slice none 0 0, .slice none 0 0])
      have hgx : w.heap.size + 2 ≤ w35.heap.size := S35.out.2.2.2
      generalize w35.alloc (.cells #[.slice none 0 0, .slice none 0 0] 25) = w48 at *
      refine hK.out _ _ ?_ (fun hH48 => ?_)
      · exact S48.out
      clear hK K hH35
      try simp only [Act.put, List.setIfInBounds_toArray, List.set_cons_zero, List.set_cons_succ]
      refine wpAnyH_ready (rs := [0]) (by kernel_rfl) (by simp) ?_
      refine AllReadyH.cons (o := { dst := some 43, op := Go.Op.buildSlice 22 0 #[], type := 22, pos := "ref.go:63", after := #[], guard := none }) rfl (fun K hK => ?_) AllReadyH.nil
      · go_simp
        have S49 := Lib.hid (heldA12 S48.out (ba w48 (.cells #[] 9)))
        have Q49 := Lib.hid (Q48.out.alloc (.cells #[] 9))
        have R49 := Lib.hid (KRow.alloc R48.out (.cells #[] 9))
        have X49 := Lib.hid (X48.out.alloc (.cells #[] 9))
        have N49 := Lib.hid (KRow.lit (T := 9) nmC_size w48 (w.heap.size + 2) S48.out.2.2.2 [] #[] rfl 0 rfl (by decide))
        generalize w48.alloc (.cells #[] 9) = w49 at *
        refine hK.out _ _ ?_ (fun hH49 => ?_)
        · exact S49.out
        clear hK K hH48
        try simp only [Act.put, List.setIfInBounds_toArray, List.set_cons_zero, List.set_cons_succ]
        refine wpAnyH_ready (rs := [3]) (by kernel_rfl) (by simp) ?_
        refine AllReadyH.cons (o := { dst := some 46, op := Go.Op.call { callee := Go.Callee.builtin Go.Builtin.append, args := #[Go.Operand.tmp 43, Go.Operand.tmp 45], argTypes := #[22, 22] }, type := 22, pos := "ref.go:63", after := #[{ on := 0, ground := Go.Ground.data }, { on := 2, ground := Go.Ground.data }], guard := none }) rfl (fun K hK => ?_) AllReadyH.nil
        · have A50 := Lib.hid (HNK.out _ S49.out.2.2.1)
          refine step_append_arg (enc := nmC) Try.underlying22 name_info rfl (by omega) nmC_size nmC_one rfl (.tmp 43) (.tmp 45) rfl rfl rfl N49.out A50.out.1 S49.out.2.2.2 (by have := HLN.out; simp; omega) (by have := HLN.out; simp; omega) ?_
          intro v50 w50 r50 b50 k50
          rw [List.nil_append] at r50
          obtain ⟨gN, UC, rfl⟩ := KRow.full r50 HN0'.out
          have S50 := Lib.hid (heldB12 S49.out b50)
          have Q50 := Lib.hid (Q49.out.below b50 (Nat.lt_succ_self _))
          have N50 := Lib.hid r50
          have R50 := Lib.hid (KRow.kept R49.out k50 (runs_apart N49.out R49.out))
          have X50 := Lib.hid (row_kept X49.out (KRow.off N49.out X49.out (by decide)) k50)
          clear r50 b50 k50
          refine hK.out _ _ ?_ (fun hH50 => ?_)
          · exact S50.out
          clear hK K hH49
          try simp only [Act.put, List.setIfInBounds_toArray, List.set_cons_zero, List.set_cons_succ]
          refine wpAnyH_ready (rs := [7]) (by kernel_rfl) (by simp) ?_
          refine AllReadyH.cons (o := { dst := some 50, op := Go.Op.call { callee := Go.Callee.builtin Go.Builtin.append, args := #[Go.Operand.tmp 47, Go.Operand.tmp 49], argTypes := #[23, 23] }, type := 23, pos := "ref.go:63", after := #[{ on := 4, ground := Go.Ground.data }, { on := 6, ground := Go.Ground.data }, { on := 3, ground := Go.Ground.chain }], guard := none }) rfl (fun K hK => ?_) AllReadyH.nil
          · have A51 := Lib.hid (HRK.out _ S50.out.2.2.1)
            refine step_append_arg (enc := rnC) Try.underlying23 run_info rfl (by omega) rnC_size rnC_one rfl (.tmp 47) (.tmp 49) rfl rfl rfl R50.out A51.out S50.out.2.2.2 (by have := HLR.out; simp; omega) (by have := HLR.out; simp; omega) ?_
            intro v51 w51 r51 b51 k51
            rw [List.nil_append] at r51
            obtain ⟨VA, VN, VC, rfl, hVN⟩ := KRow.form r51
            obtain rfl := hVN
            have S51 := Lib.hid (heldB12 S50.out b51)
            have Q51 := Lib.hid (Q50.out.below b51 (Nat.lt_succ_self _))
            have R51 := Lib.hid r51
            have N51 := Lib.hid (KRow.kept N50.out k51 (names_apart R50.out N50.out))
            have X51 := Lib.hid (row_kept X50.out (KRow.off R50.out X50.out (by decide)) k51)
            clear r51 b51 k51
            refine hK.out _ _ ?_ (fun hH51 => ?_)
            · exact S51.out
            clear hK K hH50
            try simp only [Act.put, List.setIfInBounds_toArray, List.set_cons_zero, List.set_cons_succ]
            refine wpAnyH_take (i := 8) (oi := { dst := some 51, op := Go.Op.build 25 #[(0, Go.Operand.tmp 46), (1, Go.Operand.tmp 50)], type := 25, pos := "ref.go:63", after := #[{ on := 3, ground := Go.Ground.data }, { on := 7, ground := Go.Ground.data }], guard := none }) (v := ?_) rfl ?_ ?_ ?_ ?_ (Or.inl ⟨?_, ?_⟩) hH51 ?_
            rotate_left
            · kernel_rfl
            · kernel_rfl
            · kernel_rfl
            · exact fun _ _ _ h => hPn _ _ _ _ _ h
            · kernel_rfl
            · intro wS hSw
              try dsimp only at hSw
              go_simp
              try with_reducible rfl
            try simp only [Act.put, List.setIfInBounds_toArray, List.set_cons_zero, List.set_cons_succ]
            refine wpAnyH_ready (rs := [10]) (by kernel_rfl) (by simp) ?_
            refine AllReadyH.cons (o := { dst := none, op := Go.Op.store 25 (Go.Operand.tmp 11) (Go.Operand.tmp 51), type := 0, pos := "ref.go:63", after := #[{ on := 9, ground := Go.Ground.data }, { on := 8, ground := Go.Ground.data }, { on := 7, ground := Go.Ground.chain }, { on := 0, ground := Go.Ground.phase }, { on := 1, ground := Go.Ground.phase }, { on := 2, ground := Go.Ground.phase }, { on := 3, ground := Go.Ground.phase }, { on := 4, ground := Go.Ground.phase }, { on := 5, ground := Go.Ground.phase }, { on := 6, ground := Go.Ground.phase }, { on := 7, ground := Go.Ground.phase }, { on := 8, ground := Go.Ground.phase }, { on := 9, ground := Go.Ground.phase }], guard := none }) rfl (fun K hK => ?_) AllReadyH.nil
            · refine step_store_at2 X51.out #[.slice (some ⟨gN, 0, none⟩) N.length UC, .slice VA R.length VC] (.tmp 11) (.tmp 51) 25 rfl rfl rfl rfl (by kernel_rfl) rfl rfl ?_
              intro w52 r52 b52 k52
              have S52 := Lib.hid (heldB12 S51.out (b52.mono hgx))
              have Q52 := Lib.hid (Q51.out.below (b52.mono hgx) (Nat.lt_succ_self _))
              have X52 := Lib.hid r52
              have N52 := Lib.hid (KRow.apart N51.out k52 (fun e => KRow.off N51.out X51.out (by decide) e))
              have R52 := Lib.hid (KRow.apart R51.out k52 (fun e => KRow.off R51.out X51.out (by decide) e))
              clear r52 b52 k52
              refine hK.out _ _ ?_ (fun hH52 => ?_)
              · exact S52.out
              clear hK K hH51
              try simp only [Act.put, List.setIfInBounds_toArray, List.set_cons_zero, List.set_cons_succ]
              refine wpAnyH_done (by kernel_rfl) ?_ _
              exact hK _ _ _ _ _ _ _ _ _ _ _ _ _ _ _ S52.out Q52.out N52.out R52.out X52.out hgx
  · go_simp
    have S53 := Lib.hid (heldA12 S0.out (ba WD (.cells #[.slice none 0 0, .slice none 0 0] 25)))
    have Q53 := Lib.hid (Q0d.out.alloc (.cells #[.slice none 0 0, .slice none 0 0] 25))
    have X53 := Lib.hid (RowAt.new WD 25 #[.slice none 0 0, .slice none 0 0])
    have hgx : w.heap.size + 2 ≤ WD.heap.size := S0.out.2.2.2
    generalize WD.alloc (.cells #[.slice none 0 0, .slice none 0 0] 25) = w53 at *
    refine hK.out _ _ ?_ (fun hH53 => ?_)
    · exact S53.out
    clear hK K hH
    try simp only [Act.put, List.setIfInBounds_toArray, List.set_cons_zero, List.set_cons_succ]
    refine wpAnyH_ready (rs := [0, 4]) (by kernel_rfl) (by simp) ?_
    refine AllReadyH.cons (o := { dst := some 43, op := Go.Op.buildSlice 22 0 #[], type := 22, pos := "ref.go:63", after := #[], guard := none }) rfl (fun K hK => ?_) (AllReadyH.cons (o := { dst := some 47, op := Go.Op.buildSlice 23 0 #[], type := 23, pos := "ref.go:63", after := #[], guard := none }) rfl (fun K hK => ?_) AllReadyH.nil)
    · go_simp
      have S54 := Lib.hid (heldA12 S53.out (ba w53 (.cells #[] 9)))
      have Q54 := Lib.hid (Q53.out.alloc (.cells #[] 9))
      have X54 := Lib.hid (X53.out.alloc (.cells #[] 9))
      have N54 := Lib.hid (KRow.lit (T := 9) nmC_size w53 (w.heap.size + 2) S53.out.2.2.2 [] #[] rfl 0 rfl (by decide))
      generalize w53.alloc (.cells #[] 9) = w54 at *
      refine hK.out _ _ ?_ (fun hH54 => ?_)
      · exact S54.out
      clear hK K hH53
      try simp only [Act.put, List.setIfInBounds_toArray, List.set_cons_zero, List.set_cons_succ]
      refine wpAnyH_ready (rs := [3, 4]) (by kernel_rfl) (by simp) ?_
      refine AllReadyH.cons (o := { dst := some 46, op := Go.Op.call { callee := Go.Callee.builtin Go.Builtin.append, args := #[Go.Operand.tmp 43, Go.Operand.tmp 45], argTypes := #[22, 22] }, type := 22, pos := "ref.go:63", after := #[{ on := 0, ground := Go.Ground.data }, { on := 2, ground := Go.Ground.data }], guard := none }) rfl (fun K hK => ?_) (AllReadyH.cons (o := { dst := some 47, op := Go.Op.buildSlice 23 0 #[], type := 23, pos := "ref.go:63", after := #[], guard := none }) rfl (fun K hK => ?_) AllReadyH.nil)
      · have A55 := Lib.hid (HNK.out _ S54.out.2.2.1)
        refine step_append_arg (enc := nmC) Try.underlying22 name_info rfl (by omega) nmC_size nmC_one rfl (.tmp 43) (.tmp 45) rfl rfl rfl N54.out A55.out.1 S54.out.2.2.2 (by have := HLN.out; simp; omega) (by have := HLN.out; simp; omega) ?_
        intro v55 w55 r55 b55 k55
        rw [List.nil_append] at r55
        obtain ⟨gN, UC, rfl⟩ := KRow.full r55 HN0'.out
        have S55 := Lib.hid (heldB12 S54.out b55)
        have Q55 := Lib.hid (Q54.out.below b55 (Nat.lt_succ_self _))
        have N55 := Lib.hid r55
        have X55 := Lib.hid (row_kept X54.out (KRow.off N54.out X54.out (by decide)) k55)
        clear r55 b55 k55
        refine hK.out _ _ ?_ (fun hH55 => ?_)
        · exact S55.out
        clear hK K hH54
        try simp only [Act.put, List.setIfInBounds_toArray, List.set_cons_zero, List.set_cons_succ]
        refine wpAnyH_ready (rs := [4]) (by kernel_rfl) (by simp) ?_
        refine AllReadyH.cons (o := { dst := some 47, op := Go.Op.buildSlice 23 0 #[], type := 23, pos := "ref.go:63", after := #[], guard := none }) rfl (fun K hK => ?_) AllReadyH.nil
        · go_simp
          have S56 := Lib.hid (heldA12 S55.out (ba w55 (.cells #[] 48)))
          have Q56 := Lib.hid (Q55.out.alloc (.cells #[] 48))
          have N56 := Lib.hid (KRow.alloc N55.out (.cells #[] 48))
          have X56 := Lib.hid (X55.out.alloc (.cells #[] 48))
          have R56 := Lib.hid (KRow.lit (T := 48) rnC_size w55 (w.heap.size + 2) S55.out.2.2.2 [] #[] rfl 0 rfl (by decide))
          generalize w55.alloc (.cells #[] 48) = w56 at *
          refine hK.out _ _ ?_ (fun hH56 => ?_)
          · exact S56.out
          clear hK K hH55
          try simp only [Act.put, List.setIfInBounds_toArray, List.set_cons_zero, List.set_cons_succ]
          refine wpAnyH_ready (rs := [7]) (by kernel_rfl) (by simp) ?_
          refine AllReadyH.cons (o := { dst := some 50, op := Go.Op.call { callee := Go.Callee.builtin Go.Builtin.append, args := #[Go.Operand.tmp 47, Go.Operand.tmp 49], argTypes := #[23, 23] }, type := 23, pos := "ref.go:63", after := #[{ on := 4, ground := Go.Ground.data }, { on := 6, ground := Go.Ground.data }, { on := 3, ground := Go.Ground.chain }], guard := none }) rfl (fun K hK => ?_) AllReadyH.nil
          · have A57 := Lib.hid (HRK.out _ S56.out.2.2.1)
            refine step_append_arg (enc := rnC) Try.underlying23 run_info rfl (by omega) rnC_size rnC_one rfl (.tmp 47) (.tmp 49) rfl rfl rfl R56.out A57.out S56.out.2.2.2 (by have := HLR.out; simp; omega) (by have := HLR.out; simp; omega) ?_
            intro v57 w57 r57 b57 k57
            rw [List.nil_append] at r57
            obtain ⟨VA, VN, VC, rfl, hVN⟩ := KRow.form r57
            obtain rfl := hVN
            have S57 := Lib.hid (heldB12 S56.out b57)
            have Q57 := Lib.hid (Q56.out.below b57 (Nat.lt_succ_self _))
            have R57 := Lib.hid r57
            have N57 := Lib.hid (KRow.kept N56.out k57 (names_apart R56.out N56.out))
            have X57 := Lib.hid (row_kept X56.out (KRow.off R56.out X56.out (by decide)) k57)
            clear r57 b57 k57
            refine hK.out _ _ ?_ (fun hH57 => ?_)
            · exact S57.out
            clear hK K hH56
            try simp only [Act.put, List.setIfInBounds_toArray, List.set_cons_zero, List.set_cons_succ]
            refine wpAnyH_take (i := 8) (oi := { dst := some 51, op := Go.Op.build 25 #[(0, Go.Operand.tmp 46), (1, Go.Operand.tmp 50)], type := 25, pos := "ref.go:63", after := #[{ on := 3, ground := Go.Ground.data }, { on := 7, ground := Go.Ground.data }], guard := none }) (v := ?_) rfl ?_ ?_ ?_ ?_ (Or.inl ⟨?_, ?_⟩) hH57 ?_
            rotate_left
            · kernel_rfl
            · kernel_rfl
            · kernel_rfl
            · exact fun _ _ _ h => hPn _ _ _ _ _ h
            · kernel_rfl
            · intro wS hSw
              try dsimp only at hSw
              go_simp
              try with_reducible rfl
            try simp only [Act.put, List.setIfInBounds_toArray, List.set_cons_zero, List.set_cons_succ]
            refine wpAnyH_ready (rs := [10]) (by kernel_rfl) (by simp) ?_
            refine AllReadyH.cons (o := { dst := none, op := Go.Op.store 25 (Go.Operand.tmp 11) (Go.Operand.tmp 51), type := 0, pos := "ref.go:63", after := #[{ on := 9, ground := Go.Ground.data }, { on := 8, ground := Go.Ground.data }, { on := 7, ground := Go.Ground.chain }, { on := 0, ground := Go.Ground.phase }, { on := 1, ground := Go.Ground.phase }, { on := 2, ground := Go.Ground.phase }, { on := 3, ground := Go.Ground.phase }, { on := 4, ground := Go.Ground.phase }, { on := 5, ground := Go.Ground.phase }, { on := 6, ground := Go.Ground.phase }, { on := 7, ground := Go.Ground.phase }, { on := 8, ground := Go.Ground.phase }, { on := 9, ground := Go.Ground.phase }], guard := none }) rfl (fun K hK => ?_) AllReadyH.nil
            · refine step_store_at2 X57.out #[.slice (some ⟨gN, 0, none⟩) N.length UC, .slice VA R.length VC] (.tmp 11) (.tmp 51) 25 rfl rfl rfl rfl (by kernel_rfl) rfl rfl ?_
              intro w58 r58 b58 k58
              have S58 := Lib.hid (heldB12 S57.out (b58.mono hgx))
              have Q58 := Lib.hid (Q57.out.below (b58.mono hgx) (Nat.lt_succ_self _))
              have X58 := Lib.hid r58
              have N58 := Lib.hid (KRow.apart N57.out k58 (fun e => KRow.off N57.out X57.out (by decide) e))
              have R58 := Lib.hid (KRow.apart R57.out k58 (fun e => KRow.off R57.out X57.out (by decide) e))
              clear r58 b58 k58
              refine hK.out _ _ ?_ (fun hH58 => ?_)
              · exact S58.out
              clear hK K hH57
              try simp only [Act.put, List.setIfInBounds_toArray, List.set_cons_zero, List.set_cons_succ]
              refine wpAnyH_done (by kernel_rfl) ?_ _
              exact hK _ _ _ _ _ _ _ _ _ _ _ _ _ _ _ S58.out Q58.out N58.out R58.out X58.out hgx
      · go_simp
        have S59 := Lib.hid (heldA12 S54.out (ba w54 (.cells #[] 48)))
        have Q59 := Lib.hid (Q54.out.alloc (.cells #[] 48))
        have N59 := Lib.hid (KRow.alloc N54.out (.cells #[] 48))
        have X59 := Lib.hid (X54.out.alloc (.cells #[] 48))
        have R59 := Lib.hid (KRow.lit (T := 48) rnC_size w54 (w.heap.size + 2) S54.out.2.2.2 [] #[] rfl 0 rfl (by decide))
        generalize w54.alloc (.cells #[] 48) = w59 at *
        refine hK.out _ _ ?_ (fun hH59 => ?_)
        · exact S59.out
        clear hK K hH54
        try simp only [Act.put, List.setIfInBounds_toArray, List.set_cons_zero, List.set_cons_succ]
        refine wpAnyH_ready (rs := [3]) (by kernel_rfl) (by simp) ?_
        refine AllReadyH.cons (o := { dst := some 46, op := Go.Op.call { callee := Go.Callee.builtin Go.Builtin.append, args := #[Go.Operand.tmp 43, Go.Operand.tmp 45], argTypes := #[22, 22] }, type := 22, pos := "ref.go:63", after := #[{ on := 0, ground := Go.Ground.data }, { on := 2, ground := Go.Ground.data }], guard := none }) rfl (fun K hK => ?_) AllReadyH.nil
        · have A60 := Lib.hid (HNK.out _ S59.out.2.2.1)
          refine step_append_arg (enc := nmC) Try.underlying22 name_info rfl (by omega) nmC_size nmC_one rfl (.tmp 43) (.tmp 45) rfl rfl rfl N59.out A60.out.1 S59.out.2.2.2 (by have := HLN.out; simp; omega) (by have := HLN.out; simp; omega) ?_
          intro v60 w60 r60 b60 k60
          rw [List.nil_append] at r60
          obtain ⟨gN, UC, rfl⟩ := KRow.full r60 HN0'.out
          have S60 := Lib.hid (heldB12 S59.out b60)
          have Q60 := Lib.hid (Q59.out.below b60 (Nat.lt_succ_self _))
          have N60 := Lib.hid r60
          have R60 := Lib.hid (KRow.kept R59.out k60 (runs_apart N59.out R59.out))
          have X60 := Lib.hid (row_kept X59.out (KRow.off N59.out X59.out (by decide)) k60)
          clear r60 b60 k60
          refine hK.out _ _ ?_ (fun hH60 => ?_)
          · exact S60.out
          clear hK K hH59
          try simp only [Act.put, List.setIfInBounds_toArray, List.set_cons_zero, List.set_cons_succ]
          refine wpAnyH_ready (rs := [7]) (by kernel_rfl) (by simp) ?_
          refine AllReadyH.cons (o := { dst := some 50, op := Go.Op.call { callee := Go.Callee.builtin Go.Builtin.append, args := #[Go.Operand.tmp 47, Go.Operand.tmp 49], argTypes := #[23, 23] }, type := 23, pos := "ref.go:63", after := #[{ on := 4, ground := Go.Ground.data }, { on := 6, ground := Go.Ground.data }, { on := 3, ground := Go.Ground.chain }], guard := none }) rfl (fun K hK => ?_) AllReadyH.nil
          · have A61 := Lib.hid (HRK.out _ S60.out.2.2.1)
            refine step_append_arg (enc := rnC) Try.underlying23 run_info rfl (by omega) rnC_size rnC_one rfl (.tmp 47) (.tmp 49) rfl rfl rfl R60.out A61.out S60.out.2.2.2 (by have := HLR.out; simp; omega) (by have := HLR.out; simp; omega) ?_
            intro v61 w61 r61 b61 k61
            rw [List.nil_append] at r61
            obtain ⟨VA, VN, VC, rfl, hVN⟩ := KRow.form r61
            obtain rfl := hVN
            have S61 := Lib.hid (heldB12 S60.out b61)
            have Q61 := Lib.hid (Q60.out.below b61 (Nat.lt_succ_self _))
            have R61 := Lib.hid r61
            have N61 := Lib.hid (KRow.kept N60.out k61 (names_apart R60.out N60.out))
            have X61 := Lib.hid (row_kept X60.out (KRow.off R60.out X60.out (by decide)) k61)
            clear r61 b61 k61
            refine hK.out _ _ ?_ (fun hH61 => ?_)
            · exact S61.out
            clear hK K hH60
            try simp only [Act.put, List.setIfInBounds_toArray, List.set_cons_zero, List.set_cons_succ]
            refine wpAnyH_take (i := 8) (oi := { dst := some 51, op := Go.Op.build 25 #[(0, Go.Operand.tmp 46), (1, Go.Operand.tmp 50)], type := 25, pos := "ref.go:63", after := #[{ on := 3, ground := Go.Ground.data }, { on := 7, ground := Go.Ground.data }], guard := none }) (v := ?_) rfl ?_ ?_ ?_ ?_ (Or.inl ⟨?_, ?_⟩) hH61 ?_
            rotate_left
            · kernel_rfl
            · kernel_rfl
            · kernel_rfl
            · exact fun _ _ _ h => hPn _ _ _ _ _ h
            · kernel_rfl
            · intro wS hSw
              try dsimp only at hSw
              go_simp
              try with_reducible rfl
            try simp only [Act.put, List.setIfInBounds_toArray, List.set_cons_zero, List.set_cons_succ]
            refine wpAnyH_ready (rs := [10]) (by kernel_rfl) (by simp) ?_
            refine AllReadyH.cons (o := { dst := none, op := Go.Op.store 25 (Go.Operand.tmp 11) (Go.Operand.tmp 51), type := 0, pos := "ref.go:63", after := #[{ on := 9, ground := Go.Ground.data }, { on := 8, ground := Go.Ground.data }, { on := 7, ground := Go.Ground.chain }, { on := 0, ground := Go.Ground.phase }, { on := 1, ground := Go.Ground.phase }, { on := 2, ground := Go.Ground.phase }, { on := 3, ground := Go.Ground.phase }, { on := 4, ground := Go.Ground.phase }, { on := 5, ground := Go.Ground.phase }, { on := 6, ground := Go.Ground.phase }, { on := 7, ground := Go.Ground.phase }, { on := 8, ground := Go.Ground.phase }, { on := 9, ground := Go.Ground.phase }], guard := none }) rfl (fun K hK => ?_) AllReadyH.nil
            · refine step_store_at2 X61.out #[.slice (some ⟨gN, 0, none⟩) N.length UC, .slice VA R.length VC] (.tmp 11) (.tmp 51) 25 rfl rfl rfl rfl (by kernel_rfl) rfl rfl ?_
              intro w62 r62 b62 k62
              have S62 := Lib.hid (heldB12 S61.out (b62.mono hgx))
              have Q62 := Lib.hid (Q61.out.below (b62.mono hgx) (Nat.lt_succ_self _))
              have X62 := Lib.hid r62
              have N62 := Lib.hid (KRow.apart N61.out k62 (fun e => KRow.off N61.out X61.out (by decide) e))
              have R62 := Lib.hid (KRow.apart R61.out k62 (fun e => KRow.off R61.out X61.out (by decide) e))
              clear r62 b62 k62
              refine hK.out _ _ ?_ (fun hH62 => ?_)
              · exact S62.out
              clear hK K hH61
              try simp only [Act.put, List.setIfInBounds_toArray, List.set_cons_zero, List.set_cons_succ]
              refine wpAnyH_done (by kernel_rfl) ?_ _
              exact hK _ _ _ _ _ _ _ _ _ _ _ _ _ _ _ S62.out Q62.out N62.out R62.out X62.out hgx
    · go_simp
      have S63 := Lib.hid (heldA12 S53.out (ba w53 (.cells #[] 48)))
      have Q63 := Lib.hid (Q53.out.alloc (.cells #[] 48))
      have X63 := Lib.hid (X53.out.alloc (.cells #[] 48))
      have R63 := Lib.hid (KRow.lit (T := 48) rnC_size w53 (w.heap.size + 2) S53.out.2.2.2 [] #[] rfl 0 rfl (by decide))
      generalize w53.alloc (.cells #[] 48) = w63 at *
      refine hK.out _ _ ?_ (fun hH63 => ?_)
      · exact S63.out
      clear hK K hH53
      try simp only [Act.put, List.setIfInBounds_toArray, List.set_cons_zero, List.set_cons_succ]
      refine wpAnyH_ready (rs := [0]) (by kernel_rfl) (by simp) ?_
      refine AllReadyH.cons (o := { dst := some 43, op := Go.Op.buildSlice 22 0 #[], type := 22, pos := "ref.go:63", after := #[], guard := none }) rfl (fun K hK => ?_) AllReadyH.nil
      · go_simp
        have S64 := Lib.hid (heldA12 S63.out (ba w63 (.cells #[] 9)))
        have Q64 := Lib.hid (Q63.out.alloc (.cells #[] 9))
        have R64 := Lib.hid (KRow.alloc R63.out (.cells #[] 9))
        have X64 := Lib.hid (X63.out.alloc (.cells #[] 9))
        have N64 := Lib.hid (KRow.lit (T := 9) nmC_size w63 (w.heap.size + 2) S63.out.2.2.2 [] #[] rfl 0 rfl (by decide))
        generalize w63.alloc (.cells #[] 9) = w64 at *
        refine hK.out _ _ ?_ (fun hH64 => ?_)
        · exact S64.out
        clear hK K hH63
        try simp only [Act.put, List.setIfInBounds_toArray, List.set_cons_zero, List.set_cons_succ]
        refine wpAnyH_ready (rs := [3]) (by kernel_rfl) (by simp) ?_
        refine AllReadyH.cons (o := { dst := some 46, op := Go.Op.call { callee := Go.Callee.builtin Go.Builtin.append, args := #[Go.Operand.tmp 43, Go.Operand.tmp 45], argTypes := #[22, 22] }, type := 22, pos := "ref.go:63", after := #[{ on := 0, ground := Go.Ground.data }, { on := 2, ground := Go.Ground.data }], guard := none }) rfl (fun K hK => ?_) AllReadyH.nil
        · have A65 := Lib.hid (HNK.out _ S64.out.2.2.1)
          refine step_append_arg (enc := nmC) Try.underlying22 name_info rfl (by omega) nmC_size nmC_one rfl (.tmp 43) (.tmp 45) rfl rfl rfl N64.out A65.out.1 S64.out.2.2.2 (by have := HLN.out; simp; omega) (by have := HLN.out; simp; omega) ?_
          intro v65 w65 r65 b65 k65
          rw [List.nil_append] at r65
          obtain ⟨gN, UC, rfl⟩ := KRow.full r65 HN0'.out
          have S65 := Lib.hid (heldB12 S64.out b65)
          have Q65 := Lib.hid (Q64.out.below b65 (Nat.lt_succ_self _))
          have N65 := Lib.hid r65
          have R65 := Lib.hid (KRow.kept R64.out k65 (runs_apart N64.out R64.out))
          have X65 := Lib.hid (row_kept X64.out (KRow.off N64.out X64.out (by decide)) k65)
          clear r65 b65 k65
          refine hK.out _ _ ?_ (fun hH65 => ?_)
          · exact S65.out
          clear hK K hH64
          try simp only [Act.put, List.setIfInBounds_toArray, List.set_cons_zero, List.set_cons_succ]
          refine wpAnyH_ready (rs := [7]) (by kernel_rfl) (by simp) ?_
          refine AllReadyH.cons (o := { dst := some 50, op := Go.Op.call { callee := Go.Callee.builtin Go.Builtin.append, args := #[Go.Operand.tmp 47, Go.Operand.tmp 49], argTypes := #[23, 23] }, type := 23, pos := "ref.go:63", after := #[{ on := 4, ground := Go.Ground.data }, { on := 6, ground := Go.Ground.data }, { on := 3, ground := Go.Ground.chain }], guard := none }) rfl (fun K hK => ?_) AllReadyH.nil
          · have A66 := Lib.hid (HRK.out _ S65.out.2.2.1)
            refine step_append_arg (enc := rnC) Try.underlying23 run_info rfl (by omega) rnC_size rnC_one rfl (.tmp 47) (.tmp 49) rfl rfl rfl R65.out A66.out S65.out.2.2.2 (by have := HLR.out; simp; omega) (by have := HLR.out; simp; omega) ?_
            intro v66 w66 r66 b66 k66
            rw [List.nil_append] at r66
            obtain ⟨VA, VN, VC, rfl, hVN⟩ := KRow.form r66
            obtain rfl := hVN
            have S66 := Lib.hid (heldB12 S65.out b66)
            have Q66 := Lib.hid (Q65.out.below b66 (Nat.lt_succ_self _))
            have R66 := Lib.hid r66
            have N66 := Lib.hid (KRow.kept N65.out k66 (names_apart R65.out N65.out))
            have X66 := Lib.hid (row_kept X65.out (KRow.off R65.out X65.out (by decide)) k66)
            clear r66 b66 k66
            refine hK.out _ _ ?_ (fun hH66 => ?_)
            · exact S66.out
            clear hK K hH65
            try simp only [Act.put, List.setIfInBounds_toArray, List.set_cons_zero, List.set_cons_succ]
            refine wpAnyH_take (i := 8) (oi := { dst := some 51, op := Go.Op.build 25 #[(0, Go.Operand.tmp 46), (1, Go.Operand.tmp 50)], type := 25, pos := "ref.go:63", after := #[{ on := 3, ground := Go.Ground.data }, { on := 7, ground := Go.Ground.data }], guard := none }) (v := ?_) rfl ?_ ?_ ?_ ?_ (Or.inl ⟨?_, ?_⟩) hH66 ?_
            rotate_left
            · kernel_rfl
            · kernel_rfl
            · kernel_rfl
            · exact fun _ _ _ h => hPn _ _ _ _ _ h
            · kernel_rfl
            · intro wS hSw
              try dsimp only at hSw
              go_simp
              try with_reducible rfl
            try simp only [Act.put, List.setIfInBounds_toArray, List.set_cons_zero, List.set_cons_succ]
            refine wpAnyH_ready (rs := [10]) (by kernel_rfl) (by simp) ?_
            refine AllReadyH.cons (o := { dst := none, op := Go.Op.store 25 (Go.Operand.tmp 11) (Go.Operand.tmp 51), type := 0, pos := "ref.go:63", after := #[{ on := 9, ground := Go.Ground.data }, { on := 8, ground := Go.Ground.data }, { on := 7, ground := Go.Ground.chain }, { on := 0, ground := Go.Ground.phase }, { on := 1, ground := Go.Ground.phase }, { on := 2, ground := Go.Ground.phase }, { on := 3, ground := Go.Ground.phase }, { on := 4, ground := Go.Ground.phase }, { on := 5, ground := Go.Ground.phase }, { on := 6, ground := Go.Ground.phase }, { on := 7, ground := Go.Ground.phase }, { on := 8, ground := Go.Ground.phase }, { on := 9, ground := Go.Ground.phase }], guard := none }) rfl (fun K hK => ?_) AllReadyH.nil
            · refine step_store_at2 X66.out #[.slice (some ⟨gN, 0, none⟩) N.length UC, .slice VA R.length VC] (.tmp 11) (.tmp 51) 25 rfl rfl rfl rfl (by kernel_rfl) rfl rfl ?_
              intro w67 r67 b67 k67
              have S67 := Lib.hid (heldB12 S66.out (b67.mono hgx))
              have Q67 := Lib.hid (Q66.out.below (b67.mono hgx) (Nat.lt_succ_self _))
              have X67 := Lib.hid r67
              have N67 := Lib.hid (KRow.apart N66.out k67 (fun e => KRow.off N66.out X66.out (by decide) e))
              have R67 := Lib.hid (KRow.apart R66.out k67 (fun e => KRow.off R66.out X66.out (by decide) e))
              clear r67 b67 k67
              refine hK.out _ _ ?_ (fun hH67 => ?_)
              · exact S67.out
              clear hK K hH66
              try simp only [Act.put, List.setIfInBounds_toArray, List.set_cons_zero, List.set_cons_succ]
              refine wpAnyH_done (by kernel_rfl) ?_ _
              exact hK _ _ _ _ _ _ _ _ _ _ _ _ _ _ _ S67.out Q67.out N67.out R67.out X67.out hgx

set_option maxRecDepth 100000 in
set_option maxHeartbeats 8000000 in
theorem rrename_any (N : List ByteArray) (R : List Rn) (o s : ByteArray) (vN vR : Value) (w : World) (hN : NmArg w vN N) (hs : szs N) (hR : RnArg w vR R) (hn : R.length ≤ 16000) (hnn : N.length ≤ 4096) (hsz : s.size ≤ 140737488351232) :
    Calls Try.prog 16 #[.agg #[vN, vR], .string o, .string s] w fun e w' => ∃ v1 v2 : Value, e = .returned (.tuple #[.agg #[v1, v2], .int .i64 (rnE N R o s)]) ∧ NmArg w' v1 (rnN N R o s) ∧ RnArg w' v2 (rnR N R o s) ∧ Below w.heap.size w w' := by
  have HK := Lib.hid (fun w' (hb : Below w.heap.size w w') => rcheck_any N R vN vR w' (hN.keep hb) hs (hR.keep hb) (by omega))
  have HI := Lib.hid (fun w' (hb : Below w.heap.size w w') => place12_any N vN o w' (hN.keep hb) (by omega))
  have HI2 := Lib.hid (fun w' (hb : Below w.heap.size w w') => place12_any N vN s w' (hN.keep hb) (by omega))
  have HGd := Lib.hid (fun w' => goodOne_any s w' (by omega))
  have HNK := Lib.hid (fun w' (hb : Below w.heap.size w w') => hN.keep hb)
  have HRK := Lib.hid (fun w' (hb : Below w.heap.size w w') => hR.keep hb)
  have HLN := Lib.hid hnn
  have HLR := Lib.hid hn
  obtain ⟨A1, c1, rfl, _⟩ := hN.form
  obtain ⟨A2, c2, rfl⟩ := hR.form
  have B0 := Lib.hid ((ba w (.cells #[.slice A1 N.length c1, .slice A2 R.length c2] 25)).alloc (ba w _).size (.cells #[.slice none 0 0, .slice none 0 0] 25))
  have P0 := Lib.hid ((RowAt.new w 25 #[.slice A1 N.length c1, .slice A2 R.length c2]).alloc (.cells #[.slice none 0 0, .slice none 0 0] 25))
  have Q0' := RowAt.new (w.alloc (.cells #[.slice A1 N.length c1, .slice A2 R.length c2] 25)) 25 #[.slice none 0 0, .slice none 0 0]
  rw [World.size_alloc] at Q0'
  have Q0 := Lib.hid Q0'
  clear Q0' hN hR
  have g0 := P0.out.cell 0
  have g1 := P0.out.cell 1
  by_cases hz : ckC N R = 0
  · have hck := ckC_ok hz
    have hn0 := hck.2.2.1
    rw [hz] at HK
    by_cases hi : ix N o < 0
    · have he := rn_8 (s := s) hz hi
      have hne : ¬ rnE N R o s = 0 := by rw [he]; exact by decide
      have HN0 := Lib.hid (rnN_no hne)
      have HR0 := Lib.hid (rnR_no hne)
      have HE := Lib.hid he
      clear hne he
      clear hz hck HI2 HGd
      generalize ix N o = i at *
      go_enter Try.func16, Try.ntmps16
      go_wp2_with (first
        | (go_at_call 30; go_must (refine (HK.out _ B0.out).mono ?_; rintro e1 w1 ⟨rfl, b1⟩; have B1 := Lib.hid (B0.out.trans (b1.mono B0.out.size)); have P1 := Lib.hid (P0.out.keep b1); have Q1 := Lib.hid (Q0.out.keep b1); have g0 := P1.out.cell 0; have g1 := P1.out.cell 1; have k0 := Q1.out.cell 0; have k1 := Q1.out.cell 1; have z0 := Q1.out.frozen 0; have z1 := Q1.out.frozen 1; clear b1))
        | (go_at_call 31; go_must (refine (HI.out _ B1.out).mono ?_; rintro e2 w2 ⟨rfl, rfl⟩)))
      have e0 := (two_set (v0 := .slice none 0 0) (v1 := .slice none 0 0) k0 k1).1
      have e1 := (two_set (v0 := .slice none 0 0) (v1 := .slice none 0 0) k0 k1).2
      refine bodyPost_ret (v := .tuple #[.agg #[.slice none 0 0, .slice none 0 0], .int .i64 8]) (by simp [results, Try.results16, go_sem, e0, e1]) rfl ⟨_, _, by rw [HE.out], by rw [HN0.out]; exact nm_nil _, by rw [HR0.out]; exact rn_nil _, Below.setCell (Below.setCell B1.out (Nat.le_succ _) _) (Nat.le_succ _) _⟩
    · cases hnm : nmB s with
      | false =>
        have he := rn_4 hz hi hnm
        have hne : ¬ rnE N R o s = 0 := by rw [he]; exact by decide
        have HN0 := Lib.hid (rnN_no hne)
        have HR0 := Lib.hid (rnR_no hne)
        have HE := Lib.hid he
        clear hne he
        rw [hnm] at HGd
        have hi' : ¬ ix N o < 0 := hi
        clear hz hck HI2 hi
        generalize ix N o = i at *
        go_enter Try.func16, Try.ntmps16
        go_wp2_with (first
          | (go_at_call 30; go_must (refine (HK.out _ B0.out).mono ?_; rintro e1 w1 ⟨rfl, b1⟩; have B1 := Lib.hid (B0.out.trans (b1.mono B0.out.size)); have P1 := Lib.hid (P0.out.keep b1); have Q1 := Lib.hid (Q0.out.keep b1); clear g0 g1; have g0 := P1.out.cell 0; have g1 := P1.out.cell 1; have k0 := Q1.out.cell 0; have k1 := Q1.out.cell 1; have z0 := Q1.out.frozen 0; have z1 := Q1.out.frozen 1; clear b1))
          | (go_at_call 31; go_must (refine (HI.out _ B1.out).mono ?_; rintro e2 w2 ⟨rfl, rfl⟩))
          | (go_at_call 38; go_must (refine (HGd.out _).mono ?_; rintro e3 w3 ⟨rfl, b3'⟩; have b3 := (ba w1 (.cells #[.string s] 9)).trans (b3'.mono (ba w1 _).size); have B3 := Lib.hid (B1.out.trans (b3.mono B1.out.size)); have P3 := Lib.hid (P1.out.keep b3); have Q3 := Lib.hid (Q1.out.keep b3); clear g0 g1 k0 k1 z0 z1; have g0 := P3.out.cell 0; have g1 := P3.out.cell 1; have k0 := Q3.out.cell 0; have k1 := Q3.out.cell 1; have z0 := Q3.out.frozen 0; have z1 := Q3.out.frozen 1; clear b3 b3')))
        have e0 := (two_set (v0 := .slice none 0 0) (v1 := .slice none 0 0) k0 k1).1
        have e1 := (two_set (v0 := .slice none 0 0) (v1 := .slice none 0 0) k0 k1).2
        refine bodyPost_ret (v := .tuple #[.agg #[.slice none 0 0, .slice none 0 0], .int .i64 4]) (by simp [results, Try.results16, go_sem, e0, e1]) rfl ⟨_, _, by rw [HE.out], by rw [HN0.out]; exact nm_nil _, by rw [HR0.out]; exact rn_nil _, Below.setCell (Below.setCell B3.out (Nat.le_succ _) _) (Nat.le_succ _) _⟩
      | true =>
        rw [hnm] at HGd
        have hi' : ¬ ix N o < 0 := hi
        have hir := ix_range N o
        have hsr := ix_range N s
        by_cases hd : 0 ≤ ix N s ∧ ix N s ≠ ix N o
        · have he := rn_9 hz hi hnm hd
          have hne : ¬ rnE N R o s = 0 := by rw [he]; exact by decide
          have HN0 := Lib.hid (rnN_no hne)
          have HR0 := Lib.hid (rnR_no hne)
          have HE := Lib.hid he
          have d1 : decide (0 ≤ ix N s) = true := decide_eq_true hd.1
          have d2 : (ix N s != ix N o) = true := by simpa using hd.2
          have d3 : (ix N s == ix N o) = false := by simpa using hd.2
          have d4 : 0 ≤ ix N s := hd.1
          clear hne he hz hck hi hd
          generalize ix N o = i at *
          generalize ix N s = i2 at *
          go_enter Try.func16, Try.ntmps16
          go_wp2_with (first
            | (go_at_call 30; go_must (refine (HK.out _ B0.out).mono ?_; rintro e1 w1 ⟨rfl, b1⟩; have B1 := Lib.hid (B0.out.trans (b1.mono B0.out.size)); have P1 := Lib.hid (P0.out.keep b1); have Q1 := Lib.hid (Q0.out.keep b1); clear g0 g1; have g0 := P1.out.cell 0; have g1 := P1.out.cell 1; have k0 := Q1.out.cell 0; have k1 := Q1.out.cell 1; have z0 := Q1.out.frozen 0; have z1 := Q1.out.frozen 1; clear b1))
            | (go_at_call 31; go_must (first | (have tok := B3.out; refine (HI2.out _ B3.out).mono ?_; rintro e4 w4 ⟨rfl, rfl⟩) | (refine (HI.out _ B1.out).mono ?_; rintro e2 w2 ⟨rfl, rfl⟩)))
            | (go_at_call 38; go_must (refine (HGd.out _).mono ?_; rintro e3 w3 ⟨rfl, b3'⟩; have b3 := (ba w1 (.cells #[.string s] 9)).trans (b3'.mono (ba w1 _).size); have B3 := Lib.hid (B1.out.trans (b3.mono B1.out.size)); have P3 := Lib.hid (P1.out.keep b3); have Q3 := Lib.hid (Q1.out.keep b3); clear g0 g1 k0 k1 z0 z1; have g0 := P3.out.cell 0; have g1 := P3.out.cell 1; have k0 := Q3.out.cell 0; have k1 := Q3.out.cell 1; have z0 := Q3.out.frozen 0; have z1 := Q3.out.frozen 1; clear b3 b3')))
          have e0 := (two_set (v0 := .slice none 0 0) (v1 := .slice none 0 0) k0 k1).1
          have e1 := (two_set (v0 := .slice none 0 0) (v1 := .slice none 0 0) k0 k1).2
          refine bodyPost_ret (v := .tuple #[.agg #[.slice none 0 0, .slice none 0 0], .int .i64 9]) (by simp [results, Try.results16, go_sem, e0, e1]) rfl ⟨_, _, by rw [HE.out], by rw [HN0.out]; exact nm_nil _, by rw [HR0.out]; exact rn_nil _, Below.setCell (Below.setCell B3.out (Nat.le_succ _) _) (Nat.le_succ _) _⟩
        · have he := rn_0 hz hi hnm hd
          have HN0 := Lib.hid (rnN_0 he)
          have HR0 := Lib.hid (rnR_0 he)
          have HE := Lib.hid he
          obtain ⟨j, hj, ej, _⟩ := ix_at (show 0 ≤ ix N o by omega)
          have eN : ixN N o = j := by unfold ixN; rw [ej]; rfl
          rw [eN] at HN0
          have HN0' := Lib.hid hn0
          have hjn : (j : Int) < (N.length : Int) := by omega
          have HJ := Lib.hid hj
          rw [ej] at HI
          have hcases : (¬ 0 ≤ ix N s) ∨ (0 ≤ ix N s ∧ ix N s = (j : Int)) := by
            by_cases c0 : 0 ≤ ix N s
            · refine Or.inr ⟨c0, ?_⟩
              apply Classical.byContradiction
              intro c1
              exact hd ⟨c0, by rw [ej]; exact c1⟩
            · exact Or.inl c0
          clear he hz hck hi hd hi' hir hsr ej eN
          rcases hcases with c0 | ⟨c0, c1⟩
          · have d1 : decide (0 ≤ ix N s) = false := decide_eq_false c0
            generalize ix N s = i2 at *
            go_enter Try.func16, Try.ntmps16
            go_wp2_with (first
              | (go_at_call 30; go_must (refine (HK.out _ B0.out).mono ?_; rintro e1 w1 ⟨rfl, b1⟩; have B1 := Lib.hid (B0.out.trans (b1.mono B0.out.size)); have P1 := Lib.hid (P0.out.keep b1); have Q1 := Lib.hid (Q0.out.keep b1); clear g0 g1; have g0 := P1.out.cell 0; have g1 := P1.out.cell 1; have k0 := Q1.out.cell 0; have k1 := Q1.out.cell 1; have z0 := Q1.out.frozen 0; have z1 := Q1.out.frozen 1; clear b1))
              | (go_at_call 31; go_must (first | (have tok := B3.out; refine (HI2.out _ B3.out).mono ?_; rintro e4 w4 ⟨rfl, rfl⟩) | (refine (HI.out _ B1.out).mono ?_; rintro e2 w2 ⟨rfl, rfl⟩)))
              | (go_at_call 38; go_must (refine (HGd.out _).mono ?_; rintro e3 w3 ⟨rfl, b3'⟩; have b3 := (ba w1 (.cells #[.string s] 9)).trans (b3'.mono (ba w1 _).size); have B3 := Lib.hid (B1.out.trans (b3.mono B1.out.size)); have P3 := Lib.hid (P1.out.keep b3); have Q3 := Lib.hid (Q1.out.keep b3); clear g0 g1 k0 k1 z0 z1; have g0 := P3.out.cell 0; have g1 := P3.out.cell 1; have k0 := Q3.out.cell 0; have k1 := Q3.out.cell 1; have z0 := Q3.out.frozen 0; have z1 := Q3.out.frozen 1; clear b3 b3')))
            refine ren_region N R A1 A2 c1 c2 w w3 _ _ _ _ _ _ _ _ _ _ _ _ _ _ _ _ _ _ _ _ _ _ _ _ _ _ _ _ _ _ _ _ _ _ _ _ _ _ _ _ _ _ _ _ _ _ _ _ _ _ _ _ _ _ _ _ _ (fun _ _ _ _ _ h => h) HNK HRK HLN HLR HN0' (Lib.hid ⟨P3.out.cell 0, P3.out.cell 1, B3.out.drew, Q3.out.lt⟩) (Lib.hid (show RowAt w3.drew (w.heap.size + 1) 25 #[.slice none 0 0, .slice none 0 0] from Q3.out)) ?_
            intro gN UC VA VC bx x43 x44 x45 x46 x47 x48 x49 x50 x51 W9 hS hQ hN9 hR9 hX hbx
            clear g0 g1 k0 k1 z0 z1
            have gl := (KRow.len hN9)
            have y0 := hX.cell 0
            have y1 := hX.cell 1
            have yn := NmRow.one hN9 j HJ.out
            have yn0 := yn.1
            have yn1 := yn.2
            have HNS := Lib.hid (KRow.cellSet nmC_size hN9 j 0 HJ.out (by omega) (.string s) s rfl)
            simp only [Nat.mul_one, Nat.add_zero] at HNS
            have HRS := Lib.hid (KRow.kept hR9 (fun q _ hne => heap_setCell_other W9 ⟨gN, j, none⟩ (.string s) q (fun e => hne (by rw [e]; rfl))) (runs_apart hN9 hR9))
            have hgb : gN ≠ bx := fun e => KRow.off hN9 hX (by decide) (by rw [e]; rfl)
            have hgq : gN ≠ w.heap.size + 1 := by omega
            have HXS := Lib.hid (hX.other ⟨gN, j, none⟩ (.string s) hgb)
            have HQS := Lib.hid (hQ.other ⟨gN, j, none⟩ (.string s) hgq)
            have BS := Lib.hid (Below.setCell hS.2.2.1 (show w.heap.size ≤ (⟨gN, j, none⟩ : Addr).block by show w.heap.size ≤ gN; omega) (.string s))
            have xs0 := HXS.out.cell 0
            have xs1 := HXS.out.cell 1
            have k0 := HQS.out.cell 0
            have k1 := HQS.out.cell 1
            have z0 := HQS.out.frozen 0
            have z1 := HQS.out.frozen 1
            clear hS hQ hR9 hN9 yn
            go_wp2
            have e0 := (two_set (v0 := .slice (some ⟨gN, 0, none⟩) N.length UC) (v1 := .slice VA R.length VC) k0 k1).1
            have e1 := (two_set (v0 := .slice (some ⟨gN, 0, none⟩) N.length UC) (v1 := .slice VA R.length VC) k0 k1).2
            refine bodyPost_ret (v := .tuple #[.agg #[.slice (some ⟨gN, 0, none⟩) N.length UC, .slice VA R.length VC], .int .i64 0]) (by simp [results, Try.results16, go_sem, e0, e1]) rfl ⟨_, _, by rw [HE.out], by rw [HN0.out]; exact KRow.name (show NmRow _ (w.heap.size + 2) (.slice (some ⟨gN, 0, none⟩) N.length UC) _ from KRow.set2 HNS.out (Nat.lt_succ_self _) _ _), by rw [HR0.out]; exact KRow.arg rnC_size (KRow.set2 HRS.out (Nat.lt_succ_self _) _ _), Below.setCell (Below.setCell BS.out (Nat.le_succ _) _) (Nat.le_succ _) _⟩
          · have d1 : decide (0 ≤ ix N s) = true := decide_eq_true c0
            have d2 : (ix N s != (j : Int)) = false := by rw [c1]; simp
            have d3 : (ix N s == (j : Int)) = true := by rw [c1]; simp
            rw [c1] at HI2 d1 d2 d3 c0
            clear c1
            go_enter Try.func16, Try.ntmps16
            go_wp2_with (first
              | (go_at_call 30; go_must (refine (HK.out _ B0.out).mono ?_; rintro e1 w1 ⟨rfl, b1⟩; have B1 := Lib.hid (B0.out.trans (b1.mono B0.out.size)); have P1 := Lib.hid (P0.out.keep b1); have Q1 := Lib.hid (Q0.out.keep b1); clear g0 g1; have g0 := P1.out.cell 0; have g1 := P1.out.cell 1; have k0 := Q1.out.cell 0; have k1 := Q1.out.cell 1; have z0 := Q1.out.frozen 0; have z1 := Q1.out.frozen 1; clear b1))
              | (go_at_call 31; go_must (first | (have tok := B3.out; refine (HI2.out _ B3.out).mono ?_; rintro e4 w4 ⟨rfl, rfl⟩) | (refine (HI.out _ B1.out).mono ?_; rintro e2 w2 ⟨rfl, rfl⟩)))
              | (go_at_call 38; go_must (refine (HGd.out _).mono ?_; rintro e3 w3 ⟨rfl, b3'⟩; have b3 := (ba w1 (.cells #[.string s] 9)).trans (b3'.mono (ba w1 _).size); have B3 := Lib.hid (B1.out.trans (b3.mono B1.out.size)); have P3 := Lib.hid (P1.out.keep b3); have Q3 := Lib.hid (Q1.out.keep b3); clear g0 g1 k0 k1 z0 z1; have g0 := P3.out.cell 0; have g1 := P3.out.cell 1; have k0 := Q3.out.cell 0; have k1 := Q3.out.cell 1; have z0 := Q3.out.frozen 0; have z1 := Q3.out.frozen 1; clear b3 b3')))
            refine ren_region N R A1 A2 c1 c2 w w3 _ _ _ _ _ _ _ _ _ _ _ _ _ _ _ _ _ _ _ _ _ _ _ _ _ _ _ _ _ _ _ _ _ _ _ _ _ _ _ _ _ _ _ _ _ _ _ _ _ _ _ _ _ _ _ _ _ (fun _ _ _ _ _ h => h) HNK HRK HLN HLR HN0' (Lib.hid ⟨P3.out.cell 0, P3.out.cell 1, B3.out.drew, Q3.out.lt⟩) (Lib.hid (show RowAt w3.drew (w.heap.size + 1) 25 #[.slice none 0 0, .slice none 0 0] from Q3.out)) ?_
            intro gN UC VA VC bx x43 x44 x45 x46 x47 x48 x49 x50 x51 W9 hS hQ hN9 hR9 hX hbx
            clear g0 g1 k0 k1 z0 z1
            have gl := (KRow.len hN9)
            have y0 := hX.cell 0
            have y1 := hX.cell 1
            have yn := NmRow.one hN9 j HJ.out
            have yn0 := yn.1
            have yn1 := yn.2
            have HNS := Lib.hid (KRow.cellSet nmC_size hN9 j 0 HJ.out (by omega) (.string s) s rfl)
            simp only [Nat.mul_one, Nat.add_zero] at HNS
            have HRS := Lib.hid (KRow.kept hR9 (fun q _ hne => heap_setCell_other W9 ⟨gN, j, none⟩ (.string s) q (fun e => hne (by rw [e]; rfl))) (runs_apart hN9 hR9))
            have hgb : gN ≠ bx := fun e => KRow.off hN9 hX (by decide) (by rw [e]; rfl)
            have hgq : gN ≠ w.heap.size + 1 := by omega
            have HXS := Lib.hid (hX.other ⟨gN, j, none⟩ (.string s) hgb)
            have HQS := Lib.hid (hQ.other ⟨gN, j, none⟩ (.string s) hgq)
            have BS := Lib.hid (Below.setCell hS.2.2.1 (show w.heap.size ≤ (⟨gN, j, none⟩ : Addr).block by show w.heap.size ≤ gN; omega) (.string s))
            have xs0 := HXS.out.cell 0
            have xs1 := HXS.out.cell 1
            have k0 := HQS.out.cell 0
            have k1 := HQS.out.cell 1
            have z0 := HQS.out.frozen 0
            have z1 := HQS.out.frozen 1
            clear hS hQ hR9 hN9 yn
            go_wp2
            have e0 := (two_set (v0 := .slice (some ⟨gN, 0, none⟩) N.length UC) (v1 := .slice VA R.length VC) k0 k1).1
            have e1 := (two_set (v0 := .slice (some ⟨gN, 0, none⟩) N.length UC) (v1 := .slice VA R.length VC) k0 k1).2
            refine bodyPost_ret (v := .tuple #[.agg #[.slice (some ⟨gN, 0, none⟩) N.length UC, .slice VA R.length VC], .int .i64 0]) (by simp [results, Try.results16, go_sem, e0, e1]) rfl ⟨_, _, by rw [HE.out], by rw [HN0.out]; exact KRow.name (show NmRow _ (w.heap.size + 2) (.slice (some ⟨gN, 0, none⟩) N.length UC) _ from KRow.set2 HNS.out (Nat.lt_succ_self _) _ _), by rw [HR0.out]; exact KRow.arg rnC_size (KRow.set2 HRS.out (Nat.lt_succ_self _) _ _), Below.setCell (Below.setCell BS.out (Nat.le_succ _) _) (Nat.le_succ _) _⟩
  · have he := rn_c (o := o) (s := s) hz
    have hne : ¬ rnE N R o s = 0 := by rw [he]; exact hz
    have HN0 := Lib.hid (rnN_no hne)
    have HR0 := Lib.hid (rnR_no hne)
    have HE := Lib.hid he
    clear hne he
    have hyz : (ckC N R == 0) = false := by simpa using hz
    clear HI HGd
    generalize ckC N R = r at *
    clear hz
    go_enter Try.func16, Try.ntmps16
    go_wp2_with (first
      | (go_at_call 30; go_must (refine (HK.out _ B0.out).mono ?_; rintro e1 w1 ⟨rfl, b1⟩; have B1 := Lib.hid (B0.out.trans (b1.mono B0.out.size)); have P1 := Lib.hid (P0.out.keep b1); have Q1 := Lib.hid (Q0.out.keep b1); have g0 := P1.out.cell 0; have g1 := P1.out.cell 1; have k0 := Q1.out.cell 0; have k1 := Q1.out.cell 1; have z0 := Q1.out.frozen 0; have z1 := Q1.out.frozen 1; clear b1)))
    have e0 := (two_set (v0 := .slice none 0 0) (v1 := .slice none 0 0) k0 k1).1
    have e1 := (two_set (v0 := .slice none 0 0) (v1 := .slice none 0 0) k0 k1).2
    refine bodyPost_ret (v := .tuple #[.agg #[.slice none 0 0, .slice none 0 0], .int .i64 r]) (by simp [results, Try.results16, go_sem, e0, e1]) rfl ⟨_, _, by rw [HE.out], by rw [HN0.out]; exact nm_nil _, by rw [HR0.out]; exact rn_nil _, Below.setCell (Below.setCell B1.out (Nat.le_succ _) _) (Nat.le_succ _) _⟩
end Go.Proofs.Yteccafndplaklaa

namespace Go.Proofs.Yteccafndplaklaa
open Go Go.RowKit Go.Joins
set_option linter.unusedVariables false
set_option linter.unusedSimpArgs false

theorem kn_ge {N M : List ByteArray} {i : Nat} (h : Kn N M (i + 1)) (hi : i < M.length) : i + 1 ≤ kn N M := by
  have e : M = M.take (i + 1) ++ M.drop (i + 1) := (List.take_append_drop _ _).symm
  have hall : ∀ a ∈ M.take (i + 1), has N a = true := by
    intro a ha
    obtain ⟨q, hq, rfl⟩ := List.mem_iff_getElem.1 ha
    rw [List.length_take] at hq
    rw [List.getElem_take]
    exact h q (by omega) (by omega)
  have h2 : (M.takeWhile (has N)) = M.take (i + 1) ++ (M.drop (i + 1)).takeWhile (has N) := by
    conv => lhs; rw [e]
    exact List.takeWhile_append_of_pos hall
  unfold kn
  rw [h2, List.length_append, List.length_take]
  omega
theorem wrap_b {b : Int} {q : Nat} (hb : b = 0 ∨ b = 1) (hq : q ≤ 15) : IntKind.i64.wrap (b * 2 ^ q) = b * 2 ^ q := by
  have h1 : (2 : Nat) ^ q ≤ 2 ^ 15 := Nat.pow_le_pow_right (by omega) hq
  have e : (2 : Int) ^ q = ((2 ^ q : Nat) : Int) := by simp
  have h0 : 0 < (2 : Nat) ^ q := Nat.pow_pos (by omega)
  rcases hb with rfl | rfl
  · rw [Int.zero_mul]; exact IntWalk.i64_in _ (by omega)
  · rw [Int.one_mul, e]; exact IntWalk.i64_in _ (by omega)
theorem heldS6 {w w4 W W' : World} {g p : Nat} {x0 x1 : Value} (h : W.cell? ⟨w.heap.size, 1, none⟩ = some x0 ∧ W.cell? ⟨g, p, none⟩ = some x1 ∧ Below w4.heap.size w4 W ∧ w4.heap.size < W.heap.size) (hb : Below W.heap.size W W') (hg : w.heap.size < w4.heap.size ∧ g < w4.heap.size) :
    W'.cell? ⟨w.heap.size, 1, none⟩ = some x0 ∧ W'.cell? ⟨g, p, none⟩ = some x1 ∧ Below w4.heap.size w4 W' ∧ w4.heap.size < W'.heap.size := by
  obtain ⟨h0, h1, h2, h3⟩ := h
  have := hb.size
  exact ⟨(hb.cell (p := ⟨w.heap.size, 1, none⟩) (show w.heap.size < _ by omega)).trans h0, (hb.cell (p := ⟨g, p, none⟩) (show g < _ by omega)).trans h1, h2.trans (hb.mono h2.size), by omega⟩
theorem heldT6 {w w4 W W' : World} {g p : Nat} {x0 x1 : Value} (h : W.cell? ⟨w.heap.size, 1, none⟩ = some x0 ∧ W.cell? ⟨g, p, none⟩ = some x1 ∧ Below w4.heap.size w4 W ∧ w4.heap.size < W.heap.size) (hb : Below (w4.heap.size + 1) W W') (hg : w.heap.size < w4.heap.size ∧ g < w4.heap.size) :
    W'.cell? ⟨w.heap.size, 1, none⟩ = some x0 ∧ W'.cell? ⟨g, p, none⟩ = some x1 ∧ Below w4.heap.size w4 W' ∧ w4.heap.size < W'.heap.size := by
  obtain ⟨h0, h1, h2, h3⟩ := h
  have := hb.size
  exact ⟨(hb.cell (p := ⟨w.heap.size, 1, none⟩) (show w.heap.size < _ by omega)).trans h0, (hb.cell (p := ⟨g, p, none⟩) (show g < _ by omega)).trans h1, h2.trans (hb.mono (by omega)), by omega⟩
theorem sel_lv6 (ks : List Nat) (R : List Rn) : lv (mk ks.length) (sel ks R) := by
  intro r hr
  obtain ⟨q, _, rfl⟩ := List.mem_map.1 hr
  have := sb_range ks q.1
  unfold mk
  show 0 ≤ sb ks q.1 ∧ sb ks q.1 ≤ _
  omega
theorem twice_no {M : List ByteArray} {i k : Nat} (hi : i < M.length) (hm : M[i] ∈ M.take i) (hk : i + 1 ≤ k) (hnd : (M.take k).Nodup) : False := by
  have h1 : (M.take (i + 1)).Nodup := by
    have e : M.take (i + 1) = (M.take k).take (i + 1) := by rw [List.take_take, Nat.min_eq_left hk]
    rw [e]
    exact hnd.sublist (List.take_sublist _ _)
  rw [List.take_succ_eq_append_getElem hi] at h1
  obtain ⟨q, hq, e⟩ := List.mem_iff_getElem.1 hm
  have := (List.nodup_append.1 h1).2.2
  exact this _ hm _ (by simp) rfl

set_option maxRecDepth 100000 in
set_option maxHeartbeats 16000000 in
theorem rselect_any (N : List ByteArray) (R : List Rn) (M : List ByteArray) (vN vR vM : Value) (w : World) (hN : NmArg w vN N) (hs : szs N) (hR : RnArg w vR R) (hn : R.length ≤ 16000) (hM : NmArg w vM M) (hsM : szs M) (hm : M.length ≤ 4096) (hnn : N.length ≤ 4096) :
    Calls Try.prog 13 #[.agg #[vN, vR], vM] w fun e w' => ∃ v1 v2 : Value, e = .returned (.tuple #[.agg #[v1, v2], .int .i64 (seE N R M)]) ∧ NmArg w' v1 (seN N R M) ∧ RnArg w' v2 (seR N R M) ∧ Below w.heap.size w w' := by
  have HK := Lib.hid (fun w' (hb : Below w.heap.size w w') => rcheck_any N R vN vR w' (hN.keep hb) hs (hR.keep hb) (by omega))
  have HNK := Lib.hid (fun w' (hb : Below w.heap.size w w') => hN.keep hb)
  have HMK := Lib.hid (fun w' (hb : Below w.heap.size w w') => hM.keep hb)
  have HRK := Lib.hid (fun w' (hb : Below w.heap.size w w') => hR.keep hb)
  obtain ⟨A1, c1, rfl, _⟩ := hN.form
  obtain ⟨A2, c2, rfl, hRc⟩ := hR
  obtain ⟨A3, c3, rfl, hc3, hMc⟩ := hM.form
  have HRC := Lib.hid hRc
  have HMC := Lib.hid hMc
  have B0 := Lib.hid ((ba w (.cells #[.slice A1 N.length c1, .slice A2 R.length c2] 25)).alloc (ba w _).size (.cells #[.slice none 0 0, .slice none 0 0] 25))
  have P0 := Lib.hid ((RowAt.new w 25 #[.slice A1 N.length c1, .slice A2 R.length c2]).alloc (.cells #[.slice none 0 0, .slice none 0 0] 25))
  have Q0' := RowAt.new (w.alloc (.cells #[.slice A1 N.length c1, .slice A2 R.length c2] 25)) 25 #[.slice none 0 0, .slice none 0 0]
  rw [World.size_alloc] at Q0'
  have Q0 := Lib.hid Q0'
  clear Q0' hN hRc hM hMc hs hsM
  have g0 := P0.out.cell 0
  have g1 := P0.out.cell 1
  by_cases hz : ckC N R = 0
  rotate_left
  · have he := se_c (M := M) hz
    have hne : ¬ seE N R M = 0 := by rw [he]; exact hz
    have HN0 := Lib.hid (seN_no hne)
    have HR0 := Lib.hid (seR_no hne)
    have HE := Lib.hid he
    have hyz : (ckC N R == 0) = false := by simpa using hz
    have hyz' : (ckC N R != 0) = true := by simpa using hz
    clear hne he HNK HMK HRK HRC HMC
    generalize ckC N R = r at *
    clear hz
    go_enter Try.func13, Try.ntmps13
    go_wp2_with (first
      | (go_at_call 30; go_must (refine (HK.out _ B0.out).mono ?_; rintro e1 w1 ⟨rfl, b1⟩; have B1 := Lib.hid (B0.out.trans (b1.mono B0.out.size)); have P1 := Lib.hid (P0.out.keep b1); have Q1 := Lib.hid (Q0.out.keep b1); clear g0 g1; have g0 := P1.out.cell 0; have g1 := P1.out.cell 1; have k0 := Q1.out.cell 0; have k1 := Q1.out.cell 1; have z0 := Q1.out.frozen 0; have z1 := Q1.out.frozen 1; clear b1)))
    have e0 := (two_set (v0 := .slice none 0 0) (v1 := .slice none 0 0) k0 k1).1
    have e1 := (two_set (v0 := .slice none 0 0) (v1 := .slice none 0 0) k0 k1).2
    refine bodyPost_ret (v := .tuple #[.agg #[.slice none 0 0, .slice none 0 0], .int .i64 r]) (by simp [results, Try.results13, go_sem, e0, e1]) rfl ⟨_, _, by rw [HE.out], by rw [HN0.out]; exact nm_nil _, by rw [HR0.out]; exact rn_nil _, Below.setCell (Below.setCell B1.out (Nat.le_succ _) _) (Nat.le_succ _) _⟩
  have hck := ckC_ok hz
  rw [hz] at HK
  by_cases h0 : M.length = 0
  · have he : seE N R M = 1 := by rw [se_s hz]; exact ckS_none h0
    have hne : ¬ seE N R M = 0 := by rw [he]; exact by decide
    have HN0 := Lib.hid (seN_no hne)
    have HR0 := Lib.hid (seR_no hne)
    have HE := Lib.hid he
    clear hne he
    obtain rfl : M = [] := List.eq_nil_of_length_eq_zero h0
    clear h0 HNK HMK HRK HRC HMC hz hck
    go_enter Try.func13, Try.ntmps13
    go_wp2_with (first
      | (go_at_call 30; go_must (refine (HK.out _ B0.out).mono ?_; rintro e1 w1 ⟨rfl, b1⟩; have B1 := Lib.hid (B0.out.trans (b1.mono B0.out.size)); have P1 := Lib.hid (P0.out.keep b1); have Q1 := Lib.hid (Q0.out.keep b1); clear g0 g1; have g0 := P1.out.cell 0; have g1 := P1.out.cell 1; have k0 := Q1.out.cell 0; have k1 := Q1.out.cell 1; have z0 := Q1.out.frozen 0; have z1 := Q1.out.frozen 1; clear b1)))
    have e0 := (two_set (v0 := .slice none 0 0) (v1 := .slice none 0 0) k0 k1).1
    have e1 := (two_set (v0 := .slice none 0 0) (v1 := .slice none 0 0) k0 k1).2
    refine bodyPost_ret (v := .tuple #[.agg #[.slice none 0 0, .slice none 0 0], .int .i64 1]) (by simp [results, Try.results13, go_sem, e0, e1]) rfl ⟨_, _, by rw [HE.out], by rw [HN0.out]; exact nm_nil _, by rw [HR0.out]; exact rn_nil _, Below.setCell (Below.setCell B1.out (Nat.le_succ _) _) (Nat.le_succ _) _⟩
  have hz0 : ((M.length : Int) == 0) = false := by rw [beq_eq_false_iff_ne]; omega
  obtain ⟨gM, oM, rfl, hgM, hMcell⟩ := HMC.out (by omega)
  have HMCE := Lib.hid hMcell
  have hcE : ¬ c3 = 0 := by omega
  have HZ := Lib.hid hz
  have H0 := Lib.hid h0
  clear hMcell HMC hz h0
  go_enter Try.func13, Try.ntmps13
  go_wp2_with (first
    | (go_at_call 30; go_must (refine (HK.out _ B0.out).mono ?_; rintro e1 w1 ⟨rfl, b1⟩; have B1 := Lib.hid (B0.out.trans (b1.mono B0.out.size)); have P1 := Lib.hid (P0.out.keep b1); have Q1 := Lib.hid (Q0.out.keep b1); clear g0 g1; have g0 := P1.out.cell 0; have g1 := P1.out.cell 1; have k0 := Q1.out.cell 0; have k1 := Q1.out.cell 1; have z0 := Q1.out.frozen 0; have z1 := Q1.out.frozen 1; clear b1)))
  have MA := Lib.hid (HMK.out _ B1.out)
  have NA := Lib.hid (HNK.out _ B1.out)
  go_loopw [7] (fun x wr => ∃ (i m : Nat), i ≤ M.length ∧ x = .int .i64 i ∧ Hid (Kn N M i) ∧ Hid ((M.take i).Nodup) ∧ wr = w1.drewN m) (fun x _ => M.length - (intOf x).toNat)
  case atStart => exact ⟨0, 0, by omega, rfl, Lib.hid (fun j hj h => absurd h (by omega)), Lib.hid (by simp), rfl⟩
  case round =>
    obtain ⟨i, m, hi, rfl, HKn, HNd, rfl⟩ := hrel
    by_cases hil : i < M.length
    · have f0 := (B1.out.cell (p := ⟨gM, oM + i, none⟩) hgM).trans (HMCE.out i hil)
      have PQ := Lib.hid (fun q => (place12_any N _ M[i] (w1.drewN q) (NA.out.keep (Go.below_drewN (Below.refl _ _) q)) (by omega)).mono fun _ _ h => And.intro h.1 h.2.symm)
      have HTk := Lib.hid (NmArg.take (c := c3) (w := w1) (g := gM) (o := oM) i hi hc3 (Nat.lt_of_lt_of_le hgM B1.out.size) (fun j hj => (B1.out.cell (p := ⟨gM, oM + j, none⟩) hgM).trans (HMCE.out j hj)))
      have PT := Lib.hid (fun q => (place12_any (M.take i) _ M[i] (w1.drewN q) (HTk.out.keep (Go.below_drewN (Below.refl _ _) q)) (by rw [List.length_take]; omega)).mono fun _ _ h => And.intro h.1 h.2.symm)
      by_cases ha : ix N M[i] < 0
      · have he : seE N R M = 8 := by
          rw [se_s HZ.out]
          have hh : has N M[i] = false := by rw [← ix_has]; exact decide_eq_false (by omega)
          have hk := kn_eq HKn.out hi (fun _ => hh)
          exact ckS_8 H0.out (by rw [hk]; exact dp_no.2 HNd.out) (by omega)
        have hne : ¬ seE N R M = 0 := by rw [he]; exact by decide
        have HN0 := Lib.hid (seN_no hne)
        have HR0 := Lib.hid (seR_no hne)
        have HE := Lib.hid he
        clear hne he
        have ha' : decide (ix N M[i] < 0) = true := decide_eq_true ha
        clear HTk PT HKn HNd HMCE
        generalize ix N M[i] = a at *
        generalize M[i] = s at *
        clear k0 k1 z0 z1
        go_wp2
        go_quiet ((go_at_call 31; go_must (with_reducible exact (PQ.out _).mono fun _ _ h => ⟨h.1, _, h.2⟩)))
        have PW := P1.out.keep (Go.below_drewN (Go.below_drewN (Below.refl w1.heap.size w1) m) nq)
        have QW := Q1.out.keep (Go.below_drewN (Go.below_drewN (Below.refl w1.heap.size w1) m) nq)
        have BW := Go.below_drewN (Go.below_drewN B1.out m) nq
        generalize (w1.drewN m).drewN nq = wq at *
        have k0 := QW.cell 0
        have k1 := QW.cell 1
        have z0 := QW.frozen 0
        have z1 := QW.frozen 1
        clear PW QW
        go_wp2
        have e0 := (two_set (v0 := .slice none 0 0) (v1 := .slice none 0 0) k0 k1).1
        have e1 := (two_set (v0 := .slice none 0 0) (v1 := .slice none 0 0) k0 k1).2
        refine bodyPost_ret (v := .tuple #[.agg #[.slice none 0 0, .slice none 0 0], .int .i64 8]) (by simp [results, Try.results13, go_sem, e0, e1]) rfl ⟨_, _, by rw [HE.out], by rw [HN0.out]; exact nm_nil _, by rw [HR0.out]; exact rn_nil _, Below.setCell (Below.setCell BW (Nat.le_succ _) _) (Nat.le_succ _) _⟩
      · have ha' : decide (ix N M[i] < 0) = false := decide_eq_false ha
        have hh : has N M[i] = true := by rw [← ix_has]; exact decide_eq_true (by omega)
        have HK2 := Lib.hid (show Kn N M (i + 1) from fun q hq hlt => by
          by_cases e : q = i
          · subst e; exact hh
          · exact HKn.out q hq (by omega))
        have hla : -1 ≤ ix N M[i] := by have := ix_range N M[i]; omega
        by_cases hb : 0 ≤ ix (M.take i) M[i]
        · have he : seE N R M = 9 := by
            rw [se_s HZ.out]
            have hh2 : has (M.take i) M[i] = true := by rw [← ix_has]; exact decide_eq_true hb
            exact ckS_9 H0.out (dp_iff.2 fun hnd => twice_no hil (has_iff.1 hh2) (kn_ge HK2.out hil) hnd)
          have hne : ¬ seE N R M = 0 := by rw [he]; exact by decide
          have HN0 := Lib.hid (seN_no hne)
          have HR0 := Lib.hid (seR_no hne)
          have HE := Lib.hid he
          clear hne he
          have hb' : decide (0 ≤ ix (M.take i) M[i]) = true := decide_eq_true hb
          clear HKn HNd HMCE HK2 hh
          generalize ix N M[i] = a at *
          generalize ix (M.take i) M[i] = b at *
          generalize M[i] = s at *
          clear k0 k1 z0 z1
          go_wp2
          go_quiet ((go_at_call 31; go_must (with_reducible exact (PQ.out _).mono fun _ _ h => ⟨h.1, _, h.2⟩)))
          try rw [World.drewN_drewN]
          generalize m + nq = m2 at *
          go_wp2
          go_quiet ((go_at_call 31; go_must (with_reducible exact (PT.out _).mono fun _ _ h => ⟨h.1, _, h.2⟩)))
          have PW := P1.out.keep (Go.below_drewN (Go.below_drewN (Below.refl w1.heap.size w1) m2) nq)
          have QW := Q1.out.keep (Go.below_drewN (Go.below_drewN (Below.refl w1.heap.size w1) m2) nq)
          have BW := Go.below_drewN (Go.below_drewN B1.out m2) nq
          generalize (w1.drewN m2).drewN nq = wq at *
          have k0 := QW.cell 0
          have k1 := QW.cell 1
          have z0 := QW.frozen 0
          have z1 := QW.frozen 1
          clear PW QW
          go_wp2
          have e0 := (two_set (v0 := .slice none 0 0) (v1 := .slice none 0 0) k0 k1).1
          have e1 := (two_set (v0 := .slice none 0 0) (v1 := .slice none 0 0) k0 k1).2
          refine bodyPost_ret (v := .tuple #[.agg #[.slice none 0 0, .slice none 0 0], .int .i64 9]) (by simp [results, Try.results13, go_sem, e0, e1]) rfl ⟨_, _, by rw [HE.out], by rw [HN0.out]; exact nm_nil _, by rw [HR0.out]; exact rn_nil _, Below.setCell (Below.setCell BW (Nat.le_succ _) _) (Nat.le_succ _) _⟩
        · have hb' : decide (0 ≤ ix (M.take i) M[i]) = false := decide_eq_false hb
          have hh2 : has (M.take i) M[i] = false := by rw [← ix_has]; exact decide_eq_false hb
          have HND2 := Lib.hid (show (M.take (i + 1)).Nodup by
            rw [List.take_succ_eq_append_getElem hil]
            refine (nodup_two HNd.out (by simp)).2 fun x hx => ?_
            rcases List.mem_singleton.1 hx with rfl
            exact has_no.1 hh2)
          clear HKn HNd HMCE hh hh2
          generalize ix N M[i] = a at *
          generalize ix (M.take i) M[i] = b at *
          generalize M[i] = s at *
          go_wp2
          go_quiet ((go_at_call 31; go_must (with_reducible exact (PQ.out _).mono fun _ _ h => ⟨h.1, _, h.2⟩)))
          go_wp2
          go_quiet ((go_at_call 31; go_must (with_reducible exact (PT.out _).mono fun _ _ h => ⟨h.1, _, h.2⟩)))
          go_wp2
          go_roundw
          case rel => exact ⟨i + 1, _, by omega, by go_num, HK2, HND2, rfl⟩
          case measure => simp [intOf]; omega
    · have hMl : i = M.length := by omega
      subst hMl
      have hcs : ckS N M = 0 := by
        have hk : kn N M = M.length := kn_eq HKn.out (Nat.le_refl _) (fun h => absurd h (by omega))
        refine ckS_0 H0.out ?_ (by omega)
        rw [hk]
        exact dp_no.2 HNd.out
      have he : seE N R M = 0 := by rw [se_s HZ.out]; exact hcs
      obtain ⟨hcM, hall, hnd, hM0, hMN⟩ := ckS_ok hck.2.1 hcs
      have hM16 : M.length ≤ 16 := by omega
      have HN0 := Lib.hid (seN_0 he)
      have HR0 := Lib.hid (seR_0 he)
      have HE := Lib.hid he
      have HAll := Lib.hid hall
      have HV := Lib.hid hck.2.2.2.2.2
      have HN16 := Lib.hid hck.2.2.2.1
      obtain ⟨KS, hK⟩ : ∃ KS, KS = M.map (ixN N) := ⟨_, rfl⟩
      rw [← hK] at HR0
      have HKl := Lib.hid (show KS.length = M.length by rw [hK, List.length_map])
      have HKa := Lib.hid (show ∀ q (hq : q < M.length) (hq' : q < KS.length), KS[q] = ixN N M[q] by intro q hq hq'; subst hK; simp)
      have BW := Lib.hid (Go.below_drewN B1.out m)
      have PW := Lib.hid (P1.out.keep (Go.below_drewN (Below.refl w1.heap.size w1) m))
      have QW := Lib.hid (Q1.out.keep (Go.below_drewN (Below.refl w1.heap.size w1) m))
      clear he hcs hcM hall hnd hM0 hMN hck HKn HNd hK k0 k1 z0 z1 HK
      generalize w1.drewN m = wq at *
      have KN := Lib.hid (KRow.lit (T := 9) nmC_size wq wq.heap.size (Nat.le_refl _) [] #[] rfl 0 rfl (by decide))
      have KM := Lib.hid ((HMK.out _ BW.out).keep (ba wq (.cells #[] 9)))
      have bW := Lib.hid (ba wq (.cells #[] 9))
      have s0 : w.heap.size + 2 ≤ wq.heap.size := QW.out.lt
      clear g0 g1
      go_wp2_with (first
        | (at_builtin; go_must (refine wpList_append_arg (X := ([] : List ByteArray)) (Y := M) (o := ⟨some 49, _, _, _, _, _⟩) Try.underlying22 name_info rfl (by omega) nmC_size nmC_one rfl (.tmp 47) (.tmp 48) rfl rfl rfl KN.out KM.out.1 (ba wq _).size (by simp; omega) (by simp; omega) ?_; intro v4 w4 r4 b4; rw [List.nil_append] at r4; obtain ⟨UA, UN, UC, rfl, hUN⟩ := KRow.form r4; obtain rfl := hUN; have b4' : Below wq.heap.size wq w4 := bW.out.trans b4; have B4 := Lib.hid (BW.out.trans (b4'.mono BW.out.size)); have P4 := Lib.hid (PW.out.keep b4'); have Q4 := Lib.hid (QW.out.keep b4'); have R4 := Lib.hid (KRow.mono r4 s0); clear r4 b4 b4')))
      have X4 := Lib.hid (RowAt.new w4 25 #[.slice UA M.length UC, .slice none 0 0])
      have C4 := Lib.hid (ba w4 (.cells #[.slice UA M.length UC, .slice none 0 0] 25))
      have HGW := Lib.hid (show ∀ g, g < w.heap.size → g < w4.heap.size from fun g h => Nat.lt_of_lt_of_le h B4.out.size)
      go_loopw [9] (fun x wr => ∃ (j : Nat) (v : Value), j ≤ R.length ∧ x = .int .i64 j ∧ Hid (RowAt wr w4.heap.size 25 #[.slice UA M.length UC, v]) ∧ Hid (RnRow wr (w4.heap.size + 1) v (sel KS (R.take j))) ∧ Hid (Below w4.heap.size w4 wr)) (fun x _ => R.length - (intOf x).toNat)
      case atStart => exact ⟨0, _, Nat.zero_le _, rfl, X4, Lib.hid (KRow.nil _ _), C4⟩
      case round =>
        obtain ⟨j, v, hj, rfl, HX, HR, HC⟩ := hrel
        have HB := Lib.hid (B4.out.trans (HC.out.mono B4.out.size))
        have PR := Lib.hid (P4.out.keep HC.out)
        have QR := Lib.hid (Q4.out.keep HC.out)
        obtain ⟨VA, VN, VC, rfl, hVN⟩ := KRow.form HR.out
        clear hVN
        have g0 := PR.out.cell 0
        have g1 := PR.out.cell 1
        have x0' := HX.out.cell 0
        have x1' := HX.out.cell 1
        by_cases hjl : j < R.length
        · obtain ⟨g, o, rfl, hg, hcell⟩ := HRC.out (by omega)
          have f0 := (HB.out.cell (p := ⟨g, o + j * 2, none⟩) hg).trans (arg_two hcell j hjl).1
          have f1 := (HB.out.cell (p := ⟨g, o + j * 2 + 1, none⟩) hg).trans (arg_two hcell j hjl).2
          have hel := el_range HV.out j hjl
          have hmk := mk_range HN16.out
          have HST := Lib.hid (show sel KS (R.take (j + 1)) = sel KS (R.take j) ++ [(sb KS R[j].1, R[j].2)] by unfold sel; rw [List.take_succ_eq_append_getElem hjl, List.map_append]; rfl)
          have hM1 : (sel KS (R.take j)).length + 1 ≤ 140737488355328 := by unfold sel; rw [List.length_map, List.length_take]; omega
          have hM2 : ((sel KS (R.take j)).length + 1) * 16 ≤ 140737488355328 := by unfold sel; rw [List.length_map, List.length_take]; omega
          have HM1 := Lib.hid hM1
          have HM2 := Lib.hid hM2
          have HX0 := Lib.hid (show 0 ≤ R[j].1 ∧ R[j].1 ≤ 65535 from ⟨hel.1.1, by omega⟩)
          have hx0 := HX0.out.1
          have hx1 := HX0.out.2
          have HG := Lib.hid hg
          clear hcell hel hmk hM1 hM2
          generalize R[j].1 = x0 at *
          generalize R[j].2 = x1 at *
          go_wp2
          go_loopw [10, 11] (fun a x wr2 => ∃ (q mm : Nat) (acc : Int), q ≤ M.length ∧ x = .int .i64 q ∧ a = .int .i64 acc ∧ Hid (acc = sb (KS.take q) x0) ∧ wr2 = wr.drewN mm) (fun _ x _ => M.length - (intOf x).toNat)
          case atStart => exact ⟨0, 0, 0, Nat.zero_le _, rfl, rfl, Lib.hid rfl, rfl⟩
          case round =>
            rename_i hrel
            obtain ⟨q, mm, acc, hq, rfl, rfl, HA, rfl⟩ := hrel
            by_cases hql : q < M.length
            · have f2 := (HB.out.cell (p := ⟨gM, oM + q, none⟩) hgM).trans (HMCE.out q hql)
              have PQ2 := Lib.hid (fun q' => (place12_any N _ M[q] (wr.drewN q') ((HNK.out _ HB.out).keep (Go.below_drewN (Below.refl _ _) q')) (by omega)).mono fun _ _ h => And.intro h.1 h.2.symm)
              have hix := ix_range N M[q]
              have hge := ix_ge (HAll.out _ (List.getElem_mem hql))
              obtain ⟨p, hp⟩ : ∃ p : Nat, ix N M[q] = (p : Int) := ⟨(ix N M[q]).toNat, by omega⟩
              have hpl : p ≤ 15 := by have := HN16.out; omega
              have hKq : q < KS.length := by rw [HKl.out]; exact hql
              have hstep := sb_take KS q hKq x0
              rw [HKa.out q hql hKq, show ixN N M[q] = p by unfold ixN; rw [hp]; rfl, ← HA.out] at hstep
              have hrg := sb_range (KS.take q) x0
              rw [List.length_take, Nat.min_eq_left (Nat.le_of_lt hKq), ← HA.out] at hrg
              have hbt := shr_and2 x0 p hx0 (by omega)
              have hor := or_step (b := bt x0 p) hrg.1 hrg.2 (bt_01 x0 p) (show q ≤ 15 by omega)
              have hwb := wrap_b (bt_01 x0 p) (show q ≤ 15 by omega)
              have HS2 := Lib.hid hstep
              have hq15 : q ≤ 15 := by omega
              rw [hp] at PQ2
              clear hstep hrg hix hge hp hKq HA
              generalize M[q] = s at *
              generalize hB : bt x0 p = bb at *
              generalize hP : bb * 2 ^ q = P2 at *
              have hwb2 : IntKind.i64.wrap (bb * 2 ^ q) = P2 := by rw [hP]; exact hwb
              clear hB hP hwb
              go_wp2
              go_quiet ((go_at_call 31; go_must (with_reducible exact (PQ2.out _).mono fun _ _ h => ⟨h.1, _, h.2⟩)))
              go_wp2
              go_roundw
              case rel => exact ⟨q + 1, _, acc + P2, by omega, by go_num, by first | rfl | exact val_int hor, Lib.hid HS2.out.symm, rfl⟩
              case measure => simp [intOf]; omega
            · have HAC := Lib.hid (show acc = sb KS x0 by have := HA.out; rw [List.take_of_length_le (by rw [HKl.out]; omega)] at this; exact this)
              have BZ := Go.below_drewN (Below.refl wr.heap.size wr) mm
              have XZ := Lib.hid (HX.out.keep BZ)
              have PZ := Lib.hid (PR.out.keep BZ)
              have RZ := Lib.hid (KRow.keep HR.out BZ)
              have HCZ := Lib.hid (HC.out.trans (BZ.mono HC.out.size))
              have f1' := (BZ.cell (p := ⟨g, o + j * 2 + 1, none⟩) (Nat.lt_of_lt_of_le hg HB.out.size)).trans f1
              have HX2 := Lib.hid (show sel KS (R.take (j + 1)) = sel KS (R.take j) ++ [(acc, x1)] by rw [HAC.out]; exact HST.out)
              clear HST HA x0' x1' g0 g1 f0 f1 BZ HX HR
              generalize wr.drewN mm = wz at *
              have g1 := PZ.out.cell 1
              have x1' := XZ.out.cell 1
              go_wp2
              have HGW1 := Lib.hid (show w.heap.size < w4.heap.size ∧ g < w4.heap.size from ⟨P4.out.lt, HGW.out g HG.out⟩)
              have S0 := Lib.hid (show wz.drew.cell? ⟨w.heap.size, 1, none⟩ = some (.slice (some ⟨g, o, none⟩) R.length c2) ∧ wz.drew.cell? ⟨g, o + j * 2 + 1, none⟩ = some (.int .i64 x1) ∧ Below w4.heap.size w4 wz.drew ∧ w4.heap.size < wz.drew.heap.size from ⟨PZ.out.cell 1, f1', HCZ.out.drew, XZ.out.lt⟩)
              have XD := Lib.hid (show RowAt wz.drew w4.heap.size 25 #[.slice UA M.length UC, .slice VA VN VC] from XZ.out)
              have RD := Lib.hid (KRow.drewN RZ.out 1)
              change Hid (RnRow wz.drew _ _ _) at RD
              clear XZ PZ RZ HCZ f1' g1 x1'
              refine wp_region_held_drew (S := fun w' => w'.cell? ⟨w.heap.size, 1, none⟩ = some (.slice (some ⟨g, o, none⟩) R.length c2) ∧ w'.cell? ⟨g, o + j * 2 + 1, none⟩ = some (.int .i64 x1) ∧ Below w4.heap.size w4 w' ∧ w4.heap.size < w'.heap.size) (by kernel_rfl) ?_ (fun hH => ?_)
              · exact S0.out
              generalize wz.drew = WD at *
              have x1' := XD.out.cell 1
              refine wpAnyH_take (i := 0) (oi := { dst := some 83, op := Go.Op.fieldAddr 25 (Go.Operand.tmp 8) 1, type := 0, pos := "ref.go:42", after := #[], guard := none }) (v := ?_) rfl ?_ ?_ ?_ ?_ (Or.inl ⟨?_, ?_⟩) hH ?_
              rotate_left
              · kernel_rfl
              · kernel_rfl
              · kernel_rfl
              · exact fun _ _ _ h => h
              · kernel_rfl
              · intro wS hSw
                try dsimp only at hSw
                go_simp
                try with_reducible rfl
              try simp only [Act.put, List.setIfInBounds_toArray, List.set_cons_zero, List.set_cons_succ]
              refine wpAnyH_take (i := 2) (oi := { dst := some 85, op := Go.Op.move (Go.Operand.tmp 10), type := 3, pos := "ref.go:42", after := #[], guard := none }) (v := ?_) rfl ?_ ?_ ?_ ?_ (Or.inl ⟨?_, ?_⟩) hH ?_
              rotate_left
              · kernel_rfl
              · kernel_rfl
              · kernel_rfl
              · exact fun _ _ _ h => h
              · kernel_rfl
              · intro wS hSw
                try dsimp only at hSw
                go_simp
                try with_reducible rfl
              try simp only [Act.put, List.setIfInBounds_toArray, List.set_cons_zero, List.set_cons_succ]
              refine wpAnyH_take (i := 3) (oi := { dst := some 86, op := Go.Op.fieldAddr 25 (Go.Operand.tmp 2) 1, type := 0, pos := "ref.go:42", after := #[], guard := none }) (v := ?_) rfl ?_ ?_ ?_ ?_ (Or.inl ⟨?_, ?_⟩) hH ?_
              rotate_left
              · kernel_rfl
              · kernel_rfl
              · kernel_rfl
              · exact fun _ _ _ h => h
              · kernel_rfl
              · intro wS hSw
                try dsimp only at hSw
                go_simp
                try with_reducible rfl
              try simp only [Act.put, List.setIfInBounds_toArray, List.set_cons_zero, List.set_cons_succ]
              refine wpAnyH_take (i := 4) (oi := { dst := some 87, op := Go.Op.load 23 (Go.Operand.tmp 86), type := 23, pos := "ref.go:42", after := #[{ on := 3, ground := Go.Ground.data }], guard := none }) (v := ?_) rfl ?_ ?_ ?_ ?_ (Or.inl ⟨?_, ?_⟩) hH ?_
              rotate_left
              · kernel_rfl
              · kernel_rfl
              · kernel_rfl
              · exact fun _ _ _ h => h
              · kernel_rfl
              · intro wS hSw
                try dsimp only at hSw
                go_simp
                try with_reducible rfl
              try simp only [Act.put, List.setIfInBounds_toArray, List.set_cons_zero, List.set_cons_succ]
              refine wpAnyH_take (i := 5) (oi := { dst := some 88, op := Go.Op.move (Go.Operand.tmp 9), type := 3, pos := "ref.go:42", after := #[], guard := none }) (v := ?_) rfl ?_ ?_ ?_ ?_ (Or.inl ⟨?_, ?_⟩) hH ?_
              rotate_left
              · kernel_rfl
              · kernel_rfl
              · kernel_rfl
              · exact fun _ _ _ h => h
              · kernel_rfl
              · intro wS hSw
                try dsimp only at hSw
                go_simp
                try with_reducible rfl
              try simp only [Act.put, List.setIfInBounds_toArray, List.set_cons_zero, List.set_cons_succ]
              refine wpAnyH_take (i := 6) (oi := { dst := some 89, op := Go.Op.indexAddr 23 (Go.Operand.tmp 87) (Go.Operand.tmp 88), type := 0, pos := "ref.go:42", after := #[{ on := 4, ground := Go.Ground.data }, { on := 5, ground := Go.Ground.data }], guard := none }) (v := ?_) rfl ?_ ?_ ?_ ?_ (Or.inl ⟨?_, ?_⟩) hH ?_
              rotate_left
              · kernel_rfl
              · kernel_rfl
              · kernel_rfl
              · exact fun _ _ _ h => h
              · kernel_rfl
              · intro wS hSw
                try dsimp only at hSw
                go_simp
                try with_reducible rfl
              try simp only [Act.put, List.setIfInBounds_toArray, List.set_cons_zero, List.set_cons_succ]
              refine wpAnyH_take (i := 7) (oi := { dst := some 90, op := Go.Op.fieldAddr 48 (Go.Operand.tmp 89) 1, type := 0, pos := "ref.go:42", after := #[{ on := 6, ground := Go.Ground.data }], guard := none }) (v := ?_) rfl ?_ ?_ ?_ ?_ (Or.inl ⟨?_, ?_⟩) hH ?_
              rotate_left
              · kernel_rfl
              · kernel_rfl
              · kernel_rfl
              · exact fun _ _ _ h => h
              · kernel_rfl
              · intro wS hSw
                try dsimp only at hSw
                go_simp
                try with_reducible rfl
              try simp only [Act.put, List.setIfInBounds_toArray, List.set_cons_zero, List.set_cons_succ]
              refine wpAnyH_take (i := 8) (oi := { dst := some 91, op := Go.Op.load 3 (Go.Operand.tmp 90), type := 3, pos := "ref.go:42", after := #[{ on := 7, ground := Go.Ground.data }], guard := none }) (v := ?_) rfl ?_ ?_ ?_ ?_ (Or.inl ⟨?_, ?_⟩) hH ?_
              rotate_left
              · kernel_rfl
              · kernel_rfl
              · kernel_rfl
              · exact fun _ _ _ h => h
              · kernel_rfl
              · intro wS hSw
                try dsimp only at hSw
                go_simp
                try with_reducible rfl
              try simp only [Act.put, List.setIfInBounds_toArray, List.set_cons_zero, List.set_cons_succ]
              refine wpAnyH_take (i := 9) (oi := { dst := some 92, op := Go.Op.build 48 #[(0, Go.Operand.tmp 85), (1, Go.Operand.tmp 91)], type := 48, pos := "ref.go:42", after := #[{ on := 2, ground := Go.Ground.data }, { on := 8, ground := Go.Ground.data }], guard := none }) (v := ?_) rfl ?_ ?_ ?_ ?_ (Or.inl ⟨?_, ?_⟩) hH ?_
              rotate_left
              · kernel_rfl
              · kernel_rfl
              · kernel_rfl
              · exact fun _ _ _ h => h
              · kernel_rfl
              · intro wS hSw
                try dsimp only at hSw
                go_simp
                try with_reducible rfl
              try simp only [Act.put, List.setIfInBounds_toArray, List.set_cons_zero, List.set_cons_succ]
              refine wpAnyH_ready (rs := [1, 10]) (by kernel_rfl) (by simp) ?_
              refine AllReadyH.cons (o := { dst := some 84, op := Go.Op.load 23 (Go.Operand.tmp 83), type := 23, pos := "ref.go:42", after := #[{ on := 0, ground := Go.Ground.data }], guard := none }) rfl (fun K hK => ?_) (AllReadyH.cons (o := { dst := some 93, op := Go.Op.buildSlice 23 1 #[(0, Go.Operand.tmp 92)], type := 23, pos := "ref.go:42", after := #[{ on := 9, ground := Go.Ground.data }], guard := none }) rfl (fun K hK => ?_) AllReadyH.nil)
              · go_simp
                refine hK.out _ _ ?_ (fun hH1 => ?_)
                · exact S0.out
                clear hK K hH
                try simp only [Act.put, List.setIfInBounds_toArray, List.set_cons_zero, List.set_cons_succ]
                refine wpAnyH_ready (rs := [10]) (by kernel_rfl) (by simp) ?_
                refine AllReadyH.cons (o := { dst := some 93, op := Go.Op.buildSlice 23 1 #[(0, Go.Operand.tmp 92)], type := 23, pos := "ref.go:42", after := #[{ on := 9, ground := Go.Ground.data }], guard := none }) rfl (fun K hK => ?_) AllReadyH.nil
                · go_simp
                  have S1 := Lib.hid (heldS6 S0.out (ba WD (.cells #[.int .i64 acc, .int .i64 x1] 48)) HGW1.out)
                  have X1 := Lib.hid (XD.out.alloc (.cells #[.int .i64 acc, .int .i64 x1] 48))
                  have x1' := X1.out.cell 1
                  refine hK.out _ _ ?_ (fun hH2 => ?_)
                  · exact S1.out
                  clear hK K hH1
                  try simp only [Act.put, List.setIfInBounds_toArray, List.set_cons_zero, List.set_cons_succ]
                  refine wpAnyH_ready (rs := [11]) (by kernel_rfl) (by simp) ?_
                  refine AllReadyH.cons (o := { dst := some 94, op := Go.Op.call { callee := Go.Callee.builtin Go.Builtin.append, args := #[Go.Operand.tmp 84, Go.Operand.tmp 93], argTypes := #[23, 23] }, type := 23, pos := "ref.go:42", after := #[{ on := 1, ground := Go.Ground.data }, { on := 10, ground := Go.Ground.data }], guard := none }) rfl (fun K hK => ?_) AllReadyH.nil
                  · refine step_append_ks2 (P := Try.prog) Try.underlying23 run_info rfl (by decide) rnC_size (by rfl) (.tmp 84) (.tmp 93) (by rfl) (by rfl) (by rfl) (by rfl) RD.out (show w4.heap.size + 1 ≤ WD.heap.size from S0.out.2.2.2) [(acc, x1)] (by rfl) (by decide) (by rfl) (by rfl) HM1.out HM2.out ?_
                    intro v3 w3 r3 b3 n3
                    obtain ⟨FA, FN, FC, rfl, hFN⟩ := KRow.form r3
                    clear hFN
                    have S2 := Lib.hid (heldT6 S0.out b3 HGW1.out)
                    have X2 := Lib.hid (XD.out.below b3 (Nat.lt_succ_self _))
                    have x2 := X2.out.cell 1
                    have z2 := X2.out.frozen 1
                    have R2 := Lib.hid r3
                    clear r3 b3 n3
                    refine hK.out _ _ ?_ (fun hH3 => ?_)
                    · exact S2.out
                    clear hK K hH2
                    try simp only [Act.put, List.setIfInBounds_toArray, List.set_cons_zero, List.set_cons_succ]
                    refine wpAnyH_take (i := 12) (oi := { dst := some 95, op := Go.Op.fieldAddr 25 (Go.Operand.tmp 8) 1, type := 0, pos := "ref.go:42", after := #[{ on := 0, ground := Go.Ground.phase }, { on := 1, ground := Go.Ground.phase }, { on := 2, ground := Go.Ground.phase }, { on := 3, ground := Go.Ground.phase }, { on := 4, ground := Go.Ground.phase }, { on := 5, ground := Go.Ground.phase }, { on := 6, ground := Go.Ground.phase }, { on := 7, ground := Go.Ground.phase }, { on := 8, ground := Go.Ground.phase }, { on := 9, ground := Go.Ground.phase }, { on := 10, ground := Go.Ground.phase }, { on := 11, ground := Go.Ground.phase }], guard := none }) (v := ?_) rfl ?_ ?_ ?_ ?_ (Or.inl ⟨?_, ?_⟩) hH3 ?_
                    rotate_left
                    · kernel_rfl
                    · kernel_rfl
                    · kernel_rfl
                    · exact fun _ _ _ h => h
                    · kernel_rfl
                    · intro wS hSw
                      try dsimp only at hSw
                      go_simp
                      try with_reducible rfl
                    try simp only [Act.put, List.setIfInBounds_toArray, List.set_cons_zero, List.set_cons_succ]
                    refine wpAnyH_ready (rs := [13]) (by kernel_rfl) (by simp) ?_
                    refine AllReadyH.cons (o := { dst := none, op := Go.Op.store 23 (Go.Operand.tmp 95) (Go.Operand.tmp 94), type := 0, pos := "ref.go:42", after := #[{ on := 12, ground := Go.Ground.data }, { on := 11, ground := Go.Ground.data }, { on := 11, ground := Go.Ground.chain }, { on := 0, ground := Go.Ground.phase }, { on := 1, ground := Go.Ground.phase }, { on := 2, ground := Go.Ground.phase }, { on := 3, ground := Go.Ground.phase }, { on := 4, ground := Go.Ground.phase }, { on := 5, ground := Go.Ground.phase }, { on := 6, ground := Go.Ground.phase }, { on := 7, ground := Go.Ground.phase }, { on := 8, ground := Go.Ground.phase }, { on := 9, ground := Go.Ground.phase }, { on := 10, ground := Go.Ground.phase }, { on := 11, ground := Go.Ground.phase }], guard := none }) rfl (fun K hK => ?_) AllReadyH.nil
                    · go_simp
                      obtain ⟨w7, h7⟩ : ∃ w7, w7 = w3.setCell ⟨w4.heap.size, 1, none⟩ (.slice FA FN FC) := ⟨_, rfl⟩
                      try rw [← h7]
                      have X7 := Lib.hid (show RowAt w7 w4.heap.size 25 #[.slice UA M.length UC, .slice FA FN FC] by rw [h7]; exact X2.out.set 1 _)
                      have R7 := Lib.hid (show RnRow w7 (w4.heap.size + 1) (.slice FA FN FC) (sel KS (R.take j) ++ [(acc, x1)]) by rw [h7]; exact KRow.set1 R2.out (Nat.lt_succ_self _) _)
                      have HC7 := Lib.hid (show Below w4.heap.size w4 w7 by rw [h7]; exact Below.setCell S2.out.2.2.1 (Nat.le_refl _) _)
                      have S7 := Lib.hid (show w7.cell? ⟨w.heap.size, 1, none⟩ = some (.slice (some ⟨g, o, none⟩) R.length c2) ∧ w7.cell? ⟨g, o + j * 2 + 1, none⟩ = some (.int .i64 x1) ∧ Below w4.heap.size w4 w7 ∧ w4.heap.size < w7.heap.size by rw [h7]; exact ⟨(World.cell?_of_block (heap_setCell_other w3 ⟨w4.heap.size, 1, none⟩ _ _ (by show ¬ w.heap.size = w4.heap.size; have := HGW1.out.1; omega))).trans S2.out.1, (World.cell?_of_block (heap_setCell_other w3 ⟨w4.heap.size, 1, none⟩ _ _ (by show ¬ g = w4.heap.size; have := HGW1.out.2; omega))).trans S2.out.2.1, Below.setCell S2.out.2.2.1 (Nat.le_refl _) _, by rw [World.size_setCell]; exact S2.out.2.2.2⟩)
                      clear h7 x2 z2
                      refine hK.out _ _ ?_ (fun hH4 => ?_)
                      · exact S7.out
                      clear hK K hH3
                      try simp only [Act.put, List.setIfInBounds_toArray, List.set_cons_zero, List.set_cons_succ]
                      refine wpAnyH_done (by kernel_rfl) ?_ _
                      go_wp2
                      go_roundw
                      case rel => exact ⟨j + 1, _, by omega, by go_num, X7, Lib.hid (by rw [HX2.out]; exact R7.out), HC7⟩
                      case measure => simp [intOf]; omega
              · go_simp
                have S1 := Lib.hid (heldS6 S0.out (ba WD (.cells #[.int .i64 acc, .int .i64 x1] 48)) HGW1.out)
                have X1 := Lib.hid (XD.out.alloc (.cells #[.int .i64 acc, .int .i64 x1] 48))
                have x1' := X1.out.cell 1
                refine hK.out _ _ ?_ (fun hH5 => ?_)
                · exact S1.out
                clear hK K hH
                try simp only [Act.put, List.setIfInBounds_toArray, List.set_cons_zero, List.set_cons_succ]
                refine wpAnyH_ready (rs := [1]) (by kernel_rfl) (by simp) ?_
                refine AllReadyH.cons (o := { dst := some 84, op := Go.Op.load 23 (Go.Operand.tmp 83), type := 23, pos := "ref.go:42", after := #[{ on := 0, ground := Go.Ground.data }], guard := none }) rfl (fun K hK => ?_) AllReadyH.nil
                · go_simp
                  refine hK.out _ _ ?_ (fun hH6 => ?_)
                  · exact S1.out
                  clear hK K hH5
                  try simp only [Act.put, List.setIfInBounds_toArray, List.set_cons_zero, List.set_cons_succ]
                  refine wpAnyH_ready (rs := [11]) (by kernel_rfl) (by simp) ?_
                  refine AllReadyH.cons (o := { dst := some 94, op := Go.Op.call { callee := Go.Callee.builtin Go.Builtin.append, args := #[Go.Operand.tmp 84, Go.Operand.tmp 93], argTypes := #[23, 23] }, type := 23, pos := "ref.go:42", after := #[{ on := 1, ground := Go.Ground.data }, { on := 10, ground := Go.Ground.data }], guard := none }) rfl (fun K hK => ?_) AllReadyH.nil
                  · refine step_append_ks2 (P := Try.prog) Try.underlying23 run_info rfl (by decide) rnC_size (by rfl) (.tmp 84) (.tmp 93) (by rfl) (by rfl) (by rfl) (by rfl) RD.out (show w4.heap.size + 1 ≤ WD.heap.size from S0.out.2.2.2) [(acc, x1)] (by rfl) (by decide) (by rfl) (by rfl) HM1.out HM2.out ?_
                    intro v3 w3 r3 b3 n3
                    obtain ⟨FA, FN, FC, rfl, hFN⟩ := KRow.form r3
                    clear hFN
                    have S2 := Lib.hid (heldT6 S0.out b3 HGW1.out)
                    have X2 := Lib.hid (XD.out.below b3 (Nat.lt_succ_self _))
                    have x2 := X2.out.cell 1
                    have z2 := X2.out.frozen 1
                    have R2 := Lib.hid r3
                    clear r3 b3 n3
                    refine hK.out _ _ ?_ (fun hH7 => ?_)
                    · exact S2.out
                    clear hK K hH6
                    try simp only [Act.put, List.setIfInBounds_toArray, List.set_cons_zero, List.set_cons_succ]
                    refine wpAnyH_take (i := 12) (oi := { dst := some 95, op := Go.Op.fieldAddr 25 (Go.Operand.tmp 8) 1, type := 0, pos := "ref.go:42", after := #[{ on := 0, ground := Go.Ground.phase }, { on := 1, ground := Go.Ground.phase }, { on := 2, ground := Go.Ground.phase }, { on := 3, ground := Go.Ground.phase }, { on := 4, ground := Go.Ground.phase }, { on := 5, ground := Go.Ground.phase }, { on := 6, ground := Go.Ground.phase }, { on := 7, ground := Go.Ground.phase }, { on := 8, ground := Go.Ground.phase }, { on := 9, ground := Go.Ground.phase }, { on := 10, ground := Go.Ground.phase }, { on := 11, ground := Go.Ground.phase }], guard := none }) (v := ?_) rfl ?_ ?_ ?_ ?_ (Or.inl ⟨?_, ?_⟩) hH7 ?_
                    rotate_left
                    · kernel_rfl
                    · kernel_rfl
                    · kernel_rfl
                    · exact fun _ _ _ h => h
                    · kernel_rfl
                    · intro wS hSw
                      try dsimp only at hSw
                      go_simp
                      try with_reducible rfl
                    try simp only [Act.put, List.setIfInBounds_toArray, List.set_cons_zero, List.set_cons_succ]
                    refine wpAnyH_ready (rs := [13]) (by kernel_rfl) (by simp) ?_
                    refine AllReadyH.cons (o := { dst := none, op := Go.Op.store 23 (Go.Operand.tmp 95) (Go.Operand.tmp 94), type := 0, pos := "ref.go:42", after := #[{ on := 12, ground := Go.Ground.data }, { on := 11, ground := Go.Ground.data }, { on := 11, ground := Go.Ground.chain }, { on := 0, ground := Go.Ground.phase }, { on := 1, ground := Go.Ground.phase }, { on := 2, ground := Go.Ground.phase }, { on := 3, ground := Go.Ground.phase }, { on := 4, ground := Go.Ground.phase }, { on := 5, ground := Go.Ground.phase }, { on := 6, ground := Go.Ground.phase }, { on := 7, ground := Go.Ground.phase }, { on := 8, ground := Go.Ground.phase }, { on := 9, ground := Go.Ground.phase }, { on := 10, ground := Go.Ground.phase }, { on := 11, ground := Go.Ground.phase }], guard := none }) rfl (fun K hK => ?_) AllReadyH.nil
                    · go_simp
                      obtain ⟨w7, h7⟩ : ∃ w7, w7 = w3.setCell ⟨w4.heap.size, 1, none⟩ (.slice FA FN FC) := ⟨_, rfl⟩
                      try rw [← h7]
                      have X7 := Lib.hid (show RowAt w7 w4.heap.size 25 #[.slice UA M.length UC, .slice FA FN FC] by rw [h7]; exact X2.out.set 1 _)
                      have R7 := Lib.hid (show RnRow w7 (w4.heap.size + 1) (.slice FA FN FC) (sel KS (R.take j) ++ [(acc, x1)]) by rw [h7]; exact KRow.set1 R2.out (Nat.lt_succ_self _) _)
                      have HC7 := Lib.hid (show Below w4.heap.size w4 w7 by rw [h7]; exact Below.setCell S2.out.2.2.1 (Nat.le_refl _) _)
                      have S7 := Lib.hid (show w7.cell? ⟨w.heap.size, 1, none⟩ = some (.slice (some ⟨g, o, none⟩) R.length c2) ∧ w7.cell? ⟨g, o + j * 2 + 1, none⟩ = some (.int .i64 x1) ∧ Below w4.heap.size w4 w7 ∧ w4.heap.size < w7.heap.size by rw [h7]; exact ⟨(World.cell?_of_block (heap_setCell_other w3 ⟨w4.heap.size, 1, none⟩ _ _ (by show ¬ w.heap.size = w4.heap.size; have := HGW1.out.1; omega))).trans S2.out.1, (World.cell?_of_block (heap_setCell_other w3 ⟨w4.heap.size, 1, none⟩ _ _ (by show ¬ g = w4.heap.size; have := HGW1.out.2; omega))).trans S2.out.2.1, Below.setCell S2.out.2.2.1 (Nat.le_refl _) _, by rw [World.size_setCell]; exact S2.out.2.2.2⟩)
                      clear h7 x2 z2
                      refine hK.out _ _ ?_ (fun hH8 => ?_)
                      · exact S7.out
                      clear hK K hH7
                      try simp only [Act.put, List.setIfInBounds_toArray, List.set_cons_zero, List.set_cons_succ]
                      refine wpAnyH_done (by kernel_rfl) ?_ _
                      go_wp2
                      go_roundw
                      case rel => exact ⟨j + 1, _, by omega, by go_num, X7, Lib.hid (by rw [HX2.out]; exact R7.out), HC7⟩
                      case measure => simp [intOf]; omega
        · have hje : R.take j = R := List.take_of_length_le (by omega)
          rw [hje] at HR
          have hjr : j = R.length := by omega
          subst hjr
          clear hje
          obtain ⟨v1, v2, v3⟩ := (vr_iff _ R 0 (by omega)).1 HV.out
          have HCl := Lib.hid (rclean_any (mk KS.length) (sel KS R) _ wr (KRow.arg rnC_size HR.out) (by simp [sel]; omega) ((vr_iff _ _ 0 (by omega)).2 ⟨sel_lv6 KS R, sel_ps v2, by rw [sel_lg]; omega⟩))
          have hbx : w4.heap.size < wr.heap.size := HX.out.lt
          have s1 : w.heap.size + 2 ≤ w4.heap.size := Q4.out.lt
          clear v1 v2 v3
          go_wp2_with (first
            | (go_at_call 32; go_must (refine HCl.out.mono ?_; rintro e5 w5 ⟨v5, rfl, r5, b5⟩; obtain ⟨TA, TN, TC, rfl, hTN⟩ := KRow.form r5; clear hTN; have X5 := Lib.hid (HX.out.keep b5); have x50 := X5.out.cell 0; have x51 := X5.out.cell 1; have z50 := X5.out.frozen 0; have z51 := X5.out.frozen 1; have BB := Lib.hid (show Below w.heap.size w (w5.setCell ⟨w4.heap.size, 1, none⟩ (.slice TA TN TC)) from Below.setCell (HB.out.trans (b5.mono HB.out.size)) (show w.heap.size ≤ w4.heap.size by omega) _); have RR := Lib.hid (show RnRow (w5.setCell ⟨w4.heap.size, 1, none⟩ (.slice TA TN TC)) (w.heap.size + 2) (.slice TA TN TC) (jn (sel KS R)) from KRow.mono (KRow.set1 r5 hbx _) (by omega)) ; have QQ := Lib.hid ((QR.out.keep b5).other ⟨w4.heap.size, 1, none⟩ (.slice TA TN TC) (by show ¬ w4.heap.size = w.heap.size + 1; omega)); have RN := Lib.hid (KRow.apart (KRow.keep (KRow.keep R4.out HC.out) b5) (fun q hq => heap_setCell_other w5 ⟨w4.heap.size, 1, none⟩ (.slice TA TN TC) q hq) (KRow.off (KRow.keep (KRow.keep R4.out HC.out) b5) X5.out (by decide))); have X6 := Lib.hid (X5.out.set 1 (.slice TA TN TC)); have x60 : (w5.setCell ⟨w4.heap.size, 1, none⟩ (.slice TA TN TC)).cell? ⟨w4.heap.size, 0, none⟩ = some (.slice UA M.length UC) := X6.out.cell 0; have x61 : (w5.setCell ⟨w4.heap.size, 1, none⟩ (.slice TA TN TC)).cell? ⟨w4.heap.size, 1, none⟩ = some (.slice TA TN TC) := X6.out.cell 1; have k0 := QQ.out.cell 0; have k1 := QQ.out.cell 1; have z0 := QQ.out.frozen 0; have z1 := QQ.out.frozen 1; clear r5 b5)))
          have e0 := (two_set (v0 := .slice UA M.length UC) (v1 := .slice TA TN TC) k0 k1).1
          have e1 := (two_set (v0 := .slice UA M.length UC) (v1 := .slice TA TN TC) k0 k1).2
          refine bodyPost_ret (v := .tuple #[.agg #[.slice UA M.length UC, .slice TA TN TC], .int .i64 0]) (by simp [results, Try.results13, go_sem, e0, e1]) rfl ⟨_, _, by rw [HE.out], by rw [HN0.out]; exact KRow.name (show NmRow _ (w.heap.size + 2) (.slice UA M.length UC) _ from KRow.set2 RN.out (Nat.lt_succ_self _) _ _), by rw [HR0.out]; exact KRow.arg rnC_size (KRow.set2 RR.out (Nat.lt_succ_self _) _ _), Below.setCell (Below.setCell BB.out (Nat.le_succ _) _) (Nat.le_succ _) _⟩
end Go.Proofs.Yteccafndplaklaa
