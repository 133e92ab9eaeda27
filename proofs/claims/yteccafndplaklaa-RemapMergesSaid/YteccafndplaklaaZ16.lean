/-
  The specification's Merge.
-/
import Derived.Test.YteccafndplaklaaZ14
import Derived.Test.YteccafndplaklaaZ09
import Derived.Test.YteccafndplaklaaZ15
import Derived.Test.YteccafndplaklaaZ12
import Derived.Test.YteccafndplaklaaZ07
namespace Go.Proofs.Yteccafndplaklaa
open Go Go.RowKit Go.Joins
set_option linter.unusedVariables false
set_option linter.unusedSimpArgs false

theorem heldS3 {w W W' : World} {x0 x1 y0 y1 : Value} (h : W.cell? ⟨w.heap.size, 0, none⟩ = some x0 ∧ W.cell? ⟨w.heap.size, 1, none⟩ = some x1 ∧ W.cell? ⟨w.heap.size + 1, 0, none⟩ = some y0 ∧ W.cell? ⟨w.heap.size + 1, 1, none⟩ = some y1 ∧ Below w.heap.size w W ∧ w.heap.size + 2 < W.heap.size) (hb : Below (w.heap.size + 3) W W') :
    W'.cell? ⟨w.heap.size, 0, none⟩ = some x0 ∧ W'.cell? ⟨w.heap.size, 1, none⟩ = some x1 ∧ W'.cell? ⟨w.heap.size + 1, 0, none⟩ = some y0 ∧ W'.cell? ⟨w.heap.size + 1, 1, none⟩ = some y1 ∧ Below w.heap.size w W' ∧ w.heap.size + 2 < W'.heap.size := by
  obtain ⟨h0, h1, h2, h3, h4, h5⟩ := h
  have := hb.size
  have c := fun b i (hq : b < w.heap.size + 3) => hb.cell (p := ⟨b, i, none⟩) hq
  exact ⟨(c _ _ (by omega)).trans h0, (c _ _ (by omega)).trans h1, (c _ _ (by omega)).trans h2, (c _ _ (by omega)).trans h3, h4.trans (hb.mono (by omega)), by omega⟩
theorem heldS4 {w W W' : World} {x0 x1 y0 y1 : Value} (h : W.cell? ⟨w.heap.size, 0, none⟩ = some x0 ∧ W.cell? ⟨w.heap.size, 1, none⟩ = some x1 ∧ W.cell? ⟨w.heap.size + 1, 0, none⟩ = some y0 ∧ W.cell? ⟨w.heap.size + 1, 1, none⟩ = some y1 ∧ Below w.heap.size w W ∧ w.heap.size + 2 < W.heap.size) (hk : ∀ q, q ≠ w.heap.size + 2 → W'.heap[q]? = W.heap[q]?) (hb : Below (w.heap.size + 2) W W') :
    W'.cell? ⟨w.heap.size, 0, none⟩ = some x0 ∧ W'.cell? ⟨w.heap.size, 1, none⟩ = some x1 ∧ W'.cell? ⟨w.heap.size + 1, 0, none⟩ = some y0 ∧ W'.cell? ⟨w.heap.size + 1, 1, none⟩ = some y1 ∧ Below w.heap.size w W' ∧ w.heap.size + 2 < W'.heap.size := by
  obtain ⟨h0, h1, h2, h3, h4, h5⟩ := h
  have := hb.size
  exact ⟨(World.cell?_of_block (hk w.heap.size (by omega))).trans h0, (World.cell?_of_block (hk w.heap.size (by omega))).trans h1, (World.cell?_of_block (hk (w.heap.size + 1) (by omega))).trans h2, (World.cell?_of_block (hk (w.heap.size + 1) (by omega))).trans h3, h4.trans (hb.mono (by omega)), by omega⟩
theorem heldM12 {w W W' : World} {gX gY i k : Nat} {x0 x1 x2 : Value} (h : W.cell? ⟨gX, i, none⟩ = some x0 ∧ W.cell? ⟨gY, k, none⟩ = some x1 ∧ W.cell? ⟨w.heap.size, 0, none⟩ = some x2 ∧ gX < W.heap.size ∧ gY < W.heap.size ∧ w.heap.size < W.heap.size) (hb : Below W.heap.size W W') :
    W'.cell? ⟨gX, i, none⟩ = some x0 ∧ W'.cell? ⟨gY, k, none⟩ = some x1 ∧ W'.cell? ⟨w.heap.size, 0, none⟩ = some x2 ∧ gX < W'.heap.size ∧ gY < W'.heap.size ∧ w.heap.size < W'.heap.size := by
  obtain ⟨h0, h1, h2, h3, h4, h5⟩ := h
  have := hb.size
  exact ⟨(hb.cell (p := ⟨gX, i, none⟩) h3).trans h0, (hb.cell (p := ⟨gY, k, none⟩) h4).trans h1, (hb.cell (p := ⟨w.heap.size, 0, none⟩) h5).trans h2, by omega, by omega, by omega⟩
theorem heldN12 {w W W' : World} {gX gY i k b5 b6 : Nat} {x0 x1 x2 v : Value} (h : W.cell? ⟨gX, i, none⟩ = some x0 ∧ W.cell? ⟨gY, k, none⟩ = some x1 ∧ W.cell? ⟨w.heap.size, 0, none⟩ = some x2 ∧ gX < W.heap.size ∧ gY < W.heap.size ∧ w.heap.size < W.heap.size) (hn : ∀ q, q < W.heap.size → some q ≠ v.ownBlock → W'.heap[q]? = W.heap[q]?) (hs : W.heap.size ≤ W'.heap.size) (hX : gX < b5) (hY : gY < b6) (hw : w.heap.size < b6 ∧ b5 ≤ b6) (hv : ∀ q, v.ownBlock = some q → b6 ≤ q) :
    W'.cell? ⟨gX, i, none⟩ = some x0 ∧ W'.cell? ⟨gY, k, none⟩ = some x1 ∧ W'.cell? ⟨w.heap.size, 0, none⟩ = some x2 ∧ gX < W'.heap.size ∧ gY < W'.heap.size ∧ w.heap.size < W'.heap.size := by
  obtain ⟨h0, h1, h2, h3, h4, h5⟩ := h
  have ha : ∀ q, q < b6 → some q ≠ v.ownBlock := fun q hq e => by have := hv q e.symm; omega
  exact ⟨(World.cell?_of_block (hn gX h3 (ha _ (by omega)))).trans h0, (World.cell?_of_block (hn gY h4 (ha _ hY))).trans h1, (World.cell?_of_block (hn _ h5 (ha _ hw.1))).trans h2, by omega, by omega, by omega⟩

set_option maxRecDepth 100000 in
set_option maxHeartbeats 16000000 in
theorem mrg_region (A B : List ByteArray) (A1 A2 A3 A4 : Option Addr) (c1 c2 c3 c4 nx ny : Nat) (w W : World) (J : List Rn) (TA : Option Addr) (TN TC : Nat) {Q : Exit → Act → World → Prop} (u0 u1 u5 u6 u7 u8 u9 u10 u11 u13 u14 u15 u16 u17 u18 u19 u20 u21 u22 u23 u24 u25 u26 u27 u28 u29 u30 u31 u32 u33 u34 u35 u36 u37 u38 u39 u40 u41 u42 u43 u44 u45 u46 u47 u48 u49 u50 u51 u52 u53 u54 u55 u56 u57 u58 u59 u60 u61 u62 u63 u64 u65 u66 u67 u68 u69 u70 u71 u72 u73 u74 u75 u76 u77 u78 u79 u80 u81 u82 u83 u84 u85 u86 u87 u88 u89 u90 u91 u92 u93 u94 u95 u96 u97 u98 u99 u100 u101 u102 u103 u104 u105 u106 u107 u108 u109 u110 u111 u112 u113 u114 u115 u116 u117 u118 u119 u120 u121 u122 u123 u124 u125 u126 u127 u128 u129 u130 u131 u132 u133 u134 u135 u136 u137 u138 u139 u140 u141 u142 u143 u144 u145 u146 u147 u148 u149 u150 u151 u152 u153 u154 u155 u156 u157 u158 u159 u160 u161 u162 u163 u164 u165 u166 u167 u168 : Value)
    (hPn : ∀ x (a : Act) (d : Nat) v W', Q (.panic x) (a.put (some d) v) W' → Q (.panic x) a W') (ha : A.length ≤ 2000) (hb' : B.length ≤ 2000)
    (HAK : Hid (∀ w', Below w.heap.size w w' → NmArg w' (.slice A1 A.length c1) A)) (HBK : Hid (∀ w', Below w.heap.size w w' → NmArg w' (.slice A3 B.length c3) B))
    (E0 : Hid (W.drew.cell? ⟨w.heap.size, 0, none⟩ = some (.slice A1 A.length c1) ∧ W.drew.cell? ⟨w.heap.size, 1, none⟩ = some (.slice A2 nx c2) ∧ W.drew.cell? ⟨w.heap.size + 1, 0, none⟩ = some (.slice A3 B.length c3) ∧ W.drew.cell? ⟨w.heap.size + 1, 1, none⟩ = some (.slice A4 ny c4) ∧ Below w.heap.size w W.drew ∧ w.heap.size + 2 < W.drew.heap.size)) (Kq : Hid (RowAt W.drew (w.heap.size + 2) 25 #[.slice none 0 0, .slice none 0 0])) (M0 : Hid (RnRow W.drew (w.heap.size + 3) (.slice TA TN TC) J))
    (hK : ∀ (NA : Option Addr) (NN NC : Nat) (x160 x161 x162 x163 x164 x165 x166 x167 x168 : Value) (W' : World), W'.cell? ⟨w.heap.size + 2, 0, none⟩ = some (.slice NA NN NC) → W'.cell? ⟨w.heap.size + 2, 1, none⟩ = some (.slice TA TN TC) → NmRow W' (w.heap.size + 3) (.slice NA NN NC) (A ++ B) → RnRow W' (w.heap.size + 3) (.slice TA TN TC) J → Below w.heap.size w W' → Q .normal { tmps := #[u0, u1, .pointer (some ⟨w.heap.size, 0, none⟩), .pointer (some ⟨w.heap.size + 1, 0, none⟩), .pointer (some ⟨w.heap.size + 1 + 1, 0, none⟩), .int .i64 0, u6, u7, u8, u9, u10, u11, .slice TA TN TC, u13, u14, u15, u16, u17, u18, u19, u20, u21, u22, u23, u24, u25, u26, u27, u28, u29, u30, u31, u32, u33, u34, u35, u36, u37, u38, u39, u40, u41, u42, u43, u44, u45, u46, u47, u48, u49, u50, u51, u52, u53, u54, u55, u56, u57, u58, u59, u60, u61, u62, u63, u64, u65, u66, u67, u68, u69, u70, u71, u72, u73, u74, u75, u76, u77, u78, u79, u80, u81, u82, u83, u84, u85, u86, u87, u88, u89, u90, u91, u92, u93, u94, u95, u96, u97, u98, u99, u100, u101, u102, u103, u104, u105, u106, u107, u108, u109, u110, u111, u112, u113, u114, u115, u116, u117, u118, u119, u120, u121, u122, u123, u124, u125, u126, u127, u128, u129, u130, u131, u132, u133, u134, u135, u136, u137, u138, u139, u140, u141, u142, u143, u144, u145, u146, u147, u148, u149, u150, u151, u152, u153, u154, u155, u156, u157, u158, u159, x160, x161, x162, x163, x164, x165, x166, x167, x168], defers := [] } W') :
    Code.wp Try.prog (Go.Code.region 34 #[{ dst := some 160, op := Go.Op.buildSlice 22 0 #[], type := 22, pos := "ref.go:123", after := #[], guard := none },
    { dst := some 161, op := Go.Op.fieldAddr 25 (Go.Operand.tmp 2) 0, type := 0, pos := "ref.go:123", after := #[], guard := none },
    { dst := some 162, op := Go.Op.load 22 (Go.Operand.tmp 161), type := 22, pos := "ref.go:123", after := #[{ on := 1, ground := Go.Ground.data }], guard := none },
    { dst := some 163, op := Go.Op.call { callee := Go.Callee.builtin Go.Builtin.append, args := #[Go.Operand.tmp 160, Go.Operand.tmp 162], argTypes := #[22, 22] }, type := 22, pos := "ref.go:123", after := #[{ on := 0, ground := Go.Ground.data }, { on := 2, ground := Go.Ground.data }], guard := none },
    { dst := some 164, op := Go.Op.fieldAddr 25 (Go.Operand.tmp 3) 0, type := 0, pos := "ref.go:123", after := #[], guard := none },
    { dst := some 165, op := Go.Op.load 22 (Go.Operand.tmp 164), type := 22, pos := "ref.go:123", after := #[{ on := 4, ground := Go.Ground.data }], guard := none },
    { dst := some 166, op := Go.Op.call { callee := Go.Callee.builtin Go.Builtin.append, args := #[Go.Operand.tmp 163, Go.Operand.tmp 165], argTypes := #[22, 22] }, type := 22, pos := "ref.go:123", after := #[{ on := 3, ground := Go.Ground.data }, { on := 5, ground := Go.Ground.data }, { on := 3, ground := Go.Ground.chain }], guard := none },
    { dst := some 167, op := Go.Op.move (Go.Operand.tmp 12), type := 23, pos := "ref.go:123", after := #[], guard := none },
    { dst := some 168, op := Go.Op.build 25 #[(0, Go.Operand.tmp 166), (1, Go.Operand.tmp 167)], type := 25, pos := "ref.go:123", after := #[{ on := 6, ground := Go.Ground.data }, { on := 7, ground := Go.Ground.data }], guard := none },
    { dst := none, op := Go.Op.store 25 (Go.Operand.tmp 4) (Go.Operand.tmp 168), type := 0, pos := "ref.go:123", after := #[{ on := 8, ground := Go.Ground.data }, { on := 6, ground := Go.Ground.chain }, { on := 0, ground := Go.Ground.phase }, { on := 1, ground := Go.Ground.phase }, { on := 2, ground := Go.Ground.phase }, { on := 3, ground := Go.Ground.phase }, { on := 4, ground := Go.Ground.phase }, { on := 5, ground := Go.Ground.phase }, { on := 6, ground := Go.Ground.phase }, { on := 7, ground := Go.Ground.phase }, { on := 8, ground := Go.Ground.phase }], guard := none },
    { dst := some 5, op := Go.Op.assign (Go.Operand.const (Go.Value.int Go.IntKind.i64 0)), type := 28, pos := "ref.go:123", after := #[{ on := 9, ground := Go.Ground.chain }, { on := 0, ground := Go.Ground.phase }, { on := 1, ground := Go.Ground.phase }, { on := 2, ground := Go.Ground.phase }, { on := 3, ground := Go.Ground.phase }, { on := 4, ground := Go.Ground.phase }, { on := 5, ground := Go.Ground.phase }, { on := 6, ground := Go.Ground.phase }, { on := 7, ground := Go.Ground.phase }, { on := 8, ground := Go.Ground.phase }, { on := 9, ground := Go.Ground.phase }], guard := none }] true) Q { tmps := #[u0, u1, .pointer (some ⟨w.heap.size, 0, none⟩), .pointer (some ⟨w.heap.size + 1, 0, none⟩), .pointer (some ⟨w.heap.size + 1 + 1, 0, none⟩), u5, u6, u7, u8, u9, u10, u11, .slice TA TN TC, u13, u14, u15, u16, u17, u18, u19, u20, u21, u22, u23, u24, u25, u26, u27, u28, u29, u30, u31, u32, u33, u34, u35, u36, u37, u38, u39, u40, u41, u42, u43, u44, u45, u46, u47, u48, u49, u50, u51, u52, u53, u54, u55, u56, u57, u58, u59, u60, u61, u62, u63, u64, u65, u66, u67, u68, u69, u70, u71, u72, u73, u74, u75, u76, u77, u78, u79, u80, u81, u82, u83, u84, u85, u86, u87, u88, u89, u90, u91, u92, u93, u94, u95, u96, u97, u98, u99, u100, u101, u102, u103, u104, u105, u106, u107, u108, u109, u110, u111, u112, u113, u114, u115, u116, u117, u118, u119, u120, u121, u122, u123, u124, u125, u126, u127, u128, u129, u130, u131, u132, u133, u134, u135, u136, u137, u138, u139, u140, u141, u142, u143, u144, u145, u146, u147, u148, u149, u150, u151, u152, u153, u154, u155, u156, u157, u158, u159, u160, u161, u162, u163, u164, u165, u166, u167, u168], defers := [] } W := by
  refine wp_region_held_drew (S := fun w' => w'.cell? ⟨w.heap.size, 0, none⟩ = some (.slice A1 A.length c1) ∧ w'.cell? ⟨w.heap.size, 1, none⟩ = some (.slice A2 nx c2) ∧ w'.cell? ⟨w.heap.size + 1, 0, none⟩ = some (.slice A3 B.length c3) ∧ w'.cell? ⟨w.heap.size + 1, 1, none⟩ = some (.slice A4 ny c4) ∧ Below w.heap.size w w' ∧ w.heap.size + 2 < w'.heap.size) (by kernel_rfl) ?_ (fun hH => ?_)
  · exact E0.out
  generalize W.drew = WE at *
  refine wpAnyH_take (i := 1) (oi := { dst := some 161, op := Go.Op.fieldAddr 25 (Go.Operand.tmp 2) 0, type := 0, pos := "ref.go:123", after := #[], guard := none }) (v := ?_) rfl ?_ ?_ ?_ ?_ (Or.inl ⟨?_, ?_⟩) hH ?_
  rotate_left
  · kernel_rfl
  · kernel_rfl
  · kernel_rfl
  · exact fun _ _ _ h => hPn _ _ _ _ _ h
  · kernel_rfl
  · intro wS hSw
    try dsimp only at hSw
    go_simp
    try with_reducible rfl
  try simp only [Act.put, List.setIfInBounds_toArray, List.set_cons_zero, List.set_cons_succ]
  refine wpAnyH_take (i := 2) (oi := { dst := some 162, op := Go.Op.load 22 (Go.Operand.tmp 161), type := 22, pos := "ref.go:123", after := #[{ on := 1, ground := Go.Ground.data }], guard := none }) (v := ?_) rfl ?_ ?_ ?_ ?_ (Or.inl ⟨?_, ?_⟩) hH ?_
  rotate_left
  · kernel_rfl
  · kernel_rfl
  · kernel_rfl
  · exact fun _ _ _ h => hPn _ _ _ _ _ h
  · kernel_rfl
  · intro wS hSw
    try dsimp only at hSw
    go_simp
    try with_reducible rfl
  try simp only [Act.put, List.setIfInBounds_toArray, List.set_cons_zero, List.set_cons_succ]
  refine wpAnyH_take (i := 4) (oi := { dst := some 164, op := Go.Op.fieldAddr 25 (Go.Operand.tmp 3) 0, type := 0, pos := "ref.go:123", after := #[], guard := none }) (v := ?_) rfl ?_ ?_ ?_ ?_ (Or.inl ⟨?_, ?_⟩) hH ?_
  rotate_left
  · kernel_rfl
  · kernel_rfl
  · kernel_rfl
  · exact fun _ _ _ h => hPn _ _ _ _ _ h
  · kernel_rfl
  · intro wS hSw
    try dsimp only at hSw
    go_simp
    try with_reducible rfl
  try simp only [Act.put, List.setIfInBounds_toArray, List.set_cons_zero, List.set_cons_succ]
  refine wpAnyH_take (i := 5) (oi := { dst := some 165, op := Go.Op.load 22 (Go.Operand.tmp 164), type := 22, pos := "ref.go:123", after := #[{ on := 4, ground := Go.Ground.data }], guard := none }) (v := ?_) rfl ?_ ?_ ?_ ?_ (Or.inl ⟨?_, ?_⟩) hH ?_
  rotate_left
  · kernel_rfl
  · kernel_rfl
  · kernel_rfl
  · exact fun _ _ _ h => hPn _ _ _ _ _ h
  · kernel_rfl
  · intro wS hSw
    try dsimp only at hSw
    go_simp
    try with_reducible rfl
  try simp only [Act.put, List.setIfInBounds_toArray, List.set_cons_zero, List.set_cons_succ]
  refine wpAnyH_take (i := 7) (oi := { dst := some 167, op := Go.Op.move (Go.Operand.tmp 12), type := 23, pos := "ref.go:123", after := #[], guard := none }) (v := ?_) rfl ?_ ?_ ?_ ?_ (Or.inl ⟨?_, ?_⟩) hH ?_
  rotate_left
  · kernel_rfl
  · kernel_rfl
  · kernel_rfl
  · exact fun _ _ _ h => hPn _ _ _ _ _ h
  · kernel_rfl
  · intro wS hSw
    try dsimp only at hSw
    go_simp
    try with_reducible rfl
  try simp only [Act.put, List.setIfInBounds_toArray, List.set_cons_zero, List.set_cons_succ]
  refine wpAnyH_ready (rs := [0]) (by kernel_rfl) (by simp) ?_
  refine AllReadyH.cons (o := { dst := some 160, op := Go.Op.buildSlice 22 0 #[], type := 22, pos := "ref.go:123", after := #[], guard := none }) rfl (fun K hK => ?_) AllReadyH.nil
  · go_simp
    have E1 := Lib.hid (heldS E0.out (ba WE (.cells #[] 9)))
    have K1 := Lib.hid (Kq.out.alloc (.cells #[] 9))
    have M1 := Lib.hid (KRow.alloc M0.out (.cells #[] 9))
    have L1 := Lib.hid (KRow.lit (T := 9) nmC_size WE (w.heap.size + 3) E0.out.2.2.2.2.2 [] #[] rfl 0 rfl (by decide))
    have sz1 : w.heap.size + 3 ≤ (WE.alloc (.cells #[] 9)).heap.size := E1.out.2.2.2.2.2
    refine hK.out _ _ ?_ (fun hH1 => ?_)
    · exact E1.out
    clear hK K hH
    try simp only [Act.put, List.setIfInBounds_toArray, List.set_cons_zero, List.set_cons_succ]
    refine wpAnyH_ready (rs := [3]) (by kernel_rfl) (by simp) ?_
    refine AllReadyH.cons (o := { dst := some 163, op := Go.Op.call { callee := Go.Callee.builtin Go.Builtin.append, args := #[Go.Operand.tmp 160, Go.Operand.tmp 162], argTypes := #[22, 22] }, type := 22, pos := "ref.go:123", after := #[{ on := 0, ground := Go.Ground.data }, { on := 2, ground := Go.Ground.data }], guard := none }) rfl (fun K hK => ?_) AllReadyH.nil
    · have N1a := Lib.hid (HAK.out _ E1.out.2.2.2.2.1)
      refine step_append_arg (enc := nmC) (X := ([] : List ByteArray)) (Y := A) Try.underlying22 name_info rfl (by omega) nmC_size nmC_one rfl (.tmp 160) (.tmp 162) rfl rfl rfl L1.out N1a.out.1 E1.out.2.2.2.2.2 (by first | omega | (simp; omega)) (by first | omega | (simp; omega)) ?_
      intro x1 W2 r1 b1 k1
      rw [List.nil_append] at r1
      obtain ⟨NA1, NN1, NC1, rfl, hN1⟩ := KRow.form r1
      clear hN1
      have E2 := Lib.hid (heldS3 E1.out b1)
      have K2 := Lib.hid (K1.out.below b1 (Nat.lt_succ_self _))
      have M2 := Lib.hid (KRow.kept M1.out k1 (runs_apart L1.out M1.out))
      have L2 := Lib.hid r1
      clear r1 b1 k1
      refine hK.out _ _ ?_ (fun hH2 => ?_)
      · exact E2.out
      clear hK K hH1
      try simp only [Act.put, List.setIfInBounds_toArray, List.set_cons_zero, List.set_cons_succ]
      refine wpAnyH_ready (rs := [6]) (by kernel_rfl) (by simp) ?_
      refine AllReadyH.cons (o := { dst := some 166, op := Go.Op.call { callee := Go.Callee.builtin Go.Builtin.append, args := #[Go.Operand.tmp 163, Go.Operand.tmp 165], argTypes := #[22, 22] }, type := 22, pos := "ref.go:123", after := #[{ on := 3, ground := Go.Ground.data }, { on := 5, ground := Go.Ground.data }, { on := 3, ground := Go.Ground.chain }], guard := none }) rfl (fun K hK => ?_) AllReadyH.nil
      · have N2a := Lib.hid (HBK.out _ E2.out.2.2.2.2.1)
        refine step_append_arg (enc := nmC) (X := A) (Y := B) Try.underlying22 name_info rfl (by omega) nmC_size nmC_one rfl (.tmp 163) (.tmp 165) rfl rfl rfl L2.out N2a.out.1 E2.out.2.2.2.2.2 (by first | omega | (simp; omega)) (by first | omega | (simp; omega)) ?_
        intro x2 W3 r2 b2 k2
        skip
        obtain ⟨NA2, NN2, NC2, rfl, hN2⟩ := KRow.form r2
        clear hN2
        have E3 := Lib.hid (heldS3 E2.out b2)
        have K3 := Lib.hid (K2.out.below b2 (Nat.lt_succ_self _))
        have M3 := Lib.hid (KRow.kept M2.out k2 (runs_apart L2.out M2.out))
        have L3 := Lib.hid r2
        clear r2 b2 k2
        refine hK.out _ _ ?_ (fun hH3 => ?_)
        · exact E3.out
        clear hK K hH2
        try simp only [Act.put, List.setIfInBounds_toArray, List.set_cons_zero, List.set_cons_succ]
        refine wpAnyH_take (i := 8) (oi := { dst := some 168, op := Go.Op.build 25 #[(0, Go.Operand.tmp 166), (1, Go.Operand.tmp 167)], type := 25, pos := "ref.go:123", after := #[{ on := 6, ground := Go.Ground.data }, { on := 7, ground := Go.Ground.data }], guard := none }) (v := ?_) rfl ?_ ?_ ?_ ?_ (Or.inl ⟨?_, ?_⟩) hH3 ?_
        rotate_left
        · kernel_rfl
        · kernel_rfl
        · kernel_rfl
        · exact fun _ _ _ h => hPn _ _ _ _ _ h
        · kernel_rfl
        · intro wS hSw
          try dsimp only at hSw
          go_simp
          try with_reducible rfl
        try simp only [Act.put, List.setIfInBounds_toArray, List.set_cons_zero, List.set_cons_succ]
        refine wpAnyH_ready (rs := [9]) (by kernel_rfl) (by simp) ?_
        refine AllReadyH.cons (o := { dst := none, op := Go.Op.store 25 (Go.Operand.tmp 4) (Go.Operand.tmp 168), type := 0, pos := "ref.go:123", after := #[{ on := 8, ground := Go.Ground.data }, { on := 6, ground := Go.Ground.chain }, { on := 0, ground := Go.Ground.phase }, { on := 1, ground := Go.Ground.phase }, { on := 2, ground := Go.Ground.phase }, { on := 3, ground := Go.Ground.phase }, { on := 4, ground := Go.Ground.phase }, { on := 5, ground := Go.Ground.phase }, { on := 6, ground := Go.Ground.phase }, { on := 7, ground := Go.Ground.phase }, { on := 8, ground := Go.Ground.phase }], guard := none }) rfl (fun K hK => ?_) AllReadyH.nil
        · refine step_store_at2 K3.out #[.slice NA2 NN2 NC2, .slice TA TN TC] (.tmp 4) (.tmp 168) 25 rfl rfl rfl rfl (by kernel_rfl) rfl rfl ?_
          intro W4 r3 b3 k3
          have E4 := Lib.hid (heldS4 E3.out k3 b3)
          have L4 := Lib.hid (KRow.apart L3.out k3 (KRow.off L3.out K3.out (by decide)))
          have M4 := Lib.hid (KRow.apart M3.out k3 (KRow.off M3.out K3.out (by decide)))
          have e0 : W4.cell? ⟨w.heap.size + 2, 0, none⟩ = some (.slice NA2 NN2 NC2) := RowAt.cell r3 0
          have e1 : W4.cell? ⟨w.heap.size + 2, 1, none⟩ = some (.slice TA TN TC) := RowAt.cell r3 1
          clear r3 b3 k3
          refine hK.out _ _ ?_ (fun hH4 => ?_)
          · exact E4.out
          clear hK K hH3
          try simp only [Act.put, List.setIfInBounds_toArray, List.set_cons_zero, List.set_cons_succ]
          refine wpAnyH_take (i := 10) (oi := { dst := some 5, op := Go.Op.assign (Go.Operand.const (Go.Value.int Go.IntKind.i64 0)), type := 28, pos := "ref.go:123", after := #[{ on := 9, ground := Go.Ground.chain }, { on := 0, ground := Go.Ground.phase }, { on := 1, ground := Go.Ground.phase }, { on := 2, ground := Go.Ground.phase }, { on := 3, ground := Go.Ground.phase }, { on := 4, ground := Go.Ground.phase }, { on := 5, ground := Go.Ground.phase }, { on := 6, ground := Go.Ground.phase }, { on := 7, ground := Go.Ground.phase }, { on := 8, ground := Go.Ground.phase }, { on := 9, ground := Go.Ground.phase }], guard := none }) (v := ?_) rfl ?_ ?_ ?_ ?_ (Or.inl ⟨?_, ?_⟩) hH4 ?_
          rotate_left
          · kernel_rfl
          · kernel_rfl
          · kernel_rfl
          · exact fun _ _ _ h => hPn _ _ _ _ _ h
          · kernel_rfl
          · intro wS hSw
            try dsimp only at hSw
            go_simp
            try with_reducible rfl
          try simp only [Act.put, List.setIfInBounds_toArray, List.set_cons_zero, List.set_cons_succ]
          refine wpAnyH_done (by kernel_rfl) ?_ _
          exact hK _ _ _ _ _ _ _ _ _ _ _ _ W4 e0 e1 L4.out M4.out E4.out.2.2.2.2.1

set_option maxRecDepth 100000 in
set_option maxHeartbeats 16000000 in
theorem rmerge_any (A : List ByteArray) (X : List Rn) (B : List ByteArray) (Y : List Rn) (vA vX vB vY : Value) (w : World) (hA : NmArg w vA A) (hsA : szs A) (hX : RnArg w vX X) (hB : NmArg w vB B) (hsB : szs B) (hY : RnArg w vY Y) (ha : A.length ≤ 2000) (hb' : B.length ≤ 2000) (hx : X.length ≤ 8000) (hy : Y.length ≤ 8000) :
    Calls Try.prog 18 #[.agg #[vA, vX], .agg #[vB, vY]] w fun e w' => ∃ v1 v2 : Value, e = .returned (.tuple #[.agg #[v1, v2], .int .i64 (mgE A X B Y)]) ∧ NmArg w' v1 (mgN A X B Y) ∧ RnArg w' v2 (mgR A X B Y) ∧ Below w.heap.size w w' := by
  have HKa := Lib.hid (fun w' (hb : Below w.heap.size w w') => rcheck_any A X vA vX w' (hA.keep hb) hsA (hX.keep hb) (by omega))
  have HKb := Lib.hid (fun w' (hb : Below w.heap.size w w') => rcheck_any B Y vB vY w' (hB.keep hb) hsB (hY.keep hb) (by omega))
  have HLa := Lib.hid (fun w' (hb : Below w.heap.size w w') => rlongC_any A X vA vX w' (hA.keep hb) hsA (hX.keep hb) (by omega))
  have HLb := Lib.hid (fun w' (hb : Below w.heap.size w w') => rlongC_any B Y vB vY w' (hB.keep hb) hsB (hY.keep hb) (by omega))
  have HUa' := fun (h : ckC A X = 0) L h1 h2 w' (hb : Below w.heap.size w w') => upto_any A X vA vX L w' (hA.keep hb) hsA (hX.keep hb) h h1 h2 (by omega)
  have HUb' := fun (h : ckC B Y = 0) L h1 h2 w' (hb : Below w.heap.size w w') => upto_any B Y vB vY L w' (hB.keep hb) hsB (hY.keep hb) h h1 h2 (by omega)
  have HAK := Lib.hid (fun w' (hb : Below w.heap.size w w') => hA.keep hb)
  have HBK := Lib.hid (fun w' (hb : Below w.heap.size w w') => hB.keep hb)
  obtain ⟨A1, c1, rfl, _⟩ := hA.form
  obtain ⟨A2, c2, rfl⟩ := hX.form
  obtain ⟨A3, c3, rfl, _, hBc⟩ := hB.form
  obtain ⟨A4, c4, rfl⟩ := hY.form
  have HBC := Lib.hid hBc
  have e1s : (w.alloc (.cells #[.slice A1 A.length c1, .slice A2 X.length c2] 25)).heap.size = w.heap.size + 1 := World.size_alloc _ _
  have e2s : ((w.alloc (.cells #[.slice A1 A.length c1, .slice A2 X.length c2] 25)).alloc (.cells #[.slice A3 B.length c3, .slice A4 Y.length c4] 25)).heap.size = w.heap.size + 2 := by rw [World.size_alloc, e1s]
  have B0 := Lib.hid (((ba w (.cells #[.slice A1 A.length c1, .slice A2 X.length c2] 25)).alloc (ba w _).size (.cells #[.slice A3 B.length c3, .slice A4 Y.length c4] 25)).alloc (by rw [e2s]; omega) (.cells #[.slice none 0 0, .slice none 0 0] 25))
  have P0 := Lib.hid (((RowAt.new w 25 #[.slice A1 A.length c1, .slice A2 X.length c2]).alloc (.cells #[.slice A3 B.length c3, .slice A4 Y.length c4] 25)).alloc (.cells #[.slice none 0 0, .slice none 0 0] 25))
  have T0' := (RowAt.new (w.alloc (.cells #[.slice A1 A.length c1, .slice A2 X.length c2] 25)) 25 #[.slice A3 B.length c3, .slice A4 Y.length c4]).alloc (.cells #[.slice none 0 0, .slice none 0 0] 25)
  have Q0' := RowAt.new ((w.alloc (.cells #[.slice A1 A.length c1, .slice A2 X.length c2] 25)).alloc (.cells #[.slice A3 B.length c3, .slice A4 Y.length c4] 25)) 25 #[.slice none 0 0, .slice none 0 0]
  rw [e2s] at Q0'
  rw [e1s] at T0'
  have Q0 := Lib.hid Q0'
  have T0 := Lib.hid T0'
  clear Q0' T0' e1s e2s hA hX hB hY hBc hsA hsB
  have g0 := P0.out.cell 0
  have g1 := P0.out.cell 1
  have t0 := T0.out.cell 0
  have t1 := T0.out.cell 1
  have k0 := Q0.out.cell 0
  have k1 := Q0.out.cell 1
  have z0 := Q0.out.frozen 0
  have z1 := Q0.out.frozen 1
  by_cases hz : ckC A X = 0
  rotate_left
  · have he := mg_a (B := B) (Y := Y) hz
    have hne : ¬ mgE A X B Y = 0 := by rw [he]; exact hz
    have HN0 := Lib.hid (mgN_no hne)
    have HR0 := Lib.hid (mgR_no hne)
    have HE := Lib.hid he
    have hyz : (ckC A X == 0) = false := by simpa using hz
    have hyz' : (ckC A X != 0) = true := by simpa using hz
    clear hne he HUa' HUb' HLa HLb HKb HBC
    generalize ckC A X = r at *
    clear hz
    go_enter Try.func18, Try.ntmps18
    go_wp2_with (first
      | (go_at_call 30; go_must (refine (HKa.out _ B0.out).mono ?_; rintro e1 w1 ⟨rfl, b1⟩; have B1 := Lib.hid (B0.out.trans (b1.mono B0.out.size)); have P1 := Lib.hid (P0.out.keep b1); have T1 := Lib.hid (T0.out.keep b1); have Q1 := Lib.hid (Q0.out.keep b1); clear g0 g1 t0 t1 k0 k1 z0 z1; have g0 := P1.out.cell 0; have g1 := P1.out.cell 1; have t0 := T1.out.cell 0; have t1 := T1.out.cell 1; have k0 := Q1.out.cell 0; have k1 := Q1.out.cell 1; have z0 := Q1.out.frozen 0; have z1 := Q1.out.frozen 1; clear b1)))
    have e0 := (two_set (v0 := .slice none 0 0) (v1 := .slice none 0 0) k0 k1).1
    have e1 := (two_set (v0 := .slice none 0 0) (v1 := .slice none 0 0) k0 k1).2
    refine bodyPost_ret (v := .tuple #[.agg #[.slice none 0 0, .slice none 0 0], .int .i64 r]) (by simp [results, Try.results18, go_sem, e0, e1]) rfl ⟨_, _, by rw [HE.out], by rw [HN0.out]; exact nm_nil _, by rw [HR0.out]; exact rn_nil _, Below.setCell (Below.setCell B1.out (by show w.heap.size ≤ w.heap.size + 2; omega) _) (by show w.heap.size ≤ w.heap.size + 2; omega) _⟩
  rw [hz] at HKa
  rw [lgC_yes hz] at HLa
  by_cases hz2 : ckC B Y = 0
  rotate_left
  · have he := mg_b hz hz2
    have hne : ¬ mgE A X B Y = 0 := by rw [he]; exact hz2
    have HN0 := Lib.hid (mgN_no hne)
    have HR0 := Lib.hid (mgR_no hne)
    have HE := Lib.hid he
    have hyz : (ckC B Y == 0) = false := by simpa using hz2
    have hyz' : (ckC B Y != 0) = true := by simpa using hz2
    clear hne he HUa' HUb' HLa HLb HBC hz
    generalize ckC B Y = r at *
    clear hz2
    go_enter Try.func18, Try.ntmps18
    go_wp2_with (first
      | (go_at_call 30; go_must (first | (have tok := B1.out; refine (HKb.out _ B1.out).mono ?_; rintro e2 w2 ⟨rfl, b2⟩; have B2 := Lib.hid (B1.out.trans (b2.mono B1.out.size)); have P2 := Lib.hid (P1.out.keep b2); have T2 := Lib.hid (T1.out.keep b2); have Q2 := Lib.hid (Q1.out.keep b2); clear g0 g1 t0 t1 k0 k1 z0 z1; have g0 := P2.out.cell 0; have g1 := P2.out.cell 1; have t0 := T2.out.cell 0; have t1 := T2.out.cell 1; have k0 := Q2.out.cell 0; have k1 := Q2.out.cell 1; have z0 := Q2.out.frozen 0; have z1 := Q2.out.frozen 1; clear b2; clear tok) | (refine (HKa.out _ B0.out).mono ?_; rintro e1 w1 ⟨rfl, b1⟩; have B1 := Lib.hid (B0.out.trans (b1.mono B0.out.size)); have P1 := Lib.hid (P0.out.keep b1); have T1 := Lib.hid (T0.out.keep b1); have Q1 := Lib.hid (Q0.out.keep b1); clear g0 g1 t0 t1 k0 k1 z0 z1; have g0 := P1.out.cell 0; have g1 := P1.out.cell 1; have t0 := T1.out.cell 0; have t1 := T1.out.cell 1; have k0 := Q1.out.cell 0; have k1 := Q1.out.cell 1; have z0 := Q1.out.frozen 0; have z1 := Q1.out.frozen 1; clear b1))))
    have e0 := (two_set (v0 := .slice none 0 0) (v1 := .slice none 0 0) k0 k1).1
    have e1 := (two_set (v0 := .slice none 0 0) (v1 := .slice none 0 0) k0 k1).2
    refine bodyPost_ret (v := .tuple #[.agg #[.slice none 0 0, .slice none 0 0], .int .i64 r]) (by simp [results, Try.results18, go_sem, e0, e1]) rfl ⟨_, _, by rw [HE.out], by rw [HN0.out]; exact nm_nil _, by rw [HR0.out]; exact rn_nil _, Below.setCell (Below.setCell B2.out (by show w.heap.size ≤ w.heap.size + 2; omega) _) (by show w.heap.size ≤ w.heap.size + 2; omega) _⟩
  rw [hz2] at HKb
  rw [lgC_yes hz2] at HLb
  have HUa := Lib.hid (HUa' hz)
  have HUb := Lib.hid (HUb' hz2)
  have hck := ckC_ok hz
  have hck2 := ckC_ok hz2
  have HCK := Lib.hid hck
  have HCK2 := Lib.hid hck2
  have hrx := vr_range hck.2.2.2.2.2
  have hry := vr_range hck2.2.2.2.2.2
  have HZ := Lib.hid hz
  have HZ2 := Lib.hid hz2
  have hB0 := hck2.2.2.1
  have hAl := hck.2.2.2.1
  have hBl := hck2.2.2.2.1
  clear HUa' HUb' hck hck2 hz hz2
  go_enter Try.func18, Try.ntmps18
  go_wp2_with (first
    | (go_at_call 30; go_must (first | (have tok := B1.out; refine (HKb.out _ B1.out).mono ?_; rintro e2 w2 ⟨rfl, b2⟩; have B2 := Lib.hid (B1.out.trans (b2.mono B1.out.size)); have P2 := Lib.hid (P1.out.keep b2); have T2 := Lib.hid (T1.out.keep b2); have Q2 := Lib.hid (Q1.out.keep b2); clear g0 g1 t0 t1 k0 k1 z0 z1; have g0 := P2.out.cell 0; have g1 := P2.out.cell 1; have t0 := T2.out.cell 0; have t1 := T2.out.cell 1; have k0 := Q2.out.cell 0; have k1 := Q2.out.cell 1; have z0 := Q2.out.frozen 0; have z1 := Q2.out.frozen 1; clear b2; clear tok) | (refine (HKa.out _ B0.out).mono ?_; rintro e1 w1 ⟨rfl, b1⟩; have B1 := Lib.hid (B0.out.trans (b1.mono B0.out.size)); have P1 := Lib.hid (P0.out.keep b1); have T1 := Lib.hid (T0.out.keep b1); have Q1 := Lib.hid (Q0.out.keep b1); clear g0 g1 t0 t1 k0 k1 z0 z1; have g0 := P1.out.cell 0; have g1 := P1.out.cell 1; have t0 := T1.out.cell 0; have t1 := T1.out.cell 1; have k0 := Q1.out.cell 0; have k1 := Q1.out.cell 1; have z0 := Q1.out.frozen 0; have z1 := Q1.out.frozen 1; clear b1))))
  go_loopw [8] (fun x wr => ∃ (i m : Nat), i ≤ B.length ∧ x = .int .i64 i ∧ Hid (∀ q (hq : q < B.length), q < i → has A B[q] = false) ∧ wr = w2.drewN m) (fun x _ => B.length - (intOf x).toNat)
  case atStart => exact ⟨0, 0, by omega, rfl, Lib.hid (fun j hj h => absurd h (by omega)), rfl⟩
  case round =>
    obtain ⟨i, m, hi, rfl, HNo, rfl⟩ := hrel
    by_cases hil : i < B.length
    · obtain ⟨gB, oB, rfl, hgB, hBcell⟩ := HBC.out hB0
      have f0 := (B2.out.cell (p := ⟨gB, oB + i, none⟩) hgB).trans (hBcell i hil)
      have PQ := Lib.hid (fun q => (place12_any A _ B[i] (w2.drewN q) ((HAK.out _ B2.out).keep (Go.below_drewN (Below.refl _ _) q)) (by omega)).mono fun _ _ h => And.intro h.1 h.2.symm)
      clear hBcell
      by_cases ha' : 0 ≤ ix A B[i]
      · have hh : has A B[i] = true := by rw [← ix_has]; exact decide_eq_true ha'
        have he : mgE A X B Y = 9 := mg_9 HZ.out HZ2.out (anyIn_iff.2 ⟨B[i], List.getElem_mem hil, has_iff.1 hh⟩)
        have hne : ¬ mgE A X B Y = 0 := by rw [he]; exact by decide
        have HN0 := Lib.hid (mgN_no hne)
        have HR0 := Lib.hid (mgR_no hne)
        have HE := Lib.hid he
        clear hne he
        have hd : decide (0 ≤ ix A B[i]) = true := decide_eq_true ha'
        clear hh HNo
        generalize ix A B[i] = a at *
        generalize B[i] = s at *
        clear k0 k1 z0 z1
        go_wp2
        go_quiet ((go_at_call 31; go_must (with_reducible exact (PQ.out _).mono fun _ _ h => ⟨h.1, _, h.2⟩)))
        have QW := Q2.out.keep (Go.below_drewN (Go.below_drewN (Below.refl w2.heap.size w2) m) nq)
        have BW := Go.below_drewN (Go.below_drewN B2.out m) nq
        generalize (w2.drewN m).drewN nq = wq at *
        have k0 := QW.cell 0
        have k1 := QW.cell 1
        have z0 := QW.frozen 0
        have z1 := QW.frozen 1
        clear QW
        go_wp2
        have e0 := (two_set (v0 := .slice none 0 0) (v1 := .slice none 0 0) k0 k1).1
        have e1 := (two_set (v0 := .slice none 0 0) (v1 := .slice none 0 0) k0 k1).2
        refine bodyPost_ret (v := .tuple #[.agg #[.slice none 0 0, .slice none 0 0], .int .i64 9]) (by simp [results, Try.results18, go_sem, e0, e1]) rfl ⟨_, _, by rw [HE.out], by rw [HN0.out]; exact nm_nil _, by rw [HR0.out]; exact rn_nil _, Below.setCell (Below.setCell BW (by show w.heap.size ≤ w.heap.size + 2; omega) _) (by show w.heap.size ≤ w.heap.size + 2; omega) _⟩
      · have hd : decide (0 ≤ ix A B[i]) = false := decide_eq_false ha'
        have hh : has A B[i] = false := by rw [← ix_has]; exact hd
        have HNo2 := Lib.hid (show ∀ q (hq : q < B.length), q < i + 1 → has A B[q] = false from fun q hq hlt => by
          by_cases e : q = i
          · subst e; exact hh
          · exact HNo.out q hq (by omega))
        clear hh HNo
        generalize ix A B[i] = a at *
        generalize B[i] = s at *
        go_wp2
        go_quiet ((go_at_call 31; go_must (with_reducible exact (PQ.out _).mono fun _ _ h => ⟨h.1, _, h.2⟩)))
        go_wp2
        go_roundw
        case rel => exact ⟨i + 1, _, by omega, by go_num, HNo2, rfl⟩
        case measure => simp [intOf]; omega
    · have hany : anyIn A B = false := by
        cases h : anyIn A B with
        | false => rfl
        | true =>
          obtain ⟨x, hx1, hx2⟩ := anyIn_iff.1 h
          obtain ⟨q, hq, rfl⟩ := List.mem_iff_getElem.1 hx1
          have := HNo.out q hq (by omega)
          rw [has_iff.2 hx2] at this
          exact absurd this (by decide)
      have BW := Lib.hid (Go.below_drewN B2.out m)
      have PW := Lib.hid (P2.out.keep (Go.below_drewN (Below.refl w2.heap.size w2) m))
      have TW := Lib.hid (T2.out.keep (Go.below_drewN (Below.refl w2.heap.size w2) m))
      have QW := Lib.hid (Q2.out.keep (Go.below_drewN (Below.refl w2.heap.size w2) m))
      clear HNo HKa HKb HBC g0 g1 t0 t1 k0 k1 z0 z1
      generalize w2.drewN m = wq at *
      have g0 := PW.out.cell 0
      have g1 := PW.out.cell 1
      have t0 := TW.out.cell 0
      have t1 := TW.out.cell 1
      have k0 := QW.out.cell 0
      have k1 := QW.out.cell 1
      have z0 := QW.out.frozen 0
      have z1 := QW.out.frozen 1
      by_cases h16 : 16 < A.length + B.length
      · have he := mg_6 HZ.out HZ2.out hany h16
        have hne : ¬ mgE A X B Y = 0 := by rw [he]; exact by decide
        have HN0 := Lib.hid (mgN_no hne)
        have HR0 := Lib.hid (mgR_no hne)
        have HE := Lib.hid he
        clear hne he
        have d16 : decide ((16 : Int) < (A.length : Int) + (B.length : Int)) = true := decide_eq_true (by omega)
        have d16' : (16 : Int) < (A.length : Int) + (B.length : Int) := by omega
        clear hany h16
        go_wp2
        have e0 := (two_set (v0 := .slice none 0 0) (v1 := .slice none 0 0) k0 k1).1
        have e1 := (two_set (v0 := .slice none 0 0) (v1 := .slice none 0 0) k0 k1).2
        refine bodyPost_ret (v := .tuple #[.agg #[.slice none 0 0, .slice none 0 0], .int .i64 6]) (by simp [results, Try.results18, go_sem, e0, e1]) rfl ⟨_, _, by rw [HE.out], by rw [HN0.out]; exact nm_nil _, by rw [HR0.out]; exact rn_nil _, Below.setCell (Below.setCell BW.out (by show w.heap.size ≤ w.heap.size + 2; omega) _) (by show w.heap.size ≤ w.heap.size + 2; omega) _⟩
      have he := mg_0 HZ.out HZ2.out hany (by omega)
      have HN0 := Lib.hid (mgN_0 he)
      have HR0 := Lib.hid (mgR_0 he)
      have HE := Lib.hid he
      have d16 : decide ((16 : Int) < (A.length : Int) + (B.length : Int)) = false := decide_eq_false (by omega)
      have d16' : ¬ (16 : Int) < (A.length : Int) + (B.length : Int) := by omega
      clear hany he
      have HMAX : Hid (∃ L, L = max (lg X) (lg Y) ∧ 0 ≤ L ∧ L ≤ 1099511627776 ∧ lg X ≤ L ∧ lg Y ≤ L) := Lib.hid ⟨_, rfl, by omega, by omega, by omega, by omega⟩
      by_cases hlt : lg X < lg Y
      · have dl : decide (lg X < lg Y) = true := decide_eq_true hlt
        have eM : max (lg X) (lg Y) = lg Y := by omega
        obtain ⟨L, hL, hL0, hL1, hLx, hLy⟩ := HMAX.out
        have HUa2 := Lib.hid (HUa.out L hLx hL1)
        have HUb2 := Lib.hid (HUb.out L hLy hL1)
        have HL := Lib.hid hL
        have HLB := Lib.hid (show 0 ≤ L ∧ L ≤ 1099511627776 ∧ lg X ≤ L ∧ lg Y ≤ L from ⟨hL0, hL1, hLx, hLy⟩)
        have eL : L = lg Y := by rw [hL, eM]
        rw [eL] at HUa2 HUb2
        have HEL := Lib.hid eL
        clear eM hL hL0 hL1 hLx hLy HUa HUb HMAX eL hrx hry
        obtain ⟨v1, v2, v3⟩ := (vr_iff _ X 0 (by omega)).1 HCK.out.2.2.2.2.2
        obtain ⟨u1, u2, u3⟩ := (vr_iff _ Y 0 (by omega)).1 HCK2.out.2.2.2.2.2
        obtain ⟨_, xp, _, xl, _⟩ := ex_all (R := X) (d := lg Y - lg X) v2 (by have := HLB.out; have := HEL.out; omega)
        obtain ⟨_, yp, _, yl, _⟩ := ex_all (R := Y) (d := lg Y - lg Y) u2 (by have := HLB.out; have := HEL.out; omega)
        have xv := exS_lv v1 (mk_range HCK.out.2.2.2.1).1 (d := lg Y - lg X)
        have yv := exS_lv u1 (mk_range HCK2.out.2.2.2.1).1 (d := lg Y - lg Y)
        have xn := exS_len X (lg Y - lg X)
        have yn := exS_len Y (lg Y - lg Y)
        have HMM := Lib.hid (show mgR A X B Y = jn (mrg A.length (exS X (lg Y - lg X)) (exS Y (lg Y - lg Y))) by rw [mgR_0 HE.out]; unfold mgS; rw [← HL.out, HEL.out])
        have hEb := HLB.out
        have hEe := HEL.out
        obtain ⟨mp, ml, mn, _⟩ := mrg_all A.length _ _ xp yp
        have mv := mrg_lv5 A.length B.length _ _ _ (Nat.le_refl _) xv yv
        have HMI := Lib.hid (MgI.start (a := A.length) (b := B.length) xp yp xv yv (by rw [xl]; omega) (by rw [yl]; omega))
        have HCV := Lib.hid (show vr (mk (A.length + B.length)) 0 (mrg A.length (exS X (lg Y - lg X)) (exS Y (lg Y - lg Y))) = true ∧ (mrg A.length (exS X (lg Y - lg X)) (exS Y (lg Y - lg Y))).length ≤ 20000 from ⟨(vr_iff _ _ 0 (by omega)).2 ⟨mv, mp, by rw [ml, xl, yl]; omega⟩, by omega⟩)
        have HXS := Lib.hid (show (exS X (lg Y - lg X)).length ≤ 8001 ∧ (exS Y (lg Y - lg Y)).length ≤ 8001 from ⟨by omega, by omega⟩)
        clear v1 v2 v3 u1 u2 u3 xp xl yp yl xv yv xn yn mp ml mn mv hEb hEe
        generalize exS X (lg Y - lg X) = XE at *
        generalize exS Y (lg Y - lg Y) = YE at *
        generalize mrg A.length XE YE = MM at *
        generalize hGx : lg X = GX at *
        generalize hGy : lg Y = GY at *
        have HGx := Lib.hid hGx
        have HGy := Lib.hid hGy
        clear hGx hGy
        go_wp2_with (first
          | (go_at_call 42; go_must (first | (have tok := B4.out; refine (HLb.out _ B4.out).mono ?_; rintro e5 w5 ⟨rfl, b5⟩; have B5 := Lib.hid (B4.out.trans (b5.mono B4.out.size)); have P5 := Lib.hid (P4.out.keep b5); have T5 := Lib.hid (T4.out.keep b5); have Q5 := Lib.hid (Q4.out.keep b5); clear g0 g1 t0 t1 k0 k1 z0 z1; have g0 := P5.out.cell 0; have g1 := P5.out.cell 1; have t0 := T5.out.cell 0; have t1 := T5.out.cell 1; have k0 := Q5.out.cell 0; have k1 := Q5.out.cell 1; have z0 := Q5.out.frozen 0; have z1 := Q5.out.frozen 1; clear b5; clear tok) | (have tok := B3.out; refine (HLb.out _ B3.out).mono ?_; rintro e4 w4 ⟨rfl, b4⟩; have B4 := Lib.hid (B3.out.trans (b4.mono B3.out.size)); have P4 := Lib.hid (P3.out.keep b4); have T4 := Lib.hid (T3.out.keep b4); have Q4 := Lib.hid (Q3.out.keep b4); clear g0 g1 t0 t1 k0 k1 z0 z1; have g0 := P4.out.cell 0; have g1 := P4.out.cell 1; have t0 := T4.out.cell 0; have t1 := T4.out.cell 1; have k0 := Q4.out.cell 0; have k1 := Q4.out.cell 1; have z0 := Q4.out.frozen 0; have z1 := Q4.out.frozen 1; clear b4; clear tok) | (refine (HLa.out _ BW.out).mono ?_; rintro e3 w3 ⟨rfl, b3⟩; have B3 := Lib.hid (BW.out.trans (b3.mono BW.out.size)); have P3 := Lib.hid (PW.out.keep b3); have T3 := Lib.hid (TW.out.keep b3); have Q3 := Lib.hid (QW.out.keep b3); clear g0 g1 t0 t1 k0 k1 z0 z1; have g0 := P3.out.cell 0; have g1 := P3.out.cell 1; have t0 := T3.out.cell 0; have t1 := T3.out.cell 1; have k0 := Q3.out.cell 0; have k1 := Q3.out.cell 1; have z0 := Q3.out.frozen 0; have z1 := Q3.out.frozen 1; clear b3))))
        clear B0 P0 T0 Q0
        have Bu := Lib.hid B5.out
        have Pu := Lib.hid P5.out
        have Tu := Lib.hid T5.out
        have Qu := Lib.hid Q5.out
        generalize w5 = wu at *
        have BU := Lib.hid (show Below wu.heap.size wu wu.drew from (Below.refl _ _).drew)
        have S0 : wu.drew.cell? ⟨w.heap.size, 0, none⟩ = some (.slice A1 A.length c1) ∧ wu.drew.cell? ⟨w.heap.size, 1, none⟩ = some (.slice A2 X.length c2) ∧ wu.drew.cell? ⟨w.heap.size + 1, 0, none⟩ = some (.slice A3 B.length c3) ∧ wu.drew.cell? ⟨w.heap.size + 1, 1, none⟩ = some (.slice A4 Y.length c4) ∧ Below w.heap.size w wu.drew ∧ w.heap.size + 2 < wu.drew.heap.size := ⟨Pu.out.cell 0, Pu.out.cell 1, Tu.out.cell 0, Tu.out.cell 1, Bu.out.drew, Qu.out.lt⟩
        go_region_held3 (fun w' => w'.cell? ⟨w.heap.size, 0, none⟩ = some (.slice A1 A.length c1) ∧ w'.cell? ⟨w.heap.size, 1, none⟩ = some (.slice A2 X.length c2) ∧ w'.cell? ⟨w.heap.size + 1, 0, none⟩ = some (.slice A3 B.length c3) ∧ w'.cell? ⟨w.heap.size + 1, 1, none⟩ = some (.slice A4 Y.length c4) ∧ Below w.heap.size w w' ∧ w.heap.size + 2 < w'.heap.size) (first | assumption | go_keep)
          (first
            | (go_at_call 43; first
                | (have tok := RX5.out; refine (HUb2.out _ (And.left (And.right (And.right (And.right (And.right (by assumption))))))).mono ?_; rintro e6 w6 ⟨v6, rfl, r6, b6⟩; obtain ⟨YA, YN, YC, rfl, hYN⟩ := KRow.form r6; obtain rfl := hYN; have h6 := heldS (by assumption) b6)
                | (refine (HUa2.out _ (And.left (And.right (And.right (And.right (And.right (by assumption))))))).mono ?_; rintro e5 w5 ⟨v5, rfl, r5, b5⟩; obtain ⟨XA, XN, XC, rfl, hXN⟩ := KRow.form r5; obtain rfl := hXN; have h5 := heldS (by assumption) b5; have RX5 := Lib.hid r5))
            | fail)
        have hdu : wu.drew.heap.size = wu.heap.size := rfl
        have BU5 := Lib.hid (BU.out.trans (b5.mono (show wu.heap.size ≤ wu.drew.heap.size from Nat.le_refl _)))
        have BU6 := Lib.hid (BU5.out.trans (b6.mono BU5.out.size))
        have RX6 := Lib.hid (show RnRow w6 wu.heap.size (.slice XA XE.length XC) XE from KRow.keep r5 b6)
        have RY6 := Lib.hid r6
        have HgX := Lib.hid (fun q (hq : (Value.slice XA XE.length XC).ownBlock = some q) => (show wu.heap.size ≤ q ∧ q < w5.heap.size from KRow.lt r5 q hq))
        have HgY := Lib.hid (fun q (hq : (Value.slice YA YE.length YC).ownBlock = some q) => (show w5.heap.size ≤ q ∧ q < w6.heap.size from KRow.lt r6 q hq))
        have RO6 := Lib.hid (KRow.lit (T := 48) rnC_size w6 w6.heap.size (Nat.le_refl _) [] #[] rfl 0 rfl (by decide))
        have C6 := Lib.hid (ba w6 (.cells #[] 48))
        have BU7 := Lib.hid (BU6.out.alloc BU6.out.size (.cells #[] 48))
        have h56 := b6.size
        have HBuW := Lib.hid (show wu.heap.size ≤ w5.heap.size ∧ w5.heap.size ≤ w6.heap.size from ⟨BU5.out.size, h56⟩)
        have HWu := Lib.hid (show w.heap.size + 3 ≤ wu.heap.size from Qu.out.lt)
        clear S0 h5 h6 r5 r6 b5 b6 g0 g1 t0 t1 k0 k1 z0 z1 h56 hdu RX5
        go_wp2
        have RX7 := Lib.hid (KRow.alloc RX6.out (.cells #[] 48))
        have RY7 := Lib.hid (KRow.alloc RY6.out (.cells #[] 48))
        clear RX6 RY6
        go_loopw [12, 13, 14] (fun v x y wr => ∃ (i k : Nat) (XL YL out : List Rn), x = .int .i64 i ∧ y = .int .i64 k ∧ Hid (XL.length = XE.length ∧ YL.length = YE.length) ∧ Hid (MgI A.length B.length XL YL i k out MM) ∧ Hid (RnRow wr wu.heap.size (.slice XA XE.length XC) XL) ∧ Hid (RnRow wr w5.heap.size (.slice YA YE.length YC) YL) ∧ Hid (RnRow wr w6.heap.size v out) ∧ Hid (w6.heap.size ≤ wr.heap.size) ∧ Hid (Below wu.heap.size wu wr)) (fun _ x y _ => (XE.length - (intOf x).toNat) + (YE.length - (intOf y).toNat))
        case atStart => exact ⟨0, 0, XE, YE, [], rfl, rfl, Lib.hid ⟨rfl, rfl⟩, HMI, RX7, RY7, RO6, Lib.hid C6.out.size, BU7⟩
        case round =>
          clear RX7 RY7 RO6 BU7
          rename_i hrel
          obtain ⟨i, k, XL, YL, out, rfl, rfl, HLn, HI, HX, HY, HO, H6R, HC⟩ := hrel
          obtain ⟨OA, ON, OC, rfl, hON⟩ := KRow.form HO.out
          have HON := Lib.hid hON
          clear hON
          have PR := Lib.hid (Pu.out.keep HC.out)
          have TR := Lib.hid (Tu.out.keep HC.out)
          have QR := Lib.hid (Qu.out.keep HC.out)
          have BR := Lib.hid (Bu.out.trans (HC.out.mono Bu.out.size))
          have hle1 := HI.out.1
          have hle2 := HI.out.2.1
          rw [HLn.out.1] at hle1
          rw [HLn.out.2] at hle2
          have hXs := HXS.out
          by_cases hik : i < XE.length ∧ k < YE.length
          · have hi1 := hik.1
            have hk1 := hik.2
            have hiX : i < XL.length := by rw [HLn.out.1]; exact hi1
            have hkY : k < YL.length := by rw [HLn.out.2]; exact hk1
            obtain ⟨gX, cX, eX⟩ := KRow.full HX.out (by omega)
            obtain ⟨gY, cY, eY⟩ := KRow.full HY.out (by omega)
            injection eX with eX1 eX2 eX3
            injection eY with eY1 eY2 eY3
            clear eX2 eX3 eY2 eY3
            subst eX1
            subst eY1
            have hgX := HgX.out gX rfl
            have hgY := HgY.out gY rfl
            have hbw := HBuW.out
            obtain ⟨l, hl⟩ : ∃ l, l = XL[i].1 := ⟨_, rfl⟩
            obtain ⟨t, ht⟩ : ∃ t, t = XL[i].2 := ⟨_, rfl⟩
            obtain ⟨m, hm⟩ : ∃ m, m = YL[k].1 := ⟨_, rfl⟩
            obtain ⟨u, hu⟩ : ∃ u, u = YL[k].2 := ⟨_, rfl⟩
            obtain ⟨s1, s2, s3, s4, s5, sLt, sEq, sGt⟩ := MgI.step HI.out hiX hkY hl ht hm hu
            obtain ⟨f0, f1, y0, y1⟩ := RnRow.two HX.out i hiX
            obtain ⟨f2, f3, y2, y3⟩ := RnRow.two HY.out k hkY
            rw [← hl] at f0
            rw [← ht] at f1
            rw [← hm] at f2
            rw [← hu] at f3
            obtain ⟨ho1, ho2⟩ := or_lev (n := A.length) s1.1 s1.2 s2.1 (by have := mk_range (show B.length ≤ 16 by omega); omega) (by omega)
            have HPx := Lib.hid hl
            have HPy := Lib.hid hm
            have hmm := HCV.out.2
            have hM1 : out.length + 1 ≤ 140737488355328 := by omega
            have hM2 : (out.length + 1) * 16 ≤ 140737488355328 := by omega
            have hxy : gX ≠ gY := by omega
            have HAp := Lib.hid (show ∀ q, (Value.slice OA ON OC).ownBlock = some q → w6.heap.size ≤ q from fun q hq => (KRow.lt HO.out q hq).1)
            have g0 := PR.out.cell 0
            have hi2 : (i : Int) < (XE.length : Int) := by omega
            have hk2 : (k : Int) < (YE.length : Int) := by omega
            generalize hB : m * 2 ^ A.length = P2 at *
            have HBB := Lib.hid hB
            have hwb : IntKind.i64.wrap (m * 2 ^ A.length) = P2 := by rw [hB]; exact ho2
            have HOr := Lib.hid ho1
            have HTx := Lib.hid ht
            have HTy := Lib.hid hu
            clear hB hl ht hm hu s1 s2 hik ho2
            have SS1 : wr.drew.cell? ⟨gX, i * 2, none⟩ = some (.int .i64 l) ∧ wr.drew.cell? ⟨gY, k * 2, none⟩ = some (.int .i64 m) ∧ wr.drew.cell? ⟨w.heap.size, 0, none⟩ = some (.slice A1 A.length c1) ∧ gX < wr.drew.heap.size ∧ gY < wr.drew.heap.size ∧ w.heap.size < wr.drew.heap.size := ⟨f0, f2, g0, (KRow.len HX.out).2.2.2, (KRow.len HY.out).2.2.2, PR.out.lt⟩
            have HOd := Lib.hid (show RnRow wr.drew w6.heap.size (.slice OA ON OC) out from KRow.drewN HO.out 1)
            have HXd := Lib.hid (show RnRow wr.drew wu.heap.size (.slice (some ⟨gX, 0, none⟩) XE.length XC) XL from KRow.drewN HX.out 1)
            have HYd := Lib.hid (show RnRow wr.drew w5.heap.size (.slice (some ⟨gY, 0, none⟩) YE.length YC) YL from KRow.drewN HY.out 1)
            have HCd := Lib.hid (show Below wu.heap.size wu wr.drew from HC.out.drew)
            have h6r : w6.heap.size ≤ wr.drew.heap.size := H6R.out
            rcases Int.lt_trichotomy t u with hc | hc | hc
            · have hn0 : ¬ u < t := by omega
              have hn1 : decide (u < t) = false := decide_eq_false hn0
              have HNI := Lib.hid (sLt hc)
              have hz1 : ((u - t) == 0) = false := by rw [beq_eq_false_iff_ne]; omega
              have hz2 : ¬ u - t = 0 := by omega
              have hw1 := IntWalk.i64_in (u - t) (by omega)
              have hw0 : IntKind.i64.wrap (t - t) = 0 := by rw [Int.sub_self]; rfl
              clear sLt sEq sGt hmm
              (try clear hc)
              go_wp2
              refine wp_region_held_drew (S := fun w' => w'.cell? ⟨gX, i * 2, none⟩ = some (.int .i64 l) ∧ w'.cell? ⟨gY, k * 2, none⟩ = some (.int .i64 m) ∧ w'.cell? ⟨w.heap.size, 0, none⟩ = some (.slice A1 A.length c1) ∧ gX < w'.heap.size ∧ gY < w'.heap.size ∧ w.heap.size < w'.heap.size) (by kernel_rfl) ?_ (fun hH => ?_)
              · exact SS1
              have HSS := Lib.hid SS1
              clear f0 f1 f2 f3 SS1
              generalize wr.drew = WD at *
              refine wpAnyH_take (i := 0) (oi := { dst := some 96, op := Go.Op.move (Go.Operand.tmp 12), type := 23, pos := "ref.go:109", after := #[], guard := none }) (v := ?_) rfl ?_ ?_ ?_ ?_ (Or.inl ⟨?_, ?_⟩) hH ?_
              rotate_left
              · kernel_rfl
              · kernel_rfl
              · kernel_rfl
              · exact fun _ _ _ h => h
              · kernel_rfl
              · intro wS hSw
                try dsimp only at hSw
                go_simp
                try with_reducible rfl
              try simp only [Act.put, List.setIfInBounds_toArray, List.set_cons_zero, List.set_cons_succ]
              refine wpAnyH_take (i := 1) (oi := { dst := some 97, op := Go.Op.move (Go.Operand.tmp 10), type := 23, pos := "ref.go:109", after := #[], guard := none }) (v := ?_) rfl ?_ ?_ ?_ ?_ (Or.inl ⟨?_, ?_⟩) hH ?_
              rotate_left
              · kernel_rfl
              · kernel_rfl
              · kernel_rfl
              · exact fun _ _ _ h => h
              · kernel_rfl
              · intro wS hSw
                try dsimp only at hSw
                go_simp
                try with_reducible rfl
              try simp only [Act.put, List.setIfInBounds_toArray, List.set_cons_zero, List.set_cons_succ]
              refine wpAnyH_take (i := 2) (oi := { dst := some 98, op := Go.Op.move (Go.Operand.tmp 13), type := 3, pos := "ref.go:109", after := #[], guard := none }) (v := ?_) rfl ?_ ?_ ?_ ?_ (Or.inl ⟨?_, ?_⟩) hH ?_
              rotate_left
              · kernel_rfl
              · kernel_rfl
              · kernel_rfl
              · exact fun _ _ _ h => h
              · kernel_rfl
              · intro wS hSw
                try dsimp only at hSw
                go_simp
                try with_reducible rfl
              try simp only [Act.put, List.setIfInBounds_toArray, List.set_cons_zero, List.set_cons_succ]
              refine wpAnyH_take (i := 3) (oi := { dst := some 99, op := Go.Op.indexAddr 23 (Go.Operand.tmp 97) (Go.Operand.tmp 98), type := 0, pos := "ref.go:109", after := #[{ on := 1, ground := Go.Ground.data }, { on := 2, ground := Go.Ground.data }], guard := none }) (v := ?_) rfl ?_ ?_ ?_ ?_ (Or.inl ⟨?_, ?_⟩) hH ?_
              rotate_left
              · kernel_rfl
              · kernel_rfl
              · kernel_rfl
              · exact fun _ _ _ h => h
              · kernel_rfl
              · intro wS hSw
                try dsimp only at hSw
                go_simp
                try with_reducible rfl
              try simp only [Act.put, List.setIfInBounds_toArray, List.set_cons_zero, List.set_cons_succ]
              refine wpAnyH_take (i := 4) (oi := { dst := some 100, op := Go.Op.fieldAddr 48 (Go.Operand.tmp 99) 0, type := 0, pos := "ref.go:109", after := #[{ on := 3, ground := Go.Ground.data }], guard := none }) (v := ?_) rfl ?_ ?_ ?_ ?_ (Or.inl ⟨?_, ?_⟩) hH ?_
              rotate_left
              · kernel_rfl
              · kernel_rfl
              · kernel_rfl
              · exact fun _ _ _ h => h
              · kernel_rfl
              · intro wS hSw
                try dsimp only at hSw
                go_simp
                try with_reducible rfl
              try simp only [Act.put, List.setIfInBounds_toArray, List.set_cons_zero, List.set_cons_succ]
              refine wpAnyH_take (i := 5) (oi := { dst := some 101, op := Go.Op.load 3 (Go.Operand.tmp 100), type := 3, pos := "ref.go:109", after := #[{ on := 4, ground := Go.Ground.data }], guard := none }) (v := ?_) rfl ?_ ?_ ?_ ?_ (Or.inl ⟨?_, ?_⟩) hH ?_
              rotate_left
              · kernel_rfl
              · kernel_rfl
              · kernel_rfl
              · exact fun _ _ _ h => h
              · kernel_rfl
              · intro wS hSw
                try dsimp only at hSw
                go_simp
                try with_reducible rfl
              try simp only [Act.put, List.setIfInBounds_toArray, List.set_cons_zero, List.set_cons_succ]
              refine wpAnyH_take (i := 6) (oi := { dst := some 102, op := Go.Op.move (Go.Operand.tmp 11), type := 23, pos := "ref.go:109", after := #[], guard := none }) (v := ?_) rfl ?_ ?_ ?_ ?_ (Or.inl ⟨?_, ?_⟩) hH ?_
              rotate_left
              · kernel_rfl
              · kernel_rfl
              · kernel_rfl
              · exact fun _ _ _ h => h
              · kernel_rfl
              · intro wS hSw
                try dsimp only at hSw
                go_simp
                try with_reducible rfl
              try simp only [Act.put, List.setIfInBounds_toArray, List.set_cons_zero, List.set_cons_succ]
              refine wpAnyH_take (i := 7) (oi := { dst := some 103, op := Go.Op.move (Go.Operand.tmp 14), type := 3, pos := "ref.go:109", after := #[], guard := none }) (v := ?_) rfl ?_ ?_ ?_ ?_ (Or.inl ⟨?_, ?_⟩) hH ?_
              rotate_left
              · kernel_rfl
              · kernel_rfl
              · kernel_rfl
              · exact fun _ _ _ h => h
              · kernel_rfl
              · intro wS hSw
                try dsimp only at hSw
                go_simp
                try with_reducible rfl
              try simp only [Act.put, List.setIfInBounds_toArray, List.set_cons_zero, List.set_cons_succ]
              refine wpAnyH_take (i := 8) (oi := { dst := some 104, op := Go.Op.indexAddr 23 (Go.Operand.tmp 102) (Go.Operand.tmp 103), type := 0, pos := "ref.go:109", after := #[{ on := 6, ground := Go.Ground.data }, { on := 7, ground := Go.Ground.data }], guard := none }) (v := ?_) rfl ?_ ?_ ?_ ?_ (Or.inl ⟨?_, ?_⟩) hH ?_
              rotate_left
              · kernel_rfl
              · kernel_rfl
              · kernel_rfl
              · exact fun _ _ _ h => h
              · kernel_rfl
              · intro wS hSw
                try dsimp only at hSw
                go_simp
                try with_reducible rfl
              try simp only [Act.put, List.setIfInBounds_toArray, List.set_cons_zero, List.set_cons_succ]
              refine wpAnyH_take (i := 9) (oi := { dst := some 105, op := Go.Op.fieldAddr 48 (Go.Operand.tmp 104) 0, type := 0, pos := "ref.go:109", after := #[{ on := 8, ground := Go.Ground.data }], guard := none }) (v := ?_) rfl ?_ ?_ ?_ ?_ (Or.inl ⟨?_, ?_⟩) hH ?_
              rotate_left
              · kernel_rfl
              · kernel_rfl
              · kernel_rfl
              · exact fun _ _ _ h => h
              · kernel_rfl
              · intro wS hSw
                try dsimp only at hSw
                go_simp
                try with_reducible rfl
              try simp only [Act.put, List.setIfInBounds_toArray, List.set_cons_zero, List.set_cons_succ]
              refine wpAnyH_take (i := 10) (oi := { dst := some 106, op := Go.Op.load 3 (Go.Operand.tmp 105), type := 3, pos := "ref.go:109", after := #[{ on := 9, ground := Go.Ground.data }], guard := none }) (v := ?_) rfl ?_ ?_ ?_ ?_ (Or.inl ⟨?_, ?_⟩) hH ?_
              rotate_left
              · kernel_rfl
              · kernel_rfl
              · kernel_rfl
              · exact fun _ _ _ h => h
              · kernel_rfl
              · intro wS hSw
                try dsimp only at hSw
                go_simp
                try with_reducible rfl
              try simp only [Act.put, List.setIfInBounds_toArray, List.set_cons_zero, List.set_cons_succ]
              refine wpAnyH_take (i := 11) (oi := { dst := some 107, op := Go.Op.fieldAddr 25 (Go.Operand.tmp 2) 0, type := 0, pos := "ref.go:109", after := #[], guard := none }) (v := ?_) rfl ?_ ?_ ?_ ?_ (Or.inl ⟨?_, ?_⟩) hH ?_
              rotate_left
              · kernel_rfl
              · kernel_rfl
              · kernel_rfl
              · exact fun _ _ _ h => h
              · kernel_rfl
              · intro wS hSw
                try dsimp only at hSw
                go_simp
                try with_reducible rfl
              try simp only [Act.put, List.setIfInBounds_toArray, List.set_cons_zero, List.set_cons_succ]
              refine wpAnyH_take (i := 12) (oi := { dst := some 108, op := Go.Op.load 22 (Go.Operand.tmp 107), type := 22, pos := "ref.go:109", after := #[{ on := 11, ground := Go.Ground.data }], guard := none }) (v := ?_) rfl ?_ ?_ ?_ ?_ (Or.inl ⟨?_, ?_⟩) hH ?_
              rotate_left
              · kernel_rfl
              · kernel_rfl
              · kernel_rfl
              · exact fun _ _ _ h => h
              · kernel_rfl
              · intro wS hSw
                try dsimp only at hSw
                go_simp
                try with_reducible rfl
              try simp only [Act.put, List.setIfInBounds_toArray, List.set_cons_zero, List.set_cons_succ]
              refine wpAnyH_take (i := 13) (oi := { dst := some 109, op := Go.Op.call { callee := Go.Callee.builtin Go.Builtin.len, args := #[Go.Operand.tmp 108], argTypes := #[22] }, type := 3, pos := "ref.go:109", after := #[{ on := 12, ground := Go.Ground.data }], guard := none }) (v := ?_) rfl ?_ ?_ ?_ ?_ (Or.inl ⟨?_, ?_⟩) hH ?_
              rotate_left
              · kernel_rfl
              · kernel_rfl
              · kernel_rfl
              · exact fun _ _ _ h => h
              · kernel_rfl
              · intro wS hSw
                try dsimp only at hSw
                go_simp
                try with_reducible rfl
              try simp only [Act.put, List.setIfInBounds_toArray, List.set_cons_zero, List.set_cons_succ]
              refine wpAnyH_take (i := 14) (oi := { dst := some 110, op := Go.Op.binOp Go.BinOp.shl 3 (Go.Operand.tmp 106) (Go.Operand.tmp 109) 3, type := 3, pos := "ref.go:109", after := #[{ on := 10, ground := Go.Ground.data }, { on := 13, ground := Go.Ground.data }], guard := none }) (v := ?_) rfl ?_ ?_ ?_ ?_ (Or.inl ⟨?_, ?_⟩) hH ?_
              rotate_left
              · kernel_rfl
              · kernel_rfl
              · kernel_rfl
              · exact fun _ _ _ h => h
              · kernel_rfl
              · intro wS hSw
                try dsimp only at hSw
                go_simp
                try with_reducible rfl
              try simp only [Act.put, List.setIfInBounds_toArray, List.set_cons_zero, List.set_cons_succ]
              refine wpAnyH_take (i := 15) (oi := { dst := some 111, op := Go.Op.binOp Go.BinOp.or 3 (Go.Operand.tmp 101) (Go.Operand.tmp 110) 3, type := 3, pos := "ref.go:109", after := #[{ on := 5, ground := Go.Ground.data }, { on := 14, ground := Go.Ground.data }], guard := none }) (v := ?_) rfl ?_ ?_ ?_ ?_ (Or.inl ⟨?_, ?_⟩) hH ?_
              rotate_left
              · kernel_rfl
              · kernel_rfl
              · kernel_rfl
              · exact fun _ _ _ h => h
              · kernel_rfl
              · intro wS hSw
                try dsimp only at hSw
                go_simp
                try with_reducible rfl
              try simp only [Act.put, List.setIfInBounds_toArray, List.set_cons_zero, List.set_cons_succ]
              refine wpAnyH_take (i := 16) (oi := { dst := some 112, op := Go.Op.move (Go.Operand.tmp 15), type := 3, pos := "ref.go:109", after := #[], guard := none }) (v := ?_) rfl ?_ ?_ ?_ ?_ (Or.inl ⟨?_, ?_⟩) hH ?_
              rotate_left
              · kernel_rfl
              · kernel_rfl
              · kernel_rfl
              · exact fun _ _ _ h => h
              · kernel_rfl
              · intro wS hSw
                try dsimp only at hSw
                go_simp
                try with_reducible rfl
              try simp only [Act.put, List.setIfInBounds_toArray, List.set_cons_zero, List.set_cons_succ]
              refine wpAnyH_take (i := 17) (oi := { dst := some 113, op := Go.Op.build 48 #[(0, Go.Operand.tmp 111), (1, Go.Operand.tmp 112)], type := 48, pos := "ref.go:109", after := #[{ on := 15, ground := Go.Ground.data }, { on := 16, ground := Go.Ground.data }], guard := none }) (v := ?_) rfl ?_ ?_ ?_ ?_ (Or.inl ⟨?_, ?_⟩) hH ?_
              rotate_left
              · kernel_rfl
              · kernel_rfl
              · kernel_rfl
              · exact fun _ _ _ h => h
              · kernel_rfl
              · intro wS hSw
                try dsimp only at hSw
                go_simp
                try with_reducible rfl
              try simp only [Act.put, List.setIfInBounds_toArray, List.set_cons_zero, List.set_cons_succ]
              refine wpAnyH_ready (rs := [18]) (by kernel_rfl) (by simp) ?_
              refine AllReadyH.cons (o := { dst := some 114, op := Go.Op.buildSlice 23 1 #[(0, Go.Operand.tmp 113)], type := 23, pos := "ref.go:109", after := #[{ on := 17, ground := Go.Ground.data }], guard := none }) rfl (fun K hK => ?_) AllReadyH.nil
              · go_simp
                have S1 := Lib.hid (heldM12 HSS.out (ba WD (.cells #[.int .i64 (l + P2), .int .i64 t] 48)))
                refine hK.out _ _ ?_ (fun hH1 => ?_)
                · exact S1.out
                clear hK K hH
                try simp only [Act.put, List.setIfInBounds_toArray, List.set_cons_zero, List.set_cons_succ]
                refine wpAnyH_ready (rs := [19]) (by kernel_rfl) (by simp) ?_
                refine AllReadyH.cons (o := { dst := some 115, op := Go.Op.call { callee := Go.Callee.builtin Go.Builtin.append, args := #[Go.Operand.tmp 96, Go.Operand.tmp 114], argTypes := #[23, 23] }, type := 23, pos := "ref.go:109", after := #[{ on := 0, ground := Go.Ground.data }, { on := 18, ground := Go.Ground.data }], guard := none }) rfl (fun K hK => ?_) AllReadyH.nil
                · refine step_append_ks2 (P := Try.prog) Try.underlying23 run_info rfl (by decide) rnC_size (by rfl) (.tmp 96) (.tmp 114) (by rfl) (by rfl) (by rfl) (by rfl) HOd.out h6r [(l + P2, t)] (by rfl) (by decide) (by rfl) (by rfl) hM1 hM2 ?_
                  intro v3 w3 r3 b3 n3
                  have S3 := Lib.hid (heldN12 HSS.out n3 b3.size hgX.2 hgY.2 ⟨by omega, by omega⟩ HAp.out)
                  refine hK.out _ _ ?_ (fun hH2 => ?_)
                  · exact S3.out
                  clear hK K hH1
                  try simp only [Act.put, List.setIfInBounds_toArray, List.set_cons_zero, List.set_cons_succ]
                  refine wpAnyH_take (i := 20) (oi := { dst := some 12, op := Go.Op.assign (Go.Operand.tmp 115), type := 23, pos := "ref.go:109", after := #[{ on := 19, ground := Go.Ground.data }, { on := 19, ground := Go.Ground.chain }, { on := 0, ground := Go.Ground.phase }, { on := 1, ground := Go.Ground.phase }, { on := 2, ground := Go.Ground.phase }, { on := 3, ground := Go.Ground.phase }, { on := 4, ground := Go.Ground.phase }, { on := 5, ground := Go.Ground.phase }, { on := 6, ground := Go.Ground.phase }, { on := 7, ground := Go.Ground.phase }, { on := 8, ground := Go.Ground.phase }, { on := 9, ground := Go.Ground.phase }, { on := 10, ground := Go.Ground.phase }, { on := 11, ground := Go.Ground.phase }, { on := 12, ground := Go.Ground.phase }, { on := 13, ground := Go.Ground.phase }, { on := 14, ground := Go.Ground.phase }, { on := 15, ground := Go.Ground.phase }, { on := 16, ground := Go.Ground.phase }, { on := 17, ground := Go.Ground.phase }, { on := 18, ground := Go.Ground.phase }, { on := 19, ground := Go.Ground.phase }], guard := none }) (v := ?_) rfl ?_ ?_ ?_ ?_ (Or.inl ⟨?_, ?_⟩) hH2 ?_
                  rotate_left
                  · kernel_rfl
                  · kernel_rfl
                  · kernel_rfl
                  · exact fun _ _ _ h => h
                  · kernel_rfl
                  · intro wS hSw
                    try dsimp only at hSw
                    go_simp
                    try with_reducible rfl
                  try simp only [Act.put, List.setIfInBounds_toArray, List.set_cons_zero, List.set_cons_succ]
                  refine wpAnyH_done (by kernel_rfl) ?_ _
                  obtain ⟨FA, FN, FC, rfl, hFN⟩ := KRow.form r3
                  clear hFN
                  have HAq := Lib.hid (show ∀ q, (Value.slice FA FN FC).ownBlock = some q → w6.heap.size ≤ q from fun q hq => (KRow.lt r3 q hq).1)
                  have HX3 := Lib.hid (KRow.kept HXd.out n3 (fun q hq e => by have h1 := HAp.out q e.symm; have h2 : gX = q := Option.some.inj hq; omega))
                  have HY3 := Lib.hid (KRow.kept HYd.out n3 (fun q hq e => by have h1 := HAp.out q e.symm; have h2 : gY = q := Option.some.inj hq; omega))
                  have C3 := Lib.hid (HCd.out.trans (b3.mono (show wu.heap.size ≤ w6.heap.size by omega)))
                  have hs3 : w6.heap.size ≤ w3.heap.size := Nat.le_trans h6r b3.size
                  have HX4 := Lib.hid (RnRow.set1 HX3.out i hiX l 0 HPx.out.symm)
                  have HY4 := Lib.hid (show RnRow (w3.setCell ⟨gX, i * 2 + 1, none⟩ (.int .i64 0)) w5.heap.size (.slice (some ⟨gY, 0, none⟩) YE.length YC) YL from KRow.apart HY3.out (fun q hq => heap_setCell_other w3 ⟨gX, i * 2 + 1, none⟩ (.int .i64 0) q hq) (fun e => hxy (Option.some.inj e).symm))
                  have HO4 := Lib.hid (show RnRow (w3.setCell ⟨gX, i * 2 + 1, none⟩ (.int .i64 0)) w6.heap.size (.slice FA FN FC) _ from KRow.apart r3 (fun q hq => heap_setCell_other w3 ⟨gX, i * 2 + 1, none⟩ (.int .i64 0) q hq) (fun e => by have := HAq.out _ e; show False; have h5 : w6.heap.size ≤ gX := this; omega))
                  have HY5 := Lib.hid (RnRow.set1 HY4.out k hkY m (u - t) HPy.out.symm)
                  have HX5 := Lib.hid (show RnRow ((w3.setCell ⟨gX, i * 2 + 1, none⟩ (.int .i64 0)).setCell ⟨gY, k * 2 + 1, none⟩ (.int .i64 (u - t))) wu.heap.size (.slice (some ⟨gX, 0, none⟩) XE.length XC) (XL.set i (l, 0)) from KRow.apart HX4.out (fun q hq => heap_setCell_other (w3.setCell ⟨gX, i * 2 + 1, none⟩ (.int .i64 0)) ⟨gY, k * 2 + 1, none⟩ (.int .i64 (u - t)) q hq) (fun e => hxy (Option.some.inj e)))
                  have HO5 := Lib.hid (show RnRow ((w3.setCell ⟨gX, i * 2 + 1, none⟩ (.int .i64 0)).setCell ⟨gY, k * 2 + 1, none⟩ (.int .i64 (u - t))) w6.heap.size (.slice FA FN FC) _ from KRow.apart HO4.out (fun q hq => heap_setCell_other (w3.setCell ⟨gX, i * 2 + 1, none⟩ (.int .i64 0)) ⟨gY, k * 2 + 1, none⟩ (.int .i64 (u - t)) q hq) (fun e => by have := HAq.out _ e; show False; have h5 : w6.heap.size ≤ gY := this; omega))
                  have C5 := Lib.hid (show Below wu.heap.size wu ((w3.setCell ⟨gX, i * 2 + 1, none⟩ (.int .i64 0)).setCell ⟨gY, k * 2 + 1, none⟩ (.int .i64 (u - t))) from Below.setCell (Below.setCell C3.out (show wu.heap.size ≤ gX by omega) _) (show wu.heap.size ≤ gY by omega) _)
                  have hs5 : w6.heap.size ≤ ((w3.setCell ⟨gX, i * 2 + 1, none⟩ (.int .i64 0)).setCell ⟨gY, k * 2 + 1, none⟩ (.int .i64 (u - t))).heap.size := by rw [World.size_setCell, World.size_setCell]; exact hs3
                  have HS5 := Lib.hid hs5
                  have q1 := (RnRow.two HX3.out i hiX).2.1
                  have q2 := (RnRow.two HX3.out i hiX).2.2.2
                  rw [← HTx.out] at q1
                  have q3 := (RnRow.two HY4.out k hkY).2.1
                  have q4 := (RnRow.two HY4.out k hkY).2.2.2
                  rw [← HTy.out] at q3
                  have q5 := (RnRow.two HX5.out i (by rw [List.length_set]; exact hiX)).2.1
                  have q6 := (RnRow.two HY5.out k (by rw [List.length_set]; exact hkY)).2.1
                  rw [List.getElem_set_self] at q5 q6
                  have HLn5 := Lib.hid (show (XL.set i (l, 0)).length = XE.length ∧ (YL.set k (m, (u - t))).length = YE.length by rw [List.length_set, List.length_set]; exact HLn.out)
                  clear r3 b3 n3 y0 y1 y2 y3 g0 HOd HXd HYd hM1 hM2 hs3 hs5
                  go_wp2
                  go_roundw
                  case rel => exact ⟨i + 1, k, _, _, _, by first | rfl | go_num, by first | rfl | go_num, HLn5, HNI, HX5, HY5, HO5, HS5, C5⟩
                  case measure => simp [intOf]; omega
            · subst hc
              have hn0 : ¬ t < t := by omega
              have hn1 : decide (t < t) = false := decide_eq_false hn0
              have HNI := Lib.hid (sEq rfl)
              have hw0 : IntKind.i64.wrap (t - t) = 0 := by rw [Int.sub_self]; rfl
              clear sLt sEq sGt hmm
              (try clear hc)
              go_wp2
              refine wp_region_held_drew (S := fun w' => w'.cell? ⟨gX, i * 2, none⟩ = some (.int .i64 l) ∧ w'.cell? ⟨gY, k * 2, none⟩ = some (.int .i64 m) ∧ w'.cell? ⟨w.heap.size, 0, none⟩ = some (.slice A1 A.length c1) ∧ gX < w'.heap.size ∧ gY < w'.heap.size ∧ w.heap.size < w'.heap.size) (by kernel_rfl) ?_ (fun hH => ?_)
              · exact SS1
              have HSS := Lib.hid SS1
              clear f0 f1 f2 f3 SS1
              generalize wr.drew = WD at *
              refine wpAnyH_take (i := 0) (oi := { dst := some 96, op := Go.Op.move (Go.Operand.tmp 12), type := 23, pos := "ref.go:109", after := #[], guard := none }) (v := ?_) rfl ?_ ?_ ?_ ?_ (Or.inl ⟨?_, ?_⟩) hH ?_
              rotate_left
              · kernel_rfl
              · kernel_rfl
              · kernel_rfl
              · exact fun _ _ _ h => h
              · kernel_rfl
              · intro wS hSw
                try dsimp only at hSw
                go_simp
                try with_reducible rfl
              try simp only [Act.put, List.setIfInBounds_toArray, List.set_cons_zero, List.set_cons_succ]
              refine wpAnyH_take (i := 1) (oi := { dst := some 97, op := Go.Op.move (Go.Operand.tmp 10), type := 23, pos := "ref.go:109", after := #[], guard := none }) (v := ?_) rfl ?_ ?_ ?_ ?_ (Or.inl ⟨?_, ?_⟩) hH ?_
              rotate_left
              · kernel_rfl
              · kernel_rfl
              · kernel_rfl
              · exact fun _ _ _ h => h
              · kernel_rfl
              · intro wS hSw
                try dsimp only at hSw
                go_simp
                try with_reducible rfl
              try simp only [Act.put, List.setIfInBounds_toArray, List.set_cons_zero, List.set_cons_succ]
              refine wpAnyH_take (i := 2) (oi := { dst := some 98, op := Go.Op.move (Go.Operand.tmp 13), type := 3, pos := "ref.go:109", after := #[], guard := none }) (v := ?_) rfl ?_ ?_ ?_ ?_ (Or.inl ⟨?_, ?_⟩) hH ?_
              rotate_left
              · kernel_rfl
              · kernel_rfl
              · kernel_rfl
              · exact fun _ _ _ h => h
              · kernel_rfl
              · intro wS hSw
                try dsimp only at hSw
                go_simp
                try with_reducible rfl
              try simp only [Act.put, List.setIfInBounds_toArray, List.set_cons_zero, List.set_cons_succ]
              refine wpAnyH_take (i := 3) (oi := { dst := some 99, op := Go.Op.indexAddr 23 (Go.Operand.tmp 97) (Go.Operand.tmp 98), type := 0, pos := "ref.go:109", after := #[{ on := 1, ground := Go.Ground.data }, { on := 2, ground := Go.Ground.data }], guard := none }) (v := ?_) rfl ?_ ?_ ?_ ?_ (Or.inl ⟨?_, ?_⟩) hH ?_
              rotate_left
              · kernel_rfl
              · kernel_rfl
              · kernel_rfl
              · exact fun _ _ _ h => h
              · kernel_rfl
              · intro wS hSw
                try dsimp only at hSw
                go_simp
                try with_reducible rfl
              try simp only [Act.put, List.setIfInBounds_toArray, List.set_cons_zero, List.set_cons_succ]
              refine wpAnyH_take (i := 4) (oi := { dst := some 100, op := Go.Op.fieldAddr 48 (Go.Operand.tmp 99) 0, type := 0, pos := "ref.go:109", after := #[{ on := 3, ground := Go.Ground.data }], guard := none }) (v := ?_) rfl ?_ ?_ ?_ ?_ (Or.inl ⟨?_, ?_⟩) hH ?_
              rotate_left
              · kernel_rfl
              · kernel_rfl
              · kernel_rfl
              · exact fun _ _ _ h => h
              · kernel_rfl
              · intro wS hSw
                try dsimp only at hSw
                go_simp
                try with_reducible rfl
              try simp only [Act.put, List.setIfInBounds_toArray, List.set_cons_zero, List.set_cons_succ]
              refine wpAnyH_take (i := 5) (oi := { dst := some 101, op := Go.Op.load 3 (Go.Operand.tmp 100), type := 3, pos := "ref.go:109", after := #[{ on := 4, ground := Go.Ground.data }], guard := none }) (v := ?_) rfl ?_ ?_ ?_ ?_ (Or.inl ⟨?_, ?_⟩) hH ?_
              rotate_left
              · kernel_rfl
              · kernel_rfl
              · kernel_rfl
              · exact fun _ _ _ h => h
              · kernel_rfl
              · intro wS hSw
                try dsimp only at hSw
                go_simp
                try with_reducible rfl
              try simp only [Act.put, List.setIfInBounds_toArray, List.set_cons_zero, List.set_cons_succ]
              refine wpAnyH_take (i := 6) (oi := { dst := some 102, op := Go.Op.move (Go.Operand.tmp 11), type := 23, pos := "ref.go:109", after := #[], guard := none }) (v := ?_) rfl ?_ ?_ ?_ ?_ (Or.inl ⟨?_, ?_⟩) hH ?_
              rotate_left
              · kernel_rfl
              · kernel_rfl
              · kernel_rfl
              · exact fun _ _ _ h => h
              · kernel_rfl
              · intro wS hSw
                try dsimp only at hSw
                go_simp
                try with_reducible rfl
              try simp only [Act.put, List.setIfInBounds_toArray, List.set_cons_zero, List.set_cons_succ]
              refine wpAnyH_take (i := 7) (oi := { dst := some 103, op := Go.Op.move (Go.Operand.tmp 14), type := 3, pos := "ref.go:109", after := #[], guard := none }) (v := ?_) rfl ?_ ?_ ?_ ?_ (Or.inl ⟨?_, ?_⟩) hH ?_
              rotate_left
              · kernel_rfl
              · kernel_rfl
              · kernel_rfl
              · exact fun _ _ _ h => h
              · kernel_rfl
              · intro wS hSw
                try dsimp only at hSw
                go_simp
                try with_reducible rfl
              try simp only [Act.put, List.setIfInBounds_toArray, List.set_cons_zero, List.set_cons_succ]
              refine wpAnyH_take (i := 8) (oi := { dst := some 104, op := Go.Op.indexAddr 23 (Go.Operand.tmp 102) (Go.Operand.tmp 103), type := 0, pos := "ref.go:109", after := #[{ on := 6, ground := Go.Ground.data }, { on := 7, ground := Go.Ground.data }], guard := none }) (v := ?_) rfl ?_ ?_ ?_ ?_ (Or.inl ⟨?_, ?_⟩) hH ?_
              rotate_left
              · kernel_rfl
              · kernel_rfl
              · kernel_rfl
              · exact fun _ _ _ h => h
              · kernel_rfl
              · intro wS hSw
                try dsimp only at hSw
                go_simp
                try with_reducible rfl
              try simp only [Act.put, List.setIfInBounds_toArray, List.set_cons_zero, List.set_cons_succ]
              refine wpAnyH_take (i := 9) (oi := { dst := some 105, op := Go.Op.fieldAddr 48 (Go.Operand.tmp 104) 0, type := 0, pos := "ref.go:109", after := #[{ on := 8, ground := Go.Ground.data }], guard := none }) (v := ?_) rfl ?_ ?_ ?_ ?_ (Or.inl ⟨?_, ?_⟩) hH ?_
              rotate_left
              · kernel_rfl
              · kernel_rfl
              · kernel_rfl
              · exact fun _ _ _ h => h
              · kernel_rfl
              · intro wS hSw
                try dsimp only at hSw
                go_simp
                try with_reducible rfl
              try simp only [Act.put, List.setIfInBounds_toArray, List.set_cons_zero, List.set_cons_succ]
              refine wpAnyH_take (i := 10) (oi := { dst := some 106, op := Go.Op.load 3 (Go.Operand.tmp 105), type := 3, pos := "ref.go:109", after := #[{ on := 9, ground := Go.Ground.data }], guard := none }) (v := ?_) rfl ?_ ?_ ?_ ?_ (Or.inl ⟨?_, ?_⟩) hH ?_
              rotate_left
              · kernel_rfl
              · kernel_rfl
              · kernel_rfl
              · exact fun _ _ _ h => h
              · kernel_rfl
              · intro wS hSw
                try dsimp only at hSw
                go_simp
                try with_reducible rfl
              try simp only [Act.put, List.setIfInBounds_toArray, List.set_cons_zero, List.set_cons_succ]
              refine wpAnyH_take (i := 11) (oi := { dst := some 107, op := Go.Op.fieldAddr 25 (Go.Operand.tmp 2) 0, type := 0, pos := "ref.go:109", after := #[], guard := none }) (v := ?_) rfl ?_ ?_ ?_ ?_ (Or.inl ⟨?_, ?_⟩) hH ?_
              rotate_left
              · kernel_rfl
              · kernel_rfl
              · kernel_rfl
              · exact fun _ _ _ h => h
              · kernel_rfl
              · intro wS hSw
                try dsimp only at hSw
                go_simp
                try with_reducible rfl
              try simp only [Act.put, List.setIfInBounds_toArray, List.set_cons_zero, List.set_cons_succ]
              refine wpAnyH_take (i := 12) (oi := { dst := some 108, op := Go.Op.load 22 (Go.Operand.tmp 107), type := 22, pos := "ref.go:109", after := #[{ on := 11, ground := Go.Ground.data }], guard := none }) (v := ?_) rfl ?_ ?_ ?_ ?_ (Or.inl ⟨?_, ?_⟩) hH ?_
              rotate_left
              · kernel_rfl
              · kernel_rfl
              · kernel_rfl
              · exact fun _ _ _ h => h
              · kernel_rfl
              · intro wS hSw
                try dsimp only at hSw
                go_simp
                try with_reducible rfl
              try simp only [Act.put, List.setIfInBounds_toArray, List.set_cons_zero, List.set_cons_succ]
              refine wpAnyH_take (i := 13) (oi := { dst := some 109, op := Go.Op.call { callee := Go.Callee.builtin Go.Builtin.len, args := #[Go.Operand.tmp 108], argTypes := #[22] }, type := 3, pos := "ref.go:109", after := #[{ on := 12, ground := Go.Ground.data }], guard := none }) (v := ?_) rfl ?_ ?_ ?_ ?_ (Or.inl ⟨?_, ?_⟩) hH ?_
              rotate_left
              · kernel_rfl
              · kernel_rfl
              · kernel_rfl
              · exact fun _ _ _ h => h
              · kernel_rfl
              · intro wS hSw
                try dsimp only at hSw
                go_simp
                try with_reducible rfl
              try simp only [Act.put, List.setIfInBounds_toArray, List.set_cons_zero, List.set_cons_succ]
              refine wpAnyH_take (i := 14) (oi := { dst := some 110, op := Go.Op.binOp Go.BinOp.shl 3 (Go.Operand.tmp 106) (Go.Operand.tmp 109) 3, type := 3, pos := "ref.go:109", after := #[{ on := 10, ground := Go.Ground.data }, { on := 13, ground := Go.Ground.data }], guard := none }) (v := ?_) rfl ?_ ?_ ?_ ?_ (Or.inl ⟨?_, ?_⟩) hH ?_
              rotate_left
              · kernel_rfl
              · kernel_rfl
              · kernel_rfl
              · exact fun _ _ _ h => h
              · kernel_rfl
              · intro wS hSw
                try dsimp only at hSw
                go_simp
                try with_reducible rfl
              try simp only [Act.put, List.setIfInBounds_toArray, List.set_cons_zero, List.set_cons_succ]
              refine wpAnyH_take (i := 15) (oi := { dst := some 111, op := Go.Op.binOp Go.BinOp.or 3 (Go.Operand.tmp 101) (Go.Operand.tmp 110) 3, type := 3, pos := "ref.go:109", after := #[{ on := 5, ground := Go.Ground.data }, { on := 14, ground := Go.Ground.data }], guard := none }) (v := ?_) rfl ?_ ?_ ?_ ?_ (Or.inl ⟨?_, ?_⟩) hH ?_
              rotate_left
              · kernel_rfl
              · kernel_rfl
              · kernel_rfl
              · exact fun _ _ _ h => h
              · kernel_rfl
              · intro wS hSw
                try dsimp only at hSw
                go_simp
                try with_reducible rfl
              try simp only [Act.put, List.setIfInBounds_toArray, List.set_cons_zero, List.set_cons_succ]
              refine wpAnyH_take (i := 16) (oi := { dst := some 112, op := Go.Op.move (Go.Operand.tmp 15), type := 3, pos := "ref.go:109", after := #[], guard := none }) (v := ?_) rfl ?_ ?_ ?_ ?_ (Or.inl ⟨?_, ?_⟩) hH ?_
              rotate_left
              · kernel_rfl
              · kernel_rfl
              · kernel_rfl
              · exact fun _ _ _ h => h
              · kernel_rfl
              · intro wS hSw
                try dsimp only at hSw
                go_simp
                try with_reducible rfl
              try simp only [Act.put, List.setIfInBounds_toArray, List.set_cons_zero, List.set_cons_succ]
              refine wpAnyH_take (i := 17) (oi := { dst := some 113, op := Go.Op.build 48 #[(0, Go.Operand.tmp 111), (1, Go.Operand.tmp 112)], type := 48, pos := "ref.go:109", after := #[{ on := 15, ground := Go.Ground.data }, { on := 16, ground := Go.Ground.data }], guard := none }) (v := ?_) rfl ?_ ?_ ?_ ?_ (Or.inl ⟨?_, ?_⟩) hH ?_
              rotate_left
              · kernel_rfl
              · kernel_rfl
              · kernel_rfl
              · exact fun _ _ _ h => h
              · kernel_rfl
              · intro wS hSw
                try dsimp only at hSw
                go_simp
                try with_reducible rfl
              try simp only [Act.put, List.setIfInBounds_toArray, List.set_cons_zero, List.set_cons_succ]
              refine wpAnyH_ready (rs := [18]) (by kernel_rfl) (by simp) ?_
              refine AllReadyH.cons (o := { dst := some 114, op := Go.Op.buildSlice 23 1 #[(0, Go.Operand.tmp 113)], type := 23, pos := "ref.go:109", after := #[{ on := 17, ground := Go.Ground.data }], guard := none }) rfl (fun K hK => ?_) AllReadyH.nil
              · go_simp
                have S1 := Lib.hid (heldM12 HSS.out (ba WD (.cells #[.int .i64 (l + P2), .int .i64 t] 48)))
                refine hK.out _ _ ?_ (fun hH1 => ?_)
                · exact S1.out
                clear hK K hH
                try simp only [Act.put, List.setIfInBounds_toArray, List.set_cons_zero, List.set_cons_succ]
                refine wpAnyH_ready (rs := [19]) (by kernel_rfl) (by simp) ?_
                refine AllReadyH.cons (o := { dst := some 115, op := Go.Op.call { callee := Go.Callee.builtin Go.Builtin.append, args := #[Go.Operand.tmp 96, Go.Operand.tmp 114], argTypes := #[23, 23] }, type := 23, pos := "ref.go:109", after := #[{ on := 0, ground := Go.Ground.data }, { on := 18, ground := Go.Ground.data }], guard := none }) rfl (fun K hK => ?_) AllReadyH.nil
                · refine step_append_ks2 (P := Try.prog) Try.underlying23 run_info rfl (by decide) rnC_size (by rfl) (.tmp 96) (.tmp 114) (by rfl) (by rfl) (by rfl) (by rfl) HOd.out h6r [(l + P2, t)] (by rfl) (by decide) (by rfl) (by rfl) hM1 hM2 ?_
                  intro v3 w3 r3 b3 n3
                  have S3 := Lib.hid (heldN12 HSS.out n3 b3.size hgX.2 hgY.2 ⟨by omega, by omega⟩ HAp.out)
                  refine hK.out _ _ ?_ (fun hH2 => ?_)
                  · exact S3.out
                  clear hK K hH1
                  try simp only [Act.put, List.setIfInBounds_toArray, List.set_cons_zero, List.set_cons_succ]
                  refine wpAnyH_take (i := 20) (oi := { dst := some 12, op := Go.Op.assign (Go.Operand.tmp 115), type := 23, pos := "ref.go:109", after := #[{ on := 19, ground := Go.Ground.data }, { on := 19, ground := Go.Ground.chain }, { on := 0, ground := Go.Ground.phase }, { on := 1, ground := Go.Ground.phase }, { on := 2, ground := Go.Ground.phase }, { on := 3, ground := Go.Ground.phase }, { on := 4, ground := Go.Ground.phase }, { on := 5, ground := Go.Ground.phase }, { on := 6, ground := Go.Ground.phase }, { on := 7, ground := Go.Ground.phase }, { on := 8, ground := Go.Ground.phase }, { on := 9, ground := Go.Ground.phase }, { on := 10, ground := Go.Ground.phase }, { on := 11, ground := Go.Ground.phase }, { on := 12, ground := Go.Ground.phase }, { on := 13, ground := Go.Ground.phase }, { on := 14, ground := Go.Ground.phase }, { on := 15, ground := Go.Ground.phase }, { on := 16, ground := Go.Ground.phase }, { on := 17, ground := Go.Ground.phase }, { on := 18, ground := Go.Ground.phase }, { on := 19, ground := Go.Ground.phase }], guard := none }) (v := ?_) rfl ?_ ?_ ?_ ?_ (Or.inl ⟨?_, ?_⟩) hH2 ?_
                  rotate_left
                  · kernel_rfl
                  · kernel_rfl
                  · kernel_rfl
                  · exact fun _ _ _ h => h
                  · kernel_rfl
                  · intro wS hSw
                    try dsimp only at hSw
                    go_simp
                    try with_reducible rfl
                  try simp only [Act.put, List.setIfInBounds_toArray, List.set_cons_zero, List.set_cons_succ]
                  refine wpAnyH_done (by kernel_rfl) ?_ _
                  obtain ⟨FA, FN, FC, rfl, hFN⟩ := KRow.form r3
                  clear hFN
                  have HAq := Lib.hid (show ∀ q, (Value.slice FA FN FC).ownBlock = some q → w6.heap.size ≤ q from fun q hq => (KRow.lt r3 q hq).1)
                  have HX3 := Lib.hid (KRow.kept HXd.out n3 (fun q hq e => by have h1 := HAp.out q e.symm; have h2 : gX = q := Option.some.inj hq; omega))
                  have HY3 := Lib.hid (KRow.kept HYd.out n3 (fun q hq e => by have h1 := HAp.out q e.symm; have h2 : gY = q := Option.some.inj hq; omega))
                  have C3 := Lib.hid (HCd.out.trans (b3.mono (show wu.heap.size ≤ w6.heap.size by omega)))
                  have hs3 : w6.heap.size ≤ w3.heap.size := Nat.le_trans h6r b3.size
                  have HX4 := Lib.hid (RnRow.set1 HX3.out i hiX l 0 HPx.out.symm)
                  have HY4 := Lib.hid (show RnRow (w3.setCell ⟨gX, i * 2 + 1, none⟩ (.int .i64 0)) w5.heap.size (.slice (some ⟨gY, 0, none⟩) YE.length YC) YL from KRow.apart HY3.out (fun q hq => heap_setCell_other w3 ⟨gX, i * 2 + 1, none⟩ (.int .i64 0) q hq) (fun e => hxy (Option.some.inj e).symm))
                  have HO4 := Lib.hid (show RnRow (w3.setCell ⟨gX, i * 2 + 1, none⟩ (.int .i64 0)) w6.heap.size (.slice FA FN FC) _ from KRow.apart r3 (fun q hq => heap_setCell_other w3 ⟨gX, i * 2 + 1, none⟩ (.int .i64 0) q hq) (fun e => by have := HAq.out _ e; show False; have h5 : w6.heap.size ≤ gX := this; omega))
                  have HY5 := Lib.hid (RnRow.set1 HY4.out k hkY m 0 HPy.out.symm)
                  have HX5 := Lib.hid (show RnRow ((w3.setCell ⟨gX, i * 2 + 1, none⟩ (.int .i64 0)).setCell ⟨gY, k * 2 + 1, none⟩ (.int .i64 0)) wu.heap.size (.slice (some ⟨gX, 0, none⟩) XE.length XC) (XL.set i (l, 0)) from KRow.apart HX4.out (fun q hq => heap_setCell_other (w3.setCell ⟨gX, i * 2 + 1, none⟩ (.int .i64 0)) ⟨gY, k * 2 + 1, none⟩ (.int .i64 0) q hq) (fun e => hxy (Option.some.inj e)))
                  have HO5 := Lib.hid (show RnRow ((w3.setCell ⟨gX, i * 2 + 1, none⟩ (.int .i64 0)).setCell ⟨gY, k * 2 + 1, none⟩ (.int .i64 0)) w6.heap.size (.slice FA FN FC) _ from KRow.apart HO4.out (fun q hq => heap_setCell_other (w3.setCell ⟨gX, i * 2 + 1, none⟩ (.int .i64 0)) ⟨gY, k * 2 + 1, none⟩ (.int .i64 0) q hq) (fun e => by have := HAq.out _ e; show False; have h5 : w6.heap.size ≤ gY := this; omega))
                  have C5 := Lib.hid (show Below wu.heap.size wu ((w3.setCell ⟨gX, i * 2 + 1, none⟩ (.int .i64 0)).setCell ⟨gY, k * 2 + 1, none⟩ (.int .i64 0)) from Below.setCell (Below.setCell C3.out (show wu.heap.size ≤ gX by omega) _) (show wu.heap.size ≤ gY by omega) _)
                  have hs5 : w6.heap.size ≤ ((w3.setCell ⟨gX, i * 2 + 1, none⟩ (.int .i64 0)).setCell ⟨gY, k * 2 + 1, none⟩ (.int .i64 0)).heap.size := by rw [World.size_setCell, World.size_setCell]; exact hs3
                  have HS5 := Lib.hid hs5
                  have q1 := (RnRow.two HX3.out i hiX).2.1
                  have q2 := (RnRow.two HX3.out i hiX).2.2.2
                  rw [← HTx.out] at q1
                  have q3 := (RnRow.two HY4.out k hkY).2.1
                  have q4 := (RnRow.two HY4.out k hkY).2.2.2
                  rw [← HTy.out] at q3
                  have q5 := (RnRow.two HX5.out i (by rw [List.length_set]; exact hiX)).2.1
                  have q6 := (RnRow.two HY5.out k (by rw [List.length_set]; exact hkY)).2.1
                  rw [List.getElem_set_self] at q5 q6
                  have HLn5 := Lib.hid (show (XL.set i (l, 0)).length = XE.length ∧ (YL.set k (m, 0)).length = YE.length by rw [List.length_set, List.length_set]; exact HLn.out)
                  clear r3 b3 n3 y0 y1 y2 y3 g0 HOd HXd HYd hM1 hM2 hs3 hs5
                  go_wp2
                  go_roundw
                  case rel => exact ⟨i + 1, k + 1, _, _, _, by first | rfl | go_num, by first | rfl | go_num, HLn5, HNI, HX5, HY5, HO5, HS5, C5⟩
                  case measure => simp [intOf]; omega
            · have hn0 : u < t := hc
              have hn1 : decide (u < t) = true := decide_eq_true hn0
              have HNI := Lib.hid (sGt hc)
              have hz1 : ((t - u) == 0) = false := by rw [beq_eq_false_iff_ne]; omega
              have hz2 : ¬ t - u = 0 := by omega
              have hw1 := IntWalk.i64_in (t - u) (by omega)
              have hw0 : IntKind.i64.wrap (u - u) = 0 := by rw [Int.sub_self]; rfl
              clear sLt sEq sGt hmm
              (try clear hc)
              go_wp2
              refine wp_region_held_drew (S := fun w' => w'.cell? ⟨gX, i * 2, none⟩ = some (.int .i64 l) ∧ w'.cell? ⟨gY, k * 2, none⟩ = some (.int .i64 m) ∧ w'.cell? ⟨w.heap.size, 0, none⟩ = some (.slice A1 A.length c1) ∧ gX < w'.heap.size ∧ gY < w'.heap.size ∧ w.heap.size < w'.heap.size) (by kernel_rfl) ?_ (fun hH => ?_)
              · exact SS1
              have HSS := Lib.hid SS1
              clear f0 f1 f2 f3 SS1
              generalize wr.drew = WD at *
              refine wpAnyH_take (i := 0) (oi := { dst := some 96, op := Go.Op.move (Go.Operand.tmp 12), type := 23, pos := "ref.go:109", after := #[], guard := none }) (v := ?_) rfl ?_ ?_ ?_ ?_ (Or.inl ⟨?_, ?_⟩) hH ?_
              rotate_left
              · kernel_rfl
              · kernel_rfl
              · kernel_rfl
              · exact fun _ _ _ h => h
              · kernel_rfl
              · intro wS hSw
                try dsimp only at hSw
                go_simp
                try with_reducible rfl
              try simp only [Act.put, List.setIfInBounds_toArray, List.set_cons_zero, List.set_cons_succ]
              refine wpAnyH_take (i := 1) (oi := { dst := some 97, op := Go.Op.move (Go.Operand.tmp 10), type := 23, pos := "ref.go:109", after := #[], guard := none }) (v := ?_) rfl ?_ ?_ ?_ ?_ (Or.inl ⟨?_, ?_⟩) hH ?_
              rotate_left
              · kernel_rfl
              · kernel_rfl
              · kernel_rfl
              · exact fun _ _ _ h => h
              · kernel_rfl
              · intro wS hSw
                try dsimp only at hSw
                go_simp
                try with_reducible rfl
              try simp only [Act.put, List.setIfInBounds_toArray, List.set_cons_zero, List.set_cons_succ]
              refine wpAnyH_take (i := 2) (oi := { dst := some 98, op := Go.Op.move (Go.Operand.tmp 13), type := 3, pos := "ref.go:109", after := #[], guard := none }) (v := ?_) rfl ?_ ?_ ?_ ?_ (Or.inl ⟨?_, ?_⟩) hH ?_
              rotate_left
              · kernel_rfl
              · kernel_rfl
              · kernel_rfl
              · exact fun _ _ _ h => h
              · kernel_rfl
              · intro wS hSw
                try dsimp only at hSw
                go_simp
                try with_reducible rfl
              try simp only [Act.put, List.setIfInBounds_toArray, List.set_cons_zero, List.set_cons_succ]
              refine wpAnyH_take (i := 3) (oi := { dst := some 99, op := Go.Op.indexAddr 23 (Go.Operand.tmp 97) (Go.Operand.tmp 98), type := 0, pos := "ref.go:109", after := #[{ on := 1, ground := Go.Ground.data }, { on := 2, ground := Go.Ground.data }], guard := none }) (v := ?_) rfl ?_ ?_ ?_ ?_ (Or.inl ⟨?_, ?_⟩) hH ?_
              rotate_left
              · kernel_rfl
              · kernel_rfl
              · kernel_rfl
              · exact fun _ _ _ h => h
              · kernel_rfl
              · intro wS hSw
                try dsimp only at hSw
                go_simp
                try with_reducible rfl
              try simp only [Act.put, List.setIfInBounds_toArray, List.set_cons_zero, List.set_cons_succ]
              refine wpAnyH_take (i := 4) (oi := { dst := some 100, op := Go.Op.fieldAddr 48 (Go.Operand.tmp 99) 0, type := 0, pos := "ref.go:109", after := #[{ on := 3, ground := Go.Ground.data }], guard := none }) (v := ?_) rfl ?_ ?_ ?_ ?_ (Or.inl ⟨?_, ?_⟩) hH ?_
              rotate_left
              · kernel_rfl
              · kernel_rfl
              · kernel_rfl
              · exact fun _ _ _ h => h
              · kernel_rfl
              · intro wS hSw
                try dsimp only at hSw
                go_simp
                try with_reducible rfl
              try simp only [Act.put, List.setIfInBounds_toArray, List.set_cons_zero, List.set_cons_succ]
              refine wpAnyH_take (i := 5) (oi := { dst := some 101, op := Go.Op.load 3 (Go.Operand.tmp 100), type := 3, pos := "ref.go:109", after := #[{ on := 4, ground := Go.Ground.data }], guard := none }) (v := ?_) rfl ?_ ?_ ?_ ?_ (Or.inl ⟨?_, ?_⟩) hH ?_
              rotate_left
              · kernel_rfl
              · kernel_rfl
              · kernel_rfl
              · exact fun _ _ _ h => h
              · kernel_rfl
              · intro wS hSw
                try dsimp only at hSw
                go_simp
                try with_reducible rfl
              try simp only [Act.put, List.setIfInBounds_toArray, List.set_cons_zero, List.set_cons_succ]
              refine wpAnyH_take (i := 6) (oi := { dst := some 102, op := Go.Op.move (Go.Operand.tmp 11), type := 23, pos := "ref.go:109", after := #[], guard := none }) (v := ?_) rfl ?_ ?_ ?_ ?_ (Or.inl ⟨?_, ?_⟩) hH ?_
              rotate_left
              · kernel_rfl
              · kernel_rfl
              · kernel_rfl
              · exact fun _ _ _ h => h
              · kernel_rfl
              · intro wS hSw
                try dsimp only at hSw
                go_simp
                try with_reducible rfl
              try simp only [Act.put, List.setIfInBounds_toArray, List.set_cons_zero, List.set_cons_succ]
              refine wpAnyH_take (i := 7) (oi := { dst := some 103, op := Go.Op.move (Go.Operand.tmp 14), type := 3, pos := "ref.go:109", after := #[], guard := none }) (v := ?_) rfl ?_ ?_ ?_ ?_ (Or.inl ⟨?_, ?_⟩) hH ?_
              rotate_left
              · kernel_rfl
              · kernel_rfl
              · kernel_rfl
              · exact fun _ _ _ h => h
              · kernel_rfl
              · intro wS hSw
                try dsimp only at hSw
                go_simp
                try with_reducible rfl
              try simp only [Act.put, List.setIfInBounds_toArray, List.set_cons_zero, List.set_cons_succ]
              refine wpAnyH_take (i := 8) (oi := { dst := some 104, op := Go.Op.indexAddr 23 (Go.Operand.tmp 102) (Go.Operand.tmp 103), type := 0, pos := "ref.go:109", after := #[{ on := 6, ground := Go.Ground.data }, { on := 7, ground := Go.Ground.data }], guard := none }) (v := ?_) rfl ?_ ?_ ?_ ?_ (Or.inl ⟨?_, ?_⟩) hH ?_
              rotate_left
              · kernel_rfl
              · kernel_rfl
              · kernel_rfl
              · exact fun _ _ _ h => h
              · kernel_rfl
              · intro wS hSw
                try dsimp only at hSw
                go_simp
                try with_reducible rfl
              try simp only [Act.put, List.setIfInBounds_toArray, List.set_cons_zero, List.set_cons_succ]
              refine wpAnyH_take (i := 9) (oi := { dst := some 105, op := Go.Op.fieldAddr 48 (Go.Operand.tmp 104) 0, type := 0, pos := "ref.go:109", after := #[{ on := 8, ground := Go.Ground.data }], guard := none }) (v := ?_) rfl ?_ ?_ ?_ ?_ (Or.inl ⟨?_, ?_⟩) hH ?_
              rotate_left
              · kernel_rfl
              · kernel_rfl
              · kernel_rfl
              · exact fun _ _ _ h => h
              · kernel_rfl
              · intro wS hSw
                try dsimp only at hSw
                go_simp
                try with_reducible rfl
              try simp only [Act.put, List.setIfInBounds_toArray, List.set_cons_zero, List.set_cons_succ]
              refine wpAnyH_take (i := 10) (oi := { dst := some 106, op := Go.Op.load 3 (Go.Operand.tmp 105), type := 3, pos := "ref.go:109", after := #[{ on := 9, ground := Go.Ground.data }], guard := none }) (v := ?_) rfl ?_ ?_ ?_ ?_ (Or.inl ⟨?_, ?_⟩) hH ?_
              rotate_left
              · kernel_rfl
              · kernel_rfl
              · kernel_rfl
              · exact fun _ _ _ h => h
              · kernel_rfl
              · intro wS hSw
                try dsimp only at hSw
                go_simp
                try with_reducible rfl
              try simp only [Act.put, List.setIfInBounds_toArray, List.set_cons_zero, List.set_cons_succ]
              refine wpAnyH_take (i := 11) (oi := { dst := some 107, op := Go.Op.fieldAddr 25 (Go.Operand.tmp 2) 0, type := 0, pos := "ref.go:109", after := #[], guard := none }) (v := ?_) rfl ?_ ?_ ?_ ?_ (Or.inl ⟨?_, ?_⟩) hH ?_
              rotate_left
              · kernel_rfl
              · kernel_rfl
              · kernel_rfl
              · exact fun _ _ _ h => h
              · kernel_rfl
              · intro wS hSw
                try dsimp only at hSw
                go_simp
                try with_reducible rfl
              try simp only [Act.put, List.setIfInBounds_toArray, List.set_cons_zero, List.set_cons_succ]
              refine wpAnyH_take (i := 12) (oi := { dst := some 108, op := Go.Op.load 22 (Go.Operand.tmp 107), type := 22, pos := "ref.go:109", after := #[{ on := 11, ground := Go.Ground.data }], guard := none }) (v := ?_) rfl ?_ ?_ ?_ ?_ (Or.inl ⟨?_, ?_⟩) hH ?_
              rotate_left
              · kernel_rfl
              · kernel_rfl
              · kernel_rfl
              · exact fun _ _ _ h => h
              · kernel_rfl
              · intro wS hSw
                try dsimp only at hSw
                go_simp
                try with_reducible rfl
              try simp only [Act.put, List.setIfInBounds_toArray, List.set_cons_zero, List.set_cons_succ]
              refine wpAnyH_take (i := 13) (oi := { dst := some 109, op := Go.Op.call { callee := Go.Callee.builtin Go.Builtin.len, args := #[Go.Operand.tmp 108], argTypes := #[22] }, type := 3, pos := "ref.go:109", after := #[{ on := 12, ground := Go.Ground.data }], guard := none }) (v := ?_) rfl ?_ ?_ ?_ ?_ (Or.inl ⟨?_, ?_⟩) hH ?_
              rotate_left
              · kernel_rfl
              · kernel_rfl
              · kernel_rfl
              · exact fun _ _ _ h => h
              · kernel_rfl
              · intro wS hSw
                try dsimp only at hSw
                go_simp
                try with_reducible rfl
              try simp only [Act.put, List.setIfInBounds_toArray, List.set_cons_zero, List.set_cons_succ]
              refine wpAnyH_take (i := 14) (oi := { dst := some 110, op := Go.Op.binOp Go.BinOp.shl 3 (Go.Operand.tmp 106) (Go.Operand.tmp 109) 3, type := 3, pos := "ref.go:109", after := #[{ on := 10, ground := Go.Ground.data }, { on := 13, ground := Go.Ground.data }], guard := none }) (v := ?_) rfl ?_ ?_ ?_ ?_ (Or.inl ⟨?_, ?_⟩) hH ?_
              rotate_left
              · kernel_rfl
              · kernel_rfl
              · kernel_rfl
              · exact fun _ _ _ h => h
              · kernel_rfl
              · intro wS hSw
                try dsimp only at hSw
                go_simp
                try with_reducible rfl
              try simp only [Act.put, List.setIfInBounds_toArray, List.set_cons_zero, List.set_cons_succ]
              refine wpAnyH_take (i := 15) (oi := { dst := some 111, op := Go.Op.binOp Go.BinOp.or 3 (Go.Operand.tmp 101) (Go.Operand.tmp 110) 3, type := 3, pos := "ref.go:109", after := #[{ on := 5, ground := Go.Ground.data }, { on := 14, ground := Go.Ground.data }], guard := none }) (v := ?_) rfl ?_ ?_ ?_ ?_ (Or.inl ⟨?_, ?_⟩) hH ?_
              rotate_left
              · kernel_rfl
              · kernel_rfl
              · kernel_rfl
              · exact fun _ _ _ h => h
              · kernel_rfl
              · intro wS hSw
                try dsimp only at hSw
                go_simp
                try with_reducible rfl
              try simp only [Act.put, List.setIfInBounds_toArray, List.set_cons_zero, List.set_cons_succ]
              refine wpAnyH_take (i := 16) (oi := { dst := some 112, op := Go.Op.move (Go.Operand.tmp 15), type := 3, pos := "ref.go:109", after := #[], guard := none }) (v := ?_) rfl ?_ ?_ ?_ ?_ (Or.inl ⟨?_, ?_⟩) hH ?_
              rotate_left
              · kernel_rfl
              · kernel_rfl
              · kernel_rfl
              · exact fun _ _ _ h => h
              · kernel_rfl
              · intro wS hSw
                try dsimp only at hSw
                go_simp
                try with_reducible rfl
              try simp only [Act.put, List.setIfInBounds_toArray, List.set_cons_zero, List.set_cons_succ]
              refine wpAnyH_take (i := 17) (oi := { dst := some 113, op := Go.Op.build 48 #[(0, Go.Operand.tmp 111), (1, Go.Operand.tmp 112)], type := 48, pos := "ref.go:109", after := #[{ on := 15, ground := Go.Ground.data }, { on := 16, ground := Go.Ground.data }], guard := none }) (v := ?_) rfl ?_ ?_ ?_ ?_ (Or.inl ⟨?_, ?_⟩) hH ?_
              rotate_left
              · kernel_rfl
              · kernel_rfl
              · kernel_rfl
              · exact fun _ _ _ h => h
              · kernel_rfl
              · intro wS hSw
                try dsimp only at hSw
                go_simp
                try with_reducible rfl
              try simp only [Act.put, List.setIfInBounds_toArray, List.set_cons_zero, List.set_cons_succ]
              refine wpAnyH_ready (rs := [18]) (by kernel_rfl) (by simp) ?_
              refine AllReadyH.cons (o := { dst := some 114, op := Go.Op.buildSlice 23 1 #[(0, Go.Operand.tmp 113)], type := 23, pos := "ref.go:109", after := #[{ on := 17, ground := Go.Ground.data }], guard := none }) rfl (fun K hK => ?_) AllReadyH.nil
              · go_simp
                have S1 := Lib.hid (heldM12 HSS.out (ba WD (.cells #[.int .i64 (l + P2), .int .i64 u] 48)))
                refine hK.out _ _ ?_ (fun hH1 => ?_)
                · exact S1.out
                clear hK K hH
                try simp only [Act.put, List.setIfInBounds_toArray, List.set_cons_zero, List.set_cons_succ]
                refine wpAnyH_ready (rs := [19]) (by kernel_rfl) (by simp) ?_
                refine AllReadyH.cons (o := { dst := some 115, op := Go.Op.call { callee := Go.Callee.builtin Go.Builtin.append, args := #[Go.Operand.tmp 96, Go.Operand.tmp 114], argTypes := #[23, 23] }, type := 23, pos := "ref.go:109", after := #[{ on := 0, ground := Go.Ground.data }, { on := 18, ground := Go.Ground.data }], guard := none }) rfl (fun K hK => ?_) AllReadyH.nil
                · refine step_append_ks2 (P := Try.prog) Try.underlying23 run_info rfl (by decide) rnC_size (by rfl) (.tmp 96) (.tmp 114) (by rfl) (by rfl) (by rfl) (by rfl) HOd.out h6r [(l + P2, u)] (by rfl) (by decide) (by rfl) (by rfl) hM1 hM2 ?_
                  intro v3 w3 r3 b3 n3
                  have S3 := Lib.hid (heldN12 HSS.out n3 b3.size hgX.2 hgY.2 ⟨by omega, by omega⟩ HAp.out)
                  refine hK.out _ _ ?_ (fun hH2 => ?_)
                  · exact S3.out
                  clear hK K hH1
                  try simp only [Act.put, List.setIfInBounds_toArray, List.set_cons_zero, List.set_cons_succ]
                  refine wpAnyH_take (i := 20) (oi := { dst := some 12, op := Go.Op.assign (Go.Operand.tmp 115), type := 23, pos := "ref.go:109", after := #[{ on := 19, ground := Go.Ground.data }, { on := 19, ground := Go.Ground.chain }, { on := 0, ground := Go.Ground.phase }, { on := 1, ground := Go.Ground.phase }, { on := 2, ground := Go.Ground.phase }, { on := 3, ground := Go.Ground.phase }, { on := 4, ground := Go.Ground.phase }, { on := 5, ground := Go.Ground.phase }, { on := 6, ground := Go.Ground.phase }, { on := 7, ground := Go.Ground.phase }, { on := 8, ground := Go.Ground.phase }, { on := 9, ground := Go.Ground.phase }, { on := 10, ground := Go.Ground.phase }, { on := 11, ground := Go.Ground.phase }, { on := 12, ground := Go.Ground.phase }, { on := 13, ground := Go.Ground.phase }, { on := 14, ground := Go.Ground.phase }, { on := 15, ground := Go.Ground.phase }, { on := 16, ground := Go.Ground.phase }, { on := 17, ground := Go.Ground.phase }, { on := 18, ground := Go.Ground.phase }, { on := 19, ground := Go.Ground.phase }], guard := none }) (v := ?_) rfl ?_ ?_ ?_ ?_ (Or.inl ⟨?_, ?_⟩) hH2 ?_
                  rotate_left
                  · kernel_rfl
                  · kernel_rfl
                  · kernel_rfl
                  · exact fun _ _ _ h => h
                  · kernel_rfl
                  · intro wS hSw
                    try dsimp only at hSw
                    go_simp
                    try with_reducible rfl
                  try simp only [Act.put, List.setIfInBounds_toArray, List.set_cons_zero, List.set_cons_succ]
                  refine wpAnyH_done (by kernel_rfl) ?_ _
                  obtain ⟨FA, FN, FC, rfl, hFN⟩ := KRow.form r3
                  clear hFN
                  have HAq := Lib.hid (show ∀ q, (Value.slice FA FN FC).ownBlock = some q → w6.heap.size ≤ q from fun q hq => (KRow.lt r3 q hq).1)
                  have HX3 := Lib.hid (KRow.kept HXd.out n3 (fun q hq e => by have h1 := HAp.out q e.symm; have h2 : gX = q := Option.some.inj hq; omega))
                  have HY3 := Lib.hid (KRow.kept HYd.out n3 (fun q hq e => by have h1 := HAp.out q e.symm; have h2 : gY = q := Option.some.inj hq; omega))
                  have C3 := Lib.hid (HCd.out.trans (b3.mono (show wu.heap.size ≤ w6.heap.size by omega)))
                  have hs3 : w6.heap.size ≤ w3.heap.size := Nat.le_trans h6r b3.size
                  have HX4 := Lib.hid (RnRow.set1 HX3.out i hiX l (t - u) HPx.out.symm)
                  have HY4 := Lib.hid (show RnRow (w3.setCell ⟨gX, i * 2 + 1, none⟩ (.int .i64 (t - u))) w5.heap.size (.slice (some ⟨gY, 0, none⟩) YE.length YC) YL from KRow.apart HY3.out (fun q hq => heap_setCell_other w3 ⟨gX, i * 2 + 1, none⟩ (.int .i64 (t - u)) q hq) (fun e => hxy (Option.some.inj e).symm))
                  have HO4 := Lib.hid (show RnRow (w3.setCell ⟨gX, i * 2 + 1, none⟩ (.int .i64 (t - u))) w6.heap.size (.slice FA FN FC) _ from KRow.apart r3 (fun q hq => heap_setCell_other w3 ⟨gX, i * 2 + 1, none⟩ (.int .i64 (t - u)) q hq) (fun e => by have := HAq.out _ e; show False; have h5 : w6.heap.size ≤ gX := this; omega))
                  have HY5 := Lib.hid (RnRow.set1 HY4.out k hkY m 0 HPy.out.symm)
                  have HX5 := Lib.hid (show RnRow ((w3.setCell ⟨gX, i * 2 + 1, none⟩ (.int .i64 (t - u))).setCell ⟨gY, k * 2 + 1, none⟩ (.int .i64 0)) wu.heap.size (.slice (some ⟨gX, 0, none⟩) XE.length XC) (XL.set i (l, (t - u))) from KRow.apart HX4.out (fun q hq => heap_setCell_other (w3.setCell ⟨gX, i * 2 + 1, none⟩ (.int .i64 (t - u))) ⟨gY, k * 2 + 1, none⟩ (.int .i64 0) q hq) (fun e => hxy (Option.some.inj e)))
                  have HO5 := Lib.hid (show RnRow ((w3.setCell ⟨gX, i * 2 + 1, none⟩ (.int .i64 (t - u))).setCell ⟨gY, k * 2 + 1, none⟩ (.int .i64 0)) w6.heap.size (.slice FA FN FC) _ from KRow.apart HO4.out (fun q hq => heap_setCell_other (w3.setCell ⟨gX, i * 2 + 1, none⟩ (.int .i64 (t - u))) ⟨gY, k * 2 + 1, none⟩ (.int .i64 0) q hq) (fun e => by have := HAq.out _ e; show False; have h5 : w6.heap.size ≤ gY := this; omega))
                  have C5 := Lib.hid (show Below wu.heap.size wu ((w3.setCell ⟨gX, i * 2 + 1, none⟩ (.int .i64 (t - u))).setCell ⟨gY, k * 2 + 1, none⟩ (.int .i64 0)) from Below.setCell (Below.setCell C3.out (show wu.heap.size ≤ gX by omega) _) (show wu.heap.size ≤ gY by omega) _)
                  have hs5 : w6.heap.size ≤ ((w3.setCell ⟨gX, i * 2 + 1, none⟩ (.int .i64 (t - u))).setCell ⟨gY, k * 2 + 1, none⟩ (.int .i64 0)).heap.size := by rw [World.size_setCell, World.size_setCell]; exact hs3
                  have HS5 := Lib.hid hs5
                  have q1 := (RnRow.two HX3.out i hiX).2.1
                  have q2 := (RnRow.two HX3.out i hiX).2.2.2
                  rw [← HTx.out] at q1
                  have q3 := (RnRow.two HY4.out k hkY).2.1
                  have q4 := (RnRow.two HY4.out k hkY).2.2.2
                  rw [← HTy.out] at q3
                  have q5 := (RnRow.two HX5.out i (by rw [List.length_set]; exact hiX)).2.1
                  have q6 := (RnRow.two HY5.out k (by rw [List.length_set]; exact hkY)).2.1
                  rw [List.getElem_set_self] at q5 q6
                  have HLn5 := Lib.hid (show (XL.set i (l, (t - u))).length = XE.length ∧ (YL.set k (m, 0)).length = YE.length by rw [List.length_set, List.length_set]; exact HLn.out)
                  clear r3 b3 n3 y0 y1 y2 y3 g0 HOd HXd HYd hM1 hM2 hs3 hs5
                  go_wp2
                  go_roundw
                  case rel => exact ⟨i, k + 1, _, _, _, by first | rfl | go_num, by first | rfl | go_num, HLn5, HNI, HX5, HY5, HO5, HS5, C5⟩
                  case measure => simp [intOf]; omega
          · have hout := MgI.done HI.out (by rw [HLn.out.1, HLn.out.2]; exact hik)
            rw [hout] at HO
            have HJ := Lib.hid HCV.out
            clear hout
            by_cases hi1 : i < XE.length
            · have d1 : (i : Int) < (XE.length : Int) := by omega
              have d2 : ¬ (k : Int) < (YE.length : Int) := by omega
              clear HI HX HY hXs HLn hle1 hle2 HON HMI HgX HgY
              have g0 := PR.out.cell 0
              have t0 := TR.out.cell 0
              have HCl := Lib.hid (rclean_any (mk (A.length + B.length)) MM _ wr (KRow.arg rnC_size HO.out) (by have := HJ.out.2; omega) HJ.out.1)
              have hjl : (jn MM).length ≤ 20000 := Nat.le_trans (jn_len MM) HJ.out.2
              have hs3 : w.heap.size + 3 ≤ wr.heap.size := QR.out.lt
              go_wp2_with (first
                | (go_at_call 32; go_must (refine HCl.out.mono ?_; rintro e7 w7 ⟨v7, rfl, r7, b7⟩; obtain ⟨TA, TN, TC, rfl, hTN⟩ := KRow.form r7; have hnb : ¬ (262144 : Int) < (TN : Int) := (by omega); clear hTN; have B7 := Lib.hid (BR.out.trans (b7.mono BR.out.size)); have P7 := Lib.hid (PR.out.keep b7); have T7 := Lib.hid (TR.out.keep b7); have Q7 := Lib.hid (QR.out.keep b7); have M7 := Lib.hid (KRow.mono r7 hs3); clear g0 t0; clear r7 b7)))
              refine mrg_region A B A1 A2 A3 A4 c1 c2 c3 c4 X.length Y.length w w7 (jn MM) TA TN TC _ _ _ _ _ _ _ _ _ _ _ _ _ _ _ _ _ _ _ _ _ _ _ _ _ _ _ _ _ _ _ _ _ _ _ _ _ _ _ _ _ _ _ _ _ _ _ _ _ _ _ _ _ _ _ _ _ _ _ _ _ _ _ _ _ _ _ _ _ _ _ _ _ _ _ _ _ _ _ _ _ _ _ _ _ _ _ _ _ _ _ _ _ _ _ _ _ _ _ _ _ _ _ _ _ _ _ _ _ _ _ _ _ _ _ _ _ _ _ _ _ _ _ _ _ _ _ _ _ _ _ _ _ _ _ _ _ _ _ _ _ _ _ _ _ _ _ _ _ _ _ _ _ _ _ _ _ _ _ _ _ _ _ _ _ (fun _ _ _ _ _ h => h) ha hb' HAK HBK (Lib.hid ⟨P7.out.cell 0, P7.out.cell 1, T7.out.cell 0, T7.out.cell 1, B7.out.drew, Q7.out.lt⟩) (Lib.hid (show RowAt w7.drew (w.heap.size + 2) 25 #[.slice none 0 0, .slice none 0 0] from Q7.out)) (Lib.hid (show RnRow w7.drew (w.heap.size + 3) (.slice TA TN TC) (jn MM) from KRow.drewN M7.out 1)) ?_
              intro NA NN NC x160 x161 x162 x163 x164 x165 x166 x167 x168 W9 e0 e1 hN9 hR9 hB9
              clear P7 T7 Q7 B7 M7
              refine (show ∀ (a : Act) (w : World), Code.wp Try.prog Code.ret _ a w → _ by assumption) _ _ (wp_ret ?_)
              refine bodyPost_ret (v := .tuple #[.agg #[.slice NA NN NC, .slice TA TN TC], .int .i64 0]) (by simp [results, Try.results18, go_sem, e0, e1]) rfl ⟨_, _, by rw [HE.out], by rw [HN0.out]; exact KRow.name hN9, by rw [HMM.out]; exact KRow.arg rnC_size hR9, hB9⟩
            · have d1 : ¬ (i : Int) < (XE.length : Int) := by omega
              clear HI HX HY hXs HLn hle1 hle2 HON HMI HgX HgY
              have g0 := PR.out.cell 0
              have t0 := TR.out.cell 0
              have HCl := Lib.hid (rclean_any (mk (A.length + B.length)) MM _ wr (KRow.arg rnC_size HO.out) (by have := HJ.out.2; omega) HJ.out.1)
              have hjl : (jn MM).length ≤ 20000 := Nat.le_trans (jn_len MM) HJ.out.2
              have hs3 : w.heap.size + 3 ≤ wr.heap.size := QR.out.lt
              go_wp2_with (first
                | (go_at_call 32; go_must (refine HCl.out.mono ?_; rintro e7 w7 ⟨v7, rfl, r7, b7⟩; obtain ⟨TA, TN, TC, rfl, hTN⟩ := KRow.form r7; have hnb : ¬ (262144 : Int) < (TN : Int) := (by omega); clear hTN; have B7 := Lib.hid (BR.out.trans (b7.mono BR.out.size)); have P7 := Lib.hid (PR.out.keep b7); have T7 := Lib.hid (TR.out.keep b7); have Q7 := Lib.hid (QR.out.keep b7); have M7 := Lib.hid (KRow.mono r7 hs3); clear g0 t0; clear r7 b7)))
              refine mrg_region A B A1 A2 A3 A4 c1 c2 c3 c4 X.length Y.length w w7 (jn MM) TA TN TC _ _ _ _ _ _ _ _ _ _ _ _ _ _ _ _ _ _ _ _ _ _ _ _ _ _ _ _ _ _ _ _ _ _ _ _ _ _ _ _ _ _ _ _ _ _ _ _ _ _ _ _ _ _ _ _ _ _ _ _ _ _ _ _ _ _ _ _ _ _ _ _ _ _ _ _ _ _ _ _ _ _ _ _ _ _ _ _ _ _ _ _ _ _ _ _ _ _ _ _ _ _ _ _ _ _ _ _ _ _ _ _ _ _ _ _ _ _ _ _ _ _ _ _ _ _ _ _ _ _ _ _ _ _ _ _ _ _ _ _ _ _ _ _ _ _ _ _ _ _ _ _ _ _ _ _ _ _ _ _ _ _ _ _ _ (fun _ _ _ _ _ h => h) ha hb' HAK HBK (Lib.hid ⟨P7.out.cell 0, P7.out.cell 1, T7.out.cell 0, T7.out.cell 1, B7.out.drew, Q7.out.lt⟩) (Lib.hid (show RowAt w7.drew (w.heap.size + 2) 25 #[.slice none 0 0, .slice none 0 0] from Q7.out)) (Lib.hid (show RnRow w7.drew (w.heap.size + 3) (.slice TA TN TC) (jn MM) from KRow.drewN M7.out 1)) ?_
              intro NA NN NC x160 x161 x162 x163 x164 x165 x166 x167 x168 W9 e0 e1 hN9 hR9 hB9
              clear P7 T7 Q7 B7 M7
              refine (show ∀ (a : Act) (w : World), Code.wp Try.prog Code.ret _ a w → _ by assumption) _ _ (wp_ret ?_)
              refine bodyPost_ret (v := .tuple #[.agg #[.slice NA NN NC, .slice TA TN TC], .int .i64 0]) (by simp [results, Try.results18, go_sem, e0, e1]) rfl ⟨_, _, by rw [HE.out], by rw [HN0.out]; exact KRow.name hN9, by rw [HMM.out]; exact KRow.arg rnC_size hR9, hB9⟩

      · have dl : decide (lg X < lg Y) = false := decide_eq_false hlt
        have eM : max (lg X) (lg Y) = lg X := by omega
        obtain ⟨L, hL, hL0, hL1, hLx, hLy⟩ := HMAX.out
        have HUa2 := Lib.hid (HUa.out L hLx hL1)
        have HUb2 := Lib.hid (HUb.out L hLy hL1)
        have HL := Lib.hid hL
        have HLB := Lib.hid (show 0 ≤ L ∧ L ≤ 1099511627776 ∧ lg X ≤ L ∧ lg Y ≤ L from ⟨hL0, hL1, hLx, hLy⟩)
        have eL : L = lg X := by rw [hL, eM]
        rw [eL] at HUa2 HUb2
        have HEL := Lib.hid eL
        clear eM hL hL0 hL1 hLx hLy HUa HUb HMAX eL hrx hry
        obtain ⟨v1, v2, v3⟩ := (vr_iff _ X 0 (by omega)).1 HCK.out.2.2.2.2.2
        obtain ⟨u1, u2, u3⟩ := (vr_iff _ Y 0 (by omega)).1 HCK2.out.2.2.2.2.2
        obtain ⟨_, xp, _, xl, _⟩ := ex_all (R := X) (d := lg X - lg X) v2 (by have := HLB.out; have := HEL.out; omega)
        obtain ⟨_, yp, _, yl, _⟩ := ex_all (R := Y) (d := lg X - lg Y) u2 (by have := HLB.out; have := HEL.out; omega)
        have xv := exS_lv v1 (mk_range HCK.out.2.2.2.1).1 (d := lg X - lg X)
        have yv := exS_lv u1 (mk_range HCK2.out.2.2.2.1).1 (d := lg X - lg Y)
        have xn := exS_len X (lg X - lg X)
        have yn := exS_len Y (lg X - lg Y)
        have HMM := Lib.hid (show mgR A X B Y = jn (mrg A.length (exS X (lg X - lg X)) (exS Y (lg X - lg Y))) by rw [mgR_0 HE.out]; unfold mgS; rw [← HL.out, HEL.out])
        have hEb := HLB.out
        have hEe := HEL.out
        obtain ⟨mp, ml, mn, _⟩ := mrg_all A.length _ _ xp yp
        have mv := mrg_lv5 A.length B.length _ _ _ (Nat.le_refl _) xv yv
        have HMI := Lib.hid (MgI.start (a := A.length) (b := B.length) xp yp xv yv (by rw [xl]; omega) (by rw [yl]; omega))
        have HCV := Lib.hid (show vr (mk (A.length + B.length)) 0 (mrg A.length (exS X (lg X - lg X)) (exS Y (lg X - lg Y))) = true ∧ (mrg A.length (exS X (lg X - lg X)) (exS Y (lg X - lg Y))).length ≤ 20000 from ⟨(vr_iff _ _ 0 (by omega)).2 ⟨mv, mp, by rw [ml, xl, yl]; omega⟩, by omega⟩)
        have HXS := Lib.hid (show (exS X (lg X - lg X)).length ≤ 8001 ∧ (exS Y (lg X - lg Y)).length ≤ 8001 from ⟨by omega, by omega⟩)
        clear v1 v2 v3 u1 u2 u3 xp xl yp yl xv yv xn yn mp ml mn mv hEb hEe
        generalize exS X (lg X - lg X) = XE at *
        generalize exS Y (lg X - lg Y) = YE at *
        generalize mrg A.length XE YE = MM at *
        generalize hGx : lg X = GX at *
        generalize hGy : lg Y = GY at *
        have HGx := Lib.hid hGx
        have HGy := Lib.hid hGy
        clear hGx hGy
        go_wp2_with (first
          | (go_at_call 42; go_must (first | (have tok := B3.out; refine (HLb.out _ B3.out).mono ?_; rintro e4 w4 ⟨rfl, b4⟩; have B4 := Lib.hid (B3.out.trans (b4.mono B3.out.size)); have P4 := Lib.hid (P3.out.keep b4); have T4 := Lib.hid (T3.out.keep b4); have Q4 := Lib.hid (Q3.out.keep b4); clear g0 g1 t0 t1 k0 k1 z0 z1; have g0 := P4.out.cell 0; have g1 := P4.out.cell 1; have t0 := T4.out.cell 0; have t1 := T4.out.cell 1; have k0 := Q4.out.cell 0; have k1 := Q4.out.cell 1; have z0 := Q4.out.frozen 0; have z1 := Q4.out.frozen 1; clear b4; clear tok) | (refine (HLa.out _ BW.out).mono ?_; rintro e3 w3 ⟨rfl, b3⟩; have B3 := Lib.hid (BW.out.trans (b3.mono BW.out.size)); have P3 := Lib.hid (PW.out.keep b3); have T3 := Lib.hid (TW.out.keep b3); have Q3 := Lib.hid (QW.out.keep b3); clear g0 g1 t0 t1 k0 k1 z0 z1; have g0 := P3.out.cell 0; have g1 := P3.out.cell 1; have t0 := T3.out.cell 0; have t1 := T3.out.cell 1; have k0 := Q3.out.cell 0; have k1 := Q3.out.cell 1; have z0 := Q3.out.frozen 0; have z1 := Q3.out.frozen 1; clear b3))))
        clear B0 P0 T0 Q0
        have Bu := Lib.hid B4.out
        have Pu := Lib.hid P4.out
        have Tu := Lib.hid T4.out
        have Qu := Lib.hid Q4.out
        generalize w4 = wu at *
        have BU := Lib.hid (show Below wu.heap.size wu wu.drew from (Below.refl _ _).drew)
        have S0 : wu.drew.cell? ⟨w.heap.size, 0, none⟩ = some (.slice A1 A.length c1) ∧ wu.drew.cell? ⟨w.heap.size, 1, none⟩ = some (.slice A2 X.length c2) ∧ wu.drew.cell? ⟨w.heap.size + 1, 0, none⟩ = some (.slice A3 B.length c3) ∧ wu.drew.cell? ⟨w.heap.size + 1, 1, none⟩ = some (.slice A4 Y.length c4) ∧ Below w.heap.size w wu.drew ∧ w.heap.size + 2 < wu.drew.heap.size := ⟨Pu.out.cell 0, Pu.out.cell 1, Tu.out.cell 0, Tu.out.cell 1, Bu.out.drew, Qu.out.lt⟩
        go_region_held3 (fun w' => w'.cell? ⟨w.heap.size, 0, none⟩ = some (.slice A1 A.length c1) ∧ w'.cell? ⟨w.heap.size, 1, none⟩ = some (.slice A2 X.length c2) ∧ w'.cell? ⟨w.heap.size + 1, 0, none⟩ = some (.slice A3 B.length c3) ∧ w'.cell? ⟨w.heap.size + 1, 1, none⟩ = some (.slice A4 Y.length c4) ∧ Below w.heap.size w w' ∧ w.heap.size + 2 < w'.heap.size) (first | assumption | go_keep)
          (first
            | (go_at_call 43; first
                | (have tok := RX5.out; refine (HUb2.out _ (And.left (And.right (And.right (And.right (And.right (by assumption))))))).mono ?_; rintro e6 w6 ⟨v6, rfl, r6, b6⟩; obtain ⟨YA, YN, YC, rfl, hYN⟩ := KRow.form r6; obtain rfl := hYN; have h6 := heldS (by assumption) b6)
                | (refine (HUa2.out _ (And.left (And.right (And.right (And.right (And.right (by assumption))))))).mono ?_; rintro e5 w5 ⟨v5, rfl, r5, b5⟩; obtain ⟨XA, XN, XC, rfl, hXN⟩ := KRow.form r5; obtain rfl := hXN; have h5 := heldS (by assumption) b5; have RX5 := Lib.hid r5))
            | fail)
        have hdu : wu.drew.heap.size = wu.heap.size := rfl
        have BU5 := Lib.hid (BU.out.trans (b5.mono (show wu.heap.size ≤ wu.drew.heap.size from Nat.le_refl _)))
        have BU6 := Lib.hid (BU5.out.trans (b6.mono BU5.out.size))
        have RX6 := Lib.hid (show RnRow w6 wu.heap.size (.slice XA XE.length XC) XE from KRow.keep r5 b6)
        have RY6 := Lib.hid r6
        have HgX := Lib.hid (fun q (hq : (Value.slice XA XE.length XC).ownBlock = some q) => (show wu.heap.size ≤ q ∧ q < w5.heap.size from KRow.lt r5 q hq))
        have HgY := Lib.hid (fun q (hq : (Value.slice YA YE.length YC).ownBlock = some q) => (show w5.heap.size ≤ q ∧ q < w6.heap.size from KRow.lt r6 q hq))
        have RO6 := Lib.hid (KRow.lit (T := 48) rnC_size w6 w6.heap.size (Nat.le_refl _) [] #[] rfl 0 rfl (by decide))
        have C6 := Lib.hid (ba w6 (.cells #[] 48))
        have BU7 := Lib.hid (BU6.out.alloc BU6.out.size (.cells #[] 48))
        have h56 := b6.size
        have HBuW := Lib.hid (show wu.heap.size ≤ w5.heap.size ∧ w5.heap.size ≤ w6.heap.size from ⟨BU5.out.size, h56⟩)
        have HWu := Lib.hid (show w.heap.size + 3 ≤ wu.heap.size from Qu.out.lt)
        clear S0 h5 h6 r5 r6 b5 b6 g0 g1 t0 t1 k0 k1 z0 z1 h56 hdu RX5
        go_wp2
        have RX7 := Lib.hid (KRow.alloc RX6.out (.cells #[] 48))
        have RY7 := Lib.hid (KRow.alloc RY6.out (.cells #[] 48))
        clear RX6 RY6
        go_loopw [12, 13, 14] (fun v x y wr => ∃ (i k : Nat) (XL YL out : List Rn), x = .int .i64 i ∧ y = .int .i64 k ∧ Hid (XL.length = XE.length ∧ YL.length = YE.length) ∧ Hid (MgI A.length B.length XL YL i k out MM) ∧ Hid (RnRow wr wu.heap.size (.slice XA XE.length XC) XL) ∧ Hid (RnRow wr w5.heap.size (.slice YA YE.length YC) YL) ∧ Hid (RnRow wr w6.heap.size v out) ∧ Hid (w6.heap.size ≤ wr.heap.size) ∧ Hid (Below wu.heap.size wu wr)) (fun _ x y _ => (XE.length - (intOf x).toNat) + (YE.length - (intOf y).toNat))
        case atStart => exact ⟨0, 0, XE, YE, [], rfl, rfl, Lib.hid ⟨rfl, rfl⟩, HMI, RX7, RY7, RO6, Lib.hid C6.out.size, BU7⟩
        case round =>
          clear RX7 RY7 RO6 BU7
          rename_i hrel
          obtain ⟨i, k, XL, YL, out, rfl, rfl, HLn, HI, HX, HY, HO, H6R, HC⟩ := hrel
          obtain ⟨OA, ON, OC, rfl, hON⟩ := KRow.form HO.out
          have HON := Lib.hid hON
          clear hON
          have PR := Lib.hid (Pu.out.keep HC.out)
          have TR := Lib.hid (Tu.out.keep HC.out)
          have QR := Lib.hid (Qu.out.keep HC.out)
          have BR := Lib.hid (Bu.out.trans (HC.out.mono Bu.out.size))
          have hle1 := HI.out.1
          have hle2 := HI.out.2.1
          rw [HLn.out.1] at hle1
          rw [HLn.out.2] at hle2
          have hXs := HXS.out
          by_cases hik : i < XE.length ∧ k < YE.length
          · have hi1 := hik.1
            have hk1 := hik.2
            have hiX : i < XL.length := by rw [HLn.out.1]; exact hi1
            have hkY : k < YL.length := by rw [HLn.out.2]; exact hk1
            obtain ⟨gX, cX, eX⟩ := KRow.full HX.out (by omega)
            obtain ⟨gY, cY, eY⟩ := KRow.full HY.out (by omega)
            injection eX with eX1 eX2 eX3
            injection eY with eY1 eY2 eY3
            clear eX2 eX3 eY2 eY3
            subst eX1
            subst eY1
            have hgX := HgX.out gX rfl
            have hgY := HgY.out gY rfl
            have hbw := HBuW.out
            obtain ⟨l, hl⟩ : ∃ l, l = XL[i].1 := ⟨_, rfl⟩
            obtain ⟨t, ht⟩ : ∃ t, t = XL[i].2 := ⟨_, rfl⟩
            obtain ⟨m, hm⟩ : ∃ m, m = YL[k].1 := ⟨_, rfl⟩
            obtain ⟨u, hu⟩ : ∃ u, u = YL[k].2 := ⟨_, rfl⟩
            obtain ⟨s1, s2, s3, s4, s5, sLt, sEq, sGt⟩ := MgI.step HI.out hiX hkY hl ht hm hu
            obtain ⟨f0, f1, y0, y1⟩ := RnRow.two HX.out i hiX
            obtain ⟨f2, f3, y2, y3⟩ := RnRow.two HY.out k hkY
            rw [← hl] at f0
            rw [← ht] at f1
            rw [← hm] at f2
            rw [← hu] at f3
            obtain ⟨ho1, ho2⟩ := or_lev (n := A.length) s1.1 s1.2 s2.1 (by have := mk_range (show B.length ≤ 16 by omega); omega) (by omega)
            have HPx := Lib.hid hl
            have HPy := Lib.hid hm
            have hmm := HCV.out.2
            have hM1 : out.length + 1 ≤ 140737488355328 := by omega
            have hM2 : (out.length + 1) * 16 ≤ 140737488355328 := by omega
            have hxy : gX ≠ gY := by omega
            have HAp := Lib.hid (show ∀ q, (Value.slice OA ON OC).ownBlock = some q → w6.heap.size ≤ q from fun q hq => (KRow.lt HO.out q hq).1)
            have g0 := PR.out.cell 0
            have hi2 : (i : Int) < (XE.length : Int) := by omega
            have hk2 : (k : Int) < (YE.length : Int) := by omega
            generalize hB : m * 2 ^ A.length = P2 at *
            have HBB := Lib.hid hB
            have hwb : IntKind.i64.wrap (m * 2 ^ A.length) = P2 := by rw [hB]; exact ho2
            have HOr := Lib.hid ho1
            have HTx := Lib.hid ht
            have HTy := Lib.hid hu
            clear hB hl ht hm hu s1 s2 hik ho2
            have SS1 : wr.drew.cell? ⟨gX, i * 2, none⟩ = some (.int .i64 l) ∧ wr.drew.cell? ⟨gY, k * 2, none⟩ = some (.int .i64 m) ∧ wr.drew.cell? ⟨w.heap.size, 0, none⟩ = some (.slice A1 A.length c1) ∧ gX < wr.drew.heap.size ∧ gY < wr.drew.heap.size ∧ w.heap.size < wr.drew.heap.size := ⟨f0, f2, g0, (KRow.len HX.out).2.2.2, (KRow.len HY.out).2.2.2, PR.out.lt⟩
            have HOd := Lib.hid (show RnRow wr.drew w6.heap.size (.slice OA ON OC) out from KRow.drewN HO.out 1)
            have HXd := Lib.hid (show RnRow wr.drew wu.heap.size (.slice (some ⟨gX, 0, none⟩) XE.length XC) XL from KRow.drewN HX.out 1)
            have HYd := Lib.hid (show RnRow wr.drew w5.heap.size (.slice (some ⟨gY, 0, none⟩) YE.length YC) YL from KRow.drewN HY.out 1)
            have HCd := Lib.hid (show Below wu.heap.size wu wr.drew from HC.out.drew)
            have h6r : w6.heap.size ≤ wr.drew.heap.size := H6R.out
            rcases Int.lt_trichotomy t u with hc | hc | hc
            · have hn0 : ¬ u < t := by omega
              have hn1 : decide (u < t) = false := decide_eq_false hn0
              have HNI := Lib.hid (sLt hc)
              have hz1 : ((u - t) == 0) = false := by rw [beq_eq_false_iff_ne]; omega
              have hz2 : ¬ u - t = 0 := by omega
              have hw1 := IntWalk.i64_in (u - t) (by omega)
              have hw0 : IntKind.i64.wrap (t - t) = 0 := by rw [Int.sub_self]; rfl
              clear sLt sEq sGt hmm
              (try clear hc)
              go_wp2
              refine wp_region_held_drew (S := fun w' => w'.cell? ⟨gX, i * 2, none⟩ = some (.int .i64 l) ∧ w'.cell? ⟨gY, k * 2, none⟩ = some (.int .i64 m) ∧ w'.cell? ⟨w.heap.size, 0, none⟩ = some (.slice A1 A.length c1) ∧ gX < w'.heap.size ∧ gY < w'.heap.size ∧ w.heap.size < w'.heap.size) (by kernel_rfl) ?_ (fun hH => ?_)
              · exact SS1
              have HSS := Lib.hid SS1
              clear f0 f1 f2 f3 SS1
              generalize wr.drew = WD at *
              refine wpAnyH_take (i := 0) (oi := { dst := some 96, op := Go.Op.move (Go.Operand.tmp 12), type := 23, pos := "ref.go:109", after := #[], guard := none }) (v := ?_) rfl ?_ ?_ ?_ ?_ (Or.inl ⟨?_, ?_⟩) hH ?_
              rotate_left
              · kernel_rfl
              · kernel_rfl
              · kernel_rfl
              · exact fun _ _ _ h => h
              · kernel_rfl
              · intro wS hSw
                try dsimp only at hSw
                go_simp
                try with_reducible rfl
              try simp only [Act.put, List.setIfInBounds_toArray, List.set_cons_zero, List.set_cons_succ]
              refine wpAnyH_take (i := 1) (oi := { dst := some 97, op := Go.Op.move (Go.Operand.tmp 10), type := 23, pos := "ref.go:109", after := #[], guard := none }) (v := ?_) rfl ?_ ?_ ?_ ?_ (Or.inl ⟨?_, ?_⟩) hH ?_
              rotate_left
              · kernel_rfl
              · kernel_rfl
              · kernel_rfl
              · exact fun _ _ _ h => h
              · kernel_rfl
              · intro wS hSw
                try dsimp only at hSw
                go_simp
                try with_reducible rfl
              try simp only [Act.put, List.setIfInBounds_toArray, List.set_cons_zero, List.set_cons_succ]
              refine wpAnyH_take (i := 2) (oi := { dst := some 98, op := Go.Op.move (Go.Operand.tmp 13), type := 3, pos := "ref.go:109", after := #[], guard := none }) (v := ?_) rfl ?_ ?_ ?_ ?_ (Or.inl ⟨?_, ?_⟩) hH ?_
              rotate_left
              · kernel_rfl
              · kernel_rfl
              · kernel_rfl
              · exact fun _ _ _ h => h
              · kernel_rfl
              · intro wS hSw
                try dsimp only at hSw
                go_simp
                try with_reducible rfl
              try simp only [Act.put, List.setIfInBounds_toArray, List.set_cons_zero, List.set_cons_succ]
              refine wpAnyH_take (i := 3) (oi := { dst := some 99, op := Go.Op.indexAddr 23 (Go.Operand.tmp 97) (Go.Operand.tmp 98), type := 0, pos := "ref.go:109", after := #[{ on := 1, ground := Go.Ground.data }, { on := 2, ground := Go.Ground.data }], guard := none }) (v := ?_) rfl ?_ ?_ ?_ ?_ (Or.inl ⟨?_, ?_⟩) hH ?_
              rotate_left
              · kernel_rfl
              · kernel_rfl
              · kernel_rfl
              · exact fun _ _ _ h => h
              · kernel_rfl
              · intro wS hSw
                try dsimp only at hSw
                go_simp
                try with_reducible rfl
              try simp only [Act.put, List.setIfInBounds_toArray, List.set_cons_zero, List.set_cons_succ]
              refine wpAnyH_take (i := 4) (oi := { dst := some 100, op := Go.Op.fieldAddr 48 (Go.Operand.tmp 99) 0, type := 0, pos := "ref.go:109", after := #[{ on := 3, ground := Go.Ground.data }], guard := none }) (v := ?_) rfl ?_ ?_ ?_ ?_ (Or.inl ⟨?_, ?_⟩) hH ?_
              rotate_left
              · kernel_rfl
              · kernel_rfl
              · kernel_rfl
              · exact fun _ _ _ h => h
              · kernel_rfl
              · intro wS hSw
                try dsimp only at hSw
                go_simp
                try with_reducible rfl
              try simp only [Act.put, List.setIfInBounds_toArray, List.set_cons_zero, List.set_cons_succ]
              refine wpAnyH_take (i := 5) (oi := { dst := some 101, op := Go.Op.load 3 (Go.Operand.tmp 100), type := 3, pos := "ref.go:109", after := #[{ on := 4, ground := Go.Ground.data }], guard := none }) (v := ?_) rfl ?_ ?_ ?_ ?_ (Or.inl ⟨?_, ?_⟩) hH ?_
              rotate_left
              · kernel_rfl
              · kernel_rfl
              · kernel_rfl
              · exact fun _ _ _ h => h
              · kernel_rfl
              · intro wS hSw
                try dsimp only at hSw
                go_simp
                try with_reducible rfl
              try simp only [Act.put, List.setIfInBounds_toArray, List.set_cons_zero, List.set_cons_succ]
              refine wpAnyH_take (i := 6) (oi := { dst := some 102, op := Go.Op.move (Go.Operand.tmp 11), type := 23, pos := "ref.go:109", after := #[], guard := none }) (v := ?_) rfl ?_ ?_ ?_ ?_ (Or.inl ⟨?_, ?_⟩) hH ?_
              rotate_left
              · kernel_rfl
              · kernel_rfl
              · kernel_rfl
              · exact fun _ _ _ h => h
              · kernel_rfl
              · intro wS hSw
                try dsimp only at hSw
                go_simp
                try with_reducible rfl
              try simp only [Act.put, List.setIfInBounds_toArray, List.set_cons_zero, List.set_cons_succ]
              refine wpAnyH_take (i := 7) (oi := { dst := some 103, op := Go.Op.move (Go.Operand.tmp 14), type := 3, pos := "ref.go:109", after := #[], guard := none }) (v := ?_) rfl ?_ ?_ ?_ ?_ (Or.inl ⟨?_, ?_⟩) hH ?_
              rotate_left
              · kernel_rfl
              · kernel_rfl
              · kernel_rfl
              · exact fun _ _ _ h => h
              · kernel_rfl
              · intro wS hSw
                try dsimp only at hSw
                go_simp
                try with_reducible rfl
              try simp only [Act.put, List.setIfInBounds_toArray, List.set_cons_zero, List.set_cons_succ]
              refine wpAnyH_take (i := 8) (oi := { dst := some 104, op := Go.Op.indexAddr 23 (Go.Operand.tmp 102) (Go.Operand.tmp 103), type := 0, pos := "ref.go:109", after := #[{ on := 6, ground := Go.Ground.data }, { on := 7, ground := Go.Ground.data }], guard := none }) (v := ?_) rfl ?_ ?_ ?_ ?_ (Or.inl ⟨?_, ?_⟩) hH ?_
              rotate_left
              · kernel_rfl
              · kernel_rfl
              · kernel_rfl
              · exact fun _ _ _ h => h
              · kernel_rfl
              · intro wS hSw
                try dsimp only at hSw
                go_simp
                try with_reducible rfl
              try simp only [Act.put, List.setIfInBounds_toArray, List.set_cons_zero, List.set_cons_succ]
              refine wpAnyH_take (i := 9) (oi := { dst := some 105, op := Go.Op.fieldAddr 48 (Go.Operand.tmp 104) 0, type := 0, pos := "ref.go:109", after := #[{ on := 8, ground := Go.Ground.data }], guard := none }) (v := ?_) rfl ?_ ?_ ?_ ?_ (Or.inl ⟨?_, ?_⟩) hH ?_
              rotate_left
              · kernel_rfl
              · kernel_rfl
              · kernel_rfl
              · exact fun _ _ _ h => h
              · kernel_rfl
              · intro wS hSw
                try dsimp only at hSw
                go_simp
                try with_reducible rfl
              try simp only [Act.put, List.setIfInBounds_toArray, List.set_cons_zero, List.set_cons_succ]
              refine wpAnyH_take (i := 10) (oi := { dst := some 106, op := Go.Op.load 3 (Go.Operand.tmp 105), type := 3, pos := "ref.go:109", after := #[{ on := 9, ground := Go.Ground.data }], guard := none }) (v := ?_) rfl ?_ ?_ ?_ ?_ (Or.inl ⟨?_, ?_⟩) hH ?_
              rotate_left
              · kernel_rfl
              · kernel_rfl
              · kernel_rfl
              · exact fun _ _ _ h => h
              · kernel_rfl
              · intro wS hSw
                try dsimp only at hSw
                go_simp
                try with_reducible rfl
              try simp only [Act.put, List.setIfInBounds_toArray, List.set_cons_zero, List.set_cons_succ]
              refine wpAnyH_take (i := 11) (oi := { dst := some 107, op := Go.Op.fieldAddr 25 (Go.Operand.tmp 2) 0, type := 0, pos := "ref.go:109", after := #[], guard := none }) (v := ?_) rfl ?_ ?_ ?_ ?_ (Or.inl ⟨?_, ?_⟩) hH ?_
              rotate_left
              · kernel_rfl
              · kernel_rfl
              · kernel_rfl
              · exact fun _ _ _ h => h
              · kernel_rfl
              · intro wS hSw
                try dsimp only at hSw
                go_simp
                try with_reducible rfl
              try simp only [Act.put, List.setIfInBounds_toArray, List.set_cons_zero, List.set_cons_succ]
              refine wpAnyH_take (i := 12) (oi := { dst := some 108, op := Go.Op.load 22 (Go.Operand.tmp 107), type := 22, pos := "ref.go:109", after := #[{ on := 11, ground := Go.Ground.data }], guard := none }) (v := ?_) rfl ?_ ?_ ?_ ?_ (Or.inl ⟨?_, ?_⟩) hH ?_
              rotate_left
              · kernel_rfl
              · kernel_rfl
              · kernel_rfl
              · exact fun _ _ _ h => h
              · kernel_rfl
              · intro wS hSw
                try dsimp only at hSw
                go_simp
                try with_reducible rfl
              try simp only [Act.put, List.setIfInBounds_toArray, List.set_cons_zero, List.set_cons_succ]
              refine wpAnyH_take (i := 13) (oi := { dst := some 109, op := Go.Op.call { callee := Go.Callee.builtin Go.Builtin.len, args := #[Go.Operand.tmp 108], argTypes := #[22] }, type := 3, pos := "ref.go:109", after := #[{ on := 12, ground := Go.Ground.data }], guard := none }) (v := ?_) rfl ?_ ?_ ?_ ?_ (Or.inl ⟨?_, ?_⟩) hH ?_
              rotate_left
              · kernel_rfl
              · kernel_rfl
              · kernel_rfl
              · exact fun _ _ _ h => h
              · kernel_rfl
              · intro wS hSw
                try dsimp only at hSw
                go_simp
                try with_reducible rfl
              try simp only [Act.put, List.setIfInBounds_toArray, List.set_cons_zero, List.set_cons_succ]
              refine wpAnyH_take (i := 14) (oi := { dst := some 110, op := Go.Op.binOp Go.BinOp.shl 3 (Go.Operand.tmp 106) (Go.Operand.tmp 109) 3, type := 3, pos := "ref.go:109", after := #[{ on := 10, ground := Go.Ground.data }, { on := 13, ground := Go.Ground.data }], guard := none }) (v := ?_) rfl ?_ ?_ ?_ ?_ (Or.inl ⟨?_, ?_⟩) hH ?_
              rotate_left
              · kernel_rfl
              · kernel_rfl
              · kernel_rfl
              · exact fun _ _ _ h => h
              · kernel_rfl
              · intro wS hSw
                try dsimp only at hSw
                go_simp
                try with_reducible rfl
              try simp only [Act.put, List.setIfInBounds_toArray, List.set_cons_zero, List.set_cons_succ]
              refine wpAnyH_take (i := 15) (oi := { dst := some 111, op := Go.Op.binOp Go.BinOp.or 3 (Go.Operand.tmp 101) (Go.Operand.tmp 110) 3, type := 3, pos := "ref.go:109", after := #[{ on := 5, ground := Go.Ground.data }, { on := 14, ground := Go.Ground.data }], guard := none }) (v := ?_) rfl ?_ ?_ ?_ ?_ (Or.inl ⟨?_, ?_⟩) hH ?_
              rotate_left
              · kernel_rfl
              · kernel_rfl
              · kernel_rfl
              · exact fun _ _ _ h => h
              · kernel_rfl
              · intro wS hSw
                try dsimp only at hSw
                go_simp
                try with_reducible rfl
              try simp only [Act.put, List.setIfInBounds_toArray, List.set_cons_zero, List.set_cons_succ]
              refine wpAnyH_take (i := 16) (oi := { dst := some 112, op := Go.Op.move (Go.Operand.tmp 15), type := 3, pos := "ref.go:109", after := #[], guard := none }) (v := ?_) rfl ?_ ?_ ?_ ?_ (Or.inl ⟨?_, ?_⟩) hH ?_
              rotate_left
              · kernel_rfl
              · kernel_rfl
              · kernel_rfl
              · exact fun _ _ _ h => h
              · kernel_rfl
              · intro wS hSw
                try dsimp only at hSw
                go_simp
                try with_reducible rfl
              try simp only [Act.put, List.setIfInBounds_toArray, List.set_cons_zero, List.set_cons_succ]
              refine wpAnyH_take (i := 17) (oi := { dst := some 113, op := Go.Op.build 48 #[(0, Go.Operand.tmp 111), (1, Go.Operand.tmp 112)], type := 48, pos := "ref.go:109", after := #[{ on := 15, ground := Go.Ground.data }, { on := 16, ground := Go.Ground.data }], guard := none }) (v := ?_) rfl ?_ ?_ ?_ ?_ (Or.inl ⟨?_, ?_⟩) hH ?_
              rotate_left
              · kernel_rfl
              · kernel_rfl
              · kernel_rfl
              · exact fun _ _ _ h => h
              · kernel_rfl
              · intro wS hSw
                try dsimp only at hSw
                go_simp
                try with_reducible rfl
              try simp only [Act.put, List.setIfInBounds_toArray, List.set_cons_zero, List.set_cons_succ]
              refine wpAnyH_ready (rs := [18]) (by kernel_rfl) (by simp) ?_
              refine AllReadyH.cons (o := { dst := some 114, op := Go.Op.buildSlice 23 1 #[(0, Go.Operand.tmp 113)], type := 23, pos := "ref.go:109", after := #[{ on := 17, ground := Go.Ground.data }], guard := none }) rfl (fun K hK => ?_) AllReadyH.nil
              · go_simp
                have S1 := Lib.hid (heldM12 HSS.out (ba WD (.cells #[.int .i64 (l + P2), .int .i64 t] 48)))
                refine hK.out _ _ ?_ (fun hH1 => ?_)
                · exact S1.out
                clear hK K hH
                try simp only [Act.put, List.setIfInBounds_toArray, List.set_cons_zero, List.set_cons_succ]
                refine wpAnyH_ready (rs := [19]) (by kernel_rfl) (by simp) ?_
                refine AllReadyH.cons (o := { dst := some 115, op := Go.Op.call { callee := Go.Callee.builtin Go.Builtin.append, args := #[Go.Operand.tmp 96, Go.Operand.tmp 114], argTypes := #[23, 23] }, type := 23, pos := "ref.go:109", after := #[{ on := 0, ground := Go.Ground.data }, { on := 18, ground := Go.Ground.data }], guard := none }) rfl (fun K hK => ?_) AllReadyH.nil
                · refine step_append_ks2 (P := Try.prog) Try.underlying23 run_info rfl (by decide) rnC_size (by rfl) (.tmp 96) (.tmp 114) (by rfl) (by rfl) (by rfl) (by rfl) HOd.out h6r [(l + P2, t)] (by rfl) (by decide) (by rfl) (by rfl) hM1 hM2 ?_
                  intro v3 w3 r3 b3 n3
                  have S3 := Lib.hid (heldN12 HSS.out n3 b3.size hgX.2 hgY.2 ⟨by omega, by omega⟩ HAp.out)
                  refine hK.out _ _ ?_ (fun hH2 => ?_)
                  · exact S3.out
                  clear hK K hH1
                  try simp only [Act.put, List.setIfInBounds_toArray, List.set_cons_zero, List.set_cons_succ]
                  refine wpAnyH_take (i := 20) (oi := { dst := some 12, op := Go.Op.assign (Go.Operand.tmp 115), type := 23, pos := "ref.go:109", after := #[{ on := 19, ground := Go.Ground.data }, { on := 19, ground := Go.Ground.chain }, { on := 0, ground := Go.Ground.phase }, { on := 1, ground := Go.Ground.phase }, { on := 2, ground := Go.Ground.phase }, { on := 3, ground := Go.Ground.phase }, { on := 4, ground := Go.Ground.phase }, { on := 5, ground := Go.Ground.phase }, { on := 6, ground := Go.Ground.phase }, { on := 7, ground := Go.Ground.phase }, { on := 8, ground := Go.Ground.phase }, { on := 9, ground := Go.Ground.phase }, { on := 10, ground := Go.Ground.phase }, { on := 11, ground := Go.Ground.phase }, { on := 12, ground := Go.Ground.phase }, { on := 13, ground := Go.Ground.phase }, { on := 14, ground := Go.Ground.phase }, { on := 15, ground := Go.Ground.phase }, { on := 16, ground := Go.Ground.phase }, { on := 17, ground := Go.Ground.phase }, { on := 18, ground := Go.Ground.phase }, { on := 19, ground := Go.Ground.phase }], guard := none }) (v := ?_) rfl ?_ ?_ ?_ ?_ (Or.inl ⟨?_, ?_⟩) hH2 ?_
                  rotate_left
                  · kernel_rfl
                  · kernel_rfl
                  · kernel_rfl
                  · exact fun _ _ _ h => h
                  · kernel_rfl
                  · intro wS hSw
                    try dsimp only at hSw
                    go_simp
                    try with_reducible rfl
                  try simp only [Act.put, List.setIfInBounds_toArray, List.set_cons_zero, List.set_cons_succ]
                  refine wpAnyH_done (by kernel_rfl) ?_ _
                  obtain ⟨FA, FN, FC, rfl, hFN⟩ := KRow.form r3
                  clear hFN
                  have HAq := Lib.hid (show ∀ q, (Value.slice FA FN FC).ownBlock = some q → w6.heap.size ≤ q from fun q hq => (KRow.lt r3 q hq).1)
                  have HX3 := Lib.hid (KRow.kept HXd.out n3 (fun q hq e => by have h1 := HAp.out q e.symm; have h2 : gX = q := Option.some.inj hq; omega))
                  have HY3 := Lib.hid (KRow.kept HYd.out n3 (fun q hq e => by have h1 := HAp.out q e.symm; have h2 : gY = q := Option.some.inj hq; omega))
                  have C3 := Lib.hid (HCd.out.trans (b3.mono (show wu.heap.size ≤ w6.heap.size by omega)))
                  have hs3 : w6.heap.size ≤ w3.heap.size := Nat.le_trans h6r b3.size
                  have HX4 := Lib.hid (RnRow.set1 HX3.out i hiX l 0 HPx.out.symm)
                  have HY4 := Lib.hid (show RnRow (w3.setCell ⟨gX, i * 2 + 1, none⟩ (.int .i64 0)) w5.heap.size (.slice (some ⟨gY, 0, none⟩) YE.length YC) YL from KRow.apart HY3.out (fun q hq => heap_setCell_other w3 ⟨gX, i * 2 + 1, none⟩ (.int .i64 0) q hq) (fun e => hxy (Option.some.inj e).symm))
                  have HO4 := Lib.hid (show RnRow (w3.setCell ⟨gX, i * 2 + 1, none⟩ (.int .i64 0)) w6.heap.size (.slice FA FN FC) _ from KRow.apart r3 (fun q hq => heap_setCell_other w3 ⟨gX, i * 2 + 1, none⟩ (.int .i64 0) q hq) (fun e => by have := HAq.out _ e; show False; have h5 : w6.heap.size ≤ gX := this; omega))
                  have HY5 := Lib.hid (RnRow.set1 HY4.out k hkY m (u - t) HPy.out.symm)
                  have HX5 := Lib.hid (show RnRow ((w3.setCell ⟨gX, i * 2 + 1, none⟩ (.int .i64 0)).setCell ⟨gY, k * 2 + 1, none⟩ (.int .i64 (u - t))) wu.heap.size (.slice (some ⟨gX, 0, none⟩) XE.length XC) (XL.set i (l, 0)) from KRow.apart HX4.out (fun q hq => heap_setCell_other (w3.setCell ⟨gX, i * 2 + 1, none⟩ (.int .i64 0)) ⟨gY, k * 2 + 1, none⟩ (.int .i64 (u - t)) q hq) (fun e => hxy (Option.some.inj e)))
                  have HO5 := Lib.hid (show RnRow ((w3.setCell ⟨gX, i * 2 + 1, none⟩ (.int .i64 0)).setCell ⟨gY, k * 2 + 1, none⟩ (.int .i64 (u - t))) w6.heap.size (.slice FA FN FC) _ from KRow.apart HO4.out (fun q hq => heap_setCell_other (w3.setCell ⟨gX, i * 2 + 1, none⟩ (.int .i64 0)) ⟨gY, k * 2 + 1, none⟩ (.int .i64 (u - t)) q hq) (fun e => by have := HAq.out _ e; show False; have h5 : w6.heap.size ≤ gY := this; omega))
                  have C5 := Lib.hid (show Below wu.heap.size wu ((w3.setCell ⟨gX, i * 2 + 1, none⟩ (.int .i64 0)).setCell ⟨gY, k * 2 + 1, none⟩ (.int .i64 (u - t))) from Below.setCell (Below.setCell C3.out (show wu.heap.size ≤ gX by omega) _) (show wu.heap.size ≤ gY by omega) _)
                  have hs5 : w6.heap.size ≤ ((w3.setCell ⟨gX, i * 2 + 1, none⟩ (.int .i64 0)).setCell ⟨gY, k * 2 + 1, none⟩ (.int .i64 (u - t))).heap.size := by rw [World.size_setCell, World.size_setCell]; exact hs3
                  have HS5 := Lib.hid hs5
                  have q1 := (RnRow.two HX3.out i hiX).2.1
                  have q2 := (RnRow.two HX3.out i hiX).2.2.2
                  rw [← HTx.out] at q1
                  have q3 := (RnRow.two HY4.out k hkY).2.1
                  have q4 := (RnRow.two HY4.out k hkY).2.2.2
                  rw [← HTy.out] at q3
                  have q5 := (RnRow.two HX5.out i (by rw [List.length_set]; exact hiX)).2.1
                  have q6 := (RnRow.two HY5.out k (by rw [List.length_set]; exact hkY)).2.1
                  rw [List.getElem_set_self] at q5 q6
                  have HLn5 := Lib.hid (show (XL.set i (l, 0)).length = XE.length ∧ (YL.set k (m, (u - t))).length = YE.length by rw [List.length_set, List.length_set]; exact HLn.out)
                  clear r3 b3 n3 y0 y1 y2 y3 g0 HOd HXd HYd hM1 hM2 hs3 hs5
                  go_wp2
                  go_roundw
                  case rel => exact ⟨i + 1, k, _, _, _, by first | rfl | go_num, by first | rfl | go_num, HLn5, HNI, HX5, HY5, HO5, HS5, C5⟩
                  case measure => simp [intOf]; omega
            · subst hc
              have hn0 : ¬ t < t := by omega
              have hn1 : decide (t < t) = false := decide_eq_false hn0
              have HNI := Lib.hid (sEq rfl)
              have hw0 : IntKind.i64.wrap (t - t) = 0 := by rw [Int.sub_self]; rfl
              clear sLt sEq sGt hmm
              (try clear hc)
              go_wp2
              refine wp_region_held_drew (S := fun w' => w'.cell? ⟨gX, i * 2, none⟩ = some (.int .i64 l) ∧ w'.cell? ⟨gY, k * 2, none⟩ = some (.int .i64 m) ∧ w'.cell? ⟨w.heap.size, 0, none⟩ = some (.slice A1 A.length c1) ∧ gX < w'.heap.size ∧ gY < w'.heap.size ∧ w.heap.size < w'.heap.size) (by kernel_rfl) ?_ (fun hH => ?_)
              · exact SS1
              have HSS := Lib.hid SS1
              clear f0 f1 f2 f3 SS1
              generalize wr.drew = WD at *
              refine wpAnyH_take (i := 0) (oi := { dst := some 96, op := Go.Op.move (Go.Operand.tmp 12), type := 23, pos := "ref.go:109", after := #[], guard := none }) (v := ?_) rfl ?_ ?_ ?_ ?_ (Or.inl ⟨?_, ?_⟩) hH ?_
              rotate_left
              · kernel_rfl
              · kernel_rfl
              · kernel_rfl
              · exact fun _ _ _ h => h
              · kernel_rfl
              · intro wS hSw
                try dsimp only at hSw
                go_simp
                try with_reducible rfl
              try simp only [Act.put, List.setIfInBounds_toArray, List.set_cons_zero, List.set_cons_succ]
              refine wpAnyH_take (i := 1) (oi := { dst := some 97, op := Go.Op.move (Go.Operand.tmp 10), type := 23, pos := "ref.go:109", after := #[], guard := none }) (v := ?_) rfl ?_ ?_ ?_ ?_ (Or.inl ⟨?_, ?_⟩) hH ?_
              rotate_left
              · kernel_rfl
              · kernel_rfl
              · kernel_rfl
              · exact fun _ _ _ h => h
              · kernel_rfl
              · intro wS hSw
                try dsimp only at hSw
                go_simp
                try with_reducible rfl
              try simp only [Act.put, List.setIfInBounds_toArray, List.set_cons_zero, List.set_cons_succ]
              refine wpAnyH_take (i := 2) (oi := { dst := some 98, op := Go.Op.move (Go.Operand.tmp 13), type := 3, pos := "ref.go:109", after := #[], guard := none }) (v := ?_) rfl ?_ ?_ ?_ ?_ (Or.inl ⟨?_, ?_⟩) hH ?_
              rotate_left
              · kernel_rfl
              · kernel_rfl
              · kernel_rfl
              · exact fun _ _ _ h => h
              · kernel_rfl
              · intro wS hSw
                try dsimp only at hSw
                go_simp
                try with_reducible rfl
              try simp only [Act.put, List.setIfInBounds_toArray, List.set_cons_zero, List.set_cons_succ]
              refine wpAnyH_take (i := 3) (oi := { dst := some 99, op := Go.Op.indexAddr 23 (Go.Operand.tmp 97) (Go.Operand.tmp 98), type := 0, pos := "ref.go:109", after := #[{ on := 1, ground := Go.Ground.data }, { on := 2, ground := Go.Ground.data }], guard := none }) (v := ?_) rfl ?_ ?_ ?_ ?_ (Or.inl ⟨?_, ?_⟩) hH ?_
              rotate_left
              · kernel_rfl
              · kernel_rfl
              · kernel_rfl
              · exact fun _ _ _ h => h
              · kernel_rfl
              · intro wS hSw
                try dsimp only at hSw
                go_simp
                try with_reducible rfl
              try simp only [Act.put, List.setIfInBounds_toArray, List.set_cons_zero, List.set_cons_succ]
              refine wpAnyH_take (i := 4) (oi := { dst := some 100, op := Go.Op.fieldAddr 48 (Go.Operand.tmp 99) 0, type := 0, pos := "ref.go:109", after := #[{ on := 3, ground := Go.Ground.data }], guard := none }) (v := ?_) rfl ?_ ?_ ?_ ?_ (Or.inl ⟨?_, ?_⟩) hH ?_
              rotate_left
              · kernel_rfl
              · kernel_rfl
              · kernel_rfl
              · exact fun _ _ _ h => h
              · kernel_rfl
              · intro wS hSw
                try dsimp only at hSw
                go_simp
                try with_reducible rfl
              try simp only [Act.put, List.setIfInBounds_toArray, List.set_cons_zero, List.set_cons_succ]
              refine wpAnyH_take (i := 5) (oi := { dst := some 101, op := Go.Op.load 3 (Go.Operand.tmp 100), type := 3, pos := "ref.go:109", after := #[{ on := 4, ground := Go.Ground.data }], guard := none }) (v := ?_) rfl ?_ ?_ ?_ ?_ (Or.inl ⟨?_, ?_⟩) hH ?_
              rotate_left
              · kernel_rfl
              · kernel_rfl
              · kernel_rfl
              · exact fun _ _ _ h => h
              · kernel_rfl
              · intro wS hSw
                try dsimp only at hSw
                go_simp
                try with_reducible rfl
              try simp only [Act.put, List.setIfInBounds_toArray, List.set_cons_zero, List.set_cons_succ]
              refine wpAnyH_take (i := 6) (oi := { dst := some 102, op := Go.Op.move (Go.Operand.tmp 11), type := 23, pos := "ref.go:109", after := #[], guard := none }) (v := ?_) rfl ?_ ?_ ?_ ?_ (Or.inl ⟨?_, ?_⟩) hH ?_
              rotate_left
              · kernel_rfl
              · kernel_rfl
              · kernel_rfl
              · exact fun _ _ _ h => h
              · kernel_rfl
              · intro wS hSw
                try dsimp only at hSw
                go_simp
                try with_reducible rfl
              try simp only [Act.put, List.setIfInBounds_toArray, List.set_cons_zero, List.set_cons_succ]
              refine wpAnyH_take (i := 7) (oi := { dst := some 103, op := Go.Op.move (Go.Operand.tmp 14), type := 3, pos := "ref.go:109", after := #[], guard := none }) (v := ?_) rfl ?_ ?_ ?_ ?_ (Or.inl ⟨?_, ?_⟩) hH ?_
              rotate_left
              · kernel_rfl
              · kernel_rfl
              · kernel_rfl
              · exact fun _ _ _ h => h
              · kernel_rfl
              · intro wS hSw
                try dsimp only at hSw
                go_simp
                try with_reducible rfl
              try simp only [Act.put, List.setIfInBounds_toArray, List.set_cons_zero, List.set_cons_succ]
              refine wpAnyH_take (i := 8) (oi := { dst := some 104, op := Go.Op.indexAddr 23 (Go.Operand.tmp 102) (Go.Operand.tmp 103), type := 0, pos := "ref.go:109", after := #[{ on := 6, ground := Go.Ground.data }, { on := 7, ground := Go.Ground.data }], guard := none }) (v := ?_) rfl ?_ ?_ ?_ ?_ (Or.inl ⟨?_, ?_⟩) hH ?_
              rotate_left
              · kernel_rfl
              · kernel_rfl
              · kernel_rfl
              · exact fun _ _ _ h => h
              · kernel_rfl
              · intro wS hSw
                try dsimp only at hSw
                go_simp
                try with_reducible rfl
              try simp only [Act.put, List.setIfInBounds_toArray, List.set_cons_zero, List.set_cons_succ]
              refine wpAnyH_take (i := 9) (oi := { dst := some 105, op := Go.Op.fieldAddr 48 (Go.Operand.tmp 104) 0, type := 0, pos := "ref.go:109", after := #[{ on := 8, ground := Go.Ground.data }], guard := none }) (v := ?_) rfl ?_ ?_ ?_ ?_ (Or.inl ⟨?_, ?_⟩) hH ?_
              rotate_left
              · kernel_rfl
              · kernel_rfl
              · kernel_rfl
              · exact fun _ _ _ h => h
              · kernel_rfl
              · intro wS hSw
                try dsimp only at hSw
                go_simp
                try with_reducible rfl
              try simp only [Act.put, List.setIfInBounds_toArray, List.set_cons_zero, List.set_cons_succ]
              refine wpAnyH_take (i := 10) (oi := { dst := some 106, op := Go.Op.load 3 (Go.Operand.tmp 105), type := 3, pos := "ref.go:109", after := #[{ on := 9, ground := Go.Ground.data }], guard := none }) (v := ?_) rfl ?_ ?_ ?_ ?_ (Or.inl ⟨?_, ?_⟩) hH ?_
              rotate_left
              · kernel_rfl
              · kernel_rfl
              · kernel_rfl
              · exact fun _ _ _ h => h
              · kernel_rfl
              · intro wS hSw
                try dsimp only at hSw
                go_simp
                try with_reducible rfl
              try simp only [Act.put, List.setIfInBounds_toArray, List.set_cons_zero, List.set_cons_succ]
              refine wpAnyH_take (i := 11) (oi := { dst := some 107, op := Go.Op.fieldAddr 25 (Go.Operand.tmp 2) 0, type := 0, pos := "ref.go:109", after := #[], guard := none }) (v := ?_) rfl ?_ ?_ ?_ ?_ (Or.inl ⟨?_, ?_⟩) hH ?_
              rotate_left
              · kernel_rfl
              · kernel_rfl
              · kernel_rfl
              · exact fun _ _ _ h => h
              · kernel_rfl
              · intro wS hSw
                try dsimp only at hSw
                go_simp
                try with_reducible rfl
              try simp only [Act.put, List.setIfInBounds_toArray, List.set_cons_zero, List.set_cons_succ]
              refine wpAnyH_take (i := 12) (oi := { dst := some 108, op := Go.Op.load 22 (Go.Operand.tmp 107), type := 22, pos := "ref.go:109", after := #[{ on := 11, ground := Go.Ground.data }], guard := none }) (v := ?_) rfl ?_ ?_ ?_ ?_ (Or.inl ⟨?_, ?_⟩) hH ?_
              rotate_left
              · kernel_rfl
              · kernel_rfl
              · kernel_rfl
              · exact fun _ _ _ h => h
              · kernel_rfl
              · intro wS hSw
                try dsimp only at hSw
                go_simp
                try with_reducible rfl
              try simp only [Act.put, List.setIfInBounds_toArray, List.set_cons_zero, List.set_cons_succ]
              refine wpAnyH_take (i := 13) (oi := { dst := some 109, op := Go.Op.call { callee := Go.Callee.builtin Go.Builtin.len, args := #[Go.Operand.tmp 108], argTypes := #[22] }, type := 3, pos := "ref.go:109", after := #[{ on := 12, ground := Go.Ground.data }], guard := none }) (v := ?_) rfl ?_ ?_ ?_ ?_ (Or.inl ⟨?_, ?_⟩) hH ?_
              rotate_left
              · kernel_rfl
              · kernel_rfl
              · kernel_rfl
              · exact fun _ _ _ h => h
              · kernel_rfl
              · intro wS hSw
                try dsimp only at hSw
                go_simp
                try with_reducible rfl
              try simp only [Act.put, List.setIfInBounds_toArray, List.set_cons_zero, List.set_cons_succ]
              refine wpAnyH_take (i := 14) (oi := { dst := some 110, op := Go.Op.binOp Go.BinOp.shl 3 (Go.Operand.tmp 106) (Go.Operand.tmp 109) 3, type := 3, pos := "ref.go:109", after := #[{ on := 10, ground := Go.Ground.data }, { on := 13, ground := Go.Ground.data }], guard := none }) (v := ?_) rfl ?_ ?_ ?_ ?_ (Or.inl ⟨?_, ?_⟩) hH ?_
              rotate_left
              · kernel_rfl
              · kernel_rfl
              · kernel_rfl
              · exact fun _ _ _ h => h
              · kernel_rfl
              · intro wS hSw
                try dsimp only at hSw
                go_simp
                try with_reducible rfl
              try simp only [Act.put, List.setIfInBounds_toArray, List.set_cons_zero, List.set_cons_succ]
              refine wpAnyH_take (i := 15) (oi := { dst := some 111, op := Go.Op.binOp Go.BinOp.or 3 (Go.Operand.tmp 101) (Go.Operand.tmp 110) 3, type := 3, pos := "ref.go:109", after := #[{ on := 5, ground := Go.Ground.data }, { on := 14, ground := Go.Ground.data }], guard := none }) (v := ?_) rfl ?_ ?_ ?_ ?_ (Or.inl ⟨?_, ?_⟩) hH ?_
              rotate_left
              · kernel_rfl
              · kernel_rfl
              · kernel_rfl
              · exact fun _ _ _ h => h
              · kernel_rfl
              · intro wS hSw
                try dsimp only at hSw
                go_simp
                try with_reducible rfl
              try simp only [Act.put, List.setIfInBounds_toArray, List.set_cons_zero, List.set_cons_succ]
              refine wpAnyH_take (i := 16) (oi := { dst := some 112, op := Go.Op.move (Go.Operand.tmp 15), type := 3, pos := "ref.go:109", after := #[], guard := none }) (v := ?_) rfl ?_ ?_ ?_ ?_ (Or.inl ⟨?_, ?_⟩) hH ?_
              rotate_left
              · kernel_rfl
              · kernel_rfl
              · kernel_rfl
              · exact fun _ _ _ h => h
              · kernel_rfl
              · intro wS hSw
                try dsimp only at hSw
                go_simp
                try with_reducible rfl
              try simp only [Act.put, List.setIfInBounds_toArray, List.set_cons_zero, List.set_cons_succ]
              refine wpAnyH_take (i := 17) (oi := { dst := some 113, op := Go.Op.build 48 #[(0, Go.Operand.tmp 111), (1, Go.Operand.tmp 112)], type := 48, pos := "ref.go:109", after := #[{ on := 15, ground := Go.Ground.data }, { on := 16, ground := Go.Ground.data }], guard := none }) (v := ?_) rfl ?_ ?_ ?_ ?_ (Or.inl ⟨?_, ?_⟩) hH ?_
              rotate_left
              · kernel_rfl
              · kernel_rfl
              · kernel_rfl
              · exact fun _ _ _ h => h
              · kernel_rfl
              · intro wS hSw
                try dsimp only at hSw
                go_simp
                try with_reducible rfl
              try simp only [Act.put, List.setIfInBounds_toArray, List.set_cons_zero, List.set_cons_succ]
              refine wpAnyH_ready (rs := [18]) (by kernel_rfl) (by simp) ?_
              refine AllReadyH.cons (o := { dst := some 114, op := Go.Op.buildSlice 23 1 #[(0, Go.Operand.tmp 113)], type := 23, pos := "ref.go:109", after := #[{ on := 17, ground := Go.Ground.data }], guard := none }) rfl (fun K hK => ?_) AllReadyH.nil
              · go_simp
                have S1 := Lib.hid (heldM12 HSS.out (ba WD (.cells #[.int .i64 (l + P2), .int .i64 t] 48)))
                refine hK.out _ _ ?_ (fun hH1 => ?_)
                · exact S1.out
                clear hK K hH
                try simp only [Act.put, List.setIfInBounds_toArray, List.set_cons_zero, List.set_cons_succ]
                refine wpAnyH_ready (rs := [19]) (by kernel_rfl) (by simp) ?_
                refine AllReadyH.cons (o := { dst := some 115, op := Go.Op.call { callee := Go.Callee.builtin Go.Builtin.append, args := #[Go.Operand.tmp 96, Go.Operand.tmp 114], argTypes := #[23, 23] }, type := 23, pos := "ref.go:109", after := #[{ on := 0, ground := Go.Ground.data }, { on := 18, ground := Go.Ground.data }], guard := none }) rfl (fun K hK => ?_) AllReadyH.nil
                · refine step_append_ks2 (P := Try.prog) Try.underlying23 run_info rfl (by decide) rnC_size (by rfl) (.tmp 96) (.tmp 114) (by rfl) (by rfl) (by rfl) (by rfl) HOd.out h6r [(l + P2, t)] (by rfl) (by decide) (by rfl) (by rfl) hM1 hM2 ?_
                  intro v3 w3 r3 b3 n3
                  have S3 := Lib.hid (heldN12 HSS.out n3 b3.size hgX.2 hgY.2 ⟨by omega, by omega⟩ HAp.out)
                  refine hK.out _ _ ?_ (fun hH2 => ?_)
                  · exact S3.out
                  clear hK K hH1
                  try simp only [Act.put, List.setIfInBounds_toArray, List.set_cons_zero, List.set_cons_succ]
                  refine wpAnyH_take (i := 20) (oi := { dst := some 12, op := Go.Op.assign (Go.Operand.tmp 115), type := 23, pos := "ref.go:109", after := #[{ on := 19, ground := Go.Ground.data }, { on := 19, ground := Go.Ground.chain }, { on := 0, ground := Go.Ground.phase }, { on := 1, ground := Go.Ground.phase }, { on := 2, ground := Go.Ground.phase }, { on := 3, ground := Go.Ground.phase }, { on := 4, ground := Go.Ground.phase }, { on := 5, ground := Go.Ground.phase }, { on := 6, ground := Go.Ground.phase }, { on := 7, ground := Go.Ground.phase }, { on := 8, ground := Go.Ground.phase }, { on := 9, ground := Go.Ground.phase }, { on := 10, ground := Go.Ground.phase }, { on := 11, ground := Go.Ground.phase }, { on := 12, ground := Go.Ground.phase }, { on := 13, ground := Go.Ground.phase }, { on := 14, ground := Go.Ground.phase }, { on := 15, ground := Go.Ground.phase }, { on := 16, ground := Go.Ground.phase }, { on := 17, ground := Go.Ground.phase }, { on := 18, ground := Go.Ground.phase }, { on := 19, ground := Go.Ground.phase }], guard := none }) (v := ?_) rfl ?_ ?_ ?_ ?_ (Or.inl ⟨?_, ?_⟩) hH2 ?_
                  rotate_left
                  · kernel_rfl
                  · kernel_rfl
                  · kernel_rfl
                  · exact fun _ _ _ h => h
                  · kernel_rfl
                  · intro wS hSw
                    try dsimp only at hSw
                    go_simp
                    try with_reducible rfl
                  try simp only [Act.put, List.setIfInBounds_toArray, List.set_cons_zero, List.set_cons_succ]
                  refine wpAnyH_done (by kernel_rfl) ?_ _
                  obtain ⟨FA, FN, FC, rfl, hFN⟩ := KRow.form r3
                  clear hFN
                  have HAq := Lib.hid (show ∀ q, (Value.slice FA FN FC).ownBlock = some q → w6.heap.size ≤ q from fun q hq => (KRow.lt r3 q hq).1)
                  have HX3 := Lib.hid (KRow.kept HXd.out n3 (fun q hq e => by have h1 := HAp.out q e.symm; have h2 : gX = q := Option.some.inj hq; omega))
                  have HY3 := Lib.hid (KRow.kept HYd.out n3 (fun q hq e => by have h1 := HAp.out q e.symm; have h2 : gY = q := Option.some.inj hq; omega))
                  have C3 := Lib.hid (HCd.out.trans (b3.mono (show wu.heap.size ≤ w6.heap.size by omega)))
                  have hs3 : w6.heap.size ≤ w3.heap.size := Nat.le_trans h6r b3.size
                  have HX4 := Lib.hid (RnRow.set1 HX3.out i hiX l 0 HPx.out.symm)
                  have HY4 := Lib.hid (show RnRow (w3.setCell ⟨gX, i * 2 + 1, none⟩ (.int .i64 0)) w5.heap.size (.slice (some ⟨gY, 0, none⟩) YE.length YC) YL from KRow.apart HY3.out (fun q hq => heap_setCell_other w3 ⟨gX, i * 2 + 1, none⟩ (.int .i64 0) q hq) (fun e => hxy (Option.some.inj e).symm))
                  have HO4 := Lib.hid (show RnRow (w3.setCell ⟨gX, i * 2 + 1, none⟩ (.int .i64 0)) w6.heap.size (.slice FA FN FC) _ from KRow.apart r3 (fun q hq => heap_setCell_other w3 ⟨gX, i * 2 + 1, none⟩ (.int .i64 0) q hq) (fun e => by have := HAq.out _ e; show False; have h5 : w6.heap.size ≤ gX := this; omega))
                  have HY5 := Lib.hid (RnRow.set1 HY4.out k hkY m 0 HPy.out.symm)
                  have HX5 := Lib.hid (show RnRow ((w3.setCell ⟨gX, i * 2 + 1, none⟩ (.int .i64 0)).setCell ⟨gY, k * 2 + 1, none⟩ (.int .i64 0)) wu.heap.size (.slice (some ⟨gX, 0, none⟩) XE.length XC) (XL.set i (l, 0)) from KRow.apart HX4.out (fun q hq => heap_setCell_other (w3.setCell ⟨gX, i * 2 + 1, none⟩ (.int .i64 0)) ⟨gY, k * 2 + 1, none⟩ (.int .i64 0) q hq) (fun e => hxy (Option.some.inj e)))
                  have HO5 := Lib.hid (show RnRow ((w3.setCell ⟨gX, i * 2 + 1, none⟩ (.int .i64 0)).setCell ⟨gY, k * 2 + 1, none⟩ (.int .i64 0)) w6.heap.size (.slice FA FN FC) _ from KRow.apart HO4.out (fun q hq => heap_setCell_other (w3.setCell ⟨gX, i * 2 + 1, none⟩ (.int .i64 0)) ⟨gY, k * 2 + 1, none⟩ (.int .i64 0) q hq) (fun e => by have := HAq.out _ e; show False; have h5 : w6.heap.size ≤ gY := this; omega))
                  have C5 := Lib.hid (show Below wu.heap.size wu ((w3.setCell ⟨gX, i * 2 + 1, none⟩ (.int .i64 0)).setCell ⟨gY, k * 2 + 1, none⟩ (.int .i64 0)) from Below.setCell (Below.setCell C3.out (show wu.heap.size ≤ gX by omega) _) (show wu.heap.size ≤ gY by omega) _)
                  have hs5 : w6.heap.size ≤ ((w3.setCell ⟨gX, i * 2 + 1, none⟩ (.int .i64 0)).setCell ⟨gY, k * 2 + 1, none⟩ (.int .i64 0)).heap.size := by rw [World.size_setCell, World.size_setCell]; exact hs3
                  have HS5 := Lib.hid hs5
                  have q1 := (RnRow.two HX3.out i hiX).2.1
                  have q2 := (RnRow.two HX3.out i hiX).2.2.2
                  rw [← HTx.out] at q1
                  have q3 := (RnRow.two HY4.out k hkY).2.1
                  have q4 := (RnRow.two HY4.out k hkY).2.2.2
                  rw [← HTy.out] at q3
                  have q5 := (RnRow.two HX5.out i (by rw [List.length_set]; exact hiX)).2.1
                  have q6 := (RnRow.two HY5.out k (by rw [List.length_set]; exact hkY)).2.1
                  rw [List.getElem_set_self] at q5 q6
                  have HLn5 := Lib.hid (show (XL.set i (l, 0)).length = XE.length ∧ (YL.set k (m, 0)).length = YE.length by rw [List.length_set, List.length_set]; exact HLn.out)
                  clear r3 b3 n3 y0 y1 y2 y3 g0 HOd HXd HYd hM1 hM2 hs3 hs5
                  go_wp2
                  go_roundw
                  case rel => exact ⟨i + 1, k + 1, _, _, _, by first | rfl | go_num, by first | rfl | go_num, HLn5, HNI, HX5, HY5, HO5, HS5, C5⟩
                  case measure => simp [intOf]; omega
            · have hn0 : u < t := hc
              have hn1 : decide (u < t) = true := decide_eq_true hn0
              have HNI := Lib.hid (sGt hc)
              have hz1 : ((t - u) == 0) = false := by rw [beq_eq_false_iff_ne]; omega
              have hz2 : ¬ t - u = 0 := by omega
              have hw1 := IntWalk.i64_in (t - u) (by omega)
              have hw0 : IntKind.i64.wrap (u - u) = 0 := by rw [Int.sub_self]; rfl
              clear sLt sEq sGt hmm
              (try clear hc)
              go_wp2
              refine wp_region_held_drew (S := fun w' => w'.cell? ⟨gX, i * 2, none⟩ = some (.int .i64 l) ∧ w'.cell? ⟨gY, k * 2, none⟩ = some (.int .i64 m) ∧ w'.cell? ⟨w.heap.size, 0, none⟩ = some (.slice A1 A.length c1) ∧ gX < w'.heap.size ∧ gY < w'.heap.size ∧ w.heap.size < w'.heap.size) (by kernel_rfl) ?_ (fun hH => ?_)
              · exact SS1
              have HSS := Lib.hid SS1
              clear f0 f1 f2 f3 SS1
              generalize wr.drew = WD at *
              refine wpAnyH_take (i := 0) (oi := { dst := some 96, op := Go.Op.move (Go.Operand.tmp 12), type := 23, pos := "ref.go:109", after := #[], guard := none }) (v := ?_) rfl ?_ ?_ ?_ ?_ (Or.inl ⟨?_, ?_⟩) hH ?_
              rotate_left
              · kernel_rfl
              · kernel_rfl
              · kernel_rfl
              · exact fun _ _ _ h => h
              · kernel_rfl
              · intro wS hSw
                try dsimp only at hSw
                go_simp
                try with_reducible rfl
              try simp only [Act.put, List.setIfInBounds_toArray, List.set_cons_zero, List.set_cons_succ]
              refine wpAnyH_take (i := 1) (oi := { dst := some 97, op := Go.Op.move (Go.Operand.tmp 10), type := 23, pos := "ref.go:109", after := #[], guard := none }) (v := ?_) rfl ?_ ?_ ?_ ?_ (Or.inl ⟨?_, ?_⟩) hH ?_
              rotate_left
              · kernel_rfl
              · kernel_rfl
              · kernel_rfl
              · exact fun _ _ _ h => h
              · kernel_rfl
              · intro wS hSw
                try dsimp only at hSw
                go_simp
                try with_reducible rfl
              try simp only [Act.put, List.setIfInBounds_toArray, List.set_cons_zero, List.set_cons_succ]
              refine wpAnyH_take (i := 2) (oi := { dst := some 98, op := Go.Op.move (Go.Operand.tmp 13), type := 3, pos := "ref.go:109", after := #[], guard := none }) (v := ?_) rfl ?_ ?_ ?_ ?_ (Or.inl ⟨?_, ?_⟩) hH ?_
              rotate_left
              · kernel_rfl
              · kernel_rfl
              · kernel_rfl
              · exact fun _ _ _ h => h
              · kernel_rfl
              · intro wS hSw
                try dsimp only at hSw
                go_simp
                try with_reducible rfl
              try simp only [Act.put, List.setIfInBounds_toArray, List.set_cons_zero, List.set_cons_succ]
              refine wpAnyH_take (i := 3) (oi := { dst := some 99, op := Go.Op.indexAddr 23 (Go.Operand.tmp 97) (Go.Operand.tmp 98), type := 0, pos := "ref.go:109", after := #[{ on := 1, ground := Go.Ground.data }, { on := 2, ground := Go.Ground.data }], guard := none }) (v := ?_) rfl ?_ ?_ ?_ ?_ (Or.inl ⟨?_, ?_⟩) hH ?_
              rotate_left
              · kernel_rfl
              · kernel_rfl
              · kernel_rfl
              · exact fun _ _ _ h => h
              · kernel_rfl
              · intro wS hSw
                try dsimp only at hSw
                go_simp
                try with_reducible rfl
              try simp only [Act.put, List.setIfInBounds_toArray, List.set_cons_zero, List.set_cons_succ]
              refine wpAnyH_take (i := 4) (oi := { dst := some 100, op := Go.Op.fieldAddr 48 (Go.Operand.tmp 99) 0, type := 0, pos := "ref.go:109", after := #[{ on := 3, ground := Go.Ground.data }], guard := none }) (v := ?_) rfl ?_ ?_ ?_ ?_ (Or.inl ⟨?_, ?_⟩) hH ?_
              rotate_left
              · kernel_rfl
              · kernel_rfl
              · kernel_rfl
              · exact fun _ _ _ h => h
              · kernel_rfl
              · intro wS hSw
                try dsimp only at hSw
                go_simp
                try with_reducible rfl
              try simp only [Act.put, List.setIfInBounds_toArray, List.set_cons_zero, List.set_cons_succ]
              refine wpAnyH_take (i := 5) (oi := { dst := some 101, op := Go.Op.load 3 (Go.Operand.tmp 100), type := 3, pos := "ref.go:109", after := #[{ on := 4, ground := Go.Ground.data }], guard := none }) (v := ?_) rfl ?_ ?_ ?_ ?_ (Or.inl ⟨?_, ?_⟩) hH ?_
              rotate_left
              · kernel_rfl
              · kernel_rfl
              · kernel_rfl
              · exact fun _ _ _ h => h
              · kernel_rfl
              · intro wS hSw
                try dsimp only at hSw
                go_simp
                try with_reducible rfl
              try simp only [Act.put, List.setIfInBounds_toArray, List.set_cons_zero, List.set_cons_succ]
              refine wpAnyH_take (i := 6) (oi := { dst := some 102, op := Go.Op.move (Go.Operand.tmp 11), type := 23, pos := "ref.go:109", after := #[], guard := none }) (v := ?_) rfl ?_ ?_ ?_ ?_ (Or.inl ⟨?_, ?_⟩) hH ?_
              rotate_left
              · kernel_rfl
              · kernel_rfl
              · kernel_rfl
              · exact fun _ _ _ h => h
              · kernel_rfl
              · intro wS hSw
                try dsimp only at hSw
                go_simp
                try with_reducible rfl
              try simp only [Act.put, List.setIfInBounds_toArray, List.set_cons_zero, List.set_cons_succ]
              refine wpAnyH_take (i := 7) (oi := { dst := some 103, op := Go.Op.move (Go.Operand.tmp 14), type := 3, pos := "ref.go:109", after := #[], guard := none }) (v := ?_) rfl ?_ ?_ ?_ ?_ (Or.inl ⟨?_, ?_⟩) hH ?_
              rotate_left
              · kernel_rfl
              · kernel_rfl
              · kernel_rfl
              · exact fun _ _ _ h => h
              · kernel_rfl
              · intro wS hSw
                try dsimp only at hSw
                go_simp
                try with_reducible rfl
              try simp only [Act.put, List.setIfInBounds_toArray, List.set_cons_zero, List.set_cons_succ]
              refine wpAnyH_take (i := 8) (oi := { dst := some 104, op := Go.Op.indexAddr 23 (Go.Operand.tmp 102) (Go.Operand.tmp 103), type := 0, pos := "ref.go:109", after := #[{ on := 6, ground := Go.Ground.data }, { on := 7, ground := Go.Ground.data }], guard := none }) (v := ?_) rfl ?_ ?_ ?_ ?_ (Or.inl ⟨?_, ?_⟩) hH ?_
              rotate_left
              · kernel_rfl
              · kernel_rfl
              · kernel_rfl
              · exact fun _ _ _ h => h
              · kernel_rfl
              · intro wS hSw
                try dsimp only at hSw
                go_simp
                try with_reducible rfl
              try simp only [Act.put, List.setIfInBounds_toArray, List.set_cons_zero, List.set_cons_succ]
              refine wpAnyH_take (i := 9) (oi := { dst := some 105, op := Go.Op.fieldAddr 48 (Go.Operand.tmp 104) 0, type := 0, pos := "ref.go:109", after := #[{ on := 8, ground := Go.Ground.data }], guard := none }) (v := ?_) rfl ?_ ?_ ?_ ?_ (Or.inl ⟨?_, ?_⟩) hH ?_
              rotate_left
              · kernel_rfl
              · kernel_rfl
              · kernel_rfl
              · exact fun _ _ _ h => h
              · kernel_rfl
              · intro wS hSw
                try dsimp only at hSw
                go_simp
                try with_reducible rfl
              try simp only [Act.put, List.setIfInBounds_toArray, List.set_cons_zero, List.set_cons_succ]
              refine wpAnyH_take (i := 10) (oi := { dst := some 106, op := Go.Op.load 3 (Go.Operand.tmp 105), type := 3, pos := "ref.go:109", after := #[{ on := 9, ground := Go.Ground.data }], guard := none }) (v := ?_) rfl ?_ ?_ ?_ ?_ (Or.inl ⟨?_, ?_⟩) hH ?_
              rotate_left
              · kernel_rfl
              · kernel_rfl
              · kernel_rfl
              · exact fun _ _ _ h => h
              · kernel_rfl
              · intro wS hSw
                try dsimp only at hSw
                go_simp
                try with_reducible rfl
              try simp only [Act.put, List.setIfInBounds_toArray, List.set_cons_zero, List.set_cons_succ]
              refine wpAnyH_take (i := 11) (oi := { dst := some 107, op := Go.Op.fieldAddr 25 (Go.Operand.tmp 2) 0, type := 0, pos := "ref.go:109", after := #[], guard := none }) (v := ?_) rfl ?_ ?_ ?_ ?_ (Or.inl ⟨?_, ?_⟩) hH ?_
              rotate_left
              · kernel_rfl
              · kernel_rfl
              · kernel_rfl
              · exact fun _ _ _ h => h
              · kernel_rfl
              · intro wS hSw
                try dsimp only at hSw
                go_simp
                try with_reducible rfl
              try simp only [Act.put, List.setIfInBounds_toArray, List.set_cons_zero, List.set_cons_succ]
              refine wpAnyH_take (i := 12) (oi := { dst := some 108, op := Go.Op.load 22 (Go.Operand.tmp 107), type := 22, pos := "ref.go:109", after := #[{ on := 11, ground := Go.Ground.data }], guard := none }) (v := ?_) rfl ?_ ?_ ?_ ?_ (Or.inl ⟨?_, ?_⟩) hH ?_
              rotate_left
              · kernel_rfl
              · kernel_rfl
              · kernel_rfl
              · exact fun _ _ _ h => h
              · kernel_rfl
              · intro wS hSw
                try dsimp only at hSw
                go_simp
                try with_reducible rfl
              try simp only [Act.put, List.setIfInBounds_toArray, List.set_cons_zero, List.set_cons_succ]
              refine wpAnyH_take (i := 13) (oi := { dst := some 109, op := Go.Op.call { callee := Go.Callee.builtin Go.Builtin.len, args := #[Go.Operand.tmp 108], argTypes := #[22] }, type := 3, pos := "ref.go:109", after := #[{ on := 12, ground := Go.Ground.data }], guard := none }) (v := ?_) rfl ?_ ?_ ?_ ?_ (Or.inl ⟨?_, ?_⟩) hH ?_
              rotate_left
              · kernel_rfl
              · kernel_rfl
              · kernel_rfl
              · exact fun _ _ _ h => h
              · kernel_rfl
              · intro wS hSw
                try dsimp only at hSw
                go_simp
                try with_reducible rfl
              try simp only [Act.put, List.setIfInBounds_toArray, List.set_cons_zero, List.set_cons_succ]
              refine wpAnyH_take (i := 14) (oi := { dst := some 110, op := Go.Op.binOp Go.BinOp.shl 3 (Go.Operand.tmp 106) (Go.Operand.tmp 109) 3, type := 3, pos := "ref.go:109", after := #[{ on := 10, ground := Go.Ground.data }, { on := 13, ground := Go.Ground.data }], guard := none }) (v := ?_) rfl ?_ ?_ ?_ ?_ (Or.inl ⟨?_, ?_⟩) hH ?_
              rotate_left
              · kernel_rfl
              · kernel_rfl
              · kernel_rfl
              · exact fun _ _ _ h => h
              · kernel_rfl
              · intro wS hSw
                try dsimp only at hSw
                go_simp
                try with_reducible rfl
              try simp only [Act.put, List.setIfInBounds_toArray, List.set_cons_zero, List.set_cons_succ]
              refine wpAnyH_take (i := 15) (oi := { dst := some 111, op := Go.Op.binOp Go.BinOp.or 3 (Go.Operand.tmp 101) (Go.Operand.tmp 110) 3, type := 3, pos := "ref.go:109", after := #[{ on := 5, ground := Go.Ground.data }, { on := 14, ground := Go.Ground.data }], guard := none }) (v := ?_) rfl ?_ ?_ ?_ ?_ (Or.inl ⟨?_, ?_⟩) hH ?_
              rotate_left
              · kernel_rfl
              · kernel_rfl
              · kernel_rfl
              · exact fun _ _ _ h => h
              · kernel_rfl
              · intro wS hSw
                try dsimp only at hSw
                go_simp
                try with_reducible rfl
              try simp only [Act.put, List.setIfInBounds_toArray, List.set_cons_zero, List.set_cons_succ]
              refine wpAnyH_take (i := 16) (oi := { dst := some 112, op := Go.Op.move (Go.Operand.tmp 15), type := 3, pos := "ref.go:109", after := #[], guard := none }) (v := ?_) rfl ?_ ?_ ?_ ?_ (Or.inl ⟨?_, ?_⟩) hH ?_
              rotate_left
              · kernel_rfl
              · kernel_rfl
              · kernel_rfl
              · exact fun _ _ _ h => h
              · kernel_rfl
              · intro wS hSw
                try dsimp only at hSw
                go_simp
                try with_reducible rfl
              try simp only [Act.put, List.setIfInBounds_toArray, List.set_cons_zero, List.set_cons_succ]
              refine wpAnyH_take (i := 17) (oi := { dst := some 113, op := Go.Op.build 48 #[(0, Go.Operand.tmp 111), (1, Go.Operand.tmp 112)], type := 48, pos := "ref.go:109", after := #[{ on := 15, ground := Go.Ground.data }, { on := 16, ground := Go.Ground.data }], guard := none }) (v := ?_) rfl ?_ ?_ ?_ ?_ (Or.inl ⟨?_, ?_⟩) hH ?_
              rotate_left
              · kernel_rfl
              · kernel_rfl
              · kernel_rfl
              · exact fun _ _ _ h => h
              · kernel_rfl
              · intro wS hSw
                try dsimp only at hSw
                go_simp
                try with_reducible rfl
              try simp only [Act.put, List.setIfInBounds_toArray, List.set_cons_zero, List.set_cons_succ]
              refine wpAnyH_ready (rs := [18]) (by kernel_rfl) (by simp) ?_
              refine AllReadyH.cons (o := { dst := some 114, op := Go.Op.buildSlice 23 1 #[(0, Go.Operand.tmp 113)], type := 23, pos := "ref.go:109", after := #[{ on := 17, ground := Go.Ground.data }], guard := none }) rfl (fun K hK => ?_) AllReadyH.nil
              · go_simp
                have S1 := Lib.hid (heldM12 HSS.out (ba WD (.cells #[.int .i64 (l + P2), .int .i64 u] 48)))
                refine hK.out _ _ ?_ (fun hH1 => ?_)
                · exact S1.out
                clear hK K hH
                try simp only [Act.put, List.setIfInBounds_toArray, List.set_cons_zero, List.set_cons_succ]
                refine wpAnyH_ready (rs := [19]) (by kernel_rfl) (by simp) ?_
                refine AllReadyH.cons (o := { dst := some 115, op := Go.Op.call { callee := Go.Callee.builtin Go.Builtin.append, args := #[Go.Operand.tmp 96, Go.Operand.tmp 114], argTypes := #[23, 23] }, type := 23, pos := "ref.go:109", after := #[{ on := 0, ground := Go.Ground.data }, { on := 18, ground := Go.Ground.data }], guard := none }) rfl (fun K hK => ?_) AllReadyH.nil
                · refine step_append_ks2 (P := Try.prog) Try.underlying23 run_info rfl (by decide) rnC_size (by rfl) (.tmp 96) (.tmp 114) (by rfl) (by rfl) (by rfl) (by rfl) HOd.out h6r [(l + P2, u)] (by rfl) (by decide) (by rfl) (by rfl) hM1 hM2 ?_
                  intro v3 w3 r3 b3 n3
                  have S3 := Lib.hid (heldN12 HSS.out n3 b3.size hgX.2 hgY.2 ⟨by omega, by omega⟩ HAp.out)
                  refine hK.out _ _ ?_ (fun hH2 => ?_)
                  · exact S3.out
                  clear hK K hH1
                  try simp only [Act.put, List.setIfInBounds_toArray, List.set_cons_zero, List.set_cons_succ]
                  refine wpAnyH_take (i := 20) (oi := { dst := some 12, op := Go.Op.assign (Go.Operand.tmp 115), type := 23, pos := "ref.go:109", after := #[{ on := 19, ground := Go.Ground.data }, { on := 19, ground := Go.Ground.chain }, { on := 0, ground := Go.Ground.phase }, { on := 1, ground := Go.Ground.phase }, { on := 2, ground := Go.Ground.phase }, { on := 3, ground := Go.Ground.phase }, { on := 4, ground := Go.Ground.phase }, { on := 5, ground := Go.Ground.phase }, { on := 6, ground := Go.Ground.phase }, { on := 7, ground := Go.Ground.phase }, { on := 8, ground := Go.Ground.phase }, { on := 9, ground := Go.Ground.phase }, { on := 10, ground := Go.Ground.phase }, { on := 11, ground := Go.Ground.phase }, { on := 12, ground := Go.Ground.phase }, { on := 13, ground := Go.Ground.phase }, { on := 14, ground := Go.Ground.phase }, { on := 15, ground := Go.Ground.phase }, { on := 16, ground := Go.Ground.phase }, { on := 17, ground := Go.Ground.phase }, { on := 18, ground := Go.Ground.phase }, { on := 19, ground := Go.Ground.phase }], guard := none }) (v := ?_) rfl ?_ ?_ ?_ ?_ (Or.inl ⟨?_, ?_⟩) hH2 ?_
                  rotate_left
                  · kernel_rfl
                  · kernel_rfl
                  · kernel_rfl
                  · exact fun _ _ _ h => h
                  · kernel_rfl
                  · intro wS hSw
                    try dsimp only at hSw
                    go_simp
                    try with_reducible rfl
                  try simp only [Act.put, List.setIfInBounds_toArray, List.set_cons_zero, List.set_cons_succ]
                  refine wpAnyH_done (by kernel_rfl) ?_ _
                  obtain ⟨FA, FN, FC, rfl, hFN⟩ := KRow.form r3
                  clear hFN
                  have HAq := Lib.hid (show ∀ q, (Value.slice FA FN FC).ownBlock = some q → w6.heap.size ≤ q from fun q hq => (KRow.lt r3 q hq).1)
                  have HX3 := Lib.hid (KRow.kept HXd.out n3 (fun q hq e => by have h1 := HAp.out q e.symm; have h2 : gX = q := Option.some.inj hq; omega))
                  have HY3 := Lib.hid (KRow.kept HYd.out n3 (fun q hq e => by have h1 := HAp.out q e.symm; have h2 : gY = q := Option.some.inj hq; omega))
                  have C3 := Lib.hid (HCd.out.trans (b3.mono (show wu.heap.size ≤ w6.heap.size by omega)))
                  have hs3 : w6.heap.size ≤ w3.heap.size := Nat.le_trans h6r b3.size
                  have HX4 := Lib.hid (RnRow.set1 HX3.out i hiX l (t - u) HPx.out.symm)
                  have HY4 := Lib.hid (show RnRow (w3.setCell ⟨gX, i * 2 + 1, none⟩ (.int .i64 (t - u))) w5.heap.size (.slice (some ⟨gY, 0, none⟩) YE.length YC) YL from KRow.apart HY3.out (fun q hq => heap_setCell_other w3 ⟨gX, i * 2 + 1, none⟩ (.int .i64 (t - u)) q hq) (fun e => hxy (Option.some.inj e).symm))
                  have HO4 := Lib.hid (show RnRow (w3.setCell ⟨gX, i * 2 + 1, none⟩ (.int .i64 (t - u))) w6.heap.size (.slice FA FN FC) _ from KRow.apart r3 (fun q hq => heap_setCell_other w3 ⟨gX, i * 2 + 1, none⟩ (.int .i64 (t - u)) q hq) (fun e => by have := HAq.out _ e; show False; have h5 : w6.heap.size ≤ gX := this; omega))
                  have HY5 := Lib.hid (RnRow.set1 HY4.out k hkY m 0 HPy.out.symm)
                  have HX5 := Lib.hid (show RnRow ((w3.setCell ⟨gX, i * 2 + 1, none⟩ (.int .i64 (t - u))).setCell ⟨gY, k * 2 + 1, none⟩ (.int .i64 0)) wu.heap.size (.slice (some ⟨gX, 0, none⟩) XE.length XC) (XL.set i (l, (t - u))) from KRow.apart HX4.out (fun q hq => heap_setCell_other (w3.setCell ⟨gX, i * 2 + 1, none⟩ (.int .i64 (t - u))) ⟨gY, k * 2 + 1, none⟩ (.int .i64 0) q hq) (fun e => hxy (Option.some.inj e)))
                  have HO5 := Lib.hid (show RnRow ((w3.setCell ⟨gX, i * 2 + 1, none⟩ (.int .i64 (t - u))).setCell ⟨gY, k * 2 + 1, none⟩ (.int .i64 0)) w6.heap.size (.slice FA FN FC) _ from KRow.apart HO4.out (fun q hq => heap_setCell_other (w3.setCell ⟨gX, i * 2 + 1, none⟩ (.int .i64 (t - u))) ⟨gY, k * 2 + 1, none⟩ (.int .i64 0) q hq) (fun e => by have := HAq.out _ e; show False; have h5 : w6.heap.size ≤ gY := this; omega))
                  have C5 := Lib.hid (show Below wu.heap.size wu ((w3.setCell ⟨gX, i * 2 + 1, none⟩ (.int .i64 (t - u))).setCell ⟨gY, k * 2 + 1, none⟩ (.int .i64 0)) from Below.setCell (Below.setCell C3.out (show wu.heap.size ≤ gX by omega) _) (show wu.heap.size ≤ gY by omega) _)
                  have hs5 : w6.heap.size ≤ ((w3.setCell ⟨gX, i * 2 + 1, none⟩ (.int .i64 (t - u))).setCell ⟨gY, k * 2 + 1, none⟩ (.int .i64 0)).heap.size := by rw [World.size_setCell, World.size_setCell]; exact hs3
                  have HS5 := Lib.hid hs5
                  have q1 := (RnRow.two HX3.out i hiX).2.1
                  have q2 := (RnRow.two HX3.out i hiX).2.2.2
                  rw [← HTx.out] at q1
                  have q3 := (RnRow.two HY4.out k hkY).2.1
                  have q4 := (RnRow.two HY4.out k hkY).2.2.2
                  rw [← HTy.out] at q3
                  have q5 := (RnRow.two HX5.out i (by rw [List.length_set]; exact hiX)).2.1
                  have q6 := (RnRow.two HY5.out k (by rw [List.length_set]; exact hkY)).2.1
                  rw [List.getElem_set_self] at q5 q6
                  have HLn5 := Lib.hid (show (XL.set i (l, (t - u))).length = XE.length ∧ (YL.set k (m, 0)).length = YE.length by rw [List.length_set, List.length_set]; exact HLn.out)
                  clear r3 b3 n3 y0 y1 y2 y3 g0 HOd HXd HYd hM1 hM2 hs3 hs5
                  go_wp2
                  go_roundw
                  case rel => exact ⟨i, k + 1, _, _, _, by first | rfl | go_num, by first | rfl | go_num, HLn5, HNI, HX5, HY5, HO5, HS5, C5⟩
                  case measure => simp [intOf]; omega
          · have hout := MgI.done HI.out (by rw [HLn.out.1, HLn.out.2]; exact hik)
            rw [hout] at HO
            have HJ := Lib.hid HCV.out
            clear hout
            by_cases hi1 : i < XE.length
            · have d1 : (i : Int) < (XE.length : Int) := by omega
              have d2 : ¬ (k : Int) < (YE.length : Int) := by omega
              clear HI HX HY hXs HLn hle1 hle2 HON HMI HgX HgY
              have g0 := PR.out.cell 0
              have t0 := TR.out.cell 0
              have HCl := Lib.hid (rclean_any (mk (A.length + B.length)) MM _ wr (KRow.arg rnC_size HO.out) (by have := HJ.out.2; omega) HJ.out.1)
              have hjl : (jn MM).length ≤ 20000 := Nat.le_trans (jn_len MM) HJ.out.2
              have hs3 : w.heap.size + 3 ≤ wr.heap.size := QR.out.lt
              go_wp2_with (first
                | (go_at_call 32; go_must (refine HCl.out.mono ?_; rintro e7 w7 ⟨v7, rfl, r7, b7⟩; obtain ⟨TA, TN, TC, rfl, hTN⟩ := KRow.form r7; have hnb : ¬ (262144 : Int) < (TN : Int) := (by omega); clear hTN; have B7 := Lib.hid (BR.out.trans (b7.mono BR.out.size)); have P7 := Lib.hid (PR.out.keep b7); have T7 := Lib.hid (TR.out.keep b7); have Q7 := Lib.hid (QR.out.keep b7); have M7 := Lib.hid (KRow.mono r7 hs3); clear g0 t0; clear r7 b7)))
              refine mrg_region A B A1 A2 A3 A4 c1 c2 c3 c4 X.length Y.length w w7 (jn MM) TA TN TC _ _ _ _ _ _ _ _ _ _ _ _ _ _ _ _ _ _ _ _ _ _ _ _ _ _ _ _ _ _ _ _ _ _ _ _ _ _ _ _ _ _ _ _ _ _ _ _ _ _ _ _ _ _ _ _ _ _ _ _ _ _ _ _ _ _ _ _ _ _ _ _ _ _ _ _ _ _ _ _ _ _ _ _ _ _ _ _ _ _ _ _ _ _ _ _ _ _ _ _ _ _ _ _ _ _ _ _ _ _ _ _ _ _ _ _ _ _ _ _ _ _ _ _ _ _ _ _ _ _ _ _ _ _ _ _ _ _ _ _ _ _ _ _ _ _ _ _ _ _ _ _ _ _ _ _ _ _ _ _ _ _ _ _ _ (fun _ _ _ _ _ h => h) ha hb' HAK HBK (Lib.hid ⟨P7.out.cell 0, P7.out.cell 1, T7.out.cell 0, T7.out.cell 1, B7.out.drew, Q7.out.lt⟩) (Lib.hid (show RowAt w7.drew (w.heap.size + 2) 25 #[.slice none 0 0, .slice none 0 0] from Q7.out)) (Lib.hid (show RnRow w7.drew (w.heap.size + 3) (.slice TA TN TC) (jn MM) from KRow.drewN M7.out 1)) ?_
              intro NA NN NC x160 x161 x162 x163 x164 x165 x166 x167 x168 W9 e0 e1 hN9 hR9 hB9
              clear P7 T7 Q7 B7 M7
              refine (show ∀ (a : Act) (w : World), Code.wp Try.prog Code.ret _ a w → _ by assumption) _ _ (wp_ret ?_)
              refine bodyPost_ret (v := .tuple #[.agg #[.slice NA NN NC, .slice TA TN TC], .int .i64 0]) (by simp [results, Try.results18, go_sem, e0, e1]) rfl ⟨_, _, by rw [HE.out], by rw [HN0.out]; exact KRow.name hN9, by rw [HMM.out]; exact KRow.arg rnC_size hR9, hB9⟩
            · have d1 : ¬ (i : Int) < (XE.length : Int) := by omega
              clear HI HX HY hXs HLn hle1 hle2 HON HMI HgX HgY
              have g0 := PR.out.cell 0
              have t0 := TR.out.cell 0
              have HCl := Lib.hid (rclean_any (mk (A.length + B.length)) MM _ wr (KRow.arg rnC_size HO.out) (by have := HJ.out.2; omega) HJ.out.1)
              have hjl : (jn MM).length ≤ 20000 := Nat.le_trans (jn_len MM) HJ.out.2
              have hs3 : w.heap.size + 3 ≤ wr.heap.size := QR.out.lt
              go_wp2_with (first
                | (go_at_call 32; go_must (refine HCl.out.mono ?_; rintro e7 w7 ⟨v7, rfl, r7, b7⟩; obtain ⟨TA, TN, TC, rfl, hTN⟩ := KRow.form r7; have hnb : ¬ (262144 : Int) < (TN : Int) := (by omega); clear hTN; have B7 := Lib.hid (BR.out.trans (b7.mono BR.out.size)); have P7 := Lib.hid (PR.out.keep b7); have T7 := Lib.hid (TR.out.keep b7); have Q7 := Lib.hid (QR.out.keep b7); have M7 := Lib.hid (KRow.mono r7 hs3); clear g0 t0; clear r7 b7)))
              refine mrg_region A B A1 A2 A3 A4 c1 c2 c3 c4 X.length Y.length w w7 (jn MM) TA TN TC _ _ _ _ _ _ _ _ _ _ _ _ _ _ _ _ _ _ _ _ _ _ _ _ _ _ _ _ _ _ _ _ _ _ _ _ _ _ _ _ _ _ _ _ _ _ _ _ _ _ _ _ _ _ _ _ _ _ _ _ _ _ _ _ _ _ _ _ _ _ _ _ _ _ _ _ _ _ _ _ _ _ _ _ _ _ _ _ _ _ _ _ _ _ _ _ _ _ _ _ _ _ _ _ _ _ _ _ _ _ _ _ _ _ _ _ _ _ _ _ _ _ _ _ _ _ _ _ _ _ _ _ _ _ _ _ _ _ _ _ _ _ _ _ _ _ _ _ _ _ _ _ _ _ _ _ _ _ _ _ _ _ _ _ _ (fun _ _ _ _ _ h => h) ha hb' HAK HBK (Lib.hid ⟨P7.out.cell 0, P7.out.cell 1, T7.out.cell 0, T7.out.cell 1, B7.out.drew, Q7.out.lt⟩) (Lib.hid (show RowAt w7.drew (w.heap.size + 2) 25 #[.slice none 0 0, .slice none 0 0] from Q7.out)) (Lib.hid (show RnRow w7.drew (w.heap.size + 3) (.slice TA TN TC) (jn MM) from KRow.drewN M7.out 1)) ?_
              intro NA NN NC x160 x161 x162 x163 x164 x165 x166 x167 x168 W9 e0 e1 hN9 hR9 hB9
              clear P7 T7 Q7 B7 M7
              refine (show ∀ (a : Act) (w : World), Code.wp Try.prog Code.ret _ a w → _ by assumption) _ _ (wp_ret ?_)
              refine bodyPost_ret (v := .tuple #[.agg #[.slice NA NN NC, .slice TA TN TC], .int .i64 0]) (by simp [results, Try.results18, go_sem, e0, e1]) rfl ⟨_, _, by rw [HE.out], by rw [HN0.out]; exact KRow.name hN9, by rw [HMM.out]; exact KRow.arg rnC_size hR9, hB9⟩

end Go.Proofs.Yteccafndplaklaa
