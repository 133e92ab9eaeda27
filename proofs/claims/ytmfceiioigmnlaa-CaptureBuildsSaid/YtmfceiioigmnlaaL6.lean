/-
  The walk of the statement CaptureBuilds.
-/
import Derived.Test.YtmfceiioigmnlaaL5
namespace Go.Proofs.Ytmfceiioigmnlaa
open Go Go.RowKit Go.Joins
set_option linter.unusedVariables false
set_option linter.unusedSimpArgs false

theorem ckN_dp {N : List ByteArray} (h : ckN N = 0) : dpT N N.length = false := by
  unfold ckN at h
  split at h
  · omega
  · split at h
    · omega
    · split at h
      · omega
      · split at h
        · omega
        · rename_i hd
          simpa using hd
theorem names_ne {N : List ByteArray} (h : ckN N = 0) {i j : Nat} (hi : i < N.length) (hj : j < i) : ¬ N[j].data.toList = N[i].data.toList := by
  have hd := ckN_dp h
  unfold dpT at hd
  rw [List.any_eq_false] at hd
  have h1 := hd i (List.mem_range.2 hi)
  intro e
  apply h1
  unfold has
  rw [List.any_eq_true]
  refine ⟨N[j], ?_, ?_⟩
  · rw [List.mem_take_iff_getElem]
    exact ⟨j, by omega, rfl⟩
  · rw [decide_eq_true_eq, e]
    simp [hi]
theorem ixF_own {N : List ByteArray} (h : ckN N = 0) {i : Nat} (hi : i < N.length) (d j : Nat) (hd : j + d = i) : ixF (N.drop j) N[i] j = i := by
  induction d generalizing j with
  | zero =>
    have : j = i := by omega
    subst this
    exact ixF_here hi rfl
  | succ d ih =>
    rw [ixF_next (by omega) (names_ne h hi (by omega))]
    exact ih (j + 1) (by omega)
theorem ix_own {N : List ByteArray} (h : ckN N = 0) {i : Nat} (hi : i < N.length) : ix N N[i] = i := by
  have := ixF_own h hi i 0 (by omega)
  simpa [ix] using this
theorem chR_own {N : List ByteArray} {R : List Rn} (h : ckC N R = 0) {i : Nat} (hi : i < N.length) : chR N R N[i] = (chn R i, 0) := by
  obtain ⟨_, h2, _⟩ := ckC_ok h
  have e := ix_own h2 hi
  rw [chR_0 h (by rw [e]; omega), e]
  simp
/-- The channels' waves. -/
def chs (R : List Rn) (n : Nat) : List (List Rn) := (List.range n).map (chn R)
theorem chs_len (R : List Rn) (n : Nat) : (chs R n).length = n := by simp [chs]
theorem chs_at (R : List Rn) (n i : Nat) (h : i < (chs R n).length) : (chs R n)[i] = chn R i := by simp [chs]
theorem sl2_leM (M : Nat) (ws : List (List Rn)) (h : ∀ w ∈ ws, w.length ≤ M) : sl2 ws ≤ M * ws.length := by
  induction ws with
  | nil => simp [sl2]
  | cons w ws ih =>
    have h1 := h w (List.mem_cons_self ..)
    have h2 := ih (fun x hx => h x (List.mem_cons_of_mem _ hx))
    simp only [sl2, List.length_cons]
    rw [Int.natCast_add, Int.mul_add]
    omega
theorem chs_facts {N : List ByteArray} {R : List Rn} (h : ckC N R = 0) (hR : R.length ≤ 2000) : bdE N (chs R N.length) = 0 ∧ sl2 (chs R N.length) ≤ 262144 ∧ lg ((chs R N.length).getD 0 []) = lg R := by
  obtain ⟨h1, h2, h3, h4, h5, h6⟩ := ckC_ok h
  have hl := chs_len R N.length
  have e0 : lg ((chs R N.length).getD 0 []) = lg R := by
    have : (chs R N.length).getD 0 [] = chn R 0 := by simp [chs, h3]
    rw [this, chn_lg]
  refine ⟨?_, ?_, e0⟩
  · rw [bdE_w h2]
    refine ckW_0 hl ?_ ?_
    · rw [List.all_eq_true]
      intro w hw
      obtain ⟨i, _, rfl⟩ := List.mem_map.1 hw
      have := chn_len R i
      rw [vl_of (by omega)]
      exact chn_vr h6 i
    · unfold sameLg
      rw [List.all_eq_true]
      intro w hw
      rw [e0]
      obtain ⟨i, _, rfl⟩ := List.mem_map.1 hw
      simp [chn_lg]
  · have := sl2_leM 2000 (chs R N.length) (fun w hw => by
      obtain ⟨i, _, rfl⟩ := List.mem_map.1 hw
      have := chn_len R i
      omega)
    rw [hl] at this
    omega
theorem jn_idem {R : List Rn} (h : ps R) : jn (jn R) = jn R :=
  al_unique (jn_al _) (jn_ps (jn_ps h)) (jn_al _) (jn_ps h) (fun k hk => atv_jn k (jn_ps h) hk)
theorem jn_facts {N : List ByteArray} {R : List Rn} (h : ckC N R = 0) : ckC N (jn R) = 0 ∧ smP N R N (jn R) ∧ lgC N (jn R) = lgC N R := by
  obtain ⟨h1, h2, h3, h4, h5, h6⟩ := ckC_ok h
  have hc : ckC N (jn R) = 0 := ckC_0 (by have := jn_len R; omega) h2 (jn_vr h6)
  refine ⟨hc, ⟨h, hc, rfl, (jn_idem ((vr_iff _ R 0 (by omega)).1 h6).2.1).symm⟩, ?_⟩
  rw [lgC_yes hc, lgC_yes h, jn_lg]

abbrev SlRow (w : World) (B : Nat) (v : Value) (l : List Sl) : Prop := KRow slC 1 23 w B v l
theorem sl_info : (Try.prog.info? 23).map (fun i => (i.zero, i.size, i.bytes)) = some (some (.slice none 0 0), 1, 24) := by kernel_rfl
theorem wpList_append_sl {w : World} {ops : Array Oper} {rest : List Oper} {o : Oper} {a : Act} {Q : Exit → Act → World → Prop} (hgd : o.guard = none) (s x : Operand)
    (ho : o.op = .call { callee := .builtin .append, args := #[s, x], argTypes := #[45, 45] })
    {B c : Nat} {v : Value} {l : List Sl} {g : Nat} {A : Option Addr} {n m : Nat} {ya : Array Value} (hya : ya = #[.slice A n m]) (hs : a.eval s = v) (hx : a.eval x = .slice (some ⟨g, 0, none⟩) 1 c) (hg : g = w.heap.size) (hf : SlRow w B v l) (hB : B ≤ w.heap.size) (hn : l.length + 1 ≤ 1099511627776)
    (h : ∀ v' w', SlRow w' B v' (l ++ [(A, n, m)]) → Below B w w' → (∀ k, k < w.heap.size → some k ≠ v.ownBlock → w'.heap[k]? = w.heap[k]?) → wpList Try.prog ops Q rest (a.put o.dst v') w') : wpList Try.prog ops Q (o :: rest) a (w.alloc (.cells ya 23)) :=
  wpList_append_k2 (P := Try.prog) Try.underlying45 sl_info rfl (by omega) slC_size hgd s x ho (A, n, m) hya hs hx hg hf hB (by subst hya; rfl) (by omega) (by omega) h
/-- Rows of different elements lie in different blocks. -/
theorem rows_apart {w : World} {B B' : Nat} {v u : Value} {S : List Sl} {l : List Rn} (h : SlRow w B v S) (h' : RnRow w B' u l) : ∀ k, u.ownBlock = some k → some k ≠ v.ownBlock := by
  intro k hk e
  obtain ⟨_, h2⟩ := h
  obtain ⟨_, h3⟩ := h'
  rcases h2 with ⟨rfl, _⟩ | ⟨g, cap, cur, rfl, _, hc, _⟩
  · exact absurd e (by intro x; cases x)
  · rcases h3 with ⟨rfl, _⟩ | ⟨g', cap', cur', rfl, _, hc', _⟩
    · cases hk
    · have e1 : g' = k := Option.some.inj hk
      have e2 : k = g := Option.some.inj e
      subst e1 e2
      rw [hc] at hc'
      have := Option.some.inj hc'
      injection this with a b
      exact absurd b (by decide)
theorem KRow.kept {α : Type} {enc : α → Array Value} {k : Nat} {T : TypeId} {w w' : World} {B : Nat} {x v : Value} {l : List α} (h : KRow enc k T w B x l) (hk : ∀ q, q < w.heap.size → some q ≠ v.ownBlock → w'.heap[q]? = w.heap[q]?) (hne : ∀ q, x.ownBlock = some q → some q ≠ v.ownBlock) : KRow enc k T w' B x l := by
  refine ⟨h.1, h.2.imp id fun ⟨g', cap, cur, e, h1, h2, h3⟩ => ⟨g', cap, cur, e, h1, ?_, h3⟩⟩
  have hlt : g' < w.heap.size := (Array.getElem?_eq_some_iff.1 h2).1
  rw [hk g' hlt (hne g' (by rw [e]; rfl))]
  exact h2

theorem elts_step {w5 w6 : World} {B : Nat} {v : Value} {S : List Sl} {R : List Rn} {j : Nat} (hS : S.length = j) (x : Sl) (hR5 : SlRow w5 B v S) (hE : ∀ q (h : q < S.length), RnRow w5 B (slV S[q]) (chn R q)) (hx : RnRow w5 B (slV x) (chn R j)) (hk : ∀ k, k < w5.heap.size → some k ≠ v.ownBlock → w6.heap[k]? = w5.heap[k]?) :
    ∀ q (h : q < (S ++ [x]).length), RnRow w6 B (slV (S ++ [x])[q]) (chn R q) := by
  intro q h
  rw [List.length_append, List.length_singleton] at h
  by_cases hq : q < S.length
  · rw [List.getElem_append_left hq]
    exact KRow.kept (hE q hq) hk (rows_apart hR5 (hE q hq))
  · have e : q = j := by omega
    subst e
    rw [List.getElem_append_right (by omega)]
    simp only [hS, Nat.sub_self, List.getElem_cons_zero]
    exact KRow.kept hx hk (rows_apart hR5 hx)

theorem built_facts {N : List ByteArray} {R : List Rn} (h : ckC N R = 0) (hR : R.length ≤ 2000) {w : World} {B : Nat} {v1 v2 : Value} {N1 : List ByteArray} {o1 : List Rn} (d : Bd w B N (chs R N.length) v1 v2 N1 o1) : N1 = N ∧ o1 = jn R := by
  obtain ⟨f1, f2, f3⟩ := chs_facts h hR
  obtain ⟨_, _, a, _, _⟩ := d
  obtain ⟨e1, e2⟩ := a f1
  rw [f3] at e2
  exact ⟨e1, Cb_unique e2 (Cb_chn (m := 0) (ckC_ok h).2.2.2.2.2)⟩
theorem heldN {w W W' : World} {b g p : Nat} {x0 x1 y : Value} (h : W.cell? ⟨b, 0, none⟩ = some x0 ∧ W.cell? ⟨b, 1, none⟩ = some x1 ∧ W.cell? ⟨g, p, none⟩ = some y ∧ Below w.heap.size w W ∧ b < W.heap.size ∧ g < W.heap.size) (hb : Below W.heap.size W W') : W'.cell? ⟨b, 0, none⟩ = some x0 ∧ W'.cell? ⟨b, 1, none⟩ = some x1 ∧ W'.cell? ⟨g, p, none⟩ = some y ∧ Below w.heap.size w W' ∧ b < W'.heap.size ∧ g < W'.heap.size := by
  obtain ⟨h0, h1, h2', h2, h3, h4⟩ := h
  have := hb.size
  exact ⟨(hb.cell (p := ⟨b, 0, none⟩) h3).trans h0, (hb.cell (p := ⟨b, 1, none⟩) h3).trans h1, (hb.cell (p := ⟨g, p, none⟩) h4).trans h2', h2.trans (hb.mono h2.size), by omega, by omega⟩

set_option maxRecDepth 100000 in
set_option maxHeartbeats 16000000 in
theorem law_builds (N : List ByteArray) (R : List Rn) (vN vR : Value) (w : World) (hN : NmArg w vN N) (hs : szs N) (hR : RnArg w vR R) :
    Calls Try.prog 7 #[.agg #[vN, vR]] w fun e w' => e = .returned (.bool true) ∧ Below w.heap.size w w' := by
  have HL := Lib.hid lives_any
  have HF := Lib.hid (fun w' (hb : Below w.heap.size w w') => few_any N R vN vR w' (hN.keep hb) (hR.keep hb))
  cases hf : fewB N R with
  | false =>
    rw [hf] at HF
    obtain ⟨A1, c1, rfl, q1⟩ := hN.form
    obtain ⟨A2, c2, rfl, q2⟩ := hR
    have B0 := Lib.hid (ba w (.cells #[.slice A1 N.length c1, .slice A2 R.length c2] 25))
    have P0 := Lib.hid (RowAt.new w 25 #[.slice A1 N.length c1, .slice A2 R.length c2])
    clear hf hN q1 q2 hs
    generalize N.length = n at *
    generalize R.length = r at *
    go_enter Try.func7, Try.ntmps7
    go_wp2_with (first
      | (go_at_call 10; go_must (refine (HL.out _).mono ?_; rintro e1 w1 ⟨rfl, b1⟩; have B1 := Lib.hid (B0.out.trans (b1.mono B0.out.size)); have P1 := P0.out.keep b1; have g0 := P1.cell 0; have g1 := P1.cell 1; clear P1 b1))
      | (go_at_call 11; go_must (refine (HF.out _ B1.out).mono ?_; rintro e2 w2 ⟨rfl, b2⟩; have B2 := Lib.hid (B1.out.trans (b2.mono B1.out.size)); clear b2)))
    go_returns
    exact ⟨rfl, B2.out⟩
  | true =>
  rw [hf] at HF
  obtain ⟨hn1, hn2⟩ := fewB_len hf
  have CK := Lib.hid (fun w' (hb : Below w.heap.size w w') => check_any N R vN vR w' (hN.keep hb) hs (hR.keep hb) (by omega))
  have QC := Lib.hid (fun s w' (hb : Below w.heap.size w w') => channel_any N R vN vR s w' (hN.keep hb) hs (hR.keep hb) (by omega))
  have QL := Lib.hid (fun w' (hb : Below w.heap.size w w') => longC_any N R vN vR w' (hN.keep hb) hs (hR.keep hb) (by omega))
  have QB := Lib.hid (fun vW w' (hb : Below w.heap.size w w') h h2 => build_any N (chs R N.length) vN vW w' (hN.keep hb) hs h h2)
  have QS := Lib.hid (fun J u1 u2 w' (hb : Below w.heap.size w w') h1 h2 h3 h4 h5 => capSame_any true N R N J vN vR u1 u2 w' (hN.keep hb) hs (hR.keep hb) h1 hs h2 (by omega) h3 (by omega) (by omega) h4 h5)
  have QM := Lib.hid (fun J u1 u2 w' h1 h2 h3 => longC_any N J u1 u2 w' h1 hs h2 h3)
  obtain ⟨A1, c1, rfl, _, q1⟩ := hN.form
  obtain ⟨A2, c2, rfl, q2⟩ := hR
  have HA := Lib.hid q1
  have B0 := Lib.hid (ba w (.cells #[.slice A1 N.length c1, .slice A2 R.length c2] 25))
  have P0 := Lib.hid (RowAt.new w 25 #[.slice A1 N.length c1, .slice A2 R.length c2])
  clear hf hN q1 q2 hs
  by_cases hz : ckC N R = 0
  case neg =>
    have hz' : (ckC N R != 0) = true := by simpa using hz
    have hz2 : ¬ ckC N R = 0 := hz
    clear QC QL QB QS QM HA hz
    generalize ckC N R = c at *
    generalize N.length = n at *
    generalize R.length = r at *
    go_enter Try.func7, Try.ntmps7
    go_wp2_with (first
      | (go_at_call 10; go_must (refine (HL.out _).mono ?_; rintro e1 w1 ⟨rfl, b1⟩; have B1 := Lib.hid (B0.out.trans (b1.mono B0.out.size)); have P1 := Lib.hid (P0.out.keep b1); have g0 := P1.out.cell 0; have g1 := P1.out.cell 1; clear b1))
      | (go_at_call 11; go_must (refine (HF.out _ B1.out).mono ?_; rintro e2 w2 ⟨rfl, b2⟩; have B2 := Lib.hid (B1.out.trans (b2.mono B1.out.size)); have P2 := Lib.hid (P1.out.keep b2); have g0 := P2.out.cell 0; have g1 := P2.out.cell 1; clear b2))
      | (go_at_call 14; go_must (refine (CK.out _ B2.out).mono ?_; rintro e3 w3 ⟨rfl, b3⟩; have B3 := Lib.hid (B2.out.trans (b3.mono B2.out.size)); clear b3)))
    go_returns
    exact ⟨rfl, B3.out⟩
  have HZ := Lib.hid hz
  have hl16 := (ckC_ok hz).2.2.2.1
  rw [hz] at CK
  clear hz
  go_enter Try.func7, Try.ntmps7
  go_wp2_with (first
    | (go_at_call 10; go_must (refine (HL.out _).mono ?_; rintro e1 w1 ⟨rfl, b1⟩; have B1 := Lib.hid (B0.out.trans (b1.mono B0.out.size)); have P1 := Lib.hid (P0.out.keep b1); have g0 := P1.out.cell 0; have g1 := P1.out.cell 1; clear b1))
    | (go_at_call 11; go_must (refine (HF.out _ B1.out).mono ?_; rintro e2 w2 ⟨rfl, b2⟩; have B2 := Lib.hid (B1.out.trans (b2.mono B1.out.size)); have P2 := Lib.hid (P1.out.keep b2); have g0 := P2.out.cell 0; have g1 := P2.out.cell 1; clear b2))
    | (go_at_call 14; go_must (refine (CK.out _ B2.out).mono ?_; rintro e3 w3 ⟨rfl, b3⟩; have B3 := Lib.hid (B2.out.trans (b3.mono B2.out.size)); have P3 := Lib.hid (P2.out.keep b3); clear b3))
    | fail)
  have hbox : w.heap.size < w3.heap.size := P3.out.lt
  go_loopw [4, 3] (fun i v wr => ∃ (j : Nat) (S : List Sl), j ≤ N.length ∧ i = .int .i64 j ∧ Hid (S.length = j) ∧ Hid (SlRow wr (w.heap.size + 1) v S) ∧ Hid (∀ q (h : q < S.length), RnRow wr (w.heap.size + 1) (slV S[q]) (chn R q)) ∧ Hid (Below (w.heap.size + 1) w3 wr) ∧ Hid (Below w.heap.size w wr)) (fun i _ _ => N.length - (intOf i).toNat)
  case atStart => exact ⟨0, [], Nat.zero_le _, rfl, Lib.hid rfl, Lib.hid (KRow.lit (T := 23) slC_size w3 _ (by omega) [] #[] rfl 0 rfl (by decide)), Lib.hid (fun q h => absurd h (by simp)), Lib.hid ((ba w3 _).mono (by omega)), Lib.hid (B3.out.trans ((ba w3 _).mono B3.out.size))⟩
  case round =>
    obtain ⟨j, S, hj, rfl, hS, HR, HE, HC, HB⟩ := hrel
    have hb := HB.out
    have PR := P3.out.below HC.out (Nat.lt_succ_self _)
    have q0 := PR.cell 0
    have q1 := PR.cell 1
    obtain ⟨UA, UN, UC, rfl, hUN⟩ := KRow.form HR.out
    clear hUN
    by_cases hjl : j < N.length
    · obtain ⟨g, o, rfl, hg, hcell⟩ := HA.out (by omega)
      have f0 := (hb.cell (p := ⟨g, o + j, none⟩) hg).trans (hcell j hjl)
      have QC2 := QC.out N[j]
      rw [chR_own HZ.out hjl] at QC2
      have QC3 := Lib.hid QC2
      clear QC2 hcell
      generalize N[j] = s at *
      go_wp2
      have S0 : (wr.drew).cell? ⟨w.heap.size, 0, none⟩ = some (.slice (some ⟨g, o, none⟩) N.length c1) ∧ (wr.drew).cell? ⟨w.heap.size, 1, none⟩ = some (.slice A2 R.length c2) ∧ (wr.drew).cell? ⟨g, o + j, none⟩ = some (.string s) ∧ Below w.heap.size w (wr.drew) ∧ w.heap.size < (wr.drew).heap.size ∧ g < (wr.drew).heap.size := ⟨q0, q1, f0, hb.drew, World.block_lt_of_cell? wr _ q0, World.block_lt_of_cell? wr _ f0⟩
      go_region_held3 (fun w' => w'.cell? ⟨w.heap.size, 0, none⟩ = some (.slice (some ⟨g, o, none⟩) N.length c1) ∧ w'.cell? ⟨w.heap.size, 1, none⟩ = some (.slice A2 R.length c2) ∧ w'.cell? ⟨g, o + j, none⟩ = some (.string s) ∧ Below w.heap.size w w' ∧ w.heap.size < w'.heap.size ∧ g < w'.heap.size) (first | assumption | go_keep)
        (first
          | (go_at_call 18; refine (QC3.out _ (And.left (And.right (And.right (And.right (by assumption)))))).mono ?_; rintro e5 w5 ⟨v5, rfl, r5, b5⟩; obtain ⟨X5, m5, d5, rfl, rfl⟩ := KRow.form r5; have h5 := heldN (by assumption) b5)
          | fail)
      have HR5 := Lib.hid ((KRow.drewN HR.out 1).keep b5)
      have hCs := HC.out.size
      have hds : wr.drew.heap.size = wr.heap.size := rfl
      have HE5 := Lib.hid (fun q (h : q < S.length) => (KRow.drewN (HE.out q h) 1).keep b5)
      have HX5 := Lib.hid (KRow.mono r5 (show w.heap.size + 1 ≤ _ by rw [hds]; omega))
      have HC5 := Lib.hid (HC.out.drew.trans (b5.mono (show w.heap.size + 1 ≤ _ by rw [hds]; omega)))
      have HB5 := Lib.hid h5.2.2.2.1
      have hsz5 : w.heap.size + 1 ≤ w5.heap.size := by have := HC5.out.size; omega
      clear h5 S0 HR HE HC HB hb PR q0 q1 f0 r5 b5 hCs hds
      go_wp2_with (first
        | (at_builtin; go_must (refine wpList_append_sl rfl _ _ rfl rfl rfl rfl rfl HR5.out hsz5 (by have := hS.out; omega) ?_; intro v6 w6 r6 b6 k6; have HE6 := Lib.hid (elts_step hS.out (X5, (chn R j).length, d5) HR5.out HE5.out HX5.out k6); have HR6 := Lib.hid r6; have HC6 := Lib.hid (HC5.out.trans b6); have HB6 := Lib.hid (HB5.out.trans (b6.mono (Nat.le_succ _))); clear r6 b6 k6))
        | fail)
      go_roundw
      case rel => exact ⟨j + 1, _, by omega, by go_num, Lib.hid (by rw [List.length_append, hS.out]; rfl), HR6, HE6, HC6, HB6⟩
      case measure => simp [intOf]; omega
    · have HW : WvArg wr (.slice UA UN UC) (chs R N.length) := ⟨S, KRow.arg slC_size HR.out, by rw [chs_len, hS.out]; omega, fun q h h' => by rw [chs_at]; exact KRow.arg rnC_size (HE.out q h')⟩
      obtain ⟨f1, f2, f3⟩ := chs_facts HZ.out hn2
      have QBx := QB.out _ wr hb HW (fun _ _ => f2)
      rw [f1] at QBx
      have HQB := Lib.hid QBx
      obtain ⟨k1, k2, k3⟩ := jn_facts HZ.out
      have hJR := jn_len R
      have hal := jn_al R
      have CL := Lib.hid (fun w' hb => QL.out w' hb)
      have CM := Lib.hid (fun u1 u2 w' h1 h2 => QM.out (jn R) u1 u2 w' h1 h2 (by omega))
      have CS := Lib.hid (fun u1 u2 w' hb h1 h2 => QS.out (jn R) u1 u2 w' hb h1 h2 (by omega) (by intro _; first | rfl | trivial) (fun h => absurd k2 h))
      rw [k3] at CM
      have HAL := Lib.hid hal
      have HB0 := Lib.hid hb
      clear QB QBx QL QM QS QC HW f1 f2 f3 k1 k2 k3 hal HE HR HC HA hS
      go_wp2_with (first
        | (go_at_call 26; go_must (refine HQB.out.mono ?_; rintro e5 w5 ⟨v1, v2, N1, o1, rfl, d5, b5⟩; obtain ⟨rfl, rfl⟩ := built_facts HZ.out hn2 d5; obtain ⟨X1, m1, d1, rfl, rfl⟩ := KRow.form d5.1; obtain ⟨X2, m2, d2, rfl, rfl⟩ := KRow.form d5.2.1; have bx := ba w5 (.cells #[.slice X1 N1.length d1, .slice X2 (jn R).length d2] 25); have NA := Lib.hid (d5.1.name.keep bx); have RA := Lib.hid ((KRow.arg rnC_size d5.2.1).keep bx); have B5 := Lib.hid ((HB0.out.trans (b5.mono HB0.out.size)).trans (bx.mono (Nat.le_trans HB0.out.size b5.size))); have PX := RowAt.new w5 25 #[.slice X1 N1.length d1, .slice X2 (jn R).length d2]; have PC := (PR.keep b5).keep bx; have x0 := PX.cell 0; have x1 := PX.cell 1; have y0 := PC.cell 0; have y1 := PC.cell 1; clear PX PC b5 d5 bx))
        | fail)
      generalize w5.alloc (.cells #[.slice X1 N1.length d1, .slice X2 (jn R).length d2] 25) = wx at *
      generalize jn R = J at *
      generalize lgC N1 R = l at *
      have ql : (l == l) = true := by simp
      have S0 : (wx.drew).cell? ⟨w.heap.size, 0, none⟩ = some (.slice A1 N1.length c1) ∧ (wx.drew).cell? ⟨w.heap.size, 1, none⟩ = some (.slice A2 R.length c2) ∧ (wx.drew).cell? ⟨w5.heap.size, 0, none⟩ = some (.slice X1 N1.length d1) ∧ (wx.drew).cell? ⟨w5.heap.size, 1, none⟩ = some (.slice X2 J.length d2) ∧ Below wx.heap.size wx (wx.drew) ∧ w.heap.size < (wx.drew).heap.size ∧ w5.heap.size < (wx.drew).heap.size := ⟨y0, y1, x0, x1, (Below.refl _ _).drew, World.block_lt_of_cell? wx _ y0, World.block_lt_of_cell? wx _ x0⟩
      go_region_held3 (fun w' => w'.cell? ⟨w.heap.size, 0, none⟩ = some (.slice A1 N1.length c1) ∧ w'.cell? ⟨w.heap.size, 1, none⟩ = some (.slice A2 R.length c2) ∧ w'.cell? ⟨w5.heap.size, 0, none⟩ = some (.slice X1 N1.length d1) ∧ w'.cell? ⟨w5.heap.size, 1, none⟩ = some (.slice X2 J.length d2) ∧ Below wx.heap.size wx w' ∧ w.heap.size < w'.heap.size ∧ w5.heap.size < w'.heap.size) (first | assumption | go_keep)
        (first
          | (go_at_call 28; have hh := (by assumption : _ ∧ _ ∧ _ ∧ _ ∧ Below wx.heap.size wx _ ∧ _ ∧ _).2.2.2.2.1; refine (CS.out _ _ _ (B5.out.trans (hh.mono B5.out.size)) (NA.out.keep hh) (RA.out.keep hh)).mono ?_; rintro e6 w6 ⟨rfl, b6⟩; have h6 := heldF (by assumption) b6)
          | (go_at_call 16; first
              | (have hh := (by assumption : _ ∧ _ ∧ _ ∧ _ ∧ Below wx.heap.size wx _ ∧ _ ∧ _).2.2.2.2.1; (with_reducible refine (CM.out _ _ _ (NA.out.keep hh) (RA.out.keep hh)).mono ?_); rintro e7 w7 ⟨rfl, b7⟩; have h7 := heldF (by assumption) b7)
              | (have hh := (by assumption : _ ∧ _ ∧ _ ∧ _ ∧ Below wx.heap.size wx _ ∧ _ ∧ _).2.2.2.2.1; (with_reducible refine (CL.out _ (B5.out.trans (hh.mono B5.out.size))).mono ?_); rintro e8 w8 ⟨rfl, b8⟩; have h8 := heldF (by assumption) b8))
          | fail)
      obtain ⟨y0, y1, x0, x1, hw8, _, _⟩ := h8
      have RA8 := Lib.hid (RA.out.keep hw8)
      have BZ := Lib.hid (B5.out.trans (hw8.mono B5.out.size))
      have hJR' : (J.length : Int) ≤ R.length := by omega
      have hJ2 : (J.length : Int) ≤ 2000 := by omega
      clear S0 h6 h7 hw8 b6 b7 b8 CS CM CL RA NA
      go_wp2
      go_loopw [9] (fun x wr => ∃ (q m : Nat), (q + 1 ≤ J.length ∨ q = 0) ∧ x = .int .i64 ((q : Int) + 1) ∧ wr = w8.drewN m) (fun x _ => J.length - (intOf x).toNat)
      case atStart => exact ⟨0, 0, Or.inr rfl, rfl, rfl⟩
      case round =>
        rename_i hrel
        obtain ⟨q, m, hq, rfl, rfl⟩ := hrel
        by_cases hlt : q + 1 < J.length
        · obtain ⟨_, _, e1, q1⟩ := RA8.out
          obtain ⟨g', o', rfl, hg', hc⟩ := q1 (by omega)
          simp only [Value.slice.injEq, true_and, and_true] at e1
          obtain ⟨rfl, rfl⟩ := e1
          obtain ⟨a0, a1⟩ := arg_two hc (q + 1) hlt
          obtain ⟨a2, a3⟩ := arg_two hc q (by omega)
          have hne : (J[q + 1].1 == J[q].1) = false := by have := HAL.out q hlt; simpa using fun e => this e.symm
          have hi1 : (q : Int) + 1 < J.length := by omega
          have hi2 : (q : Int) < J.length := by omega
          have v1 : IntKind.i64.wrap (q : Int) = q := IntWalk.i64_in _ (by omega)
          clear hc q1
          generalize J[q + 1].1 = z0 at *
          generalize J[q].1 = z2 at *
          generalize J[q + 1].2 = z1 at *
          generalize J[q].2 = z3 at *
          go_wp2
          go_quiet (fail)
          go_wp2
          go_roundw
          case rel => exact ⟨q + 1, m + nq, Or.inl (by omega), by first | rfl | exact val_int (by omega), rfl⟩
          case measure => simp [intOf]; omega
        · have hi3 : ¬ (q : Int) + 1 < J.length := by omega
          go_wp2
          go_returns
          exact ⟨by simp [hJR'], Go.below_drewN BZ.out _⟩

end Go.Proofs.Ytmfceiioigmnlaa
