/-
  The walk of the program's Tokens.
-/
import Derived.Test.YtpeiiomimfiebaaDoorW9
namespace Go.Proofs.YtpeiiomimfiebaaDoor
open Go.RowKit
set_option linter.unusedVariables false
set_option linter.unusedSimpArgs false

theorem count_nl (l : List UInt8) : Lib.countByte l 10 = nl l := by
  unfold Lib.countByte
  induction l with
  | nil => rfl
  | cons c r ih =>
    rw [List.count_cons, ih]
    simp only [nl]
    by_cases h : c.toNat = 10
    · have hc : c = 10 := UInt8.toNat_inj.1 h
      subst hc
      rw [if_pos (by decide), if_pos (by decide)]
    · have hc : (c == 10) = false := by rw [beq_eq_false_iff_ne]; intro e; exact h (by rw [e]; rfl)
      rw [if_neg h, hc]; rfl
theorem count_any (s : ByteArray) (w : World) : Calls Tryd.prog 20 #[.string s, .string ⟨#[10]⟩] w fun e w' => e = .returned (.int .i64 (nl s.data.toList : Nat)) ∧ w = w' :=
  (Tryd.strings_Count_one s 10 w).mono fun e w' h => ⟨by rw [h.1, count_nl], h.2.symm⟩
theorem ext_zero (s : ByteArray) (a : Nat) : (s.extract 0 a).data.toList = s.data.toList.take a := by
  rw [ext_list, List.drop_zero, Nat.sub_zero]
theorem ext_zero_size (s : ByteArray) (a : Nat) (h : a ≤ s.size) : (s.extract 0 a).size = a := by
  rw [size_len, ext_zero, List.length_take, ← size_len]; omega

/-- What is left of the answer, and what lies ready. -/
def rest (A : List Tok × Option (Nat × Nat)) (ts : List Tok) (l : List UInt8) (n : Nat) : Prop := A = (ts ++ (lx false l n).1, (lx false l n).2)
/-- Behind the gap. -/
def rest2 (A : List Tok × Option (Nat × Nat)) (ts : List Tok) (l : List UInt8) (n : Nat) : Prop := A = (ts ++ (lxS (lx false) l n).1, (lxS (lx false) l n).2)
theorem rest_gap {A : List Tok × Option (Nat × Nat)} {ts : List Tok} {l : List UInt8} {n : Nat} (h : rest A ts l n) : rest2 A ts (l.drop (gp false l)) (n + nl (l.take (gp false l))) := by
  unfold rest at h; rw [lx_eq] at h; exact h
theorem rest2_end {A : List Tok × Option (Nat × Nat)} {ts : List Tok} {n : Nat} (h : rest2 A ts [] n) : A = (ts, none) := by
  unfold rest2 lxS at h; simpa using h
theorem rest2_err {A : List Tok × Option (Nat × Nat)} {ts : List Tok} {l : List UInt8} {n : Nat} (h : rest2 A ts l n) (hl : l ≠ []) (h0 : (tkR l).2 ≠ 0) : A = (ts, some (n, (tkR l).2)) := by
  unfold rest2 at h; rw [lxS_err hl h0] at h; simpa using h
theorem rest2_ok {A : List Tok × Option (Nat × Nat)} {ts : List Tok} {l : List UInt8} {n : Nat} (h : rest2 A ts l n) (hl : l ≠ []) (h0 : (tkR l).2 = 0) : rest A (ts ++ [⟨(tkR l).1.k, (tkR l).1.t, (tkR l).1.v, n⟩]) (l.drop (tl l)) n := by
  unfold rest2 at h; rw [lxS_ok hl h0] at h; unfold rest; rw [h]; simp
/-- What Tokens answers, over the row of its tokens. -/
def anV (V : Value) (a : List Tok × Nat × Nat) : Value := .tuple #[V, .int .i64 (a.2.1 : Nat), .int .i64 (a.2.2 : Nat)]
theorem toV_tk (l : List UInt8) : ∃ (k v : Int) (t : List UInt8) (e : Nat), toV l = .tuple #[.agg #[.int .i64 k, .string ⟨t.toArray⟩, .int .i64 v, .int .i64 0], .int .i64 e] ∧ (tokO l).1 = ⟨k, t, v, 0⟩ ∧ (tokO l).2 = e ∧ e ≤ 4 := by
  have hn : (tokO l).1.n = 0 ∧ (tokO l).2 ≤ 4 := by
    have hE : numE l ≤ 4 := by unfold numE; split; exact Nat.le_refl _; (repeat' split) <;> omega
    unfold tokO
    split
    · exact ⟨rfl, by omega⟩
    · (repeat' split) <;> exact ⟨rfl, by first | omega | exact hE⟩
  refine ⟨(tokO l).1.k, (tokO l).1.v, (tokO l).1.t, (tokO l).2, ?_, ?_, rfl, hn.2⟩
  · unfold toV tkV tkC; rw [hn.1]
  · cases hh : (tokO l).1 with
    | mk k t v n => rw [hh] at hn; simp only at hn ⊢; rw [hn.1]
def TK0 : Array Value := #[.int .i64 0, .string ⟨#[]⟩, .int .i64 0, .int .i64 0]

set_option maxRecDepth 20000 in
set_option maxHeartbeats 4000000 in
theorem tokens_any (s : ByteArray) (w : World) (hs : s.size ≤ 140737488351232) :
    Calls Tryd.prog 7 #[.string s] w fun e w' => ∃ V, e = .returned (anV V (ans s.data.toList)) ∧ TRow w' w.heap.size V (ans s.data.toList).1 ∧ Below w.heap.size w w' := by
  have hs' : (s.size : Int) ≤ 140737488351232 := by omega
  by_cases hbig : 1048576 < s.size
  · rw [ans_limit (by rw [← size_len]; exact hbig)]
    have hbig' : (1048576 : Int) < s.size := by omega
    clear hbig
    go_enter Tryd.func7, Tryd.ntmps7
    go_wp2
    go_returns
    exact ⟨_, rfl, TRow.nil _ _, Below.refl _ _⟩
  have hL : s.data.toList.length ≤ 1048576 := by rw [← size_len]; omega
  have hb' : (s.size : Int) ≤ 1048576 := by omega
  have HOK := Lib.hid (fun ts h => @ans_ok s.data.toList ts hL h); have HER := Lib.hid (fun ts m e h => @ans_err s.data.toList ts m e hL h)
  generalize ans s.data.toList = R at *
  generalize hA : lx false s.data.toList 1 = A at *
  have HS := Lib.hid (show rest A [] s.data.toList 1 from by unfold rest; rw [hA]; rfl)
  clear hA hbig hL
  go_enter Tryd.func7, Tryd.ntmps7
  go_wp2
  go_loopw [0, 5, 6] (fun x v n wr => ∃ (y : ByteArray) (ts : List Tok) (V : Value) (m : Nat), x = .string y ∧ v = V ∧ n = .int .i64 m ∧ TRow wr w.heap.size V ts ∧ Below w.heap.size w wr ∧ m + y.size ≤ s.size + 1 ∧ ts.length + y.size ≤ s.size ∧ Hid (rest A ts y.data.toList m)) (fun x _ _ _ => strSz x)
  case atStart => exact ⟨s, [], _, 1, rfl, rfl, rfl, TRow.nil _ _, Below.refl _ _, by omega, by simp, HS⟩
  case round =>
    obtain ⟨y, ts, V, m, rfl, rfl, rfl, hr, hw, hm, ht, HR⟩ := hrel
    have C1 := fun w => gapLength_any y w (by omega)
    have hg := gp_le y.data.toList false
    rw [← size_len] at hg
    have HG := Lib.hid (rest_gap HR.out)
    have hc := nl_le (y.data.toList.take (gp false y.data.toList))
    rw [List.length_take] at hc
    have e1 := ext_zero y (gp false y.data.toList)
    have e2 := ext_end y (gp false y.data.toList)
    have e3 := ext_len y (gp false y.data.toList)
    generalize gp false y.data.toList = g at *
    generalize hY0 : y.extract 0 g = Y0 at *
    generalize hY1 : y.extract g y.size = Y1 at *
    have C2 := fun w => count_any Y0 w
    rw [e1] at C2
    generalize nl (y.data.toList.take g) = c at *
    rw [← e2] at HG
    have H1 := Lib.hid C1; have H2 := Lib.hid C2
    clear C1 C2 e1 e2 HR HS
    obtain ⟨VA, VN, VC, rfl, hVN⟩ := hr.form
    subst hVN
    by_cases h0 : Y1.size = 0
    · have he := toList_empty h0
      have HF := Lib.hid (HOK.out _ (rest2_end (by have := HG.out; rw [empty_toList h0] at this; exact this)))
      clear h0
      go_wp2_with (first
        | (go_at_call 19; go_must (refine (H1.out _).mono ?_; rintro e w1 ⟨rfl, b1⟩))
        | (go_at_call 20; go_must (refine (H2.out _).mono ?_; rintro e w2 ⟨rfl, rfl⟩)))
      go_returns
      exact ⟨_, by rw [HF.out]; rfl, by rw [HF.out]; exact hr.keep b1, hw.trans (b1.mono hw.size)⟩
    have hp1 : 0 < Y1.size := by omega
    have he := toList_some hp1
    have C3 := fun w => tokenLength_any Y1 w (by omega) hp1
    have hj1 : 1 ≤ tl Y1.data.toList := by rw [cons_of hp1]; exact tl_pos _ _
    have hj2 := tl_le Y1.data.toList
    rw [← size_len] at hj2
    have e4 := ext_zero Y1 (tl Y1.data.toList)
    have e5 := ext_end Y1 (tl Y1.data.toList)
    have e6 := ext_len Y1 (tl Y1.data.toList)
    have e7 := ext_zero_size Y1 (tl Y1.data.toList) hj2
    have hne : Y1.data.toList ≠ [] := by rw [cons_of hp1]; simp
    have HGE := Lib.hid (fun h => rest2_err HG.out hne h)
    have HGO := Lib.hid (fun h => rest2_ok HG.out hne h)
    unfold tkR at HGE HGO
    rw [← e4] at HGE HGO
    rw [← e5] at HGO
    generalize tl Y1.data.toList = j at *
    generalize hT : Y1.extract 0 j = T at *
    generalize hY2 : Y1.extract j Y1.size = Y2 at *
    have C4 := fun w => token_any T w (by omega) (by omega)
    obtain ⟨tk, tv, tt, te, q1, q2, q3, q4⟩ := toV_tk T.data.toList
    rw [q1] at C4
    rw [q2, q3] at HGO
    rw [q3] at HGE
    have HY := Lib.hid (show (#[.int .i64 tk, .string ⟨tt.toArray⟩, .int .i64 tv, .int .i64 ((m : Int) + c)] : Array Value) = tkC ⟨tk, tt, tv, ((m + c : Nat) : Int)⟩ from by unfold tkC; simp only; rw [Int.natCast_add])
    have H3 := Lib.hid C3; have H4 := Lib.hid C4
    clear C3 C4 e4 e5 q1 q2 q3 HG hne
    by_cases hte : te = 0
    · have HX := Lib.hid (HGO.out hte)
      subst hte
      clear HGE HGO
      go_wp2_with (first
        | (go_at_call 19; go_must (refine (H1.out _).mono ?_; rintro e w1 ⟨rfl, b1⟩; have r1 := hr.keep b1; have hw1 := hw.trans (b1.mono hw.size)))
        | (go_at_call 20; go_must (refine (H2.out _).mono ?_; rintro e w2 ⟨rfl, rfl⟩))
        | (go_at_call 21; go_must (refine (H3.out _).mono ?_; rintro e w2 ⟨rfl, b2⟩; have r2 := r1.keep b2; have hw2 := hw1.trans (b2.mono hw1.size)))
        | (go_at_call 22; go_must (refine (H4.out _).mono ?_; rintro e w3 ⟨rfl, b3⟩; have r3 := r2.keep b3; have hw3 := hw2.trans (b3.mono hw2.size)))
        | (refine wpList_store_at (RowAt.new w3 30 #[.int .i64 0, .string ⟨#[]⟩, .int .i64 0, .int .i64 0]) (Nat.le_refl _) #[.int .i64 tk, .string ⟨tt.toArray⟩, .int .i64 tv, .int .i64 0] (.tmp 9) (.tmp 35) 30 rfl rfl rfl rfl (by kernel_rfl) rfl rfl ?_; intro w4 R4 b4; have f3 : w4.cell? ⟨w3.heap.size, 3, none⟩ = some (.int .i64 0) := R4.cell 3; have z3 : w4.frozen? ⟨w3.heap.size, 3, none⟩ = false := R4.frozen 3; have R5 := R4.set 3 (.int .i64 ((m : Int) + c)); have g0 := R5.cell 0; have g1 := R5.cell 1; have g2 := R5.cell 2; have g3 := R5.cell 3; simp at g0 g1 g2 g3; have lw4 : w3.heap.size ≤ w4.heap.size := Nat.le_trans (le_alloc (Nat.le_refl _) _) b4.size; have b5 : Below w3.heap.size w4 (w4.setCell ⟨w3.heap.size, 3, none⟩ (.int .i64 ((m : Int) + c))) := (Below.refl _ _).setCell (p := ⟨w3.heap.size, 3, none⟩) (Nat.le_refl _) _; have b35 := ((ba w3 (.cells #[.int .i64 0, .string ⟨#[]⟩, .int .i64 0, .int .i64 0] 30)).trans b4).trans b5; have r5 := r3.keep b35; have hs5 := Lib.hid (show w4.heap.size = (w4.setCell ⟨w3.heap.size, 3, none⟩ (.int .i64 ((m : Int) + c))).heap.size from (World.size_setCell _ _ _).symm); have hw5 := hw3.trans (b35.mono hw3.size))
        | (refine wpList_append_tok rfl _ _ rfl ⟨tk, tt, tv, ((m + c : Nat) : Int)⟩ HY.out rfl rfl hs5.out r5 hw5.size (by omega) ?_; intro V6 w6 r6 b6; have hw6 := hw5.trans b6))
      go_roundw
      case rel => exact ⟨Y2, ts ++ [⟨tk, tt, tv, ((m + c : Nat) : Int)⟩], V6, m + c, by rw [← hY2, e3], rfl, val_int (by omega), r6, hw6, by omega, by simp only [List.length_append, List.length_cons, List.length_nil]; omega, HX⟩
      case measure => simp only [strSz]; first | omega | (rw [← e3, hY2]; omega)
    · have HF := Lib.hid (HER.out _ _ _ (HGE.out hte))
      have hte' : ((te : Int) != 0) = true := by rw [bne_iff_ne]; omega
      have hte2 : ((te : Int) == 0) = false := by rw [Bool.eq_false_iff]; simp; omega
      clear HGE HGO HY hte
      go_wp2_with (first
        | (go_at_call 19; go_must (refine (H1.out _).mono ?_; rintro e w1 ⟨rfl, b1⟩; have r1 := hr.keep b1; have hw1 := hw.trans (b1.mono hw.size)))
          | (go_at_call 20; go_must (refine (H2.out _).mono ?_; rintro e w2 ⟨rfl, rfl⟩))
          | (go_at_call 21; go_must (refine (H3.out _).mono ?_; rintro e w2 ⟨rfl, b2⟩; have r2 := r1.keep b2; have hw2 := hw1.trans (b2.mono hw1.size)))
          | (go_at_call 22; go_must (refine (H4.out _).mono ?_; rintro e w3 ⟨rfl, b3⟩; have r3 := r2.keep b3; have hw3 := hw2.trans (b3.mono hw2.size)))
          | (refine wpList_store_at (RowAt.new w3 30 #[.int .i64 0, .string ⟨#[]⟩, .int .i64 0, .int .i64 0]) (Nat.le_refl _) #[.int .i64 tk, .string ⟨tt.toArray⟩, .int .i64 tv, .int .i64 0] (.tmp 9) (.tmp 35) 30 rfl rfl rfl rfl (by kernel_rfl) rfl rfl ?_; intro w4 R4 b4; have hw4 := hw3.trans ((((ba w3 _).trans b4)).mono hw3.size)))
      go_returns
      exact ⟨_, by rw [HF.out]; rfl, by rw [HF.out]; exact TRow.nil _ _, hw4⟩

end Go.Proofs.YtpeiiomimfiebaaDoor
