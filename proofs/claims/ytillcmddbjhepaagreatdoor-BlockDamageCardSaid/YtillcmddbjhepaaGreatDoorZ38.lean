/-
  divided.
-/
import Derived.RangeFuncNested
import Derived.Test.YtillcmddbjhepaaGreatDoorZ16
import Derived.Test.YtillcmddbjhepaaGreatDoorZ23
import Derived.Test.YtillcmddbjhepaaGreatDoorZ09
import Derived.Test.YtillcmddbjhepaaGreatDoorZ13
import Derived.Deep.RegionHeld3
import Derived.Test.YtillcmddbjhepaaGreatDoorZ17
import Derived.RegionIn
import Derived.Shelf.RegionOpen
namespace Go.Proofs.YtillcmddbjhepaaGreatDoor
open Go Go.RowKit Go.Shelf
open Si (Rn RnArg lg)
set_option linter.unusedVariables false
set_option linter.unusedSimpArgs false

attribute [local go_sem] Oper.semAt_some

theorem krow_grown {α : Type} {enc : α → Array Value} {k : Nat} {T : TypeId} {A A' : World} {B : Nat} {v : Value} {l : List α} {row : Option Nat} (h : KRow enc k T A B v l) (hg : A.grownBy A' row) (hr : ∀ r, row = some r → ∃ o : Obj, A.heap[r]? = some o ∧ o.isCells = false) : KRow enc k T A' B v l := by
  refine ⟨h.1, h.2.imp id fun ⟨g, cap, cur, e, h1, h2, h3⟩ => ⟨g, cap, cur, e, h1, ?_, h3⟩⟩
  rw [hg.block g (Array.getElem?_eq_some_iff.1 h2).1 ?_]; exact h2
  intro e
  obtain ⟨o, ho, hc⟩ := hr g e.symm
  rw [h2] at ho
  cases ho
  cases hc
theorem boxed_grown {A A' : World} {b : Nat} {T : TypeId} {v : Value} {row : Option Nat} (h : Boxed A b T v) (hg : A.grownBy A' row) (hr : ∀ r, row = some r → ∃ o : Obj, A.heap[r]? = some o ∧ o.isCells = false) : Boxed A' b T v :=
  h.kept hg (fun e => by obtain ⟨o, ho, hc⟩ := hr b e.symm; rw [show A.heap[b]? = _ from h] at ho; cases ho; cases hc)

theorem own_other {w w' : World} {B g n c : Nat} {l : List UInt8} (h : Sb.Own w B g n c l) (hk : w'.heap[g]? = w.heap[g]?) : Sb.Own w' B g n c l := by
  refine ⟨h.1, h.2.imp id fun ⟨g', cap, cur, e, h1, h2, h3⟩ => ⟨g', cap, cur, e, h1, ?_, h3⟩⟩
  have e1 : g = g' := by simpa [Value.ownBlock] using congrArg Value.ownBlock e
  subst e1
  rw [hk]; exact h2

/-- A slice of bytes in another world, of which only a block of other cells has changed. -/
theorem rd_to {w w' : World} {A : Option Addr} {l : List UInt8} {b0 : Nat} {T : TypeId} {cs : Array Value} (h : Sb.Rd w w.heap.size A l) (hr : RowAt w b0 T cs) (hcs : ∀ (j : Nat) (y : Int), cs[j]? ≠ some (.int .u8 y)) (hk : ∀ q, q ≠ b0 → q < w.heap.size → w'.heap[q]? = w.heap[q]?) (hs : w.heap.size ≤ w'.heap.size) : Sb.Rd w' w'.heap.size A l := fun h0 => by
  obtain ⟨b, o, e, hlt, hc⟩ := h h0
  have hne : b ≠ b0 := by
    rintro rfl
    have h1 := hc 0 h0
    rw [hr.cell] at h1
    exact hcs _ _ h1
  exact ⟨b, o, e, Nat.lt_of_lt_of_le hlt hs, fun j hj => (World.cell?_of_block (hk b hne hlt)).trans (hc j hj)⟩
theorem no_u8 (T0 z a b c : Int) (s : ByteArray) (j : Nat) (y : Int) : (#[.int .i64 T0, .int .i64 a, .int .i64 z, .int .i64 b, .int .i64 c, .string s] : Array Value)[j]? ≠ some (.int .u8 y) := by
  rcases j with _ | _ | _ | _ | _ | _ | j <;> simp

/-- The four stores into a block's box: what they find, and what stands behind them. -/
theorem p14 {w8 : World} {Bp : Nat} {T0 z : Int} (h : RowAt w8 Bp 63 #[.int .i64 T0, .int .i64 0, .int .i64 z, .int .i64 0, .int .i64 0, .string ⟨#[]⟩]) (D n K : Int) :
    (w8.cell? ⟨Bp, 1, none⟩ = some (.int .i64 0) ∧ w8.frozen? ⟨Bp, 1, none⟩ = false) ∧
    ((w8.setCell ⟨Bp, 1, none⟩ (.int .i64 D)).cell? ⟨Bp, 3, none⟩ = some (.int .i64 0) ∧ (w8.setCell ⟨Bp, 1, none⟩ (.int .i64 D)).frozen? ⟨Bp, 3, none⟩ = false) ∧
    (((w8.setCell ⟨Bp, 1, none⟩ (.int .i64 D)).setCell ⟨Bp, 3, none⟩ (.int .i64 n)).cell? ⟨Bp, 4, none⟩ = some (.int .i64 0) ∧ ((w8.setCell ⟨Bp, 1, none⟩ (.int .i64 D)).setCell ⟨Bp, 3, none⟩ (.int .i64 n)).frozen? ⟨Bp, 4, none⟩ = false) ∧
    ((((w8.setCell ⟨Bp, 1, none⟩ (.int .i64 D)).setCell ⟨Bp, 3, none⟩ (.int .i64 n)).setCell ⟨Bp, 4, none⟩ (.int .i64 K)).cell? ⟨Bp, 5, none⟩ = some (.string ⟨#[]⟩) ∧ (((w8.setCell ⟨Bp, 1, none⟩ (.int .i64 D)).setCell ⟨Bp, 3, none⟩ (.int .i64 n)).setCell ⟨Bp, 4, none⟩ (.int .i64 K)).frozen? ⟨Bp, 5, none⟩ = false) := by
  have h9 := h.set 1 (.int .i64 D)
  have h10 := h9.set 3 (.int .i64 n)
  have h11 := h10.set 4 (.int .i64 K)
  exact ⟨⟨h.cell 1, h.frozen 1⟩, ⟨h9.cell 3, h9.frozen 3⟩, ⟨h10.cell 4, h10.frozen 4⟩, ⟨h11.cell 5, h11.frozen 5⟩⟩
theorem p14_row {w8 : World} {Bp : Nat} {T0 z : Int} (h : RowAt w8 Bp 63 #[.int .i64 T0, .int .i64 0, .int .i64 z, .int .i64 0, .int .i64 0, .string ⟨#[]⟩]) (D n K : Int) (s : ByteArray) :
    RowAt ((((w8.setCell ⟨Bp, 1, none⟩ (.int .i64 D)).setCell ⟨Bp, 3, none⟩ (.int .i64 n)).setCell ⟨Bp, 4, none⟩ (.int .i64 K)).setCell ⟨Bp, 5, none⟩ (.string s)) Bp 63 #[.int .i64 T0, .int .i64 D, .int .i64 z, .int .i64 n, .int .i64 K, .string s] :=
  (((h.set 1 (.int .i64 D)).set 3 (.int .i64 n)).set 4 (.int .i64 K)).set 5 (.string s)
theorem p14_heap (w8 : World) (Bp : Nat) (D n K : Int) (q : Nat) (hq : q ≠ Bp) :
    (w8.setCell ⟨Bp, 1, none⟩ (.int .i64 D)).heap[q]? = w8.heap[q]? ∧ ((w8.setCell ⟨Bp, 1, none⟩ (.int .i64 D)).setCell ⟨Bp, 3, none⟩ (.int .i64 n)).heap[q]? = w8.heap[q]? ∧
    (((w8.setCell ⟨Bp, 1, none⟩ (.int .i64 D)).setCell ⟨Bp, 3, none⟩ (.int .i64 n)).setCell ⟨Bp, 4, none⟩ (.int .i64 K)).heap[q]? = w8.heap[q]? := by
  have e : ∀ (X : World) (i : Nat) (y : Value), (X.setCell ⟨Bp, i, none⟩ y).heap[q]? = X.heap[q]? := fun X i y => heap_setCell_other _ _ _ _ (fun h => hq h)
  refine ⟨e _ _ _, ?_, ?_⟩
  · rw [e, e]
  · rw [e, e, e]

theorem p14_all (w8 : World) (Bp : Nat) (D n K : Int) (s : ByteArray) (q : Nat) (hq : q ≠ Bp) : ((((w8.setCell ⟨Bp, 1, none⟩ (.int .i64 D)).setCell ⟨Bp, 3, none⟩ (.int .i64 n)).setCell ⟨Bp, 4, none⟩ (.int .i64 K)).setCell ⟨Bp, 5, none⟩ (.string s)).heap[q]? = w8.heap[q]? :=
  (heap_setCell_other _ _ _ _ (fun h => hq h)).trans (p14_heap w8 Bp D n K q hq).2.2

theorem krow_to {α : Type} {enc : α → Array Value} {k : Nat} {T : TypeId} {W W' : World} {B : Nat} {v : Value} {l : List α} (h : KRow enc k T W B v l) (hk : ∀ q, v.ownBlock = some q → q < W.heap.size → W'.heap[q]? = W.heap[q]?) : KRow enc k T W' B v l := by
  refine ⟨h.1, h.2.imp id fun ⟨g, cap, cur, e, h1, h2, h3⟩ => ⟨g, cap, cur, e, h1, ?_, h3⟩⟩
  rw [hk g (by rw [e]; rfl) (Array.getElem?_eq_some_iff.1 h2).1]; exact h2
theorem box_keep {W4 w1 : World} {n0 b b0 : Nat} {t e : TypeId} {size k : Nat} {u v v' : Value} {xs : List Value} {tmp : Obj} (hb : Boxed W4 b t u) (hte : t ≠ e) (hrow : W4.ownsRow n0 e size v k xs) (hgrow : (W4.alloc tmp).grownBy w1 v.ownBlock) (hne : b ≠ b0) : Boxed (w1.setCell ⟨b0, 0, none⟩ v') b t u :=
  ((hb.alloc tmp).kept hgrow (hb.not_row hte hrow)).other hne v'
theorem six_cells (W4 : World) (T : TypeId) (a b c d e f : Value) : ∀ (j : Nat) (u : Value), [a, b, c, d, e, f][j]? = some u → (W4.alloc (.cells #[a, b, c, d, e, f] T)).cell? ((⟨W4.heap.size, 0, none⟩ : Addr).add j) = some u := fun j u hj => by
  rw [Addr.add_lit, Nat.zero_add, (RowAt.new W4 T #[a, b, c, d, e, f]).cell j]
  simpa using hj

/-- What holds between two rounds. -/
def dvI (L : List Rn) (w : World) (sl : Value) (pre : List (Fin (bkN L.length))) (W : World) : Prop :=
  (∃ v, Boxed W w.heap.size 58 v ∧ PtRow W w.heap.size v (foP L pre).2) ∧ Boxed W (w.heap.size + 1) 3 (.int .i64 ((foP L pre).1 : Nat)) ∧ Boxed W (w.heap.size + 1 + 1) 23 sl ∧ Boxed W (w.heap.size + 1 + 1 + 1) 3 (.int .i64 16) ∧ Below w.heap.size w W
theorem dvI_own (L : List Rn) (w : World) (sl : Value) (B : Nat) (hB : w.heap.size ≤ B) : OwnFrom B (dvI L w sl) := fun s A A' row hs hg hr => by
  obtain ⟨⟨v, h1, h2⟩, h3, h4, h5, h6⟩ := hs
  have hr' := fun r e => (hr r e).2
  exact ⟨⟨v, boxed_grown h1 hg hr', krow_grown h2 hg hr'⟩, boxed_grown h3 hg hr', boxed_grown h4 hg hr', boxed_grown h5 hg hr', h6.grown hg h6.size (fun k e => Nat.le_trans hB (hr k e).1)⟩
theorem keeps_of {L : List Rn} {w : World} {sl : Value} {pre pre' : List (Fin (bkN L.length))} {W W' : World} (h : dvI L w sl pre W) (h' : dvI L w sl pre' W') : KpC (w.heap.size + 1 + 1) (w.heap.size + 1 + 1 + 1) W W' := by
  obtain ⟨_, _, h4, h5, _⟩ := h
  obtain ⟨_, _, k4, k5, _⟩ := h'
  exact ⟨(show W'.heap[_]? = _ from k4).trans (show W.heap[_]? = _ from h4).symm, (show W'.heap[_]? = _ from k5).trans (show W.heap[_]? = _ from h5).symm⟩

set_option maxRecDepth 100000 in
set_option maxHeartbeats 8000000 in
theorem divided_any (m : Int) (L : List Rn) (V : Value) (w : World) (hE : Sd.Env w) (hR : RnArg w V L) (hc : Si.CapOk V) (hL : L.length ≤ 262144) (hv : Si.vr m 0 L = true) (hm : m ≤ 9223372036854775807) :
    Calls Tryz.prog 28 #[V] w fun e w' => ∃ v, e = .returned v ∧ PtRow w' w.heap.size v (pts L (bkN L.length)) ∧ Below w.heap.size w w' := by
  obtain ⟨A, c, rfl, hA⟩ := hR
  obtain ⟨g, o, hgo⟩ : ∃ g o, 0 < L.length → A = some ⟨g, o, none⟩ ∧ g < w.heap.size ∧ ∀ j (hj : j < L.length) i, i < 2 → w.cell? ⟨g, o + j * 2 + i, none⟩ = (Si.rnC L[j])[i]? := by
    by_cases h : 0 < L.length
    · obtain ⟨g, o, h1, h2⟩ := hA h; exact ⟨g, o, fun _ => ⟨h1, h2⟩⟩
    · exact ⟨0, 0, fun h' => absurd h' h⟩
  have hcap : L.length ≤ c := by
    obtain ⟨A', n', c', e, h⟩ := hc
    simp only [Value.slice.injEq] at e
    omega
  have HG := Lib.hid hgo
  have HE := Lib.hid hE
  have HV := Lib.hid hv
  clear hA hgo hc hE hv
  refine (callsIn_wide (n := 6)).1 ?_
  refine callsIn_of_wp_marks Tryz.func28 rfl trivial ?_ rfl
  simp only [Tryz.ntmps28, List.size_toArray, List.length_cons, List.length_nil, Nat.reduceAdd, Nat.reduceSub, Array.replicate_succ, Array.replicate_zero, List.push_toArray, List.append_toArray, List.nil_append, List.cons_append]
  gi_wp2_with (refine ⟨trivial, ?_⟩; gi_at_call 54; refine (chunk_in _ _ _ _ _).mono ?_; rintro e w' ⟨rfl, rfl⟩)
  have bx0 := (((Boxed.new w 58 (.slice none 0 0)).alloc (.cells #[.int .i64 0] 3)).alloc (.cells #[.slice A L.length c] 23)).alloc (.cells #[.int .i64 16] 3)
  have bx1 := ((Boxed.new (w.alloc (.cells #[.slice none 0 0] 58)) 3 (.int .i64 0)).alloc (.cells #[.slice A L.length c] 23)).alloc (.cells #[.int .i64 16] 3)
  have bx2 := (Boxed.new ((w.alloc (.cells #[.slice none 0 0] 58)).alloc (.cells #[.int .i64 0] 3)) 23 (.slice A L.length c)).alloc (.cells #[.int .i64 16] 3)
  have bx3 := Boxed.new (((w.alloc (.cells #[.slice none 0 0] 58)).alloc (.cells #[.int .i64 0] 3)).alloc (.cells #[.slice A L.length c] 23)) 3 (.int .i64 16)
  have hbel : Below w.heap.size w ((((w.alloc (.cells #[.slice none 0 0] 58)).alloc (.cells #[.int .i64 0] 3)).alloc (.cells #[.slice A L.length c] 23)).alloc (.cells #[.int .i64 16] 3)) :=
    ((((ba w _).alloc (ba w _).size _).alloc (by simp only [World.size_alloc]; omega) _).alloc (by simp only [World.size_alloc]; omega) _)
  simp only [World.size_alloc] at bx1 bx2 bx3
  have hsz : ((((w.alloc (.cells #[.slice none 0 0] 58)).alloc (.cells #[.int .i64 0] 3)).alloc (.cells #[.slice A L.length c] 23)).alloc (.cells #[.int .i64 16] 3)).heap.size = w.heap.size + 1 + 1 + 1 + 1 := by simp only [World.size_alloc]
  generalize (((w.alloc (.cells #[.slice none 0 0] 58)).alloc (.cells #[.int .i64 0] 3)).alloc (.cells #[.slice A L.length c] 23)).alloc (.cells #[.int .i64 16] 3) = W0 at *
  refine wpIn_rangeFunc_ownG rfl (by omega) (gf := 91) (lb := #[.pointer (some ⟨w.heap.size + 1 + 1, 0, none⟩), .pointer (some ⟨w.heap.size + 1 + 1 + 1, 0, none⟩)]) rfl trivial (enters_of Tryz.func91 (by kernel_rfl) rfl)
    (chunk_stops 5 (by omega) _ _ L.length c A g o (fun h => (HG.out h).1) hL hcap W0 (by omega) (by omega) bx2.cell bx3.cell)
    (fun h k => ⟨k.1.trans h.1, k.2.trans h.2⟩) (fun W l o1 o2 hl _ _ _ => ⟨World.putObj_heap_other (by omega), World.putObj_heap_other (by omega)⟩) (Below.refl _ _) (fun _ => rfl)
    (dvI L w (.slice A L.length c)) (fun _ _ _ => False) (dvI_own L w _ _ (by omega)) (fun _ _ _ _ _ hs _ _ => hs)
    ⟨⟨_, bx0, KRow.nil _ _⟩, bx1, bx2, bx3, hbel⟩
    (fun x => { tmps := #[.slice A L.length c, undef, .slice none 0 0, .pointer (some ⟨w.heap.size, 0, none⟩), .pointer (some ⟨w.heap.size + 1, 0, none⟩), ckV g o L.length x.1, undef, undef, undef, undef, .slice A L.length c, .func (.func 91) #[] #[.pointer (some ⟨w.heap.size + 1 + 1, 0, none⟩), .pointer (some ⟨w.heap.size + 1 + 1 + 1, 0, none⟩)], ckV g o L.length x.1, undef, undef, undef, undef, undef, undef, undef, undef, undef, undef, undef, undef, undef, undef, undef, undef, undef, undef, undef, undef, undef, undef, undef, undef, undef, undef, undef, undef, undef, undef, undef, undef, undef, undef, undef, undef, undef, undef, undef, undef, undef, undef], defers := [] }) ?assign ?body ?done ?stop
  case assign =>
    intro l x W K hK
    gi_wp2
    exact hK
  case body =>
    rintro l pre x W hI hlt
    have HI := Lib.hid hI
    obtain ⟨⟨v, hv, hrow⟩, ht, hb2, hb3, hB⟩ := hI
    have hx := x.2
    obtain ⟨q1, q2, q3⟩ := szN_at hx
    obtain ⟨hA', hgw, hcl⟩ := HG.out (by omega)
    have hps := ((Si.vr_iff m L 0 (by omega)).1 HV.out).2.1
    have htk := foP_tick hps pre
    have hlg := ((Si.vr_iff m L 0 (by omega)).1 HV.out).2.2
    have hlb := lg_blk hps x.1
    have HST := Lib.hid (foP_snoc L pre x)
    have ht0 := ht.cell
    have hlen := blk_len L x.1
    have hnb : bkN L.length ≤ 16384 := by unfold bkN; omega
    obtain ⟨T0, hT0⟩ : ∃ T0, (foP L pre).1 = T0 := ⟨_, rfl⟩
    have hT1 : T0 ≤ 16384 * 1099511627776 := by
      rw [← hT0]
      refine Nat.le_trans htk (Nat.mul_le_mul (by omega) (by omega))
    rw [hT0] at ht0 ht
    have HTK := Lib.hid hT0
    obtain ⟨z, hz⟩ : ∃ z, szN L.length x.1 = z := ⟨_, rfl⟩
    obtain ⟨s, hs⟩ : ∃ s, 16 * x.1 = s := ⟨_, rfl⟩
    have hz16 := szN_le L.length x.1
    unfold ckV
    rw [hz] at q2 q3 hlen hz16 ⊢
    rw [hs] at q1 q3 ⊢
    have HZ := Lib.hid hz; have HS := Lib.hid hs
    have hbs := hv.lt
    have hts := ht.lt
    obtain ⟨kk, hkk⟩ : ∃ kk : Nat, x.1 = kk := ⟨_, rfl⟩
    rw [hkk] at HZ HS HST hlen hlb
    have HP0 := Lib.hid (RowAt.new W 63 #[.int .i64 T0, .int .i64 0, .int .i64 z, .int .i64 0, .int .i64 0, .string ⟨#[]⟩])
    have HCL := Lib.hid hcl
    have HTB := Lib.hid ht
    clear hcl htk hT0 hz hs ht hA'
    gi_wp2
    gi_loopw [19, 7] (fun i u wr => ∃ (j n d cb : Nat) (Ab : Option Addr), j ≤ z ∧ i = .int .i64 j ∧ u = .slice Ab n cb ∧ Hid (Sb.Rd wr wr.heap.size Ab (bb (prtB L kk j))) ∧ Hid (n = (bb (prtB L kk j)).length) ∧ Hid (Ab = none → cb = 0) ∧ n ≤ cb ∧ n ≤ 20 * j ∧ Hid ((d : Int) = lg (prtB L kk j)) ∧ d ≤ 1099511627776 ∧ Hid (Boxed wr (w.heap.size + 1) 3 (.int .i64 ((T0 + d : Nat) : Int))) ∧ Hid (RowAt wr W.heap.size 63 #[.int .i64 T0, .int .i64 0, .int .i64 z, .int .i64 0, .int .i64 0, .string ⟨#[]⟩]) ∧ Hid (∀ q, q < W.heap.size → q ≠ w.heap.size + 1 → wr.heap[q]? = W.heap[q]?) ∧ Hid (W.heap.size + 1 ≤ wr.heap.size) ∧ Hid (Below w.heap.size w wr))
      (fun i _ _ => z - (intOf i).toNat)
    case atStart => exact ⟨0, 0, 0, 0, none, Nat.zero_le _, rfl, rfl, Lib.hid (Sb.Rd.nil _ _ _), Lib.hid rfl, Lib.hid (fun _ => rfl), Nat.le_refl _, Nat.zero_le _, Lib.hid rfl, Nat.zero_le _, Lib.hid (HTB.out.alloc _), HP0, Lib.hid (fun q hq _ => Below.heap_alloc W _ q hq), Lib.hid (by rw [World.size_alloc]; omega), Lib.hid (hB.alloc hB.size _)⟩
    case round =>
      obtain ⟨j, n, d, cb, Ab, hj, rfl, rfl, HRd, HN, HNil, hncb, hn20, HD, hd, HT, HPt, HO, HSz, HBw⟩ := hrel
      by_cases hjz : j < z
      · have hpL : s + j < L.length := by omega
        have hpL2 : 16 * kk + j < L.length := by rw [HS.out]; exact hpL
        have hx2 := Si.el_range HV.out (16 * kk + j) hpL2
        have HBB := Lib.hid (prtB_succ L kk j hpL2)
        have HLT := Lib.hid (show lg (prtB L kk (j + 1)) = lg (prtB L kk j) + L[16 * kk + j].2 by
          unfold prtB
          have h2 : j < (L.drop (16 * kk)).length := by rw [List.length_drop]; omega
          rw [List.take_succ_eq_append_getElem h2, Si.lg_append, Si.lg_one, List.getElem_drop])
        have hle2 : lg (prtB L kk (j + 1)) ≤ 1099511627776 := by
          have h1 := Si.ps_nonneg (Si.ps_take hps (16 * kk))
          have h2 := Si.ps_nonneg (Si.ps_drop (Si.ps_drop hps (16 * kk)) (j + 1))
          have h3 := Si.lg_split L (16 * kk)
          have h4 := Si.lg_split (L.drop (16 * kk)) (j + 1)
          unfold prtB
          omega
        obtain ⟨a0, a1⟩ := Si.arg_two HCL.out (16 * kk + j) hpL2
        obtain ⟨x0, hx0⟩ : ∃ x0 : Nat, L[16 * kk + j].1 = x0 := ⟨L[16 * kk + j].1.toNat, by omega⟩
        obtain ⟨x1, hx1⟩ : ∃ x1 : Nat, L[16 * kk + j].2 = x1 := ⟨L[16 * kk + j].2.toNat, by omega⟩
        have HRB := Lib.hid (show rb L[16 * kk + j] = Sb.put x0 ++ Sb.put x1 by unfold rb; rw [hx0, hx1]; rfl)
        rw [hx0] at a0 hx2
        rw [hx1] at a1 hx2 HLT
        rw [HLT.out] at hle2
        have hea : (16 * kk + j) * 2 = s * 2 + j * 2 := by have := HS.out; omega
        rw [hea, ← Nat.add_assoc] at a0 a1
        have hgB : g ≠ w.heap.size + 1 := by omega
        have hgW : wr.heap[g]? = w.heap[g]? := (HO.out g (Nat.lt_of_lt_of_le hgw hB.size) hgB).trans (hB.block g hgw)
        have f0 : wr.cell? ⟨g, o + s * 2 + j * 2, none⟩ = some (.int .i64 x0) := (World.cell?_of_block hgW).trans a0
        have f1 : wr.cell? ⟨g, o + s * 2 + j * 2 + 1, none⟩ = some (.int .i64 x1) := (World.cell?_of_block hgW).trans a1
        have hdx : d + x1 ≤ 1099511627776 := by have := HD.out; omega
        have hji : (j : Int) < z := by omega
        have hx0i : (x0 : Int) ≤ 9223372036854775807 := by omega
        have hx1i : (x1 : Int) ≤ 9223372036854775807 := by omega
        have R0 := Lib.hid (RowAt.new wr 54 #[.int .i64 x0, .int .i64 x1])
        have HTn := HT.out.alloc (.cells #[.int .i64 x0, .int .i64 x1] 54)
        have P1 := Lib.hid (Sb.putu_any Ab n cb _ x0 (wr.alloc (.cells #[.int .i64 x0, .int .i64 x1] 54)) ((HRd.out.alloc (Nat.le_refl _) _).more (by rw [World.size_alloc]; omega)) HN.out hncb HNil.out (by omega) (by omega))
        have P2 := Lib.hid (fun B1 g1 n1 c1 l1 W1 (ho : Sb.Own W1 B1 g1 n1 c1 l1) (hn : n1 ≤ 1000) => Sb.putu_any (some ⟨g1, 0, none⟩) n1 c1 l1 x1 W1 ho.rd ho.len.symm ho.cap.1 (fun h => by cases h) (by omega) (by omega))
        rw [HRB.out] at HBB
        clear a0 a1 hgW hx0 hx1 hx2 hle2 HRB hpL2
        have c0 := R0.out.cell 0
        have v5 : IntKind.i64.wrap (((T0 + d : Nat) : Int) + (x1 : Int)) = ((T0 + (d + x1) : Nat) : Int) := by rw [show ((T0 + d : Nat) : Int) + (x1 : Int) = ((T0 + (d + x1) : Nat) : Int) by omega]; exact IntWalk.i64_in _ (by omega)
        gi_wp2_with (first
          | (refine ⟨trivial, ?_⟩; gi_at_call 55; first
            | (refine (CallsIn.inRound l (callsIn_wide.2 P1.out)).mono ?_; clear P1; rintro e1 w1 ⟨g1, n1, c1, rfl, o1, b1⟩; have R1 := Lib.hid (R0.out.keep b1); have e0 := R1.out.cell 1; have L1 : n1 ≤ n + 10 := (by have h := o1.len; rw [List.length_append, ← HN.out] at h; have := Sb.put_ten (n := x0) (by omega); omega); have T1 := Lib.hid (show Boxed w1 (w.heap.size + 1) 3 _ from (b1.block _ HTn.lt).trans HTn))
            | (refine (CallsIn.inRound l (callsIn_wide.2 (P2.out _ _ _ _ _ _ o1 (by omega)))).mono ?_; rintro e2 w2 ⟨g2, n2, c2, rfl, o2, b2⟩; have R2 := Lib.hid (R1.out.keep b2); have e3 := R2.out.cell 1; have T2 := Lib.hid (show Boxed w2 (w.heap.size + 1) 3 _ from (b2.block _ T1.out.lt).trans T1.out); have e4 := T2.out.cell; have e5 := T2.out.frozen)))
        have hX : (T0 : Int) + (d : Int) + (x1 : Int) = ((T0 + (d + x1) : Nat) : Int) := by omega
        rw [hX]
        have hs1 : wr.heap.size ≤ w1.heap.size := Nat.le_trans (by rw [World.size_alloc]; omega) b1.size
        have hs2 := b2.size
        have hB1 : w.heap.size + 1 < w1.heap.size := T1.out.lt
        have hl2 := o2.len
        have hoth : ∀ q, q ≠ w.heap.size + 1 → (w2.setCell ⟨w.heap.size + 1, 0, none⟩ (.int .i64 ((T0 + (d + x1) : Nat) : Int))).heap[q]? = w2.heap[q]? := fun q hq => heap_setCell_other _ _ _ _ (fun e => hq e)
        have O3 := own_other o2 (hoth g2 (by have := o2.lt.1; omega))
        have T3 := T2.out.set (.int .i64 ((T0 + (d + x1) : Nat) : Int))
        have hs0 := HSz.out
        have S3 : (w2.setCell ⟨w.heap.size + 1, 0, none⟩ (.int .i64 ((T0 + (d + x1) : Nat) : Int))).heap.size = w2.heap.size := World.size_setCell _ _ _
        have P3 : RowAt (w2.setCell ⟨w.heap.size + 1, 0, none⟩ (.int .i64 ((T0 + (d + x1) : Nat) : Int))) W.heap.size 63 #[.int .i64 T0, .int .i64 0, .int .i64 z, .int .i64 0, .int .i64 0, .string ⟨#[]⟩] :=
          (hoth W.heap.size (by omega)).trans (((HPt.out.alloc _).keep b1).keep b2)
        have Q3 : ∀ q, q < W.heap.size → q ≠ w.heap.size + 1 → (w2.setCell ⟨w.heap.size + 1, 0, none⟩ (.int .i64 ((T0 + (d + x1) : Nat) : Int))).heap[q]? = W.heap[q]? := fun q hq hne =>
          (hoth q hne).trans ((b2.block q (by omega)).trans ((b1.block q (by rw [World.size_alloc]; omega)).trans ((Below.heap_alloc wr _ q (by omega)).trans (HO.out q hq hne))))
        have hnb3 : n2 ≤ 20 * (j + 1) := by
          rw [List.length_append, o1.len] at hl2
          have := Sb.put_ten (n := x1) (by omega)
          omega
        refine ⟨⟨j + 1, n2, d + x1, c2, some ⟨g2, 0, none⟩, by omega, val_int (by omega), rfl, Lib.hid (by rw [HBB.out, ← List.append_assoc]; exact O3.rd), Lib.hid (by rw [HBB.out, ← List.append_assoc]; exact o2.len.symm), Lib.hid (fun h => by cases h), o2.cap.1, hnb3, Lib.hid (by have := HD.out; have := HLT.out; omega), hdx, Lib.hid T3, Lib.hid P3, Lib.hid Q3, Lib.hid (by rw [S3]; omega), Lib.hid (Below.setCell (((HBw.out.alloc HBw.out.size _).trans (b1.mono (Nat.le_trans HBw.out.size (by rw [World.size_alloc]; omega)))).trans (b2.mono (Nat.le_trans HBw.out.size hs1))) (Nat.le_succ _) _)⟩, ?_⟩
        simp [intOf]; omega
      · have hjz2 : j = z := by omega
        subst hjz2
        have hjj : ¬ (j : Int) < j := by omega
        have hbl : prtB L kk j = blk L kk := by rw [← HZ.out]; exact prtB_all L kk
        rw [hbl] at HRd HN HD
        have CKS := Lib.hid (fun w' (hb : Below w.heap.size w w') => checksum_any ⟨(bb (blk L kk)).toArray⟩ w' (HE.out.below hb) (by rw [size_mk, ← HN.out]; omega))
        rw [toList_mk] at CKS
        obtain ⟨D, hD⟩ : ∃ D, T0 + d = D := ⟨_, rfl⟩
        rw [hD] at HT
        have HDD := Lib.hid hD
        clear hD
        have hfm : Tryz.prog.follows Departure.mixedOrders = true := by kernel_rfl
        obtain ⟨Bp, hBp⟩ : ∃ Bp, W.heap.size = Bp := ⟨_, rfl⟩
        have HBp := Lib.hid hBp
        rw [hBp] at HPt ⊢
        have KC := Lib.hid (fun w' (hk : ∀ q, q ≠ Bp → q < wr.heap.size → w'.heap[q]? = wr.heap[q]?) (hs : wr.heap.size ≤ w'.heap.size) => Sb.conv_rd (rd_to HRd.out HPt.out (no_u8 _ _ _ _ _ _) hk hs) n cb HN.out w' (fun _ _ => rfl))
        have c0 := HT.out.cell
        have k0 := KC.out wr (fun _ _ _ => rfl) (Nat.le_refl _)
        have k1 := KC.out wr.drew (fun _ _ _ => rfl) (Nat.le_refl _)
        have c1 : wr.drew.cell? ⟨w.heap.size + 1, 0, none⟩ = some (.int .i64 D) := c0
        have hck := ck_lt (bb (blk L kk))
        generalize hCK : ck (bb (blk L kk)) = CKV at *
        have HCK := Lib.hid hCK
        clear hCK
        generalize hBB : (⟨(bb (blk L kk)).toArray⟩ : ByteArray) = BB at *
        have HBBs := Lib.hid hBB
        clear hBB
        have HvB := Lib.hid hv; have HrB := Lib.hid hrow; have H2B := Lib.hid hb2; have H3B := Lib.hid hb3; have HBB0 := Lib.hid hB; have HLEN := Lib.hid hlen; have HLB := Lib.hid hlb
        have HN20 := Lib.hid hn20; have HD2 := Lib.hid hd; have HT1 := Lib.hid hT1; have HCKL := Lib.hid hck; have hnbH := Lib.hid hnb; have hltH := Lib.hid hlt
        clear hv hrow hb2 hb3 hB hlen hlb hn20 hd hT1 hck hx q1 q2 q3 hgw hps hlg hlt ht0 hnb hz16 hbs hts hj hbl hL hcap hncb hkk bx0 bx1 bx2 bx3 hbel hsz hm
        gi_wp2
        refine region_in hfm (by kernel_rfl) (by rintro ⟨a9, w9, h9⟩; exact h9) ?_
        have hH : wr.drew.cell? ⟨w.heap.size + 1, 0, none⟩ = some (.int .i64 D) ∧ (convert 60 9 (.slice Ab n cb)).run Tryz.prog wr.drew = .ok (.string BB) wr.drew := ⟨c1, k1⟩
        refine wpAny_of_held (S := fun W1 => W1.cell? ⟨w.heap.size + 1, 0, none⟩ = some (.int .i64 D) ∧ (convert 60 9 (.slice Ab n cb)).run Tryz.prog W1 = .ok (.string BB) W1) _ _ _ _ ?_
        change wpAnyH _ _ _ _ _ _ _ _ wr.drew
        refine wpAnyH_take (i := 0) (oi := { dst := some 38, op := Go.Op.load 3 (Go.Operand.tmp 4), type := 3, pos := "stored.go:47", after := #[], guard := none }) (v := ?_) rfl ?_ ?_ ?_ ?_ (Or.inl ⟨?_, ?_⟩) hH ?_
        rotate_left
        · kernel_rfl
        · kernel_rfl
        · kernel_rfl
        · exact fun _ _ _ h => h
        · kernel_rfl
        · intro wS hSw
          try dsimp only at hSw
          go_simp
          try with_reducible rfl
        try simp only [Act.put, List.setIfInBounds_toArray, List.set_cons_zero, List.set_cons_succ]
        refine wpAnyH_take (i := 1) (oi := { dst := some 39, op := Go.Op.move (Go.Operand.tmp 7), type := 60, pos := "stored.go:47", after := #[], guard := none }) (v := ?_) rfl ?_ ?_ ?_ ?_ (Or.inl ⟨?_, ?_⟩) hH ?_
        rotate_left
        · kernel_rfl
        · kernel_rfl
        · kernel_rfl
        · exact fun _ _ _ h => h
        · kernel_rfl
        · intro wS hSw
          try dsimp only at hSw
          go_simp
          try with_reducible rfl
        try simp only [Act.put, List.setIfInBounds_toArray, List.set_cons_zero, List.set_cons_succ]
        refine wpAnyH_take (i := 2) (oi := { dst := some 40, op := Go.Op.call { callee := Go.Callee.builtin Go.Builtin.len, args := #[Go.Operand.tmp 39], argTypes := #[60] }, type := 3, pos := "stored.go:47", after := #[{ on := 1, ground := Go.Ground.data }], guard := none }) (v := ?_) rfl ?_ ?_ ?_ ?_ (Or.inl ⟨?_, ?_⟩) hH ?_
        rotate_left
        · kernel_rfl
        · kernel_rfl
        · kernel_rfl
        · exact fun _ _ _ h => h
        · kernel_rfl
        · intro wS hSw
          try dsimp only at hSw
          go_simp
          try with_reducible rfl
        try simp only [Act.put, List.setIfInBounds_toArray, List.set_cons_zero, List.set_cons_succ]
        refine wpAnyH_take (i := 3) (oi := { dst := some 41, op := Go.Op.move (Go.Operand.tmp 7), type := 60, pos := "stored.go:47", after := #[], guard := none }) (v := ?_) rfl ?_ ?_ ?_ ?_ (Or.inl ⟨?_, ?_⟩) hH ?_
        rotate_left
        · kernel_rfl
        · kernel_rfl
        · kernel_rfl
        · exact fun _ _ _ h => h
        · kernel_rfl
        · intro wS hSw
          try dsimp only at hSw
          go_simp
          try with_reducible rfl
        try simp only [Act.put, List.setIfInBounds_toArray, List.set_cons_zero, List.set_cons_succ]
        refine wpAnyH_take (i := 4) (oi := { dst := some 42, op := Go.Op.convert 60 9 (Go.Operand.tmp 41), type := 9, pos := "stored.go:47", after := #[{ on := 3, ground := Go.Ground.data }], guard := none }) (v := ?_) rfl ?_ ?_ ?_ ?_ (Or.inl ⟨?_, ?_⟩) hH ?_
        rotate_left
        · kernel_rfl
        · kernel_rfl
        · kernel_rfl
        · exact fun _ _ _ h => h
        · kernel_rfl
        · intro wS hSw
          try dsimp only at hSw
          go_simp
          try with_reducible rfl
        try simp only [Act.put, List.setIfInBounds_toArray, List.set_cons_zero, List.set_cons_succ]
        refine wpAnyH_take (i := 6) (oi := { dst := some 44, op := Go.Op.move (Go.Operand.tmp 7), type := 60, pos := "stored.go:47", after := #[{ on := 13, ground := Go.Ground.gcOnly Go.Departure.lateStores }], guard := none }) (v := ?_) rfl ?_ ?_ ?_ ?_ (Or.inl ⟨?_, ?_⟩) hH ?_
        rotate_left
        · kernel_rfl
        · kernel_rfl
        · kernel_rfl
        · exact fun _ _ _ h => h
        · kernel_rfl
        · intro wS hSw
          try dsimp only at hSw
          go_simp
          try with_reducible rfl
        try simp only [Act.put, List.setIfInBounds_toArray, List.set_cons_zero, List.set_cons_succ]
        refine wpAnyH_take (i := 7) (oi := { dst := some 45, op := Go.Op.convert 60 9 (Go.Operand.tmp 44), type := 9, pos := "stored.go:47", after := #[{ on := 6, ground := Go.Ground.data }, { on := 13, ground := Go.Ground.gcOnly Go.Departure.lateStores }], guard := none }) (v := ?_) rfl ?_ ?_ ?_ ?_ (Or.inl ⟨?_, ?_⟩) hH ?_
        rotate_left
        · kernel_rfl
        · kernel_rfl
        · kernel_rfl
        · exact fun _ _ _ h => h
        · kernel_rfl
        · intro wS hSw
          try dsimp only at hSw
          go_simp
          try with_reducible rfl
        try simp only [Act.put, List.setIfInBounds_toArray, List.set_cons_zero, List.set_cons_succ]
        refine wpAnyH_take (i := 8) (oi := { dst := some 46, op := Go.Op.fieldAddr 63 (Go.Operand.tmp 6) 1, type := 0, pos := "stored.go:47", after := #[{ on := 0, ground := Go.Ground.phase }, { on := 1, ground := Go.Ground.textOnly Go.Departure.lateStores }, { on := 2, ground := Go.Ground.textOnly Go.Departure.lateStoresUnsure }, { on := 3, ground := Go.Ground.textOnly Go.Departure.lateStores }, { on := 4, ground := Go.Ground.textOnly Go.Departure.lateStores }, { on := 5, ground := Go.Ground.textOnly Go.Departure.lateStoresUnsure }, { on := 6, ground := Go.Ground.textOnly Go.Departure.lateStores }, { on := 7, ground := Go.Ground.textOnly Go.Departure.lateStores }], guard := none }) (v := ?_) rfl ?_ ?_ ?_ ?_ (Or.inl ⟨?_, ?_⟩) hH ?_
        rotate_left
        · kernel_rfl
        · kernel_rfl
        · kernel_rfl
        · exact fun _ _ _ h => h
        · kernel_rfl
        · intro wS hSw
          try dsimp only at hSw
          go_simp
          try with_reducible rfl
        try simp only [Act.put, List.setIfInBounds_toArray, List.set_cons_zero, List.set_cons_succ]
        refine wpAnyH_ready (rs := [5]) (by kernel_rfl) (by simp) ?_
        refine AllReadyH.cons rfl (fun K hK => ?_) AllReadyH.nil
        go_simp
        go_wp2_with (go_at_call 56; refine (CKS.out _ HBw.out.drew).mono ?_; rintro e8 w8 ⟨rfl, b8⟩)
        have P8 := Lib.hid (RowAt.keep (w := wr.drew) HPt.out b8)
        have T8 := Lib.hid (show Boxed w8 (w.heap.size + 1) 3 (.int .i64 D) from (b8.block _ HT.out.lt).trans HT.out)
        have hne1 : w.heap.size + 1 ≠ Bp := by have h1 := HTB.out.lt; have h2 := HBp.out; omega
        obtain ⟨⟨y8, z8⟩, ⟨y9, z9⟩, ⟨y10, z10⟩, ⟨y11, z11⟩⟩ := p14 P8.out (D : Int) (n : Int) (CKV : Int)
        obtain ⟨m9, m10, m11⟩ := p14_heap w8 Bp (D : Int) (n : Int) (CKV : Int) (w.heap.size + 1) hne1
        have hS8 : w8.cell? ⟨w.heap.size + 1, 0, none⟩ = some (.int .i64 D) ∧ (convert 60 9 (.slice Ab n cb)).run Tryz.prog w8 = .ok (.string BB) w8 := ⟨T8.out.cell, KC.out w8 (fun q _ hq => b8.block q hq) b8.size⟩
        have hS9 := And.intro ((World.cell?_of_block (a := ⟨w.heap.size + 1, 0, none⟩) m9).trans T8.out.cell) (KC.out _ (fun q hne hq => (p14_heap w8 Bp (D : Int) (n : Int) (CKV : Int) q hne).1.trans (b8.block q hq)) (by rw [World.size_setCell]; exact b8.size))
        have hS10 := And.intro ((World.cell?_of_block (a := ⟨w.heap.size + 1, 0, none⟩) m10).trans T8.out.cell) (KC.out _ (fun q hne hq => (p14_heap w8 Bp (D : Int) (n : Int) (CKV : Int) q hne).2.1.trans (b8.block q hq)) (by rw [World.size_setCell, World.size_setCell]; exact b8.size))
        have hS11 := And.intro ((World.cell?_of_block (a := ⟨w.heap.size + 1, 0, none⟩) m11).trans T8.out.cell) (KC.out _ (fun q hne hq => (p14_heap w8 Bp (D : Int) (n : Int) (CKV : Int) q hne).2.2.trans (b8.block q hq)) (by rw [World.size_setCell, World.size_setCell, World.size_setCell]; exact b8.size))
        have hS12 := And.intro ((World.cell?_of_block (a := ⟨w.heap.size + 1, 0, none⟩) (p14_all w8 Bp (D : Int) (n : Int) (CKV : Int) BB (w.heap.size + 1) hne1)).trans T8.out.cell) (KC.out _ (fun q hne hq => (p14_all w8 Bp (D : Int) (n : Int) (CKV : Int) BB q hne).trans (b8.block q hq)) (by rw [World.size_setCell, World.size_setCell, World.size_setCell, World.size_setCell]; exact b8.size))
        clear m9 m10 m11
        refine hK.out _ _ hS8 (fun hH8 => ?_)
        clear hK K
        try simp only [Act.put, List.setIfInBounds_toArray, List.set_cons_zero, List.set_cons_succ]
        refine wpAnyH_ready (rs := [9]) (by kernel_rfl) (by simp) ?_
        refine AllReadyH.cons rfl (fun K hK => ?_) AllReadyH.nil
        go_simp
        refine hK.out _ _ hS9 (fun hH9 => ?_)
        clear hK K
        try simp only [Act.put, List.setIfInBounds_toArray, List.set_cons_zero, List.set_cons_succ]
        refine wpAnyH_take (i := 10) (oi := { dst := some 47, op := Go.Op.fieldAddr 63 (Go.Operand.tmp 6) 3, type := 0, pos := "stored.go:47", after := #[{ on := 0, ground := Go.Ground.phase }, { on := 1, ground := Go.Ground.phase }, { on := 2, ground := Go.Ground.phase }, { on := 3, ground := Go.Ground.textOnly Go.Departure.lateStores }, { on := 4, ground := Go.Ground.textOnly Go.Departure.lateStores }, { on := 5, ground := Go.Ground.textOnly Go.Departure.lateStoresUnsure }, { on := 6, ground := Go.Ground.textOnly Go.Departure.lateStores }, { on := 7, ground := Go.Ground.textOnly Go.Departure.lateStores }, { on := 8, ground := Go.Ground.phase }, { on := 9, ground := Go.Ground.phase }], guard := none }) (v := ?_) rfl ?_ ?_ ?_ ?_ (Or.inl ⟨?_, ?_⟩) hH9 ?_
        rotate_left
        · kernel_rfl
        · kernel_rfl
        · kernel_rfl
        · exact fun _ _ _ h => h
        · kernel_rfl
        · intro wS hSw
          try dsimp only at hSw
          go_simp
          try with_reducible rfl
        try simp only [Act.put, List.setIfInBounds_toArray, List.set_cons_zero, List.set_cons_succ]
        refine wpAnyH_ready (rs := [11]) (by kernel_rfl) (by simp) ?_
        refine AllReadyH.cons rfl (fun K hK => ?_) AllReadyH.nil
        go_simp
        refine hK.out _ _ hS10 (fun hH10 => ?_)
        clear hK K
        try simp only [Act.put, List.setIfInBounds_toArray, List.set_cons_zero, List.set_cons_succ]
        refine wpAnyH_take (i := 12) (oi := { dst := some 48, op := Go.Op.fieldAddr 63 (Go.Operand.tmp 6) 4, type := 0, pos := "stored.go:47", after := #[{ on := 0, ground := Go.Ground.phase }, { on := 1, ground := Go.Ground.phase }, { on := 2, ground := Go.Ground.phase }, { on := 3, ground := Go.Ground.phase }, { on := 4, ground := Go.Ground.phase }, { on := 5, ground := Go.Ground.phase }, { on := 6, ground := Go.Ground.textOnly Go.Departure.lateStores }, { on := 7, ground := Go.Ground.textOnly Go.Departure.lateStores }, { on := 8, ground := Go.Ground.phase }, { on := 9, ground := Go.Ground.phase }, { on := 10, ground := Go.Ground.phase }, { on := 11, ground := Go.Ground.phase }], guard := none }) (v := ?_) rfl ?_ ?_ ?_ ?_ (Or.inl ⟨?_, ?_⟩) hH10 ?_
        rotate_left
        · kernel_rfl
        · kernel_rfl
        · kernel_rfl
        · exact fun _ _ _ h => h
        · kernel_rfl
        · intro wS hSw
          try dsimp only at hSw
          go_simp
          try with_reducible rfl
        try simp only [Act.put, List.setIfInBounds_toArray, List.set_cons_zero, List.set_cons_succ]
        refine wpAnyH_ready (rs := [13]) (by kernel_rfl) (by simp) ?_
        refine AllReadyH.cons rfl (fun K hK => ?_) AllReadyH.nil
        go_simp
        refine hK.out _ _ hS11 (fun hH11 => ?_)
        clear hK K
        try simp only [Act.put, List.setIfInBounds_toArray, List.set_cons_zero, List.set_cons_succ]
        refine wpAnyH_take (i := 14) (oi := { dst := some 49, op := Go.Op.fieldAddr 63 (Go.Operand.tmp 6) 5, type := 0, pos := "stored.go:47", after := #[{ on := 0, ground := Go.Ground.phase }, { on := 1, ground := Go.Ground.phase }, { on := 2, ground := Go.Ground.phase }, { on := 3, ground := Go.Ground.phase }, { on := 4, ground := Go.Ground.phase }, { on := 5, ground := Go.Ground.phase }, { on := 6, ground := Go.Ground.phase }, { on := 7, ground := Go.Ground.phase }, { on := 8, ground := Go.Ground.phase }, { on := 9, ground := Go.Ground.phase }, { on := 10, ground := Go.Ground.phase }, { on := 11, ground := Go.Ground.phase }, { on := 12, ground := Go.Ground.phase }, { on := 13, ground := Go.Ground.phase }], guard := none }) (v := ?_) rfl ?_ ?_ ?_ ?_ (Or.inl ⟨?_, ?_⟩) hH11 ?_
        rotate_left
        · kernel_rfl
        · kernel_rfl
        · kernel_rfl
        · exact fun _ _ _ h => h
        · kernel_rfl
        · intro wS hSw
          try dsimp only at hSw
          go_simp
          try with_reducible rfl
        try simp only [Act.put, List.setIfInBounds_toArray, List.set_cons_zero, List.set_cons_succ]
        refine wpAnyH_ready (rs := [15]) (by kernel_rfl) (by simp) ?_
        refine AllReadyH.cons rfl (fun K hK => ?_) AllReadyH.nil
        go_simp
        refine hK.out _ _ hS12 (fun hH12 => ?_)
        clear hK K
        try simp only [Act.put, List.setIfInBounds_toArray, List.set_cons_zero, List.set_cons_succ]
        refine wpAnyH_done (by kernel_rfl) ?_ _
        have P12 := Lib.hid (p14_row P8.out (D : Int) (n : Int) (CKV : Int) BB)
        have HQ12 := Lib.hid (fun q hq => p14_all w8 Bp (D : Int) (n : Int) (CKV : Int) BB q hq)
        have hle12 : w.heap.size ≤ Bp := by have h2 := HBp.out; have := HBB0.out.size; omega
        have B12 := Lib.hid (show Below w.heap.size w _ from Below.setCell (p := ⟨Bp, 5, none⟩) (Below.setCell (p := ⟨Bp, 4, none⟩) (Below.setCell (p := ⟨Bp, 3, none⟩) (Below.setCell (p := ⟨Bp, 1, none⟩) (HBw.out.drew.trans (b8.mono HBw.out.size)) hle12 (.int .i64 (D : Int))) hle12 (.int .i64 (n : Int))) hle12 (.int .i64 (CKV : Int))) hle12 (.string BB))
        have S12 : ((((w8.setCell ⟨Bp, 1, none⟩ (.int .i64 D)).setCell ⟨Bp, 3, none⟩ (.int .i64 n)).setCell ⟨Bp, 4, none⟩ (.int .i64 CKV)).setCell ⟨Bp, 5, none⟩ (.string BB)).heap.size = w8.heap.size := by rw [World.size_setCell, World.size_setCell, World.size_setCell, World.size_setCell]
        clear hH hH8 hH9 hH10 hH11 hH12 hS8 hS9 hS10 hS11 hS12 y8 z8 y9 z9 y10 z10 y11 z11 c0 c1 k0 k1
        generalize (((w8.setCell ⟨Bp, 1, none⟩ (.int .i64 D)).setCell ⟨Bp, 3, none⟩ (.int .i64 n)).setCell ⟨Bp, 4, none⟩ (.int .i64 CKV)).setCell ⟨Bp, 5, none⟩ (.string BB) = W4 at *
        have HS84 := Lib.hid S12
        clear S12
        have HK4 : ∀ q, q < W.heap.size → q ≠ w.heap.size + 1 → W4.heap[q]? = W.heap[q]? := fun q hq hne => (HQ12.out q (by have h2 := HBp.out; omega)).trans ((b8.block q (by have := HSz.out; show q < wr.heap.size; omega)).trans (HO.out q hq hne))
        have V4 := Lib.hid (show Boxed W4 w.heap.size 58 v from (HK4 _ HvB.out.lt (by omega)).trans HvB.out)
        have v4 := V4.out.cell
        have d0 := P12.out.cell 0; have d1 := P12.out.cell 1; have d2 := P12.out.cell 2; have d3 := P12.out.cell 3; have d4 := P12.out.cell 4; have d5 := P12.out.cell 5
        have hnr := HTB.out.not_row (e := 63) (by decide) HrB.out
        have R4 : PtRow W4 w.heap.size v (foP L pre).2 := krow_to HrB.out (fun q hq hlt => HK4 q hlt (fun e => hnr (by rw [hq, e])))
        have T4 : Boxed W4 (w.heap.size + 1) 3 (.int .i64 D) := (HQ12.out _ hne1).trans T8.out
        have X2 : Boxed W4 (w.heap.size + 1 + 1) 23 (.slice A L.length c) := (HK4 _ H2B.out.lt (by omega)).trans H2B.out
        have X3 : Boxed W4 (w.heap.size + 1 + 1 + 1) 3 (.int .i64 16) := (HK4 _ H3B.out.lt (by omega)).trans H3B.out
        have hfl := foP_len L pre
        have R4H := Lib.hid R4; have T4H := Lib.hid T4; have X2H := Lib.hid X2; have X3H := Lib.hid X3; have HFL := Lib.hid hfl
        have hpl : pre.length < 16384 := by have h1 := hnbH.out; have h2 := hltH.out; omega
        clear hnr R4 T4 X2 X3 hfl
        obtain ⟨i0, hi, hz0, hz1, hz2⟩ := info_parts pt_info
        have hsz4 := B12.out.size
        have hN1 : (foP L pre).2.length + 1 ≤ maxLen := by have := HFL.out; simp only [maxLen]; omega
        have hN2 : ((foP L pre).2.length + 1) * 56 ≤ 140737488355328 := by have := HFL.out; omega
        gi_wp2_with (gi_at_builtin; go_must (refine wpListIn_append_own _ rfl (.tmp 50) (.tmp 52) 58 rfl w.heap.size 63 i0 _ 6 56 Tryz.underlying58 hi hz0 hz1 hz2 rfl (by decide) _ _ _ rfl (R4H.out.alloc _) ⟨W4.heap.size, 0, none⟩ 1 1 [_, _, _, _, _, _] rfl rfl (six_cells W4 _ _ _ _ _ _ _) (by simp [Value.oneCell']) hN1 hN2 (by simp only [World.size_alloc]; omega) ?_; intro v9 w9 hown9 hgrow9 _; obtain ⟨g9, cap9, rfl⟩ := ownsRow_succ hown9; obtain ⟨hv1, hv2, hr2, hk2, hb2⟩ := V4.out.appended (by decide) R4H.out B12.out.size (Nat.le_refl _) hown9 hgrow9; have hc1 := hv1.cell; have hf1 := hv1.frozen))
        have z1 := box_keep (b0 := w.heap.size) (v' := .slice (some ⟨g9, 0, none⟩) ((foP L pre).2.length + 1) cap9) T4H.out (by decide) R4H.out hgrow9 (by omega)
        have z2 := box_keep (b0 := w.heap.size) (v' := .slice (some ⟨g9, 0, none⟩) ((foP L pre).2.length + 1) cap9) X2H.out (by decide) R4H.out hgrow9 (by omega)
        have z3 := box_keep (b0 := w.heap.size) (v' := .slice (some ⟨g9, 0, none⟩) ((foP L pre).2.length + 1) cap9) X3H.out (by decide) R4H.out hgrow9 (by omega)
        have hDn : d = (lg (blk L kk)).toNat := by have := HD.out; omega
        have hst : foP L (pre ++ [x]) = (D, (foP L pre).2 ++ [((T0, D, j, n, CKV, BB) : Pt)]) := by
          rw [HST.out]; unfold stP; rw [HTK.out, ← hDn, HDD.out, HLEN.out, ← HN.out, HCK.out, HBBs.out]
        have hrow : PtRow (w9.setCell ⟨w.heap.size, 0, none⟩ (.slice (some ⟨g9, 0, none⟩) ((foP L pre).2.length + 1) cap9)) w.heap.size (.slice (some ⟨g9, 0, none⟩) ((foP L pre).2.length + 1) cap9) ((foP L pre).2 ++ [((T0, D, j, n, CKV, BB) : Pt)]) := by
          unfold PtRow KRow; rw [kCs_snoc, List.length_append]; exact hr2
        have hdv : dvI L w (.slice A L.length c) (pre ++ [x]) (w9.setCell ⟨w.heap.size, 0, none⟩ (.slice (some ⟨g9, 0, none⟩) ((foP L pre).2.length + 1) cap9)) := by
          unfold dvI; rw [hst]; exact ⟨⟨_, hv2, hrow⟩, z1, z2, z3, B12.out.trans hb2⟩
        refine ⟨⟨Nat.le_trans (by have h1 := HSz.out; have h2 := b8.size; have h3 := HS84.out; have h4 : wr.heap.size ≤ w8.heap.size := h2; omega) hk2.size, fun q o9 hB9 hq9 ho9 => ?_⟩, keeps_of HI.out hdv, hdv⟩
        have hqlt := (Array.getElem?_eq_some_iff.1 hq9).1
        have hqne : q ≠ w.heap.size + 1 := by rintro rfl; rw [show W.heap[w.heap.size + 1]? = _ from HTB.out] at hq9; cases hq9; cases ho9
        exact hk2.same q o9 ((HK4 q hqlt hqne).trans hq9) ho9
  case done =>
    rintro D ys W hD rfl ⟨⟨v, hv, hrow⟩, ht, hb2, hb3, hB⟩ hK
    have hc := hv.cell
    have hps := ((Si.vr_iff m L 0 (by omega)).1 HV.out).2.1
    have hfo := congrArg Prod.snd (foP_all hps)
    gi_wp2
    refine ⟨by simp, .inl ⟨_, _, rfl, run_takeDeferred hK, ?_⟩⟩
    exact ⟨_, results_tmp rfl _ _ _, v, rfl, by rw [← hfo]; exact krow_grown hrow (grownBy_putObj' _ D (.deferred none)) (fun r e => by cases e; exact ⟨_, hK, rfl⟩), hB.trans (belowK_b (w := w) (Nat.le_refl _) W D _ _ (by omega) hK rfl rfl)⟩
  case stop =>
    rintro D c pre W _ _ h _
    exact h.elim

end Go.Proofs.YtillcmddbjhepaaGreatDoor
