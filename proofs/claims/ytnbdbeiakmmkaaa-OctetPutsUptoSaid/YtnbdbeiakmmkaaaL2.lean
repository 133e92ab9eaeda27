/-
  The walk of the statement OctetPuts, where the bytes are at most 2^20.
-/
import Derived.Test.YtnbdbeiakmmkaaaW4
import Derived.Deep.RegionWith
import Derived.Deep.DeepCutAuto
namespace Go.Proofs.Ytnbdbeiakmmkaaa
open Go.RowKit
set_option linter.unusedVariables false

theorem Made.conv' {w w' : World} {l : List UInt8} {e : Ending} (h : Made w l e w') : ∃ g n c, e = .returned (.slice (some ⟨g, 0, none⟩) n c) ∧ Hid (∀ W, Below w'.heap.size w' W → (convert 22 9 (.slice (some ⟨g, 0, none⟩) n c)).run Try.prog W = .ok (.string ⟨l.toArray⟩) W) ∧ Below w.heap.size w w' := by
  obtain ⟨g, n, c, rfl, ho, hb⟩ := h
  exact ⟨g, n, c, rfl, fun W hW => conv_rd ho.rd n c ho.len.symm W (fun p hp => hW.cell hp), hb⟩

set_option maxRecDepth 20000 in
set_option maxHeartbeats 4000000 in
theorem law_puts (A : Option Addr) (m c k : Nat) (i : Int) (l : List UInt8) (w : World) (hr : Rd w w.heap.size A l) (hn : m = l.length) (hc : m ≤ c) (hnil : A = none → c = 0) (hk : k < 18446744073709551616) (h0 : -9223372036854775808 ≤ i) (h1 : i ≤ 9223372036854775807) (hm : m ≤ 1048576) :
    Calls Try.prog 4 #[.slice A m c, .int .u64 k, .int .i64 i] w fun e w' => e = .returned (.bool true) ∧ Below w.heap.size w w' := by
  have rd : ∀ W0, Below w.heap.size w W0 → Rd W0 W0.heap.size A l := fun W0 hb => (hr.below hb (Nat.le_refl _)).more hb.size
  obtain ⟨S, hS⟩ : ∃ S : ByteArray, (⟨l.toArray⟩ : ByteArray) = S := ⟨_, rfl⟩
  have hSs : S.size = m := by rw [← hS, size_mk, hn]
  have hSl : S.data.toList = l := by rw [← hS]
  generalize hT1 : (⟨(l ++ put k).toArray⟩ : ByteArray) = T1
  generalize hT2 : (⟨(l ++ put (zg i)).toArray⟩ : ByteArray) = T2
  generalize hT3 : (⟨(l ++ put S.size ++ S.data.toList).toArray⟩ : ByteArray) = T3
  have C1 : ∀ W0, Below w.heap.size w W0 → Calls Try.prog 12 #[.slice A m c, .int .u64 k] W0 fun e w' => ∃ g n c, e = .returned (.slice (some ⟨g, 0, none⟩) n c) ∧ Hid (∀ W, Below w'.heap.size w' W → (convert 22 9 (.slice (some ⟨g, 0, none⟩) n c)).run Try.prog W = .ok (.string T1) W) ∧ Below W0.heap.size W0 w' := fun W0 hb => by
    rw [← hT1]; exact (putu_any A m c l k W0 (rd W0 hb) hn hc hnil hk (by omega)).mono fun _ _ h => h.conv'
  have C2 : ∀ W0, Below w.heap.size w W0 → Calls Try.prog 16 #[.slice A m c, .int .u64 k] W0 fun e w' => ∃ g n c, e = .returned (.slice (some ⟨g, 0, none⟩) n c) ∧ Hid (∀ W, Below w'.heap.size w' W → (convert 22 9 (.slice (some ⟨g, 0, none⟩) n c)).run Try.prog W = .ok (.string T1) W) ∧ Below W0.heap.size W0 w' := fun W0 hb => by
    rw [← hT1]; exact (rputu_any A m c l k W0 (rd W0 hb) hn hc hnil hk (by omega)).mono fun _ _ h => h.conv'
  have C3 : ∀ W0, Below w.heap.size w W0 → Calls Try.prog 11 #[.slice A m c, .int .i64 i] W0 fun e w' => ∃ g n c, e = .returned (.slice (some ⟨g, 0, none⟩) n c) ∧ Hid (∀ W, Below w'.heap.size w' W → (convert 22 9 (.slice (some ⟨g, 0, none⟩) n c)).run Try.prog W = .ok (.string T2) W) ∧ Below W0.heap.size W0 w' := fun W0 hb => by
    rw [← hT2]; exact (puti_any A m c l i W0 (rd W0 hb) hn hc hnil h0 h1 (by omega)).mono fun _ _ h => h.conv'
  have C4 : ∀ W0, Below w.heap.size w W0 → Calls Try.prog 17 #[.slice A m c, .int .i64 i] W0 fun e w' => ∃ g n c, e = .returned (.slice (some ⟨g, 0, none⟩) n c) ∧ Hid (∀ W, Below w'.heap.size w' W → (convert 22 9 (.slice (some ⟨g, 0, none⟩) n c)).run Try.prog W = .ok (.string T2) W) ∧ Below W0.heap.size W0 w' := fun W0 hb => by
    rw [← hT2]; exact (rputi_any A m c l i W0 (rd W0 hb) hn hc hnil h0 h1 (by omega)).mono fun _ _ h => h.conv'
  have C5 : ∀ W0, Below w.heap.size w W0 → Calls Try.prog 10 #[.slice A m c, .string S] W0 fun e w' => ∃ g n c, e = .returned (.slice (some ⟨g, 0, none⟩) n c) ∧ Hid (∀ W, Below w'.heap.size w' W → (convert 22 9 (.slice (some ⟨g, 0, none⟩) n c)).run Try.prog W = .ok (.string T3) W) ∧ Below W0.heap.size W0 w' := fun W0 hb => by
    rw [← hT3]; exact (putt_any A m c l S W0 (rd W0 hb) hn hc hnil (by omega)).mono fun _ _ h => h.conv'
  have C6 : ∀ W0, Below w.heap.size w W0 → Calls Try.prog 18 #[.slice A m c, .string S] W0 fun e w' => ∃ g n c, e = .returned (.slice (some ⟨g, 0, none⟩) n c) ∧ Hid (∀ W, Below w'.heap.size w' W → (convert 22 9 (.slice (some ⟨g, 0, none⟩) n c)).run Try.prog W = .ok (.string T3) W) ∧ Below W0.heap.size W0 w' := fun W0 hb => by
    rw [← hT3]; exact (rputt_any A m c l S W0 (rd W0 hb) hn hc hnil (by omega)).mono fun _ _ h => h.conv'
  have CB : ∀ W0, Below w.heap.size w W0 → (convert 22 9 (.slice A m c)).run Try.prog W0 = .ok (.string S) W0 := fun W0 hb => by
    rw [← hS]; exact conv_rd hr m c hn W0 (fun p hp => hb.cell hp)
  have H1 := Lib.hid C1; have H2 := Lib.hid C2; have H3 := Lib.hid C3; have H4 := Lib.hid C4; have H5 := Lib.hid C5; have H6 := Lib.hid C6; have HB := Lib.hid CB
  clear C1 C2 C3 C4 C5 C6 CB hT1 hT2 hT3 hS hSs hSl rd hr hn hc hnil hm
  go_enter Try.func4, Try.ntmps4
  go_upto_region 1 with fail
  go_cut [26] (fun s26 wx => s26 = .bool false ∧ Below w.heap.size w wx)
  case first =>
    go_region_with (first
      | (go_at_call 12; refine (H1.out _ (by (repeat' (first | with_reducible exact Below.refl _ _ | with_reducible exact Nat.le_refl _ | with_reducible assumption | with_reducible refine below_drewN ?_ _ | with_reducible refine Below.drew ?_ | with_reducible refine Below.trans ?_ (Below.mono (by assumption) ?_) | with_reducible refine Below.alloc ?_ ?_ _ | with_reducible refine le_alloc ?_ _ | with_reducible refine le_drewN ?_ _ | with_reducible refine le_drew ?_ | with_reducible refine Nat.le_trans ?_ (Below.size (by assumption)))))).mono ?_; rintro e wa ⟨ga, na, ca, rfl, fa, ba⟩; have ka := fa.out wa (Below.refl _ _))
      | (go_at_call 16; refine (H2.out _ (by (repeat' (first | with_reducible exact Below.refl _ _ | with_reducible exact Nat.le_refl _ | with_reducible assumption | with_reducible refine below_drewN ?_ _ | with_reducible refine Below.drew ?_ | with_reducible refine Below.trans ?_ (Below.mono (by assumption) ?_) | with_reducible refine Below.alloc ?_ ?_ _ | with_reducible refine le_alloc ?_ _ | with_reducible refine le_drewN ?_ _ | with_reducible refine le_drew ?_ | with_reducible refine Nat.le_trans ?_ (Below.size (by assumption)))))).mono ?_; rintro e wb ⟨gb, nb, cb, rfl, fb, bb⟩; have kb := fb.out wb (Below.refl _ _); have kab := fa.out wb (by (repeat' (first | with_reducible exact Below.refl _ _ | with_reducible exact Nat.le_refl _ | with_reducible assumption | with_reducible refine below_drewN ?_ _ | with_reducible refine Below.drew ?_ | with_reducible refine Below.trans ?_ (Below.mono (by assumption) ?_) | with_reducible refine Below.alloc ?_ ?_ _ | with_reducible refine le_alloc ?_ _ | with_reducible refine le_drewN ?_ _ | with_reducible refine le_drew ?_ | with_reducible refine Nat.le_trans ?_ (Below.size (by assumption))))))
      | (go_at_call 11; refine (H3.out _ (by (repeat' (first | with_reducible exact Below.refl _ _ | with_reducible exact Nat.le_refl _ | with_reducible assumption | with_reducible refine below_drewN ?_ _ | with_reducible refine Below.drew ?_ | with_reducible refine Below.trans ?_ (Below.mono (by assumption) ?_) | with_reducible refine Below.alloc ?_ ?_ _ | with_reducible refine le_alloc ?_ _ | with_reducible refine le_drewN ?_ _ | with_reducible refine le_drew ?_ | with_reducible refine Nat.le_trans ?_ (Below.size (by assumption)))))).mono ?_; rintro e wd ⟨gd, nd, cd, rfl, fd, bd⟩; have kd := fd.out wd (Below.refl _ _))
      | (go_at_call 17; refine (H4.out _ (by (repeat' (first | with_reducible exact Below.refl _ _ | with_reducible exact Nat.le_refl _ | with_reducible assumption | with_reducible refine below_drewN ?_ _ | with_reducible refine Below.drew ?_ | with_reducible refine Below.trans ?_ (Below.mono (by assumption) ?_) | with_reducible refine Below.alloc ?_ ?_ _ | with_reducible refine le_alloc ?_ _ | with_reducible refine le_drewN ?_ _ | with_reducible refine le_drew ?_ | with_reducible refine Nat.le_trans ?_ (Below.size (by assumption)))))).mono ?_; rintro e wf ⟨gf, nf, cf, rfl, ff, bf⟩; have kf := ff.out wf (Below.refl _ _); have kdf := fd.out wf (by (repeat' (first | with_reducible exact Below.refl _ _ | with_reducible exact Nat.le_refl _ | with_reducible assumption | with_reducible refine below_drewN ?_ _ | with_reducible refine Below.drew ?_ | with_reducible refine Below.trans ?_ (Below.mono (by assumption) ?_) | with_reducible refine Below.alloc ?_ ?_ _ | with_reducible refine le_alloc ?_ _ | with_reducible refine le_drewN ?_ _ | with_reducible refine le_drew ?_ | with_reducible refine Nat.le_trans ?_ (Below.size (by assumption)))))))
    all_goals
      go_wp2_with fail
      go_meet
      exact ⟨rfl, by (repeat' (first | with_reducible exact Below.refl _ _ | with_reducible exact Nat.le_refl _ | with_reducible assumption | with_reducible refine below_drewN ?_ _ | with_reducible refine Below.drew ?_ | with_reducible refine Below.trans ?_ (Below.mono (by assumption) ?_) | with_reducible refine Below.alloc ?_ ?_ _ | with_reducible refine le_alloc ?_ _ | with_reducible refine le_drewN ?_ _ | with_reducible refine le_drew ?_ | with_reducible refine Nat.le_trans ?_ (Below.size (by assumption))))⟩
  case rest =>
    obtain ⟨rfl, bw⟩ := hcut
    have kb0 := HB.out wc bw
    have kb1 := HB.out wc.drew bw.drew
    go_wp2_with fail
    go_region_with (first
      | (go_at_call 10; refine (H5.out _ (by (repeat' (first | with_reducible exact Below.refl _ _ | with_reducible exact Nat.le_refl _ | with_reducible assumption | with_reducible refine below_drewN ?_ _ | with_reducible refine Below.drew ?_ | with_reducible refine Below.trans ?_ (Below.mono (by assumption) ?_) | with_reducible refine Below.alloc ?_ ?_ _ | with_reducible refine le_alloc ?_ _ | with_reducible refine le_drewN ?_ _ | with_reducible refine le_drew ?_ | with_reducible refine Nat.le_trans ?_ (Below.size (by assumption)))))).mono ?_; rintro e wa ⟨ga, na, ca, rfl, fa, ba⟩; have ka := fa.out wa (Below.refl _ _); have kba := HB.out wa (by (repeat' (first | with_reducible exact Below.refl _ _ | with_reducible exact Nat.le_refl _ | with_reducible assumption | with_reducible refine below_drewN ?_ _ | with_reducible refine Below.drew ?_ | with_reducible refine Below.trans ?_ (Below.mono (by assumption) ?_) | with_reducible refine Below.alloc ?_ ?_ _ | with_reducible refine le_alloc ?_ _ | with_reducible refine le_drewN ?_ _ | with_reducible refine le_drew ?_ | with_reducible refine Nat.le_trans ?_ (Below.size (by assumption))))))
      | (go_at_call 18; refine (H6.out _ (by (repeat' (first | with_reducible exact Below.refl _ _ | with_reducible exact Nat.le_refl _ | with_reducible assumption | with_reducible refine below_drewN ?_ _ | with_reducible refine Below.drew ?_ | with_reducible refine Below.trans ?_ (Below.mono (by assumption) ?_) | with_reducible refine Below.alloc ?_ ?_ _ | with_reducible refine le_alloc ?_ _ | with_reducible refine le_drewN ?_ _ | with_reducible refine le_drew ?_ | with_reducible refine Nat.le_trans ?_ (Below.size (by assumption)))))).mono ?_; rintro e wb ⟨gb, nb, cb, rfl, fb, bb⟩; have kb := fb.out wb (Below.refl _ _); have kab := fa.out wb (by (repeat' (first | with_reducible exact Below.refl _ _ | with_reducible exact Nat.le_refl _ | with_reducible assumption | with_reducible refine below_drewN ?_ _ | with_reducible refine Below.drew ?_ | with_reducible refine Below.trans ?_ (Below.mono (by assumption) ?_) | with_reducible refine Below.alloc ?_ ?_ _ | with_reducible refine le_alloc ?_ _ | with_reducible refine le_drewN ?_ _ | with_reducible refine le_drew ?_ | with_reducible refine Nat.le_trans ?_ (Below.size (by assumption))))); have kbb := HB.out wb (by (repeat' (first | with_reducible exact Below.refl _ _ | with_reducible exact Nat.le_refl _ | with_reducible assumption | with_reducible refine below_drewN ?_ _ | with_reducible refine Below.drew ?_ | with_reducible refine Below.trans ?_ (Below.mono (by assumption) ?_) | with_reducible refine Below.alloc ?_ ?_ _ | with_reducible refine le_alloc ?_ _ | with_reducible refine le_drewN ?_ _ | with_reducible refine le_drew ?_ | with_reducible refine Nat.le_trans ?_ (Below.size (by assumption))))))
      | (go_at_call 9; refine (awake_any _).mono ?_; rintro e w5 ⟨rfl, b5⟩))
    all_goals
      go_wp2
      go_returns
      exact ⟨rfl, by (repeat' (first | with_reducible exact Below.refl _ _ | with_reducible exact Nat.le_refl _ | with_reducible assumption | with_reducible refine below_drewN ?_ _ | with_reducible refine Below.drew ?_ | with_reducible refine Below.trans ?_ (Below.mono (by assumption) ?_) | with_reducible refine Below.alloc ?_ ?_ _ | with_reducible refine le_alloc ?_ _ | with_reducible refine le_drewN ?_ _ | with_reducible refine le_drew ?_ | with_reducible refine Nat.le_trans ?_ (Below.size (by assumption))))⟩

end Go.Proofs.Ytnbdbeiakmmkaaa
