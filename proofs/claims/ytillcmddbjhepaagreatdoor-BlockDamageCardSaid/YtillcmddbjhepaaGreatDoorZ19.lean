/-
  The walks of Named and Names, the program's and the specification's; what they need of the world: the table of the named descriptions.
  The walks of the specification's Named, and of Names, the program's and the specification's.
-/
import Derived.Test.YtillcmddbjhepaaGreatDoorZ03
import Derived.Test.YtillcmddbjhepaaGreatDoorZ05
import Derived.Test.YtillcmddbjhepaaGreatDoorZ04
import Derived.Lib.LaidCase
namespace Go.Proofs.YtillcmddbjhepaaGreatDoor
namespace Sd
open Go.RowKit
set_option linter.unusedVariables false
set_option linter.unusedSimpArgs false

/-- The table's cells. -/
def tab : List Value := [.string ⟨#[99, 97, 110, 49, 53]⟩, .int .i64 15, .int .i64 17817, .int .i64 0, .int .i64 0, .bool false, .string ⟨#[99, 114, 99, 49, 54, 109, 111, 100, 98, 117, 115]⟩, .int .i64 16, .int .i64 32773, .int .i64 65535, .int .i64 0, .bool true, .string ⟨#[99, 114, 99, 51, 50]⟩, .int .i64 32, .int .i64 79764919, .int .i64 4294967295, .int .i64 4294967295, .bool true, .string ⟨#[99, 114, 99, 53, 117, 115, 98]⟩, .int .i64 5, .int .i64 5, .int .i64 31, .int .i64 31, .bool true, .string ⟨#[99, 114, 99, 56]⟩, .int .i64 8, .int .i64 7, .int .i64 0, .int .i64 0, .bool false]
def tabA : Array Value := tab.toArray
theorem gNamed : Tryz.prog.globalNamed "signalbench/check.named" = some 0 := by kernel_rfl
/-- The world holds the table. -/
def Env (w : World) : Prop := TabHas Tryz.prog w "signalbench/check.named" tab ∧ 0 < w.heap.size
theorem Env.below {w w' : World} (h : Env w) (hb : Below w.heap.size w w') : Env w' :=
  ⟨var?_below hb gNamed h.2 h.1, Nat.lt_of_lt_of_le h.2 hb.size⟩

def nm0 : List UInt8 := [99, 97, 110, 49, 53]
def nm1 : List UInt8 := [99, 114, 99, 49, 54, 109, 111, 100, 98, 117, 115]
def nm2 : List UInt8 := [99, 114, 99, 51, 50]
def nm3 : List UInt8 := [99, 114, 99, 53, 117, 115, 98]
def nm4 : List UInt8 := [99, 114, 99, 56]
/-- The description with a name, and whether there is one. -/
def nameT (l : List UInt8) : Value × Bool :=
  if l = nm0 then (crV 15 17817 0 0 false, true) else
  if l = nm1 then (crV 16 32773 65535 0 true, true) else
  if l = nm2 then (crV 32 79764919 4294967295 4294967295 true, true) else
  if l = nm3 then (crV 5 5 31 31 true, true) else
  if l = nm4 then (crV 8 7 0 0 false, true) else
  (crV 0 0 0 0 false, false)
def nameV (l : List UInt8) : Value := .tuple #[(nameT l).1, .bool (nameT l).2]
theorem nameV_0 {l : List UInt8} (h : l = nm0) : nameV l = .tuple #[crV 15 17817 0 0 false, .bool true] := by subst h; unfold nameV nameT; rfl
theorem nameV_1 {l : List UInt8} (h : l = nm1) : nameV l = .tuple #[crV 16 32773 65535 0 true, .bool true] := by subst h; unfold nameV nameT; rfl
theorem nameV_2 {l : List UInt8} (h : l = nm2) : nameV l = .tuple #[crV 32 79764919 4294967295 4294967295 true, .bool true] := by subst h; unfold nameV nameT; rfl
theorem nameV_3 {l : List UInt8} (h : l = nm3) : nameV l = .tuple #[crV 5 5 31 31 true, .bool true] := by subst h; unfold nameV nameT; rfl
theorem nameV_4 {l : List UInt8} (h : l = nm4) : nameV l = .tuple #[crV 8 7 0 0 false, .bool true] := by subst h; unfold nameV nameT; rfl
theorem nameV_no {l : List UInt8} (h0 : l ≠ nm0) (h1 : l ≠ nm1) (h2 : l ≠ nm2) (h3 : l ≠ nm3) (h4 : l ≠ nm4) : nameV l = .tuple #[crV 0 0 0 0 false, .bool false] := by unfold nameV nameT; rw [if_neg h0, if_neg h1, if_neg h2, if_neg h3, if_neg h4]
/-- The first k names are others. -/
def notN (l : List UInt8) (k : Nat) : Prop := (0 < k → l ≠ nm0) ∧ (1 < k → l ≠ nm1) ∧ (2 < k → l ≠ nm2) ∧ (3 < k → l ≠ nm3) ∧ (4 < k → l ≠ nm4)

theorem idx0 : ∀ w : World, (Instr.index 144 (.agg tabA) (.int .i64 0)).run Tryz.prog w = .ok (.agg #[.string ⟨#[99, 97, 110, 49, 53]⟩, .int .i64 15, .int .i64 17817, .int .i64 0, .int .i64 0, .bool false]) w := fun _ => by kernel_rfl
theorem idx1 : ∀ w : World, (Instr.index 144 (.agg tabA) (.int .i64 1)).run Tryz.prog w = .ok (.agg #[.string ⟨#[99, 114, 99, 49, 54, 109, 111, 100, 98, 117, 115]⟩, .int .i64 16, .int .i64 32773, .int .i64 65535, .int .i64 0, .bool true]) w := fun _ => by kernel_rfl
theorem idx2 : ∀ w : World, (Instr.index 144 (.agg tabA) (.int .i64 2)).run Tryz.prog w = .ok (.agg #[.string ⟨#[99, 114, 99, 51, 50]⟩, .int .i64 32, .int .i64 79764919, .int .i64 4294967295, .int .i64 4294967295, .bool true]) w := fun _ => by kernel_rfl
theorem idx3 : ∀ w : World, (Instr.index 144 (.agg tabA) (.int .i64 3)).run Tryz.prog w = .ok (.agg #[.string ⟨#[99, 114, 99, 53, 117, 115, 98]⟩, .int .i64 5, .int .i64 5, .int .i64 31, .int .i64 31, .bool true]) w := fun _ => by kernel_rfl
theorem idx4 : ∀ w : World, (Instr.index 144 (.agg tabA) (.int .i64 4)).run Tryz.prog w = .ok (.agg #[.string ⟨#[99, 114, 99, 56]⟩, .int .i64 8, .int .i64 7, .int .i64 0, .int .i64 0, .bool false]) w := fun _ => by kernel_rfl

set_option maxRecDepth 100000 in
set_option maxHeartbeats 2000000 in
theorem named_any (s : ByteArray) (w : World) (hE : Env w) :
    Calls Tryz.prog 92 #[.string s] w fun e w' => e = .returned (nameV s.toList) ∧ Below w.heap.size w w' := by
  have hE' := Lib.hid fun (o : Obj) => (hE.below (ba w o)).1
  clear hE
  go_enter Tryz.func92, Tryz.ntmps92
  go_wp2_with (refine wpList_table 144 Tryz.underlying144 rfl (by kernel_rfl) gNamed tabA rfl rfl rfl (hE'.out _) ?_)
  clear hE'
  go_loopw [7] (fun x wr => ∃ k : Nat, k ≤ 5 ∧ x = .int .i64 k ∧ Hid (notN s.toList k) ∧ Hid (RowAt wr w.heap.size 97 #[.int .i64 0, .int .i64 0, .int .i64 0, .int .i64 0, .bool false]) ∧ Below w.heap.size w wr) (fun x _ => 5 - (intOf x).toNat)
  case atStart => exact ⟨0, by omega, rfl, ⟨fun h => by omega, fun h => by omega, fun h => by omega, fun h => by omega, fun h => by omega⟩, RowAt.new _ _ _, ba w _⟩
  case round =>
    obtain ⟨k, hk, rfl, HN, HR, hb⟩ := hrel
    have hsz := hb.size
    have hlt := HR.out.lt
    have hk6 : k = 0 ∨ k = 1 ∨ k = 2 ∨ k = 3 ∨ k = 4 ∨ k = 5 := by omega
    rcases hk6 with rfl | rfl | rfl | rfl | rfl | rfl
    · have i := idx0
      by_cases hq : s.toList = nm0
      · have HV := Lib.hid (nameV_0 hq)
        have he : ([99, 97, 110, 49, 53] == s.toList) = true := by rw [hq]; rfl
        clear hq
        go_wp2_with (refine wpList_store_at (HR.out.alloc _) (Nat.le_refl _) #[.int .i64 15, .int .i64 17817, .int .i64 0, .int .i64 0, .bool false] (.tmp 2) (.tmp 15) 97 rfl rfl rfl rfl (by kernel_rfl) rfl rfl ?_; intro w2 r2 b2)
        have e0 : w2.cell? ⟨w.heap.size, 0, none⟩ = some (.int .i64 15) := r2.cell 0
        have e1 : w2.cell? ⟨w.heap.size, 1, none⟩ = some (.int .i64 17817) := r2.cell 1
        have e2 : w2.cell? ⟨w.heap.size, 2, none⟩ = some (.int .i64 0) := r2.cell 2
        have e3 : w2.cell? ⟨w.heap.size, 3, none⟩ = some (.int .i64 0) := r2.cell 3
        have e4 : w2.cell? ⟨w.heap.size, 4, none⟩ = some (.bool false) := r2.cell 4
        refine bodyPost_ret (v := .tuple #[.agg #[.int .i64 15, .int .i64 17817, .int .i64 0, .int .i64 0, .bool false], .bool true]) (by simp [results, Tryz.results92, go_sem, e0, e1, e2, e3, e4]) rfl ⟨by rw [HV.out]; rfl, (hb.alloc hsz _).trans b2⟩
      · have he : ([99, 97, 110, 49, 53] == s.toList) = false := by rw [beq_eq_false_iff_ne]; exact fun h => hq h.symm
        have HQ := Lib.hid hq
        clear hq
        go_wp2
        go_roundw
        case rel => exact ⟨1, by omega, rfl, ⟨fun _ => HQ.out, fun h => by omega, fun h => by omega, fun h => by omega, fun h => by omega⟩, HR.out.alloc _, hb.alloc hsz _⟩
        case measure => simp [intOf]
    · have i := idx1
      by_cases hq : s.toList = nm1
      · have HV := Lib.hid (nameV_1 hq)
        have he : ([99, 114, 99, 49, 54, 109, 111, 100, 98, 117, 115] == s.toList) = true := by rw [hq]; rfl
        clear hq
        go_wp2_with (refine wpList_store_at (HR.out.alloc _) (Nat.le_refl _) #[.int .i64 16, .int .i64 32773, .int .i64 65535, .int .i64 0, .bool true] (.tmp 2) (.tmp 15) 97 rfl rfl rfl rfl (by kernel_rfl) rfl rfl ?_; intro w2 r2 b2)
        have e0 : w2.cell? ⟨w.heap.size, 0, none⟩ = some (.int .i64 16) := r2.cell 0
        have e1 : w2.cell? ⟨w.heap.size, 1, none⟩ = some (.int .i64 32773) := r2.cell 1
        have e2 : w2.cell? ⟨w.heap.size, 2, none⟩ = some (.int .i64 65535) := r2.cell 2
        have e3 : w2.cell? ⟨w.heap.size, 3, none⟩ = some (.int .i64 0) := r2.cell 3
        have e4 : w2.cell? ⟨w.heap.size, 4, none⟩ = some (.bool true) := r2.cell 4
        refine bodyPost_ret (v := .tuple #[.agg #[.int .i64 16, .int .i64 32773, .int .i64 65535, .int .i64 0, .bool true], .bool true]) (by simp [results, Tryz.results92, go_sem, e0, e1, e2, e3, e4]) rfl ⟨by rw [HV.out]; rfl, (hb.alloc hsz _).trans b2⟩
      · have he : ([99, 114, 99, 49, 54, 109, 111, 100, 98, 117, 115] == s.toList) = false := by rw [beq_eq_false_iff_ne]; exact fun h => hq h.symm
        have HQ := Lib.hid hq
        clear hq
        go_wp2
        go_roundw
        case rel => exact ⟨2, by omega, rfl, ⟨fun _ => HN.out.1 (by omega), fun _ => HQ.out, fun h => by omega, fun h => by omega, fun h => by omega⟩, HR.out.alloc _, hb.alloc hsz _⟩
        case measure => simp [intOf]
    · have i := idx2
      by_cases hq : s.toList = nm2
      · have HV := Lib.hid (nameV_2 hq)
        have he : ([99, 114, 99, 51, 50] == s.toList) = true := by rw [hq]; rfl
        clear hq
        go_wp2_with (refine wpList_store_at (HR.out.alloc _) (Nat.le_refl _) #[.int .i64 32, .int .i64 79764919, .int .i64 4294967295, .int .i64 4294967295, .bool true] (.tmp 2) (.tmp 15) 97 rfl rfl rfl rfl (by kernel_rfl) rfl rfl ?_; intro w2 r2 b2)
        have e0 : w2.cell? ⟨w.heap.size, 0, none⟩ = some (.int .i64 32) := r2.cell 0
        have e1 : w2.cell? ⟨w.heap.size, 1, none⟩ = some (.int .i64 79764919) := r2.cell 1
        have e2 : w2.cell? ⟨w.heap.size, 2, none⟩ = some (.int .i64 4294967295) := r2.cell 2
        have e3 : w2.cell? ⟨w.heap.size, 3, none⟩ = some (.int .i64 4294967295) := r2.cell 3
        have e4 : w2.cell? ⟨w.heap.size, 4, none⟩ = some (.bool true) := r2.cell 4
        refine bodyPost_ret (v := .tuple #[.agg #[.int .i64 32, .int .i64 79764919, .int .i64 4294967295, .int .i64 4294967295, .bool true], .bool true]) (by simp [results, Tryz.results92, go_sem, e0, e1, e2, e3, e4]) rfl ⟨by rw [HV.out]; rfl, (hb.alloc hsz _).trans b2⟩
      · have he : ([99, 114, 99, 51, 50] == s.toList) = false := by rw [beq_eq_false_iff_ne]; exact fun h => hq h.symm
        have HQ := Lib.hid hq
        clear hq
        go_wp2
        go_roundw
        case rel => exact ⟨3, by omega, rfl, ⟨fun _ => HN.out.1 (by omega), fun _ => HN.out.2.1 (by omega), fun _ => HQ.out, fun h => by omega, fun h => by omega⟩, HR.out.alloc _, hb.alloc hsz _⟩
        case measure => simp [intOf]
    · have i := idx3
      by_cases hq : s.toList = nm3
      · have HV := Lib.hid (nameV_3 hq)
        have he : ([99, 114, 99, 53, 117, 115, 98] == s.toList) = true := by rw [hq]; rfl
        clear hq
        go_wp2_with (refine wpList_store_at (HR.out.alloc _) (Nat.le_refl _) #[.int .i64 5, .int .i64 5, .int .i64 31, .int .i64 31, .bool true] (.tmp 2) (.tmp 15) 97 rfl rfl rfl rfl (by kernel_rfl) rfl rfl ?_; intro w2 r2 b2)
        have e0 : w2.cell? ⟨w.heap.size, 0, none⟩ = some (.int .i64 5) := r2.cell 0
        have e1 : w2.cell? ⟨w.heap.size, 1, none⟩ = some (.int .i64 5) := r2.cell 1
        have e2 : w2.cell? ⟨w.heap.size, 2, none⟩ = some (.int .i64 31) := r2.cell 2
        have e3 : w2.cell? ⟨w.heap.size, 3, none⟩ = some (.int .i64 31) := r2.cell 3
        have e4 : w2.cell? ⟨w.heap.size, 4, none⟩ = some (.bool true) := r2.cell 4
        refine bodyPost_ret (v := .tuple #[.agg #[.int .i64 5, .int .i64 5, .int .i64 31, .int .i64 31, .bool true], .bool true]) (by simp [results, Tryz.results92, go_sem, e0, e1, e2, e3, e4]) rfl ⟨by rw [HV.out]; rfl, (hb.alloc hsz _).trans b2⟩
      · have he : ([99, 114, 99, 53, 117, 115, 98] == s.toList) = false := by rw [beq_eq_false_iff_ne]; exact fun h => hq h.symm
        have HQ := Lib.hid hq
        clear hq
        go_wp2
        go_roundw
        case rel => exact ⟨4, by omega, rfl, ⟨fun _ => HN.out.1 (by omega), fun _ => HN.out.2.1 (by omega), fun _ => HN.out.2.2.1 (by omega), fun _ => HQ.out, fun h => by omega⟩, HR.out.alloc _, hb.alloc hsz _⟩
        case measure => simp [intOf]
    · have i := idx4
      by_cases hq : s.toList = nm4
      · have HV := Lib.hid (nameV_4 hq)
        have he : ([99, 114, 99, 56] == s.toList) = true := by rw [hq]; rfl
        clear hq
        go_wp2_with (refine wpList_store_at (HR.out.alloc _) (Nat.le_refl _) #[.int .i64 8, .int .i64 7, .int .i64 0, .int .i64 0, .bool false] (.tmp 2) (.tmp 15) 97 rfl rfl rfl rfl (by kernel_rfl) rfl rfl ?_; intro w2 r2 b2)
        have e0 : w2.cell? ⟨w.heap.size, 0, none⟩ = some (.int .i64 8) := r2.cell 0
        have e1 : w2.cell? ⟨w.heap.size, 1, none⟩ = some (.int .i64 7) := r2.cell 1
        have e2 : w2.cell? ⟨w.heap.size, 2, none⟩ = some (.int .i64 0) := r2.cell 2
        have e3 : w2.cell? ⟨w.heap.size, 3, none⟩ = some (.int .i64 0) := r2.cell 3
        have e4 : w2.cell? ⟨w.heap.size, 4, none⟩ = some (.bool false) := r2.cell 4
        refine bodyPost_ret (v := .tuple #[.agg #[.int .i64 8, .int .i64 7, .int .i64 0, .int .i64 0, .bool false], .bool true]) (by simp [results, Tryz.results92, go_sem, e0, e1, e2, e3, e4]) rfl ⟨by rw [HV.out]; rfl, (hb.alloc hsz _).trans b2⟩
      · have he : ([99, 114, 99, 56] == s.toList) = false := by rw [beq_eq_false_iff_ne]; exact fun h => hq h.symm
        have HQ := Lib.hid hq
        clear hq
        go_wp2
        go_roundw
        case rel => exact ⟨5, by omega, rfl, ⟨fun _ => HN.out.1 (by omega), fun _ => HN.out.2.1 (by omega), fun _ => HN.out.2.2.1 (by omega), fun _ => HN.out.2.2.2.1 (by omega), fun _ => HQ.out⟩, HR.out.alloc _, hb.alloc hsz _⟩
        case measure => simp [intOf]
    · have HV := Lib.hid (nameV_no (HN.out.1 (by omega)) (HN.out.2.1 (by omega)) (HN.out.2.2.1 (by omega)) (HN.out.2.2.2.1 (by omega)) (HN.out.2.2.2.2 (by omega)))
      go_wp2_with (refine wpList_store_at HR.out (Nat.le_refl _) #[.int .i64 0, .int .i64 0, .int .i64 0, .int .i64 0, .bool false] (.tmp 2) (.tmp 17) 97 rfl rfl rfl rfl (by kernel_rfl) rfl rfl ?_; intro w2 r2 b2)
      have e0 : w2.cell? ⟨w.heap.size, 0, none⟩ = some (.int .i64 0) := r2.cell 0
      have e1 : w2.cell? ⟨w.heap.size, 1, none⟩ = some (.int .i64 0) := r2.cell 1
      have e2 : w2.cell? ⟨w.heap.size, 2, none⟩ = some (.int .i64 0) := r2.cell 2
      have e3 : w2.cell? ⟨w.heap.size, 3, none⟩ = some (.int .i64 0) := r2.cell 3
      have e4 : w2.cell? ⟨w.heap.size, 4, none⟩ = some (.bool false) := r2.cell 4
      refine bodyPost_ret (v := .tuple #[.agg #[.int .i64 0, .int .i64 0, .int .i64 0, .int .i64 0, .bool false], .bool false]) (by simp [results, Tryz.results92, go_sem, e0, e1, e2, e3, e4]) rfl ⟨by rw [HV.out]; rfl, hb.trans b2⟩

end Sd
end Go.Proofs.YtillcmddbjhepaaGreatDoor

namespace Go.Proofs.YtillcmddbjhepaaGreatDoor
namespace Sd
open Go.RowKit
set_option linter.unusedVariables false
set_option linter.unusedSimpArgs false

set_option maxRecDepth 100000 in
set_option maxHeartbeats 2000000 in
theorem rnamed_any (s : ByteArray) (w : World) :
    Calls Tryz.prog 64 #[.string s] w fun e w' => e = .returned (nameV s.toList) ∧ Below w.heap.size w w' := by
  by_cases h0 : s.toList = nm0
  · have HV := Lib.hid (nameV_0 h0)
    have he0 : (s.toList == [99, 97, 110, 49, 53]) = true := by rw [h0]; rfl
    clear h0
    go_enter Tryz.func64, Tryz.ntmps64
    go_wp2
    refine bodyPost_ret (v := .tuple #[.agg #[.int .i64 15, .int .i64 17817, .int .i64 0, .int .i64 0, .bool false], .bool true]) (by simp [results, Tryz.results64, go_sem]) rfl ⟨by rw [HV.out]; rfl, ba w _⟩
  by_cases h1 : s.toList = nm1
  · have HV := Lib.hid (nameV_1 h1)
    have he0 : (s.toList == [99, 97, 110, 49, 53]) = false := by rw [beq_eq_false_iff_ne]; exact h0
    have he1 : (s.toList == [99, 114, 99, 49, 54, 109, 111, 100, 98, 117, 115]) = true := by rw [h1]; rfl
    clear h0 h1
    go_enter Tryz.func64, Tryz.ntmps64
    go_wp2
    refine bodyPost_ret (v := .tuple #[.agg #[.int .i64 16, .int .i64 32773, .int .i64 65535, .int .i64 0, .bool true], .bool true]) (by simp [results, Tryz.results64, go_sem]) rfl ⟨by rw [HV.out]; rfl, ba w _⟩
  by_cases h2 : s.toList = nm2
  · have HV := Lib.hid (nameV_2 h2)
    have he0 : (s.toList == [99, 97, 110, 49, 53]) = false := by rw [beq_eq_false_iff_ne]; exact h0
    have he1 : (s.toList == [99, 114, 99, 49, 54, 109, 111, 100, 98, 117, 115]) = false := by rw [beq_eq_false_iff_ne]; exact h1
    have he2 : (s.toList == [99, 114, 99, 51, 50]) = true := by rw [h2]; rfl
    clear h0 h1 h2
    go_enter Tryz.func64, Tryz.ntmps64
    go_wp2
    refine bodyPost_ret (v := .tuple #[.agg #[.int .i64 32, .int .i64 79764919, .int .i64 4294967295, .int .i64 4294967295, .bool true], .bool true]) (by simp [results, Tryz.results64, go_sem]) rfl ⟨by rw [HV.out]; rfl, ba w _⟩
  by_cases h3 : s.toList = nm3
  · have HV := Lib.hid (nameV_3 h3)
    have he0 : (s.toList == [99, 97, 110, 49, 53]) = false := by rw [beq_eq_false_iff_ne]; exact h0
    have he1 : (s.toList == [99, 114, 99, 49, 54, 109, 111, 100, 98, 117, 115]) = false := by rw [beq_eq_false_iff_ne]; exact h1
    have he2 : (s.toList == [99, 114, 99, 51, 50]) = false := by rw [beq_eq_false_iff_ne]; exact h2
    have he3 : (s.toList == [99, 114, 99, 53, 117, 115, 98]) = true := by rw [h3]; rfl
    clear h0 h1 h2 h3
    go_enter Tryz.func64, Tryz.ntmps64
    go_wp2
    refine bodyPost_ret (v := .tuple #[.agg #[.int .i64 5, .int .i64 5, .int .i64 31, .int .i64 31, .bool true], .bool true]) (by simp [results, Tryz.results64, go_sem]) rfl ⟨by rw [HV.out]; rfl, ba w _⟩
  by_cases h4 : s.toList = nm4
  · have HV := Lib.hid (nameV_4 h4)
    have he0 : (s.toList == [99, 97, 110, 49, 53]) = false := by rw [beq_eq_false_iff_ne]; exact h0
    have he1 : (s.toList == [99, 114, 99, 49, 54, 109, 111, 100, 98, 117, 115]) = false := by rw [beq_eq_false_iff_ne]; exact h1
    have he2 : (s.toList == [99, 114, 99, 51, 50]) = false := by rw [beq_eq_false_iff_ne]; exact h2
    have he3 : (s.toList == [99, 114, 99, 53, 117, 115, 98]) = false := by rw [beq_eq_false_iff_ne]; exact h3
    have he4 : (s.toList == [99, 114, 99, 56]) = true := by rw [h4]; rfl
    clear h0 h1 h2 h3 h4
    go_enter Tryz.func64, Tryz.ntmps64
    go_wp2
    refine bodyPost_ret (v := .tuple #[.agg #[.int .i64 8, .int .i64 7, .int .i64 0, .int .i64 0, .bool false], .bool true]) (by simp [results, Tryz.results64, go_sem]) rfl ⟨by rw [HV.out]; rfl, ba w _⟩
  have HV := Lib.hid (nameV_no h0 h1 h2 h3 h4)
  have he0 : (s.toList == [99, 97, 110, 49, 53]) = false := by rw [beq_eq_false_iff_ne]; exact h0
  have he1 : (s.toList == [99, 114, 99, 49, 54, 109, 111, 100, 98, 117, 115]) = false := by rw [beq_eq_false_iff_ne]; exact h1
  have he2 : (s.toList == [99, 114, 99, 51, 50]) = false := by rw [beq_eq_false_iff_ne]; exact h2
  have he3 : (s.toList == [99, 114, 99, 53, 117, 115, 98]) = false := by rw [beq_eq_false_iff_ne]; exact h3
  have he4 : (s.toList == [99, 114, 99, 56]) = false := by rw [beq_eq_false_iff_ne]; exact h4
  clear h0 h1 h2 h3 h4
  go_enter Tryz.func64, Tryz.ntmps64
  go_wp2
  refine bodyPost_ret (v := .tuple #[.agg #[.int .i64 0, .int .i64 0, .int .i64 0, .int .i64 0, .bool false], .bool false]) (by simp [results, Tryz.results64, go_sem]) rfl ⟨by rw [HV.out]; rfl, ba w _⟩

/-- The names. -/
def nms : List ByteArray := [⟨#[99, 97, 110, 49, 53]⟩, ⟨#[99, 114, 99, 49, 54, 109, 111, 100, 98, 117, 115]⟩, ⟨#[99, 114, 99, 51, 50]⟩, ⟨#[99, 114, 99, 53, 117, 115, 98]⟩, ⟨#[99, 114, 99, 56]⟩]

end Sd
end Go.Proofs.YtillcmddbjhepaaGreatDoor
