/-
  The specification's takeHead. (Written by tools/s10_genS2.py.)
-/
import Derived.Test.YtillcmddbjhepaaGreatDoorZ25
import Derived.Test.YtillcmddbjhepaaGreatDoorZ26
import Derived.Test.YtillcmddbjhepaaGreatDoorZ23
namespace Go.Proofs.YtillcmddbjhepaaGreatDoor
open Go Go.RowKit Go.Joins
set_option linter.unusedVariables false
set_option linter.unusedSimpArgs false

def enC (x : En) : Array Value := #[.int .i64 x.1, .int .i64 x.2.1, .int .i64 x.2.2]
theorem enC_size (x : En) : (enC x).size = 3 := rfl
theorem enC_one (x : En) : (enC x).toList.all (·.oneCell') = true := by unfold enC; rfl
theorem en_info : (Tryz.prog.info? 50).map (fun i => (i.zero, i.size, i.bytes)) = some (some (.agg #[.int .i64 0, .int .i64 0, .int .i64 0]), 3, 24) := by kernel_rfl
abbrev EnRow (w : World) (B : Nat) (v : Value) (l : List En) : Prop := KRow enC 3 50 w B v l
theorem wpList_append_en {w : World} {ops : Array Oper} {rest : List Oper} {o : Oper} {a : Act} {Q : Exit → Act → World → Prop} (hgd : o.guard = none) (s x : Operand)
    (ho : o.op = .call { callee := .builtin .append, args := #[s, x], argTypes := #[44, 44] })
    {B c : Nat} {v : Value} {l : List En} {g : Nat} {ya : Array Value} (t : En) (hya : ya = enC t) (hs : a.eval s = v) (hx : a.eval x = .slice (some ⟨g, 0, none⟩) 1 c) (hg : g = w.heap.size) (hf : EnRow w B v l) (hB : B ≤ w.heap.size) (hn : l.length ≤ 100000)
    (h : ∀ v' w', EnRow w' B v' (l ++ [t]) → Below B w w' → (∀ k, k < w.heap.size → some k ≠ v.ownBlock → w'.heap[k]? = w.heap[k]?) → wpList Tryz.prog ops Q rest (a.put o.dst v') w') : wpList Tryz.prog ops Q (o :: rest) a (w.alloc (.cells ya 50)) :=
  wpList_append_k2 (P := Tryz.prog) Tryz.underlying44 en_info rfl (by omega) enC_size hgd s x ho t hya hs hx hg hf hB (by subst hya; exact enC_one t) (by omega) (by omega) h

/-- What the specification's takeHead and ReadHead give. -/
def HhR (p : Hd × Nat) (w : World) (e : Ending) (w' : World) : Prop :=
  ∃ (vN vB : Value), e = .returned (.tuple #[.agg #[vN, .int .i64 p.1.2.1, .int .i64 p.1.2.2.1, vB, .int .i64 p.1.2.2.2.2], .int .i64 p.2]) ∧ Below w.heap.size w w' ∧ Si.NmRow w' w.heap.size vN p.1.1 ∧ EnRow w' w.heap.size vB p.1.2.2.2.1
theorem HhR.bad {p : Hd × Nat} {w w' : World} {er : Nat} (h : p = (noH, er)) (hb : Below w.heap.size w w') : HhR p w (.returned (.tuple #[.agg #[.slice none 0 0, .int .i64 0, .int .i64 0, .slice none 0 0, .int .i64 0], .int .i64 er])) w' := by
  subst h
  exact ⟨.slice none 0 0, .slice none 0 0, rfl, hb, KRow.nil _ _, KRow.nil _ _⟩

set_option maxRecDepth 100000 in
set_option maxHeartbeats 8000000 in
theorem rtakeHead_any (s : ByteArray) (w : World) (hs : s.size ≤ 140737488351232) :
    Calls Tryz.prog 48 #[.string s] w (HhR (rH s.data.toList) w) := by
  have hsl := size_len s
  have RB := Lib.hid (RowAt.new w 46 #[.slice none 0 0, .int .i64 0, .int .i64 0, .slice none 0 0, .int .i64 0])
  have KB := Lib.hid (ba w (.cells #[.slice none 0 0, .int .i64 0, .int .i64 0, .slice none 0 0, .int .i64 0] 46))
  obtain ⟨q, hq⟩ : ∃ q, rH s.data.toList = q := ⟨_, rfl⟩
  rw [hq]
  by_cases g1 : s.size < 3
  case pos =>
    have HBAD := Lib.hid (show q = (noH, 5) by rw [← hq]; unfold rH; rw [if_pos (by omega)])
    have g1i : (s.size : Int) < 3 := by omega
    clear hq hsl g1
    go_enter Tryz.func48, Tryz.ntmps48
    go_wp2_with (first
      | (refine wpList_store_at (B := w.heap.size) RB.out (Nat.le_refl _) #[.slice none 0 0, .int .i64 0, .int .i64 0, .slice none 0 0, .int .i64 0] (.tmp 2) _ 46 rfl rfl rfl rfl (by kernel_rfl) rfl rfl ?_; intro wz rz bz)
      | fail)
    have z0 : wz.cell? ⟨w.heap.size, 0, none⟩ = some (.slice none 0 0) := rz.cell 0
    have z1 : wz.cell? ⟨w.heap.size, 1, none⟩ = some (.int .i64 0) := rz.cell 1
    have z2 : wz.cell? ⟨w.heap.size, 2, none⟩ = some (.int .i64 0) := rz.cell 2
    have z3 : wz.cell? ⟨w.heap.size, 3, none⟩ = some (.slice none 0 0) := rz.cell 3
    have z4 : wz.cell? ⟨w.heap.size, 4, none⟩ = some (.int .i64 0) := rz.cell 4
    refine bodyPost_ret (v := .tuple #[.agg #[.slice none 0 0, .int .i64 0, .int .i64 0, .slice none 0 0, .int .i64 0], .int .i64 5]) (by simp [results, Tryz.results48, go_sem, z0, z1, z2, z3, z4]) rfl ?_
    exact HhR.bad HBAD.out (KB.out.trans bz)
  have g1i : ¬ (s.size : Int) < 3 := by omega
  have g2i : (2 : Int) ≤ s.size := by omega
  have g2j : (2 : Int) < s.size := by omega
  have g2n : 2 < s.size := by omega
  have hX : (s.extract 0 2).data.toList = s.data.toList.take 2 := by rw [ext_list]; rfl
  by_cases g2 : s.data.toList.take 2 = [83, 66]
  case neg =>
    have HBAD := Lib.hid (show q = (noH, 4) by rw [← hq]; unfold rH; rw [if_neg (by omega), if_neg g2])
    have k1 : (s.extract 0 2).toList ≠ [83, 66] := by rw [ByteArray.toList_eq, hX]; exact g2
    have k2 : (!((s.extract 0 2).toList == ([83, 66] : List UInt8))) = true := by
      rw [ByteArray.toList_eq, hX]; simpa using g2
    clear hq hsl g1 hX g2
    go_enter Tryz.func48, Tryz.ntmps48
    go_wp2_with (first
      | (refine wpList_store_at (B := w.heap.size) RB.out (Nat.le_refl _) #[.slice none 0 0, .int .i64 0, .int .i64 0, .slice none 0 0, .int .i64 0] (.tmp 2) _ 46 rfl rfl rfl rfl (by kernel_rfl) rfl rfl ?_; intro wz rz bz)
      | fail)
    have z0 : wz.cell? ⟨w.heap.size, 0, none⟩ = some (.slice none 0 0) := rz.cell 0
    have z1 : wz.cell? ⟨w.heap.size, 1, none⟩ = some (.int .i64 0) := rz.cell 1
    have z2 : wz.cell? ⟨w.heap.size, 2, none⟩ = some (.int .i64 0) := rz.cell 2
    have z3 : wz.cell? ⟨w.heap.size, 3, none⟩ = some (.slice none 0 0) := rz.cell 3
    have z4 : wz.cell? ⟨w.heap.size, 4, none⟩ = some (.int .i64 0) := rz.cell 4
    refine bodyPost_ret (v := .tuple #[.agg #[.slice none 0 0, .int .i64 0, .int .i64 0, .slice none 0 0, .int .i64 0], .int .i64 4]) (by simp [results, Tryz.results48, go_sem, z0, z1, z2, z3, z4]) rfl ?_
    exact HhR.bad HBAD.out (KB.out.trans bz)
  have k2 : (!((s.extract 0 2).toList == ([83, 66] : List UInt8))) = false := by
    rw [ByteArray.toList_eq, hX, g2]; rfl
  have hg : s.data.toList.getD 2 0 = s[2] := by
    rw [List.getD_eq_getElem?_getD, List.getElem?_eq_getElem (by rw [← size_len]; exact g2n)]; rfl
  by_cases g3 : s.data.toList.getD 2 0 = 1
  case neg =>
    have HBAD := Lib.hid (show q = (noH, 18) by rw [← hq]; unfold rH; rw [if_neg (by omega), if_pos g2, if_neg g3])
    have h4 : ¬ s[2].toNat = 1 := fun e => g3 (by rw [hg]; apply UInt8.toNat_inj.1; rw [e]; rfl)
    have h5 : ((s[2].toNat : Int) != 1) = true := by simp; omega
    clear hq hsl g1 hX g2 g3 hg
    go_enter Tryz.func48, Tryz.ntmps48
    go_wp2_with (first
      | (refine wpList_store_at (B := w.heap.size) RB.out (Nat.le_refl _) #[.slice none 0 0, .int .i64 0, .int .i64 0, .slice none 0 0, .int .i64 0] (.tmp 2) _ 46 rfl rfl rfl rfl (by kernel_rfl) rfl rfl ?_; intro wz rz bz)
      | fail)
    have z0 : wz.cell? ⟨w.heap.size, 0, none⟩ = some (.slice none 0 0) := rz.cell 0
    have z1 : wz.cell? ⟨w.heap.size, 1, none⟩ = some (.int .i64 0) := rz.cell 1
    have z2 : wz.cell? ⟨w.heap.size, 2, none⟩ = some (.int .i64 0) := rz.cell 2
    have z3 : wz.cell? ⟨w.heap.size, 3, none⟩ = some (.slice none 0 0) := rz.cell 3
    have z4 : wz.cell? ⟨w.heap.size, 4, none⟩ = some (.int .i64 0) := rz.cell 4
    refine bodyPost_ret (v := .tuple #[.agg #[.slice none 0 0, .int .i64 0, .int .i64 0, .slice none 0 0, .int .i64 0], .int .i64 18]) (by simp [results, Tryz.results48, go_sem, z0, z1, z2, z3, z4]) rfl ?_
    exact HhR.bad HBAD.out (KB.out.trans bz)
  have h4 : s[2].toNat = 1 := by rw [← hg, g3]; rfl
  have h0 : stE s.data.toList = 0 := by unfold stE; rw [if_neg (by omega), if_pos g2, if_pos g3]
  have h3l : 3 ≤ s.size := by omega
  clear g1 hX g2 g3 hg
  have CN := Lib.hid (fun W => rtakeNames_any s 3 W hs h3l)
  obtain ⟨⟨N, a1, e1⟩, h1⟩ : ∃ p, rNm s.data.toList 3 = p := ⟨_, rfl⟩
  rw [h1] at CN
  unfold RnR at CN
  simp only at CN
  have hq1 := hq
  rw [(rH_st h0).1] at hq1
  unfold rH1 at hq1
  rw [h1] at hq1
  simp only at hq1
  by_cases c1 : e1 = 0
  case neg =>
    have HBAD := Lib.hid (show q = (noH, e1) by rw [← hq1, if_neg c1])
    have c1' : ((e1 : Int) != 0) = true := by simp; omega
    clear h1 h0 hsl hq hq1 h3l
    go_enter Tryz.func48, Tryz.ntmps48
    go_wp2_with (first
      | (go_at_call 83; go_must (refine (CN.out _).mono ?_; rintro e w3 ⟨vN, rfl, ⟨nA, nn, nc, rfl⟩, hv, hb⟩; replace RB := Lib.hid (RB.out.keep hb); have NRN := Lib.hid (fun g (hg : (Value.slice nA nn nc).ownBlock = some g) => show w.heap.size < g by have := (KRow.lt hv g hg).1; rw [World.size_alloc] at this; omega); have NR := Lib.hid (KRow.mono hv KB.out.size); replace KB := Lib.hid (KB.out.trans (hb.mono KB.out.size)); clear hv hb CN))
      | (refine wpList_store_at (B := w.heap.size) RB.out (Nat.le_refl _) #[.slice none 0 0, .int .i64 0, .int .i64 0, .slice none 0 0, .int .i64 0] (.tmp 2) _ 46 rfl rfl rfl rfl (by kernel_rfl) rfl rfl ?_; intro wz rz bz)
      | fail)
    have z0 : wz.cell? ⟨w.heap.size, 0, none⟩ = some (.slice none 0 0) := rz.cell 0
    have z1 : wz.cell? ⟨w.heap.size, 1, none⟩ = some (.int .i64 0) := rz.cell 1
    have z2 : wz.cell? ⟨w.heap.size, 2, none⟩ = some (.int .i64 0) := rz.cell 2
    have z3 : wz.cell? ⟨w.heap.size, 3, none⟩ = some (.slice none 0 0) := rz.cell 3
    have z4 : wz.cell? ⟨w.heap.size, 4, none⟩ = some (.int .i64 0) := rz.cell 4
    refine bodyPost_ret (v := .tuple #[.agg #[.slice none 0 0, .int .i64 0, .int .i64 0, .slice none 0 0, .int .i64 0], .int .i64 e1]) (by simp [results, Tryz.results48, go_sem, z0, z1, z2, z3, z4]) rfl ?_
    exact HhR.bad HBAD.out (KB.out.trans bz)
  subst c1
  obtain ⟨ha1, hN16, hNs⟩ := rNm_le h1 (by omega)
  have hq2 : rH2 s.data.toList N a1 = q := by rw [← hq1, if_pos rfl]
  unfold rH2 at hq2
  have C2 := Lib.hid (fun W => rtakeNumber_any s a1 262144 W (by omega) (by decide))
  have hR := (rN_le s.data.toList a1 262144).1
  have ha2 := rN_next s.data.toList a1 262144 ha1
  obtain ⟨⟨R, a2, e2⟩, h2⟩ : ∃ p, rN s.data.toList a1 262144 = p := ⟨_, rfl⟩
  rw [h2] at C2 hq2 hR ha2
  unfold r3 at C2
  simp only at C2 hq2 hR ha2
  by_cases c2 : e2 = 0
  case neg =>
    have HBAD := Lib.hid (show q = (noH, e2) by rw [← hq2, if_neg c2])
    have c2' : ((e2 : Int) != 0) = true := by simp; omega
    clear h1 h0 hsl hq hq1 h3l hq2 h2 hR ha2 ha1 hN16 hNs
    go_enter Tryz.func48, Tryz.ntmps48
    go_wp2_with (first
      | (go_at_call 83; go_must (refine (CN.out _).mono ?_; rintro e w3 ⟨vN, rfl, ⟨nA, nn, nc, rfl⟩, hv, hb⟩; replace RB := Lib.hid (RB.out.keep hb); have NRN := Lib.hid (fun g (hg : (Value.slice nA nn nc).ownBlock = some g) => show w.heap.size < g by have := (KRow.lt hv g hg).1; rw [World.size_alloc] at this; omega); have NR := Lib.hid (KRow.mono hv KB.out.size); replace KB := Lib.hid (KB.out.trans (hb.mono KB.out.size)); clear hv hb CN))
      | (go_at_call 76; go_must (refine (C2.out _).mono ?_; rintro e w4 ⟨rfl, hb⟩; replace RB := Lib.hid (RB.out.keep hb); replace NR := Lib.hid (KRow.keep NR.out hb); replace KB := Lib.hid (KB.out.trans (hb.mono KB.out.size)); have T2 := Lib.hid trivial; clear hb C2))
      | (refine wpList_store_at (B := w.heap.size) RB.out (Nat.le_refl _) #[.slice none 0 0, .int .i64 0, .int .i64 0, .slice none 0 0, .int .i64 0] (.tmp 2) _ 46 rfl rfl rfl rfl (by kernel_rfl) rfl rfl ?_; intro wz rz bz)
      | fail)
    have z0 : wz.cell? ⟨w.heap.size, 0, none⟩ = some (.slice none 0 0) := rz.cell 0
    have z1 : wz.cell? ⟨w.heap.size, 1, none⟩ = some (.int .i64 0) := rz.cell 1
    have z2 : wz.cell? ⟨w.heap.size, 2, none⟩ = some (.int .i64 0) := rz.cell 2
    have z3 : wz.cell? ⟨w.heap.size, 3, none⟩ = some (.slice none 0 0) := rz.cell 3
    have z4 : wz.cell? ⟨w.heap.size, 4, none⟩ = some (.int .i64 0) := rz.cell 4
    refine bodyPost_ret (v := .tuple #[.agg #[.slice none 0 0, .int .i64 0, .int .i64 0, .slice none 0 0, .int .i64 0], .int .i64 e2]) (by simp [results, Tryz.results48, go_sem, z0, z1, z2, z3, z4]) rfl ?_
    exact HhR.bad HBAD.out (KB.out.trans bz)
  subst c2
  have hq3 : rH3 s.data.toList N R a2 = q := by rw [← hq2, if_pos rfl]
  unfold rH3 at hq3
  have C3 := Lib.hid (fun W => rtakeNumber_any s a2 1099511627776 W (by omega) (by decide))
  have hT := (rN_le s.data.toList a2 1099511627776).1
  have ha3 := rN_next s.data.toList a2 1099511627776 ha2
  obtain ⟨⟨T, a3, e3⟩, h3⟩ : ∃ p, rN s.data.toList a2 1099511627776 = p := ⟨_, rfl⟩
  rw [h3] at C3 hq3 hT ha3
  unfold r3 at C3
  simp only at C3 hq3 hT ha3
  by_cases c3 : e3 = 0
  case neg =>
    have HBAD := Lib.hid (show q = (noH, e3) by rw [← hq3, if_neg c3])
    have c3' : ((e3 : Int) != 0) = true := by simp; omega
    clear h1 h0 hsl hq hq1 h3l hq2 h2 hR ha2 ha1 hN16 hNs hq3 h3 hT ha3
    go_enter Tryz.func48, Tryz.ntmps48
    go_wp2_with (first
      | (go_at_call 83; go_must (refine (CN.out _).mono ?_; rintro e w3 ⟨vN, rfl, ⟨nA, nn, nc, rfl⟩, hv, hb⟩; replace RB := Lib.hid (RB.out.keep hb); have NRN := Lib.hid (fun g (hg : (Value.slice nA nn nc).ownBlock = some g) => show w.heap.size < g by have := (KRow.lt hv g hg).1; rw [World.size_alloc] at this; omega); have NR := Lib.hid (KRow.mono hv KB.out.size); replace KB := Lib.hid (KB.out.trans (hb.mono KB.out.size)); clear hv hb CN))
      | (go_at_call 76; go_must (first | (have tok := T2.out; refine (C3.out _).mono ?_; rintro e w5 ⟨rfl, hb⟩; replace RB := Lib.hid (RB.out.keep hb); replace NR := Lib.hid (KRow.keep NR.out hb); replace KB := Lib.hid (KB.out.trans (hb.mono KB.out.size)); clear hb C3 T2) | (refine (C2.out _).mono ?_; rintro e w4 ⟨rfl, hb⟩; replace RB := Lib.hid (RB.out.keep hb); replace NR := Lib.hid (KRow.keep NR.out hb); replace KB := Lib.hid (KB.out.trans (hb.mono KB.out.size)); have T2 := Lib.hid trivial; clear hb C2)))
      | (refine wpList_store_at (B := w.heap.size) RB.out (Nat.le_refl _) #[.slice none 0 0, .int .i64 0, .int .i64 0, .slice none 0 0, .int .i64 0] (.tmp 2) _ 46 rfl rfl rfl rfl (by kernel_rfl) rfl rfl ?_; intro wz rz bz)
      | fail)
    have z0 : wz.cell? ⟨w.heap.size, 0, none⟩ = some (.slice none 0 0) := rz.cell 0
    have z1 : wz.cell? ⟨w.heap.size, 1, none⟩ = some (.int .i64 0) := rz.cell 1
    have z2 : wz.cell? ⟨w.heap.size, 2, none⟩ = some (.int .i64 0) := rz.cell 2
    have z3 : wz.cell? ⟨w.heap.size, 3, none⟩ = some (.slice none 0 0) := rz.cell 3
    have z4 : wz.cell? ⟨w.heap.size, 4, none⟩ = some (.int .i64 0) := rz.cell 4
    refine bodyPost_ret (v := .tuple #[.agg #[.slice none 0 0, .int .i64 0, .int .i64 0, .slice none 0 0, .int .i64 0], .int .i64 e3]) (by simp [results, Tryz.results48, go_sem, z0, z1, z2, z3, z4]) rfl ?_
    exact HhR.bad HBAD.out (KB.out.trans bz)
  subst c3
  have hq4 : rH4 s.data.toList N R T a3 = q := by rw [← hq3, if_pos rfl]
  unfold rH4 at hq4
  have CU := Lib.hid (fun W => Sb.rtaku_any s a3 W (by omega))
  have hub := Sb.tu_bounds s.data.toList a3
  unfold Sb.tuVal at CU
  obtain ⟨V, hV⟩ : ∃ V, Sb.tuV s.data.toList a3 = V := ⟨_, rfl⟩
  obtain ⟨a4, hM⟩ : ∃ M, Sb.tuN s.data.toList a3 = M := ⟨_, rfl⟩
  obtain ⟨e4, hE⟩ : ∃ E, Sb.tuE s.data.toList a3 = E := ⟨_, rfl⟩
  rw [hV, hM, hE] at CU hub
  rw [hV, hM, hE] at hq4
  by_cases c4 : e4 = 0
  case neg =>
    have HBAD := Lib.hid (show q = (noH, e4) by rw [← hq4, if_neg c4])
    have c4' : ((e4 : Int) != 0) = true := by simp; omega
    clear h1 h0 hsl hq hq1 h3l hq2 h2 hR ha2 ha1 hN16 hNs hq3 h3 hT ha3 hq4 hV hM hE hub
    go_enter Tryz.func48, Tryz.ntmps48
    go_wp2_with (first
      | (go_at_call 83; go_must (refine (CN.out _).mono ?_; rintro e w3 ⟨vN, rfl, ⟨nA, nn, nc, rfl⟩, hv, hb⟩; replace RB := Lib.hid (RB.out.keep hb); have NRN := Lib.hid (fun g (hg : (Value.slice nA nn nc).ownBlock = some g) => show w.heap.size < g by have := (KRow.lt hv g hg).1; rw [World.size_alloc] at this; omega); have NR := Lib.hid (KRow.mono hv KB.out.size); replace KB := Lib.hid (KB.out.trans (hb.mono KB.out.size)); clear hv hb CN))
      | (go_at_call 76; go_must (first | (have tok := T2.out; refine (C3.out _).mono ?_; rintro e w5 ⟨rfl, hb⟩; replace RB := Lib.hid (RB.out.keep hb); replace NR := Lib.hid (KRow.keep NR.out hb); replace KB := Lib.hid (KB.out.trans (hb.mono KB.out.size)); clear hb C3 T2) | (refine (C2.out _).mono ?_; rintro e w4 ⟨rfl, hb⟩; replace RB := Lib.hid (RB.out.keep hb); replace NR := Lib.hid (KRow.keep NR.out hb); replace KB := Lib.hid (KB.out.trans (hb.mono KB.out.size)); have T2 := Lib.hid trivial; clear hb C2)))
      | (go_at_call 84; go_must (refine (CU.out _).mono ?_; rintro e w6 ⟨rfl, rfl⟩))
      | (refine wpList_store_at (B := w.heap.size) RB.out (Nat.le_refl _) #[.slice none 0 0, .int .i64 0, .int .i64 0, .slice none 0 0, .int .i64 0] (.tmp 2) _ 46 rfl rfl rfl rfl (by kernel_rfl) rfl rfl ?_; intro wz rz bz)
      | fail)
    have z0 : wz.cell? ⟨w.heap.size, 0, none⟩ = some (.slice none 0 0) := rz.cell 0
    have z1 : wz.cell? ⟨w.heap.size, 1, none⟩ = some (.int .i64 0) := rz.cell 1
    have z2 : wz.cell? ⟨w.heap.size, 2, none⟩ = some (.int .i64 0) := rz.cell 2
    have z3 : wz.cell? ⟨w.heap.size, 3, none⟩ = some (.slice none 0 0) := rz.cell 3
    have z4 : wz.cell? ⟨w.heap.size, 4, none⟩ = some (.int .i64 0) := rz.cell 4
    refine bodyPost_ret (v := .tuple #[.agg #[.slice none 0 0, .int .i64 0, .int .i64 0, .slice none 0 0, .int .i64 0], .int .i64 e4]) (by simp [results, Tryz.results48, go_sem, z0, z1, z2, z3, z4]) rfl ?_
    exact HhR.bad HBAD.out (KB.out.trans bz)
  subst c4
  rw [if_pos rfl] at hq4
  have CB := Lib.hid (fun W => rblocks_any R W (by omega))
  have hbk : bkN R ≤ 16384 := by unfold bkN; omega
  have hbw : IntKind.u64.wrap ((bkN R : Nat) : Int) = (bkN R : Int) := IntWalk.u64_in _ (by omega)
  by_cases c5 : V = bkN R
  case neg =>
    have HBAD := Lib.hid (show q = (noH, 12) by rw [← hq4, if_neg c5])
    have c5' : ((V : Int) != (bkN R : Int)) = true := by simp; omega
    clear h1 h0 hsl hq hq1 h3l hq2 h2 hR ha2 ha1 hN16 hNs hq3 h3 hT ha3 hq4 hV hM hE hub c5 hbk
    generalize bkN R = nb at *
    go_enter Tryz.func48, Tryz.ntmps48
    go_wp2_with (first
      | (go_at_call 83; go_must (refine (CN.out _).mono ?_; rintro e w3 ⟨vN, rfl, ⟨nA, nn, nc, rfl⟩, hv, hb⟩; replace RB := Lib.hid (RB.out.keep hb); have NRN := Lib.hid (fun g (hg : (Value.slice nA nn nc).ownBlock = some g) => show w.heap.size < g by have := (KRow.lt hv g hg).1; rw [World.size_alloc] at this; omega); have NR := Lib.hid (KRow.mono hv KB.out.size); replace KB := Lib.hid (KB.out.trans (hb.mono KB.out.size)); clear hv hb CN))
      | (go_at_call 76; go_must (first | (have tok := T2.out; refine (C3.out _).mono ?_; rintro e w5 ⟨rfl, hb⟩; replace RB := Lib.hid (RB.out.keep hb); replace NR := Lib.hid (KRow.keep NR.out hb); replace KB := Lib.hid (KB.out.trans (hb.mono KB.out.size)); clear hb C3 T2) | (refine (C2.out _).mono ?_; rintro e w4 ⟨rfl, hb⟩; replace RB := Lib.hid (RB.out.keep hb); replace NR := Lib.hid (KRow.keep NR.out hb); replace KB := Lib.hid (KB.out.trans (hb.mono KB.out.size)); have T2 := Lib.hid trivial; clear hb C2)))
      | (go_at_call 84; go_must (refine (CU.out _).mono ?_; rintro e w6 ⟨rfl, rfl⟩))
      | (go_at_call 33; go_must (refine (CB.out _).mono ?_; rintro e w7 ⟨rfl, rfl⟩))
      | (refine wpList_store_at (B := w.heap.size) RB.out (Nat.le_refl _) #[.slice none 0 0, .int .i64 0, .int .i64 0, .slice none 0 0, .int .i64 0] (.tmp 2) _ 46 rfl rfl rfl rfl (by kernel_rfl) rfl rfl ?_; intro wz rz bz)
      | fail)
    have z0 : wz.cell? ⟨w.heap.size, 0, none⟩ = some (.slice none 0 0) := rz.cell 0
    have z1 : wz.cell? ⟨w.heap.size, 1, none⟩ = some (.int .i64 0) := rz.cell 1
    have z2 : wz.cell? ⟨w.heap.size, 2, none⟩ = some (.int .i64 0) := rz.cell 2
    have z3 : wz.cell? ⟨w.heap.size, 3, none⟩ = some (.slice none 0 0) := rz.cell 3
    have z4 : wz.cell? ⟨w.heap.size, 4, none⟩ = some (.int .i64 0) := rz.cell 4
    refine bodyPost_ret (v := .tuple #[.agg #[.slice none 0 0, .int .i64 0, .int .i64 0, .slice none 0 0, .int .i64 0], .int .i64 12]) (by simp [results, Tryz.results48, go_sem, z0, z1, z2, z3, z4]) rfl ?_
    exact HhR.bad HBAD.out (KB.out.trans bz)
  have c5' : ((V : Int) != (bkN R : Int)) = false := by simp; omega
  rw [if_pos c5] at hq4
  clear hq hq1 hq2 hq3 hV hM hE h1 h2 h3 h0 c5
  unfold rH5 at hq4
  have HQ := Lib.hid hq4
  have hbs : a4 ≤ s.size := by omega
  have CE := Lib.hid (fun b W (hb : b ≤ s.size) => rtakeEntry_any s b W (by omega) hb)
  have CF := Lib.hid (fun b W (hb : b ≤ s.size) => rtakeFour_any s b W (by omega) hb)
  have CC := Lib.hid (fun b W => rchecksum_any (s.extract 0 b) W (by rw [ByteArray.size_extract]; omega))
  have HSL := Lib.hid hsl
  have HNB := Lib.hid (show bkN R = (R + 15) / 16 from rfl)
  clear hq4 hsl hR hT ha2 ha3 hub
  go_enter Tryz.func48, Tryz.ntmps48
  go_wp2_with (first
    | (go_at_call 83; go_must (refine (CN.out _).mono ?_; rintro e w3 ⟨vN, rfl, ⟨nA, nn, nc, rfl⟩, hv, hb⟩; replace RB := Lib.hid (RB.out.keep hb); have NRN := Lib.hid (fun g (hg : (Value.slice nA nn nc).ownBlock = some g) => show w.heap.size < g by have := (KRow.lt hv g hg).1; rw [World.size_alloc] at this; omega); have NR := Lib.hid (KRow.mono hv KB.out.size); replace KB := Lib.hid (KB.out.trans (hb.mono KB.out.size)); clear hv hb CN))
    | (go_at_call 76; go_must (first | (have tok := T2.out; refine (C3.out _).mono ?_; rintro e w5 ⟨rfl, hb⟩; replace RB := Lib.hid (RB.out.keep hb); replace NR := Lib.hid (KRow.keep NR.out hb); replace KB := Lib.hid (KB.out.trans (hb.mono KB.out.size)); clear hb C3 T2) | (refine (C2.out _).mono ?_; rintro e w4 ⟨rfl, hb⟩; replace RB := Lib.hid (RB.out.keep hb); replace NR := Lib.hid (KRow.keep NR.out hb); replace KB := Lib.hid (KB.out.trans (hb.mono KB.out.size)); have T2 := Lib.hid trivial; clear hb C2)))
    | (go_at_call 84; go_must (refine (CU.out _).mono ?_; rintro e w6 ⟨rfl, rfl⟩))
    | (go_at_call 33; go_must (refine (CB.out _).mono ?_; rintro e w7 ⟨rfl, rfl⟩))
    | fail)
  have OB : w.heap.size < w5.heap.size := RB.out.lt
  have ON := Lib.hid (KRow.lt NR.out)
  have RB0 := Lib.hid (RB.out.alloc (.cells #[.slice nA nn nc, .int .i64 R, .int .i64 T, .slice none 0 0, .int .i64 0] 46))
  have NR0 := Lib.hid (KRow.alloc NR.out (.cells #[.slice nA nn nc, .int .i64 R, .int .i64 T, .slice none 0 0, .int .i64 0] 46))
  have KB0 := Lib.hid (KB.out.alloc KB.out.size (.cells #[.slice nA nn nc, .int .i64 R, .int .i64 T, .slice none 0 0, .int .i64 0] 46))
  have HH0 := Lib.hid (RowAt.new w5 46 #[.slice nA nn nc, .int .i64 R, .int .i64 T, .slice none 0 0, .int .i64 0])
  have HA0 := Lib.hid (aL_nil _ (tEn_bad s.data.toList (bkN R) a4))
  clear RB NR KB
  obtain ⟨bh, hbh⟩ : ∃ bh, w5.heap.size = bh := ⟨_, rfl⟩
  rw [hbh] at OB ON HH0 ⊢
  go_loopw [5, 6, 11] (fun x y i wr => ∃ (X : List En) (b : Nat) (vB : Value), X.length ≤ bkN R ∧ b ≤ s.size ∧ x = .int .i64 b ∧ y = .int .i64 0 ∧ i = .int .i64 X.length ∧ Hid (aL X (tEn s.data.toList (bkN R - X.length) b) = tEn s.data.toList (bkN R) a4) ∧ Hid (EnRow wr (bh + 1) vB X) ∧ Hid (RowAt wr w.heap.size 46 #[.slice none 0 0, .int .i64 0, .int .i64 0, .slice none 0 0, .int .i64 0]) ∧ Hid (RowAt wr bh 46 #[.slice nA nn nc, .int .i64 R, .int .i64 T, vB, .int .i64 0]) ∧ Hid (Si.NmRow wr w.heap.size (.slice nA nn nc) N) ∧ Hid (Below w.heap.size w wr)) (fun _ _ i _ => bkN R - (intOf i).toNat)
  case atStart => exact ⟨[], a4, .slice none 0 0, Nat.zero_le _, hbs, rfl, rfl, rfl, HA0, Lib.hid (KRow.nil _ _), RB0, HH0, NR0, KB0⟩
  case round =>
    clear RB0 HH0 NR0 KB0 HA0 hbs
    obtain ⟨X, b, vB, hX, hb, rfl, rfl, rfl, HA, ER, RB, HH, NR, KB⟩ := hrel
    obtain ⟨vA, vn, vc, rfl, hvn⟩ := KRow.form ER.out
    clear hvn
    have hbi : (b : Int) ≤ s.size := by omega
    by_cases hlt : X.length < bkN R
    · obtain ⟨m, hm⟩ : ∃ m, bkN R - X.length = m + 1 := ⟨bkN R - X.length - 1, by omega⟩
      have HM := Lib.hid hm
      rw [hm] at HA
      have hXi : (X.length : Int) < (bkN R : Int) := by omega
      have hXb : (bkN R : Int) ≤ 16384 := by omega
      have HLN := Lib.hid (show X.length ≤ 100000 by omega)
      have CE1 := Lib.hid (fun W => CE.out b W hb)
      have HLE := Lib.hid (fun (h : (rE s.data.toList b).2.2 = 0) => (rE_bd h).2.2.2)
      have HTO := Lib.hid (fun (h : (rE s.data.toList b).2.2 = 0) => tEn_ok (l := s.data.toList) (k := m) (a := b) h)
      have HTN := Lib.hid (fun (h : ¬ (rE s.data.toList b).2.2 = 0) => tEn_no (l := s.data.toList) (k := m) (a := b) h)
      generalize rE s.data.toList b = P at *
      obtain ⟨⟨x1, x2, x3⟩, y, z⟩ := P
      unfold rEV enV at CE1
      simp only at CE1 HTO HTN HLE
      have HBS := Lib.hid (show bh < wr.heap.size from HH.out.lt)
      have ERLT := Lib.hid (KRow.lt ER.out)
      have OBS : bh < wr.heap.size := HBS.out
      by_cases hE : z = 0
      · subst hE
        have HT := Lib.hid (HTO.out rfl)
        have HY := Lib.hid (HLE.out rfl)
        clear HTO HTN HLE hm
        go_wp2_with (first
          | (go_at_call 33; go_must (refine (CB.out _).mono ?_; rintro e w7 ⟨rfl, rfl⟩))
          | (go_at_call 85; go_must (refine (CE1.out _).mono ?_; rintro e w8 ⟨rfl, hk⟩; have RX := Lib.hid (RowAt.keep (RowAt.new wr 50 #[.int .i64 0, .int .i64 0, .int .i64 0]) hk); replace ER := Lib.hid (KRow.keep (KRow.alloc ER.out _) hk); replace RB := Lib.hid ((RB.out.alloc _).keep hk); replace HH := Lib.hid ((HH.out.alloc _).keep hk); replace NR := Lib.hid (KRow.keep (KRow.alloc NR.out _) hk); replace KB := Lib.hid ((KB.out.alloc KB.out.size _).trans (hk.mono (le_alloc KB.out.size _))); clear hk CE1))
          | (refine wpList_store_kp RX.out #[.int .i64 x1, .int .i64 x2, .int .i64 x3] (.tmp 12) _ 50 rfl rfl rfl rfl (by kernel_rfl) rfl rfl ?_; intro w9 rx kx; replace ER := Lib.hid (KRow.kp ER.out kx (fun g hg => by have := ERLT.out g hg; simp; omega)); replace RB := Lib.hid (kx.row RB.out (by simp; omega)); replace HH := Lib.hid (kx.row HH.out (by simp; omega)); replace NR := Lib.hid (KRow.kp NR.out kx (fun g hg => by have := ON.out g hg; have := HBS.out; simp; omega)); replace KB := Lib.hid (KB.out.trans (kx.below (B := w.heap.size) (by have := HBS.out; simp; omega) KB.out.size)); have q0 : w9.cell? ⟨wr.heap.size, 0, none⟩ = some (.int .i64 x1) := rx.cell 0; have q1 : w9.cell? ⟨wr.heap.size, 1, none⟩ = some (.int .i64 x2) := rx.cell 1; have q2 : w9.cell? ⟨wr.heap.size, 2, none⟩ = some (.int .i64 x3) := rx.cell 2; have q3 : w9.cell? ⟨bh, 3, none⟩ = some (.slice vA vn vc) := HH.out.cell 3; clear rx kx RX)
          | (at_builtin; go_must (refine wpList_append_en rfl (.tmp 99) (.tmp 101) rfl (x1, x2, x3) rfl rfl rfl rfl ER.out (show bh + 1 ≤ w9.heap.size by have := HH.out.lt; omega) HLN.out ?_; intro v8 wA r8 b8 n8; obtain ⟨uA, un, uc, rfl, hun⟩ := KRow.form r8; clear hun n8; have hbh : bh < wA.heap.size := Nat.lt_of_lt_of_le HH.out.lt b8.size; replace RB := Lib.hid (RB.out.below b8 (by omega)); replace HH := Lib.hid (HH.out.below b8 (Nat.lt_succ_self _)); replace NR := Lib.hid (show Si.NmRow wA w.heap.size (.slice nA nn nc) N from Below.ownsRow NR.out b8 (fun g hg => by have := ON.out g hg; omega)); replace KB := Lib.hid (KB.out.trans (b8.mono (by omega))); have ER8 := Lib.hid r8; have q4 : wA.cell? ⟨bh, 3, none⟩ = some (.slice vA vn vc) := HH.out.cell 3; have q5 : wA.frozen? ⟨bh, 3, none⟩ = false := HH.out.frozen 3; clear r8 b8 q0 q1 q2 q3 ER))
          | fail)
        have hk2 : Kp [bh] wA (wA.setCell ⟨bh, 3, none⟩ (.slice uA un uc)) := Kp.setCell (p := ⟨bh, 3, none⟩) (Kp.refl [bh] _) (.inl (by simp)) _
        have hlen : (X ++ [((x1, x2, x3) : En)]).length = X.length + 1 := by rw [List.length_append]; rfl
        have hm2 : bkN R - (X.length + 1) = m := by have := HM.out; omega
        refine ⟨⟨X ++ [(x1, x2, x3)], y, .slice uA un uc, by rw [hlen]; omega, by have := HY.out; have := HSL.out; omega, rfl, rfl, val_int (by rw [hlen]; simp), Lib.hid ?_, Lib.hid (KRow.kp ER8.out hk2 (fun g hg => by have := KRow.lt ER8.out g hg; simp; omega)), Lib.hid (hk2.row RB.out (by simp; omega)), Lib.hid (RowAt.set HH.out 3 (.slice uA un uc)), Lib.hid (KRow.kp NR.out hk2 (fun g hg => by have := ON.out g hg; simp; omega)), Lib.hid (KB.out.setCell (p := ⟨bh, 3, none⟩) (by show w.heap.size ≤ bh; omega) _)⟩, by simp [intOf]; omega⟩
        rw [hlen, hm2, ← aL_cons, ← HT.out]; exact HA.out
      · have hE2 : ((z : Int) != 0) = true := by simp; omega
        have HBAD := Lib.hid (show q = (noH, z) by
          have h2 := HTN.out hE
          rw [← HQ.out, ← HA.out, h2]
          unfold aL
          rw [if_neg hE]
          rw [if_neg hE])
        clear HTO HTN HLE hm
        go_wp2_with (first
          | (go_at_call 33; go_must (refine (CB.out _).mono ?_; rintro e w7 ⟨rfl, rfl⟩))
          | (go_at_call 85; go_must (refine (CE1.out _).mono ?_; rintro e w8 ⟨rfl, hk⟩; have RX := Lib.hid (RowAt.keep (RowAt.new wr 50 #[.int .i64 0, .int .i64 0, .int .i64 0]) hk); replace ER := Lib.hid (KRow.keep (KRow.alloc ER.out _) hk); replace RB := Lib.hid ((RB.out.alloc _).keep hk); replace HH := Lib.hid ((HH.out.alloc _).keep hk); replace NR := Lib.hid (KRow.keep (KRow.alloc NR.out _) hk); replace KB := Lib.hid ((KB.out.alloc KB.out.size _).trans (hk.mono (le_alloc KB.out.size _))); clear hk CE1))
          | (refine wpList_store_kp RX.out #[.int .i64 x1, .int .i64 x2, .int .i64 x3] (.tmp 12) _ 50 rfl rfl rfl rfl (by kernel_rfl) rfl rfl ?_; intro w9 rx kx; replace ER := Lib.hid (KRow.kp ER.out kx (fun g hg => by have := ERLT.out g hg; simp; omega)); replace RB := Lib.hid (kx.row RB.out (by simp; omega)); replace HH := Lib.hid (kx.row HH.out (by simp; omega)); replace NR := Lib.hid (KRow.kp NR.out kx (fun g hg => by have := ON.out g hg; have := HBS.out; simp; omega)); replace KB := Lib.hid (KB.out.trans (kx.below (B := w.heap.size) (by have := HBS.out; simp; omega) KB.out.size)); have q0 : w9.cell? ⟨wr.heap.size, 0, none⟩ = some (.int .i64 x1) := rx.cell 0; have q1 : w9.cell? ⟨wr.heap.size, 1, none⟩ = some (.int .i64 x2) := rx.cell 1; have q2 : w9.cell? ⟨wr.heap.size, 2, none⟩ = some (.int .i64 x3) := rx.cell 2; have q3 : w9.cell? ⟨bh, 3, none⟩ = some (.slice vA vn vc) := HH.out.cell 3; clear rx kx RX)
          | (refine wpList_store_at (B := w.heap.size) RB.out (Nat.le_refl _) #[.slice none 0 0, .int .i64 0, .int .i64 0, .slice none 0 0, .int .i64 0] (.tmp 2) _ 46 rfl rfl rfl rfl (by kernel_rfl) rfl rfl ?_; intro wz rz bz)
          | fail)
        have z0 : wz.cell? ⟨w.heap.size, 0, none⟩ = some (.slice none 0 0) := rz.cell 0
        have z1 : wz.cell? ⟨w.heap.size, 1, none⟩ = some (.int .i64 0) := rz.cell 1
        have z2 : wz.cell? ⟨w.heap.size, 2, none⟩ = some (.int .i64 0) := rz.cell 2
        have z3 : wz.cell? ⟨w.heap.size, 3, none⟩ = some (.slice none 0 0) := rz.cell 3
        have z4 : wz.cell? ⟨w.heap.size, 4, none⟩ = some (.int .i64 0) := rz.cell 4
        refine bodyPost_ret (v := .tuple #[.agg #[.slice none 0 0, .int .i64 0, .int .i64 0, .slice none 0 0, .int .i64 0], .int .i64 z]) (by simp [results, Tryz.results48, go_sem, z0, z1, z2, z3, z4]) rfl ?_
        exact HhR.bad HBAD.out (KB.out.trans bz)
    · have hn0 : bkN R - X.length = 0 := by omega
      have hlti : ¬ (X.length : Int) < (bkN R : Int) := by omega
      have hXb : (bkN R : Int) ≤ 16384 := by omega
      rw [hn0] at HA
      have HT := Lib.hid (show rH6 s.data.toList N R T X b = q by
        have h1 := HQ.out
        have h2 : tEn s.data.toList (bkN R) a4 = (X, b, 0) := by
          rw [← HA.out]
          show aL X ([], b, 0) = (X, b, 0)
          unfold aL; simp
        rw [h2] at h1
        exact h1)
      have CF1 := Lib.hid (fun W => CF.out b W hb)
      have CC1 := Lib.hid (fun W => CC.out b W)
      have hXT : (s.extract 0 b).data.toList = s.data.toList.take b := by rw [ext_list]; rfl
      rw [hXT] at CC1
      clear HA hn0 HQ CE CF CC hXT
      have HBS := Lib.hid (show bh < wr.heap.size from HH.out.lt)
      by_cases h4 : s.size < b + 4
      · have hf : rF s.data.toList b = (0, 0, 5) := by unfold rF; rw [if_pos (by have := HSL.out; omega)]
        rw [hf] at CF1
        have HBAD := Lib.hid (show q = (noH, 5) by rw [← HT.out]; unfold rH6; rw [if_pos (by have := HSL.out; omega)])
        unfold r3 at CF1
        simp only at CF1
        clear hf h4
        go_wp2_with (first
          | (go_at_call 33; go_must (refine (CB.out _).mono ?_; rintro e w7 ⟨rfl, rfl⟩))
          | (go_at_call 86; go_must (refine (CF1.out _).mono ?_; rintro e w8 ⟨rfl, hk⟩; replace RB := Lib.hid (RB.out.keep hk); replace HH := Lib.hid (HH.out.keep hk); replace NR := Lib.hid (KRow.keep NR.out hk); replace ER := Lib.hid (KRow.keep ER.out hk); replace KB := Lib.hid (KB.out.trans (hk.mono KB.out.size)); clear hk CF1))
          | (refine wpList_store_at (B := w.heap.size) RB.out (Nat.le_refl _) #[.slice none 0 0, .int .i64 0, .int .i64 0, .slice none 0 0, .int .i64 0] (.tmp 2) _ 46 rfl rfl rfl rfl (by kernel_rfl) rfl rfl ?_; intro wz rz bz)
          | fail)
        have z0 : wz.cell? ⟨w.heap.size, 0, none⟩ = some (.slice none 0 0) := rz.cell 0
        have z1 : wz.cell? ⟨w.heap.size, 1, none⟩ = some (.int .i64 0) := rz.cell 1
        have z2 : wz.cell? ⟨w.heap.size, 2, none⟩ = some (.int .i64 0) := rz.cell 2
        have z3 : wz.cell? ⟨w.heap.size, 3, none⟩ = some (.slice none 0 0) := rz.cell 3
        have z4 : wz.cell? ⟨w.heap.size, 4, none⟩ = some (.int .i64 0) := rz.cell 4
        refine bodyPost_ret (v := .tuple #[.agg #[.slice none 0 0, .int .i64 0, .int .i64 0, .slice none 0 0, .int .i64 0], .int .i64 5]) (by simp [results, Tryz.results48, go_sem, z0, z1, z2, z3, z4]) rfl ?_
        exact HhR.bad HBAD.out (KB.out.trans bz)
      · have hf : rF s.data.toList b = (f4 s.data.toList b, b + 4, 0) := by unfold rF; rw [if_neg (by have := HSL.out; omega)]
        rw [hf] at CF1
        unfold r3 at CF1
        simp only at CF1
        have hcl : ¬ s.data.toList.length < b + 4 := by have := HSL.out; omega
        have HT2 := Lib.hid (show (if f4 s.data.toList b = ck (s.data.toList.take b) then ((N, R, T, X, b + 4), 0) else (noH, 12)) = q by rw [← HT.out]; unfold rH6; rw [if_neg hcl])
        clear hcl
        generalize f4 s.data.toList b = F at *
        generalize ck (s.data.toList.take b) = C at *
        clear hf HT
        by_cases hc : F = C
        · have hc' : ((F : Int) != (C : Int)) = false := by simp; omega
          have HQ := Lib.hid (show q = ((N, R, T, X, b + 4), 0) by rw [← HT2.out, if_pos hc])
          clear hc HT2 h4
          go_wp2_with (first
          | (go_at_call 33; go_must (refine (CB.out _).mono ?_; rintro e w7 ⟨rfl, rfl⟩))
          | (go_at_call 86; go_must (refine (CF1.out _).mono ?_; rintro e w8 ⟨rfl, hk⟩; replace RB := Lib.hid (RB.out.keep hk); replace HH := Lib.hid (HH.out.keep hk); replace NR := Lib.hid (KRow.keep NR.out hk); replace ER := Lib.hid (KRow.keep ER.out hk); replace KB := Lib.hid (KB.out.trans (hk.mono KB.out.size)); clear hk CF1))
          | (go_at_call 37; go_must (refine (CC1.out _).mono ?_; rintro e w9 ⟨rfl, hk⟩; replace RB := Lib.hid (RB.out.keep hk); replace HH := Lib.hid (HH.out.keep hk); replace NR := Lib.hid (KRow.keep NR.out hk); replace ER := Lib.hid (KRow.keep ER.out hk); replace KB := Lib.hid (KB.out.trans (hk.mono KB.out.size)); have q0 := HH.out.cell 4; have q1 : w9.frozen? ⟨bh, 4, none⟩ = false := HH.out.frozen 4; have q2 : w9.cell? ⟨bh, 4, none⟩ = some (.int .i64 0) := HH.out.cell 4; clear hk CC1 q0; replace HH := Lib.hid (RowAt.set HH.out 4 (.int .i64 ((b : Int) + 4))); replace RB := Lib.hid (RB.out.other ⟨bh, 4, none⟩ (.int .i64 ((b : Int) + 4)) (by show ¬ bh = w.heap.size; omega)); have hk2 : Kp [bh] w9 (w9.setCell ⟨bh, 4, none⟩ (.int .i64 ((b : Int) + 4))) := Kp.setCell (p := ⟨bh, 4, none⟩) (Kp.refl [bh] _) (.inl (by simp)) _; replace NR := Lib.hid (KRow.kp NR.out hk2 (fun g hg => by have := ON.out g hg; simp; omega)); replace ER := Lib.hid (KRow.kp ER.out hk2 (fun g hg => by have := KRow.lt ER.out g hg; simp; omega)); replace KB := Lib.hid (KB.out.setCell (p := ⟨bh, 4, none⟩) (by show w.heap.size ≤ bh; omega) (.int .i64 ((b : Int) + 4))); clear hk2; have j0 : (w9.setCell ⟨bh, 4, none⟩ (.int .i64 ((b : Int) + 4))).cell? ⟨bh, 0, none⟩ = some (.slice nA nn nc) := HH.out.cell 0; have j1 : (w9.setCell ⟨bh, 4, none⟩ (.int .i64 ((b : Int) + 4))).cell? ⟨bh, 1, none⟩ = some (.int .i64 R) := HH.out.cell 1; have j2 : (w9.setCell ⟨bh, 4, none⟩ (.int .i64 ((b : Int) + 4))).cell? ⟨bh, 2, none⟩ = some (.int .i64 T) := HH.out.cell 2; have j3 : (w9.setCell ⟨bh, 4, none⟩ (.int .i64 ((b : Int) + 4))).cell? ⟨bh, 3, none⟩ = some (.slice vA vn vc) := HH.out.cell 3; have j4 : (w9.setCell ⟨bh, 4, none⟩ (.int .i64 ((b : Int) + 4))).cell? ⟨bh, 4, none⟩ = some (.int .i64 ((b : Int) + 4)) := HH.out.cell 4))
          | (refine wpList_store_kp RB.out #[.slice nA nn nc, .int .i64 R, .int .i64 T, .slice vA vn vc, .int .i64 ((b : Int) + 4)] (.tmp 2) _ 46 rfl rfl rfl rfl (by kernel_rfl) rfl rfl ?_; intro wz rz bz)
          | fail)
          have z0 : wz.cell? ⟨w.heap.size, 0, none⟩ = some (.slice nA nn nc) := rz.cell 0
          have z1 : wz.cell? ⟨w.heap.size, 1, none⟩ = some (.int .i64 R) := rz.cell 1
          have z2 : wz.cell? ⟨w.heap.size, 2, none⟩ = some (.int .i64 T) := rz.cell 2
          have z3 : wz.cell? ⟨w.heap.size, 3, none⟩ = some (.slice vA vn vc) := rz.cell 3
          have z4 : wz.cell? ⟨w.heap.size, 4, none⟩ = some (.int .i64 ((b : Int) + 4)) := rz.cell 4
          refine bodyPost_ret (v := .tuple #[.agg #[.slice nA nn nc, .int .i64 R, .int .i64 T, .slice vA vn vc, .int .i64 ((b : Int) + 4)], .int .i64 0]) (by simp [results, Tryz.results48, go_sem, z0, z1, z2, z3, z4]) rfl ?_
          rw [HQ.out]
          exact ⟨_, _, rfl, KB.out.trans (bz.below (B := w.heap.size) (by simp) KB.out.size), KRow.kp NR.out bz (fun g hg hm => by simp at hm; subst hm; have := KRow.lt NR.out _ hg; have := NRN.out _ hg; omega), KRow.kp (KRow.mono ER.out (by omega)) bz (fun g hg hm => by simp at hm; subst hm; have := KRow.lt ER.out _ hg; omega)⟩
        · have hc' : ((F : Int) != (C : Int)) = true := by simp; omega
          have HBAD := Lib.hid (show q = (noH, 12) by rw [← HT2.out, if_neg hc])
          clear hc HT2 h4
          go_wp2_with (first
          | (go_at_call 33; go_must (refine (CB.out _).mono ?_; rintro e w7 ⟨rfl, rfl⟩))
          | (go_at_call 86; go_must (refine (CF1.out _).mono ?_; rintro e w8 ⟨rfl, hk⟩; replace RB := Lib.hid (RB.out.keep hk); replace HH := Lib.hid (HH.out.keep hk); replace NR := Lib.hid (KRow.keep NR.out hk); replace ER := Lib.hid (KRow.keep ER.out hk); replace KB := Lib.hid (KB.out.trans (hk.mono KB.out.size)); clear hk CF1))
          | (go_at_call 37; go_must (refine (CC1.out _).mono ?_; rintro e w9 ⟨rfl, hk⟩; replace RB := Lib.hid (RB.out.keep hk); replace HH := Lib.hid (HH.out.keep hk); replace NR := Lib.hid (KRow.keep NR.out hk); replace ER := Lib.hid (KRow.keep ER.out hk); replace KB := Lib.hid (KB.out.trans (hk.mono KB.out.size)); have q0 := HH.out.cell 4; have q1 : w9.frozen? ⟨bh, 4, none⟩ = false := HH.out.frozen 4; have q2 : w9.cell? ⟨bh, 4, none⟩ = some (.int .i64 0) := HH.out.cell 4; clear hk CC1 q0))
          | (refine wpList_store_at (B := w.heap.size) RB.out (Nat.le_refl _) #[.slice none 0 0, .int .i64 0, .int .i64 0, .slice none 0 0, .int .i64 0] (.tmp 2) _ 46 rfl rfl rfl rfl (by kernel_rfl) rfl rfl ?_; intro wz rz bz)
          | fail)
          have z0 : wz.cell? ⟨w.heap.size, 0, none⟩ = some (.slice none 0 0) := rz.cell 0
          have z1 : wz.cell? ⟨w.heap.size, 1, none⟩ = some (.int .i64 0) := rz.cell 1
          have z2 : wz.cell? ⟨w.heap.size, 2, none⟩ = some (.int .i64 0) := rz.cell 2
          have z3 : wz.cell? ⟨w.heap.size, 3, none⟩ = some (.slice none 0 0) := rz.cell 3
          have z4 : wz.cell? ⟨w.heap.size, 4, none⟩ = some (.int .i64 0) := rz.cell 4
          refine bodyPost_ret (v := .tuple #[.agg #[.slice none 0 0, .int .i64 0, .int .i64 0, .slice none 0 0, .int .i64 0], .int .i64 12]) (by simp [results, Tryz.results48, go_sem, z0, z1, z2, z3, z4]) rfl ?_
          exact HhR.bad HBAD.out (KB.out.trans bz)

end Go.Proofs.YtillcmddbjhepaaGreatDoor
