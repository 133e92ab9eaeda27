/-
  Parse of package ratio, and of its specification: for every string of at most a million bytes, the same answer.
-/
import Derived.Test.YtlbepbddhnmmjaaDoorW10
import Derived.Test.YtlbepbddhnmmjaaDoorW11
import Derived.Lib.IndexBytes
namespace Go.Proofs.YtlbepbddhnmmjaaDoor
open Go.RowKit

theorem toList_mk (l : List UInt8) : (⟨l.toArray⟩ : ByteArray).data.toList = l := by simp
theorem size_len (s : ByteArray) : s.size = s.data.toList.length := Lib.size_eq s
theorem size_mk (l : List UInt8) : (⟨l.toArray⟩ : ByteArray).size = l.length := by rw [size_len, toList_mk]
theorem psRest_le (l : List UInt8) : (psRest l).length ≤ l.length := by unfold psRest; split <;> simp
theorem psA_le (l : List UInt8) : (psA l).length ≤ l.length := by
  have := psRest_le l; unfold psA; rw [List.length_take]; omega
theorem psB_le (l : List UInt8) : (psB l).length ≤ l.length := by
  have := psRest_le l; unfold psB; rw [List.length_drop]; omega
theorem psB_cut (l : List UInt8) : (if slashI (psRest l) < (psRest l).length then (psRest l).drop (slashI (psRest l) + 1) else []) = psB l := by
  unfold psB
  split
  · rfl
  · rw [List.drop_eq_nil_of_le (by omega)]
theorem beq_48 {s : ByteArray} {l : List UInt8} (h : s.data.toList = l) (hn : l ≠ [48]) : (s.toList == [48]) = false := by
  rw [ByteArray.toList_eq, h, beq_eq_false_iff_ne]; exact hn
theorem valid_nat {a b : Nat} (h1 : a ≤ 1073741824) (h2 : b ≤ 1073741824) (h3 : 2 ≤ b) : validB a b = decide (Nat.gcd a b = 1) :=
  valid_of a b (Nat.gcd a b) (by simp) (by omega) (by omega) (by omega) (by omega)

theorem parse_any (s : ByteArray) (m : Int) (w : World) (hs : s.size ≤ 1000000) (hm : w.cell? ⟨0, 0, none⟩ = some (.int .i64 m)) (hml : 0 < w.heap.size) :
    Calls Tryd.prog 35 #[.string s] w fun e w' => e = .returned (.tuple #[.agg #[.int .i64 (psN s.data.toList), .int .i64 (psD s.data.toList)], .int .i64 (psE s.data.toList)]) ∧ Below w.heap.size w w' := by
  have hl : s.data.toList.length ≤ 1000000 := by rw [← size_len]; exact hs
  generalize hL : s.data.toList = l at hl ⊢
  have e1 := toList_mk (psRest l)
  have e2 := toList_mk (psA l)
  have e3 := toList_mk (psB l)
  have z1 : (⟨(psRest l).toArray⟩ : ByteArray).size ≤ 1000000 := by rw [size_mk]; have := psRest_le l; omega
  have z2 : (⟨(psA l).toArray⟩ : ByteArray).size ≤ 1000000 := by rw [size_mk]; have := psA_le l; omega
  have z3 : (⟨(psB l).toArray⟩ : ByteArray).size ≤ 1000000 := by rw [size_mk]; have := psB_le l; omega
  generalize hr : (⟨(psRest l).toArray⟩ : ByteArray) = r at e1 z1
  generalize ha : (⟨(psA l).toArray⟩ : ByteArray) = a at e2 z2
  generalize hb : (⟨(psB l).toArray⟩ : ByteArray) = b at e3 z3
  clear hr ha hb
  obtain ⟨g, hg⟩ : ∃ g, g = psNeg l := ⟨_, rfl⟩
  obtain ⟨f, hf⟩ : ∃ f, f = psF l := ⟨_, rfl⟩
  have C1 : ∀ w, Calls Tryd.prog 48 #[.string s, .string ⟨#[45]⟩] w fun e w' => e = .returned (.tuple #[.string r, .bool g]) ∧ w' = w :=
    fun w => cutp_at s r g w (by rw [e1, hL]) (by rw [hg, hL])
  have C2 : ∀ w, w.cell? ⟨0, 0, none⟩ = some (.int .i64 m) → Calls Tryd.prog 49 #[.string r, .string ⟨#[47]⟩] w fun e w' => e = .returned (.tuple #[.string a, .string b, .bool f]) ∧ ∃ n, w' = w.drewN n :=
    fun w h => cut_at r a b f m w (by omega) h (by rw [e1, e2]; rfl) (by rw [e1, e3, psB_cut]) (by rw [e1, hf]; rfl)
  have na1 := numV_le (psA l)
  have nb1 := numV_le (psB l)
  have ea : Hid (numV (psA l) = numV a.data.toList) := Lib.hid (by rw [e2])
  have eb : Hid (numV (psB l) = numV b.data.toList) := Lib.hid (by rw [e3])
  cases dA : decB (psA l)
  · have h := pr_syn (g := psNeg l) (f := psF l) (b := psB l) (Or.inl dA)
    rw [psE, psN, psD, h.1, h.2.1, h.2.2]
    exact parse_syn1 s r a b g f m w hm hml C1 C2 z2 z3 (by rw [e2]; exact dA)
  have dA' : decB a.data.toList = true := by rw [e2]; exact dA
  have gA := dec_digs dA'
  by_cases h0 : psNeg l = true ∧ psA l = [48]
  · have h := pr_syn (g := psNeg l) (f := psF l) (a := psA l) (b := psB l) (Or.inr (Or.inr h0))
    rw [psE, psN, psD, h.1, h.2.1, h.2.2]
    have h48 : a.toList = [48] := by rw [ByteArray.toList_eq, e2]; exact h0.2
    cases dB : decB (psB l)
    · cases f
      · exact parse_syn3 s r a b g false m w hm hml C1 C2 z2 z3 dA' (Or.inl rfl) (by rw [hg]; exact h0.1) h48
      · exact parse_syn2 s r a b g true m w hm hml C1 C2 z2 z3 dA' rfl (by rw [e3]; exact dB)
    · exact parse_syn3 s r a b g f m w hm hml C1 C2 z2 z3 dA' (Or.inr (by rw [e3]; exact dB)) (by rw [hg]; exact h0.1) h48
  have hsg : psNeg l = false ∨ psA l ≠ [48] := by
    by_cases h1 : psNeg l = true
    · exact Or.inr fun e => h0 ⟨h1, e⟩
    · exact Or.inl (by simpa using h1)
  have hsg' : g = false ∨ (a.toList == [48]) = false := hsg.imp (fun e => by rw [hg, e]) (fun e => beq_48 e2 e)
  cases hF : psF l
  · rw [hF] at hf
    subst hf
    by_cases ov : 1073741824 < numV (psA l)
    · have h := pr_over (g := psNeg l) (f := psF l) (b := psB l) dA (Or.inl hF) hsg (Or.inl ov)
      rw [psE, psN, psD, h.1, h.2.1, h.2.2]
      exact parse_n1 s r a b g m w hm hml C1 C2 z2 z3 _ 0 dA' gA ea na1 hsg' ov
    · have h := pr_ok (g := psNeg l) (f := psF l) (b := psB l) dA (Or.inl hF) hsg (by omega) (Or.inl hF)
      rw [psE, psN, psD, h.1, h.2.1, h.2.2]
      cases hG : psNeg l
      · rw [hG] at hg
        subst hg
        rw [if_neg (by simp), hF, if_neg (by simp)]
        exact parse_n2 s r a b m w hm hml C1 C2 z2 z3 _ 0 dA' gA ea na1 (by omega)
      · rw [hG] at hg
        subst hg
        rw [if_pos rfl, hF, if_neg (by simp)]
        exact parse_n3 s r a b m w hm hml C1 C2 z2 z3 _ 0 dA' gA ea na1 (hsg'.resolve_left (by simp)) (by omega)
  · rw [hF] at hf
    subst hf
    cases dB : decB (psB l)
    · have h := pr_syn (g := psNeg l) (f := psF l) (a := psA l) (Or.inr (Or.inl ⟨hF, dB⟩))
      rw [psE, psN, psD, h.1, h.2.1, h.2.2]
      exact parse_syn2 s r a b g true m w hm hml C1 C2 z2 z3 dA' rfl (by rw [e3]; exact dB)
    have dB' : decB b.data.toList = true := by rw [e3]; exact dB
    have gB := dec_digs dB'
    by_cases ov : 1073741824 < numV (psA l)
    · have h := pr_over (g := psNeg l) (f := psF l) (b := psB l) dA (Or.inr dB) hsg (Or.inl ov)
      rw [psE, psN, psD, h.1, h.2.1, h.2.2]
      exact parse_f1 s r a b g m w hm hml C1 C2 z2 z3 _ _ dA' gA ea na1 hsg' dB' gB eb nb1 ov
    by_cases ob : 1073741824 < numV (psB l)
    · have h := pr_over (g := psNeg l) (f := psF l) (b := psB l) dA (Or.inr dB) hsg (Or.inr ⟨hF, ob⟩)
      rw [psE, psN, psD, h.1, h.2.1, h.2.2]
      exact parse_f2 s r a b g m w hm hml C1 C2 z2 z3 _ _ dA' gA ea na1 hsg' dB' gB eb nb1 (by omega) ob
    by_cases lo : numV (psB l) < 2
    · have h := pr_low (g := psNeg l) (f := psF l) (a := psA l) (b := psB l) hF (by omega) (by omega) (Or.inl lo)
      rw [psE, psN, psD, h.1, h.2.1, h.2.2]
      exact parse_f3 s r a b g m w hm hml C1 C2 z2 z3 _ _ dA' gA ea na1 hsg' dB' gB eb nb1 (by omega) lo
    have hv := valid_nat (a := numV (psA l)) (b := numV (psB l)) (by omega) (by omega) (by omega)
    by_cases gc : Nat.gcd (numV (psA l)) (numV (psB l)) = 1
    · have h := pr_ok (g := psNeg l) (f := psF l) (b := psB l) dA (Or.inr dB) hsg (by omega) (Or.inr ⟨by omega, by omega, gc⟩)
      rw [psE, psN, psD, h.1, h.2.1, h.2.2]
      have ev : Hid (true = validB (numV (psA l)) (numV (psB l))) := Lib.hid (by rw [hv]; exact (decide_eq_true gc).symm)
      cases hG : psNeg l
      · rw [hG] at hg
        subst hg
        rw [if_neg (by simp), hF, if_pos rfl]
        exact parse_f5 s r a b m w hm hml C1 C2 z2 z3 _ _ dA' gA ea na1 dB' gB eb nb1 ev (by omega) (by omega) (by omega)
      · rw [hG] at hg
        subst hg
        rw [if_pos rfl, hF, if_pos rfl]
        exact parse_f6 s r a b m w hm hml C1 C2 z2 z3 _ _ dA' gA ea na1 (hsg'.resolve_left (by simp)) dB' gB eb nb1 ev (by omega) (by omega) (by omega)
    · have h := pr_low (g := psNeg l) (f := psF l) (a := psA l) (b := psB l) hF (by omega) (by omega) (Or.inr gc)
      rw [psE, psN, psD, h.1, h.2.1, h.2.2]
      have ev : Hid (false = validB (numV (psA l)) (numV (psB l))) := Lib.hid (by rw [hv]; exact (decide_eq_false gc).symm)
      exact parse_f4 s r a b g m w hm hml C1 C2 z2 z3 _ _ dA' gA ea na1 hsg' dB' gB eb nb1 ev (by omega) (by omega) (by omega)

theorem numV_zero {l : List UInt8} (hd : decB l = true) : numV l = 0 ↔ l = [48] := by
  constructor
  · intro h
    cases l with
    | nil => cases hd
    | cons c t =>
      have hdig := dec_digs hd
      have hc : isDig c = true := by simp only [List.all_cons, Bool.and_eq_true] at hdig; exact hdig.1
      have hc' := of_decide_eq_true hc
      have hmono : ∀ (t : List UInt8) (n : Nat), 0 < n → 0 < t.foldl (fun n c => min (10 * n + (c.toNat - 48)) 1073741825) n := by
        intro t
        induction t with
        | nil => intro n h; exact h
        | cons x t ih =>
          intro n h
          have hx : 0 < min (10 * n + (x.toNat - 48)) 1073741825 := by omega
          exact ih _ hx
      have h48 : c.toNat = 48 := by
        by_cases e : c.toNat = 48
        · exact e
        · exfalso
          have h2 : numV (c :: t) = t.foldl (fun n c => min (10 * n + (c.toNat - 48)) 1073741825) (min (10 * 0 + (c.toNat - 48)) 1073741825) := rfl
          have := hmono t (min (10 * 0 + (c.toNat - 48)) 1073741825) (by omega)
          omega
      have ec : c = 48 := UInt8.toNat_inj.1 h48
      subst ec
      cases t with
      | nil => rfl
      | cons x t =>
        exfalso
        unfold decB at hd
        simp at hd
  · rintro rfl; rfl

theorem rparse_e (s : ByteArray) (w : World) (hs : s.size ≤ 1000000) (he : s.toList = []) (hG : psNeg s.data.toList = false) (e1 : s.data.toList = psRest s.data.toList) (sr : s.size ≤ 1000000) :
    Calls Tryd.prog 36 #[.string s] w fun e w' => e = .returned (.tuple #[.agg #[.int .i64 (psN s.data.toList), .int .i64 (psD s.data.toList)], .int .i64 (psE s.data.toList)]) ∧ Below w.heap.size w w' := by
  have hl : s.data.toList.length ≤ 1000000 := by rw [← size_len]; exact hs
  obtain ⟨k, hk'⟩ : ∃ k, k = slashI (psRest s.data.toList) := ⟨_, rfl⟩
  have hk : Hid (k = slashI s.data.toList) := Lib.hid (hk'.trans (congrArg slashI e1.symm))
  have er : s.size = (psRest s.data.toList).length := (size_len _).trans (congrArg List.length e1)
  have lk : k ≤ s.size := by rw [er, hk']; exact slashI_le _
  obtain ⟨a, hx2⟩ : ∃ a, s.extract 0 k = a := ⟨_, rfl⟩
  obtain ⟨b, hx3⟩ : ∃ b, s.extract (k + 1) s.size = b := ⟨_, rfl⟩
  have e2 : a.data.toList = psA s.data.toList := by
    rw [← hx2, Lib.extract_data, List.drop_zero, Nat.sub_zero, hk']; exact congrArg (List.take _) e1
  have e3 : b.data.toList = psB s.data.toList := by rw [← hx3, Lib.extract_to_end, hk']; exact congrArg (List.drop _) e1
  have sa : a.size ≤ 1000000 := by rw [size_len, e2]; have := psA_le s.data.toList; omega
  have sb : b.size ≤ 1000000 := by rw [size_len, e3]; have := psB_le s.data.toList; omega
  have na1 := numV_le (psA s.data.toList)
  have nb1 := numV_le (psB s.data.toList)
  have ea : Hid (numV (psA s.data.toList) = numV a.data.toList) := Lib.hid (by rw [e2])
  have eb : Hid (numV (psB s.data.toList) = numV b.data.toList) := Lib.hid (by rw [e3])
  cases dA : decB (psA s.data.toList)
  · have h := pr_syn (g := psNeg s.data.toList) (f := psF s.data.toList) (b := psB s.data.toList) (Or.inl dA)
    rw [psE, psN, psD, h.1, h.2.1, h.2.2]
    exact rparse_e_an s a b k w he sr hk lk hx2 sa (Lib.hid (by rw [e2]; exact dA))
  have dA' : Hid (decB a.data.toList = true) := Lib.hid (by rw [e2]; exact dA)
  have hsg : psNeg s.data.toList = false ∨ psA s.data.toList ≠ [48] := (Or.inl hG)
  cases hF : psF s.data.toList
  · have hf : s.size ≤ k := by
      have := of_decide_eq_false hF
      rw [er, hk']; omega
    by_cases ov : 1073741824 < numV (psA s.data.toList)
    · have h := pr_over (g := psNeg s.data.toList) (f := psF s.data.toList) (b := psB s.data.toList) dA (Or.inl hF) hsg (Or.inl ov)
      rw [psE, psN, psD, h.1, h.2.1, h.2.2]
      exact rparse_e_o s a b k w he sr hk lk hx2 sa _ dA' ea na1 hf ov
    · have h := pr_ok (g := psNeg s.data.toList) (f := psF s.data.toList) (b := psB s.data.toList) dA (Or.inl hF) hsg (by omega) (Or.inl hF)
      rw [psE, psN, psD, h.1, h.2.1, h.2.2]
      rw [hG, if_neg (by simp), hF, if_neg (by simp)]
      exact rparse_e_y s a b k w he sr hk lk hx2 sa _ dA' ea na1 hf (by omega)
  · have hf : k < s.size := by
      have := of_decide_eq_true hF
      rw [er, hk']; exact this
    cases dB : decB (psB s.data.toList)
    · have h := pr_syn (g := psNeg s.data.toList) (f := psF s.data.toList) (a := psA s.data.toList) (Or.inr (Or.inl ⟨hF, dB⟩))
      rw [psE, psN, psD, h.1, h.2.1, h.2.2]
      exact rparse_e_bn s a b k w he sr hk lk hx2 sa _ dA' ea na1 hf hx3 sb (Lib.hid (by rw [e3]; exact dB))
    have dB' : Hid (decB b.data.toList = true) := Lib.hid (by rw [e3]; exact dB)
    by_cases ov : 1073741824 < numV (psA s.data.toList)
    · have h := pr_over (g := psNeg s.data.toList) (f := psF s.data.toList) (b := psB s.data.toList) dA (Or.inr dB) hsg (Or.inl ov)
      rw [psE, psN, psD, h.1, h.2.1, h.2.2]
      exact rparse_e_fo1 s a b k w he sr hk lk hx2 sa _ dA' ea na1 hf hx3 sb _ dB' eb nb1 ov
    by_cases ob : 1073741824 < numV (psB s.data.toList)
    · have h := pr_over (g := psNeg s.data.toList) (f := psF s.data.toList) (b := psB s.data.toList) dA (Or.inr dB) hsg (Or.inr ⟨hF, ob⟩)
      rw [psE, psN, psD, h.1, h.2.1, h.2.2]
      exact rparse_e_fo2 s a b k w he sr hk lk hx2 sa _ dA' ea na1 hf hx3 sb _ dB' eb nb1 (by omega) ob
    by_cases lo : numV (psB s.data.toList) < 2
    · have h := pr_low (g := psNeg s.data.toList) (f := psF s.data.toList) (a := psA s.data.toList) (b := psB s.data.toList) hF (by omega) (by omega) (Or.inl lo)
      rw [psE, psN, psD, h.1, h.2.1, h.2.2]
      exact rparse_e_fl s a b k w he sr hk lk hx2 sa _ dA' ea na1 hf hx3 sb _ dB' eb nb1 (by omega) lo
    by_cases gc : Nat.gcd (numV (psA s.data.toList)) (numV (psB s.data.toList)) = 1
    · have h := pr_ok (g := psNeg s.data.toList) (f := psF s.data.toList) (b := psB s.data.toList) dA (Or.inr dB) hsg (by omega) (Or.inr ⟨by omega, by omega, gc⟩)
      rw [psE, psN, psD, h.1, h.2.1, h.2.2]
      rw [hG, if_neg (by simp), hF, if_pos rfl]
      exact rparse_e_fy s a b k w he sr hk lk hx2 sa _ dA' ea na1 hf hx3 sb _ dB' eb nb1 (by omega) (by omega) (by omega) _ (Lib.hid rfl) (by rw [gc]; rfl)
    · have h := pr_low (g := psNeg s.data.toList) (f := psF s.data.toList) (a := psA s.data.toList) (b := psB s.data.toList) hF (by omega) (by omega) (Or.inr gc)
      rw [psE, psN, psD, h.1, h.2.1, h.2.2]
      exact rparse_e_fg s a b k w he sr hk lk hx2 sa _ dA' ea na1 hf hx3 sb _ dB' eb nb1 (by omega) (by omega) (by omega) _ (Lib.hid rfl) (by simp; omega)

theorem rparse_p (s : ByteArray) (w : World) (hs : s.size ≤ 1000000) (he : s.toList.isEmpty = false) (hp : 0 < s.size) (h45 : ((s[0].toNat : Int) == 45) = false) (hG : psNeg s.data.toList = false) (e1 : s.data.toList = psRest s.data.toList) (sr : s.size ≤ 1000000) :
    Calls Tryd.prog 36 #[.string s] w fun e w' => e = .returned (.tuple #[.agg #[.int .i64 (psN s.data.toList), .int .i64 (psD s.data.toList)], .int .i64 (psE s.data.toList)]) ∧ Below w.heap.size w w' := by
  have hl : s.data.toList.length ≤ 1000000 := by rw [← size_len]; exact hs
  obtain ⟨k, hk'⟩ : ∃ k, k = slashI (psRest s.data.toList) := ⟨_, rfl⟩
  have hk : Hid (k = slashI s.data.toList) := Lib.hid (hk'.trans (congrArg slashI e1.symm))
  have er : s.size = (psRest s.data.toList).length := (size_len _).trans (congrArg List.length e1)
  have lk : k ≤ s.size := by rw [er, hk']; exact slashI_le _
  obtain ⟨a, hx2⟩ : ∃ a, s.extract 0 k = a := ⟨_, rfl⟩
  obtain ⟨b, hx3⟩ : ∃ b, s.extract (k + 1) s.size = b := ⟨_, rfl⟩
  have e2 : a.data.toList = psA s.data.toList := by
    rw [← hx2, Lib.extract_data, List.drop_zero, Nat.sub_zero, hk']; exact congrArg (List.take _) e1
  have e3 : b.data.toList = psB s.data.toList := by rw [← hx3, Lib.extract_to_end, hk']; exact congrArg (List.drop _) e1
  have sa : a.size ≤ 1000000 := by rw [size_len, e2]; have := psA_le s.data.toList; omega
  have sb : b.size ≤ 1000000 := by rw [size_len, e3]; have := psB_le s.data.toList; omega
  have na1 := numV_le (psA s.data.toList)
  have nb1 := numV_le (psB s.data.toList)
  have ea : Hid (numV (psA s.data.toList) = numV a.data.toList) := Lib.hid (by rw [e2])
  have eb : Hid (numV (psB s.data.toList) = numV b.data.toList) := Lib.hid (by rw [e3])
  cases dA : decB (psA s.data.toList)
  · have h := pr_syn (g := psNeg s.data.toList) (f := psF s.data.toList) (b := psB s.data.toList) (Or.inl dA)
    rw [psE, psN, psD, h.1, h.2.1, h.2.2]
    exact rparse_p_an s a b k w he hp h45 sr hk lk hx2 sa (Lib.hid (by rw [e2]; exact dA))
  have dA' : Hid (decB a.data.toList = true) := Lib.hid (by rw [e2]; exact dA)
  have hsg : psNeg s.data.toList = false ∨ psA s.data.toList ≠ [48] := (Or.inl hG)
  cases hF : psF s.data.toList
  · have hf : s.size ≤ k := by
      have := of_decide_eq_false hF
      rw [er, hk']; omega
    by_cases ov : 1073741824 < numV (psA s.data.toList)
    · have h := pr_over (g := psNeg s.data.toList) (f := psF s.data.toList) (b := psB s.data.toList) dA (Or.inl hF) hsg (Or.inl ov)
      rw [psE, psN, psD, h.1, h.2.1, h.2.2]
      exact rparse_p_o s a b k w he hp h45 sr hk lk hx2 sa _ dA' ea na1 hf ov
    · have h := pr_ok (g := psNeg s.data.toList) (f := psF s.data.toList) (b := psB s.data.toList) dA (Or.inl hF) hsg (by omega) (Or.inl hF)
      rw [psE, psN, psD, h.1, h.2.1, h.2.2]
      rw [hG, if_neg (by simp), hF, if_neg (by simp)]
      exact rparse_p_y s a b k w he hp h45 sr hk lk hx2 sa _ dA' ea na1 hf (by omega)
  · have hf : k < s.size := by
      have := of_decide_eq_true hF
      rw [er, hk']; exact this
    cases dB : decB (psB s.data.toList)
    · have h := pr_syn (g := psNeg s.data.toList) (f := psF s.data.toList) (a := psA s.data.toList) (Or.inr (Or.inl ⟨hF, dB⟩))
      rw [psE, psN, psD, h.1, h.2.1, h.2.2]
      exact rparse_p_bn s a b k w he hp h45 sr hk lk hx2 sa _ dA' ea na1 hf hx3 sb (Lib.hid (by rw [e3]; exact dB))
    have dB' : Hid (decB b.data.toList = true) := Lib.hid (by rw [e3]; exact dB)
    by_cases ov : 1073741824 < numV (psA s.data.toList)
    · have h := pr_over (g := psNeg s.data.toList) (f := psF s.data.toList) (b := psB s.data.toList) dA (Or.inr dB) hsg (Or.inl ov)
      rw [psE, psN, psD, h.1, h.2.1, h.2.2]
      exact rparse_p_fo1 s a b k w he hp h45 sr hk lk hx2 sa _ dA' ea na1 hf hx3 sb _ dB' eb nb1 ov
    by_cases ob : 1073741824 < numV (psB s.data.toList)
    · have h := pr_over (g := psNeg s.data.toList) (f := psF s.data.toList) (b := psB s.data.toList) dA (Or.inr dB) hsg (Or.inr ⟨hF, ob⟩)
      rw [psE, psN, psD, h.1, h.2.1, h.2.2]
      exact rparse_p_fo2 s a b k w he hp h45 sr hk lk hx2 sa _ dA' ea na1 hf hx3 sb _ dB' eb nb1 (by omega) ob
    by_cases lo : numV (psB s.data.toList) < 2
    · have h := pr_low (g := psNeg s.data.toList) (f := psF s.data.toList) (a := psA s.data.toList) (b := psB s.data.toList) hF (by omega) (by omega) (Or.inl lo)
      rw [psE, psN, psD, h.1, h.2.1, h.2.2]
      exact rparse_p_fl s a b k w he hp h45 sr hk lk hx2 sa _ dA' ea na1 hf hx3 sb _ dB' eb nb1 (by omega) lo
    by_cases gc : Nat.gcd (numV (psA s.data.toList)) (numV (psB s.data.toList)) = 1
    · have h := pr_ok (g := psNeg s.data.toList) (f := psF s.data.toList) (b := psB s.data.toList) dA (Or.inr dB) hsg (by omega) (Or.inr ⟨by omega, by omega, gc⟩)
      rw [psE, psN, psD, h.1, h.2.1, h.2.2]
      rw [hG, if_neg (by simp), hF, if_pos rfl]
      exact rparse_p_fy s a b k w he hp h45 sr hk lk hx2 sa _ dA' ea na1 hf hx3 sb _ dB' eb nb1 (by omega) (by omega) (by omega) _ (Lib.hid rfl) (by rw [gc]; rfl)
    · have h := pr_low (g := psNeg s.data.toList) (f := psF s.data.toList) (a := psA s.data.toList) (b := psB s.data.toList) hF (by omega) (by omega) (Or.inr gc)
      rw [psE, psN, psD, h.1, h.2.1, h.2.2]
      exact rparse_p_fg s a b k w he hp h45 sr hk lk hx2 sa _ dA' ea na1 hf hx3 sb _ dB' eb nb1 (by omega) (by omega) (by omega) _ (Lib.hid rfl) (by simp; omega)

theorem rparse_n (s r : ByteArray) (w : World) (hs : s.size ≤ 1000000) (he : s.toList.isEmpty = false) (hp : 0 < s.size) (h45 : ((s[0].toNat : Int) == 45) = true) (hp1 : 1 ≤ s.size) (hx1 : s.extract 1 s.size = r) (hG : psNeg s.data.toList = true) (e1 : r.data.toList = psRest s.data.toList) (sr : r.size ≤ 1000000) :
    Calls Tryd.prog 36 #[.string s] w fun e w' => e = .returned (.tuple #[.agg #[.int .i64 (psN s.data.toList), .int .i64 (psD s.data.toList)], .int .i64 (psE s.data.toList)]) ∧ Below w.heap.size w w' := by
  have hl : s.data.toList.length ≤ 1000000 := by rw [← size_len]; exact hs
  obtain ⟨k, hk'⟩ : ∃ k, k = slashI (psRest s.data.toList) := ⟨_, rfl⟩
  have hk : Hid (k = slashI r.data.toList) := Lib.hid (hk'.trans (congrArg slashI e1.symm))
  have er : r.size = (psRest s.data.toList).length := (size_len _).trans (congrArg List.length e1)
  have lk : k ≤ r.size := by rw [er, hk']; exact slashI_le _
  obtain ⟨a, hx2⟩ : ∃ a, r.extract 0 k = a := ⟨_, rfl⟩
  obtain ⟨b, hx3⟩ : ∃ b, r.extract (k + 1) r.size = b := ⟨_, rfl⟩
  have e2 : a.data.toList = psA s.data.toList := by
    rw [← hx2, Lib.extract_data, List.drop_zero, Nat.sub_zero, hk']; exact congrArg (List.take _) e1
  have e3 : b.data.toList = psB s.data.toList := by rw [← hx3, Lib.extract_to_end, hk']; exact congrArg (List.drop _) e1
  have sa : a.size ≤ 1000000 := by rw [size_len, e2]; have := psA_le s.data.toList; omega
  have sb : b.size ≤ 1000000 := by rw [size_len, e3]; have := psB_le s.data.toList; omega
  have na1 := numV_le (psA s.data.toList)
  have nb1 := numV_le (psB s.data.toList)
  have ea : Hid (numV (psA s.data.toList) = numV a.data.toList) := Lib.hid (by rw [e2])
  have eb : Hid (numV (psB s.data.toList) = numV b.data.toList) := Lib.hid (by rw [e3])
  cases dA : decB (psA s.data.toList)
  · have h := pr_syn (g := psNeg s.data.toList) (f := psF s.data.toList) (b := psB s.data.toList) (Or.inl dA)
    rw [psE, psN, psD, h.1, h.2.1, h.2.2]
    exact rparse_n_an s r a b k w he hp h45 hp1 hx1 sr hk lk hx2 sa (Lib.hid (by rw [e2]; exact dA))
  have dA' : Hid (decB a.data.toList = true) := Lib.hid (by rw [e2]; exact dA)
  by_cases h0 : psA s.data.toList = [48]
  · have h := pr_syn (g := psNeg s.data.toList) (f := psF s.data.toList) (b := psB s.data.toList) (Or.inr (Or.inr ⟨hG, h0⟩))
    rw [psE, psN, psD, h.1, h.2.1, h.2.2]
    exact rparse_n_az s r a b k w he hp h45 hp1 hx1 sr hk lk hx2 sa dA' (Lib.hid (by rw [e2, h0]; rfl))
  have nz : ((numV (psA s.data.toList) : Int) == 0) = false := by
    rw [Bool.eq_false_iff]; intro e
    have e' : (numV (psA s.data.toList) : Int) = 0 := by simpa using e
    exact h0 ((numV_zero dA).1 (by omega))
  have hsg : psNeg s.data.toList = false ∨ psA s.data.toList ≠ [48] := (Or.inr h0)
  cases hF : psF s.data.toList
  · have hf : r.size ≤ k := by
      have := of_decide_eq_false hF
      rw [er, hk']; omega
    by_cases ov : 1073741824 < numV (psA s.data.toList)
    · have h := pr_over (g := psNeg s.data.toList) (f := psF s.data.toList) (b := psB s.data.toList) dA (Or.inl hF) hsg (Or.inl ov)
      rw [psE, psN, psD, h.1, h.2.1, h.2.2]
      exact rparse_n_o s r a b k w he hp h45 hp1 hx1 sr hk lk hx2 sa _ dA' ea na1 nz hf ov
    · have h := pr_ok (g := psNeg s.data.toList) (f := psF s.data.toList) (b := psB s.data.toList) dA (Or.inl hF) hsg (by omega) (Or.inl hF)
      rw [psE, psN, psD, h.1, h.2.1, h.2.2]
      rw [hG, if_pos rfl, hF, if_neg (by simp)]
      exact rparse_n_y s r a b k w he hp h45 hp1 hx1 sr hk lk hx2 sa _ dA' ea na1 nz hf (by omega)
  · have hf : k < r.size := by
      have := of_decide_eq_true hF
      rw [er, hk']; exact this
    cases dB : decB (psB s.data.toList)
    · have h := pr_syn (g := psNeg s.data.toList) (f := psF s.data.toList) (a := psA s.data.toList) (Or.inr (Or.inl ⟨hF, dB⟩))
      rw [psE, psN, psD, h.1, h.2.1, h.2.2]
      exact rparse_n_bn s r a b k w he hp h45 hp1 hx1 sr hk lk hx2 sa _ dA' ea na1 nz hf hx3 sb (Lib.hid (by rw [e3]; exact dB))
    have dB' : Hid (decB b.data.toList = true) := Lib.hid (by rw [e3]; exact dB)
    by_cases ov : 1073741824 < numV (psA s.data.toList)
    · have h := pr_over (g := psNeg s.data.toList) (f := psF s.data.toList) (b := psB s.data.toList) dA (Or.inr dB) hsg (Or.inl ov)
      rw [psE, psN, psD, h.1, h.2.1, h.2.2]
      exact rparse_n_fo1 s r a b k w he hp h45 hp1 hx1 sr hk lk hx2 sa _ dA' ea na1 nz hf hx3 sb _ dB' eb nb1 ov
    by_cases ob : 1073741824 < numV (psB s.data.toList)
    · have h := pr_over (g := psNeg s.data.toList) (f := psF s.data.toList) (b := psB s.data.toList) dA (Or.inr dB) hsg (Or.inr ⟨hF, ob⟩)
      rw [psE, psN, psD, h.1, h.2.1, h.2.2]
      exact rparse_n_fo2 s r a b k w he hp h45 hp1 hx1 sr hk lk hx2 sa _ dA' ea na1 nz hf hx3 sb _ dB' eb nb1 (by omega) ob
    by_cases lo : numV (psB s.data.toList) < 2
    · have h := pr_low (g := psNeg s.data.toList) (f := psF s.data.toList) (a := psA s.data.toList) (b := psB s.data.toList) hF (by omega) (by omega) (Or.inl lo)
      rw [psE, psN, psD, h.1, h.2.1, h.2.2]
      exact rparse_n_fl s r a b k w he hp h45 hp1 hx1 sr hk lk hx2 sa _ dA' ea na1 nz hf hx3 sb _ dB' eb nb1 (by omega) lo
    by_cases gc : Nat.gcd (numV (psA s.data.toList)) (numV (psB s.data.toList)) = 1
    · have h := pr_ok (g := psNeg s.data.toList) (f := psF s.data.toList) (b := psB s.data.toList) dA (Or.inr dB) hsg (by omega) (Or.inr ⟨by omega, by omega, gc⟩)
      rw [psE, psN, psD, h.1, h.2.1, h.2.2]
      rw [hG, if_pos rfl, hF, if_pos rfl]
      exact rparse_n_fy s r a b k w he hp h45 hp1 hx1 sr hk lk hx2 sa _ dA' ea na1 nz hf hx3 sb _ dB' eb nb1 (by omega) (by omega) (by omega) _ (Lib.hid rfl) (by rw [gc]; rfl)
    · have h := pr_low (g := psNeg s.data.toList) (f := psF s.data.toList) (a := psA s.data.toList) (b := psB s.data.toList) hF (by omega) (by omega) (Or.inr gc)
      rw [psE, psN, psD, h.1, h.2.1, h.2.2]
      exact rparse_n_fg s r a b k w he hp h45 hp1 hx1 sr hk lk hx2 sa _ dA' ea na1 nz hf hx3 sb _ dB' eb nb1 (by omega) (by omega) (by omega) _ (Lib.hid rfl) (by simp; omega)

theorem rparse_any (s : ByteArray) (w : World) (hs : s.size ≤ 1000000) :
    Calls Tryd.prog 36 #[.string s] w fun e w' => e = .returned (.tuple #[.agg #[.int .i64 (psN s.data.toList), .int .i64 (psD s.data.toList)], .int .i64 (psE s.data.toList)]) ∧ Below w.heap.size w w' := by
  by_cases h0 : s.size = 0
  · have e0 := empty_toList h0
    have hG : psNeg s.data.toList = false := by rw [e0]; rfl
    exact rparse_e s w hs (by rw [ByteArray.toList_eq]; exact e0) hG (by rw [psRest, hG, if_neg (by simp)]) hs
  · have he : s.toList.isEmpty = false := by
      rw [ByteArray.toList_eq, List.isEmpty_eq_false_iff]; intro e
      exact h0 (by rw [size_len, e]; rfl)
    have hp : 0 < s.size := by omega
    have hh : s.data.toList.head? = some s[0] := by
      rw [List.head?_eq_getElem?, List.getElem?_eq_getElem (by rw [← size_len]; exact hp), getElem_toList s 0 hp]
    by_cases h45 : s[0].toNat = 45
    · have hG : psNeg s.data.toList = true := by
        rw [psNeg, hh, show s[0] = 45 from UInt8.toNat_inj.1 h45]; rfl
      exact rparse_n s (s.extract 1 s.size) w hs he hp (by rw [h45]; rfl) hp rfl hG (by rw [Lib.extract_to_end, psRest, if_pos hG]) (by rw [size_len, Lib.extract_to_end, List.length_drop, ← size_len]; omega)
    · have hG : psNeg s.data.toList = false := by
        rw [psNeg, hh, Bool.eq_false_iff]; intro e
        have e' : s[0] = 45 := by simpa using e
        exact h45 (by rw [e']; rfl)
      exact rparse_p s w hs he hp (by rw [Bool.eq_false_iff]; simp; omega) hG (by rw [psRest, hG, if_neg (by simp)]) hs

end Go.Proofs.YtlbepbddhnmmjaaDoor
