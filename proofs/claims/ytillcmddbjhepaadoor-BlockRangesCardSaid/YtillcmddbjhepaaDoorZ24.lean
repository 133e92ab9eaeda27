/-
  The program's fields: four's function value.
  reader's function value: it calls the fields that it is handed, one after the other.
  The program's fields, made and called: what each of them leads to.
  The program's fields, called.
  The fields, one after the other; the checksum of all before.
  Reads of one, two and three fields.
  readNames.
  readTable.
  setEnds.
  setBytes.
  Stored captures, plain mathematics: the head, in the program's order.
  checkStart.
-/
import Derived.Test.YtillcmddbjhepaaDoorZ23
import Derived.StillTailTactics
import Derived.Test.YtillcmddbjhepaaDoorZ09
import Derived.Test.YtillcmddbjhepaaDoorShelf
namespace Go.Proofs.YtillcmddbjhepaaDoor
open Go Go.RowKit Go.Joins
set_option linter.unusedVariables false
set_option linter.unusedSimpArgs false

theorem or_i64 (a b : Nat) (ha : a < 9223372036854775808) (hb : b < 9223372036854775808) : bits .or .i64 (a : Int) (b : Int) = ((a ||| b : Nat) : Int) := by
  have hx : a ||| b < 2 ^ 63 := Nat.or_lt_two_pow (by omega) (by omega)
  have h1 : (BitVec.ofInt 64 (a : Int)).toNat = a := by
    rw [BitVec.ofInt_natCast, BitVec.toNat_ofNat]; exact Nat.mod_eq_of_lt (by omega)
  have h2 : (BitVec.ofInt 64 (b : Int)).toNat = b := by
    rw [BitVec.ofInt_natCast, BitVec.toNat_ofNat]; exact Nat.mod_eq_of_lt (by omega)
  show IntKind.i64.wrap ((BitVec.ofInt 64 (a : Int) ||| BitVec.ofInt 64 (b : Int)).toNat : Int) = _
  rw [BitVec.toNat_or, h1, h2]
  exact IntWalk.i64_in _ (by omega)
theorem four_step {v c k : Nat} (hk : k ≤ 3) (hv : v < 256 ^ k) (hc : c < 256) : bits .or .i64 (v : Int) (IntKind.i64.wrap ((c : Int) * 2 ^ (8 * k))) = ((v + 256 ^ k * c : Nat) : Int) := by
  have hp : 256 ^ k ≤ 256 ^ 3 := Nat.pow_le_pow_right (by omega) hk
  have hm := Nat.mul_le_mul hp (show c ≤ 255 by omega)
  have e : (c : Int) * 2 ^ (8 * k) = ((256 ^ k * c : Nat) : Int) := by rw [pow_256, Int.natCast_mul, Int.natCast_pow, Int.mul_comm]; rfl
  rw [e, IntWalk.i64_in _ (by omega), or_i64 v _ (by omega) (by omega), or_byte hk hv hc]

/-- Four bytes, as the program's field reads them: where they end, the error. -/
def rF2 (l : List UInt8) (a : Nat) : Nat × Nat := if l.length < a + 4 then (0, 5) else (a + 4, 0)

set_option maxRecDepth 20000 in
set_option maxHeartbeats 1000000 in
theorem four1_any (s : ByteArray) (a g x o : Nat) (T : TypeId) (cs : Array Value) (old : Value) (w : World) (hs : s.size ≤ 140737488351232) (ha : a ≤ s.size) (hg : w.cell? ⟨g, 0, none⟩ = some (.pointer (some ⟨x, o, none⟩))) (hgl : g < w.heap.size) (hgx : g ≠ x) (hx : RowAt w x T cs) (ho : cs[o]? = some old) :
    Calls Tryd.prog 88 #[.string s, .int .i64 a, .pointer (some ⟨g, 0, none⟩)] w fun e w' => e = .returned (.tuple #[.int .i64 (rF2 s.data.toList a).1, .int .i64 (rF2 s.data.toList a).2]) ∧ (∃ u, RowAt w' x T (cs.setIfInBounds o u) ∧ ((rF2 s.data.toList a).2 = 0 → u = .int .i64 (f4 s.data.toList a))) ∧ Kp [x] w w' := by
  have hsl := size_len s
  have hoc : o < cs.size := (Array.getElem?_eq_some_iff.1 ho).1
  have h1 : w.cell? ⟨x, o, none⟩ = some old := (hx.cell o).trans ho
  have h2 : w.frozen? ⟨x, o, none⟩ = false := hx.frozen o
  by_cases h4 : s.size < a + 4
  · have HP := Lib.hid (show rF2 s.data.toList a = (0, 5) by unfold rF2; rw [if_pos (by omega)])
    have h4' : (s.size : Int) - (a : Int) < 4 := by omega
    have HX := Lib.hid hx
    have HS := Lib.hid (show cs.setIfInBounds o old = cs by
      obtain ⟨hlt, e⟩ := Array.getElem?_eq_some_iff.1 ho
      subst e
      apply Array.toList_inj.1; rw [Array.toList_setIfInBounds, ← Array.getElem_toList hlt]; exact List.set_getElem_self _)
    clear hsl hx ho hgx
    rw [HP.out]
    go_enter Tryd.func88, Tryd.ntmps88
    go_wp2
    go_returns
    exact ⟨rfl, ⟨old, by rw [HS.out]; exact HX.out, fun h => absurd h (by decide)⟩, Kp.refl _ _⟩
  · have HP := Lib.hid (show rF2 s.data.toList a = (a + 4, 0) by unfold rF2; rw [if_neg (by omega)])
    have h4' : ¬ (s.size : Int) - (a : Int) < 4 := by omega
    have hai : (a : Int) + 4 ≤ s.size := by omega
    have hai2 : (a : Int) + 4 ≤ 9223372036854775807 := by omega
    have HXL := Lib.hid hx.lt
    have HG := Lib.hid hgl
    have HNE := Lib.hid hgx
    have HX0 := Lib.hid (hx.set o (.int .i64 0))
    have HK0 := Lib.hid (Kp.setCell (p := ⟨x, o, none⟩) (Kp.refl [x] w) (.inl (by simp)) (.int .i64 0))
    have HCG := Lib.hid hg
    have HL4 := Lib.hid (f4p_four s.data.toList a)
    have HOC := Lib.hid hoc
    clear hsl hx ho hgx hgl hoc
    rw [HP.out]
    go_enter Tryd.func88, Tryd.ntmps88
    go_wp2
    go_loopw [15] (fun i wr => ∃ k v : Nat, k ≤ 4 ∧ i = .int .i64 k ∧ Hid (v = f4p s.data.toList a k) ∧ Hid (RowAt wr x T (cs.setIfInBounds o (.int .i64 v))) ∧ Hid (Kp [x] w wr)) (fun i _ => 4 - (intOf i).toNat)
    case atStart => exact ⟨0, 0, by omega, rfl, Lib.hid rfl, HX0, HK0⟩
    case round =>
      obtain ⟨k, v, hk, rfl, HV, HR, HK⟩ := hrel
      by_cases hkl : k < 4
      · have hv : v < 256 ^ k := by rw [HV.out]; exact f4p_lt _ _ _
        obtain ⟨ak, hak⟩ : ∃ ak : Nat, a + k = ak := ⟨_, rfl⟩
        have hn : ak < s.size := by omega
        have hki : (ak : Int) < s.size := by omega
        have hkj : (a : Int) + (k : Int) = (ak : Int) := by omega
        have hc := s[ak].toNat_lt
        have HV2 := Lib.hid (show v + 256 ^ k * s[ak].toNat = f4p s.data.toList a (k + 1) by
          rw [f4p, HV.out, hak, List.getD_eq_getElem?_getD, List.getElem?_eq_getElem (by rw [← size_len]; exact hn)]; rfl)
        have hb := four_step (by omega) hv hc
        have e1 : wr.drew.cell? ⟨x, o, none⟩ = some (.int .i64 v) := by
          refine (HR.out.cell o).trans ?_
          rw [Array.getElem?_setIfInBounds, if_pos rfl, if_pos HOC.out]
        have e2 : wr.drew.frozen? ⟨x, o, none⟩ = false := HR.out.frozen o
        have e3 : wr.drew.cell? ⟨g, 0, none⟩ = some (.pointer (some ⟨x, o, none⟩)) := (HK.out.cell (p := ⟨g, 0, none⟩) HG.out (by simpa using HNE.out)).trans HCG.out
        obtain ⟨xk, hxk⟩ : ∃ xk, s[ak].toNat = xk := ⟨_, rfl⟩
        rw [hxk] at HV2 hb hc
        have hxw : IntKind.i64.wrap (xk : Int) = xk := IntWalk.i64_in _ (by omega)
        have HB := Lib.hid hb
        clear hb hak hv
        skip
        clear h4 h4' hai hai2
        go_wp2
        go_region
        go_wp2
        have hz : bits .or .i64 (v : Int) (wrap64 ((xk : Int) * 2 ^ (k * 8))) = ((v + 256 ^ k * xk : Nat) : Int) := by rw [Nat.mul_comm k 8]; exact (congrArg (bits .or .i64 (v : Int)) (IntWalk.i64_left _).symm).trans HB.out
        rw [hz]
        have hs2 : (cs.setIfInBounds o (Value.int .i64 v)).setIfInBounds o (.int .i64 ((v + 256 ^ k * xk : Nat) : Int)) = cs.setIfInBounds o (.int .i64 ((v + 256 ^ k * xk : Nat) : Int)) := by
          apply Array.toList_inj.1; simp
        refine ⟨⟨k + 1, v + 256 ^ k * xk, by omega, val_int (by omega), HV2, Lib.hid ?_, Lib.hid ((Kp.setCell (p := ⟨x, o, none⟩) HK.out (.inl (by simp)) _).drew)⟩, ?_⟩
        · rw [← hs2]; exact RowAt.set HR.out o _
        · simp [intOf]; omega
      · have h4k : k = 4 := by omega
        subst h4k
        go_wp2
        go_returns
        exact ⟨rfl, ⟨.int .i64 v, HR.out, fun _ => by rw [HV.out, HL4.out]⟩, HK.out⟩
end Go.Proofs.YtillcmddbjhepaaDoor

namespace Go.Proofs.YtillcmddbjhepaaDoor
open Go Go.RowKit Go.Joins
set_option linter.unusedVariables false
set_option linter.unusedSimpArgs false

/-- A field's function value, called at a of s. -/
def FCall (F : Value) (s : ByteArray) (a : Nat) (w : World) (R : Nat → Nat → World → Prop) : Prop :=
  ∃ (f : Nat) (caps : Array Value), F = .func (.func f) #[] caps ∧ (∀ (xs : Array Value) (w : World), (callFunc f xs).run Tryd.prog w = .ok (.enter f xs) w) ∧
    Calls Tryd.prog f (#[.string s, .int .i64 a] ++ caps) w fun e w' => ∃ (n er : Nat), e = .returned (.tuple #[.int .i64 n, .int .i64 er]) ∧ R n er w'

theorem wpList_field {w : World} {ops : Array Oper} {rest : List Oper} {o : Oper} {a : Act} {Q : Exit → Act → World → Prop} (hgd : o.guard = none) (f x y : Operand) (ty : Array TypeId)
    (ho : o.op = .call { callee := .value f, args := #[x, y], argTypes := ty }) (s : ByteArray) (at_ : Nat) {F : Value} (hF : a.eval f = F) (hx : a.eval x = .string s) (hy : a.eval y = .int .i64 at_) {R : Nat → Nat → World → Prop} (hC : FCall F s at_ w R)
    (h : ∀ (n er : Nat) w', R n er w' → wpList Tryd.prog ops Q rest (a.put o.dst (.tuple #[.int .i64 n, .int .i64 er])) w') : wpList Tryd.prog ops Q (o :: rest) a w := by
  refine wpList_plain hgd fun K hK => ?_
  obtain ⟨g, caps, rfl, he, hc⟩ := hC
  unfold Oper.wp execOp
  simp only [ho, resolve, Deferred.ofValue, Sem.run_bind, Sem.run_pure, Result.andThen_ok, List.map_toArray, List.map_cons, List.map_nil, hF, hx, hy, invoke, he]
  refine hc.mono ?_
  rintro e w' ⟨n, er, rfl, hR⟩
  exact hK _ _ (h n er w' hR)

/-- What reader's function value reads: the string, the place, the fields. -/
def RdOk (s : ByteArray) (gs ga g : Nat) (fs0 : Array Value) (a : Nat) (w : World) : Prop := RowAt w gs 9 #[.string s] ∧ RowAt w ga 3 #[.int .i64 a] ∧ RowAt w g 90 fs0
/-- What the fields, from a on, lead to. -/
def wpF (s : ByteArray) (gs ga g : Nat) (fs0 : Array Value) : List Value → Nat → World → (Nat → Nat → World → Prop) → Prop
  | [], a, w, Q => Q 0 a w
  | F :: fs, a, w, Q => FCall F s a w fun n er w' => RdOk s gs ga g fs0 a w' ∧ (er = 0 → wpF s gs ga g fs0 fs n (w'.setCell ⟨ga, 0, none⟩ (.int .i64 n)) Q) ∧ (er ≠ 0 → Q er a w')
theorem RdOk.step {s : ByteArray} {gs ga g : Nat} {fs0 : Array Value} {a : Nat} {w : World} (h : RdOk s gs ga g fs0 a w) (h1 : gs ≠ ga) (h2 : g ≠ ga) (n : Nat) : RdOk s gs ga g fs0 n (w.setCell ⟨ga, 0, none⟩ (.int .i64 n)) :=
  ⟨h.1.other _ _ (fun e => h1 e.symm), h.2.1.set1 _, h.2.2.other _ _ (fun e => h2 e.symm)⟩
def QF (Q : Nat → Nat → World → Prop) (e : Ending) (w' : World) : Prop := ∃ er a' : Nat, e = .returned (.int .i64 er) ∧ Q er a' w'

set_option maxRecDepth 20000 in
set_option maxHeartbeats 1000000 in
theorem reader1_any (s : ByteArray) (gs ga g : Nat) (fs : List Value) (a : Nat) (w : World) (Q : Nat → Nat → World → Prop) (h1 : gs ≠ ga) (h2 : g ≠ ga)
    (hr : RdOk s gs ga g fs.toArray a w) (hq : wpF s gs ga g fs.toArray fs a w Q) (hl : fs.length ≤ 100) :
    Calls Tryd.prog 72 #[.slice (some ⟨g, 0, none⟩) fs.length fs.length, .pointer (some ⟨gs, 0, none⟩), .pointer (some ⟨ga, 0, none⟩)] w (QF Q) := by
  have HR := Lib.hid hr
  have HQ := Lib.hid hq
  have H1 := Lib.hid h1
  have H2 := Lib.hid h2
  clear hr hq h1 h2
  go_enter Tryd.func72, Tryd.ntmps72
  go_wp2
  go_loopw [11] (fun i wr => ∃ k a : Nat, k ≤ fs.length ∧ i = .int .i64 k ∧ Hid (RdOk s gs ga g fs.toArray a wr) ∧ Hid (wpF s gs ga g fs.toArray (fs.drop k) a wr Q)) (fun i _ => fs.length - (intOf i).toNat)
  case atStart => exact ⟨0, a, Nat.zero_le _, rfl, HR, HQ⟩
  case round =>
    clear HR HQ
    obtain ⟨k, a, hk, rfl, HR, HQ⟩ := hrel
    by_cases hkl : k < fs.length
    · obtain ⟨F, hF⟩ : ∃ F, fs[k] = F := ⟨_, rfl⟩
      have HQ2 := HQ.out
      rw [List.drop_eq_getElem_cons hkl, hF] at HQ2
      have HC := Lib.hid HQ2
      have c0 : wr.cell? ⟨g, k, none⟩ = some F := by
        rw [HR.out.2.2.cell k]; simp [hkl, hF]
      have c1 := HR.out.1.get1
      have c2 := HR.out.2.1.get1
      have hki : (k : Int) < fs.length := by omega
      clear HQ HQ2 hF
      go_wp2_with (refine wpList_field (R := fun n er w' => RdOk s gs ga g fs.toArray a w' ∧ (er = 0 → wpF s gs ga g fs.toArray (fs.drop (k + 1)) n (w'.setCell ⟨ga, 0, none⟩ (.int .i64 n)) Q) ∧ (er ≠ 0 → Q er a w')) rfl (.tmp 16) (.tmp 17) (.tmp 18) _ rfl s a rfl rfl rfl HC.out ?_; rintro n er w1 ⟨r1, q1, q2⟩; have R1 := Lib.hid r1; have Q1 := Lib.hid q1; have Q2 := Lib.hid q2; have d1 : w1.cell? ⟨ga, 0, none⟩ = some (.int .i64 a) := r1.2.1.get1; have d2 : w1.frozen? ⟨ga, 0, none⟩ = false := r1.2.1.frozen 0; clear r1 q1 q2)
      · rename_i he
        have hn0 : er ≠ 0 := by intro e; subst e; simp at he
        go_wp2
        go_returns
        exact ⟨er, a, rfl, Q2.out hn0⟩
      · rename_i he
        have hn0 : er = 0 := by simpa using he
        go_roundw
        case rel => exact ⟨k + 1, n, by omega, by go_num, Lib.hid (R1.out.step H1.out H2.out n), Lib.hid (Q1.out hn0)⟩
        case measure => simp [intOf]; omega
    · have hke : k = fs.length := by omega
      subst hke
      have HQ2 := HQ.out
      rw [List.drop_length] at HQ2
      have HE := Lib.hid HQ2
      clear HQ HQ2
      go_wp2
      go_returns
      exact ⟨0, a, rfl, HE.out⟩

end Go.Proofs.YtillcmddbjhepaaDoor

namespace Go.Proofs.YtillcmddbjhepaaDoor
open Go Go.RowKit Go.Joins
set_option linter.unusedVariables false
set_option linter.unusedSimpArgs false

theorem FCall.mono {F : Value} {s : ByteArray} {a : Nat} {w : World} {R R' : Nat → Nat → World → Prop} (h : FCall F s a w R) (hi : ∀ n er w', R n er w' → R' n er w') : FCall F s a w R' := by
  obtain ⟨f, caps, e, h1, h2⟩ := h
  exact ⟨f, caps, e, h1, h2.mono fun e w' ⟨n, er, he, hr⟩ => ⟨n, er, he, hi _ _ _ hr⟩⟩

/-- A field that sets the cell o of block x to a number of at most m: its boxes lie from B on. -/
def NumF (B : Nat) (w : World) (F : Value) (x o m : Nat) : Prop := ∃ g h, B ≤ g ∧ B ≤ h ∧ F = .func (.func 74) #[] #[.pointer (some ⟨g, 0, none⟩), .pointer (some ⟨h, 0, none⟩)] ∧ RowAt w g 3 #[.int .i64 m] ∧ RowAt w h 92 #[.pointer (some ⟨x, o, none⟩)]
def TxtF (B : Nat) (w : World) (F : Value) (x o m : Nat) : Prop := ∃ g h, B ≤ g ∧ B ≤ h ∧ F = .func (.func 85) #[] #[.pointer (some ⟨g, 0, none⟩), .pointer (some ⟨h, 0, none⟩)] ∧ RowAt w g 3 #[.int .i64 m] ∧ RowAt w h 96 #[.pointer (some ⟨x, o, none⟩)]
def ExF (B : Nat) (w : World) (F : Value) (n : Nat) : Prop := ∃ g, B ≤ g ∧ F = .func (.func 87) #[] #[.pointer (some ⟨g, 0, none⟩)] ∧ RowAt w g 3 #[.int .i64 n]
def FourF (B : Nat) (w : World) (F : Value) (x o : Nat) : Prop := ∃ g, B ≤ g ∧ F = .func (.func 88) #[] #[.pointer (some ⟨g, 0, none⟩)] ∧ RowAt w g 92 #[.pointer (some ⟨x, o, none⟩)]
def RestF (B : Nat) (w : World) (F : Value) (x o : Nat) : Prop := ∃ g, B ≤ g ∧ F = .func (.func 78) #[] #[.pointer (some ⟨g, 0, none⟩)] ∧ RowAt w g 96 #[.pointer (some ⟨x, o, none⟩)]
theorem notin {X : List Nat} {B g : Nat} (hX : ∀ k ∈ X, k < B) (h : B ≤ g) : g ∉ X := fun hx => by have := hX g hx; omega
theorem NumF.keep {B : Nat} {w w' : World} {F : Value} {x o m : Nat} {X : List Nat} (h : NumF B w F x o m) (hk : Kp X w w') (hX : ∀ k ∈ X, k < B) : NumF B w' F x o m := by
  obtain ⟨g, h, h1, h2, e, r1, r2⟩ := h
  exact ⟨g, h, h1, h2, e, hk.row r1 (notin hX h1), hk.row r2 (notin hX h2)⟩
theorem TxtF.keep {B : Nat} {w w' : World} {F : Value} {x o m : Nat} {X : List Nat} (h : TxtF B w F x o m) (hk : Kp X w w') (hX : ∀ k ∈ X, k < B) : TxtF B w' F x o m := by
  obtain ⟨g, h, h1, h2, e, r1, r2⟩ := h
  exact ⟨g, h, h1, h2, e, hk.row r1 (notin hX h1), hk.row r2 (notin hX h2)⟩
theorem ExF.keep {B : Nat} {w w' : World} {F : Value} {n : Nat} {X : List Nat} (h : ExF B w F n) (hk : Kp X w w') (hX : ∀ k ∈ X, k < B) : ExF B w' F n := by
  obtain ⟨g, h1, e, r1⟩ := h
  exact ⟨g, h1, e, hk.row r1 (notin hX h1)⟩
theorem FourF.keep {B : Nat} {w w' : World} {F : Value} {x o : Nat} {X : List Nat} (h : FourF B w F x o) (hk : Kp X w w') (hX : ∀ k ∈ X, k < B) : FourF B w' F x o := by
  obtain ⟨g, h1, e, r1⟩ := h
  exact ⟨g, h1, e, hk.row r1 (notin hX h1)⟩
theorem RestF.keep {B : Nat} {w w' : World} {F : Value} {x o : Nat} {X : List Nat} (h : RestF B w F x o) (hk : Kp X w w') (hX : ∀ k ∈ X, k < B) : RestF B w' F x o := by
  obtain ⟨g, h1, e, r1⟩ := h
  exact ⟨g, h1, e, hk.row r1 (notin hX h1)⟩
theorem NumF.mono {B B' : Nat} {w : World} {F : Value} {x o m : Nat} (h : NumF B w F x o m) (hB : B' ≤ B) : NumF B' w F x o m := by
  obtain ⟨g, h, h1, h2, e, r1, r2⟩ := h
  exact ⟨g, h, by omega, by omega, e, r1, r2⟩
theorem FourF.mono {B B' : Nat} {w : World} {F : Value} {x o : Nat} (h : FourF B w F x o) (hB : B' ≤ B) : FourF B' w F x o := by
  obtain ⟨g, h1, e, r1⟩ := h
  exact ⟨g, by omega, e, r1⟩

def MadeF (P : World → Value → Prop) (w : World) (e : Ending) (w' : World) : Prop := ∃ F, e = .returned F ∧ P w' F ∧ Below w.heap.size w w'
set_option maxRecDepth 20000 in
theorem number_any (x o m : Nat) (w : World) : Calls Tryd.prog 51 #[.pointer (some ⟨x, o, none⟩), .int .i64 m] w (MadeF (fun w' F => NumF w.heap.size w' F x o m) w) := by
  go_enter Tryd.func51, Tryd.ntmps51
  go_wp2
  go_returns
  exact ⟨_, rfl, ⟨w.heap.size + 1, w.heap.size, by omega, by omega, by first | rfl | simp, RowAt.at (by rw [World.size_alloc]), (RowAt.new w _ _).alloc _⟩, (ba w _).trans ((ba _ _).mono (le_alloc (Nat.le_refl _) _))⟩
set_option maxRecDepth 20000 in
theorem text_any (x o m : Nat) (w : World) : Calls Tryd.prog 73 #[.pointer (some ⟨x, o, none⟩), .int .i64 m] w (MadeF (fun w' F => TxtF w.heap.size w' F x o m) w) := by
  go_enter Tryd.func73, Tryd.ntmps73
  go_wp2
  go_returns
  exact ⟨_, rfl, ⟨w.heap.size + 1, w.heap.size, by omega, by omega, by first | rfl | simp, RowAt.at (by rw [World.size_alloc]), (RowAt.new w _ _).alloc _⟩, (ba w _).trans ((ba _ _).mono (le_alloc (Nat.le_refl _) _))⟩
set_option maxRecDepth 20000 in
theorem exactly_any (n : Nat) (w : World) : Calls Tryd.prog 76 #[.int .i64 n] w (MadeF (fun w' F => ExF w.heap.size w' F n) w) := by
  go_enter Tryd.func76, Tryd.ntmps76
  go_wp2
  go_returns
  exact ⟨_, rfl, ⟨w.heap.size, by omega, by first | rfl | simp, RowAt.new w _ _⟩, ba w _⟩
set_option maxRecDepth 20000 in
theorem mkfour_any (x o : Nat) (w : World) : Calls Tryd.prog 77 #[.pointer (some ⟨x, o, none⟩)] w (MadeF (fun w' F => FourF w.heap.size w' F x o) w) := by
  go_enter Tryd.func77, Tryd.ntmps77
  go_wp2
  go_returns
  exact ⟨_, rfl, ⟨w.heap.size, by omega, by first | rfl | simp, RowAt.new w _ _⟩, ba w _⟩
set_option maxRecDepth 20000 in
theorem rest_any (x o : Nat) (w : World) : Calls Tryd.prog 54 #[.pointer (some ⟨x, o, none⟩)] w (MadeF (fun w' F => RestF w.heap.size w' F x o) w) := by
  go_enter Tryd.func54, Tryd.ntmps54
  go_wp2
  go_returns
  exact ⟨_, rfl, ⟨w.heap.size, by omega, by first | rfl | simp, RowAt.new w _ _⟩, ba w _⟩
/-- reader: the string's box and the place's. -/
def RdF (B : Nat) (w : World) (F : Value) (s : ByteArray) (gs ga a : Nat) : Prop := B ≤ gs ∧ B ≤ ga ∧ gs ≠ ga ∧ F = .func (.func 72) #[] #[.pointer (some ⟨gs, 0, none⟩), .pointer (some ⟨ga, 0, none⟩)] ∧ RowAt w gs 9 #[.string s] ∧ RowAt w ga 3 #[.int .i64 a]
set_option maxRecDepth 20000 in
theorem reader_any (s : ByteArray) (a : Nat) (w : World) : Calls Tryd.prog 49 #[.string s, .int .i64 a] w (MadeF (fun w' F => RdF w.heap.size w' F s w.heap.size (w.heap.size + 1) a) w) := by
  go_enter Tryd.func49, Tryd.ntmps49
  go_wp2
  go_returns
  exact ⟨_, rfl, ⟨by omega, by omega, by omega, by first | rfl | simp, (RowAt.new w _ _).alloc _, RowAt.at (by rw [World.size_alloc])⟩, (ba w _).trans ((ba _ _).mono (le_alloc (Nat.le_refl _) _))⟩

end Go.Proofs.YtillcmddbjhepaaDoor

namespace Go.Proofs.YtillcmddbjhepaaDoor
open Go Go.RowKit Go.Joins
set_option linter.unusedVariables false
set_option linter.unusedSimpArgs false

theorem rM_rN (l : List UInt8) (a m : Nat) : (rM l a m).2 = (rN l a m).2.2 ∧ ((rN l a m).2.2 = 0 → (rM l a m).1 = (rN l a m).2.1 ∧ Sb.tuV l a = (rN l a m).1) := by
  unfold rM rN
  by_cases h1 : Sb.tuE l a = 0
  · by_cases h2 : m < Sb.tuV l a
    · simp [h1, h2]
    · simp [h1, h2]
  · simp [h1]

/-- What a field that sets one cell leads to: the error, and unless there is one, where it ends and what is set. -/
def SetR (x o : Nat) (T : TypeId) (cs : Array Value) (w : World) (n er : Nat) (v : Value) (n' er' : Nat) (w' : World) : Prop :=
  er' = er ∧ Kp [x] w w' ∧ (∃ u, RowAt w' x T (cs.setIfInBounds o u) ∧ (er = 0 → n' = n ∧ u = v))

theorem num_field {s : ByteArray} {a B x o m : Nat} {T : TypeId} {cs : Array Value} {w : World} {F : Value} (hs : s.size ≤ 9223372036854775807) (hm : m ≤ 9223372036854775807) (hF : NumF B w F x o m) (hx : RowAt w x T cs) (ho : o < cs.size) :
    FCall F s a w (SetR x o T cs w (rN s.data.toList a m).2.1 (rN s.data.toList a m).2.2 (.int .i64 (rN s.data.toList a m).1)) := by
  obtain ⟨g, h, _, _, rfl, r1, r2⟩ := hF
  refine ⟨_, _, rfl, fun _ _ => by kernel_rfl, (number1_any s a m g h x o cs[o] w hs hm r1.get1 r2.get1 ((hx.cell o).trans (by simp [ho])) (hx.frozen o)).mono ?_⟩
  rintro e w' ⟨rfl, rfl⟩
  obtain ⟨h1, h2⟩ := rM_rN s.data.toList a m
  have h3 := (rN_le s.data.toList a m).1
  refine ⟨_, _, rfl, h1, Kp.setCell (p := ⟨x, o, none⟩) (Kp.refl [x] w) (.inl (by simp)) _, _, hx.set o _, fun h0 => ?_⟩
  obtain ⟨e1, e2⟩ := h2 h0
  refine ⟨e1, ?_⟩
  rw [e2, IntWalk.i64_in _ (by omega)]

theorem txt_field {s : ByteArray} {a B x o m : Nat} {T : TypeId} {cs : Array Value} {w : World} {F : Value} (hs : s.size ≤ 140737488351232) (hm : m ≤ 9223372036854775807) (hF : TxtF B w F x o m) (hx : RowAt w x T cs) (ho : o < cs.size) :
    FCall F s a w (SetR x o T cs w (Sb.tcN s.data.toList a m + Sb.tcV s.data.toList a m) (Sb.tcE s.data.toList a m) (.string ⟨(Sb.ttS s.data.toList a m).toArray⟩)) := by
  obtain ⟨g, h, _, _, rfl, r1, r2⟩ := hF
  refine ⟨_, _, rfl, fun _ _ => by kernel_rfl, (text1_any s a m g h x o T cs cs[o] w hs hm r1.get1 r1.lt r2.get1 r2.lt hx (by simp [ho])).mono ?_⟩
  rintro e w' ⟨rfl, r, k⟩
  exact ⟨_, _, rfl, rfl, k, _, r, fun _ => ⟨rfl, rfl⟩⟩

theorem four_field {s : ByteArray} {a B x o : Nat} {T : TypeId} {cs : Array Value} {w : World} {F : Value} (hs : s.size ≤ 140737488351232) (ha : a ≤ s.size) (hF : FourF B w F x o) (hx : RowAt w x T cs) (ho : o < cs.size) (hB : x < B) :
    FCall F s a w (SetR x o T cs w (rF s.data.toList a).2.1 (rF s.data.toList a).2.2 (.int .i64 (rF s.data.toList a).1)) := by
  obtain ⟨g, hg, rfl, r1⟩ := hF
  refine ⟨_, _, rfl, fun _ _ => by kernel_rfl, (four1_any s a g x o T cs cs[o] w hs ha r1.get1 r1.lt (by omega) hx (by simp [ho])).mono ?_⟩
  rintro e w' ⟨rfl, ⟨u, ru, hu⟩, k⟩
  refine ⟨_, _, rfl, ?_, k, u, ru, fun h0 => ?_⟩
  · unfold rF2 rF; split <;> rfl
  · unfold rF at h0 ⊢; unfold rF2 at hu ⊢
    by_cases h4 : s.data.toList.length < a + 4
    · rw [if_pos h4] at h0; exact absurd (show (5 : Nat) = 0 from h0) (by decide)
    · rw [if_neg h4] at hu ⊢; rw [if_neg h4]; exact ⟨rfl, hu rfl⟩

theorem ex_field {s : ByteArray} {a B n : Nat} {w : World} {F : Value} (hs : s.size ≤ 9223372036854775807) (hn : n ≤ 9223372036854775807) (hF : ExF B w F n) :
    FCall F s a w fun n' er' w' => n' = (rX s.data.toList a n).1 ∧ er' = (rX s.data.toList a n).2 ∧ Below w.heap.size w w' := by
  obtain ⟨g, _, rfl, r1⟩ := hF
  refine ⟨_, _, rfl, fun _ _ => by kernel_rfl, (exactly1_any s a n g w hs hn r1.get1).mono ?_⟩
  rintro e w' ⟨rfl, b⟩
  exact ⟨_, _, rfl, rfl, rfl, b⟩

theorem rest_field {s : ByteArray} {a B x o : Nat} {T : TypeId} {cs : Array Value} {w : World} {F : Value} (hs : s.size ≤ 9223372036854775807) (ha : a ≤ s.size) (hF : RestF B w F x o) (hx : RowAt w x T cs) (ho : o < cs.size) :
    FCall F s a w (SetR x o T cs w s.size 0 (.string (s.extract a s.size))) := by
  obtain ⟨g, hg, rfl, r1⟩ := hF
  refine ⟨_, _, rfl, fun _ _ => by kernel_rfl, (rest1_any s a g x o T cs cs[o] w hs ha r1.get1 hx (by simp [ho])).mono ?_⟩
  rintro e w' ⟨rfl, r, k⟩
  exact ⟨_, _, rfl, rfl, k, _, r, fun _ => ⟨rfl, rfl⟩⟩

theorem none_field {s : ByteArray} {a : Nat} {w : World} (hs : s.size ≤ 9223372036854775807) (ha : a ≤ s.size) :
    FCall (.func (.func 61) #[] #[]) s a w fun n' er' w' => er' = (if a < s.size then 4 else 0) ∧ (er' = 0 → n' = a) ∧ Below w.heap.size w w' := by
  refine ⟨_, _, rfl, fun _ _ => by kernel_rfl, (nothing_any s a w hs ha).mono ?_⟩
  rintro e w' ⟨rfl, b⟩
  by_cases h : a < s.size
  · rw [if_pos h]; exact ⟨0, 4, rfl, by rw [if_pos h], fun h => absurd h (by decide), b⟩
  · rw [if_neg h]; exact ⟨a, 0, rfl, by rw [if_neg h], fun _ => rfl, b⟩

end Go.Proofs.YtillcmddbjhepaaDoor

namespace Go.Proofs.YtillcmddbjhepaaDoor
open Go Go.RowKit Go.Joins
set_option linter.unusedVariables false
set_option linter.unusedSimpArgs false

theorem RdOk.keep {s : ByteArray} {gs ga g a : Nat} {fs0 : Array Value} {w w' : World} {X : List Nat} (h : RdOk s gs ga g fs0 a w) (hk : Kp X w w') (h1 : gs ∉ X) (h2 : ga ∉ X) (h3 : g ∉ X) : RdOk s gs ga g fs0 a w' :=
  ⟨hk.row h.1 h1, hk.row h.2.1 h2, hk.row h.2.2 h3⟩

theorem wpF_set {s : ByteArray} {gs ga g a : Nat} {fs0 : Array Value} {w : World} {F : Value} {fs : List Value} {Q : Nat → Nat → World → Prop} (hr : RdOk s gs ga g fs0 a w) (h1 : gs ≠ ga) (h2 : g ≠ ga) {x o : Nat} {T : TypeId} {cs : Array Value} {n er : Nat} {v : Value}
    (hx : x ≠ gs ∧ x ≠ ga ∧ x ≠ g) (hC : FCall F s a w (SetR x o T cs w n er v)) (hno : er ≠ 0 → ∀ w', Kp [x] w w' → Q er a w')
    (hok : er = 0 → ∀ w', Kp [x, ga] w w' → RdOk s gs ga g fs0 n w' → RowAt w' x T (cs.setIfInBounds o v) → wpF s gs ga g fs0 fs n w' Q) : wpF s gs ga g fs0 (F :: fs) a w Q := by
  refine hC.mono ?_
  rintro n' er' w' ⟨rfl, hk, u, hu, he⟩
  have hr' := hr.keep hk (by simpa using fun e => hx.1 e.symm) (by simpa using fun e => hx.2.1 e.symm) (by simpa using fun e => hx.2.2 e.symm)
  refine ⟨hr', fun h0 => ?_, fun h0 => hno h0 w' hk⟩
  obtain ⟨rfl, rfl⟩ := he h0
  refine hok h0 _ (Kp.setCell (p := ⟨ga, 0, none⟩) (hk.mono fun k _ hm => by simp at hm; subst hm; simp) (.inl (by simp)) _) (hr'.step h1 h2 _) (hu.other _ _ (fun e => hx.2.1 e.symm))

theorem wpF_below {s : ByteArray} {gs ga g a : Nat} {fs0 : Array Value} {w : World} {F : Value} {fs : List Value} {Q : Nat → Nat → World → Prop} (hr : RdOk s gs ga g fs0 a w) (h1 : gs ≠ ga) (h2 : g ≠ ga) {P : Nat → Nat → Prop}
    (hC : FCall F s a w fun n er w' => P n er ∧ Below w.heap.size w w') (hno : ∀ n er w', P n er → er ≠ 0 → Below w.heap.size w w' → Q er a w')
    (hok : ∀ n er w', P n er → er = 0 → Kp [ga] w w' → RdOk s gs ga g fs0 n w' → wpF s gs ga g fs0 fs n w' Q) : wpF s gs ga g fs0 (F :: fs) a w Q := by
  refine hC.mono ?_
  rintro n er w' ⟨hp, hb⟩
  have hr' := hr.keep (Kp.of_below (X := []) hb) (by simp) (by simp) (by simp)
  refine ⟨hr', fun h0 => hok n er _ hp h0 (Kp.setCell (p := ⟨ga, 0, none⟩) (Kp.of_below hb) (.inl (by simp)) _) (hr'.step h1 h2 _), fun h0 => hno n er w' hp h0 hb⟩

/-- The checksum of all before: where it ends, the error. -/
def rS (l : List UInt8) (a : Nat) : Nat × Nat := if l.length < a + 4 then (0, 5) else if f4 l a = ck (l.take a) then (a + 4, 0) else (a + 4, 12)

def SumR (p : Nat × Nat) (w : World) (e : Ending) (w' : World) : Prop := ∃ n er : Nat, e = .returned (.tuple #[.int .i64 n, .int .i64 er]) ∧ (er = p.2 ∧ (er = 0 → n = p.1)) ∧ Below w.heap.size w w'
set_option maxRecDepth 20000 in
set_option maxHeartbeats 1000000 in
theorem sumBefore_any (s : ByteArray) (a : Nat) (w : World) (hE : Sd.Env w) (hs : s.size ≤ 140737488351232) (ha : a ≤ s.size) :
    Calls Tryd.prog 53 #[.string s, .int .i64 a] w (SumR (rS s.data.toList a) w) := by
  have hsl := size_len s
  have hai : (a : Int) ≤ s.size := by omega
  have hT : (s.extract 0 a).data.toList = s.data.toList.take a := by rw [ext_list]; rfl
  have CK := Lib.hid (fun W (hb : Below w.heap.size w W) => checksum_any (s.extract 0 a) W (hE.below hb) (by rw [ByteArray.size_extract]; omega))
  rw [hT] at CK
  have R0 := Lib.hid (RowAt.new w 3 #[.int .i64 0])
  have CM := Lib.hid (mkfour_any w.heap.size 0 (w.alloc (.cells #[.int .i64 0] 3)))
  have CF := Lib.hid (fun B W F (hF : FourF B W F w.heap.size 0) (hx : RowAt W w.heap.size 3 #[.int .i64 0]) (hB : w.heap.size < B) => four_field hs ha hF hx (by simp) hB)
  have hb0 : w.heap.size < (w.alloc (.cells #[.int .i64 0] 3)).heap.size := by rw [World.size_alloc]; omega
  have HB0 := Lib.hid hb0
  have HP := Lib.hid (show rS s.data.toList a = if s.size < a + 4 then (0, 5) else if f4 s.data.toList a = ck (s.data.toList.take a) then (a + 4, 0) else (a + 4, 12) by unfold rS; rw [hsl])
  have HF := Lib.hid (show rF s.data.toList a = if s.size < a + 4 then (0, 0, 5) else (f4 s.data.toList a, a + 4, 0) by unfold rF; rw [hsl])
  generalize rS s.data.toList a = p at *
  generalize rF s.data.toList a = q at *
  generalize f4 s.data.toList a = V at *
  generalize ck (s.data.toList.take a) = C at *
  clear hT hsl hb0 hE
  go_enter Tryd.func53, Tryd.ntmps53
  go_wp2_with (first
    | (go_at_call 77; go_must (refine CM.out.mono ?_; rintro e w1 ⟨F, rfl, hF, b1⟩; have B1 := Lib.hid b1; have R1 := Lib.hid (R0.out.keep b1); have BW := Lib.hid ((ba w (.cells #[.int .i64 0] 3)).trans (b1.mono (Nat.le_of_lt HB0.out))); have C1 := Lib.hid (CF.out _ _ _ hF (R0.out.keep b1) HB0.out); clear CF CM R0 hF b1))
    | (refine wpList_field rfl (.tmp 10) (.tmp 11) (.tmp 12) _ rfl s a rfl rfl rfl C1.out ?_; rintro n er w2 ⟨rfl, hk, u, hu, hn⟩; have HU := Lib.hid hu; have HK := Lib.hid hk; have HN := Lib.hid hn; clear hu hk hn C1))
  have B2 := Lib.hid (BW.out.trans (HK.out.below (B := w.heap.size) (by simp) BW.out.size))
  by_cases h4 : s.size < a + 4
  · have HQ := Lib.hid (show q = (0, 0, 5) by rw [HF.out, if_pos h4])
    have HPP := Lib.hid (show p = (0, 5) by rw [HP.out, if_pos h4])
    have hq := HQ.out
    subst hq
    clear HU HN h4 HF HP HQ
    go_wp2
    have hd : ((5 : Int) == 0) = false := by decide
    go_big_quiet (fail)
    go_wp2
    go_returns
    exact ⟨n, 5, rfl, ⟨by rw [HPP.out], fun h => absurd h (by decide)⟩, Go.below_drewN B2.out _⟩
  · have HQ := Lib.hid (show q = (V, a + 4, 0) by rw [HF.out, if_neg h4])
    have HPP := Lib.hid (show p = if V = C then (a + 4, 0) else (a + 4, 12) by rw [HP.out, if_neg h4])
    have hq := HQ.out
    subst hq
    have e2 := (HN.out rfl).2
    subst e2
    have HN1 := Lib.hid (HN.out rfl).1
    have hsz : (s.size : Int) ≤ 9223372036854775807 := by omega
    have hc0 : w2.drew.cell? ⟨w.heap.size, 0, none⟩ = some (.int .i64 V) := by
      have := HU.out.cell 0
      exact this
    have hwl : w.heap.size < w2.drew.heap.size := Nat.lt_of_lt_of_le (Nat.lt_of_lt_of_le HB0.out B1.out.size) HK.out.size
    have HS := Lib.hid (fun W (b : Below w2.drew.heap.size w2.drew W) => show W.cell? ⟨w.heap.size, 0, none⟩ = some (.int .i64 V) ∧ Below w2.drew.heap.size w2.drew W from ⟨(b.cell (p := ⟨w.heap.size, 0, none⟩) hwl).trans hc0, b⟩)
    have HS0 := Lib.hid (HS.out w2.drew (Below.refl _ _))
    have HBD := Lib.hid (show Below w.heap.size w w2.drew from B2.out.drew)
    clear HU HN HF HP HQ R1 hc0
    have CK2 := Lib.hid (fun W (b : Below w2.drew.heap.size w2.drew W) => CK.out W (HBD.out.trans (b.mono HBD.out.size)))
    clear CK
    by_cases hvc : V = C
    · have hd : ((V : Int) != (C : Int)) = false := by simp; omega
      have hpp := HPP.out
      rw [if_pos hvc] at hpp
      subst hpp
      clear hvc HPP
      go_wp2
      go_region_held3 (fun W => W.cell? ⟨w.heap.size, 0, none⟩ = some (.int .i64 V) ∧ Below w2.drew.heap.size w2.drew W) (first | exact HS0.out | assumption | go_keep)
        (first
          | (go_at_call 42; refine (CK2.out _ (And.right (by assumption))).mono ?_; rintro e w3 ⟨rfl, b3⟩; have h3 := HS.out w3 (Below.trans (And.right (by assumption)) (b3.mono (Below.size (And.right (by assumption))))))
          | fail)
      all_goals
        rename_i hh
        have HH := Lib.hid hh.2
        go_wp2
        go_returns
        exact ⟨n, 0, rfl, ⟨rfl, fun _ => HN1.out⟩, HBD.out.trans (HH.out.mono HBD.out.size)⟩
    · have hd : ((V : Int) != (C : Int)) = true := by simp; omega
      have hpp := HPP.out
      rw [if_neg hvc] at hpp
      subst hpp
      clear hvc HPP
      go_wp2
      go_region_held3 (fun W => W.cell? ⟨w.heap.size, 0, none⟩ = some (.int .i64 V) ∧ Below w2.drew.heap.size w2.drew W) (first | exact HS0.out | assumption | go_keep)
        (first
          | (go_at_call 42; refine (CK2.out _ (And.right (by assumption))).mono ?_; rintro e w3 ⟨rfl, b3⟩; have h3 := HS.out w3 (Below.trans (And.right (by assumption)) (b3.mono (Below.size (And.right (by assumption))))))
          | fail)
      all_goals
        rename_i hh
        have HH := Lib.hid hh.2
        go_wp2
        go_returns
        exact ⟨n, 12, rfl, ⟨rfl, fun h => absurd h (by decide)⟩, HBD.out.trans (HH.out.mono HBD.out.size)⟩

theorem sum_field {s : ByteArray} {a : Nat} {w : World} (hE : Sd.Env w) (hs : s.size ≤ 140737488351232) (ha : a ≤ s.size) :
    FCall (.func (.func 53) #[] #[]) s a w fun n er w' => (er = (rS s.data.toList a).2 ∧ (er = 0 → n = (rS s.data.toList a).1)) ∧ Below w.heap.size w w' := by
  refine ⟨_, _, rfl, fun _ _ => by kernel_rfl, (sumBefore_any s a w hE hs ha).mono ?_⟩
  rintro e w' ⟨n, er, rfl, h, b⟩
  exact ⟨n, er, rfl, h, b⟩

end Go.Proofs.YtillcmddbjhepaaDoor

namespace Go.Proofs.YtillcmddbjhepaaDoor
open Go Go.RowKit Go.Joins
set_option linter.unusedVariables false
set_option linter.unusedSimpArgs false

/-- What a read leads to: the error; unless there is one, where it ends, and what holds then. -/
def RdR (ga N E : Nat) (X : List Nat) (w : World) (P : World → Prop) (er a' : Nat) (w' : World) : Prop := er = E ∧ Kp X w w' ∧ (E = 0 → a' = N ∧ RowAt w' ga 3 #[.int .i64 N] ∧ P w')

theorem read1_set {s : ByteArray} {gs ga g a : Nat} {w : World} {F : Value} (hr : RdOk s gs ga g #[F] a w) (h1 : gs ≠ ga) (h2 : g ≠ ga) {x o : Nat} {T : TypeId} {cs : Array Value} {n er : Nat} {v : Value}
    (hx : x ≠ gs ∧ x ≠ ga ∧ x ≠ g) (hC : FCall F s a w (SetR x o T cs w n er v)) :
    Calls Tryd.prog 72 #[.slice (some ⟨g, 0, none⟩) 1 1, .pointer (some ⟨gs, 0, none⟩), .pointer (some ⟨ga, 0, none⟩)] w (QF (RdR ga n er [x, ga] w fun w' => RowAt w' x T (cs.setIfInBounds o v))) := by
  refine reader1_any s gs ga g [F] a w _ h1 h2 hr ?_ (by simp)
  refine wpF_set hr h1 h2 hx hC (fun h0 w' hk => ⟨rfl, hk.mono (fun k _ h => by simp at h ⊢; exact .inl h), fun h => absurd h h0⟩) fun h0 w' hk hr' hu => ?_
  exact ⟨h0.symm, hk, fun _ => ⟨rfl, hr'.2.1, hu⟩⟩

theorem read2_set {s : ByteArray} {gs ga g a : Nat} {w : World} {F1 F2 : Value} (hr : RdOk s gs ga g #[F1, F2] a w) (h1 : gs ≠ ga) (h2 : g ≠ ga) {x1 o1 x2 o2 : Nat} {T1 T2 : TypeId} {cs1 cs2 : Array Value} {n1 e1 n2 e2 : Nat} {v1 v2 : Value}
    (hx1 : x1 ≠ gs ∧ x1 ≠ ga ∧ x1 ≠ g) (hx2 : x2 ≠ gs ∧ x2 ≠ ga ∧ x2 ≠ g) (hC : FCall F1 s a w (SetR x1 o1 T1 cs1 w n1 e1 v1))
    (hC2 : e1 = 0 → ∀ w', Kp [x1, ga] w w' → RowAt w' x1 T1 (cs1.setIfInBounds o1 v1) → FCall F2 s n1 w' (SetR x2 o2 T2 cs2 w' n2 e2 v2)) :
    Calls Tryd.prog 72 #[.slice (some ⟨g, 0, none⟩) 2 2, .pointer (some ⟨gs, 0, none⟩), .pointer (some ⟨ga, 0, none⟩)] w (QF (RdR ga n2 (if e1 = 0 then e2 else e1) [x1, x2, ga] w fun w' => RowAt w' x2 T2 (cs2.setIfInBounds o2 v2) ∧ (x1 ≠ x2 → RowAt w' x1 T1 (cs1.setIfInBounds o1 v1)))) := by
  refine reader1_any s gs ga g [F1, F2] a w _ h1 h2 hr ?_ (by simp)
  refine wpF_set hr h1 h2 hx1 hC (fun h0 w' hk => ⟨by rw [if_neg h0], hk.mono (fun k _ h => by simp at h ⊢; exact .inl h), fun h => absurd (by rw [if_neg h0] at h; exact h) h0⟩) fun h0 w' hk hr' hu => ?_
  have hk' : Kp [x1, x2, ga] w w' := hk.mono (fun k _ h => by simp at h ⊢; rcases h with h | h <;> simp [h])
  refine wpF_set hr' h1 h2 hx2 (hC2 h0 w' hk hu) (fun h3 w2 hk2 => ⟨by rw [if_pos h0], hk'.trans (hk2.mono (fun k _ h => by simp at h ⊢; simp [h])), fun h => absurd (by rw [if_pos h0] at h; exact h) h3⟩) fun h3 w2 hk2 hr2 hu2 => ?_
  exact ⟨by rw [if_pos h0, h3], hk'.trans (hk2.mono (fun k _ h => by simp at h ⊢; rcases h with h | h <;> simp [h])), fun _ => ⟨rfl, hr2.2.1, hu2, fun hne => hk2.row hu (by simp; exact ⟨hne, hx1.2.1⟩)⟩⟩

/-- Three fields that set cells of one block. -/
theorem read3_set {s : ByteArray} {gs ga g a : Nat} {w : World} {F1 F2 F3 : Value} (hr : RdOk s gs ga g #[F1, F2, F3] a w) (h1 : gs ≠ ga) (h2 : g ≠ ga) {x o1 o2 o3 : Nat} {T : TypeId} {cs1 cs2 cs3 : Array Value} {n1 e1 n2 e2 n3 e3 : Nat} {v1 v2 v3 : Value}
    (hx : x ≠ gs ∧ x ≠ ga ∧ x ≠ g) (hC : FCall F1 s a w (SetR x o1 T cs1 w n1 e1 v1))
    (hC2 : e1 = 0 → ∀ w', Kp [x, ga] w w' → RowAt w' x T (cs1.setIfInBounds o1 v1) → FCall F2 s n1 w' (SetR x o2 T cs2 w' n2 e2 v2))
    (hC3 : e1 = 0 → e2 = 0 → ∀ w', Kp [x, ga] w w' → RowAt w' x T (cs2.setIfInBounds o2 v2) → FCall F3 s n2 w' (SetR x o3 T cs3 w' n3 e3 v3)) :
    Calls Tryd.prog 72 #[.slice (some ⟨g, 0, none⟩) 3 3, .pointer (some ⟨gs, 0, none⟩), .pointer (some ⟨ga, 0, none⟩)] w (QF (RdR ga n3 (if e1 = 0 then if e2 = 0 then e3 else e2 else e1) [x, ga] w fun w' => RowAt w' x T (cs3.setIfInBounds o3 v3))) := by
  refine reader1_any s gs ga g [F1, F2, F3] a w _ h1 h2 hr ?_ (by simp)
  have one : ∀ {u v : World}, Kp [x] u v → Kp [x, ga] u v := fun h => h.mono (fun k _ h => by simp at h ⊢; exact .inl h)
  refine wpF_set hr h1 h2 hx hC (fun h0 w' hk => ⟨by rw [if_neg h0], one hk, fun h => absurd (by rw [if_neg h0] at h; exact h) h0⟩) fun h0 w' hk hr' hu => ?_
  refine wpF_set hr' h1 h2 hx (hC2 h0 w' hk hu) (fun h3 w2 hk2 => ⟨by rw [if_pos h0, if_neg h3], hk.trans (one hk2), fun h => absurd (by rw [if_pos h0, if_neg h3] at h; exact h) h3⟩) fun h3 w2 hk2 hr2 hu2 => ?_
  refine wpF_set hr2 h1 h2 hx (hC3 h0 h3 w2 (hk.trans hk2) hu2) (fun h4 w3 hk3 => ⟨by rw [if_pos h0, if_pos h3], (hk.trans hk2).trans (one hk3), fun h => absurd (by rw [if_pos h0, if_pos h3] at h; exact h) h4⟩) fun h4 w3 hk3 hr3 hu3 => ?_
  exact ⟨by rw [if_pos h0, if_pos h3, h4], (hk.trans hk2).trans hk3, fun _ => ⟨rfl, hr3.2.1, hu3⟩⟩

/-- A number that must be n. -/
theorem read1_ex {s : ByteArray} {gs ga g a B n : Nat} {w : World} {F : Value} (hr : RdOk s gs ga g #[F] a w) (h1 : gs ≠ ga) (h2 : g ≠ ga) (hs : s.size ≤ 9223372036854775807) (hn : n ≤ 9223372036854775807) (hF : ExF B w F n) :
    Calls Tryd.prog 72 #[.slice (some ⟨g, 0, none⟩) 1 1, .pointer (some ⟨gs, 0, none⟩), .pointer (some ⟨ga, 0, none⟩)] w (QF (RdR ga (rX s.data.toList a n).1 (rX s.data.toList a n).2 [ga] w fun w' => True)) := by
  refine reader1_any s gs ga g [F] a w _ h1 h2 hr ?_ (by simp)
  refine wpF_below (P := fun n' er' => n' = (rX s.data.toList a n).1 ∧ er' = (rX s.data.toList a n).2) hr h1 h2 ((ex_field hs hn hF).mono fun _ _ _ ⟨a, b, c⟩ => ⟨⟨a, b⟩, c⟩) ?_ ?_
  · rintro n' er' w' ⟨rfl, rfl⟩ h0 hb
    exact ⟨rfl, Kp.of_below hb, fun h => absurd h h0⟩
  · rintro n' er' w' ⟨rfl, rfl⟩ h0 hk hr'
    exact ⟨h0.symm, hk, fun _ => ⟨rfl, hr'.2.1, trivial⟩⟩

/-- The end of the bytes. -/
theorem read1_none {s : ByteArray} {gs ga g a : Nat} {w : World} (hr : RdOk s gs ga g #[.func (.func 61) #[] #[]] a w) (h1 : gs ≠ ga) (h2 : g ≠ ga) (hs : s.size ≤ 9223372036854775807) (ha : a ≤ s.size) :
    Calls Tryd.prog 72 #[.slice (some ⟨g, 0, none⟩) 1 1, .pointer (some ⟨gs, 0, none⟩), .pointer (some ⟨ga, 0, none⟩)] w (QF (RdR ga a (if a < s.size then 4 else 0) [ga] w fun w' => True)) := by
  refine reader1_any s gs ga g [.func (.func 61) #[] #[]] a w _ h1 h2 hr ?_ (by simp)
  refine wpF_below (P := fun n' er' => er' = (if a < s.size then 4 else 0) ∧ (er' = 0 → n' = a)) hr h1 h2 ((none_field hs ha).mono fun _ _ _ ⟨a, b, c⟩ => ⟨⟨a, b⟩, c⟩) ?_ ?_
  · rintro n' er' w' ⟨rfl, _⟩ h0 hb
    exact ⟨rfl, Kp.of_below hb, fun h => absurd h h0⟩
  · rintro n' er' w' ⟨rfl, hn⟩ h0 hk hr'
    obtain rfl := hn h0
    exact ⟨h0.symm, hk, fun _ => ⟨rfl, hr'.2.1, trivial⟩⟩

/-- The checksum, then the rest. -/
theorem read2_sum {s : ByteArray} {gs ga g a B x : Nat} {w : World} {F2 : Value} {old : Value} (hr : RdOk s gs ga g #[.func (.func 53) #[] #[], F2] a w) (h1 : gs ≠ ga) (h2 : g ≠ ga) (hE : Sd.Env w) (hs : s.size ≤ 140737488351232) (ha : a ≤ s.size)
    (hx : x ≠ gs ∧ x ≠ ga ∧ x ≠ g) (hF : RestF B w F2 x 0) (hB : ga < B) (hu : RowAt w x 9 #[old]) :
    Calls Tryd.prog 72 #[.slice (some ⟨g, 0, none⟩) 2 2, .pointer (some ⟨gs, 0, none⟩), .pointer (some ⟨ga, 0, none⟩)] w (QF (RdR ga s.size (rS s.data.toList a).2 [x, ga] w fun w' => RowAt w' x 9 #[.string (s.extract (a + 4) s.size)])) := by
  have hsl := size_len s
  refine reader1_any s gs ga g [.func (.func 53) #[] #[], F2] a w _ h1 h2 hr ?_ (by simp)
  refine wpF_below (P := fun n' er' => er' = (rS s.data.toList a).2 ∧ (er' = 0 → n' = (rS s.data.toList a).1)) hr h1 h2 (sum_field hE hs ha) ?_ ?_
  · rintro n' er' w' ⟨rfl, _⟩ h0 hb
    exact ⟨rfl, Kp.of_below hb, fun h => absurd h h0⟩
  · rintro n' er' w' ⟨rfl, hn⟩ h0 hk hr'
    obtain rfl := hn h0
    have h4 : (rS s.data.toList a).1 = a + 4 ∧ a + 4 ≤ s.size := by
      unfold rS at h0 ⊢
      by_cases h : s.data.toList.length < a + 4
      · rw [if_pos h] at h0; exact absurd (show (5 : Nat) = 0 from h0) (by decide)
      · rw [if_neg h] at h0 ⊢
        by_cases h' : f4 s.data.toList a = ck (s.data.toList.take a)
        · rw [if_pos h']; exact ⟨rfl, by omega⟩
        · rw [if_neg h'] at h0; exact absurd (show (12 : Nat) = 0 from h0) (by decide)
    rw [h4.1] at hr' ⊢
    have hk' : Kp [x, ga] w w' := hk.mono (fun k _ h => by simp at h ⊢; simp [h])
    refine wpF_set hr' h1 h2 hx (rest_field (by omega) h4.2 (hF.keep hk (by simpa using hB)) (hk.row hu (by simpa using hx.2.1)) (by simp)) (fun h => absurd rfl h) fun _ w2 hk2 hr2 hu2 => ?_
    exact ⟨h0.symm, hk'.trans hk2, fun _ => ⟨rfl, hr2.2.1, hu2⟩⟩

end Go.Proofs.YtillcmddbjhepaaDoor

namespace Go.Proofs.YtillcmddbjhepaaDoor
open Go Go.RowKit Go.Joins
set_option linter.unusedVariables false
set_option linter.unusedSimpArgs false

theorem KRow.rowAt {α : Type} {enc : α → Array Value} {k : Nat} {T : TypeId} {w : World} {B g n : Nat} {l : List α} (h : KRow enc k T w B (.slice (some ⟨g, 0, none⟩) n n) l) : RowAt w g T (kCs enc l).toArray ∧ B ≤ g := by
  obtain ⟨hl, h⟩ := h
  rcases h with ⟨h, _⟩ | ⟨g', cap, cur, e, hB, hc, h1, h2, h3, h4⟩
  · cases h
  · simp only [Value.slice.injEq, Option.some.injEq, Addr.mk.injEq, and_true] at e
    obtain ⟨rfl, rfl, rfl⟩ := e
    refine ⟨?_, hB⟩
    unfold RowAt
    rw [hc, ← h4, List.take_of_length_le (by rw [Array.length_toList, h3]; exact Nat.le_refl _)]
theorem KRow.of_rowAt {α : Type} {enc : α → Array Value} {k : Nat} {T : TypeId} {w : World} {B g n : Nat} {l : List α} (hk : ∀ x, (enc x).size = k) (h : RowAt w g T (kCs enc l).toArray) (hB : B ≤ g) (hn : n = l.length) (hl : n ≤ maxLen) : KRow enc k T w B (.slice (some ⟨g, 0, none⟩) n n) l := by
  subst hn
  refine ⟨kCs_len hk l, .inr ⟨g, _, _, rfl, hB, h, Nat.le_refl _, hl, by simp [kCs_len hk], ?_⟩⟩
  rw [List.take_of_length_le (by simp [kCs_len hk])]

/-- What readNames leads to. -/
def NamR (ga : Nat) (p : List ByteArray × Nat × Nat) (w : World) (e : Ending) (w' : World) : Prop :=
  ∃ (v : Value) (er : Nat), e = .returned (.tuple #[v, .int .i64 er]) ∧ er = p.2.2 ∧ Kp [ga] w w' ∧ (p.2.2 = 0 → Si.NmRow w' w.heap.size v p.1 ∧ RowAt w' ga 3 #[.int .i64 p.2.1])

theorem nmC_cells (X : List ByteArray) : kCs Si.nmC X = X.map Value.string := by
  induction X with
  | nil => rfl
  | cons x X ih => rw [kCs_cons, ih]; rfl
/-- The names so far, and room for the others. -/
def nmW (X : List ByteArray) (r : Nat) : List ByteArray := X ++ List.replicate r ⟨#[]⟩
theorem nmW_set (X : List ByteArray) (r : Nat) (s : ByteArray) : (kCs Si.nmC (nmW X (r + 1))).toArray.setIfInBounds X.length (.string s) = (kCs Si.nmC (nmW (X ++ [s]) r)).toArray := by
  apply Array.toList_inj.1
  rw [Array.toList_setIfInBounds]
  unfold nmW
  simp [nmC_cells, List.replicate_succ, List.set_append]
theorem nmW_size (X : List ByteArray) (r : Nat) : (kCs Si.nmC (nmW X r)).toArray.size = X.length + r := by
  unfold nmW; simp [nmC_cells]

/-- A read of one number: the place moves, the cell is set. -/
theorem readNum_any {s : ByteArray} {gs ga a B : Nat} {w : World} {F : Value} {x o m : Nat} {T : TypeId} {cs : Array Value} (hs : s.size ≤ 9223372036854775807) (hm : m ≤ 9223372036854775807) (h1 : gs ≠ ga) (r1 : RowAt w gs 9 #[.string s]) (r2 : RowAt w ga 3 #[.int .i64 a])
    (hF : NumF B w F x o m) (hx : RowAt w x T cs) (ho : o < cs.size) (hn : x ≠ gs ∧ x ≠ ga) :
    Calls Tryd.prog 72 #[.slice (some ⟨w.heap.size, 0, none⟩) 1 1, .pointer (some ⟨gs, 0, none⟩), .pointer (some ⟨ga, 0, none⟩)] (w.alloc (.cells #[F] 90)) (QF (RdR ga (rN s.data.toList a m).2.1 (rN s.data.toList a m).2.2 [x, ga] (w.alloc (.cells #[F] 90)) fun w' => RowAt w' x T (cs.setIfInBounds o (.int .i64 (rN s.data.toList a m).1)))) :=
  read1_set ⟨r1.alloc _, r2.alloc _, RowAt.new w _ _⟩ h1 (by have := r2.lt; omega) ⟨hn.1, hn.2, by have := hx.lt; omega⟩ (num_field hs hm (hF.keep (X := []) ((Kp.refl _ w).alloc _) (by simp)) (hx.alloc _) ho)
theorem readTxt_any {s : ByteArray} {gs ga a B : Nat} {w : World} {F : Value} {x o m : Nat} {T : TypeId} {cs : Array Value} (hs : s.size ≤ 140737488351232) (hm : m ≤ 9223372036854775807) (h1 : gs ≠ ga) (r1 : RowAt w gs 9 #[.string s]) (r2 : RowAt w ga 3 #[.int .i64 a])
    (hF : TxtF B w F x o m) (hx : RowAt w x T cs) (ho : o < cs.size) (hn : x ≠ gs ∧ x ≠ ga) :
    Calls Tryd.prog 72 #[.slice (some ⟨w.heap.size, 0, none⟩) 1 1, .pointer (some ⟨gs, 0, none⟩), .pointer (some ⟨ga, 0, none⟩)] (w.alloc (.cells #[F] 90)) (QF (RdR ga (Sb.tcN s.data.toList a m + Sb.tcV s.data.toList a m) (Sb.tcE s.data.toList a m) [x, ga] (w.alloc (.cells #[F] 90)) fun w' => RowAt w' x T (cs.setIfInBounds o (.string ⟨(Sb.ttS s.data.toList a m).toArray⟩)))) :=
  read1_set ⟨r1.alloc _, r2.alloc _, RowAt.new w _ _⟩ h1 (by have := r2.lt; omega) ⟨hn.1, hn.2, by have := hx.lt; omega⟩ (txt_field hs hm (hF.keep (X := []) ((Kp.refl _ w).alloc _) (by simp)) (hx.alloc _) ho)

/-- What the loop of readNames keeps. -/
def NmI (s : ByteArray) (gs ga G n a0 : Nat) (X : List ByteArray) (a : Nat) (w wr : World) : Prop :=
  X.length ≤ n ∧ aL X (tNm s.data.toList (n - X.length) a) = tNm s.data.toList n a0 ∧ RowAt wr G 9 (kCs Si.nmC (nmW X (n - X.length))).toArray ∧ w.heap.size ≤ G ∧ RowAt wr gs 9 #[.string s] ∧ RowAt wr ga 3 #[.int .i64 a] ∧ Kp [ga] w wr

set_option maxRecDepth 20000 in
set_option maxHeartbeats 2000000 in
theorem readNames_any (s : ByteArray) (gs ga a : Nat) (w : World) (hs : s.size ≤ 140737488351232) (h1 : gs ≠ ga) (r1 : RowAt w gs 9 #[.string s]) (r2 : RowAt w ga 3 #[.int .i64 a]) :
    Calls Tryd.prog 50 #[.func (.func 72) #[] #[.pointer (some ⟨gs, 0, none⟩), .pointer (some ⟨ga, 0, none⟩)]] w (NamR ga (rNm s.data.toList a) w) := by
  have R0 := Lib.hid (RowAt.new w 3 #[.int .i64 0])
  have R1 := Lib.hid r1
  have R2 := Lib.hid r2
  have H1 := Lib.hid h1
  have HG := Lib.hid (show w.heap.size ≠ gs ∧ w.heap.size ≠ ga from ⟨by have := r1.lt; omega, by have := r2.lt; omega⟩)
  have HGL := Lib.hid (And.intro r1.lt r2.lt)
  have CN := Lib.hid (number_any w.heap.size 0 16 (w.alloc (.cells #[.int .i64 0] 3)))
  have K0 := Lib.hid ((Kp.refl [ga] w).alloc (.cells #[.int .i64 0] 3))
  have HL := Lib.hid (rN_le s.data.toList a 16).1
  have HRN := Lib.hid (show rNm s.data.toList a = if (rN s.data.toList a 16).2.2 = 0 then tNm s.data.toList (rN s.data.toList a 16).1 (rN s.data.toList a 16).2.1 else ([], 0, (rN s.data.toList a 16).2.2) from rfl)
  have CR := Lib.hid (fun W F (hF : NumF (w.alloc (.cells #[.int .i64 0] 3)).heap.size W F w.heap.size 0 16) (q1 : RowAt W gs 9 #[.string s]) (q2 : RowAt W ga 3 #[.int .i64 a]) (q3 : RowAt W w.heap.size 3 #[.int .i64 0]) => readNum_any (a := a) (show s.size ≤ 9223372036854775807 by omega) (by omega) h1 q1 q2 hF q3 (by simp) HG.out)
  generalize rNm s.data.toList a = q at *
  generalize rN s.data.toList a 16 = p at *
  obtain ⟨n, a1, e1⟩ := p
  simp only at HL HRN CR
  clear r1 r2 h1
  by_cases h0 : e1 = 0
  · subst h0
    go_enter Tryd.func50, Tryd.ntmps50
    go_wp2_with (first
      | (go_at_call 51; go_must (refine CN.out.mono ?_; rintro e w1 ⟨F, rfl, hF, b1⟩; have R01 := Lib.hid (R0.out.keep b1); have K1 := Lib.hid (K0.out.then_below b1); have CR1 := Lib.hid (CR.out _ F hF ((R1.out.alloc _).keep b1) ((R2.out.alloc _).keep b1) (R0.out.keep b1)); obtain ⟨p1, p2, _, _, rfl, _, _⟩ := hF; clear b1 CN CR))
      | (go_at_call 72; go_must (refine CR1.out.mono ?_; rintro e w2 ⟨er, a2, rfl, rfl, hK, hP⟩; have HK := Lib.hid (show Kp [w.heap.size, ga] _ _ from (K1.out.alloc _).mono (fun k _ h => by simp at h ⊢; exact .inr h) |>.trans hK); have HP := Lib.hid (hP rfl); have hb0 := (hP rfl).2.2.get1; clear hK hP CR1))
      | (at_make; go_must (refine wpList_make_k (n := n) (enc := Si.nmC) (B := w.heap.size) Tryd.underlying22 Si.name_info (⟨#[]⟩ : ByteArray) rfl rfl rfl _ _ rfl rfl rfl rfl rfl (by have := HL.out; omega) (by have := HL.out; omega) HK.out.size ?_; intro w3 R3 b3))
      | fail)
    have HR3 := Lib.hid (KRow.rowAt R3)
    have HK3 := Lib.hid ((HK.out.mono (Y := [ga]) (fun k hk h => by simp at h ⊢; omega)).then_old b3)
    have HI := Lib.hid (show NmI s gs ga w2.heap.size n a1 [] a1 w w3 from ⟨Nat.zero_le _, aL_nil _ (tNm_bad _ _ _), HR3.out.1, HR3.out.2, (HK.out.row R1.out (by simp; exact ⟨fun e => HG.out.1 e.symm, H1.out⟩)).below b3 HGL.out.1, HP.out.2.1.below b3 HGL.out.2, HK3.out⟩)
    have HQ := Lib.hid (show q = tNm s.data.toList n a1 by rw [HRN.out]; exact if_pos trivial)
    have hn16 : n ≤ 16 := HL.out
    clear R0 R1 R2 HG K0 HL HRN R01 K1 HK HP R3 b3 HR3 HK3
    generalize w2.heap.size = G at *
    go_loopw [20] (fun i wr => ∃ (X : List ByteArray) (b : Nat), i = .int .i64 X.length ∧ Hid (NmI s gs ga G n a1 X b w wr)) (fun i _ => n - (intOf i).toNat)
    case atStart => exact ⟨[], a1, rfl, HI⟩
    case round =>
      clear HI hb0
      obtain ⟨X, b, rfl, HI⟩ := hrel
      obtain ⟨hX, i2, i3, i4, i5, i6, i7⟩ := HI.out
      have I2 := Lib.hid i2; have I3 := Lib.hid i3; have I4 := Lib.hid i4; have I5 := Lib.hid i5; have I6 := Lib.hid i6; have I7 := Lib.hid i7
      clear i2 i3 i4 i5 i6 i7 HI
      by_cases hlt : X.length < n
      · obtain ⟨m, hm⟩ : ∃ m, n - X.length = m + 1 := ⟨n - X.length - 1, by omega⟩
        have hXi : (X.length : Int) < n := by omega
        obtain ⟨k, hk⟩ : ∃ k, X.length = k := ⟨_, rfl⟩
        have CT := Lib.hid (fun W => text_any G k 16 W)
        have hga : ga < G := Nat.lt_of_lt_of_le HGL.out.2 I4.out
        have hgs : gs < G := Nat.lt_of_lt_of_le HGL.out.1 I4.out
        have CR := Lib.hid (fun W F (hF : TxtF wr.heap.size W F G k 16) (hb : Below wr.heap.size wr W) => readTxt_any (a := b) hs (by decide) H1.out (I5.out.keep hb) (I6.out.keep hb) hF (I3.out.keep hb) (by rw [nmW_size]; omega) ⟨by omega, by omega⟩)
        have hkl : k < n := by omega
        have hki : (k : Int) < n := by omega
        have I2s := Lib.hid I2.out
        rw [hm] at I2s I3
        have HKX := Lib.hid hk
        rw [hk]
        obtain ⟨tE, htE⟩ : ∃ tE, Sb.tcE s.data.toList b 16 = tE := ⟨_, rfl⟩
        by_cases hE : Sb.tcE s.data.toList b 16 = 0
        · have HT := Lib.hid (tNm_ok (k := m) hE)
          have hE2 := hE
          rw [show (Sb.tcE s.data.toList b 16 : Nat) = Sb.tcE s.data.toList b (16 : Nat) from rfl] at hE2
          rw [hE2] at CR
          have HNX := Lib.hid (nmW_set X m ⟨(Sb.ttS s.data.toList b 16).toArray⟩)
          have HAL := Lib.hid (aL_cons X (⟨(Sb.ttS s.data.toList b 16).toArray⟩ : ByteArray) (tNm s.data.toList m (Sb.tcN s.data.toList b 16 + Sb.tcV s.data.toList b 16)))
          clear hE hE2 htE hk hX hXi hlt
          go_wp2_with (first
            | (go_at_call 73; go_must (refine (CT.out _).mono ?_; rintro e w4 ⟨F, rfl, hF, b4⟩; have K4 := Lib.hid (I7.out.then_below b4); have I54 := Lib.hid (I5.out.keep b4); have CR4 := Lib.hid (CR.out _ F hF b4); obtain ⟨p1, p2, _, _, rfl, _, _⟩ := hF; clear b4 CT CR))
            | (go_at_call 72; go_must (refine CR4.out.mono ?_; rintro e w5 ⟨er, b5, rfl, rfl, hK, hP⟩; have K5 := Lib.hid (show Kp [G, ga] _ _ from (K4.out.alloc _).mono (fun k _ h => by simp at h ⊢; exact .inr h) |>.trans hK); have P5 := Lib.hid (hP rfl); have KK := Lib.hid hK; clear hK hP CR4))
            | fail)
          refine ⟨⟨X ++ [⟨(Sb.ttS s.data.toList b 16).toArray⟩], Sb.tcN s.data.toList b 16 + Sb.tcV s.data.toList b 16, val_int (by rw [List.length_append, HKX.out]; simp), Lib.hid ?_⟩, by simp [intOf]; omega⟩
          have hlen : (X ++ [(⟨(Sb.ttS s.data.toList b 16).toArray⟩ : ByteArray)]).length = k + 1 := by rw [List.length_append, HKX.out]; rfl
          have hm2 : n - (k + 1) = m := by have := HKX.out; omega
          refine ⟨by rw [hlen]; omega, ?_, ?_, I4.out, KK.out.row (I54.out.alloc _) (by simp; exact ⟨by omega, H1.out⟩), P5.out.2.1, K5.out.mono (fun j hj h => by simp at h ⊢; have := I4.out; omega)⟩
          · rw [hlen, hm2, ← HAL.out, ← HT.out]; exact I2s.out
          · rw [hlen, hm2, ← HNX.out, HKX.out]; have e := P5.out.2.2; rw [show n - X.length = m + 1 by have := HKX.out; omega] at e; exact e
        · have HT := Lib.hid (tNm_no (k := m) hE)
          have hE2 : ((tE : Int) != 0) = true := by simp; omega
          rw [show (Sb.tcE s.data.toList b 16 : Nat) = Sb.tcE s.data.toList b (16 : Nat) from rfl] at htE
          rw [htE] at CR
          have HE := Lib.hid (show q.2.2 = tE ∧ q.2.2 ≠ 0 by
            rw [HQ.out, ← I2s.out, HT.out]
            unfold aL
            rw [if_neg hE]
            exact ⟨htE, hE⟩)
          clear hE htE hk hX hXi hlt
          go_wp2_with (first
            | (go_at_call 73; go_must (refine (CT.out _).mono ?_; rintro e w4 ⟨F, rfl, hF, b4⟩; have K4 := Lib.hid (I7.out.then_below b4); have CR4 := Lib.hid (CR.out _ F hF b4); obtain ⟨p1, p2, _, _, rfl, _, _⟩ := hF; clear b4 CT CR))
            | (go_at_call 72; go_must (refine CR4.out.mono ?_; rintro e w5 ⟨er, b5, rfl, rfl, hK, hP⟩; have K5 := Lib.hid (show Kp [G, ga] _ _ from (K4.out.alloc _).mono (fun k _ h => by simp at h ⊢; exact .inr h) |>.trans hK); clear hK hP CR4))
            | fail)
          go_returns
          exact ⟨_, er, rfl, HE.out.1.symm, K5.out.mono (fun j hj h => by simp at h ⊢; have := I4.out; omega), fun h => absurd h HE.out.2⟩
      · have hXn : X.length = n := by omega
        have hn0 : n - X.length = 0 := by omega
        have hlti : ¬ (X.length : Int) < n := by omega
        rw [hn0] at I2 I3
        have HF := Lib.hid (show NamR ga q w (.returned (.tuple #[.slice (some ⟨G, 0, none⟩) n n, .int .i64 0])) wr by
          have e1 : q = (X, b, 0) := by
            rw [HQ.out, ← I2.out]
            show aL X ([], b, 0) = (X, b, 0)
            unfold aL; simp
          refine ⟨_, 0, rfl, by rw [e1], I7.out, fun _ => ?_⟩
          rw [e1]
          have e2 : nmW X 0 = X := by unfold nmW; simp
          have r := I3.out
          rw [e2] at r
          exact ⟨KRow.of_rowAt Si.nmC_size r I4.out hXn.symm (by simp only [maxLen]; omega), I6.out⟩)
        clear hXn hn0 I2 I3 I5 I6
        go_wp2
        go_returns
        exact HF.out
  · have h0' : ((e1 : Int) != 0) = true := by simp; omega
    go_enter Tryd.func50, Tryd.ntmps50
    go_wp2_with (first
      | (go_at_call 51; go_must (refine CN.out.mono ?_; rintro e w1 ⟨F, rfl, hF, b1⟩; have R01 := Lib.hid (R0.out.keep b1); have K1 := Lib.hid (K0.out.then_below b1); have CR1 := Lib.hid (CR.out _ F hF ((R1.out.alloc _).keep b1) ((R2.out.alloc _).keep b1) (R0.out.keep b1)); obtain ⟨p1, p2, _, _, rfl, _, _⟩ := hF; clear b1 CN CR))
      | (go_at_call 72; go_must (refine CR1.out.mono ?_; rintro e w2 ⟨er, a2, rfl, rfl, hK, hP⟩; have HK := Lib.hid (show Kp [w.heap.size, ga] _ _ from (K1.out.alloc _).mono (fun k _ h => by simp at h ⊢; exact .inr h) |>.trans hK); clear hK hP CR1))
      | fail)
    go_returns
    refine ⟨_, er, rfl, by rw [HRN.out, if_neg h0], HK.out.mono (fun k hk h => by simp at h ⊢; omega), fun h => absurd (by rw [HRN.out, if_neg h0] at h; exact h) h0⟩

end Go.Proofs.YtillcmddbjhepaaDoor

namespace Go.Proofs.YtillcmddbjhepaaDoor
open Go Go.RowKit Go.Joins
set_option linter.unusedVariables false
set_option linter.unusedSimpArgs false

theorem wpList_append_pt {w : World} {ops : Array Oper} {rest : List Oper} {o : Oper} {a : Act} {Q : Exit → Act → World → Prop} (hgd : o.guard = none) (s x : Operand)
    (ho : o.op = .call { callee := .builtin .append, args := #[s, x], argTypes := #[52, 52] })
    {B c : Nat} {v : Value} {l : List Pt} {g : Nat} {ya : Array Value} (t : Pt) (hya : ya = ptC t) (hs : a.eval s = v) (hx : a.eval x = .slice (some ⟨g, 0, none⟩) 1 c) (hg : g = w.heap.size) (hf : PtRow w B v l) (hB : B ≤ w.heap.size) (hn : l.length ≤ 100000)
    (h : ∀ v' w', PtRow w' B v' (l ++ [t]) → Below B w w' → (∀ k, k < w.heap.size → some k ≠ v.ownBlock → w'.heap[k]? = w.heap[k]?) → wpList Tryd.prog ops Q rest (a.put o.dst v') w') : wpList Tryd.prog ops Q (o :: rest) a (w.alloc (.cells ya 57)) :=
  wpList_append_k2 (P := Tryd.prog) Tryd.underlying52 pt_info rfl (by omega) ptC_size hgd s x ho t hya hs hx hg hf hB (by subst hya; exact ptC_one t) (by omega) (by omega) h

/-- The blocks as far as the table tells. -/
def ptE (R : Nat) (E : List En) : List Pt := E.mapIdx fun i x => (x.1, 0, szN R i, x.2.1, x.2.2, ⟨#[]⟩)
theorem ptE_snoc (R : Nat) (E : List En) (x : En) : ptE R (E ++ [x]) = ptE R E ++ [(x.1, 0, szN R E.length, x.2.1, x.2.2, ⟨#[]⟩)] := by
  unfold ptE; rw [List.mapIdx_append]; simp
theorem ptE_len (R : Nat) (E : List En) : (ptE R E).length = E.length := by simp [ptE]

/-- The table: the entries, where it ends, the error. -/
def tbE (l : List UInt8) (R a : Nat) : List En × Nat × Nat := if (rX l a (bkN R)).2 = 0 then tEn l (bkN R) (rX l a (bkN R)).1 else ([], 0, (rX l a (bkN R)).2)
def TabR (ga R : Nat) (p : List En × Nat × Nat) (w : World) (e : Ending) (w' : World) : Prop :=
  ∃ (v : Value) (er : Nat), e = .returned (.tuple #[v, .int .i64 er]) ∧ (∃ A n c, v = .slice A n c) ∧ er = p.2.2 ∧ Kp [ga] w w' ∧ (p.2.2 = 0 → PtRow w' w.heap.size v (ptE R p.1) ∧ RowAt w' ga 3 #[.int .i64 p.2.1])

theorem readEx_any {s : ByteArray} {gs ga a B n : Nat} {w : World} {F : Value} (hs : s.size ≤ 9223372036854775807) (hn : n ≤ 9223372036854775807) (h1 : gs ≠ ga) (r1 : RowAt w gs 9 #[.string s]) (r2 : RowAt w ga 3 #[.int .i64 a])
    (hF : ExF B w F n) :
    Calls Tryd.prog 72 #[.slice (some ⟨w.heap.size, 0, none⟩) 1 1, .pointer (some ⟨gs, 0, none⟩), .pointer (some ⟨ga, 0, none⟩)] (w.alloc (.cells #[F] 90)) (QF (RdR ga (rX s.data.toList a n).1 (rX s.data.toList a n).2 [ga] (w.alloc (.cells #[F] 90)) fun w' => True)) :=
  read1_ex ⟨r1.alloc _, r2.alloc _, RowAt.new w _ _⟩ h1 (by have := r2.lt; omega) hs hn (hF.keep (X := []) ((Kp.refl _ w).alloc _) (by simp))

/-- One entry of the table. -/
theorem readEnt_any {s : ByteArray} {gs ga a B r : Nat} {w : World} {F1 F2 F3 : Value} {x : Nat} (hs : s.size ≤ 140737488351232) (ha : a ≤ s.size) (h1 : gs ≠ ga) (r1 : RowAt w gs 9 #[.string s]) (r2 : RowAt w ga 3 #[.int .i64 a])
    (hF1 : NumF B w F1 x 0 1099511627776) (hF2 : NumF B w F2 x 3 1048576) (hF3 : FourF B w F3 x 4) (hB : x < B) (hgB : ga < B) (hx : RowAt w x 57 #[.int .i64 0, .int .i64 0, .int .i64 r, .int .i64 0, .int .i64 0, .string ⟨#[]⟩]) (hn : x ≠ gs ∧ x ≠ ga) :
    Calls Tryd.prog 72 #[.slice (some ⟨w.heap.size, 0, none⟩) 3 3, .pointer (some ⟨gs, 0, none⟩), .pointer (some ⟨ga, 0, none⟩)] (w.alloc (.cells #[F1, F2, F3] 90)) (QF (RdR ga (rE s.data.toList a).2.1 (rE s.data.toList a).2.2 [x, ga] (w.alloc (.cells #[F1, F2, F3] 90)) fun w' => RowAt w' x 57 #[.int .i64 (rE s.data.toList a).1.1, .int .i64 0, .int .i64 r, .int .i64 (rE s.data.toList a).1.2.1, .int .i64 (rE s.data.toList a).1.2.2, .string ⟨#[]⟩])) := by
  have hk0 : Kp [x, ga] w (w.alloc (.cells #[F1, F2, F3] 90)) := (Kp.refl _ w).alloc _
  have hX : ∀ k ∈ [x, ga], k < B := by intro k hk; simp at hk; omega
  have hsl := size_len s
  have hn1 := rN_next s.data.toList a 1099511627776 (by omega)
  have hn2 := rN_next s.data.toList (rN s.data.toList a 1099511627776).2.1 1048576 hn1
  have h := read3_set (s := s) (a := a) (w := w.alloc (.cells #[F1, F2, F3] 90)) ⟨r1.alloc _, r2.alloc _, RowAt.new w _ _⟩ h1 (by have := r2.lt; omega) ⟨hn.1, hn.2, by have := hx.lt; omega⟩
    (num_field (by omega) (by decide) (hF1.keep hk0 hX) (hx.alloc _) (by simp))
    (fun _ w' hk hr => num_field (by omega) (by decide) ((hF2.keep hk0 hX).keep hk hX) hr (by simp))
    (fun _ _ w' hk hr => four_field hs (by omega) ((hF3.keep hk0 hX).keep hk hX) hr (by simp) hB)
  refine h.mono ?_
  rintro e w' ⟨er, a', rfl, rfl, hk, hp⟩
  unfold rE
  generalize rF s.data.toList (rN s.data.toList (rN s.data.toList a 1099511627776).2.1 1048576).2.1 = p3 at *
  generalize rN s.data.toList (rN s.data.toList a 1099511627776).2.1 1048576 = p2 at *
  generalize rN s.data.toList a 1099511627776 = p1 at *
  by_cases c1 : p1.2.2 = 0
  · by_cases c2 : p2.2.2 = 0
    · rw [if_pos c1, if_pos c2] at hp ⊢
      rw [if_neg (by omega), if_neg (by omega)]
      exact ⟨_, a', rfl, rfl, hk, hp⟩
    · rw [if_pos c1, if_neg c2] at hp ⊢
      rw [if_neg (by omega), if_pos c2]
      exact ⟨_, a', rfl, rfl, hk, fun h => absurd h c2⟩
  · rw [if_neg c1] at hp ⊢
    rw [if_pos c1]
    exact ⟨_, a', rfl, rfl, hk, fun h => absurd h c1⟩

theorem cells6 {w : World} {b : Nat} {T : TypeId} {x0 x1 x2 x3 x4 x5 : Value} (h : RowAt w b T #[x0, x1, x2, x3, x4, x5]) : w.cell? ⟨b, 0, none⟩ = some x0 ∧ w.cell? ⟨b, 1, none⟩ = some x1 ∧ w.cell? ⟨b, 2, none⟩ = some x2 ∧ w.cell? ⟨b, 3, none⟩ = some x3 ∧ w.cell? ⟨b, 4, none⟩ = some x4 ∧ w.cell? ⟨b, 5, none⟩ = some x5 :=
  ⟨h.cell 0, h.cell 1, h.cell 2, h.cell 3, h.cell 4, h.cell 5⟩
/-- What the loop of readTable keeps. -/
def TbI (s : ByteArray) (gs ga R a0 : Nat) (X : List En) (a : Nat) (v : Value) (w wr : World) : Prop :=
  X.length ≤ bkN R ∧ aL X (tEn s.data.toList (bkN R - X.length) a) = tEn s.data.toList (bkN R) a0 ∧ PtRow wr w.heap.size v (ptE R X) ∧ RowAt wr gs 9 #[.string s] ∧ RowAt wr ga 3 #[.int .i64 a] ∧ Kp [ga] w wr ∧ a ≤ s.size

set_option maxRecDepth 20000 in
set_option maxHeartbeats 2000000 in
theorem readTable_any (s : ByteArray) (gs ga a R : Nat) (w : World) (hs : s.size ≤ 140737488351232) (h1 : gs ≠ ga) (r1 : RowAt w gs 9 #[.string s]) (r2 : RowAt w ga 3 #[.int .i64 a]) (ha : a ≤ s.size) (hR : R ≤ 262144) :
    Calls Tryd.prog 52 #[.func (.func 72) #[] #[.pointer (some ⟨gs, 0, none⟩), .pointer (some ⟨ga, 0, none⟩)], .int .i64 R] w (TabR ga R (tbE s.data.toList R a) w) := by
  have R1 := Lib.hid r1
  have R2 := Lib.hid r2
  have H1 := Lib.hid h1
  have HGL := Lib.hid (And.intro r1.lt r2.lt)
  have CN := Lib.hid (exactly_any (bkN R) w)
  have hb1 : bkN R ≤ 16384 := by unfold bkN; omega
  have hq : ((R : Int) + 16 - 1) / 16 = (bkN R : Int) := by unfold bkN; omega
  have hq2 : ((R : Int) + 15) / 16 = (bkN R : Int) := by unfold bkN; omega
  have HX := Lib.hid (show (rX s.data.toList a (bkN R)).1 ≤ s.size by
    have := (Sb.tu_bounds s.data.toList a).2.1
    have := size_len s
    unfold rX; show Sb.tuN _ _ ≤ _; omega)
  have HRN := Lib.hid (show tbE s.data.toList R a = if (rX s.data.toList a (bkN R)).2 = 0 then tEn s.data.toList (bkN R) (rX s.data.toList a (bkN R)).1 else ([], 0, (rX s.data.toList a (bkN R)).2) from rfl)
  have CR := Lib.hid (fun W F (hF : ExF w.heap.size W F (bkN R)) (q1 : RowAt W gs 9 #[.string s]) (q2 : RowAt W ga 3 #[.int .i64 a]) => readEx_any (a := a) (show s.size ≤ 9223372036854775807 by omega) (show bkN R ≤ 9223372036854775807 by omega) h1 q1 q2 hF)
  have HNB := Lib.hid (show bkN R = (R + 15) / 16 from rfl)
  generalize tbE s.data.toList R a = q at *
  generalize rX s.data.toList a (bkN R) = p at *
  obtain ⟨a1, e1⟩ := p
  simp only at HRN CR HX
  clear r1 r2 h1
  by_cases h0 : e1 = 0
  · subst h0
    go_enter Tryd.func52, Tryd.ntmps52
    go_wp2_with (first
      | (go_at_call 76; go_must (refine CN.out.mono ?_; rintro e w1 ⟨F, rfl, hF, b1⟩; have K1 := Lib.hid ((Kp.refl [ga] w).then_below b1); have R11 := Lib.hid (R1.out.keep b1); have CR1 := Lib.hid (CR.out _ F hF (R1.out.keep b1) (R2.out.keep b1)); obtain ⟨p1, _, rfl, _⟩ := hF; clear b1 CN CR))
      | (go_at_call 72; go_must (refine CR1.out.mono ?_; rintro e w2 ⟨er, a2, rfl, rfl, hK, hP⟩; have HK := Lib.hid ((K1.out.alloc _).trans hK); have R12 := Lib.hid (hK.row (R11.out.alloc _) (by simpa using H1.out)); have HP := Lib.hid (hP rfl); clear hK hP CR1))
      | fail)
    have HI := Lib.hid (show TbI s gs ga R a1 [] a1 (.slice none 0 0) w w2 from ⟨Nat.zero_le _, aL_nil _ (tEn_bad _ _ _), KRow.nil _ _, R12.out, HP.out.2.1, HK.out, HX.out⟩)
    have HQ := Lib.hid (show q = tEn s.data.toList (bkN R) a1 by rw [HRN.out]; exact if_pos trivial)
    clear R1 R2 HRN HK R12 HP R11 K1 HX hq hq2
    go_loopw [8, 25] (fun v i wr => ∃ (X : List En) (b : Nat), i = .int .i64 X.length ∧ Hid (TbI s gs ga R a1 X b v w wr)) (fun _ i _ => bkN R - (intOf i).toNat)
    case atStart => exact ⟨[], a1, rfl, HI⟩
    case round =>
      clear HI
      obtain ⟨X, b, rfl, HI⟩ := hrel
      obtain ⟨hX, i2, i3, i4, i5, i6, i7⟩ := HI.out
      have I2 := Lib.hid i2; have I3 := Lib.hid i3; have I4 := Lib.hid i4; have I5 := Lib.hid i5; have I6 := Lib.hid i6
      obtain ⟨vA, vn, vc, rfl, hvn⟩ := KRow.form i3
      clear i2 i3 i4 i5 i6 HI hvn
      by_cases hlt : X.length < bkN R
      · obtain ⟨m, hm⟩ : ∃ m, bkN R - X.length = m + 1 := ⟨bkN R - X.length - 1, by omega⟩
        obtain ⟨k, hk⟩ : ∃ k, X.length = k := ⟨_, rfl⟩
        obtain ⟨d, hd⟩ : ∃ d, R - 16 * k = d := ⟨_, rfl⟩
        have hkb : 16 * k < R := by have := HNB.out; omega
        have hdi : (R : Int) - (k : Int) * 16 = (d : Int) := by omega
        have hki : (k : Int) < (bkN R : Int) := by omega
        have hkn : k < bkN R := by omega
        obtain ⟨r, hr⟩ : ∃ r, szN R k = r := ⟨_, rfl⟩
        have hmin : min (d : Int) 16 = (r : Int) := by
          have : r = min d 16 := by rw [← hr]; unfold szN; rw [hd]
          omega
        have HSZ := Lib.hid hr
        have HKX := Lib.hid hk
        have HM := Lib.hid hm
        have hwg : ga < wr.heap.size ∧ gs < wr.heap.size := ⟨I5.out.lt, I4.out.lt⟩
        have HW := Lib.hid (show w.heap.size ≤ wr.heap.size ∧ ga < wr.heap.size ∧ gs < wr.heap.size from ⟨I6.out.size, I5.out.lt, I4.out.lt⟩)
        have CR := Lib.hid (fun W F1 F2 F3 (hF1 : NumF (wr.alloc (.cells #[.int .i64 0, .int .i64 0, .int .i64 r, .int .i64 0, .int .i64 0, .string ⟨#[]⟩] 57)).heap.size W F1 wr.heap.size 0 1099511627776) (hF2 : NumF (wr.alloc (.cells #[.int .i64 0, .int .i64 0, .int .i64 r, .int .i64 0, .int .i64 0, .string ⟨#[]⟩] 57)).heap.size W F2 wr.heap.size 3 1048576) (hF3 : FourF (wr.alloc (.cells #[.int .i64 0, .int .i64 0, .int .i64 r, .int .i64 0, .int .i64 0, .string ⟨#[]⟩] 57)).heap.size W F3 wr.heap.size 4) (hb : Below (wr.alloc (.cells #[.int .i64 0, .int .i64 0, .int .i64 r, .int .i64 0, .int .i64 0, .string ⟨#[]⟩] 57)).heap.size (wr.alloc (.cells #[.int .i64 0, .int .i64 0, .int .i64 r, .int .i64 0, .int .i64 0, .string ⟨#[]⟩] 57)) W) =>
          readEnt_any hs i7 H1.out ((I4.out.alloc _).keep hb) ((I5.out.alloc _).keep hb) hF1 hF2 hF3 (by rw [World.size_alloc]; omega) (by rw [World.size_alloc]; omega) ((RowAt.new wr _ _).keep hb) ⟨by omega, by omega⟩)
        have HOB := Lib.hid (show ∀ g, (Value.slice vA vn vc).ownBlock = some g → g ∉ [wr.heap.size, ga] from fun g hg => by
          have h1 := KRow.lt I3.out g hg
          have h2 := HGL.out.2
          simp; omega)
        have HGX := Lib.hid (show gs ∉ [wr.heap.size, ga] by simp; exact ⟨by omega, H1.out⟩)
        have HLN := Lib.hid (show (ptE R X).length ≤ 100000 by rw [ptE_len]; omega)
        have HLE := Lib.hid (fun (h : (rE s.data.toList b).2.2 = 0) => (rE_bd h))
        have I2s := Lib.hid I2.out
        rw [hm] at I2s
        rw [hk]
        clear hX hlt hd hk hkb hr hm hwg i7 I2
        obtain ⟨P, hP⟩ : ∃ P, rE s.data.toList b = P := ⟨_, rfl⟩
        have HTO := Lib.hid (fun (h : P.2.2 = 0) => tEn_ok (l := s.data.toList) (k := m) (a := b) (by rw [hP]; exact h))
        have HTN := Lib.hid (fun (h : ¬ P.2.2 = 0) => tEn_no (l := s.data.toList) (k := m) (a := b) (by rw [hP]; exact h))
        rw [hP] at CR HTO HTN HLE
        clear hP
        obtain ⟨⟨x1, x2, x3⟩, y, z⟩ := P
        simp only at CR HTO HTN HLE
        by_cases hE : z = 0
        · subst hE
          go_wp2_with (first
            | (go_at_call 51; go_must (first
              | (have tok := T1.out; refine (number_any _ _ _ _).mono ?_; rintro e w5 ⟨F2, rfl, hF2, b5⟩; have B5 := Lib.hid (B4.out.trans (b5.mono B4.out.size)); have G1 := Lib.hid (HF1.out.keep (X := []) (Kp.of_below b5) (by simp)); have HF2 := Lib.hid (hF2.mono B4.out.size); obtain ⟨p3, p4, _, _, rfl, _, _⟩ := hF2; clear T1 HF1 b5)
              | (refine (number_any _ _ _ _).mono ?_; rintro e w4 ⟨F1, rfl, hF1, b4⟩; have T1 := Lib.hid trivial; have B4 := Lib.hid b4; have HF1 := Lib.hid hF1; obtain ⟨p1, p2, _, _, rfl, _, _⟩ := hF1; clear b4)))
            | (go_at_call 77; go_must (refine (mkfour_any _ _ _).mono ?_; rintro e w6 ⟨F3, rfl, hF3, b6⟩; have B6 := Lib.hid (B5.out.trans (b6.mono B5.out.size)); have CR6 := Lib.hid (CR.out _ _ _ _ (G1.out.keep (X := []) (Kp.of_below b6) (by simp)) (HF2.out.keep (X := []) (Kp.of_below b6) (by simp)) (hF3.mono B5.out.size) B6.out); have I46 := Lib.hid ((I4.out.alloc (.cells #[.int .i64 0, .int .i64 0, .int .i64 r, .int .i64 0, .int .i64 0, .string ⟨#[]⟩] 57)).keep B6.out); have K6 := Lib.hid ((I6.out.alloc (.cells #[.int .i64 0, .int .i64 0, .int .i64 r, .int .i64 0, .int .i64 0, .string ⟨#[]⟩] 57)).then_below B6.out); have I36 := Lib.hid (KRow.keep (I3.out.alloc (.cells #[.int .i64 0, .int .i64 0, .int .i64 r, .int .i64 0, .int .i64 0, .string ⟨#[]⟩] 57)) B6.out); obtain ⟨p5, _, rfl, _⟩ := hF3; clear G1 HF2 b6 B4 B5 CR))
            | (go_at_call 72; go_must (refine CR6.out.mono ?_; rintro e w7 ⟨er, b7, rfl, rfl, hK, hP⟩; have K7 := Lib.hid (show Kp [wr.heap.size, ga] _ _ from (K6.out.alloc _).mono (fun k _ h => by simp at h ⊢; exact .inr h) |>.trans hK); have P7 := Lib.hid (hP rfl); obtain ⟨c0, c1, c2, c3, c4, c5⟩ := cells6 (hP rfl).2.2; have I37 := Lib.hid (KRow.kp (KRow.alloc I36.out _) hK HOB.out); have I47 := Lib.hid (hK.row (I46.out.alloc _) HGX.out); clear hK hP CR6))
            | (at_builtin; go_must (refine wpList_append_pt rfl (.tmp 46) (.tmp 48) rfl (x1, 0, r, x2, x3, ⟨#[]⟩) rfl rfl rfl rfl I37.out K7.out.size HLN.out ?_; intro v8 w8 r8 b8 n8))
            | fail)
          go_roundw
          case rel =>
            refine ⟨X ++ [(x1, x2, x3)], y, val_int (by rw [List.length_append, HKX.out]; simp), Lib.hid ?_⟩
            have hlen : (X ++ [((x1, x2, x3) : En)]).length = k + 1 := by rw [List.length_append, HKX.out]; rfl
            have hm2 : bkN R - (k + 1) = m := by have := HM.out; have := HKX.out; omega
            refine ⟨by rw [hlen]; omega, ?_, ?_, I47.out.below b8 HGL.out.1, P7.out.2.1.below b8 HGL.out.2, (K7.out.mono (fun j hj h => by simp at h ⊢; have := HW.out; omega)).then_old b8, by have := (HLE.out trivial).2.2.2; rw [size_len]; exact this⟩
            · rw [hlen, hm2, ← I2s.out, HTO.out trivial, aL_cons]
            · rw [ptE_snoc, HKX.out, HSZ.out]; exact r8
          case measure => simp [intOf]; omega
        · have hE2 : ((z : Int) != 0) = true := by simp; omega
          go_wp2_with (first
            | (go_at_call 51; go_must (first
              | (have tok := T1.out; refine (number_any _ _ _ _).mono ?_; rintro e w5 ⟨F2, rfl, hF2, b5⟩; have B5 := Lib.hid (B4.out.trans (b5.mono B4.out.size)); have G1 := Lib.hid (HF1.out.keep (X := []) (Kp.of_below b5) (by simp)); have HF2 := Lib.hid (hF2.mono B4.out.size); obtain ⟨p3, p4, _, _, rfl, _, _⟩ := hF2; clear T1 HF1 b5)
              | (refine (number_any _ _ _ _).mono ?_; rintro e w4 ⟨F1, rfl, hF1, b4⟩; have T1 := Lib.hid trivial; have B4 := Lib.hid b4; have HF1 := Lib.hid hF1; obtain ⟨p1, p2, _, _, rfl, _, _⟩ := hF1; clear b4)))
            | (go_at_call 77; go_must (refine (mkfour_any _ _ _).mono ?_; rintro e w6 ⟨F3, rfl, hF3, b6⟩; have B6 := Lib.hid (B5.out.trans (b6.mono B5.out.size)); have CR6 := Lib.hid (CR.out _ _ _ _ (G1.out.keep (X := []) (Kp.of_below b6) (by simp)) (HF2.out.keep (X := []) (Kp.of_below b6) (by simp)) (hF3.mono B5.out.size) B6.out); have I46 := Lib.hid ((I4.out.alloc (.cells #[.int .i64 0, .int .i64 0, .int .i64 r, .int .i64 0, .int .i64 0, .string ⟨#[]⟩] 57)).keep B6.out); have K6 := Lib.hid ((I6.out.alloc (.cells #[.int .i64 0, .int .i64 0, .int .i64 r, .int .i64 0, .int .i64 0, .string ⟨#[]⟩] 57)).then_below B6.out); have I36 := Lib.hid (KRow.keep (I3.out.alloc (.cells #[.int .i64 0, .int .i64 0, .int .i64 r, .int .i64 0, .int .i64 0, .string ⟨#[]⟩] 57)) B6.out); obtain ⟨p5, _, rfl, _⟩ := hF3; clear G1 HF2 b6 B4 B5 CR))
            | (go_at_call 72; go_must (refine CR6.out.mono ?_; rintro e w7 ⟨er, b7, rfl, rfl, hK, hP⟩; have K7 := Lib.hid (show Kp [wr.heap.size, ga] _ _ from (K6.out.alloc _).mono (fun k _ h => by simp at h ⊢; exact .inr h) |>.trans hK); clear hK hP CR6))
            | fail)
          have HE := Lib.hid (show q.2.2 = er ∧ q.2.2 ≠ 0 by
            rw [HQ.out, ← I2s.out, HTN.out hE]
            unfold aL
            rw [if_neg hE]
            exact ⟨rfl, hE⟩)
          go_returns
          exact ⟨_, er, rfl, ⟨_, _, _, rfl⟩, HE.out.1.symm, K7.out.mono (fun j hj h => by simp at h ⊢; have := HW.out; omega), fun h => absurd h HE.out.2⟩
      · have hXn : X.length = bkN R := by omega
        have hn0 : bkN R - X.length = 0 := by omega
        have hlti : ¬ (X.length : Int) < (bkN R : Int) := by omega
        rw [hn0] at I2
        have HF := Lib.hid (show TabR ga R q w (.returned (.tuple #[.slice vA vn vc, .int .i64 0])) wr by
          have e1 : q = (X, b, 0) := by
            rw [HQ.out, ← I2.out]
            show aL X ([], b, 0) = (X, b, 0)
            unfold aL; simp
          refine ⟨_, 0, rfl, ⟨_, _, _, rfl⟩, by rw [e1], I6.out, fun _ => ?_⟩
          rw [e1]
          exact ⟨I3.out, I5.out⟩)
        clear hXn hn0 I2 I3 I4 I5
        go_wp2
        go_returns
        exact HF.out
  · have h0' : ((e1 : Int) != 0) = true := by simp; omega
    go_enter Tryd.func52, Tryd.ntmps52
    go_wp2_with (first
      | (go_at_call 76; go_must (refine CN.out.mono ?_; rintro e w1 ⟨F, rfl, hF, b1⟩; have K1 := Lib.hid ((Kp.refl [ga] w).then_below b1); have R11 := Lib.hid (R1.out.keep b1); have CR1 := Lib.hid (CR.out _ F hF (R1.out.keep b1) (R2.out.keep b1)); obtain ⟨p1, _, rfl, _⟩ := hF; clear b1 CN CR))
      | (go_at_call 72; go_must (refine CR1.out.mono ?_; rintro e w2 ⟨er, a2, rfl, rfl, hK, hP⟩; have HK := Lib.hid ((K1.out.alloc _).trans hK); clear hK hP CR1))
      | fail)
    go_returns
    refine ⟨_, er, rfl, ⟨_, _, _, rfl⟩, by rw [HRN.out, if_neg h0], HK.out, fun h => absurd (by rw [HRN.out, if_neg h0] at h; exact h) h0⟩

end Go.Proofs.YtillcmddbjhepaaDoor

namespace Go.Proofs.YtillcmddbjhepaaDoor
open Go Go.RowKit Go.Joins
set_option linter.unusedVariables false
set_option linter.unusedSimpArgs false

/-- Where block k begins, or the capture ends. -/
def eA (E : List En) (T k : Nat) : Nat := if h : k < E.length then E[k].1 else T
theorem eA_in {E : List En} {T k : Nat} (h : k < E.length) : eA E T k = E[k].1 := by unfold eA; rw [dif_pos h]
theorem eT_eA (E : List En) (T k : Nat) : eT E T k = eA E T (k + 1) := rfl
theorem asc_iff (E : List En) (T : Nat) : asc E T ↔ eA E T 0 = 0 ∧ ∀ k (hk : k < E.length), E[k].1 < eA E T (k + 1) := Iff.rfl
/-- The ends of the blocks from k on are set. -/
def ptM (R : Nat) (E : List En) (T k : Nat) : List Pt := E.mapIdx fun i x => (x.1, if k ≤ i then eT E T i else 0, szN R i, x.2.1, x.2.2, ⟨#[]⟩)
theorem ptM_len (R : Nat) (E : List En) (T k : Nat) : (ptM R E T k).length = E.length := by simp [ptM]
theorem ptM_all (R : Nat) (E : List En) (T : Nat) : ptM R E T E.length = ptE R E := by
  unfold ptM ptE
  apply List.ext_getElem (by simp)
  intro i h1 h2
  have : i < E.length := by simpa using h1
  simp only [List.getElem_mapIdx]
  rw [if_neg (by omega)]
theorem ptM_at (R : Nat) (E : List En) (T k j : Nat) (hj : j < (ptM R E T k).length) : (ptM R E T k)[j] = ((E[j]'(by simpa [ptM] using hj)).1, if k ≤ j then eT E T j else 0, szN R j, (E[j]'(by simpa [ptM] using hj)).2.1, (E[j]'(by simpa [ptM] using hj)).2.2, ⟨#[]⟩) := by
  simp only [ptM, List.getElem_mapIdx]
theorem ptM_set (R : Nat) (E : List En) (T k : Nat) (hk : k < E.length) : (ptM R E T (k + 1)).set k (E[k].1, eT E T k, szN R k, E[k].2.1, E[k].2.2, ⟨#[]⟩) = ptM R E T k := by
  apply List.ext_getElem (by simp [ptM])
  intro i h1 h2
  rw [List.getElem_set]
  by_cases hik : k = i
  · subst hik
    rw [if_pos rfl, ptM_at, if_pos (Nat.le_refl _)]
  · rw [if_neg hik, ptM_at, ptM_at]
    by_cases h3 : k ≤ i
    · rw [if_pos h3, if_pos (by omega)]
    · rw [if_neg h3, if_neg (by omega)]

def SeR (B R : Nat) (E : List En) (T : Nat) (v : Value) (w : World) (e : Ending) (w' : World) : Prop :=
  e = .returned (.bool (decide (asc E T))) ∧ (∀ X : List Nat, (∀ g, v.ownBlock = some g → g ∈ X) → Kp X w w') ∧ (asc E T → PtRow w' B v (ptM R E T 0))

set_option maxRecDepth 20000 in
set_option maxHeartbeats 2000000 in
theorem setEnds_any (B R : Nat) (E : List En) (T : Nat) (vN v : Value) (w : World) (hv : PtRow w B v (ptE R E)) (hE : ∀ x ∈ E, okE x) (hT : T ≤ 1099511627776) (hl : E.length ≤ 16384) :
    Calls Tryd.prog 55 #[.agg #[vN, .int .i64 T, v]] w (SeR B R E T v w) := by
  obtain ⟨A, n, c, rfl, hn⟩ := KRow.form hv
  rw [ptE_len] at hn
  have R0 := Lib.hid (RowAt.new w 61 #[vN, .int .i64 T, .slice A n c])
  have HV := Lib.hid (show PtRow (w.alloc (.cells #[vN, .int .i64 T, .slice A n c] 61)) B (.slice A n c) (ptM R E T E.length) by rw [ptM_all]; exact KRow.alloc hv _)
  have HLT := Lib.hid (KRow.lt hv)
  have HFU := Lib.hid (fun (h : 0 < E.length) => KRow.full hv (by rw [ptE_len]; exact h))
  have HK0 := Lib.hid (fun (X : List Nat) (_ : ∀ g, (Value.slice A n c).ownBlock = some g → g ∈ X) => (Kp.refl X w).alloc (.cells #[vN, .int .i64 T, .slice A n c] 61))
  have HE := Lib.hid (fun k (hk : k < E.length) => (hE _ (List.getElem_mem hk)).1)
  subst hn
  have HAS := Lib.hid (asc_iff E T)
  clear hv hE
  go_enter Tryd.func55, Tryd.ntmps55
  go_wp2
  go_loopw [3, 4] (fun s3 s4 wr => ∃ k : Nat, k ≤ E.length ∧ s3 = .int .i64 (eA E T k) ∧ s4 = .int .i64 ((k : Int) - 1) ∧ Hid (PtRow wr B (.slice A E.length c) (ptM R E T k)) ∧ Hid (∀ j (hj : j < E.length), k ≤ j → E[j].1 < eA E T (j + 1)) ∧ Hid (RowAt wr w.heap.size 61 #[vN, .int .i64 T, .slice A E.length c]) ∧ Hid (∀ X : List Nat, (∀ g, (Value.slice A E.length c).ownBlock = some g → g ∈ X) → Kp X w wr)) (fun _ s4 _ => (intOf s4 + 1).toNat)
  case atStart => exact ⟨E.length, Nat.le_refl _, by unfold eA; rw [dif_neg (by omega)], rfl, HV, Lib.hid (fun j hj h => by omega), R0, HK0⟩
  case round =>
    clear R0 HV HK0
    obtain ⟨k, hk, rfl, rfl, HV, HA, HR, HK⟩ := hrel
    have c2 : wr.cell? ⟨w.heap.size, 2, none⟩ = some (.slice A E.length c) := HR.out.cell 2
    rcases k with _ | j
    · have h00 : ((0 : Nat) : Int) - 1 = -1 := by omega
      rw [h00]
      have HF := Lib.hid (show SeR B R E T (.slice A E.length c) w (.returned (.bool (decide (eA E T 0 = 0)))) wr by
        refine ⟨?_, HK.out, fun _ => HV.out⟩
        congr 2
        rw [decide_eq_decide, HAS.out]
        exact ⟨fun h => ⟨h, fun k hk => HA.out k hk (Nat.zero_le _)⟩, fun h => h.1⟩)
      clear HV HA HK HAS h00
      generalize eA E T 0 = z at *
      by_cases hz : z = 0
      · have hz2 : ((z : Int) == 0) = true := by simp; omega
        rw [decide_eq_true hz] at HF
        clear hz
        go_wp2
        go_returns
        exact HF.out
      · have hz2 : ((z : Int) == 0) = false := by simp; omega
        rw [decide_eq_false hz] at HF
        clear hz
        go_wp2
        go_returns
        exact HF.out
    · obtain ⟨g, c', hg⟩ := HFU.out (by omega)
      simp only [Value.slice.injEq] at hg
      obtain ⟨rfl, hgl, rfl⟩ := hg
      have hj1 : ((j + 1 : Nat) : Int) - 1 = (j : Int) := by omega
      rw [hj1]
      have hgb := HLT.out g rfl
      have hgw : ¬ g = w.heap.size := by omega
      have hml : j < (ptM R E T (j + 1)).length := by rw [ptM_len]; omega
      have hji : (j : Int) < E.length := by omega
      have hjn : j < E.length := by omega
      have f1 : wr.cell? ⟨g, j * 6 + 1, none⟩ = some (.int .i64 0) := by
        have h := KRow.cell ptC_size HV.out j hml 1 (by omega)
        rw [h, ptM_at, if_neg (by omega)]
        simp [ptC]
      have f2 : wr.frozen? ⟨g, j * 6 + 1, none⟩ = false := KRow.frozen HV.out _
      have f0 : wr.cell? ⟨g, j * 6, none⟩ = some (.int .i64 E[j].1) := by
        have h := KRow.cell ptC_size HV.out j hml 0 (by omega)
        rw [Nat.add_zero] at h
        rw [h, ptM_at]
        simp [ptC]
      have HE1 := Lib.hid (show E[j].1 = eA E T j from (eA_in hjn).symm)
      have HV2 := Lib.hid (show PtRow (wr.setCell ⟨g, j * 6 + 1, none⟩ (.int .i64 (eA E T (j + 1)))) B (.slice (some ⟨g, 0, none⟩) E.length c) (ptM R E T j) by
        have h := KRow.cellSet ptC_size HV.out j 1 hml (by omega) (.int .i64 (eA E T (j + 1))) (E[j].1, eT E T j, szN R j, E[j].2.1, E[j].2.2, ⟨#[]⟩) (by rw [ptM_at]; rfl)
        rw [ptM_set R E T j hjn] at h
        exact h)
      have HR2 := Lib.hid (RowAt.other HR.out ⟨g, j * 6 + 1, none⟩ (.int .i64 (eA E T (j + 1))) hgw)
      have HK2 := Lib.hid (fun (X : List Nat) (hX : ∀ q, (Value.slice (some ⟨g, 0, none⟩) E.length c).ownBlock = some q → q ∈ X) => Kp.setCell (p := ⟨g, j * 6 + 1, none⟩) (HK.out X hX) (.inl (hX g rfl)) (.int .i64 (eA E T (j + 1))))
      have hb1 : eA E T (j + 1) ≤ 1099511627776 := by
        unfold eA
        split
        · exact HE.out _ _
        · exact hT
      have hb2 := HE.out j hjn
      have hgc : g ≠ w.heap.size := hgw
      have d2 : (wr.setCell ⟨g, j * 6 + 1, none⟩ (.int .i64 (eA E T (j + 1)))).cell? ⟨w.heap.size, 2, none⟩ = some (.slice (some ⟨g, 0, none⟩) E.length c) := HR2.out.cell 2
      have d0 : (wr.setCell ⟨g, j * 6 + 1, none⟩ (.int .i64 (eA E T (j + 1)))).cell? ⟨g, j * 6, none⟩ = some (.int .i64 E[j].1) := by
        rw [World.cell?_setCell_other _ _ _ _ (by simp)]; exact f0
      have HA2 := Lib.hid (fun (h : E[j].1 < eA E T (j + 1)) => show ∀ i (hi : i < E.length), j ≤ i → E[i].1 < eA E T (i + 1) from fun i hi hji => by
        rcases Nat.eq_or_lt_of_le hji with e | e
        · subst e; exact h
        · exact HA.out i hi e)
      have HAN := Lib.hid (fun (h : ¬ E[j].1 < eA E T (j + 1)) => show SeR B R E T (.slice (some ⟨g, 0, none⟩) E.length c) w (.returned (.bool false)) (wr.setCell ⟨g, j * 6 + 1, none⟩ (.int .i64 (eA E T (j + 1)))) from by
        have hn : ¬ asc E T := fun ha => h ((HAS.out.1 ha).2 j hjn)
        exact ⟨by rw [decide_eq_false hn], HK2.out, fun ha => absurd ha hn⟩)
      have hcE : (E.length : Int) ≤ 16384 := by omega
      clear HV HR HA HK hml hgl hj1 hk f0 HE
      generalize E[j].1 = x0 at *
      generalize eA E T (j + 1) = x1 at *
      by_cases hlt : x0 < x1
      · have hq : ¬ (x1 : Int) ≤ (x0 : Int) := by omega
        have HA3 := Lib.hid (HA2.out hlt)
        clear HA2 HAN hlt
        go_wp2
        go_roundw
        case rel => exact ⟨j, by omega, by rw [HE1.out], rfl, HV2, HA3, HR2, HK2⟩
        case measure => simp [intOf]
      · have hq : (x1 : Int) ≤ (x0 : Int) := by omega
        have HN := Lib.hid (HAN.out hlt)
        clear HA2 HAN hlt
        go_wp2
        go_returns
        exact HN.out

end Go.Proofs.YtillcmddbjhepaaDoor

namespace Go.Proofs.YtillcmddbjhepaaDoor
open Go Go.RowKit Go.Joins
set_option linter.unusedVariables false
set_option linter.unusedSimpArgs false

/-- The bytes of block i. -/
def bkB (E : List En) (L : List UInt8) (i n : Nat) : List UInt8 := (L.drop (szE (E.take i))).take n
/-- The bytes of the blocks before block k are set. -/
def ptG (R : Nat) (E : List En) (T : Nat) (L : List UInt8) (k : Nat) : List Pt := E.mapIdx fun i x => (x.1, eT E T i, szN R i, x.2.1, x.2.2, if i < k then ⟨(bkB E L i x.2.1).toArray⟩ else ⟨#[]⟩)
theorem ptG_len (R : Nat) (E : List En) (T : Nat) (L : List UInt8) (k : Nat) : (ptG R E T L k).length = E.length := by simp [ptG]
theorem ptG_at (R : Nat) (E : List En) (T : Nat) (L : List UInt8) (k j : Nat) (hj : j < (ptG R E T L k).length) : (ptG R E T L k)[j] = ((E[j]'(by simpa [ptG] using hj)).1, eT E T j, szN R j, (E[j]'(by simpa [ptG] using hj)).2.1, (E[j]'(by simpa [ptG] using hj)).2.2, if j < k then ⟨(bkB E L j (E[j]'(by simpa [ptG] using hj)).2.1).toArray⟩ else ⟨#[]⟩) := by
  simp only [ptG, List.getElem_mapIdx]
theorem ptG_0 (R : Nat) (E : List En) (T : Nat) (L : List UInt8) : ptG R E T L 0 = ptM R E T 0 := by
  unfold ptG ptM; simp
theorem ptG_set (R : Nat) (E : List En) (T : Nat) (L : List UInt8) (k : Nat) (hk : k < E.length) : (ptG R E T L k).set k (E[k].1, eT E T k, szN R k, E[k].2.1, E[k].2.2, ⟨(bkB E L k E[k].2.1).toArray⟩) = ptG R E T L (k + 1) := by
  apply List.ext_getElem (by simp [ptG])
  intro i h1 h2
  rw [List.getElem_set]
  by_cases hik : k = i
  · subst hik
    rw [if_pos rfl, ptG_at, if_pos (by omega)]
  · rw [if_neg hik, ptG_at, ptG_at]
    by_cases h3 : i < k
    · rw [if_pos h3, if_pos (by omega)]
    · rw [if_neg h3, if_neg (by omega)]
theorem szE_take (E : List En) (k : Nat) (hk : k < E.length) : szE (E.take (k + 1)) = szE (E.take k) + E[k].2.1 := by
  unfold szE; rw [List.take_succ_eq_append_getElem hk, List.map_append, List.sum_append]; simp only [List.map_cons, List.map_nil, List.sum_cons, List.sum_nil, Nat.add_zero]
theorem szE_le (E : List En) (k : Nat) : szE (E.take k) ≤ szE E := by
  have : E = E.take k ++ E.drop k := (List.take_append_drop k E).symm
  have h : szE E = szE (E.take k) + szE (E.drop k) := by
    unfold szE; rw [← List.sum_append, ← List.map_append, List.take_append_drop]
  omega
def bsE (E : List En) (L : List UInt8) : Nat := if L.length < szE E then 5 else if szE E < L.length then 4 else 0
def SbR (B R : Nat) (E : List En) (T : Nat) (L : List UInt8) (v : Value) (w : World) (e : Ending) (w' : World) : Prop :=
  ∃ er : Nat, e = .returned (.int .i64 er) ∧ er = bsE E L ∧ (∀ X : List Nat, (∀ g, v.ownBlock = some g → g ∈ X) → Kp X w w') ∧ (er = 0 → PtRow w' B v (ptG R E T L E.length))
theorem SbR.of {B R : Nat} {E : List En} {T : Nat} {L : List UInt8} {v : Value} {w w' : World} (er : Nat) (h : er = bsE E L) (hk : ∀ X : List Nat, (∀ g, v.ownBlock = some g → g ∈ X) → Kp X w w') (h0 : er = 0 → PtRow w' B v (ptG R E T L E.length)) : SbR B R E T L v w (.returned (.int .i64 er)) w' := ⟨er, rfl, h, hk, h0⟩

set_option maxRecDepth 20000 in
set_option maxHeartbeats 2000000 in
theorem setBytes_any (B R : Nat) (E : List En) (T : Nat) (L : List UInt8) (s : ByteArray) (hs : s.data.toList = L) (vN v : Value) (w : World) (hv : PtRow w B v (ptM R E T 0)) (hE : ∀ x ∈ E, okE x) (hT : T ≤ 1099511627776) (hl : E.length ≤ 16384) (hsz : s.size ≤ 140737488351232) :
    Calls Tryd.prog 56 #[.agg #[vN, .int .i64 T, v], .string s] w (SbR B R E T L v w) := by
  obtain ⟨A, n, c, rfl, hn⟩ := KRow.form hv
  rw [ptM_len] at hn
  have R0 := Lib.hid (RowAt.new w 61 #[vN, .int .i64 T, .slice A n c])
  have HV := Lib.hid (show PtRow (w.alloc (.cells #[vN, .int .i64 T, .slice A n c] 61)) B (.slice A n c) (ptG R E T L 0) by rw [ptG_0]; exact KRow.alloc hv _)
  have HLT := Lib.hid (KRow.lt hv)
  have HFU := Lib.hid (fun (h : 0 < E.length) => KRow.full hv (by rw [ptM_len]; exact h))
  have HK0 := Lib.hid (fun (X : List Nat) (_ : ∀ g, (Value.slice A n c).ownBlock = some g → g ∈ X) => (Kp.refl X w).alloc (.cells #[vN, .int .i64 T, .slice A n c] 61))
  have HE := Lib.hid (fun k (hk : k < E.length) => (hE _ (List.getElem_mem hk)))
  subst hn
  have HS := Lib.hid (show s.data.toList = L.drop (szE (E.take 0)) ∧ szE (E.take 0) ≤ L.length from ⟨hs, Nat.zero_le _⟩)
  have HLN := Lib.hid (show s.size = L.length by rw [size_len, hs])
  clear hv hE hs
  go_enter Tryd.func56, Tryd.ntmps56
  go_wp2
  go_loopw [1, 10] (fun x i wr => ∃ (k : Nat) (b : ByteArray), k ≤ E.length ∧ x = .string b ∧ i = .int .i64 k ∧ b.size ≤ 140737488351232 ∧ Hid (b.data.toList = L.drop (szE (E.take k)) ∧ szE (E.take k) ≤ L.length) ∧ Hid (PtRow wr B (.slice A E.length c) (ptG R E T L k)) ∧ Hid (RowAt wr w.heap.size 61 #[vN, .int .i64 T, .slice A E.length c]) ∧ Hid (∀ X : List Nat, (∀ g, (Value.slice A E.length c).ownBlock = some g → g ∈ X) → Kp X w wr)) (fun _ i _ => E.length - (intOf i).toNat)
  case atStart => exact ⟨0, s, Nat.zero_le _, rfl, rfl, hsz, HS, HV, R0, HK0⟩
  case round =>
    clear R0 HV HK0 HS
    obtain ⟨k, b, hk, rfl, rfl, hbs, HB, HV, HR, HK⟩ := hrel
    have c2 : wr.cell? ⟨w.heap.size, 2, none⟩ = some (.slice A E.length c) := HR.out.cell 2
    have HBL := Lib.hid (show b.size = L.length - szE (E.take k) by rw [size_len, HB.out.1, List.length_drop])
    by_cases hkl : k < E.length
    · obtain ⟨g, c', hg⟩ := HFU.out (by omega)
      simp only [Value.slice.injEq] at hg
      obtain ⟨rfl, hgl, rfl⟩ := hg
      have hgb := HLT.out g rfl
      have hgw : ¬ g = w.heap.size := by omega
      have hml : k < (ptG R E T L k).length := by rw [ptG_len]; omega
      have hki : (k : Int) < E.length := by omega
      have hx := HE.out k hkl
      have hcell : ∀ i, i < 6 → wr.cell? ⟨g, k * 6 + i, none⟩ = (ptC (E[k].1, eT E T k, szN R k, E[k].2.1, E[k].2.2, ⟨#[]⟩))[i]? := fun i hi => by
        have h := KRow.cell ptC_size HV.out k hml i hi
        rw [h, ptG_at, if_neg (by omega)]
      have f0 := hcell 0 (by omega)
      rw [Nat.add_zero] at f0
      have f0 : wr.cell? ⟨g, k * 6, none⟩ = some (.int .i64 E[k].1) := f0
      have f1 : wr.cell? ⟨g, k * 6 + 1, none⟩ = some (.int .i64 (eT E T k)) := hcell 1 (by omega)
      have f2 : wr.cell? ⟨g, k * 6 + 2, none⟩ = some (.int .i64 (szN R k)) := hcell 2 (by omega)
      have f3 : wr.cell? ⟨g, k * 6 + 3, none⟩ = some (.int .i64 E[k].2.1) := hcell 3 (by omega)
      have f4 : wr.cell? ⟨g, k * 6 + 4, none⟩ = some (.int .i64 E[k].2.2) := hcell 4 (by omega)
      have f5 : wr.cell? ⟨g, k * 6 + 5, none⟩ = some (.string ⟨#[]⟩) := hcell 5 (by omega)
      have f6 : wr.frozen? ⟨g, k * 6 + 5, none⟩ = false := KRow.frozen HV.out _
      have HST := Lib.hid (szE_take E k hkl)
      have HSL := Lib.hid (szE_le E (k + 1))
      have HSET := Lib.hid (fun (W : World) (h : PtRow W B (.slice (some ⟨g, 0, none⟩) E.length c) (ptG R E T L k)) (u : ByteArray) (hu : u.data.toList = bkB E L k E[k].2.1) => show PtRow (W.setCell ⟨g, k * 6 + 5, none⟩ (.string u)) B (.slice (some ⟨g, 0, none⟩) E.length c) (ptG R E T L (k + 1)) by
        have h := KRow.cellSet ptC_size h k 5 hml (by omega) (.string u) (E[k].1, eT E T k, szN R k, E[k].2.1, E[k].2.2, ⟨(bkB E L k E[k].2.1).toArray⟩) (by
          rw [ptG_at, if_neg (by omega), ← hu, bytes_of]; rfl)
        rw [ptG_set R E T L k hkl] at h
        exact h)
      have hgl2 : g < wr.heap.size := by have := (KRow.lt HV.out g rfl).2; omega
      have hwl2 : w.heap.size < wr.heap.size := HR.out.lt
      have hcE : (E.length : Int) ≤ 16384 := by omega
      clear hcell hml hgl hx
      generalize E[k].1 = x0 at *
      generalize hx1 : E[k].2.1 = x1 at *
      generalize E[k].2.2 = x2 at *
      generalize eT E T k = x3 at *
      generalize szN R k = x4 at *
      by_cases hgt : b.size < x1
      · have hgt2 : (b.size : Int) < (x1 : Int) := by omega
        have HF := Lib.hid (SbR.of (E := E) (L := L) (B := B) (R := R) (T := T) (v := .slice (some ⟨g, 0, none⟩) E.length c) 5 (by
          unfold bsE
          have := HBL.out; have := HST.out; have := HSL.out; have := HB.out.2
          rw [if_pos (by omega)]) (fun X hX => ((HK.out X hX).alloc (.cells #[.int .i64 x0, .int .i64 x3, .int .i64 x4, .int .i64 x1, .int .i64 x2, .string ⟨#[]⟩] 57))) (fun h => absurd h (by decide)))
        clear hgt HB HV HR HK HSET HST HSL hx1
        go_wp2
        go_returns
        exact HF.out
      · have hgt2 : ¬ (b.size : Int) < (x1 : Int) := by omega
        have hle : (x1 : Int) ≤ (b.size : Int) := by omega
        have hle2 : x1 ≤ b.size := by omega
        have k2 : (wr.alloc (.cells #[.int .i64 x0, .int .i64 x3, .int .i64 x4, .int .i64 x1, .int .i64 x2, .string ⟨#[]⟩] 57)).drew.cell? ⟨w.heap.size, 2, none⟩ = some (.slice (some ⟨g, 0, none⟩) E.length c) := (HR.out.alloc _).cell 2
        have k3 : (wr.alloc (.cells #[.int .i64 x0, .int .i64 x3, .int .i64 x4, .int .i64 x1, .int .i64 x2, .string ⟨#[]⟩] 57)).drew.cell? ⟨wr.heap.size, 3, none⟩ = some (.int .i64 x1) := (RowAt.new wr 57 #[.int .i64 x0, .int .i64 x3, .int .i64 x4, .int .i64 x1, .int .i64 x2, .string ⟨#[]⟩]).cell 3
        have k5 : (wr.alloc (.cells #[.int .i64 x0, .int .i64 x3, .int .i64 x4, .int .i64 x1, .int .i64 x2, .string ⟨#[]⟩] 57)).drew.cell? ⟨g, k * 6 + 5, none⟩ = some (.string ⟨#[]⟩) := ((ba wr _).cell (p := ⟨g, k * 6 + 5, none⟩) hgl2).trans f5
        have k6 : (wr.alloc (.cells #[.int .i64 x0, .int .i64 x3, .int .i64 x4, .int .i64 x1, .int .i64 x2, .string ⟨#[]⟩] 57)).drew.frozen? ⟨g, k * 6 + 5, none⟩ = false := ((ba wr _).frozen (p := ⟨g, k * 6 + 5, none⟩) hgl2).trans f6
        have HX1 := Lib.hid hx1
        have HU := Lib.hid (show (b.extract 0 x1).data.toList = bkB E L k x1 by
          rw [ext_list, List.drop_zero, HB.out.1]; rfl)
        have HB2 := Lib.hid (show (b.extract x1 b.size).data.toList = L.drop (szE (E.take (k + 1))) ∧ szE (E.take (k + 1)) ≤ L.length by
          have h1 := HST.out; have h2 := HBL.out; have h3 := HB.out.2
          refine ⟨?_, by omega⟩
          rw [ext_list, HB.out.1, List.take_of_length_le (by rw [List.length_drop]; omega), List.drop_drop, h1])
        have HV2 := Lib.hid (HSET.out wr HV.out (b.extract 0 x1) HU.out)
        have HR2 := Lib.hid (RowAt.other HR.out ⟨g, k * 6 + 5, none⟩ (.string (b.extract 0 x1)) hgw)
        have HK2 := Lib.hid (fun (X : List Nat) (hX : ∀ q, (Value.slice (some ⟨g, 0, none⟩) E.length c).ownBlock = some q → q ∈ X) => Kp.setCell (p := ⟨g, k * 6 + 5, none⟩) (HK.out X hX) (.inl (hX g rfl)) (.string (b.extract 0 x1)))
        clear hgt HV HR HK hx1 HSET HU HB
        go_wp2
        go_region
        go_wp2
        refine ⟨⟨k + 1, b.extract x1 b.size, by omega, rfl, val_int (by omega), by rw [ByteArray.size_extract]; omega, HB2, Lib.hid (KRow.alloc HV2.out _), Lib.hid (HR2.out.alloc _), Lib.hid fun X hX => ((HK2.out X hX).alloc _).drew⟩, by simp [intOf]; omega⟩
    · have hke : k = E.length := by omega
      have hki : ¬ (k : Int) < E.length := by omega
      have hte : E.take k = E := List.take_of_length_le (by omega)
      rw [hte] at HB HBL
      by_cases hb0 : b.size = 0
      · have HF := Lib.hid (SbR.of (E := E) (L := L) (B := B) (R := R) (T := T) (w' := wr) (v := .slice A E.length c) 0 (by
          unfold bsE
          have := HBL.out; have := HB.out.2
          rw [if_neg (by omega), if_neg (by omega)]) HK.out (fun _ => by have h := HV.out; rw [hke] at h; exact h))
        have hbe : b.toList = [] := by rw [ByteArray.toList_eq]; exact empty_toList hb0
        have hbe2 : (!b.toList.isEmpty) = false := by rw [hbe]; rfl
        clear hke hte HB HBL HV HR HK hb0
        go_wp2
        go_returns
        exact HF.out
      · have HF := Lib.hid (SbR.of (E := E) (L := L) (B := B) (R := R) (T := T) (w' := wr) (v := .slice A E.length c) 4 (by
          unfold bsE
          have := HBL.out; have := HB.out.2
          rw [if_neg (by omega), if_pos (by omega)]) HK.out (fun h => absurd h (by decide)))
        have hbe : b.toList.isEmpty = false := by
          rw [ByteArray.toList_eq]
          cases h : b.data.toList with
          | nil => exact absurd (by rw [size_len, h]; rfl) hb0
          | cons x r => rfl
        have hbe2 : (!b.toList.isEmpty) = true := by rw [hbe]; rfl
        have hbe3 : ¬ b.toList = [] := fun e => by rw [e] at hbe; cases hbe
        clear hke hte HB HBL HV HR HK
        go_wp2
        go_returns
        exact HF.out

end Go.Proofs.YtillcmddbjhepaaDoor

namespace Go.Proofs.YtillcmddbjhepaaDoor
open Go
set_option linter.unusedVariables false
set_option linter.unusedSimpArgs false

def stE (l : List UInt8) : Nat := if l.length < 3 then 5 else if l.take 2 = [83, 66] then (if l.getD 2 0 = 1 then 0 else 18) else 4
theorem rH_st {l : List UInt8} (h : stE l = 0) : rH l = rH1 l ∧ 3 ≤ l.length := by
  unfold stE at h; unfold rH
  by_cases h1 : l.length < 3
  · rw [if_pos h1] at h; exact absurd h (by decide)
  · rw [if_neg h1] at h ⊢
    by_cases h2 : l.take 2 = [83, 66]
    · rw [if_pos h2] at h ⊢
      by_cases h3 : l.getD 2 0 = 1
      · rw [if_pos h3]; exact ⟨rfl, by omega⟩
      · rw [if_neg h3] at h; exact absurd h (by decide)
    · rw [if_neg h2] at h; exact absurd h (by decide)
theorem rd_bad {l : List UInt8} {e : Nat} (h : rH l = (noH, e)) (h0 : e ≠ 0) : rd l = (noH, e) := by
  unfold rd; rw [h, if_neg h0]
theorem rd_0 {l : List UInt8} (h : stE l ≠ 0) : rd l = (noH, stE l) := by
  refine rd_bad ?_ h
  unfold stE at *; unfold rH
  by_cases h1 : l.length < 3
  · rw [if_pos h1, if_pos h1]
  · rw [if_neg h1] at h ⊢
    rw [if_neg h1]
    by_cases h2 : l.take 2 = [83, 66]
    · rw [if_pos h2] at h ⊢
      rw [if_pos h2]
      by_cases h3 : l.getD 2 0 = 1
      · rw [if_pos h3] at h; exact absurd rfl h
      · rw [if_neg h3, if_neg h3]
    · rw [if_neg h2, if_neg h2]
section
variable {l : List UInt8} {N : List ByteArray} {a1 e1 R a2 e2 T a3 e3 : Nat} {E : List En} {a4 e4 : Nat}
theorem rd_1 (h0 : stE l = 0) (h1 : rNm l 3 = (N, a1, e1)) (he : e1 ≠ 0) : rd l = (noH, e1) :=
  rd_bad (by rw [(rH_st h0).1]; unfold rH1; rw [h1, if_neg he]) he
theorem rH_2 (h0 : stE l = 0) (h1 : rNm l 3 = (N, a1, 0)) : rH l = rH2 l N a1 := by rw [(rH_st h0).1]; unfold rH1; rw [h1, if_pos rfl]
theorem rd_2 (h0 : stE l = 0) (h1 : rNm l 3 = (N, a1, 0)) (h2 : rN l a1 262144 = (R, a2, e2)) (he : e2 ≠ 0) : rd l = (noH, e2) :=
  rd_bad (by rw [rH_2 h0 h1]; unfold rH2; rw [h2, if_neg he]) he
theorem rH_3 (h0 : stE l = 0) (h1 : rNm l 3 = (N, a1, 0)) (h2 : rN l a1 262144 = (R, a2, 0)) : rH l = rH3 l N R a2 := by rw [rH_2 h0 h1]; unfold rH2; rw [h2, if_pos rfl]
theorem rd_3 (h0 : stE l = 0) (h1 : rNm l 3 = (N, a1, 0)) (h2 : rN l a1 262144 = (R, a2, 0)) (h3 : rN l a2 1099511627776 = (T, a3, e3)) (he : e3 ≠ 0) : rd l = (noH, e3) :=
  rd_bad (by rw [rH_3 h0 h1 h2]; unfold rH3; rw [h3, if_neg he]) he
theorem rH_4 (h0 : stE l = 0) (h1 : rNm l 3 = (N, a1, 0)) (h2 : rN l a1 262144 = (R, a2, 0)) (h3 : rN l a2 1099511627776 = (T, a3, 0)) : rH l = rH4 l N R T a3 := by rw [rH_3 h0 h1 h2]; unfold rH3; rw [h3, if_pos rfl]
theorem rH4_tb (N : List ByteArray) (R T a : Nat) : rH4 l N R T a = if (tbE l R a).2.2 = 0 then rH6 l N R T (tbE l R a).1 (tbE l R a).2.1 else (noH, (tbE l R a).2.2) := by
  unfold rH4 tbE rX
  by_cases c1 : Sb.tuE l a = 0
  · by_cases c2 : Sb.tuV l a = bkN R
    · simp only [c1, c2, if_true]
      unfold rH5
      rfl
    · simp [c1, c2]
  · simp [c1]
theorem rd_4 (h0 : stE l = 0) (h1 : rNm l 3 = (N, a1, 0)) (h2 : rN l a1 262144 = (R, a2, 0)) (h3 : rN l a2 1099511627776 = (T, a3, 0)) (h4 : tbE l R a3 = (E, a4, e4)) (he : e4 ≠ 0) : rd l = (noH, e4) :=
  rd_bad (by rw [rH_4 h0 h1 h2 h3, rH4_tb, h4, if_neg he]) he
theorem rH6_rS (N : List ByteArray) (R T : Nat) (E : List En) (a : Nat) : rH6 l N R T E a = if (rS l a).2 = 0 then ((N, R, T, E, a + 4), 0) else (noH, (rS l a).2) := by
  unfold rH6 rS
  by_cases c1 : l.length < a + 4
  · simp [c1]
  · by_cases c2 : f4 l a = ck (l.take a)
    · simp [c1, c2]
    · simp [c1, c2]
theorem rH_6 (h0 : stE l = 0) (h1 : rNm l 3 = (N, a1, 0)) (h2 : rN l a1 262144 = (R, a2, 0)) (h3 : rN l a2 1099511627776 = (T, a3, 0)) (h4 : tbE l R a3 = (E, a4, 0)) : rH l = if (rS l a4).2 = 0 then ((N, R, T, E, a4 + 4), 0) else (noH, (rS l a4).2) := by
  rw [rH_4 h0 h1 h2 h3, rH4_tb, h4, if_pos rfl, rH6_rS]
theorem rd_5 (h0 : stE l = 0) (h1 : rNm l 3 = (N, a1, 0)) (h2 : rN l a1 262144 = (R, a2, 0)) (h3 : rN l a2 1099511627776 = (T, a3, 0)) (h4 : tbE l R a3 = (E, a4, 0)) (he : (rS l a4).2 ≠ 0) : rd l = (noH, (rS l a4).2) :=
  rd_bad (by rw [rH_6 h0 h1 h2 h3 h4, if_neg he]) he
theorem rd_6 (h0 : stE l = 0) (h1 : rNm l 3 = (N, a1, 0)) (h2 : rN l a1 262144 = (R, a2, 0)) (h3 : rN l a2 1099511627776 = (T, a3, 0)) (h4 : tbE l R a3 = (E, a4, 0)) (h5 : (rS l a4).2 = 0) (he : ¬ asc E T) : rd l = (noH, 12) := by
  unfold rd; rw [rH_6 h0 h1 h2 h3 h4, if_pos h5]
  simp only
  rw [if_pos trivial, if_neg he]
theorem rd_7 (h0 : stE l = 0) (h1 : rNm l 3 = (N, a1, 0)) (h2 : rN l a1 262144 = (R, a2, 0)) (h3 : rN l a2 1099511627776 = (T, a3, 0)) (h4 : tbE l R a3 = (E, a4, 0)) (h5 : (rS l a4).2 = 0) (h6 : asc E T) :
    rd l = if bsE E (l.drop (a4 + 4)) = 0 then ((N, R, T, E, a4 + 4), 0) else (noH, bsE E (l.drop (a4 + 4))) := by
  unfold rd; rw [rH_6 h0 h1 h2 h3 h4, if_pos h5]
  simp only
  rw [if_pos trivial, if_pos h6]
  unfold bsE
  rw [List.length_drop]
  by_cases c1 : l.length - (a4 + 4) < szE E
  · simp [c1]
  · by_cases c2 : szE E < l.length - (a4 + 4)
    · simp [c1, c2]
    · simp [c1, c2]
end
/-- What a head that was read tells. -/
theorem rd_inv {l : List UInt8} {N : List ByteArray} {R T : Nat} {E : List En} {b : Nat} (h : rd l = ((N, R, T, E, b), 0)) :
    ∃ a1 a2 a3 a4, stE l = 0 ∧ rNm l 3 = (N, a1, 0) ∧ rN l a1 262144 = (R, a2, 0) ∧ rN l a2 1099511627776 = (T, a3, 0) ∧ tbE l R a3 = (E, a4, 0) ∧ (rS l a4).2 = 0 ∧ asc E T ∧ bsE E (l.drop b) = 0 ∧ b = a4 + 4 := by
  have bad : ∀ {x : Hd} {e : Nat}, rd l = (x, e) → e = 0 := fun hx => by rw [hx] at h; injection h
  by_cases h0 : stE l = 0
  · obtain ⟨⟨N1, a1, e1⟩, h1⟩ : ∃ p, rNm l 3 = p := ⟨_, rfl⟩
    by_cases c1 : e1 = 0
    · subst c1
      obtain ⟨⟨R1, a2, e2⟩, h2⟩ : ∃ p, rN l a1 262144 = p := ⟨_, rfl⟩
      by_cases c2 : e2 = 0
      · subst c2
        obtain ⟨⟨T1, a3, e3⟩, h3⟩ : ∃ p, rN l a2 1099511627776 = p := ⟨_, rfl⟩
        by_cases c3 : e3 = 0
        · subst c3
          obtain ⟨⟨E1, a4, e4⟩, h4⟩ : ∃ p, tbE l R1 a3 = p := ⟨_, rfl⟩
          by_cases c4 : e4 = 0
          · subst c4
            by_cases c5 : (rS l a4).2 = 0
            · by_cases c6 : asc E1 T1
              · have h7 := rd_7 h0 h1 h2 h3 h4 c5 c6
                by_cases c7 : bsE E1 (l.drop (a4 + 4)) = 0
                · rw [if_pos c7, h] at h7
                  injection h7 with h7 _
                  injection h7 with e1 h7
                  injection h7 with e2 h7
                  injection h7 with e3 h7
                  injection h7 with e4 e5
                  subst e1 e2 e3 e4 e5
                  exact ⟨a1, a2, a3, a4, h0, h1, h2, h3, h4, c5, c6, c7, rfl⟩
                · rw [if_neg c7] at h7; exact absurd (bad h7) c7
              · exact absurd (bad (rd_6 h0 h1 h2 h3 h4 c5 c6)) (by decide)
            · exact absurd (bad (rd_5 h0 h1 h2 h3 h4 c5)) c5
          · exact absurd (bad (rd_4 h0 h1 h2 h3 h4 c4)) c4
        · exact absurd (bad (rd_3 h0 h1 h2 h3 c3)) c3
      · exact absurd (bad (rd_2 h0 h1 h2 c2)) c2
    · exact absurd (bad (rd_1 h0 h1 c1)) c1
  · exact absurd (bad (rd_0 h0)) h0

theorem tbE_le {l : List UInt8} {R a : Nat} {E : List En} {b : Nat} (h : tbE l R a = (E, b, 0)) : b ≤ l.length ∧ E.length = bkN R ∧ ∀ x ∈ E, okE x := by
  unfold tbE at h
  by_cases c : (rX l a (bkN R)).2 = 0
  · rw [if_pos c] at h
    obtain ⟨h1, h2, h3⟩ := tEn_len h
    exact ⟨h3 (by have := (Sb.tu_bounds l a).2.1; unfold rX; exact this), h1, h2⟩
  · rw [if_neg c] at h
    injection h with _ h; injection h with _ h
    exact absurd h c
theorem rNm_le {l : List UInt8} {a : Nat} {N : List ByteArray} {b : Nat} (h : rNm l a = (N, b, 0)) (ha : a ≤ l.length) : b ≤ l.length ∧ N.length ≤ 16 ∧ ∀ x ∈ N, x.size ≤ 16 := by
  unfold rNm at h
  by_cases c : (rN l a 16).2.2 = 0
  · rw [if_pos c] at h
    obtain ⟨h1, h2, h3⟩ := tNm_len h
    exact ⟨h3 (rN_next l a 16 ha), by rw [h1]; exact (rN_le l a 16).1, h2⟩
  · rw [if_neg c] at h
    injection h with _ h; injection h with _ h
    exact absurd h c

end Go.Proofs.YtillcmddbjhepaaDoor

namespace Go.Proofs.YtillcmddbjhepaaDoor
open Go Go.RowKit Go.Joins
set_option linter.unusedVariables false
set_option linter.unusedSimpArgs false

set_option maxRecDepth 20000 in
set_option maxHeartbeats 1000000 in
theorem checkStart_any (s : ByteArray) (w : World) (hs : s.size ≤ 140737488351232) :
    Calls Tryd.prog 48 #[.string s] w fun e w' => e = .returned (.int .i64 (stE s.data.toList)) ∧ w = w' := by
  have hsl := size_len s
  have CP := Lib.hid (Tryd.strings_HasPrefix s ⟨#[83, 66]⟩ w)
  by_cases h1 : s.size < 3
  · have HE := Lib.hid (show stE s.data.toList = 5 by unfold stE; rw [if_pos (by omega)])
    have h1i : (s.size : Int) < 3 := by omega
    rw [HE.out]
    clear hsl CP h1
    go_enter Tryd.func48, Tryd.ntmps48
    go_wp2
    go_returns
    exact ⟨rfl, rfl⟩
  · have h1i : ¬ (s.size : Int) < 3 := by omega
    by_cases h2 : s.data.toList.take 2 = [83, 66]
    · have hp : Lib.hasPrefix s.data.toList (⟨#[83, 66]⟩ : ByteArray).data.toList = true := by
        unfold Lib.hasPrefix; rw [List.isPrefixOf_iff_prefix, List.prefix_iff_eq_take]; exact h2.symm
      rw [hp] at CP
      have h2i : (2 : Int) < s.size := by omega
      have h2n : 2 < s.size := by omega
      have hg : s.data.toList.getD 2 0 = s[2] := by
        rw [List.getD_eq_getElem?_getD, List.getElem?_eq_getElem (by rw [← size_len]; exact h2n)]; rfl
      by_cases h3 : s.data.toList.getD 2 0 = 1
      · have HE := Lib.hid (show stE s.data.toList = 0 by unfold stE; rw [if_neg (by omega), if_pos h2, if_pos h3])
        rw [HE.out]
        have h4 : s[2].toNat = 1 := by rw [← hg, h3]; rfl
        clear hsl h1 h2 hg h3 hp
        go_enter Tryd.func48, Tryd.ntmps48
        go_wp2_with (go_at_call 71; go_must (refine CP.out.mono ?_; rintro e w1 ⟨rfl, rfl⟩))
        go_returns
        exact ⟨rfl, rfl⟩
      · have HE := Lib.hid (show stE s.data.toList = 18 by unfold stE; rw [if_neg (by omega), if_pos h2, if_neg h3])
        rw [HE.out]
        have h4 : ¬ s[2].toNat = 1 := fun e => h3 (by rw [hg]; apply UInt8.toNat_inj.1; rw [e]; rfl)
        have h5 : ((s[2].toNat : Int) != 1) = true := by simp; omega
        clear hsl h1 h2 hg h3 hp
        go_enter Tryd.func48, Tryd.ntmps48
        go_wp2_with (go_at_call 71; go_must (refine CP.out.mono ?_; rintro e w1 ⟨rfl, rfl⟩))
        go_returns
        exact ⟨rfl, rfl⟩
    · have hp : Lib.hasPrefix s.data.toList (⟨#[83, 66]⟩ : ByteArray).data.toList = false := by
        rw [Bool.eq_false_iff]; intro h; unfold Lib.hasPrefix at h; rw [List.isPrefixOf_iff_prefix, List.prefix_iff_eq_take] at h; exact h2 h.symm
      rw [hp] at CP
      have HE := Lib.hid (show stE s.data.toList = 4 by unfold stE; rw [if_neg (by omega), if_neg h2])
      rw [HE.out]
      clear hsl h1 h2 hp
      go_enter Tryd.func48, Tryd.ntmps48
      go_wp2_with (go_at_call 71; go_must (refine CP.out.mono ?_; rintro e w1 ⟨rfl, rfl⟩))
      go_returns
      exact ⟨rfl, rfl⟩

end Go.Proofs.YtillcmddbjhepaaDoor
