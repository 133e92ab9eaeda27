/-
  Two events compared by '==' and '!='.
-/
import Derived.Test.YtfbclbolkojjeaaA1
namespace Go.Proofs.Ytfbclbolkojjeaa
open Go Go.RowKit Go.Joins
set_option linter.unusedVariables false
set_option linter.unusedSimpArgs false

/-- Two events are the same. -/
def eqF (k f t v a : Int) (s : ByteArray) (u : Int) (k' f' t' v' a' : Int) (s' : ByteArray) (u' : Int) : Bool := k == k' && (f == f' && (t == t' && (v == v' && (a == a' && (s.data.toList == s'.data.toList && u == u')))))
theorem eqF_iff (k f t v a : Int) (s : ByteArray) (u : Int) (k' f' t' v' a' : Int) (s' : ByteArray) (u' : Int) : eqF k f t v a s u k' f' t' v' a' s' u' = decide ((⟨k, f, t, v, a, s.data.toList, u⟩ : Ev) = ⟨k', f', t', v', a', s'.data.toList, u'⟩) := by
  unfold eqF
  rw [Bool.eq_iff_iff]
  simp
set_option maxRecDepth 20000 in
set_option maxHeartbeats 1000000 in
theorem eqFields_ev (d : Nat) (k f t v a : Int) (s : ByteArray) (u : Int) (k' f' t' v' a' : Int) (s' : ByteArray) (u' : Int) (w : World) :
    (Op.eqFields (d + 1) (evA k f t v a s u) (evA k' f' t' v' a' s' u') (Try.prog.fieldsOf 44).toList).run Try.prog w = .ok (eqF k f t v a s u k' f' t' v' a' s' u') w := by
  unfold Program.fieldsOf
  rw [Try.underlying44]
  simp only
  unfold eqF
  go_simp
  rw [ByteArray.toList_eq, ByteArray.toList_eq]
  by_cases h0 : k = k'
  case neg => simp [h0]
  by_cases h1 : f = f'
  case neg => simp [h1]
  by_cases h2 : t = t'
  case neg => simp [h2]
  by_cases h3 : v = v'
  case neg => simp [h3]
  by_cases h4 : a = a'
  case neg => simp [h4]
  by_cases h5 : s.data.toList = s'.data.toList
  case neg => simp only [h5, if_false, if_true, *]; have h5' : ¬ s.data = s'.data := fun e => h5 (by rw [e]); simp [h5']
  by_cases h6 : u = u'
  case neg => simp [h6]
  have h5' : s.data = s'.data := Array.toList_inj.1 h5
  simp [h0, h1, h2, h3, h4, h5', h6]

theorem eqIn_ev (k f t v a : Int) (s : ByteArray) (u : Int) (k' f' t' v' a' : Int) (s' : ByteArray) (u' : Int) (w : World) :
    (Op.equalIn 10000 44 (.agg (evA k f t v a s u)) (.agg (evA k' f' t' v' a' s' u'))).run Try.prog w = .ok (eqF k f t v a s u k' f' t' v' a' s' u') w := by
  have hst : Try.prog.underlying 44 = some (.struct (Try.prog.fieldsOf 44)) := by unfold Program.fieldsOf; rw [Try.underlying44]
  rw [run_equalIn_agg w 9999 _ _ _ hst (by kernel_rfl)]
  exact eqFields_ev 9998 k f t v a s u k' f' t' v' a' s' u' w
theorem eql_ev (k f t v a : Int) (s : ByteArray) (u : Int) (k' f' t' v' a' : Int) (s' : ByteArray) (u' : Int) (w : World) :
    (binOp .eql 44 (.agg (evA k f t v a s u)) (.agg (evA k' f' t' v' a' s' u'))).run Try.prog w = .ok (.bool (eqF k f t v a s u k' f' t' v' a' s' u')) w := by
  rw [run_eql_struct, eqIn_ev]; rfl
theorem neq_ev (k f t v a : Int) (s : ByteArray) (u : Int) (k' f' t' v' a' : Int) (s' : ByteArray) (u' : Int) (w : World) :
    (binOp .neq 44 (.agg (evA k f t v a s u)) (.agg (evA k' f' t' v' a' s' u'))).run Try.prog w = .ok (.bool (!eqF k f t v a s u k' f' t' v' a' s' u')) w := by
  rw [run_neq_struct, eqIn_ev]; rfl

end Go.Proofs.Ytfbclbolkojjeaa
