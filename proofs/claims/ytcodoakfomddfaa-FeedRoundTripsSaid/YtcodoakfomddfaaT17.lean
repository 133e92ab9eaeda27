/-
  A range over a function outside of every other one: what its iterator's call and its rounds owe, said of the loop's own record, so that the iterator may write boxes of its own between two rounds; many marks at a return; an event appended in a round.
-/
import Derived.Test.YtcodoakfomddfaaT16
namespace Go.Proofs.Ytcodoakfomddfaa
open Go Go.RowKit Go.Joins Go.Shelf
set_option linter.unusedVariables false
set_option linter.unusedSimpArgs false

/-- A loop's record. -/
def lpR (fn : FuncId) (tmps : Array Value) (ps : Array Tmp) (assign body : Code) (D : Nat) (st : LoopState) : Loop := { state := st, pending := none, fn, tmps, params := ps, assign, body, defers := D }
def mkD (D : Nat) : Deferred := { target := .collected D, args := #[] }

theorem range_at {n : Nat} {P : Program} {g : Operand} {ps : Array Tmp} {assign body : Code} {Q : Exit → Act → World → Prop} {a : Act} {w : World} {gf : Nat} {lb : Array Value}
    (hg : a.eval g = .func (.func gf) #[] lb) (eg : ∀ args w, (callFunc gf args).run P w = .ok (.enter gf args) w)
    (h : ∀ fn rec, rec = lpR fn a.tmps ps assign body w.heap.size → CallsIn Fence.wide (n - 1) P gf (#[.func (.yield (w.heap.size + 1)) #[] #[]] ++ lb) ((w.alloc (.deferred (some []))).alloc (.loop (rec .ready))) fun e W => (∃ v, e = .returned v) ∧
      W.heap[w.heap.size + 1]? = some (.loop (rec .ready)) ∧ Q .normal { a with defers := mkD w.heap.size :: a.defers } (W.putObj (w.heap.size + 1) (.loop (rec .exhausted)))) :
    (Code.rangeFunc g ps assign body).wpIn Fence.wide n P Q a w := by
  refine wpIn_rangeFunc ?_
  intro fn _
  have hc := h fn _ rfl
  generalize hW1 : (w.alloc (.deferred (some []))).alloc (.loop (lpR fn a.tmps ps assign body w.heap.size .ready)) = W1 at hc
  have he : (Instr.enterLoop fn a.tmps ps assign body none).run P w = .ok (w.heap.size + 1, [mkD w.heap.size]) W1 := by rw [← hW1]; exact run_enterLoop_outer _ _ _ _ _
  have hr : (resolve a.eval (rangeCall g (w.heap.size + 1)) 0).run P W1 = .ok { target := .fn (.func gf) lb, args := #[.func (.yield (w.heap.size + 1)) #[] #[]] } W1 := by
    simp only [resolve, hg]
    simp [go_sem]
  have hi : (invoke (.fn (.func gf) lb) #[.func (.yield (w.heap.size + 1)) #[] #[]]).run P W1 = .ok (.enter gf (#[.func (.yield (w.heap.size + 1)) #[] #[]] ++ lb)) W1 := by
    simp [invoke, go_sem, eg]
  clear hW1 h
  refine ⟨_, _, W1, _, W1, gf, _, W1, he, hr, fun _ _ => trivial, hi, (fun hd => by cases hd), ?_⟩
  refine hc.mono ?_
  rintro e W ⟨⟨v, rfl⟩, hL, hQ⟩
  exact ⟨none, _, run_endLoop hL (by simp [lpR]), hQ⟩

theorem round_at {l m : Nat} {P : Program} {fn : FuncId} {tmps : Array Value} {ps : Array Tmp} {assign body : Code} {D : Nat} {args : Array Value} {W : World} {R : Ending → World → Prop}
    (hL : W.heap[l]? = some (.loop (lpR fn tmps ps assign body D .ready))) (hs : args.size = ps.size)
    (h : assign.wpIn (Fence.wide.inRound l) m P (Exit.then (fun a1 W1 => W1.heap[l]? = some (.loop (lpR fn tmps ps assign body D .ready)) ∧
        ∀ W2, Hid (W2 = W1.putObj l (.loop (lpR fn tmps ps assign body D .busy))) → body.wpIn (Fence.wide.inRound l) m P (fun e _ W3 => e = .normal ∧ W3.heap[l]? = some (.loop (lpR fn tmps ps assign body D .busy)) ∧ R (.returned (.bool true)) (W3.putObj l (.loop (lpR fn tmps ps assign body D .ready)))) a1 W2) (fun _ _ _ => False))
      { tmps := (ps.zip args).foldl (fun t (p, v) => t.setIfInBounds p v) tmps, defers := [] } W) :
    YieldAt Fence.wide m P l args W R := by
  refine ⟨fn, _, assign, body, run_yield hL hs, roundIn_of_wpIn trivial (wpIn_mono h ?_)⟩
  rintro e a1 W1 hq
  cases e with
  | normal =>
    obtain ⟨hL1, hb⟩ := hq
    refine ⟨_, run_beginRound hL1 rfl, wpIn_mono (hb _ (Lib.hid rfl)) ?_⟩
    rintro e2 a2 W2 ⟨rfl, hL2, hR⟩
    exact ⟨_, _, run_endRound none hL2, hR⟩
  | _ => exact hq

/-- At a return: every mark's block is shut, one after the other. -/
theorem leaves_marks {n : Nat} {P : Program} {fn : Func} {tmps : Array Value} {R : Ending → World → Prop} (B : Nat) (T : World → Prop)
    (hT : ∀ W D, T W → B ≤ D → W.heap[D]? = some (.deferred (some [])) → T (W.putObj D (.deferred none))) (hend : ∀ W, T W → LeavesIn Fence.wide n P fn tmps R [] .returning W) :
    ∀ (Ds : List Nat) (W : World), Ds.Nodup → (∀ D ∈ Ds, B ≤ D ∧ W.heap[D]? = some (.deferred (some []))) → T W → LeavesInM Fence.wide n P fn tmps R (Ds.map mkD) .returning W
  | [], W, _, _, h => hend W h
  | D :: Ds, W, hn, hk, h => by
    obtain ⟨hB, hD⟩ := hk D (List.mem_cons_self ..)
    refine ⟨by simp, .inl ⟨D, _, rfl, run_takeDeferred hD, leaves_marks B T hT hend Ds _ (List.nodup_cons.1 hn).2 (fun E hE => ?_) (hT W D h hB hD)⟩⟩
    have hne : E ≠ D := fun e => (List.nodup_cons.1 hn).1 (e ▸ hE)
    exact ⟨(hk E (List.mem_cons_of_mem _ hE)).1, (World.putObj_heap_other hne).trans (hk E (List.mem_cons_of_mem _ hE)).2⟩
theorem krow_own {α : Type} {enc : α → Array Value} {k : Nat} {T : TypeId} {W : World} {B : Nat} {v : Value} {l : List α} (h : KRow enc k T W B v l) {q : Nat} (e : v.ownBlock = some q) : ∃ cs, RowAt W q T cs := by
  rcases h.2 with ⟨rfl, _⟩ | ⟨g, cap, cur, rfl, _, hgb, _⟩
  · simp [Value.ownBlock] at e
  · have e2 : g = q := by simpa [Value.ownBlock] using e
    subst e2
    exact ⟨cur, hgb⟩

/-- An event appended in a round: where the new row lies. -/
theorem wpListIn_append_ev {l n : Nat} {w : World} {ops : Array Oper} {rest : List Oper} {o : Oper} {ac : Act} {Q : Exit → Act → World → Prop} (hgd : o.guard = none) (p x : Operand)
    (ho : o.op = .call { callee := .builtin .append, args := #[p, x], argTypes := #[26, 26] })
    {B c : Nat} {V : Value} {L : List Ev} {g : Nat} {k f t v a : Int} {s : ByteArray} {u : Int} {ya : Array Value} (hya : ya = evA k f t v a s u) (hs : ac.eval p = V) (hx : ac.eval x = .slice (some ⟨g, 0, none⟩) 1 c) (hg : g = w.heap.size) (hf : EvRow w B V L) (hB : B ≤ w.heap.size) (hn : L.length ≤ 1099511627776)
    (h : ∀ v' w', EvRow w' B v' (L ++ [⟨k, f, t, v, a, s.data.toList, u⟩]) → (w.alloc (.cells ya 48)).grownBy w' V.ownBlock → (v'.ownBlock = V.ownBlock ∨ v'.ownBlock = some (w.heap.size + 1)) → wpListIn (Fence.wide.inRound l) n Try.prog ops Q rest (ac.put o.dst v') w') : wpListIn (Fence.wide.inRound l) n Try.prog ops Q (o :: rest) ac (w.alloc (.cells ya 48)) := by
  subst hya hg
  refine wpListIn_plain hgd fun K hK => ?_
  obtain ⟨i0, hi0, hz0, hz1, hz2⟩ := info_parts ev_info
  have hnews : ∀ j u', (evA k f t v a s u).toList[j]? = some u' → (w.alloc (.cells (evA k f t v a s u) 48)).cell? ((⟨w.heap.size, 0, none⟩ : Addr).add j) = some u' := by
    intro j u' hj
    rw [Addr.add_lit, Nat.zero_add, (RowAt.new w 48 (evA k f t v a s u)).cell j]
    simpa using hj
  obtain ⟨v', w', hrun, r1, r2, _, r4⟩ := run_append_own_at (P := Try.prog) (w.alloc (.cells (evA k f t v a s u) 48)) B 26 o.type 48 i0 _ 7 _ Try.underlying26 hi0 hz0 hz1 hz2 rfl (by omega) V L.length (kCs evC L) (World.ownsRow.alloc hf _) ⟨w.heap.size, 0, none⟩ 1 c (evA k f t v a s u).toList rfl hnews (fun u' hu => List.all_eq_true.1 (show (evA k f t v a s u).toList.all (·.oneCell') = true from rfl) u' hu) (by simp only [maxLen]; omega) (by omega) (le_alloc hB _)
  rw [World.size_alloc] at r4
  have r1' : EvRow w' B v' (L ++ [⟨k, f, t, v, a, s.data.toList, u⟩]) := by
    unfold EvRow KRow
    rw [List.length_append, kCs_snoc, ← evC_mk]
    exact r1
  unfold Oper.wpIn
  refine ⟨?_, ?_⟩
  · simp [Oper.about, ho, resolve, Target.leads, Sem.run_pure]
  · rw [Oper.semAt_plain _ _ _ (by rw [ho]; intro c hc'; cases hc')]
    simp [execOp, ho, resolve, invoke, builtin, hs, hx, hrun, Result.andThen]
    exact hK _ _ (h v' w' r1' r2 r4)

end Go.Proofs.Ytcodoakfomddfaa
