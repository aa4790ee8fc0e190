/-
  A range over a function, in two parts: the statement; one round. What the iterator may ask of the rounds is left to whoever joins the two.
-/
import Derived.Test.YtchmppikpeeghaaOwn
import Derived.RangeFuncNested
import Derived.RangeFuncBound
import Derived.RangeFuncCalls
import Derived.RangeFuncLeaves
namespace Go.Proofs.Ytchmppikpeeghaa
open Go.RowKit
set_option linter.unusedVariables false

/-- The loop's two blocks, its record in the state st, with the jump pe pending. -/
structure RecAt (W : World) (D : Nat) (r : Loop) (st : LoopState) (pe : Option Code) : Prop where
  rcd : W.heap[D + 1]? = some (.loop { r with state := st, pending := pe })
  defs : W.heap[D]? = some (.deferred (some []))

theorem RecAt.keep {W W' : World} {D : Nat} {r : Loop} {st : LoopState} {pe : Option Code} (h : RecAt W D r st pe) (hk : KeepsFrom D W W') : RecAt W' D r st pe :=
  ⟨hk.same _ _ (Nat.le_succ _) h.rcd rfl, hk.same _ _ (Nat.le_refl _) h.defs rfl⟩
theorem RecAt.lt {W : World} {D : Nat} {r : Loop} {st : LoopState} {pe : Option Code} (h : RecAt W D r st pe) : D + 1 < W.heap.size := (Array.getElem?_eq_some_iff.1 h.rcd).1
theorem RecAt.put {W : World} {D : Nat} {r : Loop} {st : LoopState} {pe : Option Code} (h : RecAt W D r st pe) (st' : LoopState) (pe' : Option Code) : RecAt (W.putObj (D + 1) (.loop { r with state := st', pending := pe' })) D r st' pe' :=
  ⟨World.putObj_heap_same h.lt, (World.putObj_heap_other (by omega)).trans h.defs⟩
/-- Blocks of cells lie as they lay. -/
theorem KeepsFrom.below {B : Nat} {W W' : World} (h : Below W.heap.size W W') : KeepsFrom B W W' := ⟨h.size, fun k o _ hk _ => (h.block k (Array.getElem?_eq_some_iff.1 hk).1).trans hk⟩

variable {F : Fence} {n m : Nat} {P : Program}

/-- One round: its assignments, its body. -/
theorem oneRound {W : World} {D : Nat} {r : Loop} {args : Array Value} {M : Act → World → Prop} {T : World → Prop} {X : Code → World → Prop} (hfn : F.fn r.fn) (hr : RecAt W D r .ready none) (hs : args.size = r.params.size)
    (ha : r.assign.wpIn (F.inRound (D + 1)) m P (Exit.then (fun a' Wa => KeepsFrom D W Wa ∧ M a' Wa) (fun _ _ _ => False)) { tmps := (r.params.zip args).foldl (fun t (p, v) => t.setIfInBounds p v) r.tmps, defers := [] } W)
    (hb : ∀ a' Wa, M a' Wa → RecAt Wa D r .ready none → ∀ Wb, Wb = Wa.putObj (D + 1) (.loop { r with state := .busy, pending := none }) →
      r.body.wpIn (F.inRound (D + 1)) m P (fun e _ W' => KeepsFrom D Wb W' ∧ (match e with
        | .normal => T (W'.putObj (D + 1) (.loop { r with state := .ready, pending := none }))
        | .ret => X .ret (W'.putObj (D + 1) (.loop { r with state := .done, pending := some .ret }))
        | .exit id => X (.exit id) (W'.putObj (D + 1) (.loop { r with state := .done, pending := some (.exit id) }))
        | .goto t => X (.goto t) (W'.putObj (D + 1) (.loop { r with state := .done, pending := some (.goto t) }))
        | _ => False)) a' Wb) :
    YieldAt F m P (D + 1) args W fun e W' => (e = .returned (.bool true) ∧ T W' ∧ RecAt W' D r .ready none) ∨ (e = .returned (.bool false) ∧ ∃ c, X c W' ∧ RecAt W' D r .done (some c)) := by
  have hy := run_yield (P := P) (args := args) hr.rcd hs
  refine ⟨r.fn, _, r.assign, r.body, hy, roundIn_of_wpIn hfn (wpIn_mono ha ?_)⟩
  intro e a' Wa h
  cases e with
  | normal =>
    obtain ⟨hk, hm⟩ := h
    have hra := hr.keep hk
    refine ⟨_, run_beginRound hra.rcd rfl, wpIn_mono (hb a' Wa hm hra _ rfl) ?_⟩
    intro e2 a2 W2 h2
    have hrb := (hra.put .busy none).keep h2.1
    have leave : ∀ (j : Option Code), (Instr.endRound (D + 1) j).run P W2 = .ok (.bool j.isNone) (W2.putObj (D + 1) (.loop { r with state := if j.isNone then .ready else .done, pending := j })) := fun j => by
      have h := run_endRound (P := P) j hrb.rcd
      exact h
    cases e2 with
    | normal => exact ⟨_, _, leave none, .inl ⟨rfl, h2.2, hrb.put .ready none⟩⟩
    | ret => exact ⟨_, _, leave (some .ret), .inr ⟨rfl, _, h2.2, hrb.put .done _⟩⟩
    | exit id => exact ⟨_, _, leave (some (.exit id)), .inr ⟨rfl, _, h2.2, hrb.put .done _⟩⟩
    | goto t => exact ⟨_, _, leave (some (.goto t)), .inr ⟨rfl, _, h2.2, hrb.put .done _⟩⟩
    | panic c => exact h2.2.elim
    | outgrown => exact h2.2.elim
  | ret => exact h.elim
  | exit id => exact h.elim
  | goto t => exact h.elim
  | panic c => exact h.elim
  | outgrown => exact h.elim

/-- The statement, over whatever the iterator is known to do with its rounds. -/
theorem rangeF {g : Operand} {ps : Array Tmp} {assign body : Code} {Q : Exit → Act → World → Prop} {a : Act} {w : World} {T : World → Prop} {X : Code → World → Prop}
    (hro : F.round = none) (h1 : 1 ≤ n) {gf : Nat} {lb : Array Value} (hg : a.eval g = .func (.func gf) #[] lb) (hFg : F.fn gf) (eg : ∀ args w, (callFunc gf args).run P w = .ok (.enter gf args) w)
    (hit : ∀ (r : Loop) (W1 : World), F.fn r.fn → r.tmps = a.tmps → r.params = ps → r.assign = assign → r.body = body → RecAt W1 w.heap.size r .ready none → Below w.heap.size w W1 → W1.heap.size = w.heap.size + 2 →
      CallsIn F (n - 1) P gf (#[.func (.yield (w.heap.size + 1)) #[] #[]] ++ lb) W1 fun e W2 => (∃ v, e = .returned v) ∧ ((T W2 ∧ RecAt W2 w.heap.size r .ready none) ∨ ∃ c, X c W2 ∧ RecAt W2 w.heap.size r .done (some c)))
    (hdone : ∀ (W2 : World) (r : Loop) (st : LoopState) (pe : Option Code), T W2 → RecAt W2 w.heap.size r st pe → ∀ W3, W3 = W2.putObj (w.heap.size + 1) (.loop { r with state := .exhausted, pending := pe }) → W3.heap[w.heap.size]? = some (.deferred (some [])) → Q .normal { a with defers := { target := .collected w.heap.size, args := #[] } :: a.defers } W3)
    (hstop : ∀ (W2 : World) (r : Loop) (st : LoopState) (pe : Option Code) (c : Code), X c W2 → RecAt W2 w.heap.size r st pe → ∀ W3, W3 = W2.putObj (w.heap.size + 1) (.loop { r with state := .exhausted, pending := pe }) → W3.heap[w.heap.size]? = some (.deferred (some [])) → c.wpIn F n P Q { a with defers := { target := .collected w.heap.size, args := #[] } :: a.defers } W3) :
    (Code.rangeFunc g ps assign body).wpIn F n P Q a w := by
  refine wpIn_rangeFunc ?_
  intro fn hfn
  rw [hro]
  have hrec : RecAt ((w.alloc (.deferred (some []))).alloc (.loop ⟨.ready, none, fn, a.tmps, ps, assign, body, w.heap.size⟩)) w.heap.size ⟨.ready, none, fn, a.tmps, ps, assign, body, w.heap.size⟩ .ready none := by
    refine ⟨?_, ?_⟩
    · have h := World.alloc_heap_new (w.alloc (.deferred (some []))) (.loop ⟨.ready, none, fn, a.tmps, ps, assign, body, w.heap.size⟩)
      rwa [World.size_alloc] at h
    · have h1 := World.alloc_heap_new w (.deferred (some []))
      have h2 := Below.heap_alloc (w.alloc (.deferred (some []))) (.loop ⟨.ready, none, fn, a.tmps, ps, assign, body, w.heap.size⟩) w.heap.size (by rw [World.size_alloc]; omega)
      exact h2.trans h1
  obtain ⟨W1, hW1⟩ : ∃ W1, (w.alloc (.deferred (some []))).alloc (.loop ⟨.ready, none, fn, a.tmps, ps, assign, body, w.heap.size⟩) = W1 := ⟨_, rfl⟩
  have hb1 : Below w.heap.size w W1 := by rw [← hW1]; exact ((Below.refl _ w).alloc (Nat.le_refl _) _).alloc (by simp) _
  have hz1 : W1.heap.size = w.heap.size + 2 := by rw [← hW1]; simp
  have hen := run_enterLoop_outer (P := P) (w := w) fn a.tmps ps assign body
  rw [hW1] at hrec hen
  clear hW1
  obtain ⟨r, hr0⟩ : ∃ r : Loop, r = ⟨.ready, none, fn, a.tmps, ps, assign, body, w.heap.size⟩ := ⟨_, rfl⟩
  rw [← hr0] at hrec
  have hcall := hit r W1 (by rw [hr0]; exact hfn) (by rw [hr0]) (by rw [hr0]) (by rw [hr0]) (by rw [hr0]) hrec hb1 hz1
  clear hr0 hit hrec
  refine ⟨w.heap.size + 1, [{ target := .collected w.heap.size, args := #[] }], W1, { target := .fn (.func gf) lb, args := #[.func (.yield (w.heap.size + 1)) #[] #[]] }, W1, gf,
    #[.func (.yield (w.heap.size + 1)) #[] #[]] ++ lb, W1, hen, ?_, ?_, ?_, fun _ => h1, ?_⟩
  · simp only [resolve, hg]
    simp [go_sem]
  · intro f' hf'
    simp [Target.leads] at hf'
    subst hf'
    exact hFg
  · simp [invoke, go_sem, eg]
  · refine hcall.mono ?_
    intro e W2 h
    obtain ⟨⟨v, he⟩, hc⟩ := h
    subst he
    rcases hc with hc | hc
    · obtain ⟨hT, hr⟩ := hc
      have hend := run_endLoop (P := P) hr.rcd (by simp)
      have hq := hdone W2 r .ready none hT hr _ rfl ((World.putObj_heap_other (by omega)).trans hr.defs)
      exact ⟨none, _, hend, hq⟩
    · obtain ⟨c, hX, hr⟩ := hc
      have hend := run_endLoop (P := P) hr.rcd (by simp)
      have hq := hstop W2 r .done (some c) c hX hr _ rfl ((World.putObj_heap_other (by omega)).trans hr.defs)
      exact ⟨some c, _, hend, hq⟩

end Go.Proofs.Ytchmppikpeeghaa
