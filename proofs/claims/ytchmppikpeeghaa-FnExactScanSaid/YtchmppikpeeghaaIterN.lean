/-
  The program's nodes: the function value; what it does with its rounds. TreeOk's own loop.
-/
import Derived.Test.YtchmppikpeeghaaIter
namespace Go.Proofs.Ytchmppikpeeghaa
open Go.RowKit Go.Shelf
set_option linter.unusedVariables false
attribute [local go_sem] Oper.semAt_some

set_option maxRecDepth 20000 in
set_option maxHeartbeats 800000 in
theorem nodes (t : T) (q : Q) (w : World) (hq : TIn w t q) :
    Calls Try.prog 53 #[q.val] w fun e w' => e = .returned (.func (.func 79) #[] #[.pointer (some ⟨w.heap.size, 0, none⟩)]) ∧ w' = w.alloc (.cells #[.int .i64 q.k, q.d, q.n, q.c] 31) := by
  obtain ⟨A, n, c, A', n', c', A'', n'', c'', e, e', e''⟩ := hq.form
  obtain ⟨k, d, ns, ks⟩ := q
  dsimp only at e e' e''
  subst e e' e''
  dsimp only [Q.val]
  clear hq
  go_enter Try.func53, Try.ntmps53
  go_wp2
  go_ret
  exact ⟨rfl, rfl⟩

set_option maxRecDepth 20000 in
set_option maxHeartbeats 800000 in
theorem nodes1 (w0 : World) (x : Nd w0) (hs : x.s = 0) (hn : x.nm = []) (hv : x.v = .slice none 0 0) (l : Nat) (J Jx : List (Nd w0) → World → Prop)
    (hJ : ∀ pre W W', J pre W → Below W.heap.size W W' → J pre W') (hG : ∀ pre W, J pre W → ∀ y ∈ pre, y.good)
    (hY : ∀ pre (y : Nd w0) W, J pre W → pre.map Nd.key ++ [y.key] <+: x.t.pre 0 [] → Below w0.heap.size w0 W → YieldAt Fence.wide 0 Try.prog l #[y.val] W fun e W' =>
      (e = .returned (.bool true) ∧ J (pre ++ [y]) W' ∧ Holds w0.heap.size W W') ∨ (e = .returned (.bool false) ∧ Jx (pre ++ [y]) W'))
    (W : World) (g : Nat) (hg : C4 W g 31 (.int .i64 x.q.k) x.q.d x.q.n x.q.c) (hw : Below w0.heap.size w0 W) (h0 : J [] W) :
    Calls Try.prog 79 #[.func (.yield l) #[] #[], .pointer (some ⟨g, 0, none⟩)] W fun e W' => (∃ v, e = .returned v) ∧
      ((∃ xs : List (Nd w0), xs.map Nd.key = x.t.pre 0 [] ∧ J xs W') ∨ (∃ xs : List (Nd w0), xs.map Nd.key <+: x.t.pre 0 [] ∧ Jx xs W')) := by
  have hcall := produce x.t w0 x l J Jx (x.t.pre 0 []) hJ hG hY rfl [] W h0 hw (by rw [hs, hn]; exact List.prefix_refl _)
  rw [hs, hn, Nd.val, hs, hv] at hcall
  obtain ⟨A, n, c, A', n', c', A'', n'', c'', e, e', e''⟩ := x.hq.form
  rw [e, e', e''] at hcall hg
  generalize x.q.k = k at *
  have HC := hide hcall
  have x0 := hg.c0
  have x1 := hg.c1
  have x2 := hg.c2
  have x3 := hg.c3
  clear hcall hJ hG hY hg hw h0 hs hn hv e e' e''
  go_enter Try.func79, Try.ntmps79
  go_wp2_with fail
  refine HC.out.mono ?_
  rintro e W2 (⟨rfl, ⟨xs, h1, h2⟩, _⟩ | ⟨rfl, xs, h1, h2⟩)
  · have H1 := hide h1
    have H2 := hide h2
    clear h1 h2
    go_wp2
    go_end0
    exact ⟨⟨_, rfl⟩, .inl ⟨xs, H1.out, H2.out⟩⟩
  · have H1 := hide h1
    have H2 := hide h2
    clear h1 h2
    go_wp2
    go_end0
    exact ⟨⟨_, rfl⟩, .inr ⟨xs, H1.out, H2.out⟩⟩

end Go.Proofs.Ytchmppikpeeghaa
