/-
  A loop over a valid tree's nodes whose body never leaves it.
-/
import Derived.Test.YtchmppikpeeghaaTreeOkI
namespace Go.Proofs.Ytchmppikpeeghaa
open Go.RowKit Go.Shelf
set_option linter.unusedVariables false
attribute [local go_sem] Oper.semAt_some

theorem good_of {w0 : World} {t : T} (hv : treeOk t = true) {xs : List (Nd w0)} (h : xs.map Nd.key <+: t.pre 0 []) : (∀ y ∈ xs, y.good) ∧ xs.length ≤ 40 := by
  rw [treeOk, Bool.and_eq_true, decide_eq_true_eq] at hv
  refine ⟨fun y hy => (T.pre_ok t 0 []).1 hv.1 y.key (h.subset (List.mem_map.2 ⟨y, hy, rfl⟩)), ?_⟩
  have := h.length_le
  rw [List.length_map, T.pre_len] at this
  omega
theorem len_of {w0 : World} {t : T} {xs : List (Nd w0)} (h : xs.map Nd.key = t.pre 0 []) : xs.length = t.size := by rw [← T.pre_len t 0 [], ← h, List.length_map]
theorem Holds.size {n₀ : Nat} {W W' : World} (h : Holds n₀ W W') : W.heap.size ≤ W'.heap.size := h.below.size

theorem nodesLoop {g : Operand} {ps : Array Tmp} {assign body : Code} {Q : Exit → Act → World → Prop} {a : Act} {W0 : World} {gb : Nat} (w0 : World) (x : Nd w0) (hs : x.s = 0) (hn : x.nm = []) (hv : x.v = .slice none 0 0)
    (hg : a.eval g = .func (.func 79) #[] #[.pointer (some ⟨gb, 0, none⟩)]) (hbox : C4 W0 gb 31 (.int .i64 x.q.k) x.q.d x.q.n x.q.c) (hw0 : Below w0.heap.size w0 W0) (hps : ps.size = 1)
    (I : List (Nd w0) → World → Prop) (hIs : ∀ pre W W', I pre W → Below W.heap.size W W' → I pre W') (hIp : ∀ pre W l r o, I pre W → W.heap[l]? = some (Obj.loop r) → w0.heap.size ≤ l → I pre (W.putObj l o))
    (hIg : ∀ pre W, I pre W → ∀ y ∈ pre, y.good) (h0 : I [] W0)
    (M : Nd w0 → Act → World → Prop) (hMp : ∀ y a' W l r o, M y a' W → W.heap[l]? = some (Obj.loop r) → M y a' (W.putObj l o))
    (hassign : ∀ l pre y W, I pre W → W0.heap.size + 1 < W.heap.size → Below w0.heap.size w0 W → assign.wpIn (Fence.wide.inRound l) 0 Try.prog (Exit.then (fun a' Wa => Below W.heap.size W Wa ∧ M y a' Wa) (fun _ _ _ => False)) { tmps := (ps.zip #[y.val]).foldl (fun t (p, v) => t.setIfInBounds p v) a.tmps, defers := [] } W)
    (hbody : ∀ l pre y a' W, W0.heap.size ≤ l → I pre W → M y a' W → Below w0.heap.size w0 W → pre.map Nd.key ++ [y.key] <+: x.t.pre 0 [] → body.wpIn (Fence.wide.inRound l) 0 Try.prog (fun e _ W' => e = .normal ∧ KeepsFrom W0.heap.size W W' ∧ Holds w0.heap.size W W' ∧ I (pre ++ [y]) W') a' W)
    (hdone : ∀ xs W, xs.map Nd.key = x.t.pre 0 [] → I xs W → W.heap[W0.heap.size]? = some (.deferred (some [])) → Q .normal { a with defers := { target := .collected W0.heap.size, args := #[] } :: a.defers } W) :
    (Code.rangeFunc g ps assign body).wpIn Fence.wide 6 Try.prog Q a W0 := by
  refine rangeF (F := Fence.wide) (T := fun W => ∃ xs : List (Nd w0), xs.map Nd.key = x.t.pre 0 [] ∧ I xs W) (X := fun _ _ => False)
    rfl (by omega) hg trivial (enters_of Try.func79 (by kernel_rfl) rfl) ?hit ?done ?stop
  case hit =>
    intro r W1 hfn htm hpr has hbd hrec hb1 hz1
    refine callsIn_wide.2 ((nodes1 w0 x hs hn hv (W0.heap.size + 1) (fun pre W => I pre W ∧ RecAt W W0.heap.size r .ready none) (fun _ _ => False)
      (fun pre W W' h hb => ⟨hIs pre W W' h.1 hb, h.2.keep (KeepsFrom.below hb)⟩) (fun pre W h => hIg pre W h.1) ?round W1 gb (hbox.step hb1) (hw0.trans (hb1.mono hw0.size)) ⟨hIs [] W0 W1 h0 hb1, hrec⟩).mono ?after)
    case after =>
      rintro e W2 ⟨hv, ⟨xs, h1, h2, h3⟩ | ⟨xs, h1, h2⟩⟩
      · exact ⟨hv, .inl ⟨⟨xs, h1, h2⟩, h3⟩⟩
      · exact h2.elim
    case round =>
      rintro pre y W ⟨hI, hr⟩ hpre hbw
      have hln := hw0.size
      refine YieldAt.mono (oneRound (F := Fence.wide) (m := 0) (M := fun a' Wa => M y a' Wa ∧ I pre Wa ∧ Below W.heap.size W Wa)
        (T := fun W' => I (pre ++ [y]) W' ∧ Holds w0.heap.size W W') (X := fun _ _ => False) hfn hr (by rw [hpr, hps]; rfl) ?assign ?body) ?post
      case post =>
        rintro e W' (⟨rfl, ⟨h1, h2⟩, h3⟩ | ⟨rfl, c, h1, h3⟩)
        · exact .inl ⟨rfl, ⟨h1, h3⟩, h2⟩
        · exact h1.elim
      case assign =>
        rw [has, htm, hpr]
        refine wpIn_mono (hassign (W0.heap.size + 1) pre y W hI hr.lt hbw) ?_
        intro e a' Wa h
        cases e with
        | normal => exact ⟨KeepsFrom.below h.1, h.2, hIs pre W Wa hI h.1, h.1⟩
        | _ => exact h
      case body =>
        rintro a' Wa ⟨hM, hIa, hba⟩ hra Wb hWb
        have hrb : RecAt Wb W0.heap.size r .busy none := by rw [hWb]; exact hra.put .busy none
        have hIb : I pre Wb := by rw [hWb]; exact hIp pre Wa _ _ _ hIa hra.rcd (by omega)
        have hMb : M y a' Wb := by rw [hWb]; exact hMp y a' Wa _ _ _ hM hra.rcd
        have hHb : Holds w0.heap.size W Wb := by rw [hWb]; exact (Holds.of_below hba hbw.size).trans (Holds.put hra.rcd (by omega) _)
        rw [hbd]
        refine wpIn_mono (hbody (W0.heap.size + 1) pre y a' Wb (by omega) hIb hMb (hbw.trans hHb.below) hpre) ?_
        rintro e a2 W2 ⟨rfl, hk, hh, hi⟩
        have hr2 := hrb.keep hk
        refine ⟨hk, ?_⟩
        rw [← hbd]
        exact ⟨hIp _ _ _ _ _ hi hr2.rcd (by omega), (hHb.trans hh).trans (Holds.put hr2.rcd (by omega) _)⟩
  case done =>
    rintro W2 r st pe ⟨xs, h1, hI⟩ hrec W3 hW3 hK
    have hln := hw0.size
    exact hdone xs W3 h1 (by rw [hW3]; exact hIp _ _ _ _ _ hI hrec.rcd (by omega)) hK
  case stop =>
    intro W2 r st pe c h
    exact h.elim

end Go.Proofs.Ytchmppikpeeghaa
