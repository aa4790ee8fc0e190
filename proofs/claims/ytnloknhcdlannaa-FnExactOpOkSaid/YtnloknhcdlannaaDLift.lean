
/-
  From the laws' data that come in to data of Lean.
-/
import Derived.Test.YtnloknhcdlannaaLiftD
namespace Go.Proofs.Ytnloknhcdlannaa
open Go.ChangeShapes Go.WideShapes Go.ChangeAt Go.RowKit
set_option linter.unusedVariables false
set_option linter.unusedSimpArgs false
section
variable {H : Type} {enc : TypeId × Value → H} {W : World}
theorem names_of_trod' {fuel : Nat} {v : Value} {x : DataW H × List MemPlace} (h : DataW.trod enc Try.prog W 0 (fun _ => true) true fuel 31 [v] = some x) : ∃ l : List (List Int), (names l).ok ∧ ∃ F, Lie W (names l) v F :=
  row_of_trod (α := List Int) (f := fun n => [raw n]) (n := 1) Try.underlying31 (by kernel_rfl) (by decide) (by decide) (fun m _ cs x hx => by
    rcases cs with _ | ⟨u, _ | ⟨u2, cs⟩⟩
    · exact absurd (DataW.trod_slice Try.underlying22 hx) (by rintro (⟨h, _⟩ | ⟨_, _, _, _, _, _, _, h, _⟩) <;> cases h)
    · obtain ⟨l, h1, F, h2⟩ := raw_of_trod hx
      exact ⟨l, by rw [oks]; exact ⟨h1, trivial⟩, F, lies_one h2⟩
    · exact absurd (DataW.trod_slice Try.underlying22 hx) (by rintro (⟨h, _⟩ | ⟨_, _, _, _, _, _, _, h, _⟩) <;> cases h)) h
theorem ints_of_trod {fuel : Nat} {v : Value} {x : DataW H × List MemPlace} (h : DataW.trod enc Try.prog W 0 (fun _ => true) true fuel 121 [v] = some x) : ∃ l : List Int, (ints l).ok ∧ ∃ F, Lie W (ints l) v F := by
  obtain ⟨l, h1, F, h2⟩ := row_of_trod (α := Int) (f := fun x => [Cel.num .i64 x]) (n := 1) Try.underlying121 (by kernel_rfl) (by decide) (by decide) (fun m _ cs x hx => by
    obtain ⟨k, rfl, _, hw⟩ := DataW.trod_int Try.underlying3 hx
    exact ⟨k, by rw [oks]; exact ⟨(num_ok_i64 k).2 (i64_of_wf hw), trivial⟩, [], lies_one (lie_num _ _ _)⟩) h
  exact ⟨l, by rw [ints_eq]; exact h1, F, by rw [ints_eq]; exact h2⟩
set_option maxRecDepth 100000 in
theorem Op_of_trod (fuel : Nat) : ∀ (cs : List Value) (x : DataW H × List MemPlace), DataW.trod enc Try.prog W 0 (fun _ => true) true fuel 24 cs = some x → ∃ a : DOp, oks a.cells ∧ ∃ F, Lies W a.cells cs F := by
    intro cs x h
    obtain ⟨xs, n, hfu, hx, hlen, hxl, hf⟩ := DataW.trod_struct Try.underlying24 h
    have hC : Program.cellsOf Try.prog 24 = 5 := by kernel_rfl
    rw [hC] at hlen
    match cs, hlen, xs, hxl with
    | [c0, c1, c2, c3, c4], _, [y0, y1, y2, y3, y4], _ =>
      have C0 : Program.cellsOf Try.prog 3 = 1 := by kernel_rfl
      have f0 : DataW.trod enc Try.prog W 0 (fun _ => true) true n 3 (([c0, c1, c2, c3, c4].drop 0).take (Program.cellsOf Try.prog 3)) = some y0 := hf 0 _ rfl
      rw [C0] at f0
      replace f0 : DataW.trod enc Try.prog W 0 (fun _ => true) true n 3 [c0] = some y0 := f0
      have C1 : Program.cellsOf Try.prog 3 = 1 := by kernel_rfl
      have f1 : DataW.trod enc Try.prog W 0 (fun _ => true) true n 3 (([c0, c1, c2, c3, c4].drop 1).take (Program.cellsOf Try.prog 3)) = some y1 := hf 1 _ rfl
      rw [C1] at f1
      replace f1 : DataW.trod enc Try.prog W 0 (fun _ => true) true n 3 [c1] = some y1 := f1
      have C2 : Program.cellsOf Try.prog 22 = 1 := by kernel_rfl
      have f2 : DataW.trod enc Try.prog W 0 (fun _ => true) true n 22 (([c0, c1, c2, c3, c4].drop 2).take (Program.cellsOf Try.prog 22)) = some y2 := hf 2 _ rfl
      rw [C2] at f2
      replace f2 : DataW.trod enc Try.prog W 0 (fun _ => true) true n 22 [c2] = some y2 := f2
      have C3 : Program.cellsOf Try.prog 22 = 1 := by kernel_rfl
      have f3 : DataW.trod enc Try.prog W 0 (fun _ => true) true n 22 (([c0, c1, c2, c3, c4].drop 3).take (Program.cellsOf Try.prog 22)) = some y3 := hf 3 _ rfl
      rw [C3] at f3
      replace f3 : DataW.trod enc Try.prog W 0 (fun _ => true) true n 22 [c3] = some y3 := f3
      have C4 : Program.cellsOf Try.prog 3 = 1 := by kernel_rfl
      have f4 : DataW.trod enc Try.prog W 0 (fun _ => true) true n 3 (([c0, c1, c2, c3, c4].drop 4).take (Program.cellsOf Try.prog 3)) = some y4 := hf 4 _ rfl
      rw [C4] at f4
      replace f4 : DataW.trod enc Try.prog W 0 (fun _ => true) true n 3 [c4] = some y4 := f4
      obtain ⟨k0, e0, _, w0⟩ := DataW.trod_int Try.underlying3 f0
      obtain rfl := List.singleton_inj.1 e0
      obtain ⟨k1, e1, _, w1⟩ := DataW.trod_int Try.underlying3 f1
      obtain rfl := List.singleton_inj.1 e1
      obtain ⟨k2, o2, F2, l2⟩ := raw_of_trod f2
      obtain ⟨k3, o3, F3, l3⟩ := raw_of_trod f3
      obtain ⟨k4, e4, _, w4⟩ := DataW.trod_int Try.underlying3 f4
      obtain rfl := List.singleton_inj.1 e4
      refine ⟨⟨k0, k1, k2, k3, k4⟩, ?_, ?_⟩
      · rw [DOp.cells_top]
        simp only [oks, oks_app]
        exact ⟨(num_ok_i64 k0).2 (i64_of_wf w0), (num_ok_i64 k1).2 (i64_of_wf w1), o2, o3, (num_ok_i64 k4).2 (i64_of_wf w4), trivial⟩
      · rw [DOp.cells_top]
        exact ⟨_, ((lies_one (lie_num W .i64 k0)).append ((lies_one (lie_num W .i64 k1)).append ((lies_one l2).append ((lies_one l3).append (lies_one (lie_num W .i64 k4))))))⟩
theorem OpS_of_trod {fuel : Nat} {v : Value} {x : DataW H × List MemPlace} (h : DataW.trod enc Try.prog W 0 (fun _ => true) true fuel 33 [v] = some x) : ∃ l : List DOp, (seqOf 5 DOp.cells l).ok ∧ ∃ F, Lie W (seqOf 5 DOp.cells l) v F :=
  row_of_trod (α := DOp) (f := DOp.cells) (n := 5) Try.underlying33 (by kernel_rfl) (by decide) (by decide) (fun m _ cs x hx => Op_of_trod m cs x hx) h
set_option maxRecDepth 100000 in
theorem In_of_trod (fuel : Nat) : ∀ (cs : List Value) (x : DataW H × List MemPlace), DataW.trod enc Try.prog W 0 (fun _ => true) true fuel 99 cs = some x → ∃ a : DIn, oks a.cells ∧ ∃ F, Lies W a.cells cs F := by
    intro cs x h
    obtain ⟨xs, n, hfu, hx, hlen, hxl, hf⟩ := DataW.trod_struct Try.underlying99 h
    have hC : Program.cellsOf Try.prog 99 = 2 := by kernel_rfl
    rw [hC] at hlen
    match cs, hlen, xs, hxl with
    | [c0, c1], _, [y0, y1], _ =>
      have C0 : Program.cellsOf Try.prog 22 = 1 := by kernel_rfl
      have f0 : DataW.trod enc Try.prog W 0 (fun _ => true) true n 22 (([c0, c1].drop 0).take (Program.cellsOf Try.prog 22)) = some y0 := hf 0 _ rfl
      rw [C0] at f0
      replace f0 : DataW.trod enc Try.prog W 0 (fun _ => true) true n 22 [c0] = some y0 := f0
      have C1 : Program.cellsOf Try.prog 22 = 1 := by kernel_rfl
      have f1 : DataW.trod enc Try.prog W 0 (fun _ => true) true n 22 (([c0, c1].drop 1).take (Program.cellsOf Try.prog 22)) = some y1 := hf 1 _ rfl
      rw [C1] at f1
      replace f1 : DataW.trod enc Try.prog W 0 (fun _ => true) true n 22 [c1] = some y1 := f1
      obtain ⟨k0, o0, F0, l0⟩ := raw_of_trod f0
      obtain ⟨k1, o1, F1, l1⟩ := raw_of_trod f1
      refine ⟨⟨k0, k1⟩, ?_, ?_⟩
      · rw [DIn.cells_top]
        simp only [oks, oks_app]
        exact ⟨o0, o1, trivial⟩
      · rw [DIn.cells_top]
        exact ⟨_, ((lies_one l0).append (lies_one l1))⟩
theorem InS_of_trod {fuel : Nat} {v : Value} {x : DataW H × List MemPlace} (h : DataW.trod enc Try.prog W 0 (fun _ => true) true fuel 32 [v] = some x) : ∃ l : List DIn, (seqOf 2 DIn.cells l).ok ∧ ∃ F, Lie W (seqOf 2 DIn.cells l) v F :=
  row_of_trod (α := DIn) (f := DIn.cells) (n := 2) Try.underlying32 (by kernel_rfl) (by decide) (by decide) (fun m _ cs x hx => In_of_trod m cs x hx) h
set_option maxRecDepth 100000 in
theorem Drv_of_trod (fuel : Nat) : ∀ (cs : List Value) (x : DataW H × List MemPlace), DataW.trod enc Try.prog W 0 (fun _ => true) true fuel 35 cs = some x → ∃ a : DDrv, oks a.cells ∧ ∃ F, Lies W a.cells cs F := by
    intro cs x h
    obtain ⟨xs, n, hfu, hx, hlen, hxl, hf⟩ := DataW.trod_struct Try.underlying35 h
    have hC : Program.cellsOf Try.prog 35 = 4 := by kernel_rfl
    rw [hC] at hlen
    match cs, hlen, xs, hxl with
    | [c0, c1, c2, c3], _, [y0, y1, y2, y3], _ =>
      have C0 : Program.cellsOf Try.prog 31 = 1 := by kernel_rfl
      have f0 : DataW.trod enc Try.prog W 0 (fun _ => true) true n 31 (([c0, c1, c2, c3].drop 0).take (Program.cellsOf Try.prog 31)) = some y0 := hf 0 _ rfl
      rw [C0] at f0
      replace f0 : DataW.trod enc Try.prog W 0 (fun _ => true) true n 31 [c0] = some y0 := f0
      have C1 : Program.cellsOf Try.prog 32 = 1 := by kernel_rfl
      have f1 : DataW.trod enc Try.prog W 0 (fun _ => true) true n 32 (([c0, c1, c2, c3].drop 1).take (Program.cellsOf Try.prog 32)) = some y1 := hf 1 _ rfl
      rw [C1] at f1
      replace f1 : DataW.trod enc Try.prog W 0 (fun _ => true) true n 32 [c1] = some y1 := f1
      have C2 : Program.cellsOf Try.prog 31 = 1 := by kernel_rfl
      have f2 : DataW.trod enc Try.prog W 0 (fun _ => true) true n 31 (([c0, c1, c2, c3].drop 2).take (Program.cellsOf Try.prog 31)) = some y2 := hf 2 _ rfl
      rw [C2] at f2
      replace f2 : DataW.trod enc Try.prog W 0 (fun _ => true) true n 31 [c2] = some y2 := f2
      have C3 : Program.cellsOf Try.prog 33 = 1 := by kernel_rfl
      have f3 : DataW.trod enc Try.prog W 0 (fun _ => true) true n 33 (([c0, c1, c2, c3].drop 3).take (Program.cellsOf Try.prog 33)) = some y3 := hf 3 _ rfl
      rw [C3] at f3
      replace f3 : DataW.trod enc Try.prog W 0 (fun _ => true) true n 33 [c3] = some y3 := f3
      obtain ⟨k0, o0, F0, l0⟩ := names_of_trod' f0
      obtain ⟨k1, o1, F1, l1⟩ := InS_of_trod f1
      obtain ⟨k2, o2, F2, l2⟩ := names_of_trod' f2
      obtain ⟨k3, o3, F3, l3⟩ := OpS_of_trod f3
      refine ⟨⟨k0, k1, k2, k3⟩, ?_, ?_⟩
      · rw [DDrv.cells_top]
        simp only [oks, oks_app]
        exact ⟨o0, o1, o2, o3, trivial⟩
      · rw [DDrv.cells_top]
        exact ⟨_, ((lies_one l0).append ((lies_one l1).append ((lies_one l2).append (lies_one l3))))⟩
end
end Go.Proofs.Ytnloknhcdlannaa
