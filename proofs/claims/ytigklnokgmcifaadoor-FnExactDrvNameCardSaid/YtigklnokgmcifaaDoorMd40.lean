/-
  Parts of the proof: DrvNameL.
-/
import Derived.Test.YtigklnokgmcifaaDoorMd25
import Derived.Test.YtigklnokgmcifaaDoorMd39

/-
  The law DrvName.
-/
namespace Go.Proofs.YtigklnokgmcifaaDoor
open Go.RowKit
set_option linter.unusedVariables false

theorem drvNm_len (d : DDrv) : (drvNm d).length ≤ 16 := by
  unfold drvNm
  split
  · unfold nameOf
    split
    · simp
    · rw [b32_len, sha10_len]; omega
  · simp
theorem cnts_numsD (l : List Int) : cnts (l.map (Cel.num .u8)) = l.length := by
  induction l with
  | nil => rfl
  | cons x l ih => rw [List.map_cons, cnts, ih, List.length_cons]; show 1 + _ = _; omega
theorem lawDrvName (x0 : DDrv) (o0 : oks x0.cells) (w : World) (u0 : List Value) (E0 : List Nat) (h0 : Lies w x0.cells u0 E0) (hT : Tab w) :
    Calls Tryd.prog 4 #[.agg u0.toArray] w fun e w' => e = .returned (.bool true) ∧ Below w.heap.size w w' := by
  refine walkDrvName x0 (drvNm x0) ?_ (drvOk x0) ?_ ?_ w u0 E0 h0 hT
  · have := drvNm_len x0
    rw [raw, Cel.cnt, cnts_numsD]
    omega
  · intro hb u E W h
    refine (specDrvName x0 o0 hb u W ⟨E, h⟩).mono ?_
    rintro e w' ⟨r, J, he, h1, h2, h3⟩
    exact ⟨r, J, he, h1, fun g hg => .inr (h2.low g hg), h3⟩
  · intro hb u E W h ht
    refine (implDrvName x0 o0 hb u W ⟨E, h⟩ ht).mono ?_
    rintro e w' ⟨r, J, he, h1, h2, h3⟩
    exact ⟨r, J, he, h1, h2, h3⟩
end Go.Proofs.YtigklnokgmcifaaDoor
