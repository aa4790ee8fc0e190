
/-
  The table of the program, as a row lists it.
-/
import Derived.Test.YtnloknhcdlannaaDoorShaM
import Derived.Test.YtnloknhcdlannaaDoorLift
import Derived.Test.YtnloknhcdlannaaDoorCards
import Derived.Test.YtnloknhcdlannaaDoorTie
import Derived.Deep.DeepHandedRow
import Derived.Lib.LaidTab
import Derived.OpenVars
namespace Go.Proofs.YtnloknhcdlannaaDoor
open Go.ChangeShapes Go.WideShapes Go.ChangeAt Go.RowKit

theorem gKeys : Tryd.prog.globalNamed "loop.example/g00538/impl.roundKeys" = some 1 := by kernel_rfl
theorem gKeysType : (Tryd.prog.globals[1]?).map (·.type) = some 93 := by kernel_rfl
theorem cellsKeys : Tryd.prog.cellsOf 93 = 64 := by kernel_rfl
theorem cellsU32 : Tryd.prog.cellsOf 78 = 1 := by kernel_rfl
theorem tab_of_laid {W : World} (h : laidMet Tryd.prog [("loop.example/g00538/impl.roundKeys", Rows.laid_loop_example_g00538_impl_roundKeys)] W) : Tab W := by
  have h1 : Lib.TabIs Tryd.prog W "loop.example/g00538/impl.roundKeys" .u32 KL :=
    Lib.tabIs_of_head (rest := []) gKeys gKeysType Tryd.underlying93 Tryd.underlying78 cellsU32 cellsKeys h
  unfold Lib.TabIs World.var? at h1
  rw [gKeys] at h1
  simp only [Option.bind_some] at h1
  split at h1
  · rename_i cs t fr hb
    have e : cs = wd KL := Option.some.inj h1
    subst e
    exact ⟨t, fr, hb⟩
  · cases h1

/-- A world in which the table holds what its declaration says. -/
noncomputable def laidWorld (os : Os) : World :=
  { World.holding Tryd.prog os ⟨#[], #[], []⟩ with heap := (World.holding Tryd.prog os ⟨#[], #[], []⟩).heap.modify 1 fun
      | .cells _ t frozen => .cells (wd KL) t frozen
      | o => o }
theorem laid_met (os : Os) (args : Array Value) : laidMet Tryd.prog [("loop.example/g00538/impl.roundKeys", Rows.laid_loop_example_g00538_impl_roundKeys)] ((laidWorld os).forCall (fun _ _ => 0) ⟨#[], args, []⟩).memory :=
  laidMet_of_run' 8 (by kernel_rfl) (by kernel_rfl)

end Go.Proofs.YtnloknhcdlannaaDoor
