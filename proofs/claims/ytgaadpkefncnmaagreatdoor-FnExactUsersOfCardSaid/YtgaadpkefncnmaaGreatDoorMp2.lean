/-
  Parts of the proof: Facts.
-/
import Derived.Test.YtgaadpkefncnmaaGreatDoorMp0
import Derived.Test.YtgaadpkefncnmaaGreatDoorCards
/-
  What the claim's form asks of the program as a whole, fact by fact.
-/
namespace Go.Proofs.YtgaadpkefncnmaaGreatDoor
open Go.ChangeShapes Go.WideShapes Go.ChangeAt
theorem band {a b:Bool} (h:a=true) (k:b=true):(a && b)=true:=by rw [h,k]; rfl
theorem fact3:mapsRowed Tryz.prog=true:=by kernel_rfl
theorem fact7:(Tryz.prog.stops == [])=true:=by kernel_rfl
theorem fact9:(Tryz.prog.stopKnobs == [])=true:=by kernel_rfl
theorem fact23:Tryz.prog.plainKeys=true:=by kernel_rfl
theorem fact25:Tryz.prog.stopsHeard=true:=by kernel_rfl
theorem fact26:Tryz.prog.mayEnter=true:=by kernel_rfl
theorem factLooks:true=Tryz.pinned.checked.prog.looks []:=by kernel_rfl
end Go.Proofs.YtgaadpkefncnmaaGreatDoor
