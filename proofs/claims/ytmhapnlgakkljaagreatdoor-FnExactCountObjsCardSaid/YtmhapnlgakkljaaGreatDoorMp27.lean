/-
  Parts of the proof: CntObj.
-/
import Derived.Test.YtmhapnlgakkljaaGreatDoorMp26
import Derived.Laws.BytesArg
import Derived.IntWalk
import Derived.Deep.QuietTactic
import Derived.BigQuiet
import Derived.Deep.Cut
import Derived.Deep.DeepCutAuto
import Derived.Deep.CutBlock
import Derived.Deep.RegionWith

/-
  Counting objects of a kind.
-/
namespace Go.Proofs.YtmhapnlgakkljaaGreatDoor
open Go.RowKit
set_option linter.unusedVariables false
set_option linter.unusedSimpArgs false

def objCnt (l : List DObj) (c : Int) : Nat := (l.filter (fun o => o.kind == c)).length
theorem objCnt_next {l : List DObj} {c : Int} {k : Nat} (h : k < l.length) : objCnt (l.take (k + 1)) c = objCnt (l.take k) c + (if (l[k]).kind == c then 1 else 0) := by
  unfold objCnt
  rw [List.take_succ_eq_append_getElem h, List.filter_append, List.length_append]
  cases hc : ((l[k]).kind == c) <;> simp [List.filter_cons, hc]
theorem objCnt_le (l : List DObj) (c : Int) : objCnt l c ≤ l.length := List.length_filter_le _ _
def countObjs (s : DStore) (c : Int) : Int := if storeOk s then (objCnt s.objs c : Int) else -1

end Go.Proofs.YtmhapnlgakkljaaGreatDoor
