/-
  Parts of the proof: RealOfP.
-/
import Derived.Test.YtgaadpkefncnmaaGreatDoorMp29
import Derived.Test.YtgaadpkefncnmaaGreatDoorMp12
import Derived.Test.YtgaadpkefncnmaaGreatDoorMp1
import Derived.Laws.BytesArg
import Derived.IntWalk
import Derived.Deep.QuietTactic
import Derived.BigQuiet
import Derived.Deep.Cut
import Derived.Deep.DeepCutAuto
import Derived.Deep.CutBlock
import Derived.Deep.RegionWith
/-
  The realisation of an output, in plain lists.
-/
namespace Go.Proofs.YtgaadpkefncnmaaGreatDoor
open Go.RowKit
set_option linter.unusedVariables false
set_option linter.unusedSimpArgs false
theorem own_freshR {w:World} {lo:Nat} {v:Value} {l:List Int} (h:w.ownsRow lo 5 1 v l.length (bs l)):∃ F,Lie w (raw l) v F∧Fresh lo w F:=by
 have hr:Rd w v (bs l):=(Own.of h (bs_length l).symm).rd
 refine ⟨blk v,hr.lie,?_⟩
 rcases h.2 with ⟨rfl,hn⟩ | ⟨g,cap,cur,rfl,hbg,hg,_⟩
 ·exact Fresh.nil _ _
 ·rcases Nat.eq_zero_or_pos l.length with h0 | h0
  ·rw [h0,blk_none]; exact Fresh.nil _ _
  ·rw [blk_some h0]
   exact ⟨by simp,fun x hx=>by rw [List.mem_singleton.1 hx]; exact hbg,fun x hx=>by rw [List.mem_singleton.1 hx]; exact LiveAt.of hg⟩
/-! ### the order of the realisations -/
end Go.Proofs.YtgaadpkefncnmaaGreatDoor
