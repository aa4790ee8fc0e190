/-
  Parts of the proof: NmOf.
-/
import Derived.Test.YtgaadpkefncnmaaGreatDoorMp44
import Derived.Test.YtgaadpkefncnmaaGreatDoorMp29
/-
  The names of a store's objects: what a map of them gives, sorted.
-/
namespace Go.Proofs.YtgaadpkefncnmaaGreatDoor
open Go.RowKit
set_option linter.unusedVariables false
theorem mem_objNames {os:List DObj} {n:List Int} : n∈objNames os↔atO os n < os.length:=by
 induction os with
 | nil=>simp [objNames,atO]
 | cons o os ih =>
   rw [objNames,List.map_cons,List.mem_cons,atO]
   by_cases h:o.name=n
   ·rw [if_pos h]
    simp [h]
   ·rw [if_neg h]
    have ih2:n∈List.map DObj.name os↔atO os n < os.length:=ih
    rw [ih2,List.length_cons]
    constructor
    ·rintro (h2 | h2)
     ·exact absurd h2.symm h
     ·omega
    ·intro h2
     exact Or.inr (by omega)
theorem objNames_asc {os:List DObj} (h:objsAsc os=true):(objNames os).Pairwise (fun a b=>lessL a b=true):=by
 rw [List.pairwise_iff_getElem]
 intro i j hi hj hij
 rw [objNames_len] at hi hj
 have:=objsAsc_less h (j - i - 1) i (by omega)
 simp only [objNames,List.getElem_map]
 have e:i + (j - i - 1) + 1=j:=by omega
 simp only [e] at this
 exact this
theorem ObjF.namesOf {w:World} {os:List DObj} {f:List Int→Option Value} (h:ObjF w os f) (ha:objsAsc os=true) (hB:∀ o∈os,Byt o.name):NamesOf f (objNames os):=by
 refine ⟨objNames_asc ha,fun n hn=>?_,fun n _=>?_⟩
 ·obtain ⟨o,ho,rfl⟩:=List.mem_map.1 hn
  exact hB o ho
 ·rw [h.isSome n,decide_eq_true_eq,mem_objNames]
end Go.Proofs.YtgaadpkefncnmaaGreatDoor
