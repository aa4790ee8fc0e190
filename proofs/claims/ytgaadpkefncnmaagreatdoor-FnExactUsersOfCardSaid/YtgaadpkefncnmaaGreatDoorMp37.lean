/-
  Parts of the proof: StoSG.
-/
import Derived.Test.YtgaadpkefncnmaaGreatDoorMp29
import Derived.Laws.BytesArg
import Derived.IntWalk
import Derived.Deep.QuietTactic
import Derived.BigQuiet
import Derived.Deep.Cut
import Derived.Deep.DeepCutAuto
import Derived.Deep.CutBlock
import Derived.Deep.RegionWith
import Derived.Deep.RegionHeld3
/-
  The same, the case of a later object.
-/
namespace Go.Proofs.YtgaadpkefncnmaaGreatDoor
open Go.RowKit
set_option linter.unusedVariables false
set_option linter.unusedSimpArgs false
set_option maxRecDepth 20000 in
set_option maxHeartbeats 6400000 in
theorem reg6G {v0 v2 v4 v5 v6 v7 v8 v9 v10 v11 v12 v13 v14 v15 v16 v17 v18 v19 v20 v21 v22 v23 v24 v25 v26 v27 v28 v29 v30 v31 v32 v33 v34 v35 v36 v37 v38 v39 v40 v41 v42 v43 v44 v45 v46 v47 v48 v49 v50 v51 v52 v53 v54 v55 v56 v57 v58 v59 v60 v61 v62 v63 v64 v65 v66 v67 v68 v69 v70 v71 v72 v73 v74 v75 v76 v77 v78 v79 v80 v81 v82 v83 v84 v85 v86 v87 v88 v89 v90 v91 v92 v93 v94 v95 v96 v97 v98 v99 v100 v101 v102 v103 v104 v105 v106 v107 v108 v109 v110 v111 v112 v113 v114 v115 v116 v117 v118 v119 v120 v121 v122 v123 v124 v125 v126 v127 v128 v129 v130 v131 v132 v133 v134 v135 v136 v137 v138 v139 v140 v141 v142 v143 v144 v145 v146 v147 v148 v149 v150 v151 v152 v153 v154 v155 v156 v157 v158 v159 v160 v161 v162 v163 v164 v165 v166 v167 v168 v169:Value} {P:Nat} {j:Nat} (w:World) (n0 c0 be oe:Nat) (kd tk:Int) (Be0:Option Addr) (n0_ de0:Nat) (Be3:Option Addr) (n3_ de3:Nat) (Be4:Option Addr) (n4_ de4:Nat) (Be5:Option Addr) (n5_ de5:Nat) (Be6:Option Addr) (n6_ de6:Nat) (Be7:Option Addr) (n7_ de7:Nat) (Be8:Option Addr) (n8_ de8:Nat) (Bp0:Option Addr) (np_ dp0:Nat) (S0 S1:ByteArray) (L:Bool)
  (hj:j < n0) (hn0:n0≤1048576)
  (hj0:0 < j) (hS:∀ W,Below w.heap.size w W→(fun W:World=>W.cell? ⟨P,0,none⟩=some (.slice (some ⟨be,oe,none⟩) n0 c0)∧W.cell? ⟨be,oe + j * 9,none⟩=some (.slice Be0 n0_ de0)∧W.cell? ⟨be,oe + j * 9 + 1,none⟩=some (.int .i64 kd)∧W.cell? ⟨be,oe + j * 9 + 2,none⟩=some (.int .i64 tk)∧W.cell? ⟨be,oe + j * 9 + 3,none⟩=some (.slice Be3 n3_ de3)∧W.cell? ⟨be,oe + j * 9 + 4,none⟩=some (.slice Be4 n4_ de4)∧W.cell? ⟨be,oe + j * 9 + 5,none⟩=some (.slice Be5 n5_ de5)∧W.cell? ⟨be,oe + j * 9 + 6,none⟩=some (.slice Be6 n6_ de6)∧W.cell? ⟨be,oe + j * 9 + 7,none⟩=some (.slice Be7 n7_ de7)∧W.cell? ⟨be,oe + j * 9 + 8,none⟩=some (.slice Be8 n8_ de8)∧W.cell? ⟨be,oe + (j - 1) * 9,none⟩=some (.slice Bp0 np_ dp0)∧(convert 39 9 (.slice Be0 n0_ de0)).run Tryz.prog W=.ok (.string S1) W∧(convert 39 9 (.slice Bp0 np_ dp0)).run Tryz.prog W=.ok (.string S0) W) W) (hL:Op.bytesLess S0.toList S1.toList=L)
  (hC:Calls Tryz.prog 110 #[.agg #[.slice Be0 n0_ de0,.int .i64 kd,.int .i64 tk,.slice Be3 n3_ de3,.slice Be4 n4_ de4,.slice Be5 n5_ de5,.slice Be6 n6_ de6,.slice Be7 n7_ de7,.slice Be8 n8_ de8]] w.drew fun e w'=>e=.returned (.bool true)∧Below w.drew.heap.size w.drew w')
  (KK:Act→World→Prop) (Q:Exit→Act→World→Prop) (hKK:∀ (x32 x33 x34 x35 x36 x37 x38 x39 x40 x41 x42 x43 x44 x45 x46 x47 x48 x49 x50 x51 x52 x53 x54 x55 x56 x57 x58 x59:Value) (W:World),Below w.heap.size w W→KK ⟨(v0 :: .pointer (some ⟨P,0,none⟩) :: v2 :: .int .i64 (j:Int) :: v4 :: v5 :: v6 :: v7 :: v8 :: v9 :: v10 :: v11 :: v12 :: v13 :: v14 :: v15 :: v16 :: v17 :: v18 :: v19 :: v20 :: v21 :: v22 :: v23 :: v24 :: v25 :: v26 :: v27 :: v28 :: v29 :: v30 :: v31 :: x32 :: x33 :: x34 :: x35 :: x36 :: x37 :: x38 :: x39 :: x40 :: x41 :: x42 :: x43 :: x44 :: x45 :: x46 :: x47 :: x48 :: x49 :: x50 :: x51 :: x52 :: x53 :: x54 :: x55 :: x56 :: x57 :: x58 :: x59 :: .bool (!L) :: v61 :: v62 :: v63 :: v64 :: v65 :: v66 :: v67 :: v68 :: v69 :: v70 :: v71 :: v72 :: v73 :: v74 :: v75 :: v76 :: v77 :: v78 :: v79 :: v80 :: v81 :: v82 :: v83 :: v84 :: v85 :: v86 :: v87 :: v88 :: v89 :: v90 :: v91 :: v92 :: v93 :: v94 :: v95 :: v96 :: v97 :: v98 :: v99 :: v100 :: v101 :: v102 :: v103 :: v104 :: v105 :: v106 :: v107 :: v108 :: v109 :: v110 :: v111 :: v112 :: v113 :: v114 :: v115 :: v116 :: v117 :: v118 :: v119 :: v120 :: v121 :: v122 :: v123 :: v124 :: v125 :: v126 :: v127 :: v128 :: v129 :: v130 :: v131 :: v132 :: v133 :: v134 :: v135 :: v136 :: v137 :: v138 :: v139 :: v140 :: v141 :: v142 :: v143 :: v144 :: v145 :: v146 :: v147 :: v148 :: v149 :: v150 :: v151 :: v152 :: v153 :: v154 :: v155 :: v156 :: v157 :: v158 :: v159 :: v160 :: v161 :: v162 :: v163 :: v164 :: v165 :: v166 :: v167 :: v168 :: v169 :: []).toArray,[]⟩ W) :
  Code.wp Tryz.prog (regS 6) (Exit.then KK Q) ⟨(v0 :: .pointer (some ⟨P,0,none⟩) :: v2 :: .int .i64 (j:Int) :: v4 :: v5 :: v6 :: v7 :: v8 :: v9 :: v10 :: v11 :: v12 :: v13 :: v14 :: v15 :: v16 :: v17 :: v18 :: v19 :: v20 :: v21 :: v22 :: v23 :: v24 :: v25 :: v26 :: v27 :: v28 :: v29 :: v30 :: v31 :: v32 :: v33 :: v34 :: v35 :: v36 :: v37 :: v38 :: v39 :: v40 :: v41 :: v42 :: v43 :: v44 :: v45 :: v46 :: v47 :: v48 :: v49 :: v50 :: v51 :: v52 :: v53 :: v54 :: v55 :: v56 :: v57 :: v58 :: v59 :: v60 :: v61 :: v62 :: v63 :: v64 :: v65 :: v66 :: v67 :: v68 :: v69 :: v70 :: v71 :: v72 :: v73 :: v74 :: v75 :: v76 :: v77 :: v78 :: v79 :: v80 :: v81 :: v82 :: v83 :: v84 :: v85 :: v86 :: v87 :: v88 :: v89 :: v90 :: v91 :: v92 :: v93 :: v94 :: v95 :: v96 :: v97 :: v98 :: v99 :: v100 :: v101 :: v102 :: v103 :: v104 :: v105 :: v106 :: v107 :: v108 :: v109 :: v110 :: v111 :: v112 :: v113 :: v114 :: v115 :: v116 :: v117 :: v118 :: v119 :: v120 :: v121 :: v122 :: v123 :: v124 :: v125 :: v126 :: v127 :: v128 :: v129 :: v130 :: v131 :: v132 :: v133 :: v134 :: v135 :: v136 :: v137 :: v138 :: v139 :: v140 :: v141 :: v142 :: v143 :: v144 :: v145 :: v146 :: v147 :: v148 :: v149 :: v150 :: v151 :: v152 :: v153 :: v154 :: v155 :: v156 :: v157 :: v158 :: v159 :: v160 :: v161 :: v162 :: v163 :: v164 :: v165 :: v166 :: v167 :: v168 :: v169 :: []).toArray,[]⟩ w:=by
 have j1:(j:Int) < (n0:Int):=by omega
 have j0:(0:Int)≤(j:Int):=by omega
 have j2:(j:Int).toNat=j:=by omega
 have HK:=hide hKK
 have HBD:=hide (show Below w.heap.size w w.drew from (Below.refl _ _).drew)
 clear hKK
 have HC:=hide hC
 have HSS:=hide hS
 have k3:(j:Int) - 1 < (n0:Int):=by omega
 have k4:(0:Int)≤(j:Int) - 1:=by omega
 have k4' : (1:Int)≤(j:Int):=by omega
 have k5:((j:Int) - 1).toNat=j - 1:=by omega
 have k6:IntKind.i64.wrap ((j:Int) - 1)=(j:Int) - 1:=IntWalk.i64_in _ (by omega)
 have k7:0 < j:=hj0
 have k8:(0:Int) < (j:Int):=by omega
 clear hC hS hj0
 conv=>arg 2; whnf
 go_region_held3 (fun W:World=>W.cell? ⟨P,0,none⟩=some (.slice (some ⟨be,oe,none⟩) n0 c0)∧W.cell? ⟨be,oe + j * 9,none⟩=some (.slice Be0 n0_ de0)∧W.cell? ⟨be,oe + j * 9 + 1,none⟩=some (.int .i64 kd)∧W.cell? ⟨be,oe + j * 9 + 2,none⟩=some (.int .i64 tk)∧W.cell? ⟨be,oe + j * 9 + 3,none⟩=some (.slice Be3 n3_ de3)∧W.cell? ⟨be,oe + j * 9 + 4,none⟩=some (.slice Be4 n4_ de4)∧W.cell? ⟨be,oe + j * 9 + 5,none⟩=some (.slice Be5 n5_ de5)∧W.cell? ⟨be,oe + j * 9 + 6,none⟩=some (.slice Be6 n6_ de6)∧W.cell? ⟨be,oe + j * 9 + 7,none⟩=some (.slice Be7 n7_ de7)∧W.cell? ⟨be,oe + j * 9 + 8,none⟩=some (.slice Be8 n8_ de8)∧W.cell? ⟨be,oe + (j - 1) * 9,none⟩=some (.slice Bp0 np_ dp0)∧(convert 39 9 (.slice Be0 n0_ de0)).run Tryz.prog W=.ok (.string S1) W∧(convert 39 9 (.slice Bp0 np_ dp0)).run Tryz.prog W=.ok (.string S0) W)
  (first
   | exact HSS.out _ HB3.out
   | exact HSS.out _ HBD.out
   | go_keep)
  (first
   | (go_simp; go_at_call 110; refine HC.out.mono ?_; rintro e w3 ⟨rfl,b3⟩; have HB3:=hide (HBD.out.trans b3); clear b3))
 all_goals
  exact HK.out _ _ _ _ _ _ _ _ _ _ _ _ _ _ _ _ _ _ _ _ _ _ _ _ _ _ _ _ _ HB3.out
end Go.Proofs.YtgaadpkefncnmaaGreatDoor
