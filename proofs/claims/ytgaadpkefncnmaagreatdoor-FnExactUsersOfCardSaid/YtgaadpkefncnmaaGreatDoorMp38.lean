/-
  Parts of the proof: StoSP.
-/
import Derived.Test.YtgaadpkefncnmaaGreatDoorMp29
import Derived.Laws.BytesArg
import Derived.IntWalk
import Derived.Deep.QuietTactic
import Derived.BigQuiet
import Derived.Deep.Cut
import Derived.Deep.DeepCutAuto
import Derived.Deep.CutBlock
import Derived.Deep.RegionWith
import Derived.Deep.RegionHeld3
/-
  The first drawn region of the model's StoreOk's loop over objects, case P.
-/
namespace Go.Proofs.YtgaadpkefncnmaaGreatDoor
open Go.RowKit
set_option linter.unusedVariables false
set_option linter.unusedSimpArgs false
set_option maxRecDepth 20000 in
set_option maxHeartbeats 6400000 in
theorem reg6P {v0 v2 v4 v5 v6 v7 v8 v9 v10 v11 v12 v13 v14 v15 v16 v17 v18 v19 v20 v21 v22 v23 v24 v25 v26 v27 v28 v29 v30 v31 v32 v33 v34 v35 v36 v37 v38 v39 v40 v41 v42 v43 v44 v45 v46 v47 v48 v49 v50 v51 v52 v53 v54 v55 v56 v57 v58 v59 v60 v61 v62 v63 v64 v65 v66 v67 v68 v69 v70 v71 v72 v73 v74 v75 v76 v77 v78 v79 v80 v81 v82 v83 v84 v85 v86 v87 v88 v89 v90 v91 v92 v93 v94 v95 v96 v97 v98 v99 v100 v101 v102 v103 v104 v105 v106 v107 v108 v109 v110 v111 v112 v113 v114 v115 v116 v117 v118 v119 v120 v121 v122 v123 v124 v125 v126 v127 v128 v129 v130 v131 v132 v133 v134 v135 v136 v137 v138 v139 v140 v141 v142 v143 v144 v145 v146 v147 v148 v149 v150 v151 v152 v153 v154 v155 v156 v157 v158 v159 v160 v161 v162 v163 v164 v165 v166 v167 v168 v169:Value} {P:Nat} {j:Nat} (w:World) (n0 c0 be oe:Nat) (kd tk:Int) (Be0:Option Addr) (n0_ de0:Nat) (Be3:Option Addr) (n3_ de3:Nat) (Be4:Option Addr) (n4_ de4:Nat) (Be5:Option Addr) (n5_ de5:Nat) (Be6:Option Addr) (n6_ de6:Nat) (Be7:Option Addr) (n7_ de7:Nat) (Be8:Option Addr) (n8_ de8:Nat)
  (hj:j < n0) (hn0:n0≤1048576)
  (y0:w.cell? ⟨P,0,none⟩=some (.slice (some ⟨be,oe,none⟩) n0 c0)) (y1:w.cell? ⟨be,oe + j * 9,none⟩=some (.slice Be0 n0_ de0)) (y2:w.cell? ⟨be,oe + j * 9 + 1,none⟩=some (.int .i64 kd)) (y3:w.cell? ⟨be,oe + j * 9 + 2,none⟩=some (.int .i64 tk)) (y4:w.cell? ⟨be,oe + j * 9 + 3,none⟩=some (.slice Be3 n3_ de3)) (y5:w.cell? ⟨be,oe + j * 9 + 4,none⟩=some (.slice Be4 n4_ de4)) (y6:w.cell? ⟨be,oe + j * 9 + 5,none⟩=some (.slice Be5 n5_ de5)) (y7:w.cell? ⟨be,oe + j * 9 + 6,none⟩=some (.slice Be6 n6_ de6)) (y8:w.cell? ⟨be,oe + j * 9 + 7,none⟩=some (.slice Be7 n7_ de7)) (y9:w.cell? ⟨be,oe + j * 9 + 8,none⟩=some (.slice Be8 n8_ de8))
  (hC:Calls Tryz.prog 110 #[.agg #[.slice Be0 n0_ de0,.int .i64 kd,.int .i64 tk,.slice Be3 n3_ de3,.slice Be4 n4_ de4,.slice Be5 n5_ de5,.slice Be6 n6_ de6,.slice Be7 n7_ de7,.slice Be8 n8_ de8]] w.drew fun e w'=>e=.returned (.bool false)∧Below w.drew.heap.size w.drew w')
  (KK:Act→World→Prop) (Q:Exit→Act→World→Prop) (hQ:∀ p (a:Act) (d:Option Tmp) (v:Value) W,Q (Exit.panic p) (a.put d v) W→Q (Exit.panic p) a W) (hKK:∀ (x32 x33 x34 x35 x36 x37 x38 x39 x40 x41 x42 x43 x44 x45 x46 x47 x48 x49 x50 x51 x52 x53 x54 x55 x56 x57 x58 x59:Value) (W:World),Below w.heap.size w W→KK ⟨(v0 :: .pointer (some ⟨P,0,none⟩) :: v2 :: .int .i64 (j:Int) :: v4 :: v5 :: v6 :: v7 :: v8 :: v9 :: v10 :: v11 :: v12 :: v13 :: v14 :: v15 :: v16 :: v17 :: v18 :: v19 :: v20 :: v21 :: v22 :: v23 :: v24 :: v25 :: v26 :: v27 :: v28 :: v29 :: v30 :: v31 :: x32 :: x33 :: x34 :: x35 :: x36 :: x37 :: x38 :: x39 :: x40 :: x41 :: x42 :: x43 :: x44 :: x45 :: x46 :: x47 :: x48 :: x49 :: x50 :: x51 :: x52 :: x53 :: x54 :: x55 :: x56 :: x57 :: x58 :: x59 :: .bool true :: v61 :: v62 :: v63 :: v64 :: v65 :: v66 :: v67 :: v68 :: v69 :: v70 :: v71 :: v72 :: v73 :: v74 :: v75 :: v76 :: v77 :: v78 :: v79 :: v80 :: v81 :: v82 :: v83 :: v84 :: v85 :: v86 :: v87 :: v88 :: v89 :: v90 :: v91 :: v92 :: v93 :: v94 :: v95 :: v96 :: v97 :: v98 :: v99 :: v100 :: v101 :: v102 :: v103 :: v104 :: v105 :: v106 :: v107 :: v108 :: v109 :: v110 :: v111 :: v112 :: v113 :: v114 :: v115 :: v116 :: v117 :: v118 :: v119 :: v120 :: v121 :: v122 :: v123 :: v124 :: v125 :: v126 :: v127 :: v128 :: v129 :: v130 :: v131 :: v132 :: v133 :: v134 :: v135 :: v136 :: v137 :: v138 :: v139 :: v140 :: v141 :: v142 :: v143 :: v144 :: v145 :: v146 :: v147 :: v148 :: v149 :: v150 :: v151 :: v152 :: v153 :: v154 :: v155 :: v156 :: v157 :: v158 :: v159 :: v160 :: v161 :: v162 :: v163 :: v164 :: v165 :: v166 :: v167 :: v168 :: v169 :: []).toArray,[]⟩ W) :
  Code.wp Tryz.prog (regS 6) (Exit.then KK Q) ⟨(v0 :: .pointer (some ⟨P,0,none⟩) :: v2 :: .int .i64 (j:Int) :: v4 :: v5 :: v6 :: v7 :: v8 :: v9 :: v10 :: v11 :: v12 :: v13 :: v14 :: v15 :: v16 :: v17 :: v18 :: v19 :: v20 :: v21 :: v22 :: v23 :: v24 :: v25 :: v26 :: v27 :: v28 :: v29 :: v30 :: v31 :: v32 :: v33 :: v34 :: v35 :: v36 :: v37 :: v38 :: v39 :: v40 :: v41 :: v42 :: v43 :: v44 :: v45 :: v46 :: v47 :: v48 :: v49 :: v50 :: v51 :: v52 :: v53 :: v54 :: v55 :: v56 :: v57 :: v58 :: v59 :: v60 :: v61 :: v62 :: v63 :: v64 :: v65 :: v66 :: v67 :: v68 :: v69 :: v70 :: v71 :: v72 :: v73 :: v74 :: v75 :: v76 :: v77 :: v78 :: v79 :: v80 :: v81 :: v82 :: v83 :: v84 :: v85 :: v86 :: v87 :: v88 :: v89 :: v90 :: v91 :: v92 :: v93 :: v94 :: v95 :: v96 :: v97 :: v98 :: v99 :: v100 :: v101 :: v102 :: v103 :: v104 :: v105 :: v106 :: v107 :: v108 :: v109 :: v110 :: v111 :: v112 :: v113 :: v114 :: v115 :: v116 :: v117 :: v118 :: v119 :: v120 :: v121 :: v122 :: v123 :: v124 :: v125 :: v126 :: v127 :: v128 :: v129 :: v130 :: v131 :: v132 :: v133 :: v134 :: v135 :: v136 :: v137 :: v138 :: v139 :: v140 :: v141 :: v142 :: v143 :: v144 :: v145 :: v146 :: v147 :: v148 :: v149 :: v150 :: v151 :: v152 :: v153 :: v154 :: v155 :: v156 :: v157 :: v158 :: v159 :: v160 :: v161 :: v162 :: v163 :: v164 :: v165 :: v166 :: v167 :: v168 :: v169 :: []).toArray,[]⟩ w:=by
 have j1:(j:Int) < (n0:Int):=by omega
 have j0:(0:Int)≤(j:Int):=by omega
 have j2:(j:Int).toNat=j:=by omega
 have HK:=hide hKK
 have HBD:=hide (show Below w.heap.size w w.drew from (Below.refl _ _).drew)
 clear hKK
 have HC:=hide hC
 have hund:undef=Value.tuple #[]:=rfl
 clear hC
 conv=>arg 2; whnf
 refine wp_region_any (by kernel_rfl) ?_
 try (change wpAny _ _ _ _ _ _ _ (World.drew _))
 refine wpAny_take (i:=0) (v:=.pointer (some ⟨P,0,none⟩)) rfl (by kernel_rfl) (by kernel_rfl) (by kernel_rfl) (fun _ _ _ h=>hQ _ _ _ _ _ h) (Or.inl ⟨by kernel_rfl,by intro w; go_simp⟩) ?_
 go_simp
 refine wpAny_take (i:=2) (v:=.int .i64 (j:Int)) rfl (by kernel_rfl) (by kernel_rfl) (by kernel_rfl) (fun _ _ _ h=>hQ _ _ _ _ _ h) (Or.inl ⟨by kernel_rfl,by intro w; go_simp⟩) ?_
 go_simp
 refine wpAny_ready (rs:=[1]) (by kernel_rfl) (by simp) ?_
 refine AllReady.cons rfl (fun K hK=>?_) AllReady.nil
 go_simp
 refine hK _ _ ?_
 clear hK K
 refine wpAny_take (i:=3) (v:=.pointer (some ⟨be,oe + j * 9,none⟩)) rfl (by kernel_rfl) (by kernel_rfl) (by kernel_rfl) (fun _ _ _ h=>hQ _ _ _ _ _ h) (Or.inl ⟨by kernel_rfl,by intro w; go_simp⟩) ?_
 go_simp
 refine wpAny_ready (rs:=[4]) (by kernel_rfl) (by simp) ?_
 refine AllReady.cons rfl (fun K hK=>?_) AllReady.nil
 go_simp
 refine hK _ _ ?_
 clear hK K
 refine wpAny_ready (rs:=[5]) (by kernel_rfl) (by simp) ?_
 refine AllReady.cons rfl (fun K hK=>?_) AllReady.nil
 go_simp
 go_wp2_with (go_at_call 110; refine HC.out.mono ?_; rintro e w3 ⟨rfl,b3⟩; have HB3:=hide (HBD.out.trans b3); clear b3)
 try (refine hK _ _ ?_; clear hK K)
 refine wpAny_take (i:=6) (v:=.bool true) rfl (by kernel_rfl) (by kernel_rfl) (by kernel_rfl) (fun _ _ _ h=>hQ _ _ _ _ _ h) (Or.inl ⟨by kernel_rfl,by intro w; go_simp⟩) ?_
 go_simp
 refine wpAny_take (i:=7) (v:=.bool true) rfl (by kernel_rfl) (by kernel_rfl) (by kernel_rfl) (fun _ _ _ h=>hQ _ _ _ _ _ h) (Or.inl ⟨by kernel_rfl,by intro w; go_simp⟩) ?_
 go_simp
 refine wpAny_take (i:=8) (v:=undef) rfl (by kernel_rfl) (by kernel_rfl) (by kernel_rfl) (fun _ _ _ h=>hQ _ _ _ _ _ h) (Or.inr ⟨by kernel_rfl,rfl⟩) ?_
 go_simp
 refine wpAny_take (i:=9) (v:=undef) rfl (by kernel_rfl) (by kernel_rfl) (by kernel_rfl) (fun _ _ _ h=>hQ _ _ _ _ _ h) (Or.inr ⟨by kernel_rfl,rfl⟩) ?_
 go_simp
 refine wpAny_take (i:=10) (v:=undef) rfl (by kernel_rfl) (by kernel_rfl) (by kernel_rfl) (fun _ _ _ h=>hQ _ _ _ _ _ h) (Or.inr ⟨by kernel_rfl,rfl⟩) ?_
 go_simp
 refine wpAny_take (i:=11) (v:=undef) rfl (by kernel_rfl) (by kernel_rfl) (by kernel_rfl) (fun _ _ _ h=>hQ _ _ _ _ _ h) (Or.inr ⟨by kernel_rfl,rfl⟩) ?_
 go_simp
 refine wpAny_take (i:=12) (v:=undef) rfl (by kernel_rfl) (by kernel_rfl) (by kernel_rfl) (fun _ _ _ h=>hQ _ _ _ _ _ h) (Or.inr ⟨by kernel_rfl,rfl⟩) ?_
 go_simp
 refine wpAny_take (i:=13) (v:=undef) rfl (by kernel_rfl) (by kernel_rfl) (by kernel_rfl) (fun _ _ _ h=>hQ _ _ _ _ _ h) (Or.inr ⟨by kernel_rfl,rfl⟩) ?_
 go_simp
 refine wpAny_take (i:=14) (v:=undef) rfl (by kernel_rfl) (by kernel_rfl) (by kernel_rfl) (fun _ _ _ h=>hQ _ _ _ _ _ h) (Or.inr ⟨by kernel_rfl,rfl⟩) ?_
 go_simp
 refine wpAny_take (i:=15) (v:=undef) rfl (by kernel_rfl) (by kernel_rfl) (by kernel_rfl) (fun _ _ _ h=>hQ _ _ _ _ _ h) (Or.inr ⟨by kernel_rfl,rfl⟩) ?_
 go_simp
 refine wpAny_take (i:=16) (v:=undef) rfl (by kernel_rfl) (by kernel_rfl) (by kernel_rfl) (fun _ _ _ h=>hQ _ _ _ _ _ h) (Or.inr ⟨by kernel_rfl,rfl⟩) ?_
 go_simp
 refine wpAny_take (i:=17) (v:=undef) rfl (by kernel_rfl) (by kernel_rfl) (by kernel_rfl) (fun _ _ _ h=>hQ _ _ _ _ _ h) (Or.inr ⟨by kernel_rfl,rfl⟩) ?_
 go_simp
 refine wpAny_take (i:=18) (v:=undef) rfl (by kernel_rfl) (by kernel_rfl) (by kernel_rfl) (fun _ _ _ h=>hQ _ _ _ _ _ h) (Or.inr ⟨by kernel_rfl,rfl⟩) ?_
 go_simp
 refine wpAny_take (i:=19) (v:=undef) rfl (by kernel_rfl) (by kernel_rfl) (by kernel_rfl) (fun _ _ _ h=>hQ _ _ _ _ _ h) (Or.inr ⟨by kernel_rfl,rfl⟩) ?_
 go_simp
 refine wpAny_take (i:=20) (v:=undef) rfl (by kernel_rfl) (by kernel_rfl) (by kernel_rfl) (fun _ _ _ h=>hQ _ _ _ _ _ h) (Or.inr ⟨by kernel_rfl,rfl⟩) ?_
 go_simp
 refine wpAny_take (i:=21) (v:=undef) rfl (by kernel_rfl) (by kernel_rfl) (by kernel_rfl) (fun _ _ _ h=>hQ _ _ _ _ _ h) (Or.inr ⟨by kernel_rfl,rfl⟩) ?_
 go_simp
 refine wpAny_take (i:=22) (v:=undef) rfl (by kernel_rfl) (by kernel_rfl) (by kernel_rfl) (fun _ _ _ h=>hQ _ _ _ _ _ h) (Or.inr ⟨by kernel_rfl,rfl⟩) ?_
 go_simp
 refine wpAny_take (i:=23) (v:=undef) rfl (by kernel_rfl) (by kernel_rfl) (by kernel_rfl) (fun _ _ _ h=>hQ _ _ _ _ _ h) (Or.inr ⟨by kernel_rfl,rfl⟩) ?_
 go_simp
 refine wpAny_take (i:=24) (v:=undef) rfl (by kernel_rfl) (by kernel_rfl) (by kernel_rfl) (fun _ _ _ h=>hQ _ _ _ _ _ h) (Or.inr ⟨by kernel_rfl,rfl⟩) ?_
 go_simp
 refine wpAny_take (i:=25) (v:=undef) rfl (by kernel_rfl) (by kernel_rfl) (by kernel_rfl) (fun _ _ _ h=>hQ _ _ _ _ _ h) (Or.inr ⟨by kernel_rfl,rfl⟩) ?_
 go_simp
 refine wpAny_take (i:=26) (v:=undef) rfl (by kernel_rfl) (by kernel_rfl) (by kernel_rfl) (fun _ _ _ h=>hQ _ _ _ _ _ h) (Or.inr ⟨by kernel_rfl,rfl⟩) ?_
 go_simp
 refine wpAny_take (i:=27) (v:=undef) rfl (by kernel_rfl) (by kernel_rfl) (by kernel_rfl) (fun _ _ _ h=>hQ _ _ _ _ _ h) (Or.inr ⟨by kernel_rfl,rfl⟩) ?_
 go_simp
 refine wpAny_take (i:=28) (v:=.bool true) rfl (by kernel_rfl) (by kernel_rfl) (by kernel_rfl) (fun _ _ _ h=>hQ _ _ _ _ _ h) (Or.inl ⟨by kernel_rfl,by intro w; go_simp⟩) ?_
 go_simp
 refine wpAny_done (by kernel_rfl) ?_ _
 exact HK.out _ _ _ _ _ _ _ _ _ _ _ _ _ _ _ _ _ _ _ _ _ _ _ _ _ _ _ _ _ HB3.out
end Go.Proofs.YtgaadpkefncnmaaGreatDoor
