/-
  Parts of the proof: UsersOfProof.
-/
import Derived.Test.YtgaadpkefncnmaaGreatDoorMp54
import Derived.Test.YtgaadpkefncnmaaGreatDoorMp19
import Derived.Test.YtgaadpkefncnmaaGreatDoorMp2
import Derived.Test.YtgaadpkefncnmaaGreatDoorMp1
/-
  The law FnExactUsersOf holds at every input, where the table of the program holds what its declaration says; what its arguments and the table hold is as it was. (The row's step is by the guide's own way.)
-/
namespace Go.Proofs.YtgaadpkefncnmaaGreatDoor.fnExactUsersOf
open Go.ChangeShapes Go.WideShapes Go.ChangeAt Go.RowKit
open Go.ChangeMaps (open_string shut_string)
set_option linter.unusedVariables false
set_option maxRecDepth 100000 in
theorem contract (H:Type) (enc:TypeId × Value→H) (W:World) (base:Nat) (args:Array Value) (ds gs:List (DataW H)) (before:List MemPlace)
  (hval0:∀ (j:Nat) t v,Tryz.f5.params[j]? = some t→args[j]? = some v→Value.okWide Tryz.prog W .any base t v)
  (hW:DataW.Whole enc Tryz.prog Tryz.f5.params.toList Rows.fnExactUsersOfSpec.vars false W args.toList ds gs before) (hL:laidMetH Tryz.prog Rows.fnExactUsersOfRow.laid W) :
  Calls Tryz.prog 5 args W fun e W'=>∃ v,e=.returned v∧Rows.fnExactUsersOfSpec.post enc Tryz.prog Tryz.f5 false true false false W args v W':=by
 have hval:=hval0
 have hW':=hW
 obtain ⟨p,q,hA0,hV,rfl,hfz,hnd⟩:=hW
 have hA:DataW.TrodAll enc Tryz.prog W 0 (fun _=>true) true Tryz.f5.params.toList args.toList ds p:=hA0
 rw [Tryz.params5] at hA hval
 obtain ⟨v0,vs0,d0,ds0,p0,q0,hargs,rfl,rfl,h0,r0⟩:=trodAll_cons hA
 obtain ⟨v1,vs1,d1,ds1,p1,q1,rfl,rfl,rfl,h1,r1⟩:=trodAll_cons r0
 obtain ⟨rfl,rfl,rfl⟩:=trodAll_nil r1
 obtain rfl:args=#[v0,v1]:=by cases args; simp_all
 obtain ⟨_,_,_,_,g1,_,rfl,_,_,_,_,_⟩:=trodVars_one hV
 have k0:=h0
 have lt0:∀ x∈p0,x.block < W.heap.size:=by obtain ⟨m,hm⟩:=k0; exact DataW.trod_lt m _ _ _ hm
 obtain ⟨cs0,rfl,hsz0⟩:=okWide_struct Tryz.underlying26 (hval 0 26 v0 rfl rfl)
 obtain ⟨x0,o0,E0,w0⟩:∃ x:DStore,oks x.cells∧∃ F,Lies W x.cells cs0.toList F:=by
  obtain ⟨fuel,hf⟩:=h0
  have:=Store_of_trod fuel _ _ hf
  simpa [Value.cells] using this
 have k1:=h1
 have lt1:∀ x∈p1,x.block < W.heap.size:=by obtain ⟨m,hm⟩:=k1; exact DataW.trod_lt m _ _ _ hm
 obtain ⟨a1,len1,cap1,rfl⟩:=okWide_slice Tryz.underlying39 (hval 1 39 v1 rfl rfl)
 obtain ⟨x1,o1,E1,w1⟩:∃ x,(raw x).ok∧∃ F,Lie W (raw x) (.slice a1 len1 cap1) F:=by
  obtain ⟨fuel,hf⟩:=h1
  have hf2:=hf
  simp only [Value.cells] at hf2
  exact raw_of_trod hf2
 clear hA0 hval0
 refine (lawUsersOf x0 o0 x1 o1 W cs0.toList E0 w0 _ E1 w1 (tab_of_laid hL)).mono fun e W' ⟨he,bel⟩=>?_
 subst he
 exact ⟨_,rfl,_,_,_,[],_,_,hW',trodAll_mk1 (shut_bool Tryz.underlying4 _),(trodAll_cons_mk (Below.trod laidOut (by kernel_rfl) (of_decide_eq_true (by kernel_rfl)) k0 bel lt0) (trodAll_cons_mk (Below.trod laidOut (by kernel_rfl) (of_decide_eq_true (by kernel_rfl)) k1 bel lt1) trodAll_mk0)),Below.trodVars laidOut bel (by kernel_rfl) hV,bel.frame _,fun h=>by cases h⟩
theorem reads (os:Os) {H:Type} (enc:TypeId × Value→H):∃ y,DataW.whole enc Tryz.prog ((laidWorld os).forCall (fun _ _=>0) ⟨#[],#[.agg #[.slice none 0 0,.slice none 0 0,.slice none 0 0],.slice none 0 0],[]⟩).memory Tryz.f5.params.toList Rows.fnExactUsersOfSpec.vars false (#[.agg #[.slice none 0 0,.slice none 0 0,.slice none 0 0],.slice none 0 0]:Array Value).toList 8=some y :=
 Option.isSome_iff_exists.1 (by kernel_rfl)
set_option maxRecDepth 100000 in
theorem lifted (os:Os) (started:os.Started) (H:Type) (enc:TypeId × Value→H) (F:Stop.Interp) :
  ReturnsInHanded {} Tryz.checked os 5 .any ((OpenSpec.ofChange Rows.fnExactUsersOfSpec).preRow enc Tryz.prog Tryz.f5 Rows.fnExactUsersOfRow.domain false Rows.fnExactUsersOfRow.laid) (((OpenSpec.ofChange Rows.fnExactUsersOfSpec).at F).post enc Tryz.prog Tryz.f5 false true false false):=by
 obtain ⟨y,hx⟩:=reads os enc
 refine returnsInHanded_of_row (C:=Tryz.checked) (s:=OpenSpec.ofChange Rows.fnExactUsersOfSpec) own started (by kernel_rfl) Tryz.func5
  (witness_row_at (enc:=enc) (C:=Tryz.checked) false (laidWorld os) #[.agg #[.slice none 0 0,.slice none 0 0,.slice none 0 0],.slice none 0 0] rfl (by kernel_rfl) (by kernel_rfl) (by kernel_rfl)
    (OpenSpec.preRow_of_cond 8 hx rfl (fun k hk=>by cases hk) (by kernel_rfl) (laid_met os _))) ?_
 intro W base args ds gs before hval hW _ _ _ hL _ _
 exact contract H enc W base args ds gs before hval hW hL
theorem k1:Rows.fnExactUsersOfRow.wf (OpenSpec.ofChange Rows.fnExactUsersOfSpec)=true:=by kernel_rfl
theorem k4:(Tryz.f5.params.all (Tryz.prog.readableRec ·))=true:=by kernel_rfl
theorem k5:namedTie Tryz.prog Rows.fnExactUsersOfRow.named Rows.fnExactUsersOfSpec.vars=true:=by kernel_rfl
theorem k6:(Rows.fnExactUsersOfRow.stops == [])=true:=by kernel_rfl
theorem k8:(Rows.fnExactUsersOfRow.knobs == [])=true:=by kernel_rfl
theorem k10:(Rows.fnExactUsersOfRow.inPlace == Tryz.prog.inPlace 5)=true:=by kernel_rfl
theorem k11:(Rows.fnExactUsersOfRow.unfollowed == Tryz.prog.unfollowed 5)=true:=by kernel_rfl
theorem k12:(Rows.fnExactUsersOfRow.recurses == Tryz.prog.recurses 5)=true:=by kernel_rfl
theorem k13:(Rows.fnExactUsersOfRow.named == Tryz.prog.varsNamed 5)=true:=by kernel_rfl
theorem k14:(Rows.fnExactUsersOfRow.maps == (Tryz.f5.params.toList++Rows.fnExactUsersOfSpec.plain.varTypes Tryz.prog).any (Tryz.prog.mapsRec ·))=true:=by kernel_rfl
theorem k15:(Rows.fnExactUsersOfRow.ifaces == (Tryz.f5.params.toList++Rows.fnExactUsersOfSpec.plain.varTypes Tryz.prog).any (Tryz.prog.ifacesRec ·))=true:=by kernel_rfl
theorem k16:(Rows.fnExactUsersOfRow.mapsOut == Tryz.prog.mapsAmong Tryz.f5.resultTypes.toList)=true:=by kernel_rfl
theorem k17:(Rows.fnExactUsersOfRow.loops == (Tryz.f5.params.toList++Rows.fnExactUsersOfSpec.plain.varTypes Tryz.prog).any (Tryz.prog.loopsFrom ·))=true:=by kernel_rfl
theorem k18:(Rows.fnExactUsersOfRow.wideKeys == (Tryz.f5.params.toList++Rows.fnExactUsersOfSpec.plain.varTypes Tryz.prog++Tryz.f5.resultTypes.toList).any (Tryz.prog.wideKeysFrom ·))=true:=by kernel_rfl
theorem k19:(Rows.fnExactUsersOfSpec.vars.all (Tryz.prog.varReadable ·))=true:=by kernel_rfl
theorem k20:(Tryz.f5.resultTypes.all (fun t=>Tryz.prog.readableRec t && decide (t < Tryz.prog.types.size)))=true:=by kernel_rfl
theorem k21:(Rows.fnExactUsersOfRow.ifacesOut == Tryz.f5.resultTypes.toList.any (Tryz.prog.ifacesRec ·))=true:=by kernel_rfl
theorem k22:(Rows.fnExactUsersOfRow.loopsOut == Tryz.f5.resultTypes.toList.any (Tryz.prog.loopsFrom ·))=true:=by kernel_rfl
theorem k23:(Rows.fnExactUsersOfRow.plainKeys == Tryz.prog.plainKeys)=true:=by rw [fact23]; kernel_rfl
theorem k24:Rows.fnExactUsersOfRow.shortTexts.isNone=true:=by kernel_rfl
theorem k27:(Rows.fnExactUsersOfRow.lifted == Tryz.prog.liftsFinal)=true:=by kernel_rfl
theorem k28:(Tryz.prog.make == some Rows.fnExactUsersOfRow.make)=true:=by kernel_rfl
theorem k29:(Rows.fnExactUsersOfRow.kinds == (if Rows.fnExactUsersOfRow.domain.isEmpty then [] else Tryz.f5.params.toList.map fun t=>match Tryz.prog.underlying t with | some (.int k)=>some k | _=>none))=true:=by kernel_rfl
theorem k30:(Rows.fnExactUsersOfRow.pinned == Rows.fnExactUsersOfRow.pinnedBy)=true:=by kernel_rfl
theorem k31:(Rows.fnExactUsersOfRow.veiled == (Tryz.f5.params.toList++Rows.fnExactUsersOfSpec.plain.varTypes Tryz.prog++Tryz.f5.resultTypes.toList).any (Tryz.prog.veiledRec ·))=true:=by kernel_rfl
theorem k32:Rows.fnExactUsersOfRow.veiledFits Tryz.prog Tryz.f5.params.toList (Tryz.f5.params.toList++Rows.fnExactUsersOfSpec.plain.varTypes Tryz.prog++Tryz.f5.resultTypes.toList)=true:=by kernel_rfl
set_option maxRecDepth 100000 in
theorem closed:joinedFacts Tryz.prog 5 Tryz.f5 Rows.fnExactUsersOfSpec Rows.fnExactUsersOfRow=true:=by
 unfold joinedFacts
 exact band (band (band (band (band (band (band (band (band (band (band (band (band (band (band (band (band (band (band (band (band (band (band (band (band (band (band (band (band (band (band k1 laidOut) fact3) k4) k5) k6) fact7) k8) fact9) k10) k11) k12) k13) k14) k15) k16) k17) k18) k19) k20) k21) k22) k23) k24) fact25) fact26) k27) k28) k29) k30) k31) k32
theorem named:Tryz.pinned.checked.prog.funcNamed Rows.fnExactUsersOfRow.func=some 5:=by kernel_rfl
set_option maxRecDepth 100000 in
theorem inst:Tryz.f5.isInstance Tryz.pinned.checked.prog Rows.fnExactUsersOfRow.origin Rows.fnExactUsersOfRow.targs:=of_decide_eq_true (by kernel_rfl)
set_option maxRecDepth 100000 in
theorem wrap:Tryz.f5.isWrapper Tryz.pinned.checked.prog Rows.fnExactUsersOfRow.wrapper Rows.fnExactUsersOfRow.mainSum:=by unfold Func.isWrapper; first | (rw [if_pos (by decide +kernel)]; kernel_rfl) | (rw [if_neg (by decide +kernel)]; exact ⟨rfl,rfl⟩)
set_option maxRecDepth 100000 in
theorem said:Rows.FnExactUsersOfSaid :=
 OpenClaim.holds_of_cond 5 Tryz.f5 rfl rfl rfl rfl rfl rfl rfl ⟨rfl,rfl,rfl,rfl,rfl⟩ rfl rfl rfl rfl rfl named Tryz.func5 closed inst wrap
  (fun os started H enc _ F=>by rw [OpenClaim.pre_eq_preRow]; exact lifted os started H enc F)
/-- No parameter wants a stand-in; the program's own looks are off. -/
theorem plain (f:FuncId) (fn:Func) (hf:Tryz.pinned.checked.prog.funcNamed "loop.example/g00538/laws.FnExactUsersOf" = some f) (hfn:Tryz.pinned.checked.prog.funcs[f]? = some fn) :
  true=Tryz.pinned.checked.prog.looks []∧∀ (j:Nat) t,fn.params[j]? = some t→Tryz.pinned.checked.prog.wantsStandIn t=false:=by
 obtain rfl:f=5:=Option.some.inj ((show Tryz.prog.funcNamed "loop.example/g00538/laws.FnExactUsersOf" = some 5 by kernel_rfl).symm.trans hf) |>.symm
 obtain rfl:fn=Tryz.f5:=(Option.some.inj (Tryz.func5.symm.trans hfn)).symm
 refine ⟨factLooks,fun j t ht=>?_⟩
 rw [Tryz.params5] at ht
 have hm:t∈[26,39]:=by simpa using Array.mem_of_getElem? ht
 have hall:([26,39].all fun u=>!Tryz.prog.wantsStandIn u)=true:=by kernel_rfl
 exact (show Tryz.prog.wantsStandIn t=false by simpa using List.all_eq_true.1 hall t hm)
theorem wft:Rows.fnExactUsersOfRow.wfByText (OpenSpec.ofChange Rows.fnExactUsersOfSpec)=true:=by kernel_rfl
theorem main_:Tryz.pinned.checked.prog.mainIs=some ((Rows.fnExactUsersOfCard.stood.harness).1,(Rows.fnExactUsersOfCard.stood.harness).2.toList):=by kernel_rfl
theorem goes:false=Rows.fnExactUsersOfRow.goesBy Tryz.pinned.checked.prog:=by kernel_rfl
/-- The statement: the card. -/
theorem proved:Rows.FnExactUsersOfCardSaid :=
 Claim7.holds_tied_plain_at .later [] _ _ _ _ said (fun _ h=>by cases h) wft (fun _ h=>by cases h) fnExactUsersOf_row_tie rfl ⟨rfl,rfl⟩ main_ rfl plain goes
end Go.Proofs.YtgaadpkefncnmaaGreatDoor.fnExactUsersOf
