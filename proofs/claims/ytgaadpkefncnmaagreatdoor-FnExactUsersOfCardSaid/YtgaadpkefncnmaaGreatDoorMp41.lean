/-
  Parts of the proof: ObjI3.
-/
import Derived.Test.YtgaadpkefncnmaaGreatDoorMp19
import Derived.Test.YtgaadpkefncnmaaGreatDoorMp0
import Derived.Test.YtgaadpkefncnmaaGreatDoorMp27
import Derived.Laws.BytesArg
import Derived.IntWalk
import Derived.Deep.QuietTactic
import Derived.BigQuiet
import Derived.Deep.Cut
import Derived.Deep.DeepCutAuto
import Derived.Deep.CutBlock
import Derived.Deep.RegionWith
import Derived.Deep.RegionHeld3
/-
  The program's ObjOk.
-/
namespace Go.Proofs.YtgaadpkefncnmaaGreatDoor
open Go.RowKit
set_option linter.unusedVariables false
set_option linter.unusedSimpArgs false
theorem outNm_byt (a b:List Int):Byt (outNm a b):=by
 unfold outNm
 split
 ·exact nameOf_byt _ _
 ·exact fun x hx=>by cases hx
theorem objNm_byt (o:DObj) (_:oks o.cells):Byt (objNm o):=by
 unfold objNm
 split
 ·exact outNm_byt _ _
 ·split
  ·split
   ·exact nameOf_byt _ _
   ·split
    ·exact nameOf_byt _ _
    ·exact fun x hx=>by cases hx
  ·exact fun x hx=>by cases hx
set_option maxRecDepth 20000 in
set_option maxHeartbeats 1600000 in
theorem implObjOk (o:DObj) (hok:oks o.cells) (hbk:bulks o.cells≤1048576) (us:List Value) (w:World) (hs:Ins w o.cells us) (hTb:Tab w) :
  Calls Tryz.prog 116 #[.agg us.toArray] w fun e w'=>e=.returned (.bool (objOk o))∧Below w.heap.size w w':=by
 have hsx:=hs
 obtain ⟨A0,c0,A3,c3,A4,c4,A5,c5,A6,c6,A7,c7,A8,c8,rfl,h0,h3,h4,h5,h6,h7,h8⟩:=DObj.view hs
 obtain ⟨wa,hwa⟩:∃ wa,w.alloc (.cells #[.slice A0 o.name.length c0,.int .i64 o.kind,.int .i64 o.tree.kind,.slice A3 o.tree.data.length c3,.slice A4 o.tree.names.length c4,.slice A5 o.tree.kids.length c5,.slice A6 o.refs.length c6,.slice A7 o.frm.length c7,.slice A8 o.out.length c8] 49)=wa:=⟨_,rfl⟩
 have ba:Below w.heap.size w wa:=by rw [← hwa]; exact (Below.refl _ _).alloc (Nat.le_refl _) _
 have bx:Box wa w.heap.size 49 [.slice A0 o.name.length c0,.int .i64 o.kind,.int .i64 o.tree.kind,.slice A3 o.tree.data.length c3,.slice A4 o.tree.names.length c4,.slice A5 o.tree.kids.length c5,.slice A6 o.refs.length c6,.slice A7 o.frm.length c7,.slice A8 o.out.length c8]:=by rw [← hwa]; exact Box.new w _ _
 have hz:w.heap.size < wa.heap.size:=bx.lt
 obtain ⟨hb0,hkr,htr,hb6,hb7,hb8⟩:=(DObj.oks_iff o).1 hok
 have hbk2:=bulk_Obj o
 have hby:=T.byts_of _ htr
 have hT:=(obj_tree h3 h4 h5).below ba
 have hD:=(h3.step ba).rd
 have hF:=(h7.step ba).rd
 have hO:=(h8.step ba).rd
 have x0:=bx.cell (j:=0) rfl
 have x1:=bx.cell (j:=1) rfl
 have x2:=bx.cell (j:=2) rfl
 have x3:=bx.cell (j:=3) rfl
 have x4:=bx.cell (j:=4) rfl
 have x5:=bx.cell (j:=5) rfl
 have x6:=bx.cell (j:=6) rfl
 have x7:=bx.cell (j:=7) rfl
 have x8:=bx.cell (j:=8) rfl
 have HBX:=hide (fun W (hb:Below wa.heap.size wa W)=>bx.step hb)
 have HBA:=hide ba
 have hc1:=fun W (hb:Below wa.heap.size wa W)=>implTreeOk o.tree hby _ W (hT.below hb)
 have hc2:=fun (ht:treeOk o.tree=true) W (hb:Below wa.heap.size wa W)=>implRefsFit o hok hbk ht _ W (hsx.step (ba.trans (hb.mono ba.size)))
 have hc3:=fun W (hb:Below wa.heap.size wa W)=>implNameOk o.name hb0 _ W ((h0.step (ba.trans (hb.mono ba.size))).rd) (by omega)
 have hc4:=fun (ht:treeOk o.tree=true) W (hb:Below wa.heap.size wa W)=>implObjNm o hok hbk ht _ W (hsx.step (ba.trans (hb.mono ba.size))) (hTb.step (ba.trans (hb.mono ba.size)))
 have hc5:=fun v W (hb:Below wa.heap.size wa W) (hB:Byt (objNm o)) (hv:Rd W v (bs (objNm o)))=>bytesEq o.name (objNm o) hb0 hB _ v W ((h0.step (ba.trans (hb.mono ba.size))).rd) hv
 have hnb:Byt (objNm o):=objNm_byt o hok
 have HC1:=hide hc1
 have HC2:=hide hc2
 have HC3:=hide hc3
 have HC4:=hide hc4
 have HC5:=hide hc5
 have HNB:=hide hnb
 have HDF:=hide (objOk_prog o)
 have HBD:=hide (show Below wa.heap.size wa wa.drew from (Below.refl _ _).drew)
 have HSS:Hid (∀ W,Below wa.heap.size wa W→(fun W:World=>W.cell? ⟨w.heap.size,0,none⟩=some (.slice A0 o.name.length c0)∧W.cell? ⟨w.heap.size,1,none⟩=some (.int .i64 o.kind)∧W.cell? ⟨w.heap.size,2,none⟩=some (.int .i64 o.tree.kind)∧W.cell? ⟨w.heap.size,3,none⟩=some (.slice A3 o.tree.data.length c3)∧W.cell? ⟨w.heap.size,4,none⟩=some (.slice A4 o.tree.names.length c4)∧W.cell? ⟨w.heap.size,5,none⟩=some (.slice A5 o.tree.kids.length c5)∧W.cell? ⟨w.heap.size,6,none⟩=some (.slice A6 o.refs.length c6)∧W.cell? ⟨w.heap.size,7,none⟩=some (.slice A7 o.frm.length c7)∧W.cell? ⟨w.heap.size,8,none⟩=some (.slice A8 o.out.length c8)) W):=hide (fun W hb=>⟨(HBX.out W hb).cell (j:=0) rfl,(HBX.out W hb).cell (j:=1) rfl,(HBX.out W hb).cell (j:=2) rfl,(HBX.out W hb).cell (j:=3) rfl,(HBX.out W hb).cell (j:=4) rfl,(HBX.out W hb).cell (j:=5) rfl,(HBX.out W hb).cell (j:=6) rfl,(HBX.out W hb).cell (j:=7) rfl,(HBX.out W hb).cell (j:=8) rfl⟩)
 have hund:undef=Value.tuple #[]:=rfl
 clear bx ba hs h0 h3 h4 h5 h6 h7 h8 hT hD hF hO hok hby hTb hbk hbk2 hkr htr hb0 hb6 hb7 hb8 hc1 hc2 hc3 hc4 hc5 hsx hnb
 cases h1:treeOk o.tree with
 | false =>
   have HR:=hide (show objOk o=false by rw [HDF.out,h1]; rfl)
   have hc:=HC1.out _ HBD.out
   rw [h1] at hc
   have HC:=hide hc
   clear hc h1
   go_enter Tryz.func116,Tryz.ntmps116
   go_upto_region 1 with (fail)
   have hund:undef=Value.tuple #[]:=rfl
   refine wp_region_any (by kernel_rfl) ?_
   try (change wpAny _ _ _ _ _ _ _ (World.drew _))
   refine wpAny_take (i:=0) (v:=.pointer (some ⟨w.heap.size,2,none⟩)) rfl (by kernel_rfl) (by kernel_rfl) (by kernel_rfl) (fun _ _ _ h=>h) (Or.inl ⟨by kernel_rfl,by intro w; go_simp⟩) ?_
   go_simp
   refine wpAny_ready (rs:=[1]) (by kernel_rfl) (by simp) ?_
   refine AllReady.cons rfl (fun K hK=>?_) AllReady.nil
   go_simp
   refine hK _ _ ?_
   clear hK K
   refine wpAny_ready (rs:=[2]) (by kernel_rfl) (by simp) ?_
   refine AllReady.cons rfl (fun K hK=>?_) AllReady.nil
   go_simp
   go_wp2_with ((go_at_call 164; refine HC.out.mono ?_; rintro e w1 ⟨rfl,b1⟩))
   try (refine hK _ _ ?_; clear hK K)
   refine wpAny_take (i:=3) (v:=.bool false) rfl (by kernel_rfl) (by kernel_rfl) (by kernel_rfl) (fun _ _ _ h=>h) (Or.inl ⟨by kernel_rfl,by intro w; go_simp⟩) ?_
   go_simp
   refine wpAny_take (i:=4) (v:=undef) rfl (by kernel_rfl) (by kernel_rfl) (by kernel_rfl) (fun _ _ _ h=>h) (Or.inr ⟨by kernel_rfl,rfl⟩) ?_
   go_simp
   refine wpAny_take (i:=5) (v:=undef) rfl (by kernel_rfl) (by kernel_rfl) (by kernel_rfl) (fun _ _ _ h=>h) (Or.inr ⟨by kernel_rfl,rfl⟩) ?_
   go_simp
   refine wpAny_take (i:=6) (v:=.bool false) rfl (by kernel_rfl) (by kernel_rfl) (by kernel_rfl) (fun _ _ _ h=>h) (Or.inl ⟨by kernel_rfl,by intro w; go_simp⟩) ?_
   go_simp
   refine wpAny_take (i:=7) (v:=.bool false) rfl (by kernel_rfl) (by kernel_rfl) (by kernel_rfl) (fun _ _ _ h=>h) (Or.inl ⟨by kernel_rfl,by intro w; go_simp⟩) ?_
   go_simp
   refine wpAny_take (i:=8) (v:=undef) rfl (by kernel_rfl) (by kernel_rfl) (by kernel_rfl) (fun _ _ _ h=>h) (Or.inr ⟨by kernel_rfl,rfl⟩) ?_
   go_simp
   refine wpAny_take (i:=9) (v:=undef) rfl (by kernel_rfl) (by kernel_rfl) (by kernel_rfl) (fun _ _ _ h=>h) (Or.inr ⟨by kernel_rfl,rfl⟩) ?_
   go_simp
   refine wpAny_take (i:=10) (v:=undef) rfl (by kernel_rfl) (by kernel_rfl) (by kernel_rfl) (fun _ _ _ h=>h) (Or.inr ⟨by kernel_rfl,rfl⟩) ?_
   go_simp
   refine wpAny_take (i:=11) (v:=.bool false) rfl (by kernel_rfl) (by kernel_rfl) (by kernel_rfl) (fun _ _ _ h=>h) (Or.inl ⟨by kernel_rfl,by intro w; go_simp⟩) ?_
   go_simp
   refine wpAny_take (i:=12) (v:=.bool false) rfl (by kernel_rfl) (by kernel_rfl) (by kernel_rfl) (fun _ _ _ h=>h) (Or.inl ⟨by kernel_rfl,by intro w; go_simp⟩) ?_
   go_simp
   refine wpAny_take (i:=13) (v:=undef) rfl (by kernel_rfl) (by kernel_rfl) (by kernel_rfl) (fun _ _ _ h=>h) (Or.inr ⟨by kernel_rfl,rfl⟩) ?_
   go_simp
   refine wpAny_take (i:=14) (v:=undef) rfl (by kernel_rfl) (by kernel_rfl) (by kernel_rfl) (fun _ _ _ h=>h) (Or.inr ⟨by kernel_rfl,rfl⟩) ?_
   go_simp
   refine wpAny_take (i:=15) (v:=undef) rfl (by kernel_rfl) (by kernel_rfl) (by kernel_rfl) (fun _ _ _ h=>h) (Or.inr ⟨by kernel_rfl,rfl⟩) ?_
   go_simp
   refine wpAny_take (i:=16) (v:=undef) rfl (by kernel_rfl) (by kernel_rfl) (by kernel_rfl) (fun _ _ _ h=>h) (Or.inr ⟨by kernel_rfl,rfl⟩) ?_
   go_simp
   refine wpAny_take (i:=17) (v:=undef) rfl (by kernel_rfl) (by kernel_rfl) (by kernel_rfl) (fun _ _ _ h=>h) (Or.inr ⟨by kernel_rfl,rfl⟩) ?_
   go_simp
   refine wpAny_take (i:=18) (v:=.bool false) rfl (by kernel_rfl) (by kernel_rfl) (by kernel_rfl) (fun _ _ _ h=>h) (Or.inl ⟨by kernel_rfl,by intro w; go_simp⟩) ?_
   go_simp
   refine wpAny_take (i:=19) (v:=.bool false) rfl (by kernel_rfl) (by kernel_rfl) (by kernel_rfl) (fun _ _ _ h=>h) (Or.inl ⟨by kernel_rfl,by intro w; go_simp⟩) ?_
   go_simp
   refine wpAny_done (by kernel_rfl) ?_ _
   go_wp2
   go_ret
   exact ⟨ret_bool HR.out.symm,HBA.out.trans ((HBD.out.trans (b1.mono HBD.out.size)).mono HBA.out.size)⟩
 | true =>
   have HC2:=hide (HC2.out h1)
   have HC4:=hide (HC4.out h1)
   have hc:=HC1.out _ HBD.out
   rw [h1] at hc
   have HC:=hide hc
   have HDF:=hide (show objOk o=(refsFit o && (nameOk o.name && decide (objNm o=o.name))) by rw [HDF.out,h1]; rfl)
   clear hc h1
   cases h2:refsFit o with
   | false =>
     have HR:=hide (show objOk o=false by rw [HDF.out,h2]; rfl)
     have HC2:=hide (fun W hb=>h2 ▸ HC2.out W hb)
     clear h2
     go_enter Tryz.func116,Tryz.ntmps116
     go_upto_region 1 with (fail)
     have hund:undef=Value.tuple #[]:=rfl
     refine wp_region_any (by kernel_rfl) ?_
     try (change wpAny _ _ _ _ _ _ _ (World.drew _))
     refine wpAny_take (i:=0) (v:=.pointer (some ⟨w.heap.size,2,none⟩)) rfl (by kernel_rfl) (by kernel_rfl) (by kernel_rfl) (fun _ _ _ h=>h) (Or.inl ⟨by kernel_rfl,by intro w; go_simp⟩) ?_
     go_simp
     refine wpAny_ready (rs:=[1]) (by kernel_rfl) (by simp) ?_
     refine AllReady.cons rfl (fun K hK=>?_) AllReady.nil
     go_simp
     refine hK _ _ ?_
     clear hK K
     refine wpAny_ready (rs:=[2]) (by kernel_rfl) (by simp) ?_
     refine AllReady.cons rfl (fun K hK=>?_) AllReady.nil
     go_simp
     go_wp2_with ((go_at_call 164; refine HC.out.mono ?_; rintro e w1 ⟨rfl,b1⟩); have HB1:=hide (HBD.out.trans (b1.mono HBD.out.size)); have hss1:=HSS.out w1 HB1.out; obtain ⟨z0,z1,z2,z3,z4,z5,z6,z7,z8⟩:=hss1)
     try (refine hK _ _ ?_; clear hK K)
     refine wpAny_take (i:=3) (v:=.bool true) rfl (by kernel_rfl) (by kernel_rfl) (by kernel_rfl) (fun _ _ _ h=>h) (Or.inl ⟨by kernel_rfl,by intro w; go_simp⟩) ?_
     go_simp
     refine wpAny_ready (rs:=[4]) (by kernel_rfl) (by simp) ?_
     refine AllReady.cons rfl (fun K hK=>?_) AllReady.nil
     go_simp
     refine hK _ _ ?_
     clear hK K
     refine wpAny_ready (rs:=[5]) (by kernel_rfl) (by simp) ?_
     refine AllReady.cons rfl (fun K hK=>?_) AllReady.nil
     go_simp
     go_wp2_with ((go_at_call 165; refine (HC2.out _ HB1.out).mono ?_; rintro e w2 ⟨rfl,b2⟩))
     try (refine hK _ _ ?_; clear hK K)
     refine wpAny_take (i:=6) (v:=.bool false) rfl (by kernel_rfl) (by kernel_rfl) (by kernel_rfl) (fun _ _ _ h=>h) (Or.inl ⟨by kernel_rfl,by intro w; go_simp⟩) ?_
     go_simp
     refine wpAny_take (i:=7) (v:=.bool false) rfl (by kernel_rfl) (by kernel_rfl) (by kernel_rfl) (fun _ _ _ h=>h) (Or.inl ⟨by kernel_rfl,by intro w; go_simp⟩) ?_
     go_simp
     refine wpAny_take (i:=8) (v:=undef) rfl (by kernel_rfl) (by kernel_rfl) (by kernel_rfl) (fun _ _ _ h=>h) (Or.inr ⟨by kernel_rfl,rfl⟩) ?_
     go_simp
     refine wpAny_take (i:=9) (v:=undef) rfl (by kernel_rfl) (by kernel_rfl) (by kernel_rfl) (fun _ _ _ h=>h) (Or.inr ⟨by kernel_rfl,rfl⟩) ?_
     go_simp
     refine wpAny_take (i:=10) (v:=undef) rfl (by kernel_rfl) (by kernel_rfl) (by kernel_rfl) (fun _ _ _ h=>h) (Or.inr ⟨by kernel_rfl,rfl⟩) ?_
     go_simp
     refine wpAny_take (i:=11) (v:=.bool false) rfl (by kernel_rfl) (by kernel_rfl) (by kernel_rfl) (fun _ _ _ h=>h) (Or.inl ⟨by kernel_rfl,by intro w; go_simp⟩) ?_
     go_simp
     refine wpAny_take (i:=12) (v:=.bool false) rfl (by kernel_rfl) (by kernel_rfl) (by kernel_rfl) (fun _ _ _ h=>h) (Or.inl ⟨by kernel_rfl,by intro w; go_simp⟩) ?_
     go_simp
     refine wpAny_take (i:=13) (v:=undef) rfl (by kernel_rfl) (by kernel_rfl) (by kernel_rfl) (fun _ _ _ h=>h) (Or.inr ⟨by kernel_rfl,rfl⟩) ?_
     go_simp
     refine wpAny_take (i:=14) (v:=undef) rfl (by kernel_rfl) (by kernel_rfl) (by kernel_rfl) (fun _ _ _ h=>h) (Or.inr ⟨by kernel_rfl,rfl⟩) ?_
     go_simp
     refine wpAny_take (i:=15) (v:=undef) rfl (by kernel_rfl) (by kernel_rfl) (by kernel_rfl) (fun _ _ _ h=>h) (Or.inr ⟨by kernel_rfl,rfl⟩) ?_
     go_simp
     refine wpAny_take (i:=16) (v:=undef) rfl (by kernel_rfl) (by kernel_rfl) (by kernel_rfl) (fun _ _ _ h=>h) (Or.inr ⟨by kernel_rfl,rfl⟩) ?_
     go_simp
     refine wpAny_take (i:=17) (v:=undef) rfl (by kernel_rfl) (by kernel_rfl) (by kernel_rfl) (fun _ _ _ h=>h) (Or.inr ⟨by kernel_rfl,rfl⟩) ?_
     go_simp
     refine wpAny_take (i:=18) (v:=.bool false) rfl (by kernel_rfl) (by kernel_rfl) (by kernel_rfl) (fun _ _ _ h=>h) (Or.inl ⟨by kernel_rfl,by intro w; go_simp⟩) ?_
     go_simp
     refine wpAny_take (i:=19) (v:=.bool false) rfl (by kernel_rfl) (by kernel_rfl) (by kernel_rfl) (fun _ _ _ h=>h) (Or.inl ⟨by kernel_rfl,by intro w; go_simp⟩) ?_
     go_simp
     refine wpAny_done (by kernel_rfl) ?_ _
     go_wp2
     go_ret
     exact ⟨ret_bool HR.out.symm,HBA.out.trans ((HB1.out.trans (b2.mono HB1.out.size)).mono HBA.out.size)⟩
   | true =>
     have HDF:=hide (show objOk o=(nameOk o.name && decide (objNm o=o.name)) by rw [HDF.out,h2]; rfl)
     have HC2:=hide (fun W hb=>h2 ▸ HC2.out W hb)
     clear h2
     cases h3:nameOk o.name with
     | false =>
       have HR:=hide (show objOk o=false by rw [HDF.out,h3]; rfl)
       have HC3:=hide (fun W hb=>h3 ▸ HC3.out W hb)
       clear h3
       go_enter Tryz.func116,Tryz.ntmps116
       go_upto_region 1 with (fail)
       have hund:undef=Value.tuple #[]:=rfl
       refine wp_region_any (by kernel_rfl) ?_
       try (change wpAny _ _ _ _ _ _ _ (World.drew _))
       refine wpAny_take (i:=0) (v:=.pointer (some ⟨w.heap.size,2,none⟩)) rfl (by kernel_rfl) (by kernel_rfl) (by kernel_rfl) (fun _ _ _ h=>h) (Or.inl ⟨by kernel_rfl,by intro w; go_simp⟩) ?_
       go_simp
       refine wpAny_ready (rs:=[1]) (by kernel_rfl) (by simp) ?_
       refine AllReady.cons rfl (fun K hK=>?_) AllReady.nil
       go_simp
       refine hK _ _ ?_
       clear hK K
       refine wpAny_ready (rs:=[2]) (by kernel_rfl) (by simp) ?_
       refine AllReady.cons rfl (fun K hK=>?_) AllReady.nil
       go_simp
       go_wp2_with ((go_at_call 164; refine HC.out.mono ?_; rintro e w1 ⟨rfl,b1⟩); have HB1:=hide (HBD.out.trans (b1.mono HBD.out.size)); have hss1:=HSS.out w1 HB1.out; obtain ⟨z0,z1,z2,z3,z4,z5,z6,z7,z8⟩:=hss1)
       try (refine hK _ _ ?_; clear hK K)
       refine wpAny_take (i:=3) (v:=.bool true) rfl (by kernel_rfl) (by kernel_rfl) (by kernel_rfl) (fun _ _ _ h=>h) (Or.inl ⟨by kernel_rfl,by intro w; go_simp⟩) ?_
       go_simp
       refine wpAny_ready (rs:=[4]) (by kernel_rfl) (by simp) ?_
       refine AllReady.cons rfl (fun K hK=>?_) AllReady.nil
       go_simp
       refine hK _ _ ?_
       clear hK K
       refine wpAny_ready (rs:=[5]) (by kernel_rfl) (by simp) ?_
       refine AllReady.cons rfl (fun K hK=>?_) AllReady.nil
       go_simp
       go_wp2_with ((go_at_call 165; refine (HC2.out _ HB1.out).mono ?_; rintro e w2 ⟨rfl,b2⟩); have HB2:=hide (HB1.out.trans (b2.mono HB1.out.size)); have hss2:=(HSS.out w2 HB2.out).1)
       try (refine hK _ _ ?_; clear hK K)
       refine wpAny_take (i:=6) (v:=.bool true) rfl (by kernel_rfl) (by kernel_rfl) (by kernel_rfl) (fun _ _ _ h=>h) (Or.inl ⟨by kernel_rfl,by intro w; go_simp⟩) ?_
       go_simp
       refine wpAny_take (i:=7) (v:=.bool true) rfl (by kernel_rfl) (by kernel_rfl) (by kernel_rfl) (fun _ _ _ h=>h) (Or.inl ⟨by kernel_rfl,by intro w; go_simp⟩) ?_
       go_simp
       refine wpAny_take (i:=8) (v:=.pointer (some ⟨w.heap.size,0,none⟩)) rfl (by kernel_rfl) (by kernel_rfl) (by kernel_rfl) (fun _ _ _ h=>h) (Or.inl ⟨by kernel_rfl,by intro w; go_simp⟩) ?_
       go_simp
       refine wpAny_ready (rs:=[9]) (by kernel_rfl) (by simp) ?_
       refine AllReady.cons rfl (fun K hK=>?_) AllReady.nil
       go_simp
       refine hK _ _ ?_
       clear hK K
       refine wpAny_ready (rs:=[10]) (by kernel_rfl) (by simp) ?_
       refine AllReady.cons rfl (fun K hK=>?_) AllReady.nil
       go_simp
       go_wp2_with ((go_at_call 166; refine (HC3.out _ HB2.out).mono ?_; rintro e w3 ⟨rfl,b3⟩))
       try (refine hK _ _ ?_; clear hK K)
       refine wpAny_take (i:=11) (v:=.bool false) rfl (by kernel_rfl) (by kernel_rfl) (by kernel_rfl) (fun _ _ _ h=>h) (Or.inl ⟨by kernel_rfl,by intro w; go_simp⟩) ?_
       go_simp
       refine wpAny_take (i:=12) (v:=.bool false) rfl (by kernel_rfl) (by kernel_rfl) (by kernel_rfl) (fun _ _ _ h=>h) (Or.inl ⟨by kernel_rfl,by intro w; go_simp⟩) ?_
       go_simp
       refine wpAny_take (i:=13) (v:=undef) rfl (by kernel_rfl) (by kernel_rfl) (by kernel_rfl) (fun _ _ _ h=>h) (Or.inr ⟨by kernel_rfl,rfl⟩) ?_
       go_simp
       refine wpAny_take (i:=14) (v:=undef) rfl (by kernel_rfl) (by kernel_rfl) (by kernel_rfl) (fun _ _ _ h=>h) (Or.inr ⟨by kernel_rfl,rfl⟩) ?_
       go_simp
       refine wpAny_take (i:=15) (v:=undef) rfl (by kernel_rfl) (by kernel_rfl) (by kernel_rfl) (fun _ _ _ h=>h) (Or.inr ⟨by kernel_rfl,rfl⟩) ?_
       go_simp
       refine wpAny_take (i:=16) (v:=undef) rfl (by kernel_rfl) (by kernel_rfl) (by kernel_rfl) (fun _ _ _ h=>h) (Or.inr ⟨by kernel_rfl,rfl⟩) ?_
       go_simp
       refine wpAny_take (i:=17) (v:=undef) rfl (by kernel_rfl) (by kernel_rfl) (by kernel_rfl) (fun _ _ _ h=>h) (Or.inr ⟨by kernel_rfl,rfl⟩) ?_
       go_simp
       refine wpAny_take (i:=18) (v:=.bool false) rfl (by kernel_rfl) (by kernel_rfl) (by kernel_rfl) (fun _ _ _ h=>h) (Or.inl ⟨by kernel_rfl,by intro w; go_simp⟩) ?_
       go_simp
       refine wpAny_take (i:=19) (v:=.bool false) rfl (by kernel_rfl) (by kernel_rfl) (by kernel_rfl) (fun _ _ _ h=>h) (Or.inl ⟨by kernel_rfl,by intro w; go_simp⟩) ?_
       go_simp
       refine wpAny_done (by kernel_rfl) ?_ _
       go_wp2
       go_ret
       exact ⟨ret_bool HR.out.symm,HBA.out.trans ((HB2.out.trans (b3.mono HB2.out.size)).mono HBA.out.size)⟩
     | true =>
       have HR:=hide (show objOk o=decide (o.name=objNm o) by
        rw [HDF.out,h3,Bool.true_and]
        exact decide_eq_decide.2 ⟨Eq.symm,Eq.symm⟩)
       have HC3:=hide (fun W hb=>h3 ▸ HC3.out W hb)
       clear h3
       go_enter Tryz.func116,Tryz.ntmps116
       go_upto_region 1 with (fail)
       first
        | go_region_held3 (fun W:World=>W.cell? ⟨w.heap.size,0,none⟩=some (.slice A0 o.name.length c0)∧W.cell? ⟨w.heap.size,1,none⟩=some (.int .i64 o.kind)∧W.cell? ⟨w.heap.size,2,none⟩=some (.int .i64 o.tree.kind)∧W.cell? ⟨w.heap.size,3,none⟩=some (.slice A3 o.tree.data.length c3)∧W.cell? ⟨w.heap.size,4,none⟩=some (.slice A4 o.tree.names.length c4)∧W.cell? ⟨w.heap.size,5,none⟩=some (.slice A5 o.tree.kids.length c5)∧W.cell? ⟨w.heap.size,6,none⟩=some (.slice A6 o.refs.length c6)∧W.cell? ⟨w.heap.size,7,none⟩=some (.slice A7 o.frm.length c7)∧W.cell? ⟨w.heap.size,8,none⟩=some (.slice A8 o.out.length c8))
          (first
           | exact HSS.out _ HB4.out
           | exact HSS.out _ HB3.out
           | exact HSS.out _ HB2.out
           | exact HSS.out _ HB1.out
           | exact HSS.out _ HBD.out
           | go_keep)
          (first
           | (go_simp; go_at_call 164; refine HC.out.mono ?_; rintro e w1 ⟨rfl,b1⟩; have HB1:=hide (HBD.out.trans (b1.mono HBD.out.size)); clear b1)
           | (go_simp; go_at_call 165; refine (HC2.out _ HB1.out).mono ?_; rintro e w2 ⟨rfl,b2⟩; have HB2:=hide (HB1.out.trans (b2.mono HB1.out.size)); clear b2)
           | (go_simp; go_at_call 166; refine (HC3.out _ HB2.out).mono ?_; rintro e w3 ⟨rfl,b3⟩; have HB3:=hide (HB2.out.trans (b3.mono HB2.out.size)); clear b3)
           | (go_simp; go_at_call 167; refine (HC4.out _ HB3.out).mono ?_; rintro e w4 ⟨v4,rfl,o4,b4⟩; have HB4:=hide (HB3.out.trans (b4.mono HB3.out.size)); have r4:=o4.rd; clear o4 b4)
           | (go_simp; go_at_call 157; refine (HC5.out _ _ HB4.out HNB.out r4).mono ?_; rintro e w5 ⟨rfl,rfl⟩))
        | fail "region"
       all_goals
        go_wp2
        go_ret
        exact ⟨ret_bool HR.out.symm,HBA.out.trans (HB4.out.mono HBA.out.size)⟩
end Go.Proofs.YtgaadpkefncnmaaGreatDoor
