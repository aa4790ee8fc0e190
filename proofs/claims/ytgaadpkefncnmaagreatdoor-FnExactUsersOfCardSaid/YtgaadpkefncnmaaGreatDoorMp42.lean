/-
  Parts of the proof: AscO.
-/
import Derived.Test.YtgaadpkefncnmaaGreatDoorMp41
import Derived.Test.YtgaadpkefncnmaaGreatDoorMp29
import Derived.Test.YtgaadpkefncnmaaGreatDoorMp1
import Derived.Laws.BytesArg
import Derived.IntWalk
import Derived.Deep.QuietTactic
import Derived.BigQuiet
import Derived.Deep.Cut
import Derived.Deep.DeepCutAuto
import Derived.Deep.CutBlock
import Derived.Deep.RegionWith
import Derived.Deep.RegionHeld3
/-
  ascend over objects.
-/
namespace Go.Proofs.YtgaadpkefncnmaaGreatDoor
open Go.RowKit
set_option linter.unusedVariables false
set_option linter.unusedSimpArgs false
set_option maxRecDepth 20000 in
set_option maxHeartbeats 6400000 in
theorem ascendO (l:List DObj) (hok:∀ x∈l,oks x.cells) (hbi:∀ x∈l,bulks x.cells≤1048576) (A:Option Addr) (n c:Nat) (hn:l.length=n) (hn2:n≤1048576) (w:World) (hs:In1 w (seqOf 9 DObj.cells l) (.slice A n c)) (hTb:Tab w) :
  Calls Tryz.prog 115 #[.slice A n c,.func (.func 116) #[] #[],.func (.func 117) #[] #[]] w fun e w'=>e=.returned (.bool (objsAsc l))∧Below w.heap.size w w':=by
 obtain ⟨R,hR⟩:∃ R,objsAsc l=R:=⟨_,rfl⟩
 rw [hR]
 have HR:=hide hR
 have HN:=hide hn
 have HS:=hide hs
 have HOK:=hide hok
 have HBI:=hide hbi
 clear hR hn hs hok hbi
 go_enter Tryz.func115,Tryz.ntmps115
 go_wp2
 go_loopw [11] (fun i wr=>∃ k:Nat,k≤n∧i=.int .i64 k∧Hid (∀ m,m < k→objAscAt l m=true)∧Hid (Below w.heap.size w wr)) (fun i _=>n - (intOf i).toNat)
 case atStart=>exact ⟨0,Nat.zero_le _,rfl,hide (fun m hm=>by omega),hide (Below.refl _ _)⟩
 case round =>
  obtain ⟨k,hk,rfl,HXX,HB⟩:=hrel
  by_cases hlt:k < n
  ·have hk2:k < l.length:=by rw [HN.out]; exact hlt
   have k1:(k:Int) < (n:Int):=by omega
   have k0:(0:Int)≤(k:Int):=by omega
   have k2_:(k:Int).toNat=k:=by omega
   obtain ⟨b,of,cc,B0,d0,B3,d3,B4,d4,B5,d5,B6,d6,B7,d7,B8,d8,-,e,lb,q0,q1,q2,q3,q4,q5,q6,q7,q8,i0,i3,i4,i5,i6,i7,i8⟩:=DObj.elem HS.out HB.out hk2
   obtain rfl:=e rfl
   have hok_:=HOK.out _ (List.getElem_mem hk2)
   have hle_:=HBI.out _ (List.getElem_mem hk2)
   have q0_:=q0
   have q1_:=q1
   have q2_:=q2
   have q3_:=q3
   have q4_:=q4
   have q5_:=q5
   have q6_:=q6
   have q7_:=q7
   have q8_:=q8
   have hl0:=i0
   have hl3:=i3
   have hl4:=i4
   have hl5:=i5
   have hl6:=i6
   have hl7:=i7
   have hl8:=i8
   obtain ⟨L0,hL0⟩:∃ x,(l[k]).name.length=x:=⟨_,rfl⟩
   obtain ⟨L1,hL1⟩:∃ x,(l[k]).kind=x:=⟨_,rfl⟩
   obtain ⟨L2,hL2⟩:∃ x,(l[k]).tree.kind=x:=⟨_,rfl⟩
   obtain ⟨L3,hL3⟩:∃ x,(l[k]).tree.data.length=x:=⟨_,rfl⟩
   obtain ⟨L4,hL4⟩:∃ x,(l[k]).tree.names.length=x:=⟨_,rfl⟩
   obtain ⟨L5,hL5⟩:∃ x,(l[k]).tree.kids.length=x:=⟨_,rfl⟩
   obtain ⟨L6,hL6⟩:∃ x,(l[k]).refs.length=x:=⟨_,rfl⟩
   obtain ⟨L7,hL7⟩:∃ x,(l[k]).frm.length=x:=⟨_,rfl⟩
   obtain ⟨L8,hL8⟩:∃ x,(l[k]).out.length=x:=⟨_,rfl⟩
   obtain ⟨V,hV⟩:∃ V,objOk l[k]=V:=⟨_,rfl⟩
   have hin:=fun W (hb:Below w.heap.size w W)=>implObjOk l[k] hok_ hle_ _ W (DObj.lay (i0.step hb) (i3.step hb) (i4.step hb) (i5.step hb) (i6.step hb) (i7.step hb) (i8.step hb)) (hTb.step hb)
   rw [hV] at hin
   rw [hL0] at q0
   rw [hL0] at hl0
   rw [hL0] at hin
   rw [hL1] at q1
   rw [hL1] at hin
   rw [hL2] at q2
   rw [hL2] at hin
   rw [hL3] at q3
   rw [hL3] at hl3
   rw [hL3] at hin
   rw [hL4] at q4
   rw [hL4] at hl4
   rw [hL4] at hin
   rw [hL5] at q5
   rw [hL5] at hl5
   rw [hL5] at hin
   rw [hL6] at q6
   rw [hL6] at hl6
   rw [hL6] at hin
   rw [hL7] at q7
   rw [hL7] at hl7
   rw [hL7] at hin
   rw [hL8] at q8
   rw [hL8] at hl8
   rw [hL8] at hin
   obtain ⟨wi,hwi⟩:∃ W,wr.alloc (.cells #[.slice B0 L0 d0,.int .i64 L1,.int .i64 L2,.slice B3 L3 d3,.slice B4 L4 d4,.slice B5 L5 d5,.slice B6 L6 d6,.slice B7 L7 d7,.slice B8 L8 d8] 49)=W:=⟨_,rfl⟩
   have hbw:Below wr.heap.size wr wi:=by rw [← hwi]; exact (Below.refl _ _).alloc (Nat.le_refl _) _
   have hbx:Box wi wr.heap.size 49 [.slice B0 L0 d0,.int .i64 L1,.int .i64 L2,.slice B3 L3 d3,.slice B4 L4 d4,.slice B5 L5 d5,.slice B6 L6 d6,.slice B7 L7 d7,.slice B8 L8 d8]:=by rw [← hwi]; exact Box.new wr _ _
   have HBX:=hide (fun W (hb:Below wi.heap.size wi W)=>hbx.step hb)
   have HBW:=hide (HB.out.trans (hbw.mono HB.out.size))
   have HBD:=hide (HBW.out.drew)
   have HIN:=hide (hin _ HBD.out)
   have HVV:=hide hV
   have HOKK:=hide hok_
   have HLE:=hide hle_
   have p0:=hbx.cell (j:=0) rfl
   have p1:=hbx.cell (j:=1) rfl
   have p2:=hbx.cell (j:=2) rfl
   have p3:=hbx.cell (j:=3) rfl
   have p4:=hbx.cell (j:=4) rfl
   have p5:=hbx.cell (j:=5) rfl
   have p6:=hbx.cell (j:=6) rfl
   have p7:=hbx.cell (j:=7) rfl
   have p8:=hbx.cell (j:=8) rfl
   have HL0:=hide hl0
   have HL3:=hide hl3
   have HL4:=hide hl4
   have HL5:=hide hl5
   have HL6:=hide hl6
   have HL7:=hide hl7
   have HL8:=hide hl8
   have HWD:=hide (show Below wi.heap.size wi wi.drew from (Below.refl _ _).drew)
   have HLQ0:=hide hL0
   have HLQ1:=hide hL1
   have HLQ2:=hide hL2
   have HLQ3:=hide hL3
   have HLQ4:=hide hL4
   have HLQ5:=hide hL5
   have HLQ6:=hide hL6
   have HLQ7:=hide hL7
   have HLQ8:=hide hL8
   clear hok_ hle_ hV hin hbw hbx hL0 q0_ hL1 q1_ hL2 q2_ hL3 q3_ hL4 q4_ hL5 q5_ hL6 q6_ hL7 q7_ hL8 q8_ hl0 i0 hl3 i3 hl4 i4 hl5 i5 hl6 i6 hl7 i7 hl8 i8
   obtain ⟨C,hC⟩:∃ C,objAscAt l k=C:=⟨_,rfl⟩
   have HCC:=hide hC
   clear hC
   have hund:undef=Value.tuple #[]:=rfl
   go_upto_region 4 with (fail)
   go_cut [34] (fun v wx=>v=.bool (!C)∧Hid (Below w.heap.size w wx))
   case first =>
    cases V with
    | false =>
      have HCF:=hide (show C=false by rw [← HCC.out,objAscAt_eq hk2,HVV.out]; rfl)
      refine wp_region_any (by kernel_rfl) ?_
      try (change wpAny _ _ _ _ _ _ _ (World.drew _))
      refine wpAny_take (i:=0) (v:=.func (.func 116) #[] #[]) rfl (by kernel_rfl) (by kernel_rfl) (by kernel_rfl) (fun _ _ _ h=>h) (Or.inl ⟨by kernel_rfl,by intro w; go_simp⟩) ?_
      go_simp
      refine wpAny_ready (rs:=[1]) (by kernel_rfl) (by simp) ?_
      refine AllReady.cons rfl (fun K hK=>?_) AllReady.nil
      go_simp
      refine hK _ _ ?_
      clear hK K
      refine wpAny_ready (rs:=[2]) (by kernel_rfl) (by simp) ?_
      refine AllReady.cons rfl (fun K hK=>?_) AllReady.nil
      go_simp
      go_wp2_with ((go_at_call 116; refine HIN.out.mono ?_; rintro e w7 ⟨rfl,b7⟩; have HB7:=hide (HBD.out.trans (b7.mono HBD.out.size)); have HZ7:=hide (HWD.out.trans (b7.mono HWD.out.size)); clear b7))
      try (refine hK _ _ ?_; clear hK K)
      refine wpAny_take (i:=3) (v:=.bool true) rfl (by kernel_rfl) (by kernel_rfl) (by kernel_rfl) (fun _ _ _ h=>h) (Or.inl ⟨by kernel_rfl,by intro w; go_simp⟩) ?_
      go_simp
      refine wpAny_take (i:=4) (v:=.bool true) rfl (by kernel_rfl) (by kernel_rfl) (by kernel_rfl) (fun _ _ _ h=>h) (Or.inl ⟨by kernel_rfl,by intro w; go_simp⟩) ?_
      go_simp
      refine wpAny_take (i:=5) (v:=undef) rfl (by kernel_rfl) (by kernel_rfl) (by kernel_rfl) (fun _ _ _ h=>h) (Or.inr ⟨by kernel_rfl,rfl⟩) ?_
      go_simp
      refine wpAny_take (i:=6) (v:=undef) rfl (by kernel_rfl) (by kernel_rfl) (by kernel_rfl) (fun _ _ _ h=>h) (Or.inr ⟨by kernel_rfl,rfl⟩) ?_
      go_simp
      refine wpAny_take (i:=7) (v:=undef) rfl (by kernel_rfl) (by kernel_rfl) (by kernel_rfl) (fun _ _ _ h=>h) (Or.inr ⟨by kernel_rfl,rfl⟩) ?_
      go_simp
      refine wpAny_take (i:=8) (v:=undef) rfl (by kernel_rfl) (by kernel_rfl) (by kernel_rfl) (fun _ _ _ h=>h) (Or.inr ⟨by kernel_rfl,rfl⟩) ?_
      go_simp
      refine wpAny_take (i:=9) (v:=undef) rfl (by kernel_rfl) (by kernel_rfl) (by kernel_rfl) (fun _ _ _ h=>h) (Or.inr ⟨by kernel_rfl,rfl⟩) ?_
      go_simp
      refine wpAny_take (i:=10) (v:=undef) rfl (by kernel_rfl) (by kernel_rfl) (by kernel_rfl) (fun _ _ _ h=>h) (Or.inr ⟨by kernel_rfl,rfl⟩) ?_
      go_simp
      refine wpAny_take (i:=11) (v:=undef) rfl (by kernel_rfl) (by kernel_rfl) (by kernel_rfl) (fun _ _ _ h=>h) (Or.inr ⟨by kernel_rfl,rfl⟩) ?_
      go_simp
      refine wpAny_take (i:=12) (v:=undef) rfl (by kernel_rfl) (by kernel_rfl) (by kernel_rfl) (fun _ _ _ h=>h) (Or.inr ⟨by kernel_rfl,rfl⟩) ?_
      go_simp
      refine wpAny_take (i:=13) (v:=undef) rfl (by kernel_rfl) (by kernel_rfl) (by kernel_rfl) (fun _ _ _ h=>h) (Or.inr ⟨by kernel_rfl,rfl⟩) ?_
      go_simp
      refine wpAny_take (i:=14) (v:=undef) rfl (by kernel_rfl) (by kernel_rfl) (by kernel_rfl) (fun _ _ _ h=>h) (Or.inr ⟨by kernel_rfl,rfl⟩) ?_
      go_simp
      refine wpAny_take (i:=15) (v:=undef) rfl (by kernel_rfl) (by kernel_rfl) (by kernel_rfl) (fun _ _ _ h=>h) (Or.inr ⟨by kernel_rfl,rfl⟩) ?_
      go_simp
      refine wpAny_take (i:=16) (v:=undef) rfl (by kernel_rfl) (by kernel_rfl) (by kernel_rfl) (fun _ _ _ h=>h) (Or.inr ⟨by kernel_rfl,rfl⟩) ?_
      go_simp
      refine wpAny_take (i:=17) (v:=undef) rfl (by kernel_rfl) (by kernel_rfl) (by kernel_rfl) (fun _ _ _ h=>h) (Or.inr ⟨by kernel_rfl,rfl⟩) ?_
      go_simp
      refine wpAny_take (i:=18) (v:=.bool true) rfl (by kernel_rfl) (by kernel_rfl) (by kernel_rfl) (fun _ _ _ h=>h) (Or.inl ⟨by kernel_rfl,by intro w; go_simp⟩) ?_
      go_simp
      refine wpAny_done (by kernel_rfl) ?_ _
      go_wp2
      go_meet
      exact ⟨by rw [HCF.out]; rfl,HB7⟩
    | true =>
      by_cases hk0:k=0
      ·subst hk0
       have HCF:=hide (show C=true by rw [← HCC.out,objAscAt_eq hk2,HVV.out]; rfl)
       refine wp_region_any (by kernel_rfl) ?_
       try (change wpAny _ _ _ _ _ _ _ (World.drew _))
       refine wpAny_take (i:=0) (v:=.func (.func 116) #[] #[]) rfl (by kernel_rfl) (by kernel_rfl) (by kernel_rfl) (fun _ _ _ h=>h) (Or.inl ⟨by kernel_rfl,by intro w; go_simp⟩) ?_
       go_simp
       refine wpAny_ready (rs:=[1]) (by kernel_rfl) (by simp) ?_
       refine AllReady.cons rfl (fun K hK=>?_) AllReady.nil
       go_simp
       refine hK _ _ ?_
       clear hK K
       refine wpAny_ready (rs:=[2]) (by kernel_rfl) (by simp) ?_
       refine AllReady.cons rfl (fun K hK=>?_) AllReady.nil
       go_simp
       go_wp2_with ((go_at_call 116; refine HIN.out.mono ?_; rintro e w7 ⟨rfl,b7⟩; have HB7:=hide (HBD.out.trans (b7.mono HBD.out.size)); have HZ7:=hide (HWD.out.trans (b7.mono HWD.out.size)); clear b7))
       try (refine hK _ _ ?_; clear hK K)
       refine wpAny_take (i:=3) (v:=.bool false) rfl (by kernel_rfl) (by kernel_rfl) (by kernel_rfl) (fun _ _ _ h=>h) (Or.inl ⟨by kernel_rfl,by intro w; go_simp⟩) ?_
       go_simp
       refine wpAny_take (i:=4) (v:=.bool false) rfl (by kernel_rfl) (by kernel_rfl) (by kernel_rfl) (fun _ _ _ h=>h) (Or.inl ⟨by kernel_rfl,by intro w; go_simp⟩) ?_
       go_simp
       refine wpAny_take (i:=5) (v:=.int .i64 0) rfl (by kernel_rfl) (by kernel_rfl) (by kernel_rfl) (fun _ _ _ h=>h) (Or.inl ⟨by kernel_rfl,by intro w; go_simp⟩) ?_
       go_simp
       refine wpAny_take (i:=6) (v:=.bool false) rfl (by kernel_rfl) (by kernel_rfl) (by kernel_rfl) (fun _ _ _ h=>h) (Or.inl ⟨by kernel_rfl,by intro w; go_simp⟩) ?_
       go_simp
       refine wpAny_take (i:=7) (v:=.bool false) rfl (by kernel_rfl) (by kernel_rfl) (by kernel_rfl) (fun _ _ _ h=>h) (Or.inl ⟨by kernel_rfl,by intro w; go_simp⟩) ?_
       go_simp
       refine wpAny_take (i:=8) (v:=undef) rfl (by kernel_rfl) (by kernel_rfl) (by kernel_rfl) (fun _ _ _ h=>h) (Or.inr ⟨by kernel_rfl,rfl⟩) ?_
       go_simp
       refine wpAny_take (i:=9) (v:=undef) rfl (by kernel_rfl) (by kernel_rfl) (by kernel_rfl) (fun _ _ _ h=>h) (Or.inr ⟨by kernel_rfl,rfl⟩) ?_
       go_simp
       refine wpAny_take (i:=10) (v:=undef) rfl (by kernel_rfl) (by kernel_rfl) (by kernel_rfl) (fun _ _ _ h=>h) (Or.inr ⟨by kernel_rfl,rfl⟩) ?_
       go_simp
       refine wpAny_take (i:=11) (v:=undef) rfl (by kernel_rfl) (by kernel_rfl) (by kernel_rfl) (fun _ _ _ h=>h) (Or.inr ⟨by kernel_rfl,rfl⟩) ?_
       go_simp
       refine wpAny_take (i:=12) (v:=undef) rfl (by kernel_rfl) (by kernel_rfl) (by kernel_rfl) (fun _ _ _ h=>h) (Or.inr ⟨by kernel_rfl,rfl⟩) ?_
       go_simp
       refine wpAny_take (i:=13) (v:=undef) rfl (by kernel_rfl) (by kernel_rfl) (by kernel_rfl) (fun _ _ _ h=>h) (Or.inr ⟨by kernel_rfl,rfl⟩) ?_
       go_simp
       refine wpAny_take (i:=14) (v:=undef) rfl (by kernel_rfl) (by kernel_rfl) (by kernel_rfl) (fun _ _ _ h=>h) (Or.inr ⟨by kernel_rfl,rfl⟩) ?_
       go_simp
       refine wpAny_take (i:=15) (v:=undef) rfl (by kernel_rfl) (by kernel_rfl) (by kernel_rfl) (fun _ _ _ h=>h) (Or.inr ⟨by kernel_rfl,rfl⟩) ?_
       go_simp
       refine wpAny_take (i:=16) (v:=undef) rfl (by kernel_rfl) (by kernel_rfl) (by kernel_rfl) (fun _ _ _ h=>h) (Or.inr ⟨by kernel_rfl,rfl⟩) ?_
       go_simp
       refine wpAny_take (i:=17) (v:=.bool false) rfl (by kernel_rfl) (by kernel_rfl) (by kernel_rfl) (fun _ _ _ h=>h) (Or.inl ⟨by kernel_rfl,by intro w; go_simp⟩) ?_
       go_simp
       refine wpAny_take (i:=18) (v:=.bool false) rfl (by kernel_rfl) (by kernel_rfl) (by kernel_rfl) (fun _ _ _ h=>h) (Or.inl ⟨by kernel_rfl,by intro w; go_simp⟩) ?_
       go_simp
       refine wpAny_done (by kernel_rfl) ?_ _
       go_wp2
       go_meet
       exact ⟨by rw [HCF.out]; rfl,HB7⟩
      ·have hj2:k - 1 < l.length:=by omega
       obtain ⟨bp,op,ccp,Bp0,dp0,Bp3,dp3,Bp4,dp4,Bp5,dp5,Bp6,dp6,Bp7,dp7,Bp8,dp8,-,ep,lp,qp0,qp1,qp2,qp3,qp4,qp5,qp6,qp7,qp8,ip0,ip3,ip4,ip5,ip6,ip7,ip8⟩:=DObj.elem HS.out (Below.refl _ _) hj2
       have ep2:=ep rfl
       injection ep2 with ep3
       injection ep3 with ep4 ep5
       subst ep4 ep5
       have hokp:=HOK.out _ (List.getElem_mem hj2)
       have hlep:=HBI.out _ (List.getElem_mem hj2)
       obtain ⟨z,hz⟩:∃ z,cmpI (l[k - 1]).name (l[k]).name=z:=⟨_,rfl⟩
       have hic:=fun W (hb:Below w.heap.size w W)=>implCmpObjs l[k - 1] l[k] hokp HOKK.out _ _ W (DObj.lay (ip0.step hb) (ip3.step hb) (ip4.step hb) (ip5.step hb) (ip6.step hb) (ip7.step hb) (ip8.step hb)) (DObj.lay (HL0.out.step hb) (HL3.out.step hb) (HL4.out.step hb) (HL5.out.step hb) (HL6.out.step hb) (HL7.out.step hb) (HL8.out.step hb))
       rw [hz] at hic
       have hCz:(!C)=decide (0≤z):=by rw [← hz,cmpI_less (objn_byt hokp) (objn_byt HOKK.out),← HCC.out,objAscAt_more hk2 hk0,HVV.out]; rfl --]
       obtain ⟨M0,hM0⟩:∃ x,(l[k - 1]).name.length=x:=⟨_,rfl⟩
       rw [hM0] at qp0
       rw [hM0] at hic
       obtain ⟨M1,hM1⟩:∃ x,(l[k - 1]).kind=x:=⟨_,rfl⟩
       rw [hM1] at qp1
       rw [hM1] at hic
       obtain ⟨M2,hM2⟩:∃ x,(l[k - 1]).tree.kind=x:=⟨_,rfl⟩
       rw [hM2] at qp2
       rw [hM2] at hic
       obtain ⟨M3,hM3⟩:∃ x,(l[k - 1]).tree.data.length=x:=⟨_,rfl⟩
       rw [hM3] at qp3
       rw [hM3] at hic
       obtain ⟨M4,hM4⟩:∃ x,(l[k - 1]).tree.names.length=x:=⟨_,rfl⟩
       rw [hM4] at qp4
       rw [hM4] at hic
       obtain ⟨M5,hM5⟩:∃ x,(l[k - 1]).tree.kids.length=x:=⟨_,rfl⟩
       rw [hM5] at qp5
       rw [hM5] at hic
       obtain ⟨M6,hM6⟩:∃ x,(l[k - 1]).refs.length=x:=⟨_,rfl⟩
       rw [hM6] at qp6
       rw [hM6] at hic
       obtain ⟨M7,hM7⟩:∃ x,(l[k - 1]).frm.length=x:=⟨_,rfl⟩
       rw [hM7] at qp7
       rw [hM7] at hic
       obtain ⟨M8,hM8⟩:∃ x,(l[k - 1]).out.length=x:=⟨_,rfl⟩
       rw [hM8] at qp8
       rw [hM8] at hic
       rw [HLQ1.out] at hic
       rw [HLQ2.out] at hic
       have HP0:=hide (fun W (hb:Below w.heap.size w W)=>(hb.cell (p:=⟨b,of + (k - 1) * 9,none⟩) lb).trans qp0)
       have HP1:=hide (fun W (hb:Below w.heap.size w W)=>(hb.cell (p:=⟨b,of + (k - 1) * 9 + 1,none⟩) lb).trans qp1)
       have HP2:=hide (fun W (hb:Below w.heap.size w W)=>(hb.cell (p:=⟨b,of + (k - 1) * 9 + 2,none⟩) lb).trans qp2)
       have HP3:=hide (fun W (hb:Below w.heap.size w W)=>(hb.cell (p:=⟨b,of + (k - 1) * 9 + 3,none⟩) lb).trans qp3)
       have HP4:=hide (fun W (hb:Below w.heap.size w W)=>(hb.cell (p:=⟨b,of + (k - 1) * 9 + 4,none⟩) lb).trans qp4)
       have HP5:=hide (fun W (hb:Below w.heap.size w W)=>(hb.cell (p:=⟨b,of + (k - 1) * 9 + 5,none⟩) lb).trans qp5)
       have HP6:=hide (fun W (hb:Below w.heap.size w W)=>(hb.cell (p:=⟨b,of + (k - 1) * 9 + 6,none⟩) lb).trans qp6)
       have HP7:=hide (fun W (hb:Below w.heap.size w W)=>(hb.cell (p:=⟨b,of + (k - 1) * 9 + 7,none⟩) lb).trans qp7)
       have HP8:=hide (fun W (hb:Below w.heap.size w W)=>(hb.cell (p:=⟨b,of + (k - 1) * 9 + 8,none⟩) lb).trans qp8)
       have HIC:=hide hic
       have HCZ:=hide hCz
       have r0_:=HP0.out wi HBW.out
       have r1_:=HP1.out wi HBW.out
       have r2_:=HP2.out wi HBW.out
       have r3_:=HP3.out wi HBW.out
       have r4_:=HP4.out wi HBW.out
       have r5_:=HP5.out wi HBW.out
       have r6_:=HP6.out wi HBW.out
       have r7_:=HP7.out wi HBW.out
       have r8_:=HP8.out wi HBW.out
       have k3:(k:Int) - 1 < (n:Int):=by omega
       have k4:(0:Int)≤(k:Int) - 1:=by omega
       have k4' : (1:Int)≤(k:Int):=by omega
       have k5:((k:Int) - 1).toNat=k - 1:=by omega
       have k6:IntKind.i64.wrap ((k:Int) - 1)=(k:Int) - 1:=IntWalk.i64_in _ (by omega)
       have k7:0 < k:=by omega
       have HSS:Hid (∀ W,Below wi.heap.size wi W→Below w.heap.size w W→(fun W:World=>W.cell? ⟨wr.heap.size,0,none⟩=some (.slice B0 L0 d0)∧W.cell? ⟨wr.heap.size,1,none⟩=some (.int .i64 L1)∧W.cell? ⟨wr.heap.size,2,none⟩=some (.int .i64 L2)∧W.cell? ⟨wr.heap.size,3,none⟩=some (.slice B3 L3 d3)∧W.cell? ⟨wr.heap.size,4,none⟩=some (.slice B4 L4 d4)∧W.cell? ⟨wr.heap.size,5,none⟩=some (.slice B5 L5 d5)∧W.cell? ⟨wr.heap.size,6,none⟩=some (.slice B6 L6 d6)∧W.cell? ⟨wr.heap.size,7,none⟩=some (.slice B7 L7 d7)∧W.cell? ⟨wr.heap.size,8,none⟩=some (.slice B8 L8 d8)∧W.cell? ⟨b,of + (k - 1) * 9,none⟩=some (.slice Bp0 M0 dp0)∧W.cell? ⟨b,of + (k - 1) * 9 + 1,none⟩=some (.int .i64 M1)∧W.cell? ⟨b,of + (k - 1) * 9 + 2,none⟩=some (.int .i64 M2)∧W.cell? ⟨b,of + (k - 1) * 9 + 3,none⟩=some (.slice Bp3 M3 dp3)∧W.cell? ⟨b,of + (k - 1) * 9 + 4,none⟩=some (.slice Bp4 M4 dp4)∧W.cell? ⟨b,of + (k - 1) * 9 + 5,none⟩=some (.slice Bp5 M5 dp5)∧W.cell? ⟨b,of + (k - 1) * 9 + 6,none⟩=some (.slice Bp6 M6 dp6)∧W.cell? ⟨b,of + (k - 1) * 9 + 7,none⟩=some (.slice Bp7 M7 dp7)∧W.cell? ⟨b,of + (k - 1) * 9 + 8,none⟩=some (.slice Bp8 M8 dp8)) W) :=
        hide (fun W hb hb2=>⟨(HBX.out W hb).cell (j:=0) rfl,(HBX.out W hb).cell (j:=1) rfl,(HBX.out W hb).cell (j:=2) rfl,(HBX.out W hb).cell (j:=3) rfl,(HBX.out W hb).cell (j:=4) rfl,(HBX.out W hb).cell (j:=5) rfl,(HBX.out W hb).cell (j:=6) rfl,(HBX.out W hb).cell (j:=7) rfl,(HBX.out W hb).cell (j:=8) rfl,HP0.out W hb2,HP1.out W hb2,HP2.out W hb2,HP3.out W hb2,HP4.out W hb2,HP5.out W hb2,HP6.out W hb2,HP7.out W hb2,HP8.out W hb2⟩)
       clear hokp hlep hz hic hCz hk0 qp0 hM0 qp1 hM1 qp2 hM2 qp3 hM3 qp4 hM4 qp5 hM5 qp6 hM6 qp7 hM7 qp8 hM8 ip0 ip3 ip4 ip5 ip6 ip7 ip8
       go_region_held3 (fun W:World=>W.cell? ⟨wr.heap.size,0,none⟩=some (.slice B0 L0 d0)∧W.cell? ⟨wr.heap.size,1,none⟩=some (.int .i64 L1)∧W.cell? ⟨wr.heap.size,2,none⟩=some (.int .i64 L2)∧W.cell? ⟨wr.heap.size,3,none⟩=some (.slice B3 L3 d3)∧W.cell? ⟨wr.heap.size,4,none⟩=some (.slice B4 L4 d4)∧W.cell? ⟨wr.heap.size,5,none⟩=some (.slice B5 L5 d5)∧W.cell? ⟨wr.heap.size,6,none⟩=some (.slice B6 L6 d6)∧W.cell? ⟨wr.heap.size,7,none⟩=some (.slice B7 L7 d7)∧W.cell? ⟨wr.heap.size,8,none⟩=some (.slice B8 L8 d8)∧W.cell? ⟨b,of + (k - 1) * 9,none⟩=some (.slice Bp0 M0 dp0)∧W.cell? ⟨b,of + (k - 1) * 9 + 1,none⟩=some (.int .i64 M1)∧W.cell? ⟨b,of + (k - 1) * 9 + 2,none⟩=some (.int .i64 M2)∧W.cell? ⟨b,of + (k - 1) * 9 + 3,none⟩=some (.slice Bp3 M3 dp3)∧W.cell? ⟨b,of + (k - 1) * 9 + 4,none⟩=some (.slice Bp4 M4 dp4)∧W.cell? ⟨b,of + (k - 1) * 9 + 5,none⟩=some (.slice Bp5 M5 dp5)∧W.cell? ⟨b,of + (k - 1) * 9 + 6,none⟩=some (.slice Bp6 M6 dp6)∧W.cell? ⟨b,of + (k - 1) * 9 + 7,none⟩=some (.slice Bp7 M7 dp7)∧W.cell? ⟨b,of + (k - 1) * 9 + 8,none⟩=some (.slice Bp8 M8 dp8))
        (first
         | exact HSS.out _ HZ8.out HB8.out
         | exact HSS.out _ HZ7.out HB7.out
         | exact HSS.out _ HWD.out HBD.out
         | go_keep)
        (first
         | (go_simp; (go_at_call 116; refine HIN.out.mono ?_; rintro e w7 ⟨rfl,b7⟩; have HB7:=hide (HBD.out.trans (b7.mono HBD.out.size)); have HZ7:=hide (HWD.out.trans (b7.mono HWD.out.size)); clear b7))
         | (go_simp; go_at_call 117; refine (HIC.out _ HB7.out).mono ?_; rintro e w8 ⟨rfl,b8⟩; have HB8:=hide (HB7.out.trans (b8.mono HB7.out.size)); have HZ8:=hide (HZ7.out.trans (b8.mono HZ7.out.size)); clear b8))
       all_goals
        go_wp2
        go_meet
        exact ⟨by rw [HCZ.out],HB8⟩
   case rest =>
    obtain ⟨rfl,HB2⟩:=hcut
    clear p0 p1 p2 p3 p4 p5 p6 p7 p8 HB
    cases C with
    | true =>
      go_wp2_with fail
      go_roundw
      case rel=>exact ⟨k + 1,by omega,by go_num,hide (fun m hm=>by
       rcases Nat.lt_or_ge m k with h | h
       ·exact HXX.out m h
       ·obtain rfl:m=k:=by omega
        exact HCC.out),HB2⟩
      case measure=>simp [intOf]; omega
    | false =>
      have HF:=hide (show R=false by
       rw [← HR.out]
       exact Bool.eq_false_iff.2 fun h=>by
        have:=range_all.1 h k hk2
        rw [HCC.out] at this
        cases this)
      go_wp2_with fail
      go_ret
      exact ⟨ret_bool HF.out.symm,HB2.out⟩
  ·obtain rfl:k=n:=by omega
   have HIT:=hide (show R=true by rw [← HR.out]; exact range_all.2 fun m hm=>HXX.out m (by rw [HN.out] at hm; exact hm))
   go_wp2
   go_ret
   exact ⟨ret_bool HIT.out.symm,HB.out⟩
end Go.Proofs.YtgaadpkefncnmaaGreatDoor
