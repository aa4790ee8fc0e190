/-
  Parts of the proof: AscR.
-/
import Derived.Test.YtgaadpkefncnmaaGreatDoorMp29
import Derived.Test.YtgaadpkefncnmaaGreatDoorMp1
import Derived.Laws.BytesArg
import Derived.IntWalk
import Derived.Deep.QuietTactic
import Derived.BigQuiet
import Derived.Deep.Cut
import Derived.Deep.DeepCutAuto
import Derived.Deep.CutBlock
import Derived.Deep.RegionWith
import Derived.Deep.RegionHeld3
/-
  ascend over realisations.
-/
namespace Go.Proofs.YtgaadpkefncnmaaGreatDoor
open Go.RowKit
set_option linter.unusedVariables false
set_option linter.unusedSimpArgs false
/-- The i-th realisation of a row is that of an output, and stands behind the one before it. -/
def realAtL (s:DStore) (l:List DReal) (i:Nat):Bool :=
 match l[i]? with
 | some r=>realThere s r && (decide (i=0) || (match l[i - 1]? with | some p=>inLess (asIn p) (asIn r) | none=>true))
 | none=>true
def realsOkL (s:DStore) (l:List DReal):Bool:=(List.range l.length).all (realAtL s l)
theorem realsOk_L (s:DStore):realsOk s=realsOkL s s.reals:=by
 unfold realsOk realsOkL
 congr 1
theorem realAtL_eq {s:DStore} {l:List DReal} {k:Nat} (h:k < l.length):realAtL s l k=(realThere s l[k] && (decide (k=0) || (match l[k - 1]? with | some p=>inLess (asIn p) (asIn l[k]) | none=>true))):=by
 rw [realAtL,List.getElem?_eq_getElem h]
theorem realAtL_more {s:DStore} {l:List DReal} {k:Nat} (h:k < l.length) (h0:k≠0):realAtL s l k=(realThere s l[k] && inLess (asIn (l[k - 1]'(by omega))) (asIn l[k])):=by
 rw [realAtL_eq h,decide_eq_false h0,List.getElem?_eq_getElem (show k - 1 < l.length by omega)]
 rfl
theorem asIn_oks {r:DReal} (h:oks r.cells):oks (asIn r).cells:=(DIn.oks_iff _).2 ⟨((DReal.oks_iff r).1 h).1,((DReal.oks_iff r).1 h).2.1⟩
set_option maxRecDepth 20000 in
set_option maxHeartbeats 6400000 in
theorem ascendR (l:List DReal) (s:DStore) (f:List Int→Option Value) (hoks:∀ o∈s.objs,oks o.cells) (mr mo:Option Nat) (Av:Option Addr) (nv cv:Nat) (hok:∀ x∈l,oks x.cells) (hbi:∀ x∈l,bulks x.cells≤1048576) (A:Option Addr) (n c:Nat) (hn:l.length=n) (hn2:n≤1048576) (w:World) (hs:In1 w (seqOf 3 DReal.cells l) (.slice A n c)) (hF:ObjF w s.objs f) (hm:MapO w (.map mo) f) :
  Calls Tryz.prog 121 #[.slice A n c,.func (.func 122) #[.agg #[.map mr,.map mo,.slice Av nv cv]] #[],.func (.func 123) #[] #[]] w fun e w'=>e=.returned (.bool (realsOkL s l))∧Below w.heap.size w w':=by
 obtain ⟨R,hR⟩:∃ R,realsOkL s l=R:=⟨_,rfl⟩
 rw [hR]
 have HR:=hide hR
 have HN:=hide hn
 have HS:=hide hs
 have HOK:=hide hok
 have HBI:=hide hbi
 clear hR hn hs hok hbi
 go_enter Tryz.func121,Tryz.ntmps121
 go_wp2
 go_loopw [11] (fun i wr=>∃ k:Nat,k≤n∧i=.int .i64 k∧Hid (∀ m,m < k→realAtL s l m=true)∧Hid (Below w.heap.size w wr)) (fun i _=>n - (intOf i).toNat)
 case atStart=>exact ⟨0,Nat.zero_le _,rfl,hide (fun m hm=>by omega),hide (Below.refl _ _)⟩
 case round =>
  obtain ⟨k,hk,rfl,HXX,HB⟩:=hrel
  by_cases hlt:k < n
  ·have hk2:k < l.length:=by rw [HN.out]; exact hlt
   have k1:(k:Int) < (n:Int):=by omega
   have k0:(0:Int)≤(k:Int):=by omega
   have k2_:(k:Int).toNat=k:=by omega
   obtain ⟨b,of,cc,B0,d0,B1,d1,B2,d2,-,e,lb,q0,q1,q2,i0,i1,i2⟩:=DReal.elem HS.out HB.out hk2
   obtain rfl:=e rfl
   have hok_:=HOK.out _ (List.getElem_mem hk2)
   have hle_:=HBI.out _ (List.getElem_mem hk2)
   have q0_:=q0
   have q1_:=q1
   have q2_:=q2
   have hl0:=i0
   have hl1:=i1
   have hl2:=i2
   obtain ⟨L0,hL0⟩:∃ x,(l[k]).drv.length=x:=⟨_,rfl⟩
   obtain ⟨L1,hL1⟩:∃ x,(l[k]).out.length=x:=⟨_,rfl⟩
   obtain ⟨L2,hL2⟩:∃ x,(l[k]).path.length=x:=⟨_,rfl⟩
   obtain ⟨V,hV⟩:∃ V,realThere s l[k]=V:=⟨_,rfl⟩
   have hin:=fun W (hb:Below w.heap.size w W)=>implRealOk s f hoks mr mo Av nv cv l[k] hok_ hle_ _ W (hF.step hb) (hm.step hb) (DReal.lay (i0.step hb) (i1.step hb) (i2.step hb))
   rw [hV] at hin
   rw [hL0] at q0
   rw [hL0] at hl0
   rw [hL0] at hin
   rw [hL1] at q1
   rw [hL1] at hl1
   rw [hL1] at hin
   rw [hL2] at q2
   rw [hL2] at hl2
   rw [hL2] at hin
   obtain ⟨wi,hwi⟩:∃ W,wr.alloc (.cells #[.slice B0 L0 d0,.slice B1 L1 d1,.slice B2 L2 d2] 106)=W:=⟨_,rfl⟩
   have hbw:Below wr.heap.size wr wi:=by rw [← hwi]; exact (Below.refl _ _).alloc (Nat.le_refl _) _
   have hbx:Box wi wr.heap.size 106 [.slice B0 L0 d0,.slice B1 L1 d1,.slice B2 L2 d2]:=by rw [← hwi]; exact Box.new wr _ _
   have HBX:=hide (fun W (hb:Below wi.heap.size wi W)=>hbx.step hb)
   have HBW:=hide (HB.out.trans (hbw.mono HB.out.size))
   have HBD:=hide (HBW.out.drew)
   have HIN:=hide (hin _ HBD.out)
   have HVV:=hide hV
   have HOKK:=hide hok_
   have HLE:=hide hle_
   have p0:=hbx.cell (j:=0) rfl
   have p1:=hbx.cell (j:=1) rfl
   have p2:=hbx.cell (j:=2) rfl
   have HL0:=hide hl0
   have HL1:=hide hl1
   have HL2:=hide hl2
   have HWD:=hide (show Below wi.heap.size wi wi.drew from (Below.refl _ _).drew)
   have HLQ0:=hide hL0
   have HLQ1:=hide hL1
   have HLQ2:=hide hL2
   clear hok_ hle_ hV hin hbw hbx hL0 q0_ hL1 q1_ hL2 q2_ hl0 i0 hl1 i1 hl2 i2
   obtain ⟨C,hC⟩:∃ C,realAtL s l k=C:=⟨_,rfl⟩
   have HCC:=hide hC
   clear hC
   have hund:undef=Value.tuple #[]:=rfl
   go_upto_region 4 with (fail)
   go_cut [34] (fun v wx=>v=.bool (!C)∧Hid (Below w.heap.size w wx))
   case first =>
    cases V with
    | false =>
      have HCF:=hide (show C=false by rw [← HCC.out,realAtL_eq hk2,HVV.out]; rfl)
      refine wp_region_any (by kernel_rfl) ?_
      try (change wpAny _ _ _ _ _ _ _ (World.drew _))
      refine wpAny_take (i:=0) (v:=.func (.func 122) #[.agg #[.map mr,.map mo,.slice Av nv cv]] #[]) rfl (by kernel_rfl) (by kernel_rfl) (by kernel_rfl) (fun _ _ _ h=>h) (Or.inl ⟨by kernel_rfl,by intro w; go_simp⟩) ?_
      go_simp
      refine wpAny_ready (rs:=[1]) (by kernel_rfl) (by simp) ?_
      refine AllReady.cons rfl (fun K hK=>?_) AllReady.nil
      go_simp
      refine hK _ _ ?_
      clear hK K
      refine wpAny_ready (rs:=[2]) (by kernel_rfl) (by simp) ?_
      refine AllReady.cons rfl (fun K hK=>?_) AllReady.nil
      go_simp
      go_wp2_with ((go_at_call 122; refine HIN.out.mono ?_; rintro e w7 ⟨rfl,b7⟩; have HB7:=hide (HBD.out.trans (b7.mono HBD.out.size)); have HZ7:=hide (HWD.out.trans (b7.mono HWD.out.size)); clear b7))
      try (refine hK _ _ ?_; clear hK K)
      refine wpAny_take (i:=3) (v:=.bool true) rfl (by kernel_rfl) (by kernel_rfl) (by kernel_rfl) (fun _ _ _ h=>h) (Or.inl ⟨by kernel_rfl,by intro w; go_simp⟩) ?_
      go_simp
      refine wpAny_take (i:=4) (v:=.bool true) rfl (by kernel_rfl) (by kernel_rfl) (by kernel_rfl) (fun _ _ _ h=>h) (Or.inl ⟨by kernel_rfl,by intro w; go_simp⟩) ?_
      go_simp
      refine wpAny_take (i:=5) (v:=undef) rfl (by kernel_rfl) (by kernel_rfl) (by kernel_rfl) (fun _ _ _ h=>h) (Or.inr ⟨by kernel_rfl,rfl⟩) ?_
      go_simp
      refine wpAny_take (i:=6) (v:=undef) rfl (by kernel_rfl) (by kernel_rfl) (by kernel_rfl) (fun _ _ _ h=>h) (Or.inr ⟨by kernel_rfl,rfl⟩) ?_
      go_simp
      refine wpAny_take (i:=7) (v:=undef) rfl (by kernel_rfl) (by kernel_rfl) (by kernel_rfl) (fun _ _ _ h=>h) (Or.inr ⟨by kernel_rfl,rfl⟩) ?_
      go_simp
      refine wpAny_take (i:=8) (v:=undef) rfl (by kernel_rfl) (by kernel_rfl) (by kernel_rfl) (fun _ _ _ h=>h) (Or.inr ⟨by kernel_rfl,rfl⟩) ?_
      go_simp
      refine wpAny_take (i:=9) (v:=undef) rfl (by kernel_rfl) (by kernel_rfl) (by kernel_rfl) (fun _ _ _ h=>h) (Or.inr ⟨by kernel_rfl,rfl⟩) ?_
      go_simp
      refine wpAny_take (i:=10) (v:=undef) rfl (by kernel_rfl) (by kernel_rfl) (by kernel_rfl) (fun _ _ _ h=>h) (Or.inr ⟨by kernel_rfl,rfl⟩) ?_
      go_simp
      refine wpAny_take (i:=11) (v:=undef) rfl (by kernel_rfl) (by kernel_rfl) (by kernel_rfl) (fun _ _ _ h=>h) (Or.inr ⟨by kernel_rfl,rfl⟩) ?_
      go_simp
      refine wpAny_take (i:=12) (v:=undef) rfl (by kernel_rfl) (by kernel_rfl) (by kernel_rfl) (fun _ _ _ h=>h) (Or.inr ⟨by kernel_rfl,rfl⟩) ?_
      go_simp
      refine wpAny_take (i:=13) (v:=undef) rfl (by kernel_rfl) (by kernel_rfl) (by kernel_rfl) (fun _ _ _ h=>h) (Or.inr ⟨by kernel_rfl,rfl⟩) ?_
      go_simp
      refine wpAny_take (i:=14) (v:=undef) rfl (by kernel_rfl) (by kernel_rfl) (by kernel_rfl) (fun _ _ _ h=>h) (Or.inr ⟨by kernel_rfl,rfl⟩) ?_
      go_simp
      refine wpAny_take (i:=15) (v:=undef) rfl (by kernel_rfl) (by kernel_rfl) (by kernel_rfl) (fun _ _ _ h=>h) (Or.inr ⟨by kernel_rfl,rfl⟩) ?_
      go_simp
      refine wpAny_take (i:=16) (v:=undef) rfl (by kernel_rfl) (by kernel_rfl) (by kernel_rfl) (fun _ _ _ h=>h) (Or.inr ⟨by kernel_rfl,rfl⟩) ?_
      go_simp
      refine wpAny_take (i:=17) (v:=undef) rfl (by kernel_rfl) (by kernel_rfl) (by kernel_rfl) (fun _ _ _ h=>h) (Or.inr ⟨by kernel_rfl,rfl⟩) ?_
      go_simp
      refine wpAny_take (i:=18) (v:=.bool true) rfl (by kernel_rfl) (by kernel_rfl) (by kernel_rfl) (fun _ _ _ h=>h) (Or.inl ⟨by kernel_rfl,by intro w; go_simp⟩) ?_
      go_simp
      refine wpAny_done (by kernel_rfl) ?_ _
      go_wp2
      go_meet
      exact ⟨by rw [HCF.out]; rfl,HB7⟩
    | true =>
      by_cases hk0:k=0
      ·subst hk0
       have HCF:=hide (show C=true by rw [← HCC.out,realAtL_eq hk2,HVV.out]; rfl)
       refine wp_region_any (by kernel_rfl) ?_
       try (change wpAny _ _ _ _ _ _ _ (World.drew _))
       refine wpAny_take (i:=0) (v:=.func (.func 122) #[.agg #[.map mr,.map mo,.slice Av nv cv]] #[]) rfl (by kernel_rfl) (by kernel_rfl) (by kernel_rfl) (fun _ _ _ h=>h) (Or.inl ⟨by kernel_rfl,by intro w; go_simp⟩) ?_
       go_simp
       refine wpAny_ready (rs:=[1]) (by kernel_rfl) (by simp) ?_
       refine AllReady.cons rfl (fun K hK=>?_) AllReady.nil
       go_simp
       refine hK _ _ ?_
       clear hK K
       refine wpAny_ready (rs:=[2]) (by kernel_rfl) (by simp) ?_
       refine AllReady.cons rfl (fun K hK=>?_) AllReady.nil
       go_simp
       go_wp2_with ((go_at_call 122; refine HIN.out.mono ?_; rintro e w7 ⟨rfl,b7⟩; have HB7:=hide (HBD.out.trans (b7.mono HBD.out.size)); have HZ7:=hide (HWD.out.trans (b7.mono HWD.out.size)); clear b7))
       try (refine hK _ _ ?_; clear hK K)
       refine wpAny_take (i:=3) (v:=.bool false) rfl (by kernel_rfl) (by kernel_rfl) (by kernel_rfl) (fun _ _ _ h=>h) (Or.inl ⟨by kernel_rfl,by intro w; go_simp⟩) ?_
       go_simp
       refine wpAny_take (i:=4) (v:=.bool false) rfl (by kernel_rfl) (by kernel_rfl) (by kernel_rfl) (fun _ _ _ h=>h) (Or.inl ⟨by kernel_rfl,by intro w; go_simp⟩) ?_
       go_simp
       refine wpAny_take (i:=5) (v:=.int .i64 0) rfl (by kernel_rfl) (by kernel_rfl) (by kernel_rfl) (fun _ _ _ h=>h) (Or.inl ⟨by kernel_rfl,by intro w; go_simp⟩) ?_
       go_simp
       refine wpAny_take (i:=6) (v:=.bool false) rfl (by kernel_rfl) (by kernel_rfl) (by kernel_rfl) (fun _ _ _ h=>h) (Or.inl ⟨by kernel_rfl,by intro w; go_simp⟩) ?_
       go_simp
       refine wpAny_take (i:=7) (v:=.bool false) rfl (by kernel_rfl) (by kernel_rfl) (by kernel_rfl) (fun _ _ _ h=>h) (Or.inl ⟨by kernel_rfl,by intro w; go_simp⟩) ?_
       go_simp
       refine wpAny_take (i:=8) (v:=undef) rfl (by kernel_rfl) (by kernel_rfl) (by kernel_rfl) (fun _ _ _ h=>h) (Or.inr ⟨by kernel_rfl,rfl⟩) ?_
       go_simp
       refine wpAny_take (i:=9) (v:=undef) rfl (by kernel_rfl) (by kernel_rfl) (by kernel_rfl) (fun _ _ _ h=>h) (Or.inr ⟨by kernel_rfl,rfl⟩) ?_
       go_simp
       refine wpAny_take (i:=10) (v:=undef) rfl (by kernel_rfl) (by kernel_rfl) (by kernel_rfl) (fun _ _ _ h=>h) (Or.inr ⟨by kernel_rfl,rfl⟩) ?_
       go_simp
       refine wpAny_take (i:=11) (v:=undef) rfl (by kernel_rfl) (by kernel_rfl) (by kernel_rfl) (fun _ _ _ h=>h) (Or.inr ⟨by kernel_rfl,rfl⟩) ?_
       go_simp
       refine wpAny_take (i:=12) (v:=undef) rfl (by kernel_rfl) (by kernel_rfl) (by kernel_rfl) (fun _ _ _ h=>h) (Or.inr ⟨by kernel_rfl,rfl⟩) ?_
       go_simp
       refine wpAny_take (i:=13) (v:=undef) rfl (by kernel_rfl) (by kernel_rfl) (by kernel_rfl) (fun _ _ _ h=>h) (Or.inr ⟨by kernel_rfl,rfl⟩) ?_
       go_simp
       refine wpAny_take (i:=14) (v:=undef) rfl (by kernel_rfl) (by kernel_rfl) (by kernel_rfl) (fun _ _ _ h=>h) (Or.inr ⟨by kernel_rfl,rfl⟩) ?_
       go_simp
       refine wpAny_take (i:=15) (v:=undef) rfl (by kernel_rfl) (by kernel_rfl) (by kernel_rfl) (fun _ _ _ h=>h) (Or.inr ⟨by kernel_rfl,rfl⟩) ?_
       go_simp
       refine wpAny_take (i:=16) (v:=undef) rfl (by kernel_rfl) (by kernel_rfl) (by kernel_rfl) (fun _ _ _ h=>h) (Or.inr ⟨by kernel_rfl,rfl⟩) ?_
       go_simp
       refine wpAny_take (i:=17) (v:=.bool false) rfl (by kernel_rfl) (by kernel_rfl) (by kernel_rfl) (fun _ _ _ h=>h) (Or.inl ⟨by kernel_rfl,by intro w; go_simp⟩) ?_
       go_simp
       refine wpAny_take (i:=18) (v:=.bool false) rfl (by kernel_rfl) (by kernel_rfl) (by kernel_rfl) (fun _ _ _ h=>h) (Or.inl ⟨by kernel_rfl,by intro w; go_simp⟩) ?_
       go_simp
       refine wpAny_done (by kernel_rfl) ?_ _
       go_wp2
       go_meet
       exact ⟨by rw [HCF.out]; rfl,HB7⟩
      ·have hj2:k - 1 < l.length:=by omega
       obtain ⟨bp,op,ccp,Bp0,dp0,Bp1,dp1,Bp2,dp2,-,ep,lp,qp0,qp1,qp2,ip0,ip1,ip2⟩:=DReal.elem HS.out (Below.refl _ _) hj2
       have ep2:=ep rfl
       injection ep2 with ep3
       injection ep3 with ep4 ep5
       subst ep4 ep5
       have hokp:=HOK.out _ (List.getElem_mem hj2)
       have hlep:=HBI.out _ (List.getElem_mem hj2)
       obtain ⟨z,hz⟩:∃ z,inCmpI (asIn l[k - 1]) (asIn l[k])=z:=⟨_,rfl⟩
       have hic:=fun W (hb:Below w.heap.size w W)=>implCmpReals l[k - 1] l[k] hokp HOKK.out _ _ W (DReal.lay (ip0.step hb) (ip1.step hb) (ip2.step hb)) (DReal.lay (HL0.out.step hb) (HL1.out.step hb) (HL2.out.step hb))
       rw [hz] at hic
       have hCz:(!C)=decide (0≤z):=by rw [← hz,inCmpI_less (asIn_oks hokp) (asIn_oks HOKK.out),← HCC.out,realAtL_more hk2 hk0,HVV.out]; rfl --]
       obtain ⟨M0,hM0⟩:∃ x,(l[k - 1]).drv.length=x:=⟨_,rfl⟩
       rw [hM0] at qp0
       rw [hM0] at hic
       obtain ⟨M1,hM1⟩:∃ x,(l[k - 1]).out.length=x:=⟨_,rfl⟩
       rw [hM1] at qp1
       rw [hM1] at hic
       obtain ⟨M2,hM2⟩:∃ x,(l[k - 1]).path.length=x:=⟨_,rfl⟩
       rw [hM2] at qp2
       rw [hM2] at hic
       have HP0:=hide (fun W (hb:Below w.heap.size w W)=>(hb.cell (p:=⟨b,of + (k - 1) * 3,none⟩) lb).trans qp0)
       have HP1:=hide (fun W (hb:Below w.heap.size w W)=>(hb.cell (p:=⟨b,of + (k - 1) * 3 + 1,none⟩) lb).trans qp1)
       have HP2:=hide (fun W (hb:Below w.heap.size w W)=>(hb.cell (p:=⟨b,of + (k - 1) * 3 + 2,none⟩) lb).trans qp2)
       have HIC:=hide hic
       have HCZ:=hide hCz
       have r0_:=HP0.out wi HBW.out
       have r1_:=HP1.out wi HBW.out
       have r2_:=HP2.out wi HBW.out
       have k3:(k:Int) - 1 < (n:Int):=by omega
       have k4:(0:Int)≤(k:Int) - 1:=by omega
       have k4' : (1:Int)≤(k:Int):=by omega
       have k5:((k:Int) - 1).toNat=k - 1:=by omega
       have k6:IntKind.i64.wrap ((k:Int) - 1)=(k:Int) - 1:=IntWalk.i64_in _ (by omega)
       have k7:0 < k:=by omega
       have HSS:Hid (∀ W,Below wi.heap.size wi W→Below w.heap.size w W→(fun W:World=>W.cell? ⟨wr.heap.size,0,none⟩=some (.slice B0 L0 d0)∧W.cell? ⟨wr.heap.size,1,none⟩=some (.slice B1 L1 d1)∧W.cell? ⟨wr.heap.size,2,none⟩=some (.slice B2 L2 d2)∧W.cell? ⟨b,of + (k - 1) * 3,none⟩=some (.slice Bp0 M0 dp0)∧W.cell? ⟨b,of + (k - 1) * 3 + 1,none⟩=some (.slice Bp1 M1 dp1)∧W.cell? ⟨b,of + (k - 1) * 3 + 2,none⟩=some (.slice Bp2 M2 dp2)) W) :=
        hide (fun W hb hb2=>⟨(HBX.out W hb).cell (j:=0) rfl,(HBX.out W hb).cell (j:=1) rfl,(HBX.out W hb).cell (j:=2) rfl,HP0.out W hb2,HP1.out W hb2,HP2.out W hb2⟩)
       clear hokp hlep hz hic hCz hk0 qp0 hM0 qp1 hM1 qp2 hM2 ip0 ip1 ip2
       go_region_held3 (fun W:World=>W.cell? ⟨wr.heap.size,0,none⟩=some (.slice B0 L0 d0)∧W.cell? ⟨wr.heap.size,1,none⟩=some (.slice B1 L1 d1)∧W.cell? ⟨wr.heap.size,2,none⟩=some (.slice B2 L2 d2)∧W.cell? ⟨b,of + (k - 1) * 3,none⟩=some (.slice Bp0 M0 dp0)∧W.cell? ⟨b,of + (k - 1) * 3 + 1,none⟩=some (.slice Bp1 M1 dp1)∧W.cell? ⟨b,of + (k - 1) * 3 + 2,none⟩=some (.slice Bp2 M2 dp2))
        (first
         | exact HSS.out _ HZ8.out HB8.out
         | exact HSS.out _ HZ7.out HB7.out
         | exact HSS.out _ HWD.out HBD.out
         | go_keep)
        (first
         | (go_simp; (go_at_call 122; refine HIN.out.mono ?_; rintro e w7 ⟨rfl,b7⟩; have HB7:=hide (HBD.out.trans (b7.mono HBD.out.size)); have HZ7:=hide (HWD.out.trans (b7.mono HWD.out.size)); clear b7))
         | (go_simp; go_at_call 123; refine (HIC.out _ HB7.out).mono ?_; rintro e w8 ⟨rfl,b8⟩; have HB8:=hide (HB7.out.trans (b8.mono HB7.out.size)); have HZ8:=hide (HZ7.out.trans (b8.mono HZ7.out.size)); clear b8))
       all_goals
        go_wp2
        go_meet
        exact ⟨by rw [HCZ.out],HB8⟩
   case rest =>
    obtain ⟨rfl,HB2⟩:=hcut
    clear p0 p1 p2 HB
    cases C with
    | true =>
      go_wp2_with fail
      go_roundw
      case rel=>exact ⟨k + 1,by omega,by go_num,hide (fun m hm=>by
       rcases Nat.lt_or_ge m k with h | h
       ·exact HXX.out m h
       ·obtain rfl:m=k:=by omega
        exact HCC.out),HB2⟩
      case measure=>simp [intOf]; omega
    | false =>
      have HF:=hide (show R=false by
       rw [← HR.out]
       exact Bool.eq_false_iff.2 fun h=>by
        have:=range_all.1 h k hk2
        rw [HCC.out] at this
        cases this)
      go_wp2_with fail
      go_ret
      exact ⟨ret_bool HF.out.symm,HB2.out⟩
  ·obtain rfl:k=n:=by omega
   have HIT:=hide (show R=true by rw [← HR.out]; exact range_all.2 fun m hm=>HXX.out m (by rw [HN.out] at hm; exact hm))
   go_wp2
   go_ret
   exact ⟨ret_bool HIT.out.symm,HB.out⟩
end Go.Proofs.YtgaadpkefncnmaaGreatDoor
