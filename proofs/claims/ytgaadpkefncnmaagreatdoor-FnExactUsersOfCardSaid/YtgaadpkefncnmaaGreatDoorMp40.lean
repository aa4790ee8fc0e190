/-
  Parts of the proof: StoreOk4.
-/
import Derived.Test.YtgaadpkefncnmaaGreatDoorMp29
import Derived.Test.YtgaadpkefncnmaaGreatDoorMp31
import Derived.Test.YtgaadpkefncnmaaGreatDoorMp32
import Derived.Test.YtgaadpkefncnmaaGreatDoorMp33
import Derived.Test.YtgaadpkefncnmaaGreatDoorMp34
import Derived.Test.YtgaadpkefncnmaaGreatDoorMp35
import Derived.Test.YtgaadpkefncnmaaGreatDoorMp36
import Derived.Test.YtgaadpkefncnmaaGreatDoorMp38
import Derived.Test.YtgaadpkefncnmaaGreatDoorMp39
import Derived.Test.YtgaadpkefncnmaaGreatDoorMp37
import Derived.Laws.BytesArg
import Derived.IntWalk
import Derived.Deep.QuietTactic
import Derived.BigQuiet
import Derived.Deep.Cut
import Derived.Deep.DeepCutAuto
import Derived.Deep.CutBlock
import Derived.Deep.RegionWith
import Derived.Deep.RegionHeld3
/-
  The model's StoreOk.
-/
namespace Go.Proofs.YtgaadpkefncnmaaGreatDoor
open Go.RowKit
set_option linter.unusedVariables false
set_option linter.unusedSimpArgs false
def stBad1 (s:DStore):Bool:=!(decide (s.objs.length≤24) && (ascP nameOk s.roots && decide (s.reals.length≤24)))
theorem storeOk_eq (s:DStore):storeOk s=(!stBad1 s && (objsOk s.objs && (roundOk s.objs && (s.roots.all (fun r=>decide (atO s.objs r < s.objs.length)) && realsOk s)))):=by
 unfold storeOk stBad1
 simp only [Bool.not_not,Bool.and_assoc]
set_option maxRecDepth 20000 in
set_option maxHeartbeats 12800000 in
theorem specStoreOk (s:DStore) (hok:oks s.cells) (hbk:bulks s.cells≤1048576) (us:List Value) (w:World) (hs:Ins w s.cells us) :
  Calls Tryz.prog 60 #[.agg us.toArray] w fun e w'=>e=.returned (.bool (storeOk s))∧Below w.heap.size w w':=by
 have hsx:=hs
 obtain ⟨A0,c0,A1,c1,A2,c2,rfl,h0,h1,h2⟩:=DStore.view hs
 obtain ⟨wa,hwa⟩:∃ wa,w.alloc (.cells #[.slice A0 s.objs.length c0,.slice A1 s.roots.length c1,.slice A2 s.reals.length c2] 32)=wa:=⟨_,rfl⟩
 have ba:Below w.heap.size w wa:=by rw [← hwa]; exact (Below.refl _ _).alloc (Nat.le_refl _) _
 have bx:Box wa w.heap.size 32 [.slice A0 s.objs.length c0,.slice A1 s.roots.length c1,.slice A2 s.reals.length c2]:=by rw [← hwa]; exact Box.new w _ _
 have hz:w.heap.size < wa.heap.size:=bx.lt
 have hin:=fun W (hb:Below w.heap.size w W)=>hsx.step hb
 have hbs:=bulk_Store s
 obtain ⟨ok1,ok2,ok3⟩:=(DStore.oks_iff s).1 hok
 have hN1:=(h1.step ba).rdN
 have hl1:∀ n∈s.roots,n.length≤1048576:=fun n hn=>by have:=sumLen_mem2 hn; omega
 have hSort:=specSorted s.roots ok2 _ wa hN1 hl1
 have hbo:∀ o∈s.objs,bulks o.cells≤1048576:=fun o ho=>by have:=bulks_mem (f:=DObj.cells) ho; omega
 have x0:=bx.cell (j:=0) rfl
 have x1:=bx.cell (j:=1) rfl
 have x2:=bx.cell (j:=2) rfl
 have hlens:s.objs.length≤1048576∧s.roots.length≤1048576∧s.reals.length≤1048576:=by omega
 have HX:=hide (fun W (hb:Below wa.heap.size wa W)=>(bx.step hb))
 have HBA:=hide ba
 have HIN:=hide hin
 have HO:=hide hok
 have H0:=hide h0
 have H2:=hide h2
 have HN1:=hide hN1
 have HBK:=hide hbk
 have HBO:=hide hbo
 have HSO:=hide hSort
 have HLN:=hide hlens
 have HEQ:=hide (storeOk_eq s)
 clear bx ba hin hok h0 h1 h2 hs hsx hbk hbs hN1 hl1 hSort hbo hlens
 go_enter Tryz.func60,Tryz.ntmps60
 go_upto_region 1 with (fail)
 go_cut [0,24] (fun z v wx=>v=.bool (stBad1 s)∧Below wa.heap.size wa wx)
 case first =>
  have hd:stBad1 s = !(decide (s.objs.length≤24) && (ascP nameOk s.roots && decide (s.reals.length≤24))):=rfl
  have HD:=hide hd
  clear hd
  by_cases hl:s.objs.length≤24
  ·have hl2:¬ 24 < (s.objs.length:Int):=by omega
   have hl3:¬ 24 < s.objs.length:=by omega
   cases hsr:ascP nameOk s.roots with
   | false =>
     have hr:stBad1 s=true:=by rw [HD.out,hsr]; simp
     have hS:=HSO.out
     rw [hsr] at hS
     have HS:=hide hS
     have HR:=hide hr
     clear hS hr hsr
     go_wp2_with fail
     refine HS.out.mono ?_
     rintro e w1 ⟨rfl,b1⟩
     have HB1:=hide b1
     clear b1
     go_wp2_with fail
     go_meet
     exact ⟨by rw [HR.out],HB1.out⟩
   | true =>
     have hr:stBad1 s=decide (24 < (s.reals.length:Int)):=by
      rw [HD.out,hsr,decide_eq_true hl]
      by_cases h:s.reals.length≤24
      ·rw [decide_eq_true h,decide_eq_false (by omega)]; rfl
      ·rw [decide_eq_false h,decide_eq_true (by omega)]; rfl
     have hS:=HSO.out
     rw [hsr] at hS
     have HS:=hide hS
     have HR:=hide hr
     clear hS hr hsr
     go_wp2_with fail
     refine HS.out.mono ?_
     rintro e w1 ⟨rfl,b1⟩
     have HB1:=hide b1
     have y2:=(HX.out w1 b1).cell (j:=2) rfl
     clear b1
     go_wp2_with fail
     go_meet
     exact ⟨by rw [HR.out],HB1.out⟩
  ·have hl2:24 < (s.objs.length:Int):=by omega
   have hl3:24 < s.objs.length:=by omega
   have hr:stBad1 s=true:=by rw [HD.out,decide_eq_false hl]; simp
   have HR:=hide hr
   clear hr
   go_wp2_with fail
   go_meet
   exact ⟨by rw [HR.out],Below.refl _ _⟩
 case rest =>
  obtain ⟨rfl,hb⟩:=hcut
  have HB:=hide hb
  clear hb HSO x0 x1 x2
  have hAll:=HEQ.out
  cases h1:stBad1 s with
  | true =>
    have hr:storeOk s=false:=by rw [hAll,h1]; rfl
    have HR:=hide hr
    clear hr h1 hAll
    go_wp2_with fail
    go_ret
    exact ⟨ret_bool HR.out.symm,HBA.out.trans (HB.out.mono HBA.out.size)⟩
  | false =>
    have hp:s.objs.length≤24∧ascP nameOk s.roots=true∧s.reals.length≤24:=by
     unfold stBad1 at h1
     simp at h1
     exact h1
    have hr:storeOk s=(objsOk s.objs && (roundOk s.objs && (s.roots.all (fun r=>decide (atO s.objs r < s.objs.length)) && realsOk s))):=by rw [hAll,h1]; rfl
    have HP:=hide hp
    have HR:=hide hr
    clear hp hr hAll h1
    go_upto_block 0 with (fail)
    go_cut [] (fun wx=>Hid (objsOk s.objs=true)∧Hid (Below wa.heap.size wa wx))
    case first =>
     go_wp2_with fail
     go_loopw [3] (fun i wr=>∃ j:Nat,j≤s.objs.length∧i=.int .i64 j∧Hid (∀ m,m < j→objAt s.objs m=true)∧Hid (Below wa.heap.size wa wr)) (fun i _=>s.objs.length - (intOf i).toNat)
     case atStart=>exact ⟨0,Nat.zero_le _,rfl,hide (fun m hm=>by omega),HB⟩
     case round =>
      clear HB
      obtain ⟨j,hj,rfl,HXX,HB⟩:=hrel
      have bxr:=HX.out wr HB.out
      have y0:=bxr.cell (j:=0) rfl
      by_cases hlt:j < s.objs.length
      ·have j1:(j:Int) < ((s.objs.length:Nat):Int):=by omega
       have j0:(0:Int)≤(j:Int):=by omega
       have j2:(j:Int).toNat=j:=by omega
       obtain ⟨be,oe,cce,Be0,de0,Be3,de3,Be4,de4,Be5,de5,Be6,de6,Be7,de7,Be8,de8,-,ee,le,qe0,qe1,qe2,qe3,qe4,qe5,qe6,qe7,qe8,ie0,ie3,ie4,ie5,ie6,ie7,ie8⟩:=DObj.elem H0.out HBA.out hlt
       obtain rfl:=ee rfl
       have hq0:=fun W (hb:Below wa.heap.size wa W)=>(hb.cell (p:=⟨be,oe + j * 9,none⟩) (Nat.lt_of_lt_of_le le HBA.out.size)).trans qe0
       have hq1:=fun W (hb:Below wa.heap.size wa W)=>(hb.cell (p:=⟨be,oe + j * 9 + 1,none⟩) (Nat.lt_of_lt_of_le le HBA.out.size)).trans qe1
       have hq2:=fun W (hb:Below wa.heap.size wa W)=>(hb.cell (p:=⟨be,oe + j * 9 + 2,none⟩) (Nat.lt_of_lt_of_le le HBA.out.size)).trans qe2
       have hq3:=fun W (hb:Below wa.heap.size wa W)=>(hb.cell (p:=⟨be,oe + j * 9 + 3,none⟩) (Nat.lt_of_lt_of_le le HBA.out.size)).trans qe3
       have hq4:=fun W (hb:Below wa.heap.size wa W)=>(hb.cell (p:=⟨be,oe + j * 9 + 4,none⟩) (Nat.lt_of_lt_of_le le HBA.out.size)).trans qe4
       have hq5:=fun W (hb:Below wa.heap.size wa W)=>(hb.cell (p:=⟨be,oe + j * 9 + 5,none⟩) (Nat.lt_of_lt_of_le le HBA.out.size)).trans qe5
       have hq6:=fun W (hb:Below wa.heap.size wa W)=>(hb.cell (p:=⟨be,oe + j * 9 + 6,none⟩) (Nat.lt_of_lt_of_le le HBA.out.size)).trans qe6
       have hq7:=fun W (hb:Below wa.heap.size wa W)=>(hb.cell (p:=⟨be,oe + j * 9 + 7,none⟩) (Nat.lt_of_lt_of_le le HBA.out.size)).trans qe7
       have hq8:=fun W (hb:Below wa.heap.size wa W)=>(hb.cell (p:=⟨be,oe + j * 9 + 8,none⟩) (Nat.lt_of_lt_of_le le HBA.out.size)).trans qe8
       have v0:=hq0 wr HB.out
       have v1:=hq1 wr HB.out
       have v2:=hq2 wr HB.out
       have v3:=hq3 wr HB.out
       have v4:=hq4 wr HB.out
       have v5:=hq5 wr HB.out
       have v6:=hq6 wr HB.out
       have v7:=hq7 wr HB.out
       have v8:=hq8 wr HB.out
       have hins:Ins w (s.objs[j]).cells [.slice Be0 (s.objs[j]).name.length de0,.int .i64 (s.objs[j]).kind,.int .i64 (s.objs[j]).tree.kind,.slice Be3 (s.objs[j]).tree.data.length de3,.slice Be4 (s.objs[j]).tree.names.length de4,.slice Be5 (s.objs[j]).tree.kids.length de5,.slice Be6 (s.objs[j]).refs.length de6,.slice Be7 (s.objs[j]).frm.length de7,.slice Be8 (s.objs[j]).out.length de8]:=DObj.lay ie0 ie3 ie4 ie5 ie6 ie7 ie8
       have hoks:=obj_byt HO.out hlt
       have hObj:=fun W (hb:Below wa.heap.size wa W)=>specObjOk (s.objs[j]) hoks (HBO.out _ (List.getElem_mem hlt)) _ W (hins.step (HBA.out.trans (hb.mono HBA.out.size)))
       have hat:=objAt_eq hlt
       have hnb:=objName_byt HO.out hlt
       have hrb:BytN (s.objs[j]).refs:=((DObj.oks_iff _).1 hoks).2.2.2.1
       have hrn:=ie6.rdN
       have hrl:(s.objs[j]).refs.length≤1048576:=by
        have h1:=HBO.out _ (List.getElem_mem hlt)
        have h2:=bulk_Obj (s.objs[j])
        omega
       have hcn:=fun W (hb:Below wa.heap.size wa W)=>conv_rd (P:=Tryz.prog) Tryz.underlying39 Tryz.underlying5 Tryz.underlying9 ((ie0.step (HBA.out.trans (hb.mono HBA.out.size))).rd)
       have HSS:=hide (fun w' (hb:Below wa.heap.size wa w')=>(⟨(HX.out w' hb).cell (j:=0) rfl,hq0 w' hb,hq1 w' hb,hq2 w' hb,hq3 w' hb,hq4 w' hb,hq5 w' hb,hq6 w' hb,hq7 w' hb,hq8 w' hb⟩:w'.cell? ⟨w.heap.size,0,none⟩=some (.slice (some ⟨be,oe,none⟩) s.objs.length c0)∧w'.cell? ⟨be,oe + j * 9,none⟩=some (.slice Be0 (s.objs[j]).name.length de0)∧w'.cell? ⟨be,oe + j * 9 + 1,none⟩=some (.int .i64 (s.objs[j]).kind)∧w'.cell? ⟨be,oe + j * 9 + 2,none⟩=some (.int .i64 (s.objs[j]).tree.kind)∧w'.cell? ⟨be,oe + j * 9 + 3,none⟩=some (.slice Be3 (s.objs[j]).tree.data.length de3)∧w'.cell? ⟨be,oe + j * 9 + 4,none⟩=some (.slice Be4 (s.objs[j]).tree.names.length de4)∧w'.cell? ⟨be,oe + j * 9 + 5,none⟩=some (.slice Be5 (s.objs[j]).tree.kids.length de5)∧w'.cell? ⟨be,oe + j * 9 + 6,none⟩=some (.slice Be6 (s.objs[j]).refs.length de6)∧w'.cell? ⟨be,oe + j * 9 + 7,none⟩=some (.slice Be7 (s.objs[j]).frm.length de7)∧w'.cell? ⟨be,oe + j * 9 + 8,none⟩=some (.slice Be8 (s.objs[j]).out.length de8)))
       have HV0:=hide hq0
       have HV6:=hide hq6
       have HOB:=hide hObj
       have HAT:=hide hat
       have HRB:=hide hrb
       have HRN:=hide hrn
       have HCN:=hide hcn
       have HX0:=hide (fun W (hb:Below wa.heap.size wa W)=>(HX.out W hb).cell (j:=0) rfl)
       have cn0:=hcn wr HB.out
       have cn1:=hcn wr.drew (HB.out.trans (Below.refl _ _).drew)
       clear bxr hq0 hq1 hq2 hq3 hq4 hq5 hq6 hq7 hq8 qe0 qe1 qe2 qe3 qe4 qe5 qe6 qe7 qe8 hins hoks hObj hat hrb hrn hcn ie0 ie3 ie4 ie5 ie6 ie7 ie8
       obtain ⟨C,hC⟩:∃ C,(objOk s.objs[j] && (decide (j=0) || lessL ((s.objs[j - 1]?.map DObj.name).getD []) (s.objs[j]).name))=C:=⟨_,rfl⟩
       have HCC:=hide hC
       clear hC
       go_upto_region 6 with (fail)
       go_cut [60] (fun v wx=>v=.bool (!C)∧Hid (Below wa.heap.size wa wx))
       case first =>
        cases hob:objOk s.objs[j] with
        | false =>
          have HOF:=hide hob
          have hO:=HOB.out wr.drew (HB.out.trans (Below.refl _ _).drew)
          rw [hob] at hO
          refine reg6P wr _ _ _ _ _ _ _ _ _ _ _ _ _ _ _ _ _ _ _ _ _ _ _ _ _ _ _ hlt (by have:=HLN.out; omega) y0 v0 v1 v2 v3 v4 v5 v6 v7 v8 hO _ _ (fun _ _ d _ _ h=>by cases d <;> exact h) ?_
          intro x32 x33 x34 x35 x36 x37 x38 x39 x40 x41 x42 x43 x44 x45 x46 x47 x48 x49 x50 x51 x52 x53 x54 x55 x56 x57 x58 x59 W hW
          go_step
          go_meet
          exact ⟨by rw [← HCC.out,HOF.out]; rfl,hide (HB.out.trans (hW.mono HB.out.size))⟩
        | true =>
          have HOT:=hide hob
          have hO:=HOB.out wr.drew (HB.out.trans (Below.refl _ _).drew)
          rw [hob] at hO
          by_cases hj0:j=0
          ·have HDJ:=hide (decide_eq_true hj0)
           refine reg6Z wr _ _ _ _ _ _ _ _ _ _ _ _ _ _ _ _ _ _ _ _ _ _ _ _ _ _ _ hlt (by have:=HLN.out; omega) y0 v0 v1 v2 v3 v4 v5 v6 v7 v8 hO hj0 _ _ (fun _ _ d _ _ h=>by cases d <;> exact h) ?_
           intro x32 x33 x34 x35 x36 x37 x38 x39 x40 x41 x42 x43 x44 x45 x46 x47 x48 x49 x50 x51 x52 x53 x54 x55 x56 x57 x58 x59 W hW
           go_step
           go_meet
           exact ⟨by rw [← HCC.out,HOT.out,HDJ.out]; rfl,hide (HB.out.trans (hW.mono HB.out.size))⟩
          ·have hp:j - 1 < s.objs.length:=by omega
           obtain ⟨bp,op,ccp,Bp0,dp0,Bp3,dp3,Bp4,dp4,Bp5,dp5,Bp6,dp6,Bp7,dp7,Bp8,dp8,-,ep,lp,qp0,-,-,-,-,-,-,-,-,ip0,-,-,-,-,-,-⟩:=DObj.elem H0.out HBA.out hp
           obtain ⟨rfl,rfl⟩:be=bp∧oe=op:=by have:=ep rfl; simpa using this
           have hpn:(s.objs[j - 1]?.map DObj.name).getD []=(s.objs[j - 1]).name:=by rw [List.getElem?_eq_getElem hp]; rfl
           have hpc:=fun W (hb:Below wa.heap.size wa W)=>(hb.cell (p:=⟨be,oe + (j - 1) * 9,none⟩) (Nat.lt_of_lt_of_le le HBA.out.size)).trans qp0
           have hpv:=fun W (hb:Below wa.heap.size wa W)=>conv_rd (P:=Tryz.prog) Tryz.underlying39 Tryz.underlying5 Tryz.underlying9 ((ip0.step (HBA.out.trans (hb.mono HBA.out.size))).rd)
           have hls:=less_str (objName_byt HO.out hp) hnb
           have HPN:=hide hpn
           have HDJ:=hide (decide_eq_false hj0)
           obtain ⟨L,hLL⟩:∃ L,lessL (s.objs[j - 1]).name (s.objs[j]).name=L:=⟨_,rfl⟩
           rw [hLL] at hls
           have HLL:=hide hLL
           refine reg6G wr _ _ _ _ _ _ _ _ _ _ _ _ _ _ _ _ _ _ _ _ _ _ _ _ _ _ _ _ _ _ _ _ L hlt (by have:=HLN.out; omega) (by omega) (fun W hb=>by
            have hb2:=HB.out.trans (hb.mono HB.out.size)
            obtain ⟨t0,t1,t2,t3,t4,t5,t6,t7,t8,t9⟩:=HSS.out W hb2
            exact ⟨t0,t1,t2,t3,t4,t5,t6,t7,t8,t9,hpc W hb2,HCN.out W hb2,hpv W hb2⟩) hls hO _ _ ?_
           intro x32 x33 x34 x35 x36 x37 x38 x39 x40 x41 x42 x43 x44 x45 x46 x47 x48 x49 x50 x51 x52 x53 x54 x55 x56 x57 x58 x59 W hW
           go_step
           go_meet
           exact ⟨by rw [← HCC.out,HOT.out,HDJ.out,HPN.out,HLL.out]; rfl,hide (HB.out.trans (hW.mono HB.out.size))⟩
       case rest =>
        clear y0 v0 v1 v2 v3 v4 v5 v6 v7 v8 cn0 cn1 HB HOB HCN HX0
        obtain ⟨rfl,HB⟩:=hcut
        have hat:=HAT.out
        rw [← Bool.and_assoc,HCC.out] at hat
        have HAT2:=hide hat
        have hno:objAt s.objs j=false→storeOk s=false:=fun h=>by
         rw [HR.out,Bool.and_eq_false_iff]
         left
         rw [Bool.eq_false_iff]
         intro h2
         rw [rangeAll.1 h2 j hlt] at h
         cases h
        have HNO:=hide hno
        clear hat hno
        cases C with
        | false =>
          have hr:storeOk s=false:=HNO.out (by rw [HAT2.out]; rfl)
          have HR2:=hide hr
          clear hr
          go_wp2_with fail
          go_ret
          exact ⟨ret_bool HR2.out.symm,HBA.out.trans (HB.out.mono HBA.out.size)⟩
        | true =>
          generalize hRf:(s.objs[j]).refs=R at *
          clear hRf hnb
          go_wp2_with fail
          go_loopw [4] (fun kv wr=>∃ q:Nat,q≤R.length∧kv=.int .i64 q∧Hid (∀ m,m < q→atO s.objs (R.getD m []) < s.objs.length)∧Hid (Below wa.heap.size wa wr)) (fun kv _=>R.length - (intOf kv).toNat)
          case atStart=>exact ⟨0,Nat.zero_le _,rfl,hide (fun m hm=>by omega),HB⟩
          case round =>
           clear HB
           obtain ⟨q,hq,rfl,HQQ,HB⟩:=hrel
           have bxr:=HX.out wr HB.out
           have y0:=bxr.cell (j:=0) rfl
           have y1:=bxr.cell (j:=1) rfl
           have y2:=bxr.cell (j:=2) rfl
           have v6:=HV6.out wr HB.out
           clear bxr
           by_cases hlt3:q < R.length
           ·have r1:(q:Int) < ((R.length:Nat):Int):=by omega
            have t0:(0:Int)≤(q:Int):=by omega
            have t2:(q:Int).toNat=q:=by omega
            obtain ⟨b6,o6,x6,hA6,hb6,cx6,rx6⟩:=HRN.out.get hlt3
            subst hA6
            have HBw:=HBA.out.trans (HB.out.mono HBA.out.size)
            have cr:=(HBw.cell (p:=⟨b6,o6 + q,none⟩) hb6).trans cx6
            have hmr:R.getD q []∈R:=by simp [List.getD,List.getElem?_eq_getElem hlt3]
            have hcall:=fun W (hb:Below wr.heap.size wr W)=>specAt s (R.getD q []) HO.out (HRB.out _ hmr) HLN.out.1 _ x6 W (HIN.out W (HBw.trans (hb.mono HBw.size))) (((rx6.below HBw).below hb).in1)
            have hallq:R.all (fun r=>decide (atO s.objs r < s.objs.length))=true→atO s.objs (R.getD q []) < s.objs.length:=fun h=>of_decide_eq_true (List.all_eq_true.1 h _ hmr)
            generalize hz9:R.getD q []=r at *
            have HZ9:=hide hz9
            clear hz9 rx6 cx6 hmr HBw
            by_cases hin:atO s.objs r < s.objs.length
            ·rw [atI,if_pos hin] at hcall
             have s0:¬ ((atO s.objs r:Nat):Int) < 0:=by omega
             generalize hzz:atO s.objs r=z at *
             have HC:=hide hcall
             have HIN2:=hide hin
             have hst:∀ m,m < q + 1→atO s.objs (R.getD m []) < s.objs.length:=fun m hm=>by
              rcases Nat.lt_or_ge m q with h | h
              ·exact HQQ.out m h
              ·obtain rfl:m=q:=by omega
               rw [HZ9.out,hzz]
               exact HIN2.out
             have HST:=hide hst
             clear hcall hallq hin hst hzz
             go_upto_region 11 with (fail)
             go_region_law (first
              | (go_simp; go_at_call 76; refine (HC.out _ (Below.refl _ _).drew).mono ?_; rintro e w3 ⟨rfl,b3⟩; have bb3:=(Below.refl wr.heap.size wr).drew.trans b3))
             all_goals
              have HB3:=hide (HB.out.trans (bb3.mono HB.out.size))
              clear bb3 b3
              go_wp2_with fail
              go_roundw
              case rel=>first | exact ⟨q + 1,by omega,by go_num,HST,HB3⟩ | exact ⟨q + 1,by omega,by omega,HST⟩ | exact HST.out
              case measure=>simp [intOf]; omega
            ·rw [atI,if_neg hin] at hcall
             have hr:storeOk s=false:=HNO.out (by
              rw [HAT2.out,Bool.true_and,Bool.eq_false_iff]
              exact fun h=>hin (hallq h))
             have HR2:=hide hr
             have HC:=hide hcall
             clear hcall hallq hin hr
             go_upto_region 11 with (fail)
             go_region_law (first
              | (go_simp; go_at_call 76; refine (HC.out _ (Below.refl _ _).drew).mono ?_; rintro e w3 ⟨rfl,b3⟩; have bb3:=(Below.refl wr.heap.size wr).drew.trans b3))
             all_goals
              have HB3:=hide (HB.out.trans (bb3.mono HB.out.size))
              clear bb3 b3
              go_wp2_with fail
              go_ret
              exact ⟨ret_bool HR2.out.symm,HBA.out.trans (HB3.out.mono HBA.out.size)⟩
           ·obtain rfl:q=R.length:=by omega
            have hall:R.all (fun r=>decide (atO s.objs r < s.objs.length))=true:=by
             rw [all_at]
             exact fun m hm=>decide_eq_true (HQQ.out m hm)
            have HAL:=hide hall
            have hok3:objAt s.objs j=true:=by rw [HAT2.out,HAL.out]; rfl
            have HOK3:=hide hok3
            have hst:∀ m,m < j + 1→objAt s.objs m=true:=fun m hm=>by
             rcases Nat.lt_or_ge m j with h | h
             ·exact HXX.out m h
             ·obtain rfl:m=j:=by omega
              exact HOK3.out
            have HST:=hide hst
            have hb20:=HLN.out.1
            clear hall hok3 hst
            go_wp2_with fail
            go_roundw
            case rel=>exact ⟨j + 1,by omega,by go_num,HST,HB⟩
            case measure=>simp [intOf]; omega
      ·obtain rfl:j=s.objs.length:=by omega
       have hall:objsOk s.objs=true:=rangeAll.2 HXX.out
       have HAL:=hide hall
       clear bxr hall
       go_wp2_with fail
       go_meet
       exact ⟨HAL,HB⟩
    case rest =>
     clear HB
     obtain ⟨HOK,HB⟩:=hcut
     have hr1:storeOk s=(roundOk s.objs && (s.roots.all (fun r=>decide (atO s.objs r < s.objs.length)) && realsOk s)):=by rw [HR.out,HOK.out]; rfl
     have HR1:=hide hr1
     have bxr:=HX.out wc HB.out
     have y0:=bxr.cell (j:=0) rfl
     have y1:=bxr.cell (j:=1) rfl
     have y2:=bxr.cell (j:=2) rfl
     have hcall:=specRound4 s HO.out HP.out.1 HBK.out (objAt_refs HOK.out) _ wc (HIN.out wc (HBA.out.trans (HB.out.mono HBA.out.size)))
     clear HR hr1 bxr
     cases hro:roundOk s.objs with
     | false =>
       rw [hro] at hcall
       have hr2:storeOk s=false:=by rw [HR1.out,hro]; rfl
       have HC:=hide hcall
       have HR2:=hide hr2
       clear hcall hr2 hro
       go_wp2_with fail
       refine HC.out.mono ?_
       rintro e w3 ⟨rfl,b3⟩
       have HB3:=hide (HBA.out.trans ((HB.out.trans (b3.mono HB.out.size)).mono HBA.out.size))
       clear b3
       go_wp2_with fail
       go_ret
       exact ⟨ret_bool HR2.out.symm,HB3.out⟩
     | true =>
       rw [hro] at hcall
       have hr2:storeOk s=(s.roots.all (fun r=>decide (atO s.objs r < s.objs.length)) && realsOk s):=by rw [HR1.out,hro]; rfl
       have HC:=hide hcall
       have HR2:=hide hr2
       clear hcall hr2 hro HR1
       go_wp2_with fail
       refine HC.out.mono ?_
       rintro e w3 ⟨rfl,b3⟩
       have HB3:=hide (HB.out.trans (b3.mono HB.out.size))
       clear b3 y0 y1 y2 HC HB
       go_upto_block 4 with (fail)
       go_cut [] (fun wx=>Hid (s.roots.all (fun r=>decide (atO s.objs r < s.objs.length))=true)∧Hid (Below wa.heap.size wa wx))
       case first =>
        go_wp2_with fail
        go_loopw [5] (fun kv wr=>∃ q:Nat,q≤s.roots.length∧kv=.int .i64 q∧Hid (∀ m,m < q→atO s.objs (s.roots.getD m []) < s.objs.length)∧Hid (Below wa.heap.size wa wr)) (fun kv _=>s.roots.length - (intOf kv).toNat)
        case atStart=>exact ⟨0,Nat.zero_le _,rfl,hide (fun m hm=>by omega),HB3⟩
        case round =>
         clear HB3
         obtain ⟨q,hq,rfl,HQQ,HB⟩:=hrel
         have bxr:=HX.out wr HB.out
         have y0:=bxr.cell (j:=0) rfl
         have y1:=bxr.cell (j:=1) rfl
         have y2:=bxr.cell (j:=2) rfl
         clear bxr
         by_cases hlt3:q < s.roots.length
         ·have r1:(q:Int) < ((s.roots.length:Nat):Int):=by omega
          have t0:(0:Int)≤(q:Int):=by omega
          have t2:(q:Int).toNat=q:=by omega
          obtain ⟨b6,o6,x6,hA6,hb6,cx6,rx6⟩:=HN1.out.get hlt3
          subst hA6
          have cr:=(HB.out.cell (p:=⟨b6,o6 + q,none⟩) hb6).trans cx6
          have hmr:s.roots.getD q []∈s.roots:=by simp [List.getD,List.getElem?_eq_getElem hlt3]
          have hcall:=fun W (hb:Below wr.heap.size wr W)=>specAt s (s.roots.getD q []) HO.out (ok2 _ hmr) HLN.out.1 _ x6 W (HIN.out W (HBA.out.trans ((HB.out.trans (hb.mono HB.out.size)).mono HBA.out.size))) (((rx6.below HB.out).below hb).in1)
          have hallq:s.roots.all (fun r=>decide (atO s.objs r < s.objs.length))=true→atO s.objs (s.roots.getD q []) < s.objs.length:=fun h=>of_decide_eq_true (List.all_eq_true.1 h _ hmr)
          have hb20:=HLN.out.2.1
          generalize hz9:s.roots.getD q []=r at *
          have HZ9:=hide hz9
          clear hz9 rx6 cx6 hmr
          by_cases hin:atO s.objs r < s.objs.length
          ·rw [atI,if_pos hin] at hcall
           have s0:¬ ((atO s.objs r:Nat):Int) < 0:=by omega
           generalize hzz:atO s.objs r=z at *
           have HC:=hide hcall
           have HIN2:=hide hin
           have hst:∀ m,m < q + 1→atO s.objs (s.roots.getD m []) < s.objs.length:=fun m hm=>by
            rcases Nat.lt_or_ge m q with h | h
            ·exact HQQ.out m h
            ·obtain rfl:m=q:=by omega
             rw [HZ9.out,hzz]
             exact HIN2.out
           have HST:=hide hst
           clear hcall hallq hin hst hzz
           go_upto_region 18 with (fail)
           go_region_law (first
            | (go_simp; go_at_call 76; refine (HC.out _ (Below.refl _ _).drew).mono ?_; rintro e w3 ⟨rfl,b3⟩; have bb3:=(Below.refl wr.heap.size wr).drew.trans b3))
           all_goals
            have HB3:=hide (HB.out.trans (bb3.mono HB.out.size))
            clear bb3 b3
            go_wp2_with fail
            go_roundw
            case rel=>first | exact ⟨q + 1,by omega,by go_num,HST,HB3⟩ | exact ⟨q + 1,by omega,by omega,HST⟩
            case measure=>simp [intOf]; omega
          ·rw [atI,if_neg hin] at hcall
           have hr3:storeOk s=false:=by
            rw [HR2.out,Bool.and_eq_false_iff]
            left
            rw [Bool.eq_false_iff]
            exact fun h=>hin (hallq h)
           have HR3:=hide hr3
           have HC:=hide hcall
           clear hcall hallq hin hr3
           go_upto_region 18 with (fail)
           go_region_law (first
            | (go_simp; go_at_call 76; refine (HC.out _ (Below.refl _ _).drew).mono ?_; rintro e w3 ⟨rfl,b3⟩; have bb3:=(Below.refl wr.heap.size wr).drew.trans b3))
           all_goals
            have HB3:=hide (HB.out.trans (bb3.mono HB.out.size))
            clear bb3 b3
            go_wp2_with fail
            go_ret
            exact ⟨ret_bool HR3.out.symm,HBA.out.trans (HB3.out.mono HBA.out.size)⟩
         ·obtain rfl:q=s.roots.length:=by omega
          have hall:s.roots.all (fun r=>decide (atO s.objs r < s.objs.length))=true:=by
           rw [all_at]
           exact fun m hm=>decide_eq_true (HQQ.out m hm)
          have HAL:=hide hall
          clear hall
          go_wp2_with fail
          go_meet
          exact ⟨HAL,HB⟩
       case rest =>
        clear HB3
        obtain ⟨HAL,HB⟩:=hcut
        have hl3:s.reals.length≤1048576:=HLN.out.2.2
        go_wp2_with fail
        go_loopw [6] (fun i wr=>∃ j:Nat,j≤s.reals.length∧i=.int .i64 j∧Hid (∀ m,m < j→realAt s m=true)∧Hid (Below wa.heap.size wa wr)) (fun i _=>s.reals.length - (intOf i).toNat)
        case atStart=>exact ⟨0,Nat.zero_le _,rfl,hide (fun m hm=>by omega),HB⟩
        case round =>
         clear HB
         obtain ⟨j,hj,rfl,HXX,HB⟩:=hrel
         have bxr:=HX.out wr HB.out
         have y0:=bxr.cell (j:=0) rfl
         have y1:=bxr.cell (j:=1) rfl
         have y2:=bxr.cell (j:=2) rfl
         by_cases hlt:j < s.reals.length
         ·have j1:(j:Int) < ((s.reals.length:Nat):Int):=by omega
          have j0:(0:Int)≤(j:Int):=by omega
          have j2:(j:Int).toNat=j:=by omega
          have hbw:=HBA.out.trans (HB.out.mono HBA.out.size)
          obtain ⟨br,orr,ccr,Br0,dr0,Br1,dr1,Br2,dr2,-,er,lr,qr0,qr1,qr2,ir0,ir1,ir2⟩:=DReal.elem H2.out hbw hlt
          obtain rfl:=er rfl
          have hro:=((DStore.oks_iff s).1 HO.out).2.2 _ (List.getElem_mem hlt)
          obtain ⟨ro0,ro1,ro2⟩:=(DReal.oks_iff _).1 hro
          have hbs:=bulk_Store s
          have hat:=realAt_eq hlt
          have hthr:realThere s s.reals[j]=(match s.objs[atO s.objs (s.reals[j]).path]? with | some o=>decide (o.kind=2) && (decide (o.frm=(s.reals[j]).drv) && decide (o.out=(s.reals[j]).out)) | none=>false):=rfl
          obtain ⟨wo,hwo⟩:∃ wo,wr.alloc (.cells #[.slice Br0 (s.reals[j]).drv.length dr0,.slice Br1 (s.reals[j]).out.length dr1,.slice Br2 (s.reals[j]).path.length dr2] 106)=wo:=⟨_,rfl⟩
          have bo_:Below wr.heap.size wr wo:=by rw [← hwo]; exact (Below.refl _ _).alloc (Nat.le_refl _) _
          have bxo:Box wo wr.heap.size 106 [.slice Br0 (s.reals[j]).drv.length dr0,.slice Br1 (s.reals[j]).out.length dr1,.slice Br2 (s.reals[j]).path.length dr2]:=by rw [← hwo]; exact Box.new wr _ _
          have hbo:=HB.out.trans (bo_.mono HB.out.size)
          have hbwo:=HBA.out.trans (hbo.mono HBA.out.size)
          have hla:=specAt s (s.reals[j]).path HO.out ro2 HLN.out.1 _ (.slice Br2 (s.reals[j]).path.length dr2) wo (HIN.out wo hbwo) (ir2.step hbwo)
          have hbq:=bxr.step bo_
          have g0_:=hbq.cell (j:=0) rfl
          have g1_:=hbq.cell (j:=1) rfl
          have g2_:=hbq.cell (j:=2) rfl
          have o2_:=bxo.cell (j:=2) rfl
          have HXO:=hide (fun W (hb:Below wo.heap.size wo W)=>bxo.step hb)
          have HLA:=hide hla
          have HBO_:=hide hbo
          have HBWO:=hide hbwo
          have HI0:=hide ir0
          have HI1:=hide ir1
          have HI2:=hide ir2
          have HRO:=hide hro
          have HAT:=hide hat
          have HTH:=hide hthr
          have HLR:=hide lr
          obtain ⟨C,hC⟩:∃ C,realAt s j=C:=⟨_,rfl⟩
          have HCC:=hide hC
          clear bxr hbw hro ro0 ro1 hbs hat hthr hla hbo hbwo hbq bo_ bxo ir0 ir1 ir2 hC
          have HSTR:=hide (show storeOk s=realsOk s by rw [HR2.out,HAL.out]; rfl)
          by_cases hin:atO s.objs (s.reals[j]).path < s.objs.length
          ·obtain ⟨k,hk⟩:∃ x,atO s.objs (s.reals[j]).path=x:=⟨_,rfl⟩
           rw [hk] at hin HTH
           have hla2:atI s.objs (s.reals[j]).path=(k:Int):=by rw [atI,hk,if_pos hin]
           rw [hla2] at HLA
           have k1:(k:Int) < ((s.objs.length:Nat):Int):=by omega
           have k0:(0:Int)≤(k:Int):=by omega
           have k2_:(k:Int).toNat=k:=by omega
           have k3_:¬ (k:Int) < 0:=by omega
           have HTN:=hide (show realThere s s.reals[j]=(decide ((s.objs[k]).kind=2) && (decide ((s.objs[k]).frm=(s.reals[j]).drv) && decide ((s.objs[k]).out=(s.reals[j]).out))) by rw [HTH.out,List.getElem?_eq_getElem hin])
           have hbwo:=HBWO.out
           obtain ⟨be,oe,cce,Be0,de0,Be3,de3,Be4,de4,Be5,de5,Be6,de6,Be7,de7,Be8,de8,-,ee,le,-,qe1,-,-,-,-,-,qe7,qe8,-,-,-,-,-,ie7,ie8⟩:=DObj.elem H0.out (Below.refl _ _) hin
           obtain rfl:=ee rfl
           have hoo:=((DStore.oks_iff s).1 HO.out).1 _ (List.getElem_mem hin)
           obtain ⟨-,-,-,-,ob7,ob8⟩:=(DObj.oks_iff _).1 hoo
           obtain ⟨rb0,rb1,-⟩:=(DReal.oks_iff _).1 HRO.out
           have hs1:=str_eq ob7 rb0
           have hs2:=str_eq ob8 rb1
           have HCV:=hide (fun W (hb:Below wa.heap.size wa W)=>(⟨conv_rd (P:=Tryz.prog) Tryz.underlying39 Tryz.underlying5 Tryz.underlying9 (ie7.step (HBA.out.trans (hb.mono HBA.out.size))).rd,conv_rd (P:=Tryz.prog) Tryz.underlying39 Tryz.underlying5 Tryz.underlying9 (HI0.out.step (HBA.out.trans (hb.mono HBA.out.size))).rd,conv_rd (P:=Tryz.prog) Tryz.underlying39 Tryz.underlying5 Tryz.underlying9 (ie8.step (HBA.out.trans (hb.mono HBA.out.size))).rd,conv_rd (P:=Tryz.prog) Tryz.underlying39 Tryz.underlying5 Tryz.underlying9 (HI1.out.step (HBA.out.trans (hb.mono HBA.out.size))).rd⟩:_∧_∧_∧_))
           have HQ1:=hide (fun W (hb:Below w.heap.size w W)=>(hb.cell (p:=⟨be,oe + k * 9 + 1,none⟩) le).trans qe1)
           have HQ7:=hide (fun W (hb:Below w.heap.size w W)=>(hb.cell (p:=⟨be,oe + k * 9 + 7,none⟩) le).trans qe7)
           have HQ8:=hide (fun W (hb:Below w.heap.size w W)=>(hb.cell (p:=⟨be,oe + k * 9 + 8,none⟩) le).trans qe8)
           go_upto_region 25 with (go_at_call 76; refine HLA.out.mono ?_; rintro e w3 ⟨rfl,b3⟩; have HB3:=hide (HBO_.out.trans (b3.mono HBO_.out.size)); have HZ3:=hide b3; clear b3)
           have HBD:=hide (show Below wa.heap.size wa w3.drew from HB3.out.drew)
           have HZD:=hide (show Below wo.heap.size wo w3.drew from HZ3.out.drew)
           obtain ⟨KK,hKK⟩:∃ x,(s.objs[k]).kind=x:=⟨_,rfl⟩
           obtain ⟨NF,hNF⟩:∃ x,(s.objs[k]).frm.length=x:=⟨_,rfl⟩
           obtain ⟨NO,hNO⟩:∃ x,(s.objs[k]).out.length=x:=⟨_,rfl⟩
           obtain ⟨ND,hND⟩:∃ x,(s.reals[j]).drv.length=x:=⟨_,rfl⟩
           obtain ⟨NR,hNR⟩:∃ x,(s.reals[j]).out.length=x:=⟨_,rfl⟩
           obtain ⟨NPA,hNPA⟩:∃ x,(s.reals[j]).path.length=x:=⟨_,rfl⟩
           obtain ⟨SF,hSF⟩:∃ x,strOfNums (s.objs[k]).frm=x:=⟨_,rfl⟩
           obtain ⟨SOU,hSOU⟩:∃ x,strOfNums (s.objs[k]).out=x:=⟨_,rfl⟩
           obtain ⟨SD,hSD⟩:∃ x,strOfNums (s.reals[j]).drv=x:=⟨_,rfl⟩
           obtain ⟨SRO,hSRO⟩:∃ x,strOfNums (s.reals[j]).out=x:=⟨_,rfl⟩
           have HEN:=hide (⟨hND,hNR,hNPA⟩:_∧_∧_)
           rw [hKK] at HQ1 HTN
           rw [hNF] at HQ7
           rw [hNO] at HQ8
           rw [hNF,hNO,hND,hNR,hSF,hSOU,hSD,hSRO] at HCV
           rw [hND,hNR,hNPA] at HXO
           rw [hSF,hSD] at hs1
           rw [hSOU,hSRO] at hs2
           have HSS1:=hide (fun W (hb:Below wa.heap.size wa W) (hz:Below wo.heap.size wo W)=>show (fun W:World=>W.cell? ⟨w.heap.size,0,none⟩=some (.slice (some ⟨be,oe,none⟩) s.objs.length c0)∧W.cell? ⟨be,oe + k * 9 + 1,none⟩=some (.int .i64 KK)∧W.cell? ⟨be,oe + k * 9 + 7,none⟩=some (.slice Be7 NF de7)∧W.cell? ⟨be,oe + k * 9 + 8,none⟩=some (.slice Be8 NO de8)∧W.cell? ⟨wr.heap.size,0,none⟩=some (.slice Br0 ND dr0)∧W.cell? ⟨wr.heap.size,1,none⟩=some (.slice Br1 NR dr1)∧W.cell? ⟨wr.heap.size,2,none⟩=some (.slice Br2 NPA dr2)∧(convert 39 9 (.slice Be7 NF de7)).run Tryz.prog W=.ok (.string SF) W∧(convert 39 9 (.slice Br0 ND dr0)).run Tryz.prog W=.ok (.string SD) W∧(convert 39 9 (.slice Be8 NO de8)).run Tryz.prog W=.ok (.string SOU) W∧(convert 39 9 (.slice Br1 NR dr1)).run Tryz.prog W=.ok (.string SRO) W) W from ⟨(HX.out W hb).cell (j:=0) rfl,HQ1.out W (HBA.out.trans (hb.mono HBA.out.size)),HQ7.out W (HBA.out.trans (hb.mono HBA.out.size)),HQ8.out W (HBA.out.trans (hb.mono HBA.out.size)),(HXO.out W hz).cell (j:=0) rfl,(HXO.out W hz).cell (j:=1) rfl,(HXO.out W hz).cell (j:=2) rfl,HCV.out W hb⟩)
           generalize hX1:decide ((s.objs[k]).frm=(s.reals[j]).drv)=X1 at *
           generalize hX2:decide ((s.objs[k]).out=(s.reals[j]).out)=X2 at *
           clear qe1 qe7 qe8 ie7 ie8 hoo ob7 ob8 rb0 rb1 hKK hNF hNO hND hNR hNPA hSF hSOU hSD hSRO hX1 hX2 hk
           go_cut [169] (fun v wx=>v=.bool (!C)∧Hid (Below wa.heap.size wa wx))
           case first =>
            have hb3_:=HBA.out.trans (HB3.out.mono HBA.out.size)
            have a0_:=(HX.out w3 HB3.out).cell (j:=0) rfl
            have a1_:=HQ1.out w3 hb3_
            have a7_:=HQ7.out w3 hb3_
            have a8_:=HQ8.out w3 hb3_
            have b0_:=(HXO.out w3 HZ3.out).cell (j:=0) rfl
            have b1_:=(HXO.out w3 HZ3.out).cell (j:=1) rfl
            have cw1:=fun m=>(HCV.out (w3.drewN m) (below_drewN HB3.out m)).1
            have cw2:=fun m=>(HCV.out (w3.drewN m) (below_drewN HB3.out m)).2.1
            have cw3:=fun m=>(HCV.out (w3.drewN m) (below_drewN HB3.out m)).2.2.1
            have cw4:=fun m=>(HCV.out (w3.drewN m) (below_drewN HB3.out m)).2.2.2
            by_cases hkk:KK=2
            ·subst hkk
             cases X1 with
             | false =>
               refine reg25C w3 k _ c0 be oe Be7 NF de7 Be8 NO de8 Br0 ND dr0 Br1 NR dr1 SF SD SOU SRO hin (by have:=HLN.out; omega) a0_ a1_ a7_ a8_ b0_ b1_ cw1 cw2 cw3 cw4 hs1 _ _ ?_
               intro x118 x119 x120 x121 x122 x123 x124 x125 x126 x127 x128 x129 x130 x131 x132 x133 x134 x135 x136 x137 x138 x139 x140 x141 x142 x143 x144 x145 x146 x147 x148 x149 x150 x151 x152 x153 x154 x155 x156 x157 x158 x159 x160 x161 x162 x163 x164 x165 x166 x167 x168 m
               go_step
               go_meet
               exact ⟨by rw [← HCC.out,HAT.out,HTN.out]; simp,hide (below_drewN HB3.out m)⟩
             | true =>
               cases X2 with
               | false =>
                 refine reg25D w3 k _ c0 be oe Be7 NF de7 Be8 NO de8 Br0 ND dr0 Br1 NR dr1 SF SD SOU SRO hin (by have:=HLN.out; omega) a0_ a1_ a7_ a8_ b0_ b1_ cw1 cw2 cw3 cw4 hs1 hs2 _ _ ?_
                 intro x118 x119 x120 x121 x122 x123 x124 x125 x126 x127 x128 x129 x130 x131 x132 x133 x134 x135 x136 x137 x138 x139 x140 x141 x142 x143 x144 x145 x146 x147 x148 x149 x150 x151 x152 x153 x154 x155 x156 x157 x158 x159 x160 x161 x162 x163 x164 x165 x166 x167 x168 m
                 go_step
                 go_meet
                 exact ⟨by rw [← HCC.out,HAT.out,HTN.out]; simp,hide (below_drewN HB3.out m)⟩
               | true =>
                 by_cases hj0:j=0
                 ·have HDJ:=hide (decide_eq_true hj0)
                  refine reg25E w3 k _ c0 be oe Be7 NF de7 Be8 NO de8 Br0 ND dr0 Br1 NR dr1 SF SD SOU SRO hin (by have:=HLN.out; omega) a0_ a1_ a7_ a8_ b0_ b1_ cw1 cw2 cw3 cw4 hs1 hs2 hj0 _ _ ?_
                  intro x118 x119 x120 x121 x122 x123 x124 x125 x126 x127 x128 x129 x130 x131 x132 x133 x134 x135 x136 x137 x138 x139 x140 x141 x142 x143 x144 x145 x146 x147 x148 x149 x150 x151 x152 x153 x154 x155 x156 x157 x158 x159 x160 x161 x162 x163 x164 x165 x166 x167 x168 m
                  go_step
                  go_meet
                  exact ⟨by rw [← HCC.out,HAT.out,HTN.out,HDJ.out]; rfl,hide (below_drewN HB3.out m)⟩
                 ·have hj2:j - 1 < s.reals.length:=by omega
                  obtain ⟨bp,op,ccp,Bp0,dp0,Bp1,dp1,Bp2,dp2,-,ep,lp,qp0,qp1,qp2,ip0,ip1,ip2⟩:=DReal.elem H2.out (Below.refl _ _) hj2
                  obtain ⟨rfl,rfl⟩:br=bp∧orr=op:=by have:=ep rfl; simpa using this
                  have hrp:=((DStore.oks_iff s).1 HO.out).2.2 _ (List.getElem_mem hj2)
                  obtain ⟨z,hz9⟩:∃ z,realCmp (s.reals[j - 1]) (s.reals[j])=z:=⟨_,rfl⟩
                  have hcz:(!C)=decide (0≤z):=by
                   rw [← HCC.out,HAT.out,HTN.out,decide_eq_false hj0,List.getElem?_eq_getElem hj2]
                   have e1:inLess (asIn (s.reals[j - 1])) (asIn (s.reals[j]))=decide (z < 0):=by rw [← hz9]; rfl
                   simp only [decide_true,Bool.true_and,Bool.false_or,e1]
                   by_cases h:z < 0
                   ·rw [decide_eq_true h,decide_eq_false (by omega)]; rfl
                   ·rw [decide_eq_false h,decide_eq_true (by omega)]; rfl
                  have HCZ:=hide hcz
                  have hcm:=fun W (hb:Below wa.heap.size wa W)=>specRealCmp (s.reals[j - 1]) (s.reals[j]) hrp HRO.out _ _ W (DReal.lay (ip0.step (HBA.out.trans (hb.mono HBA.out.size))) (ip1.step (HBA.out.trans (hb.mono HBA.out.size))) (ip2.step (HBA.out.trans (hb.mono HBA.out.size)))) (DReal.lay (HI0.out.step (HBA.out.trans (hb.mono HBA.out.size))) (HI1.out.step (HBA.out.trans (hb.mono HBA.out.size))) (HI2.out.step (HBA.out.trans (hb.mono HBA.out.size))))
                  rw [hz9,HEN.out.1,HEN.out.2.1,HEN.out.2.2] at hcm
                  obtain ⟨NP0,hNP0⟩:∃ x,(s.reals[j - 1]).drv.length=x:=⟨_,rfl⟩
                  obtain ⟨NP1,hNP1⟩:∃ x,(s.reals[j - 1]).out.length=x:=⟨_,rfl⟩
                  obtain ⟨NP2,hNP2⟩:∃ x,(s.reals[j - 1]).path.length=x:=⟨_,rfl⟩
                  rw [hNP0,hNP1,hNP2] at hcm
                  rw [hNP0] at qp0
                  rw [hNP1] at qp1
                  rw [hNP2] at qp2
                  have HCM:=hide hcm
                  have HP0:=hide (fun W (hb:Below w.heap.size w W)=>(hb.cell (p:=⟨br,orr + (j - 1) * 3,none⟩) lp).trans qp0)
                  have HP1:=hide (fun W (hb:Below w.heap.size w W)=>(hb.cell (p:=⟨br,orr + (j - 1) * 3 + 1,none⟩) lp).trans qp1)
                  have HP2:=hide (fun W (hb:Below w.heap.size w W)=>(hb.cell (p:=⟨br,orr + (j - 1) * 3 + 2,none⟩) lp).trans qp2)
                  refine reg25F w3 k _ c0 _ c2 be oe br orr Be7 NF de7 Be8 NO de8 Br0 ND dr0 Br1 NR dr1 Br2 NPA dr2 Bp0 NP0 dp0 Bp1 NP1 dp1 Bp2 NP2 dp2 SF SD SOU SRO z hin (by have:=HLN.out; omega) hlt (by omega) (by have:=HLN.out; omega) hs1 hs2 (fun W hb0=>by
                   have hb:=HB3.out.trans (hb0.mono HB3.out.size)
                   have hz:=HZ3.out.trans (hb0.mono HZ3.out.size)
                   obtain ⟨t0,t1,t2,t3,t4,t5,t6,t7,t8,t9,t10⟩:=HSS1.out W hb hz
                   exact ⟨t0,t1,t2,t3,t4,t5,t6,(HX.out W hb).cell (j:=2) rfl,HP0.out W (HBA.out.trans (hb.mono HBA.out.size)),HP1.out W (HBA.out.trans (hb.mono HBA.out.size)),HP2.out W (HBA.out.trans (hb.mono HBA.out.size)),t7,t8,t9,t10⟩) (fun W hb0=>HCM.out W (HB3.out.trans (hb0.mono HB3.out.size))) _ _ ?_
                  intro x118 x119 x120 x121 x122 x123 x124 x125 x126 x127 x128 x129 x130 x131 x132 x133 x134 x135 x136 x137 x138 x139 x140 x141 x142 x143 x144 x145 x146 x147 x148 x149 x150 x151 x152 x153 x154 x155 x156 x157 x158 x159 x160 x161 x162 x163 x164 x165 x166 x167 x168 W hW
                  go_step
                  go_meet
                  exact ⟨by rw [HCZ.out],hide (HB3.out.trans (hW.mono HB3.out.size))⟩
            ·have hk9:(KK != 2)=true:=by simp [hkk]
             have HDK:=hide (decide_eq_false hkk)
             refine reg25B w3 k _ c0 be oe KK Be7 NF de7 Be8 NO de8 Br0 ND dr0 Br1 NR dr1 SF SD SOU SRO hin (by have:=HLN.out; omega) a0_ a1_ a7_ a8_ b0_ b1_ cw1 cw2 cw3 cw4 hk9 _ _ ?_
             intro x118 x119 x120 x121 x122 x123 x124 x125 x126 x127 x128 x129 x130 x131 x132 x133 x134 x135 x136 x137 x138 x139 x140 x141 x142 x143 x144 x145 x146 x147 x148 x149 x150 x151 x152 x153 x154 x155 x156 x157 x158 x159 x160 x161 x162 x163 x164 x165 x166 x167 x168 m
             go_step
             go_meet
             exact ⟨by rw [← HCC.out,HAT.out,HTN.out,HDK.out]; rfl,hide (below_drewN HB3.out m)⟩
           case rest =>
            obtain ⟨rfl,HB9⟩:=hcut
            cases C with
            | true =>
              go_wp2_with fail
              go_roundw
              case rel=>exact ⟨j + 1,by omega,by go_num,hide (fun m hm=>by
               rcases Nat.lt_or_ge m j with h | h
               ·exact HXX.out m h
               ·obtain rfl:m=j:=by omega
                exact HCC.out),HB9⟩
              case measure=>simp [intOf]; omega
            | false =>
              have HF:=hide (show storeOk s=false by
               rw [HSTR.out,Bool.eq_false_iff]
               intro h
               have:=rangeAll.1 h j hlt
               rw [HCC.out] at this
               cases this)
              go_wp2_with fail
              go_ret
              exact ⟨ret_bool HF.out.symm,HBA.out.trans (HB9.out.mono HBA.out.size)⟩
          ·have hla2:atI s.objs (s.reals[j]).path = -1:=by rw [atI,if_neg hin]
           rw [hla2] at HLA
           have HTN:=hide (show realThere s s.reals[j]=false by rw [HTH.out,List.getElem?_eq_none (by omega)])
           go_upto_region 25 with (go_at_call 76; refine HLA.out.mono ?_; rintro e w3 ⟨rfl,b3⟩; have HB3:=hide (HBO_.out.trans (b3.mono HBO_.out.size)); have HZ3:=hide b3; clear b3)
           have HBD:=hide (show Below wa.heap.size wa w3.drew from HB3.out.drew)
           have HSS:=hide (fun W (_:Below wa.heap.size wa W)=>trivial)
           go_cut [169] (fun v wx=>v=.bool (!C)∧Hid (Below wa.heap.size wa wx))
           case first =>
            refine reg25A w3 _ _ ?_
            intro x118 x119 x120 x121 x122 x123 x124 x125 x126 x127 x128 x129 x130 x131 x132 x133 x134 x135 x136 x137 x138 x139 x140 x141 x142 x143 x144 x145 x146 x147 x148 x149 x150 x151 x152 x153 x154 x155 x156 x157 x158 x159 x160 x161 x162 x163 x164 x165 x166 x167 x168 m
            go_step
            go_meet
            exact ⟨by rw [← HCC.out,HAT.out,HTN.out]; rfl,hide (below_drewN HB3.out m)⟩
           case rest =>
            obtain ⟨rfl,HB9⟩:=hcut
            cases C with
            | true =>
              go_wp2_with fail
              go_roundw
              case rel=>exact ⟨j + 1,by omega,by go_num,hide (fun m hm=>by
               rcases Nat.lt_or_ge m j with h | h
               ·exact HXX.out m h
               ·obtain rfl:m=j:=by omega
                exact HCC.out),HB9⟩
              case measure=>simp [intOf]; omega
            | false =>
              have HF:=hide (show storeOk s=false by
               rw [HSTR.out,Bool.eq_false_iff]
               intro h
               have:=rangeAll.1 h j hlt
               rw [HCC.out] at this
               cases this)
              go_wp2_with fail
              go_ret
              exact ⟨ret_bool HF.out.symm,HBA.out.trans (HB9.out.mono HBA.out.size)⟩
         ·obtain rfl:j=s.reals.length:=by omega
          have hall:storeOk s=true:=by
           rw [HR2.out,HAL.out]
           exact rangeAll.2 fun m hm=>HXX.out m hm
          have HR9:=hide hall
          clear bxr hall
          go_wp2_with fail
          go_ret
          exact ⟨ret_bool HR9.out.symm,HBA.out.trans (HB.out.mono HBA.out.size)⟩
end Go.Proofs.YtgaadpkefncnmaaGreatDoor
