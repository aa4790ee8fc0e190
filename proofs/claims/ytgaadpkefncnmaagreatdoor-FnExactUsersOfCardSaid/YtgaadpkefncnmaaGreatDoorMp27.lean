/-
  Parts of the proof: ObjOk4.
-/
import Derived.Test.YtgaadpkefncnmaaGreatDoorMp19
import Derived.Test.YtgaadpkefncnmaaGreatDoorMp1
import Derived.Test.YtgaadpkefncnmaaGreatDoorMp7
import Derived.Laws.BytesArg
import Derived.IntWalk
import Derived.Deep.QuietTactic
import Derived.BigQuiet
import Derived.Deep.Cut
import Derived.Deep.DeepCutAuto
import Derived.Deep.CutBlock
import Derived.Deep.RegionWith
/-
  The model's ObjOk.
-/
namespace Go.Proofs.YtgaadpkefncnmaaGreatDoor
open Go.RowKit
set_option linter.unusedVariables false
set_option linter.unusedSimpArgs false
theorem objOk_eq (o:DObj):objOk o=(!objBad1 o && (!objBad2 o && (o.refs.all (fun r=>contL o.tree.dat r) && decide (made o=o.name)))):=by
 unfold objOk objBad1 objBad2
 simp only [Bool.not_not,Bool.and_assoc]
theorem nameOk_len {l:List Int} (h:nameOk l=true):l.length=16:=by
 rw [nameOk,Bool.and_eq_true,decide_eq_true_eq] at h
 exact h.1
theorem objBad2_len {o:DObj} (h:objBad2 o=false):o.frm.length≤1000∧o.out.length≤1000:=by
 unfold objBad2 at h
 rw [Bool.not_eq_false',Bool.and_eq_true] at h
 have h1:=h.1
 split at h1
 ·rw [Bool.and_eq_true] at h1
  have:=nameOk_len h1.1
  have:=entry_len h1.2
  omega
 ·have:=of_decide_eq_true h1
  omega
theorem nameOf_byt (k:Int) (l:List Int):Byt (nameOf k l):=by
 unfold nameOf
 split
 ·exact fun x hx=>by cases hx
 ·exact b32_byt _
theorem made_byt (o:DObj):Byt (made o):=by
 unfold made
 split
 ·exact nameOf_byt _ _
 ·split <;> exact nameOf_byt _ _
theorem all_at {p:List Int→Bool} {l:List (List Int)} : l.all p=true↔∀ m,m < l.length→p (l.getD m [])=true:=by
 rw [List.all_eq_true]
 constructor
 ·intro h m hm
  have:l.getD m []∈l:=by simp [List.getD,List.getElem?_eq_getElem hm]
  exact h _ this
 ·intro h x hx
  obtain ⟨m,hm,rfl⟩:=List.getElem_of_mem hx
  have:=h m hm
  simpa [List.getD,List.getElem?_eq_getElem hm] using this
set_option maxRecDepth 20000 in
set_option maxHeartbeats 3200000 in
theorem specObjOk (o:DObj) (hok:oks o.cells) (hbk:bulks o.cells≤1048576) (us:List Value) (w:World) (hs:Ins w o.cells us) :
  Calls Tryz.prog 110 #[.agg us.toArray] w fun e w'=>e=.returned (.bool (objOk o))∧Below w.heap.size w w':=by
 obtain ⟨A0,c0,A3,c3,A4,c4,A5,c5,A6,c6,A7,c7,A8,c8,rfl,h0,h3,h4,h5,h6,h7,h8⟩:=DObj.view hs
 obtain ⟨wa,hwa⟩:∃ wa,w.alloc (.cells #[.slice A0 o.name.length c0,.int .i64 o.kind,.int .i64 o.tree.kind,.slice A3 o.tree.data.length c3,.slice A4 o.tree.names.length c4,.slice A5 o.tree.kids.length c5,.slice A6 o.refs.length c6,.slice A7 o.frm.length c7,.slice A8 o.out.length c8] 49)=wa:=⟨_,rfl⟩
 have ba:Below w.heap.size w wa:=by rw [← hwa]; exact (Below.refl _ _).alloc (Nat.le_refl _) _
 have bx:Box wa w.heap.size 49 [.slice A0 o.name.length c0,.int .i64 o.kind,.int .i64 o.tree.kind,.slice A3 o.tree.data.length c3,.slice A4 o.tree.names.length c4,.slice A5 o.tree.kids.length c5,.slice A6 o.refs.length c6,.slice A7 o.frm.length c7,.slice A8 o.out.length c8]:=by rw [← hwa]; exact Box.new w _ _
 have hz:w.heap.size < wa.heap.size:=bx.lt
 obtain ⟨hb0,hkr,htr,hb6,hb7,hb8⟩:=(DObj.oks_iff o).1 hok
 have hbk2:=bulk_Obj o
 have hby:=T.byts_of _ htr
 have hT:=(obj_tree h3 h4 h5).below ba
 have hN6:=(h6.step ba).rdN
 have hl6:∀ n∈o.refs,n.length≤1048576:=fun n hn=>by have:=sumLen_mem2 hn; omega
 have x0:=bx.cell (j:=0) rfl
 have x1:=bx.cell (j:=1) rfl
 have x2:=bx.cell (j:=2) rfl
 have x3:=bx.cell (j:=3) rfl
 have x4:=bx.cell (j:=4) rfl
 have x5:=bx.cell (j:=5) rfl
 have x6:=bx.cell (j:=6) rfl
 have x7:=bx.cell (j:=7) rfl
 have x8:=bx.cell (j:=8) rfl
 have hTok:=specTreeOk o.tree hby _ wa hT
 have hSort:=fun W (hb:Below wa.heap.size wa W)=>specSorted o.refs hb6 _ W (hN6.below hb) hl6
 have HX:=hide (fun W (hb:Below wa.heap.size wa W)=>(bx.step hb))
 have HBA:=hide ba
 have HTO:=hide hTok
 have HSO:=hide hSort
 have HEQ:=hide (objOk_eq o)
 have HIN:=hide hs
 have HO:=hide hok
 have HT:=hide hT
 have H0:=hide h0
 have H6:=hide hN6
 have H7:=hide h7
 have H8:=hide h8
 have hbl:o.refs.length≤1048576∧o.frm.length≤1048576∧o.out.length≤1048576∧o.name.length≤1048576:=by omega
 have HBL:=hide hbl
 clear bx ba hTok hSort hs hok hT hN6 h0 h3 h4 h5 h6 h7 h8 hbk hbk2 hl6 hkr
 go_enter Tryz.func110,Tryz.ntmps110
 go_upto_region 1 with (fail)
 go_cut [0,31] (fun z v wx=>v=.bool (objBad1 o)∧Below wa.heap.size wa wx)
 case first =>
  have hb1:objBad1 o = !(decide (0≤o.kind∧o.kind≤2) && (treeOk o.tree && (ascP nameOk o.refs && decide (o.refs.length≤24)))):=rfl
  have HB1:=hide hb1
  clear hb1
  by_cases hk:0≤o.kind∧o.kind≤2
  ·have hk1:¬ o.kind < 0:=by omega
   have hk2:¬ 2 < o.kind:=by omega
   cases ht:treeOk o.tree with
   | false =>
     have hr:objBad1 o=true:=by rw [HB1.out,ht]; simp
     have HR:=hide hr
     have HT2:=HTO.out
     rw [ht] at HT2
     have HT3:=hide HT2
     clear HT2 hr ht
     go_wp2_with fail
     refine HT3.out.mono ?_
     rintro e w1 ⟨rfl,b1⟩
     have HBB:=hide b1
     clear b1
     go_wp2_with fail
     go_meet
     exact ⟨by rw [HR.out],HBB.out⟩
   | true =>
     have HT2:=HTO.out
     rw [ht] at HT2
     have HT3:=hide HT2
     clear HT2
     have HTE:=hide ht
     clear ht
     go_wp2_with fail
     refine HT3.out.mono ?_
     rintro e w1 ⟨rfl,b1⟩
     have HBB:=hide b1
     have y6:=(HX.out w1 b1).cell (j:=6) rfl
     have hS:=HSO.out w1 b1
     clear b1
     cases hsr:ascP nameOk o.refs with
     | false =>
       have hr:objBad1 o=true:=by rw [HB1.out,hsr]; simp
       have HR:=hide hr
       rw [hsr] at hS
       have HS2:=hide hS
       clear hS hr hsr
       go_wp2_with fail
       refine HS2.out.mono ?_
       rintro e w2 ⟨rfl,b2⟩
       have HB2:=hide (HBB.out.trans (b2.mono HBB.out.size))
       clear b2
       go_wp2_with fail
       go_meet
       exact ⟨by rw [HR.out],HB2.out⟩
     | true =>
       have hr:objBad1 o = !decide (o.refs.length≤24):=by rw [HB1.out,hsr,HTE.out,decide_eq_true hk]; simp
       have HR:=hide hr
       rw [hsr] at hS
       have HS2:=hide hS
       clear hS hr hsr
       go_wp2_with fail
       refine HS2.out.mono ?_
       rintro e w2 ⟨rfl,b2⟩
       have HB2:=hide (HBB.out.trans (b2.mono HBB.out.size))
       have z6:=(HX.out w2 HB2.out).cell (j:=6) rfl
       clear b2
       have hr2:objBad1 o=decide (24 < (o.refs.length:Int)):=by
        rw [HR.out]
        by_cases hl:o.refs.length≤24
        ·rw [decide_eq_true hl,decide_eq_false (by omega)]; rfl
        ·rw [decide_eq_false hl,decide_eq_true (by omega)]; rfl
       have HR2:=hide hr2
       clear hr2
       go_wp2_with fail
       go_meet
       exact ⟨by rw [HR2.out],HB2.out⟩
  ·have hr:objBad1 o=true:=by rw [HB1.out,decide_eq_false hk]; simp
   have HR:=hide hr
   clear hr
   by_cases hk1:o.kind < 0
   ·go_wp2_with fail
    go_meet
    exact ⟨by rw [HR.out],Below.refl _ _⟩
   ·have hk2:2 < o.kind:=by omega
    go_wp2_with fail
    go_meet
    exact ⟨by rw [HR.out],Below.refl _ _⟩
 case rest =>
  obtain ⟨rfl,hb⟩:=hcut
  have HB1:=hide hb
  clear hb HTO HSO
  cases h1:objBad1 o with
  | true =>
    have hr:objOk o=false:=by rw [HEQ.out,h1]; rfl
    have HR:=hide hr
    clear hr h1
    go_wp2_with fail
    go_ret
    exact ⟨ret_bool HR.out.symm,HBA.out.trans (HB1.out.mono HBA.out.size)⟩
  | false =>
    have hp:(0≤o.kind∧o.kind≤2)∧treeOk o.tree=true∧ascP nameOk o.refs=true:=by
     unfold objBad1 at h1
     simp at h1
     exact ⟨h1.1,h1.2.1,h1.2.2.1⟩
    have HP:=hide hp
    have H1:=hide h1
    have bc:=HX.out wc HB1.out
    have y1:=bc.cell (j:=1) rfl
    have y2:=bc.cell (j:=2) rfl
    have y7:=bc.cell (j:=7) rfl
    have y8:=bc.cell (j:=8) rfl
    have hNm:=specNameQ o.frm hb7 _ wc ((H7.out.step (HBA.out.trans (HB1.out.mono HBA.out.size))).rd) (by have:=HBL.out; omega)
    have hEn:=fun W (hb:Below wc.heap.size wc W)=>specEntryQ o.out hb8 _ W (((H8.out.step (HBA.out.trans (HB1.out.mono HBA.out.size))).step hb).rd)
    have HNM:=hide hNm
    have HEN:=hide hEn
    clear hp bc hNm hEn
    go_upto_region 4 with (fail)
    go_cut [3,74] (fun u v wx=>v=.bool (objBad2 o)∧wx=wc)
    case first =>
     by_cases hk:o.kind=2
     ·have hk0:¬ o.kind=0:=by omega
      have ek:(o.kind == 2)=true:=by simp [hk]
      have ek0:(o.kind == 0)=false:=by simp [hk0]
      have HK:=hide hk
      clear hk hk0
      cases hn:nameOk o.frm with
      | false =>
        have hc:=HNM.out
        rw [hn] at hc
        have HC:=hide hc
        clear hc
        have hr:objBad2 o=true:=by unfold objBad2; simp [HK.out,hn]
        have HR:=hide hr
        clear hr hn
        go_wp2_with fail
        refine HC.out.mono ?_
        rintro e w2 ⟨rfl,rfl⟩
        go_wp2_with fail
        go_meet
        exact ⟨by rw [HR.out],rfl⟩
      | true =>
        have hc:=HNM.out
        rw [hn] at hc
        have HC:=hide hc
        have hr:objBad2 o = !entryOk o.out:=by unfold objBad2; simp [HK.out,hn]
        have HR:=hide hr
        clear hc hr hn
        go_wp2_with fail
        refine HC.out.mono ?_
        rintro e w2 ⟨rfl,rfl⟩
        have hc2:=HEN.out wc (Below.refl _ _)
        cases he:entryOk o.out with
        | false =>
          rw [he] at hc2
          have HC2:=hide hc2
          have hr2:objBad2 o=true:=by rw [HR.out,he]; rfl
          have HR2:=hide hr2
          clear hc2 hr2 he
          go_wp2_with fail
          refine HC2.out.mono ?_
          rintro e w2 ⟨rfl,rfl⟩
          go_wp2_with fail
          go_meet
          exact ⟨by rw [HR2.out],rfl⟩
        | true =>
          rw [he] at hc2
          have HC2:=hide hc2
          have hr2:objBad2 o=false:=by rw [HR.out,he]; rfl
          have HR2:=hide hr2
          clear hc2 hr2 he
          go_wp2_with fail
          refine HC2.out.mono ?_
          rintro e w2 ⟨rfl,rfl⟩
          go_wp2_with fail
          go_meet
          exact ⟨by rw [HR2.out],rfl⟩
     ·have ek:(o.kind == 2)=false:=by simp [hk]
      have HK:=hide hk
      clear hk
      by_cases hf:o.frm.length=0
      ·have f1:¬ 0 < (o.frm.length:Int):=by omega
       have f1n:¬ 0 < o.frm.length:=by omega
       have HF:=hide hf
       clear hf
       by_cases ho:o.out.length=0
       ·have f2:¬ 0 < (o.out.length:Int):=by omega
        have f2n:¬ 0 < o.out.length:=by omega
        have HO2:=hide ho
        clear ho
        by_cases hk0:o.kind=0
        ·have ek0:(o.kind == 0)=true:=by simp [hk0]
         have HK0:=hide hk0
         clear hk0
         by_cases ht:o.tree.kind=0
         ·have et:(o.tree.kind != 0)=false:=by simp [ht]
          have et2:=ht
          have HTK:=hide ht
          have hr:objBad2 o=false:=by unfold objBad2; simp [HK.out,HK0.out,HTK.out,List.eq_nil_of_length_eq_zero HF.out,List.eq_nil_of_length_eq_zero HO2.out]
          have HR:=hide hr
          clear hr
          go_wp2_with fail
          go_meet
          exact ⟨by rw [HR.out],rfl⟩
         ·have et:(o.tree.kind != 0)=true:=by simp [ht]
          have et2:=ht
          have HTK:=hide ht
          have hr:objBad2 o=true:=by unfold objBad2; simp [HK.out,HK0.out,HTK.out]
          have HR:=hide hr
          clear hr
          go_wp2_with fail
          go_meet
          exact ⟨by rw [HR.out],rfl⟩
        ·have ek0:(o.kind == 0)=false:=by simp [hk0]
         have HK0:=hide hk0
         clear hk0
         have hr:objBad2 o=false:=by unfold objBad2; simp [HK.out,HK0.out,List.eq_nil_of_length_eq_zero HF.out,List.eq_nil_of_length_eq_zero HO2.out]
         have HR:=hide hr
         clear hr
         go_wp2_with fail
         go_meet
         exact ⟨by rw [HR.out],rfl⟩
       ·have f2:0 < (o.out.length:Int):=by omega
        have f2n:0 < o.out.length:=by omega
        have hr:objBad2 o=true:=by unfold objBad2; simp [HK.out,show o.out≠[] from fun h=>ho (by rw [h]; rfl)]
        have HR:=hide hr
        clear hr
        go_wp2_with fail
        go_meet
        exact ⟨by rw [HR.out],rfl⟩
      ·have f1:0 < (o.frm.length:Int):=by omega
       have f1n:0 < o.frm.length:=by omega
       have hr:objBad2 o=true:=by unfold objBad2; simp [HK.out,show o.frm≠[] from fun h=>hf (by rw [h]; rfl)]
       have HR:=hide hr
       clear hr
       go_wp2_with fail
       go_meet
       exact ⟨by rw [HR.out],rfl⟩
    case rest =>
     obtain ⟨rfl,rfl⟩:=hcut
     clear HNM HEN
     have hAll:=HEQ.out
     rw [H1.out] at hAll
     cases h2:objBad2 o with
     | true =>
       have hr:objOk o=false:=by rw [hAll,h2]; rfl
       have HR:=hide hr
       clear hr h2 hAll
       go_wp2_with fail
       go_ret
       exact ⟨ret_bool HR.out.symm,HBA.out.trans (HB1.out.mono HBA.out.size)⟩
     | false =>
       have hfo:o.frm.length≤1000∧o.out.length≤1000:=objBad2_len h2
       have hM:=fun W (hb:Below w.heap.size w W)=>specMade o HO.out HP.out.2.1 hfo.1 hfo.2 _ W (HIN.out.step hb)
       have hdl:=treeOk_dat HP.out.2.1
       have hdb:=T.dat_byt _ hby
       have hd:=specData o.tree [] (.slice none 0 0) _ wc.heap.size wc wc (World.ownsRow_nil _ _ _ _) rfl (Below.refl _ _) (HT.out.below HB1.out) (by simp; omega)
       have hr:objOk o=(o.refs.all (fun r=>contL o.tree.dat r) && decide (made o=o.name)):=by rw [hAll,h2]; rfl
       rw [List.nil_append] at hd
       have bc:=HX.out wc HB1.out
       have y3:=bc.cell (j:=3) rfl
       have y4:=bc.cell (j:=4) rfl
       have y5:=bc.cell (j:=5) rfl
       have HM:=hide hM
       have HD:=hide hd
       have HR:=hide hr
       generalize hdat:o.tree.dat=dat at *
       clear hM hd hr h2 hAll bc hfo
       go_wp2_with fail
       refine HD.out.mono ?_
       rintro e w2 ⟨v2,rfl,o2,hh⟩
       have HB2:=hide (HB1.out.trans (hh.below.mono HB1.out.size))
       have HV2:=hide (own_rd o2)
       clear o2 hh HD y3 y4 y5 y1 y2 y7 y8
       go_wp2_with fail
       go_loopw [5] (fun i wr=>∃ j:Nat,j≤o.refs.length∧i=.int .i64 j∧Hid (∀ m,m < j→contL dat (o.refs.getD m [])=true)∧Below w2.heap.size w2 wr) (fun i _=>o.refs.length - (intOf i).toNat)
       case atStart=>exact ⟨0,Nat.zero_le _,rfl,hide (fun m hm=>by omega),Below.refl _ _⟩
       case round =>
        obtain ⟨j,hj,rfl,HXX,hbel⟩:=hrel
        have HBr:=hide (HB2.out.trans (hbel.mono HB2.out.size))
        have HBw:=hide hbel
        have br:=HX.out wr HBr.out
        have y6:=br.cell (j:=6) rfl
        by_cases hlt:j < o.refs.length
        ·obtain ⟨b,off,x,hA',hblt,cx,rx⟩:=H6.out.get hlt
         subst hA'
         have q1:=(HBr.out.cell (p:=⟨b,off + j,none⟩) hblt).trans cx
         have hmj:o.refs.getD j []∈o.refs:=by simp [List.getD,List.getElem?_eq_getElem hlt]
         have h16:=asc_names HP.out.2.2 _ hmj
         have hcall:=specMent dat (o.refs.getD j []) hdb (hb6 _ hmj) (by omega) v2 x wr (HV2.out.below hbel) (rx.below HBr.out) (by omega) (by omega)
         have k1:(j:Int) < ((o.refs.length:Nat):Int):=by omega
         have k0:(0:Int)≤(j:Int):=by omega
         have k2:(j:Int).toNat=j:=by omega
         cases hcn:contL dat (o.refs.getD j []) with
         | false =>
           rw [hcn] at hcall
           have hr:objOk o=false:=by
            rw [HR.out,Bool.and_eq_false_iff]
            left
            rw [Bool.eq_false_iff]
            intro h
            rw [all_at.1 h j hlt] at hcn
            cases hcn
           have HC:=hide hcall
           have HR2:=hide hr
           clear hcall hr hcn hbel br rx cx
           go_wp2_with fail
           refine HC.out.mono ?_
           rintro e w3 ⟨rfl,b3⟩
           have HB3:=hide (HBA.out.trans ((HBr.out.trans (b3.mono HBr.out.size)).mono HBA.out.size))
           clear b3
           go_wp2_with fail
           go_ret
           exact ⟨ret_bool HR2.out.symm,HB3.out⟩
         | true =>
           rw [hcn] at hcall
           have HC:=hide hcall
           have HCN:=hide hcn
           clear hcall hcn hbel br rx cx
           go_wp2_with fail
           refine HC.out.mono ?_
           rintro e w3 ⟨rfl,b3⟩
           have HB3:=hide (HBw.out.trans (b3.mono HBw.out.size))
           clear b3
           go_wp2_with fail
           go_roundw
           case rel=>exact ⟨j + 1,by omega,by go_num,hide (fun m hm=>by
            rcases Nat.lt_or_ge m j with h | h
            ·exact HXX.out m h
            ·obtain rfl:m=j:=by omega
             exact HCN.out),HB3.out⟩
           case measure=>simp [intOf]; omega
        ·obtain rfl:j=o.refs.length:=by omega
         have hr:objOk o=decide (made o=o.name):=by
          rw [HR.out,all_at.2 (fun m hm=>HXX.out m hm)]
          rfl
         have HBW:=hide (HBA.out.trans (HBr.out.mono HBA.out.size))
         have y0:=br.cell (j:=0) rfl
         have y1:=br.cell (j:=1) rfl
         have y2:=br.cell (j:=2) rfl
         have y3:=br.cell (j:=3) rfl
         have y4:=br.cell (j:=4) rfl
         have y5:=br.cell (j:=5) rfl
         have y7:=br.cell (j:=7) rfl
         have y8:=br.cell (j:=8) rfl
         have hy0:=fun W (hb:Below wa.heap.size wa W)=>(HX.out W hb).cell (j:=0) rfl
         have hcn:=fun W (hb:Below w.heap.size w W)=>conv_rd (P:=Tryz.prog) Tryz.underlying39 Tryz.underlying5 Tryz.underlying9 ((H0.out.step hb).rd)
         have cn0:=hcn wr HBW.out
         have cn1:=hcn wr.drew (HBW.out.trans (Below.refl _ _).drew)
         have heq:=str_eq (made_byt o) hb0
         have HR2:=hide hr
         have HY0:=hide hy0
         have HCN:=hide hcn
         have HEQ2:=hide heq
         clear hr hbel br hy0 hcn heq
         go_upto_region 12 with (fail)
         go_region_law (first
          | (go_simp; go_at_call 162; refine (HM.out _ (HBW.out.trans (Below.refl _ _).drew)).mono ?_; rintro e w3 ⟨v3,rfl,o3,b3⟩; have cm:=conv_rd (P:=Tryz.prog) Tryz.underlying39 Tryz.underlying5 Tryz.underlying9 o3.rd; have bb3:=(Below.refl wr.heap.size wr).drew.trans b3; have z0:=HY0.out w3 (HBr.out.trans (bb3.mono HBr.out.size)); have cn3:=HCN.out w3 (HBW.out.trans (bb3.mono HBW.out.size))))
         all_goals
          have HB3:=hide (HBW.out.trans (bb3.mono HBW.out.size))
          go_wp2
          go_ret
          exact ⟨ret_bool (HEQ2.out.trans HR2.out.symm),HB3.out⟩
end Go.Proofs.YtgaadpkefncnmaaGreatDoor
