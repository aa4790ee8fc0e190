/-
  Parts of the proof: ObjNamesS, ObjNamesI, ObjNamesL.
-/
import Derived.Test.YtgaadpkefncnmaaGreatDoorMp40
import Derived.Test.YtgaadpkefncnmaaGreatDoorMp49
import Derived.Test.YtgaadpkefncnmaaGreatDoorMp1
import Derived.Test.YtgaadpkefncnmaaGreatDoorMp29
import Derived.Laws.BytesArg
import Derived.IntWalk
import Derived.Deep.QuietTactic
import Derived.BigQuiet
import Derived.Deep.Cut
import Derived.Deep.DeepCutAuto
import Derived.Deep.CutBlock
import Derived.Deep.RegionWith
import Derived.Test.YtgaadpkefncnmaaGreatDoorMp45
import Derived.Test.YtgaadpkefncnmaaGreatDoorMp48
/-
  ObjNames: the model.
-/
namespace Go.Proofs.YtgaadpkefncnmaaGreatDoor
open Go.RowKit
set_option linter.unusedVariables false
set_option linter.unusedSimpArgs false
set_option maxRecDepth 20000 in
set_option maxHeartbeats 3200000 in
theorem specObjNames (s:DStore) (hok:oks s.cells) (hbk:bulks s.cells≤1048576) (us:List Value) (w:World) (hs:Ins w s.cells us) :
  Calls Tryz.prog 16 #[.agg us.toArray] w fun e w'=>∃ v F,e=.returned v∧Lie w' (names (objNamesR s)) v F∧Fresh w.heap.size w' F∧Below w.heap.size w w':=by
 obtain ⟨i8,hi8,hz80,hz81,hz82⟩:=info_parts u8info
 have hsx:=hs
 have hnl:∀ o∈s.objs,o.name.length≤1048576:=fun o ho=>by
  have h1:=bulks_mem (f:=DObj.cells) ho
  have h2:=bulk_Obj o
  have h3:=bulk_Store s
  omega
 have hol:s.objs.length≤1048576:=by have h3:=bulk_Store s; omega
 obtain ⟨A0,c0,A1,c1,A2,c2,rfl,h0,h1,h2⟩:=DStore.view hs
 obtain ⟨wa,hwa⟩:∃ wa,w.alloc (.cells #[.slice A0 s.objs.length c0,.slice A1 s.roots.length c1,.slice A2 s.reals.length c2] 32)=wa:=⟨_,rfl⟩
 have ba:Below w.heap.size w wa:=by rw [← hwa]; exact (Below.refl _ _).alloc (Nat.le_refl _) _
 have bx:Box wa w.heap.size 32 [.slice A0 s.objs.length c0,.slice A1 s.roots.length c1,.slice A2 s.reals.length c2]:=by rw [← hwa]; exact Box.new w _ _
 have hz:w.heap.size < wa.heap.size:=bx.lt
 have x0:=bx.cell (j:=0) rfl
 have x1:=bx.cell (j:=1) rfl
 have x2:=bx.cell (j:=2) rfl
 have HX:=hide (fun W (hb:Below wa.heap.size wa W)=>(bx.step hb))
 have HBA:=hide ba
 have HOK:=hide (specStoreOk s hok hbk _ wa (hsx.step ba))
 have HO:=hide (show objNamesR s=if storeOk s then objNames s.objs else [] from rfl)
 have HNL:=hide hnl
 have H0:=hide (h0.step ba)
 obtain ⟨T,hT⟩:∃ T,storeOk s=T:=⟨_,rfl⟩
 rw [hT] at HOK HO
 obtain ⟨N,hN⟩:∃ N,s.objs.length=N:=⟨_,rfl⟩
 rw [hN] at hol HX HOK bx hwa x0
 have HN:=hide hN
 simp only [hN]
 clear bx ba hok hbk hs hsx h0 h1 h2 hT hnl hN
 go_enter Tryz.func16,Tryz.ntmps16
 go_wp2_with fail
 refine HOK.out.mono ?_
 rintro e w1 ⟨rfl,b1⟩
 have HB1:=hide b1
 clear x0 x1 x2 b1
 cases T with
 | false =>
   have HR:=hide (show objNamesR s = [] by rw [HO.out]; rfl)
   go_wp2_with fail
   go_ret
   exact ⟨_,[],rfl,by rw [HR.out]; exact lie_nilN _,Fresh.nil _ _,HBA.out.trans (HB1.out.mono HBA.out.size)⟩
 | true =>
   have HR:=hide (show objNamesR s=objNames s.objs by rw [HO.out]; rfl)
   go_wp2_with fail
   go_loopw [3,4] (fun u kv wr=>∃ j:Nat,j≤N∧kv=.int .i64 j∧Hid (∃ F,RowF wa.heap.size wr 39 1 j (rawss (objNames (s.objs.take j))) u F)∧Hid (Below wa.heap.size wa wr)) (fun _ kv _=>N - (intOf kv).toNat)
   case atStart=>exact ⟨0,Nat.zero_le _,rfl,hide ⟨[],RowF.nil _ _ _ _ (by decide)⟩,HB1⟩
   case round =>
    clear HB1
    obtain ⟨j,hj,rfl,HX2,HB⟩:=hrel
    have y0:=(HX.out wr HB.out).cell (j:=0) rfl
    by_cases hlt:j < N
    ·have hjn:j < s.objs.length:=by rw [HN.out]; exact hlt
     have hbw:Below wa.heap.size wa wr:=HB.out
     obtain ⟨be,oe,cce,Be0,de0,Be3,de3,Be4,de4,Be5,de5,Be6,de6,Be7,de7,Be8,de8,-,ee,le,qe0,-,-,-,-,-,-,-,-,ie0,-,-,-,-,-,-⟩:=DObj.elem H0.out hbw hjn
     obtain rfl:=ee rfl
     have hx:=objNames_next hjn
     have hnl:=HNL.out _ (List.getElem_mem hjn)
     have s1:w.heap.size < wr.heap.size:=Nat.lt_of_lt_of_le hz hbw.size
     have s2:be < wr.heap.size:=Nat.lt_of_lt_of_le le hbw.size
     have k1:(j:Int) < (N:Int):=by omega
     have k0:(0:Int)≤(j:Int):=by omega
     have k2:(j:Int).toNat=j:=by omega
     have hrd:=(ie0.step hbw).rd
     generalize (s.objs[j]).name=n at *
     have HRD:=hide hrd
     obtain ⟨L,hL⟩:∃ L,n.length=L:=⟨_,rfl⟩
     rw [hL] at qe0 hnl HRD
     have HL:=hide hL
     obtain ⟨F,hR⟩:=HX2.out
     have HR2:=hide hR
     have HNX:=hide hx
     have hlo:wa.heap.size≤wr.heap.size:=hbw.size
     clear hR hx hL ie0 hrd hbw HX2
     go_wp2_with (first
      | (at_builtin; refine wpList_app _ rfl (.tmp 16) (.tmp 22) _ rfl wr.heap.size 5 i8 _ 1 Tryz.underlying39 hi8 hz80 hz81 hz82 rfl _ 0 [] rfl (own_lit0 wr _) _ (bs n) rfl (HRD.out.alloc _) (bs_one _) (by rw [bs_length,HL.out]; simp only [maxLen]; omega) (by rw [bs_length,HL.out]; omega) (by simp) ?_; intro v1 w3 own1 gr1; have hb1_:=below_app0 gr1; have ho1:=own_len (own_cells own1 (List.nil_append _)) (show 0 + (bs n).length=n.length by rw [bs_length]; omega); obtain ⟨A1_,c1_,hv1,-,-⟩:=own_slice ho1; subst hv1; have HB3:=hide hb1_; obtain ⟨J,lie1,fr1⟩:=own_freshR ho1; have HJ:=hide fr1; have HL1:=hide (lies_one lie1); have HR3:=hide (HR2.out.row.step hb1_); have HFA:=hide (HR2.out.far fr1); have hlo3:wa.heap.size≤w3.heap.size:=(by have:=hb1_.size; omega); clear own1 gr1 hb1_ ho1 lie1 fr1)
      | (at_builtin; refine wpList_row1 rfl rfl HR3.out HL1.out HFA.out rfl rfl rfl Tryz.underlying23 inf_bytes rfl (by decide) (by decide) (by omega) hlo3 ?_; intro v3 w4 R3 B3 g3; have HR4:=hide (HR2.out.snoc HB3.out HJ.out hlo R3 g3); have HB4:=hide ((HB.out.trans (HB3.out.mono hlo)).trans B3); clear R3 B3 g3))
     go_roundw
     case rel=>exact ⟨j + 1,by omega,by go_num,hide ⟨_,by rw [HNX.out,rawss_snoc]; exact HR4.out⟩,HB4⟩
     case measure=>simp [intOf]; omega
    ·obtain rfl:j=N:=by omega
     have e2:s.objs.take j=s.objs:=List.take_of_length_le (by rw [HN.out]; omega)
     rw [e2] at HX2
     clear e2
     go_wp2_with fail
     go_ret
     obtain ⟨F,hR⟩:=HX2.out
     obtain ⟨l1,l2⟩:=hR.done
     have e3:j=(objNames s.objs).length:=by rw [objNames_len]; exact HN.out.symm
     have l3:Lie wr (names (objNames s.objs)) _ _:=e3 ▸ l1
     exact ⟨_,_,rfl,by rw [HR.out]; exact l3,l2.base HBA.out.size,HBA.out.trans (HB.out.mono HBA.out.size)⟩
end Go.Proofs.YtgaadpkefncnmaaGreatDoor
/-
  ObjNames: the program.
-/
namespace Go.Proofs.YtgaadpkefncnmaaGreatDoor
open Go.RowKit
set_option linter.unusedVariables false
set_option linter.unusedSimpArgs false
set_option maxRecDepth 20000 in
set_option maxHeartbeats 3200000 in
theorem implObjNames (s:DStore) (hok:oks s.cells) (hbk:bulks s.cells≤1048576) (us:List Value) (w:World) (hs:Ins w s.cells us) (hTb:Tab w) :
  Calls Tryz.prog 18 #[.agg us.toArray] w fun e w'=>∃ v F,e=.returned v∧Lie w' (names (objNamesR s)) v F∧Fresh w.heap.size w' F∧Below w.heap.size w w':=by
 have hsx:=hs
 obtain ⟨ok1,ok2,ok3⟩:=(DStore.oks_iff s).1 hok
 have hnl:∀ o∈s.objs,o.name.length≤1048576:=fun o ho=>by
  have h1:=bulks_mem (f:=DObj.cells) ho
  have h2:=bulk_Obj o
  have h3:=bulk_Store s
  omega
 have hol:s.objs.length≤1048576:=by have h3:=bulk_Store s; omega
 have hB:∀ o∈s.objs,Byt o.name:=fun o ho=>((DObj.oks_iff o).1 (ok1 o ho)).1
 obtain ⟨A0,c0,A1,c1,A2,c2,rfl,h0,h1,h2⟩:=DStore.view hs
 obtain ⟨wa,hwa⟩:∃ wa,w.alloc (.cells #[.slice A0 s.objs.length c0,.slice A1 s.roots.length c1,.slice A2 s.reals.length c2] 32)=wa:=⟨_,rfl⟩
 have ba:Below w.heap.size w wa:=by rw [← hwa]; exact (Below.refl _ _).alloc (Nat.le_refl _) _
 have bx:Box wa w.heap.size 32 [.slice A0 s.objs.length c0,.slice A1 s.roots.length c1,.slice A2 s.reals.length c2]:=by rw [← hwa]; exact Box.new w _ _
 have hz:w.heap.size < wa.heap.size:=bx.lt
 have x0:=bx.cell (j:=0) rfl
 have x1:=bx.cell (j:=1) rfl
 have x2:=bx.cell (j:=2) rfl
 have HBA:=hide ba
 have HOP:=hide (implOpen s hok hbk _ wa (hsx.step ba) (hTb.step ba))
 clear bx ba hok hbk hs hsx hTb h0 h1 h2
 go_enter Tryz.func18,Tryz.ntmps18
 go_wp2_with fail
 refine HOP.out.mono ?_
 rintro e w1 ⟨mr,mo,Av,nv,cv,rfl,b1,hst,hno⟩
 have HB1:=hide (HBA.out.trans (b1.mono HBA.out.size))
 obtain ⟨w2,hw2⟩:∃ W,w1.alloc (.cells #[.map mr,.map mo,.slice Av nv cv] 85)=W:=⟨_,rfl⟩
 have b2:Below w1.heap.size w1 w2:=by rw [← hw2]; exact (Below.refl _ _).alloc (Nat.le_refl _) _
 have bx2:Box w2 w1.heap.size 85 [.map mr,.map mo,.slice Av nv cv]:=by rw [← hw2]; exact Box.new w1 _ _
 have u1_:=bx2.cell (j:=1) rfl
 have HB2:=hide (HB1.out.trans (b2.mono HB1.out.size))
 have hcall:Calls Tryz.prog 65 #[.map mo] w2 fun e w'=>∃ v F,e=.returned v∧RowF w2.heap.size w' 39 1 (objNamesR s).length (rawss (objNamesR s)) v F∧Below w2.heap.size w2 w':=by
  cases hb:storeOk s with
  | false =>
    obtain ⟨-,rfl,-,-,-⟩:=hno hb
    have e1:objNamesR s = []:=by rw [objNamesR,hb]; rfl
    rw [e1]
    exact sortedO none (fun _=>none) [] w2 (MapS.nil w2) (NamesOf.nil fun _=>rfl) (by simp) (fun n h=>by cases h)
  | true =>
    obtain ⟨br,nr,cr,bo,no,q,f,rfl,rfl,-,-,-,g1,-,g2,g3,g4,g5⟩:=(hst hb).ok
    have e1:objNamesR s=objNames s.objs:=by rw [objNamesR,hb]; rfl
    have hasc:=((storeOk_iff s).1 hb).2.2.1
    rw [e1]
    refine sortedO (some bo) f (objNames s.objs) w2 (Or.inr ⟨bo,no,_,rfl,g3.step b2,by omega⟩) (g5.namesOf hasc hB) (by rw [objNames_len]; exact hol) (fun n hn=>?_)
    obtain ⟨o,ho,rfl⟩:=List.mem_map.1 hn
    exact hnl o ho
 have HC:=hide hcall
 have hlo:=HB2.out.size
 clear b1 b2 bx2 x0 x1 x2 HOP hst hno hcall hnl hol hB ok1 ok2 ok3
 obtain ⟨R,hR⟩:∃ R,objNamesR s=R:=⟨_,rfl⟩
 rw [hR] at HC
 have HRR:=hide hR
 clear hR
 go_wp2_with fail
 refine HC.out.mono ?_
 rintro e w3 ⟨v,F,rfl,hF,b3⟩
 have HB3:=hide (HB2.out.trans (b3.mono HB2.out.size))
 have HF:=hide hF
 obtain ⟨A3,c3,rfl,-,-⟩:=hF.row.form
 clear b3 hF
 go_wp2_with fail
 go_ret
 obtain ⟨l1,l2⟩:=HF.out.done
 exact ⟨_,_,rfl,by rw [HRR.out]; exact l1,l2.base hlo,HB3.out⟩
end Go.Proofs.YtgaadpkefncnmaaGreatDoor
/-
  The law ObjNames.
-/
namespace Go.Proofs.YtgaadpkefncnmaaGreatDoor
open Go.RowKit
set_option linter.unusedVariables false
set_option linter.unusedSimpArgs false
theorem lawObjNames (x0:DStore) (o0:oks x0.cells) (w:World) (u0:List Value) (E0:List Nat) (h0:Lies w x0.cells u0 E0) (hT:Tab w) :
  Calls Tryz.prog 3 #[.agg u0.toArray] w fun e w'=>e=.returned (.bool true)∧Below w.heap.size w w':=by
 refine walkObjNames x0 (if bulks x0.cells≤1048576 then objNamesR x0 else []) ?_ ?_ ?_ w u0 E0 h0 hT
 ·split
  ·rename_i hb; exact objNamesR_cnt x0 hb
  ·simp [names,Cel.cnt,cells,cnts]
 ·intro hb u E W h
  rw [if_pos hb]
  refine (specObjNames x0 o0 hb u W ⟨E,h⟩).mono ?_
  rintro e w' ⟨r,J,he,h1,h2,h3⟩
  exact ⟨r,J,he,h1,fun g hg=>.inr (h2.low g hg),h3⟩
 ·intro hb u E W h ht
  rw [if_pos hb]
  exact implObjNames x0 o0 hb u W ⟨E,h⟩ ht
end Go.Proofs.YtgaadpkefncnmaaGreatDoor
