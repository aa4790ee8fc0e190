/-
  Parts of the proof: Open.
-/
import Derived.Test.YtgaadpkefncnmaaGreatDoorMp42
import Derived.Test.YtgaadpkefncnmaaGreatDoorMp43
import Derived.Test.YtgaadpkefncnmaaGreatDoorMp29
import Derived.Test.YtgaadpkefncnmaaGreatDoorMp1
import Derived.Test.YtgaadpkefncnmaaGreatDoorMp12
import Derived.Laws.BytesArg
import Derived.IntWalk
import Derived.Deep.QuietTactic
import Derived.BigQuiet
import Derived.Deep.Cut
import Derived.Deep.DeepCutAuto
import Derived.Deep.CutBlock
import Derived.Deep.RegionWith
import Derived.Deep.RegionHeld3
/-
  open: the program.
-/
namespace Go.Proofs.YtgaadpkefncnmaaGreatDoor
open Go.RowKit
set_option linter.unusedVariables false
set_option linter.unusedSimpArgs false
/-- What open asks first. -/
def opBad (s:DStore):Bool:=!(decide (s.objs.length≤24) && (decide (s.reals.length≤24) && (objsAsc s.objs && ascP nameOk s.roots)))
theorem opBad_no {s:DStore} (h:opBad s=false):s.objs.length≤24∧s.reals.length≤24∧objsAsc s.objs=true∧ascP nameOk s.roots=true:=by
 unfold opBad at h
 simpa [Bool.and_eq_true] using h
theorem opBad_store {s:DStore} (h:opBad s=true):storeOk s=false:=by
 rw [Bool.eq_false_iff]
 intro hs
 have:=(storeOk_iff s).1 hs
 unfold opBad at h
 simp [this.1,this.2.1,this.2.2.1,this.2.2.2.1] at h
/-- A store at work: its roots, its objects and its realisations, in memory that is new since lo. -/
structure Stock (lo:Nat) (w:World) (s:DStore) (mr mo:Option Nat) (rv:Value):Prop where
 ok:∃ br nr cr bo no q f,mr=some br∧mo=some bo∧br≠bo∧lo≤br∧lo≤bo∧MapV w br nr (setF q) cr∧nr≤s.roots.length∧(∀ x,q x=true↔x∈s.roots)∧MapV w bo no f s.objs.length∧no≤s.objs.length∧ObjF w s.objs f
 reals:In1 w (seqOf 3 DReal.cells s.reals) rv
theorem MapV.setCell {w:World} {b n c:Nat} {f:List Int→Option Value} (h:MapV w b n f c) {a:Addr} (hne:b≠a.block) (u:Value):MapV (w.setCell a u) b n f c:=h.block (Below.heap_setCell w a u b hne)
theorem atO_app (os:List DObj) (o:DObj) (n:List Int):atO (os++[o]) n=if atO os n < os.length then atO os n else if o.name=n then os.length else os.length + 1:=by
 induction os with
 | nil=>simp [atO]
 | cons p os ih =>
   rw [List.cons_append,atO,atO]
   by_cases hp:p.name=n
   ·rw [if_pos hp,if_pos hp,if_pos (by simp)]
   ·rw [if_neg hp,if_neg hp,ih]
    by_cases h1:atO os n < os.length
    ·have h3:atO os n + 1 < (p :: os).length:=by simp; omega
     rw [if_pos h1,if_pos h3]
    ·have h3:¬ atO os n + 1 < (p :: os).length:=by simp; omega
     rw [if_neg h1,if_neg h3]
     by_cases h2:o.name=n
     ·rw [if_pos h2,if_pos h2]; simp
     ·rw [if_neg h2,if_neg h2]; simp
theorem ObjF.snoc {w:World} {os:List DObj} {f:List Int→Option Value} (h:ObjF w os f) {o:DObj} {us:List Value} (hins:Ins w o.cells us) (hnew:¬ atO os o.name < os.length):ObjF w (os++[o]) (upd f o.name (some (.agg us.toArray))):=by
 refine ⟨fun nm hn=>?_,fun nm hn=>?_⟩
 ·rw [atO_app] at hn
  by_cases h1:atO os nm < os.length
  ·rw [if_pos h1] at hn
   exact absurd (by simp; omega) hn
  ·rw [if_neg h1] at hn
   by_cases h2:o.name=nm
   ·rw [if_pos h2] at hn
    exact absurd (by simp) hn
   ·rw [upd_other _ _ (fun e=>h2 e.symm)]
    exact h.none_ nm h1
 ·by_cases h1:atO os nm < os.length
  ·obtain ⟨us',e1,e2⟩:=h.some_ nm h1
   have e:atO (os++[o]) nm=atO os nm:=by rw [atO_app,if_pos h1]
   have hne:nm≠o.name:=fun e=>hnew (by rw [← e]; exact h1)
   refine ⟨us',by rw [upd_other _ _ hne]; exact e1,?_⟩
   simp only [e]
   rw [List.getElem_append_left h1]
   exact e2
  ·by_cases h2:o.name=nm
   ·have e:atO (os++[o]) nm=os.length:=by rw [atO_app,if_neg h1,if_pos h2]
    subst h2
    refine ⟨us,upd_same _ _ _,?_⟩
    simp only [e]
    simpa using hins
   ·rw [atO_app,if_neg h1,if_neg h2] at hn
    simp at hn
theorem ObjF.nil (w:World):ObjF w [] (fun _=>none):=⟨fun _ _=>rfl,fun nm h=>by simp [atO] at h⟩
theorem take_new {os:List DObj} (hd:NmDiff os) {j:Nat} (hj:j < os.length):¬ atO (os.take j) (os[j]).name < (os.take j).length:=by
 intro h
 have h1:=atO_name h
 rw [List.length_take] at h
 have h2:(os.take j)[atO (os.take j) (os[j]).name]'(by rw [List.length_take]; exact h)=os[atO (os.take j) (os[j]).name]'(by omega):=List.getElem_take
 rw [h2] at h1
 have:=hd _ _ (by omega) hj h1
 omega
set_option maxRecDepth 20000 in
set_option maxHeartbeats 6400000 in
theorem implOpen (s:DStore) (hok:oks s.cells) (hbk:bulks s.cells≤1048576) (us:List Value) (w:World) (hs:Ins w s.cells us) (hTb:Tab w) :
  Calls Tryz.prog 64 #[.agg us.toArray] w fun e w'=>∃ (mr mo:Option Nat) (Av:Option Addr) (nv cv:Nat),e=.returned (.tuple #[.agg #[.map mr,.map mo,.slice Av nv cv],.bool (storeOk s)])∧Below w.heap.size w w' ∧
   (storeOk s=true→Stock w.heap.size w' s mr mo (.slice Av nv cv))∧(storeOk s=false→mr=none∧mo=none∧Av=none∧nv=0∧cv=0):=by
 have hsx:=hs
 obtain ⟨A0,c0,A1,c1,A2,c2,rfl,h0,h1,h2⟩:=DStore.view hs
 obtain ⟨wa,hwa⟩:∃ wa,w.alloc (.cells #[.slice A0 s.objs.length c0,.slice A1 s.roots.length c1,.slice A2 s.reals.length c2] 32)=wa:=⟨_,rfl⟩
 have ba:Below w.heap.size w wa:=by rw [← hwa]; exact (Below.refl _ _).alloc (Nat.le_refl _) _
 have bx:Box wa w.heap.size 32 [.slice A0 s.objs.length c0,.slice A1 s.roots.length c1,.slice A2 s.reals.length c2]:=by rw [← hwa]; exact Box.new w _ _
 have hz:w.heap.size < wa.heap.size:=bx.lt
 obtain ⟨wb,hwb⟩:∃ wb,wa.alloc (.cells #[.map none,.map none,.slice none 0 0] 85)=wb:=⟨_,rfl⟩
 have bb:Below wa.heap.size wa wb:=by rw [← hwb]; exact (Below.refl _ _).alloc (Nat.le_refl _) _
 have bxb:Box wb wa.heap.size 85 [.map none,.map none,.slice none 0 0]:=by rw [← hwb]; exact Box.new wa _ _
 have bab:Below w.heap.size w wb:=ba.trans (bb.mono ba.size)
 have bx2:=bx.step bb
 have hbs:=bulk_Store s
 obtain ⟨ok1,ok2,ok3⟩:=(DStore.oks_iff s).1 hok
 have hl1:∀ n∈s.roots,n.length≤1048576:=fun n hn=>by have:=sumLen_mem2 hn; omega
 have hbo:∀ o∈s.objs,bulks o.cells≤1048576:=fun o ho=>by have:=bulks_mem (f:=DObj.cells) ho; omega
 have hbr:∀ o∈s.reals,bulks o.cells≤1048576:=fun o ho=>by have:=bulks_mem (f:=DReal.cells) ho; omega
 have hlens:s.objs.length≤1048576∧s.roots.length≤1048576∧s.reals.length≤1048576:=by omega
 have x0:=bx2.cell (j:=0) rfl
 have x1:=bx2.cell (j:=1) rfl
 have x2:=bx2.cell (j:=2) rfl
 have HAS:=hide (fun W (hb:Below w.heap.size w W)=>ascendO s.objs ok1 hbo A0 _ c0 rfl hlens.1 W (h0.step hb) (hTb.step hb))
 have HSO:=hide (fun W (hb:Below w.heap.size w W)=>implSorted s.roots ok2 _ W ((h1.step hb).rdN) hl1)
 have HX:=hide (fun W (hb:Below wb.heap.size wb W)=>bx2.step hb)
 have HXB:=hide (fun W (hb:Below wb.heap.size wb W)=>bxb.step hb)
 have HBA:=hide bab
 have H0:=hide h0
 have H1:=hide h1
 have H2:=hide h2
 have HLN:=hide hlens
 have HOK1:=hide ok1
 have HOK2:=hide ok2
 have HOK3:=hide ok3
 have HBO:=hide hbo
 have HBR:=hide hbr
 have HL1:=hide hl1
 have HST:=hide (storeOk_iff s)
 have HZ:=hide (show w.heap.size < wa.heap.size∧wa.heap.size < wb.heap.size from ⟨hz,bxb.lt⟩)
 clear hs hsx bx ba bb bxb bab bx2 hbs ok1 ok2 ok3 hl1 hbo hbr hlens h0 h1 h2 hTb hok hbk hz
 go_enter Tryz.func64,Tryz.ntmps64
 go_upto_region 1 with (fail)
 go_cut [0,30] (fun z v wx=>v=.bool (opBad s)∧Below wb.heap.size wb wx)
 case first =>
  have HD:=hide (show opBad s = !(decide (s.objs.length≤24) && (decide (s.reals.length≤24) && (objsAsc s.objs && ascP nameOk s.roots))) from rfl)
  by_cases hl:s.objs.length≤24
  ·have hl2:¬ 24 < (s.objs.length:Int):=by omega
   have hl3:¬ 24 < s.objs.length:=by omega
   by_cases hm:s.reals.length≤24
   ·have hm2:¬ 24 < (s.reals.length:Int):=by omega
    have hm3:¬ 24 < s.reals.length:=by omega
    have hA:=HAS.out wb HBA.out
    cases hX:objsAsc s.objs with
    | false =>
      have HR:=hide (show opBad s=true by rw [HD.out,hX]; simp)
      rw [hX] at hA
      have HA:=hide hA
      clear hA hX
      go_wp2_with fail
      refine HA.out.mono ?_
      rintro e w1 ⟨rfl,b1⟩
      have HB1:=hide (b1.mono (Nat.le_refl _))
      clear b1
      go_wp2_with fail
      go_meet
      exact ⟨by rw [HR.out],HB1.out⟩
    | true =>
      have HR:=hide (show opBad s = !ascP nameOk s.roots by rw [HD.out,hX,decide_eq_true hl,decide_eq_true hm]; simp)
      rw [hX] at hA
      have HA:=hide hA
      clear hA hX
      go_wp2_with fail
      refine HA.out.mono ?_
      rintro e w1 ⟨rfl,b1⟩
      have HB1:=hide (b1.mono (Nat.le_refl _))
      have y1:=(HX.out w1 HB1.out).cell (j:=1) rfl
      have HS:=hide (HSO.out w1 (HBA.out.trans (HB1.out.mono HBA.out.size)))
      clear b1
      go_wp2_with fail
      refine HS.out.mono ?_
      rintro e w2 ⟨rfl,b2⟩
      have HB2:=hide (HB1.out.trans (b2.mono HB1.out.size))
      clear b2
      go_wp2_with fail
      go_meet
      exact ⟨by rw [HR.out],HB2.out⟩
   ·have hm2:24 < (s.reals.length:Int):=by omega
    have hm3:24 < s.reals.length:=by omega
    have HR:=hide (show opBad s=true by rw [HD.out,decide_eq_false hm]; simp)
    go_wp2_with fail
    go_meet
    exact ⟨by rw [HR.out],Below.refl _ _⟩
  ·have hl2:24 < (s.objs.length:Int):=by omega
   have hl3:24 < s.objs.length:=by omega
   have HR:=hide (show opBad s=true by rw [HD.out,decide_eq_false hl]; simp)
   go_wp2_with fail
   go_meet
   exact ⟨by rw [HR.out],Below.refl _ _⟩
 case rest =>
  obtain ⟨rfl,hb⟩:=hcut
  have HB:=hide hb
  have HBW:=hide (HBA.out.trans (hb.mono HBA.out.size))
  have hbx:=HX.out _ hb
  have hbr:=HXB.out _ hb
  have hrl:=hbr.lt
  have HBR2:=hide hbr
  have r0:=hbr.cell (j:=0) rfl
  have r1:=hbr.cell (j:=1) rfl
  have r2:=hbr.cell (j:=2) rfl
  have z0:=hbr.fz 0
  have z1:=hbr.fz 1
  have z2:=hbr.fz 2
  clear hb x0 x1 x2 HAS HSO
  cases hC:opBad s with
  | true =>
    have HR:=hide (opBad_store hC)
    clear hC
    have hbq:=((hbr.set 0 (.map none)).set 1 (.map none)).set 2 (.slice none 0 0)
    have HL:=hide (show w.heap.size≤wa.heap.size from Nat.le_of_lt HZ.out.1)
    go_wp2_with fail
    have c0_:=hbq.cell (j:=0) rfl
    have c1_:=hbq.cell (j:=1) rfl
    have c2_:=hbq.cell (j:=2) rfl
    refine bodyPost_ret (v:=.tuple #[.agg #[.map none,.map none,.slice none 0 0],.bool false]) (by simp [results,Tryz.results64,go_sem,c0_,c1_,c2_]) rfl ?_
    exact ⟨none,none,none,0,0,by rw [HR.out],((HBW.out.setCell HL.out _).setCell HL.out _).setCell HL.out _,fun h=>(by rw [HR.out] at h; cases h),fun _=>⟨rfl,rfl,rfl,rfl,rfl⟩⟩
  | false =>
    obtain ⟨wc0,hwc0⟩:∃ x,x=wc:=⟨_,rfl⟩
    subst hwc0
    have HOP:=hide (opBad_no hC)
    have hx0:=hbx.cell (j:=0) rfl
    have hx1:=hbx.cell (j:=1) rfl
    have hx2:=hbx.cell (j:=2) rfl
    have hmk:=@run_makeMap Tryz.prog
    obtain ⟨wd,hwd⟩:∃ wd,wc0.alloc (.map #[] 0)=wd:=⟨_,rfl⟩
    have bd:Below wc0.heap.size wc0 wd:=by rw [← hwd]; exact (Below.refl _ _).alloc (Nat.le_refl _) _
    have zd:wd.heap.size=wc0.heap.size + 1:=by rw [← hwd]; simp
    obtain ⟨we,hwe⟩:∃ we,wd.alloc (.map #[] 0)=we:=⟨_,rfl⟩
    have be:Below wd.heap.size wd we:=by rw [← hwe]; exact (Below.refl _ _).alloc (Nat.le_refl _) _
    have ze:we.heap.size=wd.heap.size + 1:=by rw [← hwe]; simp
    obtain ⟨wf,hwf⟩:∃ wf,we.alloc (.cells #[.map (some wc0.heap.size),.map (some wd.heap.size),.slice A2 s.reals.length c2] 85)=wf:=⟨_,rfl⟩
    have bf:Below we.heap.size we wf:=by rw [← hwf]; exact (Below.refl _ _).alloc (Nat.le_refl _) _
    have bxf:Box wf we.heap.size 85 [.map (some wc0.heap.size),.map (some wd.heap.size),.slice A2 s.reals.length c2]:=by rw [← hwf]; exact Box.new we _ _
    have mR:MapV wd wc0.heap.size 0 (fun _=>none) 0:=by rw [← hwd]; exact MapV.made wc0
    have mO:MapV we wd.heap.size 0 (fun _=>none) 0:=by rw [← hwe]; exact MapV.made wd
    have mR2:=(mR.step be).step bf
    have mO2:=mO.step bf
    have bcf:Below wc0.heap.size wc0 wf:=bd.trans ((be.trans (bf.mono be.size)).mono bd.size)
    have HMR:=hide mR2
    have HMO:=hide mO2
    have HKF:=hide bxf
    have HCF:=hide bcf
    have HBF:=hide (HBW.out.trans (bcf.mono HBW.out.size))
    have HZD:=hide zd
    have HZE:=hide ze
    have HXF:=hide (hbx.step bcf)
    have HRF:=hide (hbr.step bcf)
    have HSZ:=hide (show we.heap.size < wf.heap.size from bxf.lt)
    have HWC:=hide (show w.heap.size < wc0.heap.size from Nat.lt_trans HZ.out.1 hrl)
    have HND:=hide (objsAsc_diff (opBad_no hC).2.2.1)
    have HAC:=hide (show wa.heap.size < wc0.heap.size from hrl)
    have f0_:=(hbx.step bcf).cell (j:=0) rfl
    have e2_:=(hbx.step (bd.trans (be.mono bd.size))).cell (j:=2) rfl
    clear hC bd be bf bxf mR mO mR2 mO2 bcf zd ze r0 r1 r2 z0 z1 z2 hbx hbr hrl
    go_upto_block 0 with (fail)
    go_cut [] (fun wx=>Hid (∃ f no,MapV wx wd.heap.size no f s.objs.length∧no≤s.objs.length∧ObjF w s.objs f)∧Hid (wf.grownBy wx (some wd.heap.size)))
    case first =>
     go_wp2_with fail
     go_loopw [41] (fun i wr=>∃ j:Nat,j≤s.objs.length∧i=.int .i64 j∧Hid (∃ f no,MapV wr wd.heap.size no f j∧no≤j∧ObjF w (s.objs.take j) f)∧Hid (wf.grownBy wr (some wd.heap.size))) (fun i _=>s.objs.length - (intOf i).toNat)
     case atStart=>exact ⟨0,Nat.zero_le _,rfl,hide ⟨_,0,HMO.out,Nat.le_refl _,ObjF.nil w⟩,hide (World.grownBy.refl _ _)⟩
     case round =>
      obtain ⟨j,hj,rfl,HO,HG⟩:=hrel
      have hneB:some we.heap.size≠some wd.heap.size:=by have:=HZE.out; simp; omega
      have hbwr:Below w.heap.size w wr:=HBF.out.grown HG.out HBF.out.size (fun k hk=>by have:=HZD.out; have:=HWC.out; injection hk with hk; omega)
      have hkr:=HKF.out.grown HG.out hneB
      have k1_:=hkr.cell (j:=1) rfl
      by_cases hlt:j < s.objs.length
      ·have j1:(j:Int) < ((s.objs.length:Nat):Int):=by omega
       have j0:(0:Int)≤(j:Int):=by omega
       have j2:(j:Int).toNat=j:=by omega
       obtain ⟨fo,no,hmo,hno,hfo⟩:=HO.out
       obtain ⟨b,of,cc,A0_,c0_,A3_,c3_,A4_,c4_,A5_,c5_,A6_,c6_,A7_,c7_,A8_,c8_,-,ee,le,q0,q1,q2,q3,q4,q5,q6,q7,q8,i0,i3,i4,i5,i6,i7,i8⟩:=DObj.elem H0.out hbwr hlt
       obtain rfl:=ee rfl
       have hins:Ins w (s.objs[j]).cells [.slice A0_ (s.objs[j]).name.length c0_,.int .i64 (s.objs[j]).kind,.int .i64 (s.objs[j]).tree.kind,.slice A3_ (s.objs[j]).tree.data.length c3_,.slice A4_ (s.objs[j]).tree.names.length c4_,.slice A5_ (s.objs[j]).tree.kids.length c5_,.slice A6_ (s.objs[j]).refs.length c6_,.slice A7_ (s.objs[j]).frm.length c7_,.slice A8_ (s.objs[j]).out.length c8_]:=DObj.lay i0 i3 i4 i5 i6 i7 i8
       have hnb:=objn_byt (HOK1.out _ (List.getElem_mem hlt))
       have hnl:(s.objs[j]).name.length≤1048576:=by have h1:=HBO.out _ (List.getElem_mem hlt); have h2:=bulk_Obj (s.objs[j]); omega
       have htk:s.objs.take (j + 1)=s.objs.take j++[s.objs[j]]:=List.take_succ_eq_append_getElem hlt
       have hnew:=take_new HND.out hlt
       have hf2:=hfo.snoc hins hnew
       rw [← htk] at hf2
       have hnone:(fo (s.objs[j]).name).isSome=false:=by rw [hfo.isSome,decide_eq_false hnew]
       have HF2:=hide hf2
       have HNN:=hide hnone
       have hrd:=i0.step hbwr
       obtain ⟨nm,hnm⟩:∃ x,(s.objs[j]).name=x:=⟨_,rfl⟩
       obtain ⟨K1,hK1⟩:∃ x,(s.objs[j]).kind=x:=⟨_,rfl⟩
       obtain ⟨K2,hK2⟩:∃ x,(s.objs[j]).tree.kind=x:=⟨_,rfl⟩
       obtain ⟨N3,hN3⟩:∃ x,(s.objs[j]).tree.data.length=x:=⟨_,rfl⟩
       obtain ⟨N4,hN4⟩:∃ x,(s.objs[j]).tree.names.length=x:=⟨_,rfl⟩
       obtain ⟨N5,hN5⟩:∃ x,(s.objs[j]).tree.kids.length=x:=⟨_,rfl⟩
       obtain ⟨N6,hN6⟩:∃ x,(s.objs[j]).refs.length=x:=⟨_,rfl⟩
       obtain ⟨N7,hN7⟩:∃ x,(s.objs[j]).frm.length=x:=⟨_,rfl⟩
       obtain ⟨N8,hN8⟩:∃ x,(s.objs[j]).out.length=x:=⟨_,rfl⟩
       rw [hnm] at HF2 HNN hrd hnb hnl q0
       obtain ⟨N0,hN0⟩:∃ x,nm.length=x:=⟨_,rfl⟩
       rw [hN0] at q0
       rw [hK1] at q1
       rw [hK2] at q2
       rw [hN3] at q3
       rw [hN4] at q4
       rw [hN5] at q5
       rw [hN6] at q6
       rw [hN7] at q7
       rw [hN8] at q8
       simp only [hnm,hN0,hK1,hK2,hN3,hN4,hN5,hN6,hN7,hN8] at HF2
       rw [hN0] at hrd
       obtain ⟨wo,hwo⟩:∃ wo,wr.alloc (.cells #[.slice A0_ N0 c0_,.int .i64 K1,.int .i64 K2,.slice A3_ N3 c3_,.slice A4_ N4 c4_,.slice A5_ N5 c5_,.slice A6_ N6 c6_,.slice A7_ N7 c7_,.slice A8_ N8 c8_] 49)=wo:=⟨_,rfl⟩
       have bo_:Below wr.heap.size wr wo:=by rw [← hwo]; exact (Below.refl _ _).alloc (Nat.le_refl _) _
       have bxo:Box wo wr.heap.size 49 [.slice A0_ N0 c0_,.int .i64 K1,.int .i64 K2,.slice A3_ N3 c3_,.slice A4_ N4 c4_,.slice A5_ N5 c5_,.slice A6_ N6 c6_,.slice A7_ N7 c7_,.slice A8_ N8 c8_]:=by rw [← hwo]; exact Box.new wr _ _
       have hmo2:=hmo.step bo_
       have hkw:=hkr.step bo_
       have kw1:=hkw.cell (j:=1) rfl
       have v0:=bxo.cell (j:=0) rfl
       have v1:=bxo.cell (j:=1) rfl
       have v2:=bxo.cell (j:=2) rfl
       have v3:=bxo.cell (j:=3) rfl
       have v4:=bxo.cell (j:=4) rfl
       have v5:=bxo.cell (j:=5) rfl
       have v6:=bxo.cell (j:=6) rfl
       have v7:=bxo.cell (j:=7) rfl
       have v8:=bxo.cell (j:=8) rfl
       have hcv:=conv_rd (P:=Tryz.prog) Tryz.underlying39 Tryz.underlying5 Tryz.underlying9 ((hrd.step bo_).rd)
       have HGO:=hide (HG.out.andThen (show wr.grownBy wo (some wd.heap.size) from ⟨bo_.os,bo_.tape,bo_.output,bo_.size,fun k hk _=>bo_.block k hk⟩) (fun _ h=>Or.inr h))
       have hno2:no≤1099511627776:=by have:=HLN.out.1; omega
       have HNO:=hide hno
       have hsl:=HLN.out.1
       clear hneB hbwr hkr HO hfo i0 i3 i4 i5 i6 i7 i8 hins htk hnew hf2 hnone hrd hnm hK1 hK2 hN3 hN4 hN5 hN6 hN7 hN8 hN0 hmo hkw bxo bo_ hno
       go_wp2_with (at_mapUpdate; refine wpList_putV _ rfl _ _ _ 83 rfl 49 Tryz.underlying83 wd.heap.size no fo j rfl hmo2 hno2 nm hnb hnl (.agg #[.slice A0_ N0 c0_,.int .i64 K1,.int .i64 K2,.slice A3_ N3 c3_,.slice A4_ N4 c4_,.slice A5_ N5 c5_,.slice A6_ N6 c6_,.slice A7_ N7 c7_,.slice A8_ N8 c8_]) rfl rfl ?_; rw [HNN.out]; intro w3 hm3 hg3; have HM3:=hide (show ∃ f no,MapV w3 wd.heap.size no f (j + 1)∧no≤j + 1∧ObjF w (s.objs.take (j + 1)) f from ⟨_,no + 1,hm3,(by have:=HNO.out; omega),HF2.out⟩); have HG3:=hide (HGO.out.andThen hg3 (fun _ h=>Or.inr h)); clear hm3 hg3)
       go_roundw
       case rel=>exact ⟨j + 1,by omega,by go_num,HM3,HG3⟩
       case measure=>simp [intOf]; omega
      ·obtain rfl:j=s.objs.length:=by omega
       have HO2:=hide (show ∃ f no,MapV wr wd.heap.size no f s.objs.length∧no≤s.objs.length∧ObjF w s.objs f by
        obtain ⟨fo,no,h1,h2,h3⟩:=HO.out
        rw [List.take_length] at h3
        exact ⟨fo,no,h1,h2,h3⟩)
       clear HO hneB hbwr hkr
       go_wp2_with fail
       go_meet
       exact ⟨HO2,HG⟩
    case rest =>
     obtain ⟨HO,HG1⟩:=hcut
     have hneS:some w.heap.size≠some wd.heap.size:=by have:=HZD.out; have:=HWC.out; simp; omega
     have hneB:some we.heap.size≠some wd.heap.size:=by have:=HZE.out; simp; omega
     have hneR:some wc0.heap.size≠some wd.heap.size:=by have:=HZD.out; simp; omega
     have hbw1:=HBF.out.grown HG1.out HBF.out.size (fun k hk=>by have:=HZD.out; have:=HWC.out; injection hk with hk; omega)
     have hxs:=HXF.out.grown HG1.out hneS
     have hks:=HKF.out.grown HG1.out hneB
     have hms:=HMR.out.grown HG1.out hneR
     have g1_:=hxs.cell (j:=1) rfl
     obtain ⟨wg,hwg⟩:∃ x,x=wc:=⟨_,rfl⟩
     subst hwg
     have HBG:=hide hbw1
     have HXG:=hide hxs
     have HKG:=hide hks
     have HMG:=hide hms
     clear hneS hneB hneR hbw1 hxs hks hms
     have hg1:=hide (show wg.heap.size≤wg.heap.size from Nat.le_refl _)
     go_upto_block 2 with (fail)
     trace_state
     go_cut [] (fun wx=>Hid (∃ q nr cr,MapV wx wc0.heap.size nr (setF q) cr∧nr≤s.roots.length∧∀ x,q x=true↔x∈s.roots)∧Hid (wg.grownBy wx (some wc0.heap.size)))
     case first =>
      go_wp2_with fail
      go_loopw [55] (fun i wr=>∃ j:Nat,j≤s.roots.length∧i=.int .i64 j∧Hid (∃ q nr cr,MapV wr wc0.heap.size nr (setF q) cr∧nr≤j∧∀ x,q x=true↔x∈s.roots.take j)∧Hid (wg.grownBy wr (some wc0.heap.size))) (fun i _=>s.roots.length - (intOf i).toNat)
      case atStart=>exact ⟨0,Nat.zero_le _,rfl,hide ⟨fun _=>false,0,0,HMG.out,Nat.le_refl _,fun x=>by simp⟩,hide (World.grownBy.refl _ _)⟩
      case round =>
       obtain ⟨j,hj,rfl,HQ,HG⟩:=hrel
       have hbwr:Below w.heap.size w wr:=HBG.out.grown HG.out HBG.out.size (fun k hk=>by have:=HWC.out; injection hk with hk; omega)
       have hneK:some we.heap.size≠some wc0.heap.size:=by have:=HZE.out; have:=HZD.out; simp; omega
       have hkr:=HKG.out.grown HG.out hneK
       have k0_:=hkr.cell (j:=0) rfl
       have hsl:=HLN.out.2.1
       by_cases hlt:j < s.roots.length
       ·obtain ⟨q,nr,cr,hmq,hnq,hq⟩:=HQ.out
        have j1:(j:Int) < ((s.roots.length:Nat):Int):=by omega
        have j0:(0:Int)≤(j:Int):=by omega
        have j2:(j:Int).toNat=j:=by omega
        obtain ⟨b,off,x,hA',hblt,cx,rx⟩:=H1.out.rdN.get hlt
        subst hA'
        have q1:=(hbwr.cell (p:=⟨b,off + j,none⟩) hblt).trans cx
        have hmj:s.roots.getD j []∈s.roots:=by simp [List.getD,List.getElem?_eq_getElem hlt]
        have hlj:=HL1.out _ hmj
        have hbj:=HOK2.out _ hmj
        have htk:s.roots.take (j + 1)=s.roots.take j++[s.roots.getD j []]:=by
         rw [List.take_succ_eq_append_getElem hlt]
         simp [List.getD,List.getElem?_eq_getElem hlt]
        have HTK:=hide htk
        generalize s.roots.getD j []=n at *
        have HC:=hide (addRoot wc0.heap.size nr (setF q) cr n hbj hlj x wr hmq (by omega) (rx.below hbwr))
        have HQN:=hide (show ∀ y,(fun z=>decide (z=n) || q z) y=true↔y∈s.roots.take (j + 1) from fun y=>by
         rw [HTK.out,List.mem_append,List.mem_singleton,← hq y]
         simp only [Bool.or_eq_true,decide_eq_true_eq]
         exact Or.comm)
        have HNQ:=hide hnq
        clear hmj hlj hbj htk cx rx hmq hnq hq hbwr hkr HQ hneK
        go_wp2_with fail
        refine HC.out.mono ?_
        rintro e w3 ⟨rfl,c3,hm3,hg3⟩
        rw [setF_upd] at hm3
        have HM3:=hide (show ∃ q nr cr,MapV w3 wc0.heap.size nr (setF q) cr∧nr≤j + 1∧∀ x,q x=true↔x∈s.roots.take (j + 1) from ⟨_,nr + 1,c3,hm3,(by have:=HNQ.out; omega),HQN.out⟩)
        have HG3:=hide (HG.out.andThen hg3 (fun _ h=>Or.inr h))
        clear hm3 hg3 k0_ q1
        go_wp2_with fail
        go_roundw
        case rel=>exact ⟨j + 1,by omega,by go_num,HM3,HG3⟩
        case measure=>simp [intOf]; omega
       ·obtain rfl:j=s.roots.length:=by omega
        have HQ2:=hide (show ∃ q nr cr,MapV wr wc0.heap.size nr (setF q) cr∧nr≤s.roots.length∧∀ x,q x=true↔x∈s.roots by
         obtain ⟨q,nr,cr,h1,h2,h3⟩:=HQ.out
         rw [List.take_length] at h3
         exact ⟨q,nr,cr,h1,h2,h3⟩)
        clear HQ hbwr hkr
        go_wp2_with fail
        go_meet
        exact ⟨HQ2,HG⟩
     case rest =>
      obtain ⟨HQ,HG2⟩:=hcut
      obtain ⟨wh,hwh⟩:∃ x,x=wc:=⟨_,rfl⟩
      subst hwh
      have hneK:some we.heap.size≠some wc0.heap.size:=by have:=HZE.out; have:=HZD.out; simp; omega
      have hneS:some w.heap.size≠some wc0.heap.size:=by have:=HWC.out; simp; omega
      have hneO:some wd.heap.size≠some wc0.heap.size:=by have:=HZD.out; simp; omega
      have hneA:some wa.heap.size≠some wd.heap.size:=by have:=HZD.out; have:=HAC.out; simp; omega
      have hneA2:some wa.heap.size≠some wc0.heap.size:=by have:=HAC.out; simp; omega
      have HWH:=hide (HBG.out.grown HG2.out HBG.out.size (fun k hk=>by have:=HWC.out; injection hk with hk; omega))
      have hxs:=HXG.out.grown HG2.out hneS
      have hks:=HKG.out.grown HG2.out hneK
      have hrs:=(HRF.out.grown HG1.out hneA).grown HG2.out hneA2
      have HRES:=hide (fun W (hb:Below wh.heap.size wh W)=>hrs.step hb)
      have HXH:=hide (fun W (hb:Below wh.heap.size wh W)=>hxs.step hb)
      have HKH:=hide (fun W (hb:Below wh.heap.size wh W)=>hks.step hb)
      have HLA:=hide (show w.heap.size≤wa.heap.size from Nat.le_of_lt HZ.out.1)
      obtain ⟨fo,no,hmo,hno,hfo⟩:=HO.out
      have hmo2:=hmo.grown HG2.out hneO
      have HMO2:=hide hmo2
      have HFO:=hide hfo
      have HNO:=hide hno
      have s0:=hks.cell (j:=0) rfl
      have s1:=hks.cell (j:=1) rfl
      have s2:=hks.cell (j:=2) rfl
      have hst:storeOk s=true↔RefsOk s.objs∧s.roots.all (fun r=>decide (atO s.objs r < s.objs.length))=true∧realsOk s=true:=by
       obtain ⟨p1,p2,p3,p4⟩:=HOP.out
       exact ⟨fun h=>((storeOk_iff s).1 h).2.2.2.2,fun h=>(storeOk_iff s).2 ⟨p1,p2,p3,p4,h⟩⟩
      have HSTK:=hide hst
      have HC1:=hide (implRefsOk s.objs fo HOK1.out HBO.out HND.out HOP.out.1 (some wc0.heap.size) wd.heap.size no s.objs.length A2 s.reals.length c2 wh (hfo.step HWH.out) hmo2)
      have HC2:=hide (fun W (hb:Below wh.heap.size wh W)=>hasAllO (.map (some wd.heap.size)) fo s.roots HOK2.out (.slice A1 s.roots.length c1) W ((hmo2.step hb).o) ((H1.out.step (HWH.out.trans (hb.mono HWH.out.size))).rdN) HL1.out HLN.out.2.1 hfo.shape)
      have hall:(s.roots.all fun n=>(fo n).isSome)=s.roots.all fun n=>decide (atO s.objs n < s.objs.length):=by
       congr 1
       funext n
       exact hfo.isSome n
      rw [hall] at HC2
      have HC3:=hide (fun W (hb:Below wh.heap.size wh W)=>ascendR s.reals s fo HOK1.out (some wc0.heap.size) (some wd.heap.size) A2 s.reals.length c2 HOK3.out HBR.out A2 s.reals.length c2 rfl HLN.out.2.2 W (H2.out.step (HWH.out.trans (hb.mono HWH.out.size))) (hfo.step (HWH.out.trans (hb.mono HWH.out.size))) (hmo2.step hb).o)
      rw [← realsOk_L] at HC3
      clear hneK hneS hneO hneA hneA2 hxs hks hrs hmo hno hfo hmo2 hst hall
      go_wp2_with fail
      refine HC1.out.mono ?_
      rintro e w1 ⟨R,rfl,hR,b1⟩
      have HB1:=hide b1
      have HRR:=hide hR
      clear b1 hR s0 s1 s2
      cases R with
      | false =>
        have HR:=hide (show storeOk s=false by
         rw [Bool.eq_false_iff]
         intro h
         have:=HRR.out.2 ((HSTK.out.1 h).1)
         cases this)
        have hbr:=HRES.out _ HB1.out
        have r0:=hbr.cell (j:=0) rfl
        have r1:=hbr.cell (j:=1) rfl
        have r2:=hbr.cell (j:=2) rfl
        have z0:=hbr.fz 0
        have z1:=hbr.fz 1
        have z2:=hbr.fz 2
        have hbq:=((hbr.set 0 (.map none)).set 1 (.map none)).set 2 (.slice none 0 0)
        go_wp2_with fail
        have c0_:=hbq.cell (j:=0) rfl
        have c1_:=hbq.cell (j:=1) rfl
        have c2_:=hbq.cell (j:=2) rfl
        refine bodyPost_ret (v:=.tuple #[.agg #[.map none,.map none,.slice none 0 0],.bool false]) (by simp [results,Tryz.results64,go_sem,c0_,c1_,c2_]) rfl ?_
        exact ⟨none,none,none,0,0,by rw [HR.out],(((HWH.out.trans (HB1.out.mono HWH.out.size)).setCell HLA.out _).setCell HLA.out _).setCell HLA.out _,fun h=>(by rw [HR.out] at h; cases h),fun _=>⟨rfl,rfl,rfl,rfl,rfl⟩⟩
      | true =>
        have t1:=(HKH.out w1 HB1.out).cell (j:=1) rfl
        have t2:=(HXH.out w1 HB1.out).cell (j:=1) rfl
        have hca:=HC2.out w1 HB1.out
        cases hX:s.roots.all fun n=>decide (atO s.objs n < s.objs.length) with
        | false =>
          rw [hX] at hca
          have HCA:=hide hca
          have HR:=hide (show storeOk s=false by
           rw [Bool.eq_false_iff]
           intro h
           rw [(HSTK.out.1 h).2.1] at hX
           cases hX)
          clear hca hX
          go_wp2_with fail
          refine HCA.out.mono ?_
          rintro e w2 ⟨rfl,b2⟩
          have HB2:=hide (HB1.out.trans (b2.mono HB1.out.size))
          clear b2 t1 t2
          have hbr:=HRES.out _ HB2.out
          have r0:=hbr.cell (j:=0) rfl
          have r1:=hbr.cell (j:=1) rfl
          have r2:=hbr.cell (j:=2) rfl
          have z0:=hbr.fz 0
          have z1:=hbr.fz 1
          have z2:=hbr.fz 2
          have hbq:=((hbr.set 0 (.map none)).set 1 (.map none)).set 2 (.slice none 0 0)
          go_wp2_with fail
          have c0_:=hbq.cell (j:=0) rfl
          have c1_:=hbq.cell (j:=1) rfl
          have c2_:=hbq.cell (j:=2) rfl
          refine bodyPost_ret (v:=.tuple #[.agg #[.map none,.map none,.slice none 0 0],.bool false]) (by simp [results,Tryz.results64,go_sem,c0_,c1_,c2_]) rfl ?_
          exact ⟨none,none,none,0,0,by rw [HR.out],(((HWH.out.trans (HB2.out.mono HWH.out.size)).setCell HLA.out _).setCell HLA.out _).setCell HLA.out _,fun h=>(by rw [HR.out] at h; cases h),fun _=>⟨rfl,rfl,rfl,rfl,rfl⟩⟩
        | true =>
          rw [hX] at hca
          have HCA:=hide hca
          have HXX:=hide hX
          clear hca hX
          go_wp2_with fail
          refine HCA.out.mono ?_
          rintro e w2 ⟨rfl,b2⟩
          have HB2:=hide (HB1.out.trans (b2.mono HB1.out.size))
          have u0_:=(HKH.out w2 HB2.out).cell (j:=0) rfl
          have u1_:=(HKH.out w2 HB2.out).cell (j:=1) rfl
          have u2_:=(HKH.out w2 HB2.out).cell (j:=2) rfl
          have hcb:=HC3.out w2 HB2.out
          clear b2 t1 t2
          cases hY:realsOk s with
          | false =>
            rw [hY] at hcb
            have HCB:=hide hcb
            have HR:=hide (show storeOk s=false by
             rw [Bool.eq_false_iff]
             intro h
             rw [(HSTK.out.1 h).2.2] at hY
             cases hY)
            clear hcb hY
            go_wp2_with fail
            refine HCB.out.mono ?_
            rintro e w3 ⟨rfl,b3⟩
            have HB3:=hide (HB2.out.trans (b3.mono HB2.out.size))
            clear b3 u0_ u1_ u2_
            have hbr:=HRES.out _ HB3.out
            have r0:=hbr.cell (j:=0) rfl
            have r1:=hbr.cell (j:=1) rfl
            have r2:=hbr.cell (j:=2) rfl
            have z0:=hbr.fz 0
            have z1:=hbr.fz 1
            have z2:=hbr.fz 2
            have hbq:=((hbr.set 0 (.map none)).set 1 (.map none)).set 2 (.slice none 0 0)
            go_wp2_with fail
            have c0_:=hbq.cell (j:=0) rfl
            have c1_:=hbq.cell (j:=1) rfl
            have c2_:=hbq.cell (j:=2) rfl
            refine bodyPost_ret (v:=.tuple #[.agg #[.map none,.map none,.slice none 0 0],.bool false]) (by simp [results,Tryz.results64,go_sem,c0_,c1_,c2_]) rfl ?_
            exact ⟨none,none,none,0,0,by rw [HR.out],(((HWH.out.trans (HB3.out.mono HWH.out.size)).setCell HLA.out _).setCell HLA.out _).setCell HLA.out _,fun h=>(by rw [HR.out] at h; cases h),fun _=>⟨rfl,rfl,rfl,rfl,rfl⟩⟩
          | true =>
            rw [hY] at hcb
            have HCB:=hide hcb
            have HR:=hide (HSTK.out.2 ⟨HRR.out.1 (by trivial),HXX.out,hY⟩)
            clear hcb hY
            go_wp2_with fail
            refine HCB.out.mono ?_
            rintro e w3 ⟨rfl,b3⟩
            have HB3:=hide (HB2.out.trans (b3.mono HB2.out.size))
            clear b3 u0_ u1_ u2_
            have v0_:=(HKH.out w3 HB3.out).cell (j:=0) rfl
            have v1_:=(HKH.out w3 HB3.out).cell (j:=1) rfl
            have v2_:=(HKH.out w3 HB3.out).cell (j:=2) rfl
            have hbr:=HRES.out _ HB3.out
            have r0:=hbr.cell (j:=0) rfl
            have r1:=hbr.cell (j:=1) rfl
            have r2:=hbr.cell (j:=2) rfl
            have z0:=hbr.fz 0
            have z1:=hbr.fz 1
            have z2:=hbr.fz 2
            have hbq:=((hbr.set 0 (.map (some wc0.heap.size))).set 1 (.map (some wd.heap.size))).set 2 (.slice A2 s.reals.length c2)
            go_wp2_with fail
            have c0_:=hbq.cell (j:=0) rfl
            have c1_:=hbq.cell (j:=1) rfl
            have c2_:=hbq.cell (j:=2) rfl
            refine bodyPost_ret (v:=.tuple #[.agg #[.map (some wc0.heap.size),.map (some wd.heap.size),.slice A2 s.reals.length c2],.bool true]) (by simp [results,Tryz.results64,go_sem,c0_,c1_,c2_]) rfl ?_
            have hW:=(((HWH.out.trans (HB3.out.mono HWH.out.size)).setCell HLA.out (p:=⟨wa.heap.size,0,none⟩) (.map (some wc0.heap.size))).setCell HLA.out (p:=⟨wa.heap.size,1,none⟩) (.map (some wd.heap.size))).setCell HLA.out (p:=⟨wa.heap.size,2,none⟩) (.slice A2 s.reals.length c2)
            refine ⟨some wc0.heap.size,some wd.heap.size,A2,s.reals.length,c2,by rw [HR.out],hW,fun _=>?_,fun h=>by rw [HR.out] at h; cases h⟩
            obtain ⟨q,nr,cr,g1,g2,g3⟩:=HQ.out
            have hA1:wc0.heap.size≠wa.heap.size:=by have:=HAC.out; omega
            have hA2:wd.heap.size≠wa.heap.size:=by have:=HAC.out; have:=HZD.out; omega
            exact ⟨⟨wc0.heap.size,nr,cr,wd.heap.size,no,q,fo,rfl,rfl,by have:=HZD.out; omega,Nat.le_of_lt HWC.out,by have:=HZD.out; have:=HWC.out; omega,(((g1.step HB3.out).setCell hA1 _).setCell hA1 _).setCell hA1 _,g2,g3,(((HMO2.out.step HB3.out).setCell hA2 _).setCell hA2 _).setCell hA2 _,HNO.out,HFO.out.step hW⟩,H2.out.step hW⟩
end Go.Proofs.YtgaadpkefncnmaaGreatDoor
