/-
  Parts of the proof: ClosS, ClosI, ClosureL.
-/
import Derived.Test.YtgaadpkefncnmaaGreatDoorMp30
import Derived.Test.YtgaadpkefncnmaaGreatDoorMp40
import Derived.Test.YtgaadpkefncnmaaGreatDoorMp1
import Derived.Test.YtgaadpkefncnmaaGreatDoorMp29
import Derived.Test.YtgaadpkefncnmaaGreatDoorMp7
import Derived.Test.YtgaadpkefncnmaaGreatDoorMp20
import Derived.Laws.BytesArg
import Derived.IntWalk
import Derived.Deep.QuietTactic
import Derived.BigQuiet
import Derived.Deep.Cut
import Derived.Deep.DeepCutAuto
import Derived.Deep.CutBlock
import Derived.Deep.RegionWith
import Derived.Deep.RegionHeld3
import Derived.Test.YtgaadpkefncnmaaGreatDoorMp45
import Derived.Test.YtgaadpkefncnmaaGreatDoorMp26
/-
  Closure: the model.
-/
namespace Go.Proofs.YtgaadpkefncnmaaGreatDoor
open Go.RowKit
set_option linter.unusedVariables false
set_option linter.unusedSimpArgs false
theorem qd_none (os:List DObj) (n:Nat):qd os (List.replicate n false)=fun _=>false:=by
 funext x
 exact replD n _
open Classical in
theorem filter_found {os:List DObj} {ns:List (List Int)} {d:List Bool} (h:Found os ns (fun _=>false) (qd os d)):(objNames os).filter (qd os d)=(objNames os).filter (fun x=>decide (Rch os ns x)):=by
 refine List.filter_congr fun x _=>?_
 have:=h.whole x
 by_cases hr:Rch os ns x
 ·rw [decide_eq_true hr,this.2 hr]
 ·rw [decide_eq_false hr,Bool.eq_false_iff]
  exact fun h2=>hr (this.1 h2)
theorem sel_next {os:List DObj} (hd:NmDiff os) {d:List Bool} {j:Nat} (hj:j < os.length):(objNames (os.take (j + 1))).filter (qd os d)=(objNames (os.take j)).filter (qd os d)++(if d.getD j false then [(os[j]).name] else []):=by
 rw [objNames_next hj,List.filter_append]
 have e:qd os d (os[j]).name=d.getD j false:=by rw [qd,atO_self hd hj]
 rw [filter1,e]
set_option maxRecDepth 20000 in
set_option maxHeartbeats 6400000 in
theorem specClos4 (s:DStore) (n:List Int) (hn:Byt n) (hok:oks s.cells) (hd:NmDiff s.objs) (hL:s.objs.length≤24) (hbk:bulks s.cells≤1048576) (us:List Value) (vn:Value) (w:World) (hs:Ins w s.cells us) (hv:In1 w (raw n) vn) :
  Calls Tryz.prog 73 #[.agg us.toArray,vn] w fun e w'=>∃ v d,e=.returned v∧RdN w' v ((objNames s.objs).filter (qd s.objs d))∧Found s.objs [n] (fun _=>false) (qd s.objs d)∧Below w.heap.size w w':=by
 have hsx:=hs
 obtain ⟨A0,c0,A1,c1,A2,c2,rfl,h0,h1,h2⟩:=DStore.view hs
 obtain ⟨wa,hwa⟩:∃ wa,w.alloc (.cells #[.slice A0 s.objs.length c0,.slice A1 s.roots.length c1,.slice A2 s.reals.length c2] 32)=wa:=⟨_,rfl⟩
 have ba:Below w.heap.size w wa:=by rw [← hwa]; exact (Below.refl _ _).alloc (Nat.le_refl _) _
 have bx:Box wa w.heap.size 32 [.slice A0 s.objs.length c0,.slice A1 s.roots.length c1,.slice A2 s.reals.length c2]:=by rw [← hwa]; exact Box.new w _ _
 have hz:w.heap.size < wa.heap.size:=bx.lt
 have x0:=bx.cell (j:=0) rfl
 have HX:=hide (fun W (hb:Below wa.heap.size wa W)=>(bx.step hb))
 have HBA:=hide ba
 have HIN:=hide hsx
 have HV:=hide hv
 have HO:=hide hok
 have H0:=hide h0
 have HBK:=hide hbk
 have HNM:=hide hd
 clear bx ba hok h0 h1 h2 hs hsx hbk hv hd
 obtain ⟨j0,hj0,hy0,hy1,hy2⟩:=info_parts inf_bool
 go_enter Tryz.func73,Tryz.ntmps73
 go_upto_region 2 with (at_make; refine wpList_make_full _ rfl _ _ 161 rfl wa.heap.size 4 j0 _ 1 Tryz.underlying161 hj0 hy0 hy1 .i64 .i64 _ _ s.objs.length rfl rfl rfl rfl (by rw [hy2]; omega) (by simp only [maxLen]; omega) (Nat.le_refl _) ?_; intro w1 own1 gr1; have B1:Below wa.heap.size wa w1:=(Below.refl _ _).grown gr1 (Nat.le_refl _) (fun k hk=>by cases hk); have bd:=(box_of_own own1).1)
 have bd0:Box w1 wa.heap.size 4 (bls (List.replicate s.objs.length false)):=by
  rw [← made_bools]; exact bd
 have HB1:=hide B1
 have HBD:=hide bd0
 have HW1:=hide (HBA.out.trans (B1.mono HBA.out.size))
 have HCA:=hide (fun W (hb:Below w1.heap.size w1 W)=>specAt s n HO.out hn (by omega) _ vn W (HIN.out.step (HW1.out.trans (hb.mono HW1.out.size))) (HV.out.step (HW1.out.trans (hb.mono HW1.out.size))))
 have HCM:=hide (fun W (hb:Below w1.heap.size w1 W)=>specMark w s HO.out HBK.out _ HIN.out wa.heap.size (by omega) _ (List.replicate s.objs.length false) n W (by simp) (HBD.out.step hb) (HW1.out.trans (hb.mono HW1.out.size)) (Nat.le_refl _))
 have HSS:=hide (fun W (hb:Below w1.heap.size w1 W)=>(show W.cell? ⟨w.heap.size,0,none⟩=some (.slice A0 s.objs.length c0)∧W.cell? ⟨w.heap.size,1,none⟩=some (.slice A1 s.roots.length c1)∧W.cell? ⟨w.heap.size,2,none⟩=some (.slice A2 s.reals.length c2) from
  ⟨((HX.out w1 HB1.out).step hb).cell (j:=0) rfl,((HX.out w1 HB1.out).step hb).cell (j:=1) rfl,((HX.out w1 HB1.out).step hb).cell (j:=2) rfl⟩))
 have HBR:=hide (Below.refl w1.heap.size w1).drew
 have hw1s:wa.heap.size≤w1.heap.size:=HB1.out.size
 clear bd own1 gr1 bd0 B1 x0
 first
  | go_region_held3 (fun W:World=>W.cell? ⟨w.heap.size,0,none⟩=some (.slice A0 s.objs.length c0)∧W.cell? ⟨w.heap.size,1,none⟩=some (.slice A1 s.roots.length c1)∧W.cell? ⟨w.heap.size,2,none⟩=some (.slice A2 s.reals.length c2))
    (first
     | exact HS4.out
     | exact HSS.out _ HB3.out
     | exact HSS.out _ HBR.out
     | exact trivial
     | go_keep)
    (first
     | (go_simp; go_at_call 76; refine (HCA.out _ HBR.out).mono ?_; rintro e w3 ⟨rfl,b3⟩; have HB3:=hide (HBR.out.trans b3); clear b3)
     | (go_simp; go_at_call 132; refine (HCM.out _ HB3.out).mono ?_; rintro e w4 ⟨rfl,d4,hl4,hb4,hf4,hle4,hg4⟩; have HR4:=hide (And.intro hl4 (And.intro hb4 hf4)); have HG4:=hide ((grown_below HB3.out (some wa.heap.size)).andThen hg4 (fun _ h=>Or.inr h)); have hx3:=(HX.out w1 HB1.out).step HB3.out; have hx4:Box w4 w.heap.size 32 [.slice A0 s.objs.length c0,.slice A1 s.roots.length c1,.slice A2 s.reals.length c2]:=(hg4.block w.heap.size hx3.lt (by simp; omega)).trans hx3; have HS4:=hide (show w4.cell? ⟨w.heap.size,0,none⟩=some (.slice A0 s.objs.length c0)∧w4.cell? ⟨w.heap.size,1,none⟩=some (.slice A1 s.roots.length c1)∧w4.cell? ⟨w.heap.size,2,none⟩=some (.slice A2 s.reals.length c2) from ⟨hx4.cell (j:=0) rfl,hx4.cell (j:=1) rfl,hx4.cell (j:=2) rfl⟩); clear hl4 hb4 hf4 hle4 hg4 hx3 hx4))
 all_goals
  have hb4:Below wa.heap.size wa w4:=HB1.out.grown HG4.out HB1.out.size (fun k hk=>by injection hk with hk; omega)
  have hf4:=HR4.out.2.2
  rw [qd_none] at hf4
  have HF4:=hide hf4
  have HL4:=hide HR4.out.1
  have HD4:=hide HR4.out.2.1
  have HB4:=hide hb4
  clear hb4 hf4
  obtain ⟨N,hN⟩:∃ N,s.objs.length=N:=⟨_,rfl⟩
  obtain ⟨g,hg⟩:∃ g,wa.heap.size=g:=⟨_,rfl⟩
  simp only [hN]
  have hL9:=hL
  rw [hN] at hL9
  have HN:=hide hN
  have HGE:=hide hg
  simp only [hg]
  go_wp2_with fail
  go_loopw [6,7] (fun u kv wr=>∃ j:Nat,j≤N∧kv=.int .i64 j∧Hid (∃ m F,Row w4.heap.size wr 39 1 m (rawss ((objNames (s.objs.take j)).filter (qd s.objs d4))) u F∧m=((objNames (s.objs.take j)).filter (qd s.objs d4)).length∧(∀ x∈F,x < w4.heap.size))∧Hid (Below w4.heap.size w4 wr)) (fun _ kv _=>N - (intOf kv).toNat)
  case atStart=>exact ⟨0,Nat.zero_le _,rfl,hide ⟨0,[],Row.nil _ _ _ _ (by decide),rfl,fun x hx=>by cases hx⟩,hide (Below.refl _ _)⟩
  case round =>
   obtain ⟨j,hj,rfl,HRW,HBW⟩:=hrel
   have hbw:Below wa.heap.size wa wr:=HB4.out.trans (HBW.out.mono HB4.out.size)
   have y0:=(HX.out wr hbw).cell (j:=0) rfl
   rw [HN.out] at y0
   by_cases hlt:j < N
   ·have hjn:j < s.objs.length:=by rw [HN.out]; exact hlt
    have cb:=(HD4.out.step HBW.out).cell (bls_get (d:=d4) (i:=j) (by rw [HL4.out]; exact hjn))
    rw [HGE.out] at cb
    have j1:(j:Int) < (N:Int):=by omega
    have j0:(0:Int)≤(j:Int):=by omega
    have j2:(j:Int).toNat=j:=by omega
    have hsel:=sel_next (d:=d4) HNM.out hjn
    obtain ⟨b,hb⟩:∃ b,d4.getD j false=b:=⟨_,rfl⟩
    rw [hb] at cb hsel
    obtain ⟨m,F,hR,hm,hF⟩:=HRW.out
    cases b with
    | false =>
      have HS2:=hide (show (objNames (s.objs.take (j + 1))).filter (qd s.objs d4)=(objNames (s.objs.take j)).filter (qd s.objs d4) by rw [hsel]; simp)
      clear hsel hb hR hm hF hbw
      go_wp2_with fail
      go_roundw
      case rel=>exact ⟨j + 1,by omega,by go_num,hide (by rw [HS2.out]; exact HRW.out),HBW⟩
      case measure=>simp [intOf]; omega
    | true =>
      have hb0:Below w.heap.size w wr:=HBA.out.trans (hbw.mono HBA.out.size)
      obtain ⟨be,oe,cce,Be0,de0,Be3,de3,Be4,de4,Be5,de5,Be6,de6,Be7,de7,Be8,de8,-,ee,le,qe0,-,-,-,-,-,-,-,-,ie0,-,-,-,-,-,-⟩:=DObj.elem H0.out hb0 hjn
      obtain rfl:=ee rfl
      obtain ⟨Fi,hi⟩:=ie0
      have hlt2:=hi.lt
      have hl:=lies_one (hi.step hb0)
      have hsz4:w.heap.size≤w4.heap.size:=Nat.le_trans HBA.out.size HB4.out.size
      have hfar:=hR.far (G:=Fi) (fun x hx=>.inl (Nat.lt_of_lt_of_le (hlt2 x hx) hsz4))
      have HS2:=hide (show (objNames (s.objs.take (j + 1))).filter (qd s.objs d4)=(objNames (s.objs.take j)).filter (qd s.objs d4)++[(s.objs[j]).name] by rw [hsel]; simp)
      have hm24:m≤24:=by
       rw [hm]
       refine Nat.le_trans (List.length_filter_le _ _) ?_
       rw [objNames_len,List.length_take]
       omega
      generalize (s.objs[j]).name=nm at *
      obtain ⟨L,hLn⟩:∃ L,nm.length=L:=⟨_,rfl⟩
      rw [hLn] at qe0 hl
      have HRH:=hide hR
      have HLI:=hide hl
      have HFA:=hide hfar
      have HM:=hide hm
      have HFF:=hide hF
      have HLT:=hide hlt2
      have HSZ:=hide hsz4
      have hlo:w4.heap.size≤wr.heap.size:=HBW.out.size
      have HBW0:=hide hbw
      clear hsel hb hR hm hF hbw hb0 hi hl hfar hlt2 hLn hsz4
      go_wp2_with (at_builtin; refine wpList_row1 rfl rfl HRH.out HLI.out HFA.out rfl rfl rfl Tryz.underlying23 inf_bytes rfl (by decide) (by decide) (by omega) hlo ?_; intro v3 w5 R3 B3 g3; have HR3:=hide R3; have HB5:=hide (HBW.out.trans B3); clear R3 B3 g3)
      go_roundw
      case rel=>exact ⟨j + 1,by omega,by go_num,hide ⟨_,_,by rw [HS2.out,rawss_snoc]; exact HR3.out,by rw [HS2.out,HM.out,List.length_append]; rfl,fun x hx=>(List.mem_append.1 hx).elim (HFF.out x) (fun h=>Nat.lt_of_lt_of_le (HLT.out x h) HSZ.out)⟩,HB5⟩
      case measure=>simp [intOf]; omega
   ·obtain rfl:j=N:=by omega
    have e2:s.objs.take j=s.objs:=List.take_of_length_le (by rw [HN.out]; omega)
    rw [e2] at HRW
    clear e2
    go_wp2_with fail
    go_ret
    obtain ⟨m,F,hR,hm,hF⟩:=HRW.out
    subst hm
    exact ⟨_,d4,rfl,hR.in1.rdN,HF4.out,HBA.out.trans (hbw.mono HBA.out.size)⟩
theorem closR_no {s:DStore} {n:List Int} (h:storeOk s=false):closureR s n = []:=by rw [closureR,if_neg (by rw [h]; exact Bool.false_ne_true)]
set_option maxRecDepth 20000 in
set_option maxHeartbeats 3200000 in
theorem specClosure (s:DStore) (n:List Int) (hn:Byt n) (hok:oks s.cells) (hbk:bulks s.cells≤1048576) (us:List Value) (vn:Value) (w:World) (hs:Ins w s.cells us) (hv:In1 w (raw n) vn) :
  Calls Tryz.prog 31 #[.agg us.toArray,vn] w fun e w'=>∃ v F,e=.returned v∧Lie w' (names (closureR s n)) v F∧Fresh w.heap.size w' F∧Below w.heap.size w w':=by
 have hsx:=hs
 have hbs:=bulk_Store s
 have hbo:∀ o∈s.objs,bulks o.cells≤1048576:=fun o ho=>by
  have h1:=bulks_mem (f:=DObj.cells) ho
  omega
 have hol:s.objs.length≤1048576:=by omega
 obtain ⟨A0,c0,A1,c1,A2,c2,rfl,h0,h1,h2⟩:=DStore.view hs
 obtain ⟨wa,hwa⟩:∃ wa,w.alloc (.cells #[.slice A0 s.objs.length c0,.slice A1 s.roots.length c1,.slice A2 s.reals.length c2] 32)=wa:=⟨_,rfl⟩
 have ba:Below w.heap.size w wa:=by rw [← hwa]; exact (Below.refl _ _).alloc (Nat.le_refl _) _
 have bx:Box wa w.heap.size 32 [.slice A0 s.objs.length c0,.slice A1 s.roots.length c1,.slice A2 s.reals.length c2]:=by rw [← hwa]; exact Box.new w _ _
 have hz:w.heap.size < wa.heap.size:=bx.lt
 have x0:=bx.cell (j:=0) rfl
 have x1:=bx.cell (j:=1) rfl
 have x2:=bx.cell (j:=2) rfl
 have HX:=hide (fun W (hb:Below wa.heap.size wa W)=>(bx.step hb))
 have HBA:=hide ba
 have HOK:=hide (specStoreOk s hok hbk _ wa (hsx.step ba))
 have HCL:=hide (fun (h:storeOk s=true) W (hb:Below w.heap.size w W)=>specClos4 s n hn hok (objsAsc_diff ((storeOk_iff s).1 h).2.2.1) ((storeOk_iff s).1 h).1 hbk _ vn W (hsx.step hb) (hv.step hb))
 have HBO:=hide hbo
 obtain ⟨T,hT⟩:∃ T,storeOk s=T:=⟨_,rfl⟩
 rw [hT] at HOK
 have HT:=hide hT
 clear bx ba hok hbk hs hsx h0 h1 h2 hT hbo hv hbs
 go_enter Tryz.func31,Tryz.ntmps31
 go_wp2_with fail
 refine HOK.out.mono ?_
 rintro e w1 ⟨rfl,b1⟩
 have HB1:=hide (HBA.out.trans (b1.mono HBA.out.size))
 have HZ1:=hide b1
 clear x0 x1 x2 b1
 cases T with
 | false =>
   have HR:=hide (closR_no (n:=n) HT.out)
   go_wp2_with fail
   go_ret
   exact ⟨_,[],rfl,by rw [HR.out]; exact lie_nilN _,Fresh.nil _ _,HB1.out⟩
 | true =>
   have HC:=hide (HCL.out HT.out w1 HB1.out)
   have x0:=(HX.out w1 HZ1.out).cell (j:=0) rfl
   have x1:=(HX.out w1 HZ1.out).cell (j:=1) rfl
   have x2:=(HX.out w1 HZ1.out).cell (j:=2) rfl
   go_wp2_with fail
   refine HC.out.mono ?_
   rintro e w2 ⟨v2,d,rfl,hr,hf,b2⟩
   have HB2:=hide (HB1.out.trans (b2.mono HB1.out.size))
   have hcl:(objNames s.objs).filter (qd s.objs d)=closureR s n:=by
    rw [closureR,if_pos HT.out]
    exact filter_found hf
   rw [hcl] at hr
   have hlen:(closureR s n).length≤1048576:=by
    rw [← hcl]
    exact Nat.le_trans (List.length_filter_le _ _) (by rw [objNames_len]; exact hol)
   have hnl:∀ x∈closureR s n,x.length≤1048576:=fun x hx=>by
    rw [← hcl] at hx
    obtain ⟨h5,-⟩:=List.mem_filter.1 hx
    obtain ⟨o,ho,rfl⟩:=List.mem_map.1 h5
    have h6:=HBO.out o ho
    have h7:=bulk_Obj o
    omega
   obtain ⟨R,hR⟩:∃ R,closureR s n=R:=⟨_,rfl⟩
   rw [hR] at hr hlen hnl
   have HRR:=hide hR
   have HO:=hide (ownAll R v2 w2 hr hlen hnl)
   obtain ⟨A2_,c2_,rfl,-,-⟩:=names_len hr
   have hlo:=HB2.out.size
   clear b2 hr hf hcl hlen hnl hR x0 x1 x2
   go_wp2_with fail
   refine HO.out.mono ?_
   rintro e w3 ⟨v3,rfl,o3,b3⟩
   have HB3:=hide (HB2.out.trans (b3.mono HB2.out.size))
   obtain ⟨F,l3,f3⟩:=o3.fresh
   have HL3:=hide l3
   have HF3:=hide (f3.base hlo)
   obtain ⟨A3_,c3_,rfl,-,-⟩:=l3.form
   clear o3 b3 l3 f3
   go_wp2_with fail
   go_ret
   exact ⟨_,F,rfl,by rw [HRR.out]; exact HL3.out,HF3.out,HB3.out⟩
end Go.Proofs.YtgaadpkefncnmaaGreatDoor
/-
  Closure: the program.
-/
namespace Go.Proofs.YtgaadpkefncnmaaGreatDoor
open Go.RowKit
set_option linter.unusedVariables false
set_option linter.unusedSimpArgs false
open Classical in
/-- The names that a search finds, as they stand. -/
noncomputable def foundL (os:List DObj) (ns:List (List Int)):List (List Int):=(objNames os).filter (fun x=>decide (Rch os ns x))
theorem foundL_namesOf {os:List DObj} {ns:List (List Int)} {q:List Int→Bool} (ha:objsAsc os=true) (hB:∀ o∈os,Byt o.name) (hq:∀ x,q x=true↔Rch os ns x):NamesOf (setF q) (foundL os ns):=by
 refine ⟨(objNames_asc ha).filter _,fun n hn=>?_,fun n _=>?_⟩
 ·obtain ⟨h1,-⟩:=List.mem_filter.1 hn
  obtain ⟨o,ho,rfl⟩:=List.mem_map.1 h1
  exact hB o ho
 ·rw [setF_isSome,hq n,foundL,List.mem_filter,mem_objNames]
  simp only [decide_eq_true_eq]
  exact ⟨fun h=>⟨h.there,h⟩,fun h=>h.2⟩
set_option maxRecDepth 20000 in
set_option maxHeartbeats 1600000 in
/-- A search in nothing. -/
theorem implReachNil (mr:Option Nat) (Av:Option Addr) (nv cv:Nat) (B nB cB:Nat) (n:List Int) (hB:Byt n) (hl:n.length≤1048576) (v:Value) (w:World) (hs:MapV w B nB (setF fun _=>false) cB) (hv:RdN w v [n]) :
  Calls Tryz.prog 133 #[.agg #[.map mr,.map none,.slice Av nv cv],.map (some B),v] w fun e w'=>e=.returned (.tuple #[])∧Below w.heap.size w w':=by
 obtain ⟨wk,hwk⟩:∃ wk,w.alloc (.cells #[.map mr,.map none,.slice Av nv cv] 85)=wk:=⟨_,rfl⟩
 have bk:Below w.heap.size w wk:=by rw [← hwk]; exact (Below.refl _ _).alloc (Nat.le_refl _) _
 have bxk:Box wk w.heap.size 85 [.map mr,.map none,.slice Av nv cv]:=by rw [← hwk]; exact Box.new w _ _
 obtain ⟨A,c,rfl,hc1,hc2⟩:=names_len hv
 have hvk:=hv.below bk
 unfold maxLen at hc2
 have HK:=hide (fun W (hb:Below wk.heap.size wk W)=>bxk.step hb)
 have HBK:=hide bk
 have HNN:=hide hvk
 clear hv bk bxk hs hvk
 go_enter Tryz.func133,Tryz.ntmps133
 go_wp2
 go_loopw [12] (fun i wr=>∃ j:Nat,j≤1∧i=.int .i64 j∧Hid (Below wk.heap.size wk wr)) (fun i _=>1 - (intOf i).toNat)
 case atStart=>exact ⟨0,Nat.zero_le _,rfl,hide (Below.refl _ _)⟩
 case round =>
  obtain ⟨j,hj,rfl,HG⟩:=hrel
  have k1_:=(HK.out wr HG.out).cell (j:=1) rfl
  by_cases hlt:j < 1
  ·obtain rfl:j=0:=by omega
   obtain ⟨b,off,x,hA',hblt,cx,rx⟩:=HNN.out.get (m:=0) (by simp)
   subst hA'
   have q1:wr.cell? ⟨b,off,none⟩=some x:=by simpa using (HG.out.cell (p:=⟨b,off + 0,none⟩) hblt).trans cx
   have hrx:=rx.below HG.out
   have e0 : [n].getD 0 []=n:=rfl
   rw [e0] at hrx
   have hcv:=conv_rd (P:=Tryz.prog) Tryz.underlying39 Tryz.underlying5 Tryz.underlying9 hrx
   have hlk:=nilMap_look (w:=wr) (t:=83) Tryz.underlying83 (zeroObj wr) (nm:=n) (by omega)
   unfold zObj at hlk
   clear cx rx hrx e0
   go_wp2_with fail
   go_roundw
   case rel=>exact ⟨1,by omega,by go_num,hide (HG.out.alloc (HG.out.size) _)⟩
   case measure=>simp [intOf]
  ·obtain rfl:j=1:=by omega
   go_wp2_with fail
   refine bodyPost_end (results_none rfl _ _ _) rfl ?_
   exact ⟨rfl,HBK.out.trans (HG.out.mono HBK.out.size)⟩
set_option maxRecDepth 20000 in
set_option maxHeartbeats 1600000 in
theorem implReachedNil (mr:Option Nat) (Av:Option Addr) (nv cv:Nat) (n:List Int) (hB:Byt n) (hl:n.length≤1048576) (v:Value) (w:World) (hv:RdN w v [n]) :
  Calls Tryz.prog 74 #[.agg #[.map mr,.map none,.slice Av nv cv],v] w fun e w'=>∃ B,e=.returned (.map (some B))∧MapV w' B 0 (setF fun _=>false) 0∧Below w.heap.size w w':=by
 obtain ⟨wk,hwk⟩:∃ wk,w.alloc (.cells #[.map mr,.map none,.slice Av nv cv] 85)=wk:=⟨_,rfl⟩
 have bk:Below w.heap.size w wk:=by rw [← hwk]; exact (Below.refl _ _).alloc (Nat.le_refl _) _
 have bxk:Box wk w.heap.size 85 [.map mr,.map none,.slice Av nv cv]:=by rw [← hwk]; exact Box.new w _ _
 obtain ⟨wm,hwm⟩:∃ wm,wk.alloc (.map #[] 0)=wm:=⟨_,rfl⟩
 have bm:Below wk.heap.size wk wm:=by rw [← hwm]; exact (Below.refl _ _).alloc (Nat.le_refl _) _
 have hmm:MapV wm wk.heap.size 0 (setF fun _=>false) 0:=by rw [← hwm]; exact MapV.made wk
 have hb:Below w.heap.size w wm:=bk.trans (bm.mono bk.size)
 have hbx:=bxk.step bm
 have s0:=hbx.cell (j:=0) rfl
 have s1:=hbx.cell (j:=1) rfl
 have s2:=hbx.cell (j:=2) rfl
 have HC:=hide (implReachNil mr Av nv cv wk.heap.size 0 0 n hB hl v wm hmm (hv.below hb))
 have HB:=hide hb
 have HM:=hide hmm
 have hmk:=@run_makeMap Tryz.prog
 clear hb hbx bxk bm bk hmm hv
 go_enter Tryz.func74,Tryz.ntmps74
 go_wp2_with fail
 refine HC.out.mono ?_
 rintro e w1 ⟨rfl,b1⟩
 have HB1:=hide (HB.out.trans (b1.mono HB.out.size))
 have HM1:=hide (HM.out.step b1)
 clear b1 s0 s1 s2
 go_wp2_with fail
 go_ret
 exact ⟨_,rfl,HM1.out,HB1.out⟩
theorem closureR_no {s:DStore} {n:List Int} (h:storeOk s=false):closureR s n = []:=by rw [closureR,if_neg (by rw [h]; exact Bool.false_ne_true)]
theorem closureR_yes {s:DStore} {n:List Int} (h:storeOk s=true):closureR s n=foundL s.objs [n]:=by rw [closureR,if_pos h]; rfl
set_option maxRecDepth 20000 in
set_option maxHeartbeats 3200000 in
theorem implClosure (s:DStore) (n:List Int) (hn:Byt n) (hnl:n.length≤1048576) (hok:oks s.cells) (hbk:bulks s.cells≤1048576) (us:List Value) (vn:Value) (w:World) (hs:Ins w s.cells us) (hv:In1 w (raw n) vn) (hTb:Tab w) :
  Calls Tryz.prog 32 #[.agg us.toArray,vn] w fun e w'=>∃ v F,e=.returned v∧Lie w' (names (closureR s n)) v F∧Fresh w.heap.size w' F∧Below w.heap.size w w':=by
 have hsx:=hs
 obtain ⟨ok1,ok2,ok3⟩:=(DStore.oks_iff s).1 hok
 have hbo:∀ o∈s.objs,bulks o.cells≤1048576:=fun o ho=>by
  have h1:=bulks_mem (f:=DObj.cells) ho
  have h3:=bulk_Store s
  omega
 have hol:s.objs.length≤1048576:=by have h3:=bulk_Store s; omega
 have hB:∀ o∈s.objs,Byt o.name:=fun o ho=>((DObj.oks_iff o).1 (ok1 o ho)).1
 obtain ⟨A0,c0,A1,c1,A2,c2,rfl,h0,h1,h2⟩:=DStore.view hs
 obtain ⟨Ad,cd,rfl,-,-,-⟩:=id hv.rd
 rw [bs_length] at hv ⊢
 obtain ⟨L,hL⟩:∃ L,n.length=L:=⟨_,rfl⟩
 have hv0:=hv
 rw [hL] at hv ⊢
 obtain ⟨wa,hwa⟩:∃ wa,w.alloc (.cells #[.slice A0 s.objs.length c0,.slice A1 s.roots.length c1,.slice A2 s.reals.length c2] 32)=wa:=⟨_,rfl⟩
 have ba:Below w.heap.size w wa:=by rw [← hwa]; exact (Below.refl _ _).alloc (Nat.le_refl _) _
 have bx:Box wa w.heap.size 32 [.slice A0 s.objs.length c0,.slice A1 s.roots.length c1,.slice A2 s.reals.length c2]:=by rw [← hwa]; exact Box.new w _ _
 have hz:w.heap.size < wa.heap.size:=bx.lt
 have x0:=bx.cell (j:=0) rfl
 have x1:=bx.cell (j:=1) rfl
 have x2:=bx.cell (j:=2) rfl
 have HBA:=hide ba
 have HV:=hide hv
 have HOP:=hide (implOpen s hok hbk _ wa (hsx.step ba) (hTb.step ba))
 clear bx ba hok hbk hs hsx hTb h0 h1 h2 hv hv0
 go_enter Tryz.func32,Tryz.ntmps32
 go_wp2_with fail
 refine HOP.out.mono ?_
 rintro e w1 ⟨mr,mo,Av,nv,cv,rfl,b1,hst,hno⟩
 have HB1:=hide (HBA.out.trans (b1.mono HBA.out.size))
 obtain ⟨w2,hw2⟩:∃ W,w1.alloc (.cells #[.map mr,.map mo,.slice Av nv cv] 85)=W:=⟨_,rfl⟩
 have b2:Below w1.heap.size w1 w2:=by rw [← hw2]; exact (Below.refl _ _).alloc (Nat.le_refl _) _
 have bx2:Box w2 w1.heap.size 85 [.map mr,.map mo,.slice Av nv cv]:=by rw [← hw2]; exact Box.new w1 _ _
 have u0_:=bx2.cell (j:=0) rfl
 have u1_:=bx2.cell (j:=1) rfl
 have u2_:=bx2.cell (j:=2) rfl
 have HB2:=hide (HB1.out.trans (b2.mono HB1.out.size))
 obtain ⟨w3,hw3⟩:∃ W,w2.alloc (.cells #[.slice Ad L cd] 39)=W:=⟨_,rfl⟩
 have b3:Below w2.heap.size w2 w3:=by rw [← hw3]; exact (Below.refl _ _).alloc (Nat.le_refl _) _
 have HB3:=hide (HB2.out.trans (b3.mono HB2.out.size))
 have hrd3:RdN w3 (.slice (some ⟨w2.heap.size,0,none⟩) 1 1) [n]:=by
  refine ⟨[.slice Ad L cd],by rw [← hw3]; exact rd_oneV _ _ _,rfl,fun i u hu=>?_⟩
  obtain rfl:i=0:=by have:=(List.getElem?_eq_some_iff.1 hu).1; simpa using this
  obtain rfl:Value.slice Ad L cd=u:=by simpa using hu
  exact (HV.out.step HB3.out).rd
 have hcall:Calls Tryz.prog 74 #[.agg #[.map mr,.map mo,.slice Av nv cv],.slice (some ⟨w2.heap.size,0,none⟩) 1 1] w3 fun e w'=>∃ B nB cB q,e=.returned (.map (some B))∧MapV w' B nB (setF q) cB∧nB≤24∧NamesOf (setF q) (closureR s n)∧(closureR s n).length≤1048576∧(∀ x∈closureR s n,x.length≤1048576)∧Below w3.heap.size w3 w':=by
  cases hb:storeOk s with
  | false =>
    obtain ⟨-,rfl,-,-,-⟩:=hno hb
    rw [closureR_no hb]
    refine (implReachedNil mr Av nv cv n hn hnl _ w3 hrd3).mono ?_
    rintro e w' ⟨B,rfl,h1,h2⟩
    exact ⟨B,0,0,_,rfl,h1,by omega,NamesOf.nil fun _=>rfl,by simp,(fun x hx=>by cases hx),h2⟩
  | true =>
    obtain ⟨br,nr,cr,bo,no,q,f,rfl,rfl,-,-,-,g1,-,g2,g3,g4,g5⟩:=(hst hb).ok
    have hsok:=(storeOk_iff s).1 hb
    rw [closureR_yes hb]
    refine (implReached s.objs f ok1 hbo hsok.1 (some br) bo no _ Av nv cv [n] (fun x hx=>by rw [List.mem_singleton.1 hx]; exact hn) (fun x hx=>by rw [List.mem_singleton.1 hx]; exact hnl) (by simp) _ w3 (g5.step (b2.trans (b3.mono b2.size))) ((g3.step b2).step b3) hrd3).mono ?_
    rintro e w' ⟨B,nB,cB,q2,rfl,h1,h24,h2,h3,h4⟩
    refine ⟨B,nB,cB,q2,rfl,h1,h24,foundL_namesOf hsok.2.2.1 hB h2,?_,fun x hx=>?_,h4⟩
    ·exact Nat.le_trans (List.length_filter_le _ _) (by rw [objNames_len]; exact hol)
    ·obtain ⟨h5,-⟩:=List.mem_filter.1 hx
     obtain ⟨o,ho,rfl⟩:=List.mem_map.1 h5
     have h6:=hbo o ho
     have h7:=bulk_Obj o
     omega
 have HC:=hide hcall
 have hlo:=HB3.out.size
 clear b1 b2 b3 bx2 x0 x1 x2 HOP hst hno hcall hol hB ok1 ok2 ok3 hbo hrd3
 obtain ⟨R,hR⟩:∃ R,closureR s n=R:=⟨_,rfl⟩
 rw [hR] at HC
 have HRR:=hide hR
 clear hR
 go_wp2_with fail
 refine HC.out.mono ?_
 rintro e w4 ⟨B,nB,cB,q,rfl,hm,h24,hnm,hl1,hl2,b4⟩
 have HB4:=hide (HB3.out.trans (b4.mono HB3.out.size))
 have HS:=hide (sortedB (some B) (setF q) R w4 (Or.inr ⟨B,nB,cB,rfl,hm,by omega⟩) hnm hl1 hl2)
 have hlo4:=HB4.out.size
 clear b4 hm hnm hl1 hl2 u0_ u1_ u2_
 go_wp2_with fail
 refine HS.out.mono ?_
 rintro e w5 ⟨v,F,rfl,hF,b5⟩
 have HB5:=hide (HB4.out.trans (b5.mono HB4.out.size))
 have HF:=hide hF
 obtain ⟨A3,c3,rfl,-,-⟩:=hF.row.form
 clear b5 hF
 go_wp2_with fail
 go_ret
 obtain ⟨l1,l2⟩:=HF.out.done
 exact ⟨_,_,rfl,by rw [HRR.out]; exact l1,l2.base hlo4,HB5.out⟩
end Go.Proofs.YtgaadpkefncnmaaGreatDoor
/-
  The law Closure.
-/
namespace Go.Proofs.YtgaadpkefncnmaaGreatDoor
open Go.RowKit
set_option linter.unusedVariables false
set_option linter.unusedSimpArgs false
theorem bulks_names_sub {a b:List (List Int)} (h:a.Sublist b):bulks (cells (fun n=>[raw n]) a)≤bulks (cells (fun n=>[raw n]) b):=bulks_sublist h
theorem closureR_cnt (s:DStore) (n:List Int) (hb:bulks s.cells≤1048576):(names (closureR s n)).cnt≤274877906944:=by
 have h:=cnts_namesL (closureR s n)
 have h2:bulks (cells (fun n=>[raw n]) (closureR s n))≤bulks s.cells:=by
  rw [closureR]
  split
  ·exact Nat.le_trans (bulks_names_sub (List.filter_sublist ..)) (Nat.le_trans (bulks_objNames s.objs) (bulks_objs s))
  ·simp [cells,bulks]
 omega
theorem lawClosure (x0:DStore) (o0:oks x0.cells) (x1:List Int) (o1:(raw x1).ok) (w:World) (u0:List Value) (E0:List Nat) (h0:Lies w x0.cells u0 E0) (u1:Value) (E1:List Nat) (h1:Lie w (raw x1) u1 E1) (hT:Tab w) :
  Calls Tryz.prog 6 #[.agg u0.toArray,u1] w fun e w'=>e=.returned (.bool true)∧Below w.heap.size w w':=by
 refine walkClosure x0 x1 (if bulks x0.cells≤1048576 then closureR x0 x1 else []) ?_ ?_ ?_ w u0 E0 h0 u1 E1 h1 hT
 ·split
  ·rename_i hb; exact closureR_cnt x0 x1 hb
  ·simp [names,Cel.cnt,cells,cnts]
 ·intro hb hb1 u E v G W h hv
  rw [if_pos hb]
  refine (specClosure x0 x1 ((raw_ok x1).1 o1) o0 hb u v W ⟨E,h⟩ ⟨G,hv⟩).mono ?_
  rintro e w' ⟨r,J,he,h1,h2,h3⟩
  exact ⟨r,J,he,h1,fun g hg=>.inr (.inr (h2.low g hg)),h3⟩
 ·intro hb hb1 u E v G W h hv ht
  rw [if_pos hb]
  exact implClosure x0 x1 ((raw_ok x1).1 o1) (by rw [raw_bulk] at hb1; exact hb1) o0 hb u v W ⟨E,h⟩ ⟨G,hv⟩ ht
end Go.Proofs.YtgaadpkefncnmaaGreatDoor
