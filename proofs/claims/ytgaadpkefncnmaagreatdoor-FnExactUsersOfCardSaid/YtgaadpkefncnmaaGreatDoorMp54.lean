/-
  Parts of the proof: UsersS, UsersI, UsersOfL.
-/
import Derived.Test.YtgaadpkefncnmaaGreatDoorMp40
import Derived.Test.YtgaadpkefncnmaaGreatDoorMp49
import Derived.Test.YtgaadpkefncnmaaGreatDoorMp1
import Derived.Test.YtgaadpkefncnmaaGreatDoorMp29
import Derived.Laws.BytesArg
import Derived.IntWalk
import Derived.Deep.QuietTactic
import Derived.BigQuiet
import Derived.Deep.Cut
import Derived.Deep.DeepCutAuto
import Derived.Deep.CutBlock
import Derived.Deep.RegionWith
import Derived.Test.YtgaadpkefncnmaaGreatDoorMp45
import Derived.Test.YtgaadpkefncnmaaGreatDoorMp53
import Derived.Test.YtgaadpkefncnmaaGreatDoorMp52
/-
  UsersOf: the model.
-/
namespace Go.Proofs.YtgaadpkefncnmaaGreatDoor
open Go.RowKit
set_option linter.unusedVariables false
set_option linter.unusedSimpArgs false
theorem memTake {R:List (List Int)} {n:List Int} {q:Nat} (h:q < R.length):decide (n∈R.take (q + 1))=(decide (n∈R.take q) || decide (R.getD q []=n)):=by
 have e:R.getD q []=R[q]:=by simp [List.getD,List.getElem?_eq_getElem h]
 have e2:R.take (q + 1)=R.take q++[R[q]]:=List.take_succ_eq_append_getElem h
 rw [e,e2,Bool.eq_iff_iff,Bool.or_eq_true,decide_eq_true_eq,decide_eq_true_eq,decide_eq_true_eq,List.mem_append,List.mem_singleton]
 exact ⟨fun h=>h.imp id Eq.symm,fun h=>h.imp id Eq.symm⟩
set_option maxRecDepth 20000 in
set_option maxHeartbeats 6400000 in
theorem specUsersOf (s:DStore) (n:List Int) (hn:Byt n) (hok:oks s.cells) (hbk:bulks s.cells≤1048576) (us:List Value) (vn:Value) (w:World) (hs:Ins w s.cells us) (hv:In1 w (raw n) vn) :
  Calls Tryz.prog 29 #[.agg us.toArray,vn] w fun e w'=>∃ v F,e=.returned v∧Lie w' (names (usersR s n)) v F∧Fresh w.heap.size w' F∧Below w.heap.size w w':=by
 obtain ⟨i8,hi8,hz80,hz81,hz82⟩:=info_parts u8info
 have hsx:=hs
 have hbo:∀ o∈s.objs,bulks o.cells≤1048576:=fun o ho=>by
  have h1:=bulks_mem (f:=DObj.cells) ho
  have h3:=bulk_Store s
  omega
 have hol:s.objs.length≤1048576:=by have h3:=bulk_Store s; omega
 obtain ⟨A0,c0,A1,c1,A2,c2,rfl,h0,h1,h2⟩:=DStore.view hs
 obtain ⟨wa,hwa⟩:∃ wa,w.alloc (.cells #[.slice A0 s.objs.length c0,.slice A1 s.roots.length c1,.slice A2 s.reals.length c2] 32)=wa:=⟨_,rfl⟩
 have ba:Below w.heap.size w wa:=by rw [← hwa]; exact (Below.refl _ _).alloc (Nat.le_refl _) _
 have bx:Box wa w.heap.size 32 [.slice A0 s.objs.length c0,.slice A1 s.roots.length c1,.slice A2 s.reals.length c2]:=by rw [← hwa]; exact Box.new w _ _
 have hz:w.heap.size < wa.heap.size:=bx.lt
 have x0:=bx.cell (j:=0) rfl
 have x1:=bx.cell (j:=1) rfl
 have x2:=bx.cell (j:=2) rfl
 have HX:=hide (fun W (hb:Below wa.heap.size wa W)=>(bx.step hb))
 have HBA:=hide ba
 have HOK:=hide (specStoreOk s hok hbk _ wa (hsx.step ba))
 have HO:=hide (show usersR s n=if storeOk s then (objNames s.objs).filter (fun x=>decide (n∈refsAt s.objs x)) else [] from rfl)
 have HBO:=hide hbo
 have HKK:=hide hok
 have H0:=hide (h0.step ba)
 have HV:=hide (hv.step ba)
 have HD:=hide (fun (h:storeOk s=true)=>objsAsc_diff ((storeOk_iff s).1 h).2.2.1)
 obtain ⟨T,hT⟩:∃ T,storeOk s=T:=⟨_,rfl⟩
 rw [hT] at HOK HO
 have HT:=hide hT
 obtain ⟨N,hN⟩:∃ N,s.objs.length=N:=⟨_,rfl⟩
 rw [hN] at hol HX HOK bx hwa x0
 have HN:=hide hN
 simp only [hN]
 clear bx ba hok hbk hs hsx h0 h1 h2 hT hbo hN hv
 go_enter Tryz.func29,Tryz.ntmps29
 go_wp2_with fail
 refine HOK.out.mono ?_
 rintro e w1 ⟨rfl,b1⟩
 have HB1:=hide b1
 clear x0 x1 x2 b1
 cases T with
 | false =>
   have HR:=hide (show usersR s n = [] by rw [HO.out]; rfl)
   go_wp2_with fail
   go_ret
   exact ⟨_,[],rfl,by rw [HR.out]; exact lie_nilN _,Fresh.nil _ _,HBA.out.trans (HB1.out.mono HBA.out.size)⟩
 | true =>
   have HR:=hide (show usersR s n=(objNames s.objs).filter (fun x=>decide (n∈refsAt s.objs x)) by rw [HO.out]; rfl)
   have HDD:=hide (HD.out HT.out)
   clear HD HO
   go_wp2_with fail
   go_loopw [5,6] (fun u kv wr=>∃ j:Nat,j≤N∧kv=.int .i64 j∧Hid (∃ m F,RowF wa.heap.size wr 39 1 m (rawss ((objNames (s.objs.take j)).filter (fun x=>decide (n∈refsAt s.objs x)))) u F∧m=((objNames (s.objs.take j)).filter (fun x=>decide (n∈refsAt s.objs x))).length)∧Hid (Below wa.heap.size wa wr)) (fun _ kv _=>N - (intOf kv).toNat)
   case atStart=>exact ⟨0,Nat.zero_le _,rfl,hide ⟨0,[],RowF.nil _ _ _ _ (by decide),rfl⟩,HB1⟩
   case round =>
    clear HB1
    obtain ⟨j,hj,rfl,HX2,HB⟩:=hrel
    have y0:=(HX.out wr HB.out).cell (j:=0) rfl
    by_cases hlt:j < N
    ·have hjn:j < s.objs.length:=by rw [HN.out]; exact hlt
     have hbw:Below wa.heap.size wa wr:=HB.out
     obtain ⟨be,oe,cce,Be0,de0,Be3,de3,Be4,de4,Be5,de5,Be6,de6,Be7,de7,Be8,de8,-,ee,le,qe0,-,-,-,-,-,qe6,-,-,ie0,-,-,-,ie6,-,-⟩:=DObj.elem H0.out (Below.refl _ _) hjn
     obtain rfl:=ee rfl
     have hob:=obj_byt HKK.out hjn
     have hrb:BytN (s.objs[j]).refs:=((DObj.oks_iff _).1 hob).2.2.2.1
     have hrn:=ie6.rdN
     have hbj:=HBO.out _ (List.getElem_mem hjn)
     have hbj2:=bulk_Obj (s.objs[j])
     have hrl:(s.objs[j]).refs.length≤1048576:=by omega
     have hnl:(s.objs[j]).name.length≤1048576:=by omega
     have hx:=objNames_next hjn
     have hsel:(objNames (s.objs.take (j + 1))).filter (fun x=>decide (n∈refsAt s.objs x))=(objNames (s.objs.take j)).filter (fun x=>decide (n∈refsAt s.objs x))++(if decide (n∈(s.objs[j]).refs) then [(s.objs[j]).name] else []):=by
      rw [hx,List.filter_append,filter1,refsAt_self HDD.out hjn]
     have k1:(j:Int) < (N:Int):=by omega
     have k0:(0:Int)≤(j:Int):=by omega
     have k2:(j:Int).toNat=j:=by omega
     generalize hRR:(s.objs[j]).refs=R at *
     generalize (s.objs[j]).name=nm at *
     have HQ0:=hide (fun W (hb:Below wa.heap.size wa W)=>(hb.cell (p:=⟨be,oe + j * 9,none⟩) le).trans qe0)
     have HQ6:=hide (fun W (hb:Below wa.heap.size wa W)=>(hb.cell (p:=⟨be,oe + j * 9 + 6,none⟩) le).trans qe6)
     have HI0:=hide ie0
     have HRN:=hide hrn
     have HRB:=hide hrb
     have HSEL:=hide hsel
     obtain ⟨M,hM⟩:∃ M,R.length=M:=⟨_,rfl⟩
     rw [hM] at hrl HQ6
     have HM:=hide hM
     obtain ⟨L,hL⟩:∃ L,nm.length=L:=⟨_,rfl⟩
     rw [hL] at hnl HQ0
     have HL:=hide hL
     clear hx hsel hrn hrb hob hbj hbj2 hbw qe0 qe6 ie0 ie6 hM hL hRR
     go_upto_block 2 with (fail)
     go_cut [7] (fun v wx=>v=.bool (decide (n∈R))∧Hid (Below wr.heap.size wr wx))
     case first =>
      go_wp2_with fail
      go_loopw [7,8] (fun v kv wx=>∃ q:Nat,q≤M∧kv=.int .i64 q∧v=.bool (decide (n∈R.take q))∧Hid (Below wr.heap.size wr wx)) (fun _ kv _=>M - (intOf kv).toNat)
      case atStart=>exact ⟨0,Nat.zero_le _,rfl,by simp,hide (Below.refl _ _)⟩
      case round =>
       rename World=>wx
       obtain ⟨q,hq,rfl,rfl,HBX⟩:=hrel
       have hbx:=HB.out.trans (HBX.out.mono HB.out.size)
       have z0:=(HX.out wx hbx).cell (j:=0) rfl
       have z6:=HQ6.out wx hbx
       by_cases hlt3:q < M
       ·have hqn:q < R.length:=by rw [HM.out]; exact hlt3
        have r1:(q:Int) < (M:Int):=by omega
        have t0:(0:Int)≤(q:Int):=by omega
        have t2:(q:Int).toNat=q:=by omega
        obtain ⟨b6,o6,x6,hA6,hb6,cx6,rx6⟩:=HRN.out.get hqn
        subst hA6
        have cr:=fun m=>(below_drewN hbx m).cell (p:=⟨b6,o6 + q,none⟩) hb6 |>.trans cx6
        have cr0:=cr 0
        have hmr:R.getD q []∈R:=by simp [List.getD,List.getElem?_eq_getElem hqn]
        have hBr:=HRB.out _ hmr
        have q1:∀ m,Rd (wx.drewN m) x6 (bs (R.getD q [])):=fun m=>rx6.below (below_drewN hbx m)
        have q2:∀ m,Rd (wx.drewN m) vn (bs n):=fun m=>(HV.out.step (below_drewN hbx m)).rd
        have cw1:=fun m=>conv_rd (P:=Tryz.prog) Tryz.underlying39 Tryz.underlying5 Tryz.underlying9 (q1 m)
        have cw2:=fun m=>conv_rd (P:=Tryz.prog) Tryz.underlying39 Tryz.underlying5 Tryz.underlying9 (q2 m)
        have cv1:=cw1 0
        have cv2:=cw2 0
        have heq:=str_eq hBr hn
        have htk:=memTake (n:=n) hqn
        obtain ⟨rr,hrr⟩:∃ r,R.getD q []=r:=⟨_,rfl⟩
        rw [hrr] at cw1 cv1 heq htk
        obtain ⟨B0,hB0⟩:∃ b,decide (n∈R.take q)=b:=⟨_,rfl⟩
        rw [hB0] at htk ⊢
        obtain ⟨B1,hB1⟩:∃ b,decide (rr=n)=b:=⟨_,rfl⟩
        rw [hB1] at htk heq
        have HTK:=hide htk
        generalize strOfNums rr=s1 at *
        generalize strOfNums n=s2 at *
        clear q1 q2 hBr rx6 cx6 hrr hmr htk hB0 hB1
        have HBX3:=hide (below_drewN HBX.out 1)
        cases B0 with
        | false =>
          go_upto_region 11 with (fail)
          go_quiet (fail)
          go_wp2
          go_roundw
          case rel=>exact ⟨q + 1,by omega,by go_num,by rw [HTK.out,Bool.false_or],hide (below_drewN HBX.out _)⟩
          case measure=>simp [intOf]; omega
        | true =>
          go_upto_region 11 with (fail)
          go_quiet (fail)
          go_wp2
          go_roundw
          case rel=>exact ⟨q + 1,by omega,by go_num,by rw [HTK.out,Bool.true_or],hide (below_drewN HBX.out _)⟩
          case measure=>simp [intOf]; omega
       ·obtain rfl:q=M:=by omega
        have e2:R.take q=R:=List.take_of_length_le (by rw [HM.out]; omega)
        rw [e2]
        clear e2
        go_wp2_with fail
        go_meet
        exact ⟨rfl,HBX⟩
     case rest =>
      rename World=>wx
      obtain ⟨rfl,HBX⟩:=hcut
      obtain ⟨m,F,hR,hm⟩:=HX2.out
      have hbx:=HB.out.trans (HBX.out.mono HB.out.size)
      obtain ⟨Q,hQ⟩:∃ Q,decide (n∈R)=Q:=⟨_,rfl⟩
      have hsel:=HSEL.out
      rw [hQ] at hsel ⊢
      have HBW:=hide hbx
      cases Q with
      | false =>
        have HS2:=hide (show (objNames (s.objs.take (j + 1))).filter (fun x=>decide (n∈refsAt s.objs x))=(objNames (s.objs.take j)).filter (fun x=>decide (n∈refsAt s.objs x)) by rw [hsel]; simp)
        have HR2:=hide (hR.step HBX.out)
        have HMM:=hide hm
        clear hsel hR hm hbx y0 hQ
        go_wp2_with fail
        go_roundw
        case rel=>exact ⟨j + 1,by omega,by go_num,hide ⟨m,F,by rw [HS2.out]; exact HR2.out,by rw [HS2.out]; exact HMM.out⟩,HBW⟩
        case measure=>simp [intOf]; omega
      | true =>
        have HS2:=hide (show (objNames (s.objs.take (j + 1))).filter (fun x=>decide (n∈refsAt s.objs x))=(objNames (s.objs.take j)).filter (fun x=>decide (n∈refsAt s.objs x))++[nm] by rw [hsel]; simp)
        have HR2:=hide (hR.step HBX.out)
        have hml:m≤1048576:=by
         rw [hm]
         refine Nat.le_trans (List.length_filter_le _ _) ?_
         rw [objNames_len,List.length_take]
         omega
        have HMM:=hide hm
        have z0:=(HX.out wx hbx).cell (j:=0) rfl
        have z1:=HQ0.out wx hbx
        have s1:w.heap.size < wx.heap.size:=Nat.lt_of_lt_of_le hz hbx.size
        have s2:be < wx.heap.size:=Nat.lt_of_lt_of_le le hbx.size
        have HRD:=hide ((HI0.out.step hbx).rd)
        rw [HL.out] at HRD
        have hlo:wa.heap.size≤wx.heap.size:=hbx.size
        clear hsel hR hm hbx y0 hQ
        go_wp2_with (first
         | (at_builtin; refine wpList_app _ rfl (.tmp 48) (.tmp 54) _ rfl wx.heap.size 5 i8 _ 1 Tryz.underlying39 hi8 hz80 hz81 hz82 rfl _ 0 [] rfl (own_lit0 wx _) _ (bs nm) rfl (HRD.out.alloc _) (bs_one _) (by rw [bs_length,HL.out]; simp only [maxLen]; omega) (by rw [bs_length,HL.out]; omega) (by simp) ?_; intro v1 w3 own1 gr1; have hb1_:=below_app0 gr1; have ho1:=own_len (own_cells own1 (List.nil_append _)) (show 0 + (bs nm).length=nm.length by rw [bs_length]; omega); obtain ⟨A1_,c1_,hv1,-,-⟩:=own_slice ho1; subst hv1; have HB3:=hide hb1_; obtain ⟨J,lie1,fr1⟩:=own_freshR ho1; have HJ:=hide fr1; have HL1:=hide (lies_one lie1); have HR3:=hide (HR2.out.row.step hb1_); have HFA:=hide (HR2.out.far fr1); have hlo3:wa.heap.size≤w3.heap.size:=(by have:=hb1_.size; omega); clear own1 gr1 hb1_ ho1 lie1 fr1)
         | (at_builtin; refine wpList_row1 rfl rfl HR3.out HL1.out HFA.out rfl rfl rfl Tryz.underlying23 inf_bytes rfl (by decide) (by decide) (by omega) hlo3 ?_; intro v3 w4 R3 B3 g3; have HR4:=hide (HR2.out.snoc HB3.out HJ.out hlo R3 g3); have HB4:=hide ((HBW.out.trans (HB3.out.mono hlo)).trans B3); clear R3 B3 g3))
        go_roundw
        case rel=>exact ⟨j + 1,by omega,by go_num,hide ⟨_,_,by rw [HS2.out,rawss_snoc]; exact HR4.out,by rw [HS2.out,HMM.out,List.length_append]; rfl⟩,HB4⟩
        case measure=>simp [intOf]; omega
    ·obtain rfl:j=N:=by omega
     have e2:s.objs.take j=s.objs:=List.take_of_length_le (by rw [HN.out]; omega)
     rw [e2] at HX2
     clear e2
     go_wp2_with fail
     go_ret
     obtain ⟨m,F,hR,hm⟩:=HX2.out
     subst hm
     obtain ⟨l1,l2⟩:=hR.done
     exact ⟨_,_,rfl,by rw [HR.out]; exact l1,l2.base HBA.out.size,HBA.out.trans (HB.out.mono HBA.out.size)⟩
end Go.Proofs.YtgaadpkefncnmaaGreatDoor
/-
  UsersOf: the program.
-/
namespace Go.Proofs.YtgaadpkefncnmaaGreatDoor
open Go.RowKit
set_option linter.unusedVariables false
set_option linter.unusedSimpArgs false
/-- The elements' blocks, element by element. -/
theorem lies_each {w:World} : ∀ {l:List (List Int)} {us:List Value} {F:List Nat},Lies w (rawss l) us F→∃ Fs:List (List Nat),F=Fs.flatten∧Fs.length=l.length∧∀ i (hi:i < l.length) u,us[i]? = some u→Lie w (raw l[i]) u (Fs.getD i [])
 | [],us,F,h=>by
   rw [rawss,cells,Lies] at h
   exact ⟨[],h.2,rfl,fun i hi=>by simp at hi⟩
 | x :: l,us,F,h=>by
   rw [rawss,cells,List.singleton_append,Lies] at h
   obtain ⟨u,r,F1,F2,rfl,rfl,h1,h2⟩:=h
   obtain ⟨Fs,rfl,hl,he⟩:=lies_each h2
   refine ⟨F1 :: Fs,rfl,by simp [hl],fun i hi v hv=>?_⟩
   cases i with
   | zero =>
     obtain rfl:u=v:=by simpa using hv
     exact h1
   | succ i=>exact he i (by simpa using hi) v (by simpa using hv)
theorem flat_take {Fs:List (List Nat)} {j:Nat} (h:j < Fs.length):(Fs.take (j + 1)).flatten=(Fs.take j).flatten++Fs.getD j []:=by
 rw [List.take_succ_eq_append_getElem h,List.flatten_append]
 simp [List.getD,List.getElem?_eq_getElem h]
theorem Fresh.sub {lo:Nat} {w:World} {F G:List Nat} (h:Fresh lo w F) (hs:G.Sublist F):Fresh lo w G :=
 ⟨h.nodup.sublist hs,fun g hg=>h.low g (hs.subset hg),fun g hg=>h.live g (hs.subset hg)⟩
theorem field_refs (W:World) (A0:Option Addr) (n0 c0:Nat) (e1 e2:Int) (A3:Option Addr) (n3 c3:Nat) (A4:Option Addr) (n4 c4:Nat) (A5:Option Addr) (n5 c5:Nat) (A6:Option Addr) (n6 c6:Nat) (A7:Option Addr) (n7 c7:Nat) (A8:Option Addr) (n8 c8:Nat) :
  (Instr.field 49 (.agg #[.slice A0 n0 c0,.int .i64 e1,.int .i64 e2,.slice A3 n3 c3,.slice A4 n4 c4,.slice A5 n5 c5,.slice A6 n6 c6,.slice A7 n7 c7,.slice A8 n8 c8]) 3).run Tryz.prog W=.ok (.slice A6 n6 c6) W:=by kernel_rfl
set_option maxRecDepth 20000 in
set_option maxHeartbeats 6400000 in
theorem stockUsers (mr:Value) (mo:Option Nat) (rv:Value) (hmr:∃ m,mr=.map m) (hrv:∃ A n c,rv=.slice A n c) (f:List Int→Option Value) (l:List (List Int)) (R:List Int→List (List Int)) (n:List Int) (hn:Byt n) (vn:Value) (w:World) (hm:MapS w mo f) (hl:NamesOf f l) (hll:l.length≤1048576) (hk:∀ n∈l,n.length≤1048576)
  (hval:∀ x∈l,∃ (A0:Option Addr) (n0 c0:Nat) (e1 e2:Int) (A3:Option Addr) (n3 c3:Nat) (A4:Option Addr) (n4 c4:Nat) (A5:Option Addr) (n5 c5:Nat) (A6:Option Addr) (n6 c6:Nat) (A7:Option Addr) (n7 c7:Nat) (A8:Option Addr) (n8 c8:Nat),f x=some (.agg #[.slice A0 n0 c0,.int .i64 e1,.int .i64 e2,.slice A3 n3 c3,.slice A4 n4 c4,.slice A5 n5 c5,.slice A6 n6 c6,.slice A7 n7 c7,.slice A8 n8 c8])∧RdN w (.slice A6 n6 c6) (R x)∧(R x).length=n6∧n6≤1048576∧BytN (R x)∧(R x).Pairwise (fun a b=>lessL a b=true))
  (hv:In1 w (raw n) vn) :
  Calls Tryz.prog 71 #[.agg #[mr,.map mo,rv],vn] w fun e w'=>∃ v F,e=.returned v∧Lie w' (names (l.filter fun x=>decide (n∈R x))) v F∧Fresh w.heap.size w' F∧Below w.heap.size w w':=by
 obtain ⟨mr,rfl⟩:=hmr
 obtain ⟨Av,nv,cv,rfl⟩:=hrv
 obtain ⟨wk,hwk⟩:∃ wk,w.alloc (.cells #[.map mr,.map mo,.slice Av nv cv] 85)=wk:=⟨_,rfl⟩
 have bk:Below w.heap.size w wk:=by rw [← hwk]; exact (Below.refl _ _).alloc (Nat.le_refl _) _
 have bxk:Box wk w.heap.size 85 [.map mr,.map mo,.slice Av nv cv]:=by rw [← hwk]; exact Box.new w _ _
 have x1:=bxk.cell (j:=1) rfl
 have HX:=hide (fun W (hb:Below wk.heap.size wk W)=>bxk.step hb)
 have HBK:=hide bk
 have HS:=hide (sortedO mo f l wk (hm.step bk) hl hll hk)
 have HM:=hide (hm.step bk)
 have HVAL:=hide hval
 have HV:=hide hv
 have HLB:=hide hl.byt
 have HK:=hide hk
 obtain ⟨N,hN⟩:∃ N,l.length=N:=⟨_,rfl⟩
 rw [hN] at hll HS
 have HN:=hide hN
 clear bk bxk hm hval hv hl hk hN
 go_enter Tryz.func71,Tryz.ntmps71
 go_wp2_with fail
 refine HS.out.mono ?_
 rintro e w1 ⟨v,F,rfl,hF,b1⟩
 obtain ⟨A1,c1,rfl,hc1,hc2⟩:=hF.row.form
 obtain ⟨-,us,hown,hlies,-⟩:=hF.row
 obtain ⟨Fs,hFs,hFl,heach⟩:=lies_each hlies
 have hul:us.length=N:=by rw [hlies.len,rawss,cells_len (sz:=1) (fun _=>rfl),HN.out,Nat.mul_one]
 have hrd:=own_rdV hown hul.symm
 obtain ⟨A1',c1',e1,-,-,hcell⟩:=hrd
 rw [hul] at e1 hcell
 injection e1 with ea eb ec
 subst ea ec
 unfold maxLen at hc2
 have HB1:=hide (HBK.out.trans (b1.mono HBK.out.size))
 have HZ1:=hide b1
 have HC:=hide hcell
 have HF:=hide hF.fresh
 have HEA:=hide heach
 have HFL:=hide hFl
 have HFS:=hide hFs
 have HUL:=hide hul
 clear b1 hF hown hlies hFs hFl heach hul hcell x1
 go_wp2
 go_loopw [5,14] (fun u i wr=>∃ j:Nat,j≤N∧i=.int .i64 j∧Hid (∃ m G,Row w1.heap.size wr 39 1 m (rawss ((l.take j).filter fun x=>decide (n∈R x))) u G∧m=((l.take j).filter fun x=>decide (n∈R x)).length∧G.Sublist (Fs.take j).flatten)∧Hid (Below w1.heap.size w1 wr))
  (fun _ i _=>N - (intOf i).toNat)
 case atStart=>exact ⟨0,Nat.zero_le _,rfl,hide ⟨0,[],Row.nil _ _ _ _ (by decide),rfl,by simp⟩,hide (Below.refl _ _)⟩
 case round =>
  obtain ⟨j,hj,rfl,HR,HB⟩:=hrel
  have hbk0:Below wk.heap.size wk wr:=HZ1.out.trans (HB.out.mono HZ1.out.size)
  have y1:=(HX.out wr hbk0).cell (j:=1) rfl
  by_cases hlt:j < N
  ·have hjn:j < l.length:=by rw [HN.out]; exact hlt
   obtain ⟨b,off,hA,hb,hcc⟩:=HC.out (by omega)
   subst hA
   obtain ⟨uj,huj⟩:∃ u,us[j]? = some u:=⟨_,List.getElem?_eq_getElem (by rw [HUL.out]; exact hlt)⟩
   have q1:wr.cell? ⟨b,off + j,none⟩=some uj:=(HB.out.cell (p:=⟨b,off + j,none⟩) hb).trans (hcc j _ huj)
   have hlie:=HEA.out j hjn uj huj
   have hnm:l[j]∈l:=List.getElem_mem hjn
   have htk:l.take (j + 1)=l.take j++[l[j]]:=List.take_succ_eq_append_getElem hjn
   obtain ⟨A0,n0,c0,e1,e2,A3,n3,c3,A4,n4,c4,A5,n5,c5,A6,n6,c6,A7,n7,c7,A8,n8,c8,hfx,hrx,hrl,hr6,hrb,hra⟩:=HVAL.out _ hnm
   have hxb:=HLB.out _ hnm
   have hxk:=HK.out _ hnm
   have hb0:Below w.heap.size w wr:=HB1.out.trans (HB.out.mono HB1.out.size)
   have hmw:=HM.out.step hbk0
   have hlk:(Instr.lookup 83 (.map mo) (.string (strOfNums l[j])) false).run Tryz.prog wr=.ok (.agg #[.slice A0 n0 c0,.int .i64 e1,.int .i64 e2,.slice A3 n3 c3,.slice A4 n4 c4,.slice A5 n5 c5,.slice A6 n6 c6,.slice A7 n7 c7,.slice A8 n8 c8]) wr:=by
    rcases hmw with ⟨rfl,h0⟩ | ⟨bm,nm,cm,rfl,h2,h3⟩
    ·rw [h0] at hfx; cases hfx
    ·have:=h2.look1 (t:=83) Tryz.underlying83 (zeroObj wr) hxb (by omega)
     rw [hfx] at this
     exact this
   have hfr:=field_refs wr A0 n0 c0 e1 e2 A3 n3 c3 A4 n4 c4 A5 n5 c5 A6 n6 c6 A7 n7 c7 A8 n8 c8
   have hrdj:=(hlie.step HB.out).rd.1
   have hcv:=conv_rd (P:=Tryz.prog) Tryz.underlying39 Tryz.underlying5 Tryz.underlying9 hrdj
   have hsr:=searchN (R l[j]) n hrb hn hra A6 n6 c6 hrl hr6 vn wr (hrx.below hb0) (HV.out.step hb0).rd
   have hlie2:=hlie.step HB.out
   have hfil:(l.take (j + 1)).filter (fun x=>decide (n∈R x))=(l.take j).filter (fun x=>decide (n∈R x))++(if decide (n∈R l[j]) then [l[j]] else []):=by
    rw [htk,List.filter_append,filter1]
   obtain ⟨Q,hQ⟩:∃ Q,decide (n∈R l[j])=Q:=⟨_,rfl⟩
   rw [hQ] at hsr hfil
   obtain ⟨m,G,hR,hm,hG⟩:=HR.out
   have hFj:Fs.getD j []=Fs.getD j []:=rfl
   have hft:=flat_take (Fs:=Fs) (j:=j) (by rw [HFL.out]; exact hjn)
   have hml:m≤j:=by
    rw [hm]
    refine Nat.le_trans (List.length_filter_le _ _) ?_
    rw [List.length_take]
    omega
   have hltj:=hlie.lt
   generalize l[j]=x at *
   generalize Fs.getD j []=Fj at *
   obtain ⟨Aj,cj,rfl,hcj,-⟩:=hlie2.form
   have HSR:=hide hsr
   have HFI:=hide hfil
   have HR2:=hide hR
   have HMM:=hide hm
   have HGG:=hide hG
   have HFT:=hide hft
   have HLT:=hide hltj
   have HL2:=hide (lies_one hlie2)
   have HB0:=hide hb0
   have hlo:w1.heap.size≤wr.heap.size:=HB.out.size
   have k1:(j:Int) < (N:Int):=by omega
   have k0:(0:Int)≤(j:Int):=by omega
   have k2:(j:Int).toNat=j:=by omega
   clear hlie hnm htk hfx hrx hrl hrb hra hxb hb0 hmw hrdj hsr hlie2 hfil hQ hR hm hG hFj hft hltj hbk0 huj hcc
   go_wp2_with fail
   refine HSR.out.mono ?_
   rintro e w2 ⟨p,rfl,-,-,-,b2⟩
   have HB2:=hide (HB.out.trans (b2.mono HB.out.size))
   have HZ2:=hide b2
   clear b2 y1 q1 hlk hcv HSR
   cases Q with
   | false =>
     have HS2:=hide (show (l.take (j + 1)).filter (fun x=>decide (n∈R x))=(l.take j).filter (fun x=>decide (n∈R x)) by rw [HFI.out]; simp)
     go_wp2_with fail
     go_roundw
     case rel=>exact ⟨j + 1,by omega,by go_num,hide ⟨m,G,by rw [HS2.out]; exact HR2.out.step HZ2.out,by rw [HS2.out]; exact HMM.out,by rw [HFT.out]; exact HGG.out.trans (List.sublist_append_left _ _)⟩,HB2⟩
     case measure=>simp [intOf]; omega
   | true =>
     have HS2:=hide (show (l.take (j + 1)).filter (fun x=>decide (n∈R x))=(l.take j).filter (fun x=>decide (n∈R x))++[x] by rw [HFI.out]; simp)
     have HR3:=hide (HR2.out.step HZ2.out)
     have HL3:=hide (HL2.out.step HZ2.out)
     have HFA:=hide (HR3.out.far (G:=Fj) (fun g hg=>.inl (HLT.out g hg)))
     have hlo2:w1.heap.size≤w2.heap.size:=HB2.out.size
     go_wp2_with (at_builtin; refine wpList_row1 rfl rfl HR3.out HL3.out HFA.out rfl rfl rfl Tryz.underlying23 inf_bytes rfl (by decide) (by decide) (by omega) hlo2 ?_; intro v3 w5 R3 B3 g3; have HR4:=hide R3; have HB5:=hide (HB2.out.trans B3); clear R3 B3 g3)
     go_roundw
     case rel=>exact ⟨j + 1,by omega,by go_num,hide ⟨_,_,by rw [HS2.out,rawss_snoc]; exact HR4.out,by rw [HS2.out,HMM.out,List.length_append]; rfl,by rw [HFT.out]; exact HGG.out.append (List.Sublist.refl _)⟩,HB5⟩
     case measure=>simp [intOf]; omega
  ·obtain rfl:j=N:=by omega
   have e2:l.take j=l:=List.take_of_length_le (by rw [HN.out]; omega)
   rw [e2] at HR
   have HFW:=hide (HF.out.step HB.out)
   have hfz:(Fs.take j).flatten=F:=by rw [List.take_of_length_le (by rw [HFL.out,HN.out]; omega),HFS.out]
   rw [hfz] at HR
   clear hbk0 e2 hfz
   go_wp2_with fail
   go_ret
   obtain ⟨m,G,hR,hm,hG⟩:=HR.out
   subst hm
   have hlo:=HB1.out.size
   have hlk:=HBK.out.size
   obtain ⟨l1,l2⟩:=(RowF.mk (hR.base HZ1.out.size) (HFW.out.sub hG)).done
   exact ⟨_,_,rfl,l1,l2.base hlk,HB1.out.trans (HB.out.mono HB1.out.size)⟩
theorem ascP_pair {p:List Int→Bool} {ns:List (List Int)} (h:ascP p ns=true):ns.Pairwise (fun a b=>lessL a b=true):=by
 have h1:=ascP_at.1 h
 have step:∀ k,k + 1 < ns.length→lessL (ns.getD k []) (ns.getD (k + 1) [])=true:=fun k hk=>by
  have:=h1 (k + 1) hk
  rw [nameP,Bool.and_eq_true] at this
  simpa using this.2
 have far:∀ d i,i + d + 1 < ns.length→lessL (ns.getD i []) (ns.getD (i + d + 1) [])=true:=by
  intro d
  induction d with
  | zero=>intro i hi; exact step i hi
  | succ d ih =>
    intro i hi
    have h2:=ih i (by omega)
    have h3:=step (i + d + 1) (by omega)
    exact lessL_trans h2 h3
 rw [List.pairwise_iff_getElem]
 intro i j hi hj hij
 have:=far (j - i - 1) i (by omega)
 have e:i + (j - i - 1) + 1=j:=by omega
 rw [e] at this
 simpa [List.getD,List.getElem?_eq_getElem hi,List.getElem?_eq_getElem hj] using this
theorem objOk_refs {o:DObj} (h:objOk o=true):ascP nameOk o.refs=true:=by
 unfold objOk at h
 simp only [Bool.and_eq_true] at h
 exact h.2.2.1
theorem refsAt_nm {os:List DObj} {x:List Int} (h:x∈objNames os):∃ (hi:atO os x < os.length),refsAt os x=(os[atO os x]).refs:=by
 have:=mem_objNames.1 h
 exact ⟨this,refsAt_at this⟩
theorem usersR_no {s:DStore} {n:List Int} (h:storeOk s=false):usersR s n = []:=by rw [usersR,h]; rfl
theorem usersR_yes {s:DStore} {n:List Int} (h:storeOk s=true):usersR s n=(objNames s.objs).filter (fun x=>decide (n∈refsAt s.objs x)):=by rw [usersR,h]; rfl
set_option maxRecDepth 20000 in
set_option maxHeartbeats 3200000 in
theorem implUsersOf (s:DStore) (n:List Int) (hn:Byt n) (hok:oks s.cells) (hbk:bulks s.cells≤1048576) (us:List Value) (vn:Value) (w:World) (hs:Ins w s.cells us) (hv:In1 w (raw n) vn) (hTb:Tab w) :
  Calls Tryz.prog 30 #[.agg us.toArray,vn] w fun e w'=>∃ v F,e=.returned v∧Lie w' (names (usersR s n)) v F∧Fresh w.heap.size w' F∧Below w.heap.size w w':=by
 have hsx:=hs
 obtain ⟨ok1,ok2,ok3⟩:=(DStore.oks_iff s).1 hok
 have hbo:∀ o∈s.objs,bulks o.cells≤1048576:=fun o ho=>by
  have h1:=bulks_mem (f:=DObj.cells) ho
  have h3:=bulk_Store s
  omega
 have hol:s.objs.length≤1048576:=by have h3:=bulk_Store s; omega
 have hB:∀ o∈s.objs,Byt o.name:=fun o ho=>((DObj.oks_iff o).1 (ok1 o ho)).1
 obtain ⟨A0,c0,A1,c1,A2,c2,rfl,h0,h1,h2⟩:=DStore.view hs
 obtain ⟨wa,hwa⟩:∃ wa,w.alloc (.cells #[.slice A0 s.objs.length c0,.slice A1 s.roots.length c1,.slice A2 s.reals.length c2] 32)=wa:=⟨_,rfl⟩
 have ba:Below w.heap.size w wa:=by rw [← hwa]; exact (Below.refl _ _).alloc (Nat.le_refl _) _
 have bx:Box wa w.heap.size 32 [.slice A0 s.objs.length c0,.slice A1 s.roots.length c1,.slice A2 s.reals.length c2]:=by rw [← hwa]; exact Box.new w _ _
 have hz:w.heap.size < wa.heap.size:=bx.lt
 have x0:=bx.cell (j:=0) rfl
 have x1:=bx.cell (j:=1) rfl
 have x2:=bx.cell (j:=2) rfl
 have HBA:=hide ba
 have HV:=hide hv
 have HOP:=hide (implOpen s hok hbk _ wa (hsx.step ba) (hTb.step ba))
 clear bx ba hok hbk hs hsx hTb h0 h1 h2 hv
 go_enter Tryz.func30,Tryz.ntmps30
 go_wp2_with fail
 refine HOP.out.mono ?_
 rintro e w1 ⟨mr,mo,Av,nv,cv,rfl,b1,hst,hno⟩
 have HB1:=hide (HBA.out.trans (b1.mono HBA.out.size))
 obtain ⟨w2,hw2⟩:∃ W,w1.alloc (.cells #[.map mr,.map mo,.slice Av nv cv] 85)=W:=⟨_,rfl⟩
 have b2:Below w1.heap.size w1 w2:=by rw [← hw2]; exact (Below.refl _ _).alloc (Nat.le_refl _) _
 have bx2:Box w2 w1.heap.size 85 [.map mr,.map mo,.slice Av nv cv]:=by rw [← hw2]; exact Box.new w1 _ _
 have u0_:=bx2.cell (j:=0) rfl
 have u1_:=bx2.cell (j:=1) rfl
 have u2_:=bx2.cell (j:=2) rfl
 have HB2:=hide (HB1.out.trans (b2.mono HB1.out.size))
 have hcall:Calls Tryz.prog 71 #[.agg #[.map mr,.map mo,.slice Av nv cv],vn] w2 fun e w'=>∃ v F,e=.returned v∧Lie w' (names (usersR s n)) v F∧Fresh w2.heap.size w' F∧Below w2.heap.size w2 w':=by
  cases hb:storeOk s with
  | false =>
    obtain ⟨-,rfl,-,-,-⟩:=hno hb
    rw [usersR_no hb]
    exact stockUsers (.map mr) none (.slice Av nv cv) ⟨_,rfl⟩ ⟨_,_,_,rfl⟩ (fun _=>none) [] (fun _=>[]) n hn vn w2 (MapS.nil w2) (NamesOf.nil fun _=>rfl) (by simp) (fun n h=>by cases h) (fun n h=>by cases h) (HV.out.step HB2.out)
  | true =>
    obtain ⟨br,nr,cr,bo,no,q,f,rfl,rfl,-,-,-,g1,-,g2,g3,g4,g5⟩:=(hst hb).ok
    have hsok:=(storeOk_iff s).1 hb
    rw [usersR_yes hb]
    refine stockUsers (.map (some br)) (some bo) (.slice Av nv cv) ⟨_,rfl⟩ ⟨_,_,_,rfl⟩ f (objNames s.objs) (refsAt s.objs) n hn vn w2 (Or.inr ⟨bo,no,_,rfl,g3.step b2,by omega⟩) (g5.namesOf hsok.2.2.1 hB) (by rw [objNames_len]; exact hol) (fun x hx=>?_) (fun x hx=>?_) (HV.out.step HB2.out)
    ·obtain ⟨o,ho,rfl⟩:=List.mem_map.1 hx
     have h6:=hbo o ho
     have h7:=bulk_Obj o
     omega
    ·obtain ⟨hi,hr⟩:=refsAt_nm hx
     obtain ⟨vs,hf,hins⟩:=g5.some_ x hi
     obtain ⟨A0,c0,A3,c3,A4,c4,A5,c5,A6,c6,A7,c7,A8,c8,rfl,-,-,-,-,h6,-,-⟩:=DObj.view hins
     rw [hr]
     have ho:=List.getElem_mem hi
     have hoo:=objsAsc_ok hsok.2.2.1 hi
     have h8:=hbo _ ho
     have h9:=bulk_Obj (s.objs[atO s.objs x])
     exact ⟨_,_,_,_,_,_,_,_,_,_,_,_,_,_,_,_,_,_,_,_,_,_,_,hf,(h6.step b2).rdN,rfl,by omega,((DObj.oks_iff _).1 (ok1 _ ho)).2.2.2.1,ascP_pair (objOk_refs hoo)⟩
 have HC:=hide hcall
 have hlo:=HB2.out.size
 clear b1 b2 bx2 x0 x1 x2 HOP hst hno hcall hol hB ok1 ok2 ok3 hbo
 obtain ⟨R,hR⟩:∃ R,usersR s n=R:=⟨_,rfl⟩
 rw [hR] at HC
 have HRR:=hide hR
 clear hR
 go_wp2_with fail
 refine HC.out.mono ?_
 rintro e w3 ⟨v,F,rfl,l3,f3,b3⟩
 have HB3:=hide (HB2.out.trans (b3.mono HB2.out.size))
 have HL:=hide l3
 have HF:=hide (f3.base hlo)
 obtain ⟨A3,c3,rfl,-,-⟩:=l3.form
 clear b3 l3 f3
 go_wp2_with fail
 go_ret
 exact ⟨_,_,rfl,by rw [HRR.out]; exact HL.out,HF.out,HB3.out⟩
end Go.Proofs.YtgaadpkefncnmaaGreatDoor
/-
  The law UsersOf.
-/
namespace Go.Proofs.YtgaadpkefncnmaaGreatDoor
open Go.RowKit
set_option linter.unusedVariables false
set_option linter.unusedSimpArgs false
theorem usersR_cnt (s:DStore) (n:List Int) (hb:bulks s.cells≤1048576):(names (usersR s n)).cnt≤274877906944:=by
 have h:=cnts_namesL (usersR s n)
 have h2:bulks (cells (fun n=>[raw n]) (usersR s n))≤bulks s.cells:=by
  rw [usersR]
  split
  ·exact Nat.le_trans (bulks_sublist (List.filter_sublist ..)) (Nat.le_trans (bulks_objNames s.objs) (bulks_objs s))
  ·simp [cells,bulks]
 omega
theorem lawUsersOf (x0:DStore) (o0:oks x0.cells) (x1:List Int) (o1:(raw x1).ok) (w:World) (u0:List Value) (E0:List Nat) (h0:Lies w x0.cells u0 E0) (u1:Value) (E1:List Nat) (h1:Lie w (raw x1) u1 E1) (hT:Tab w) :
  Calls Tryz.prog 5 #[.agg u0.toArray,u1] w fun e w'=>e=.returned (.bool true)∧Below w.heap.size w w':=by
 refine walkUsersOf x0 x1 (if bulks x0.cells≤1048576 then usersR x0 x1 else []) ?_ ?_ ?_ w u0 E0 h0 u1 E1 h1 hT
 ·split
  ·rename_i hb; exact usersR_cnt x0 x1 hb
  ·simp [names,Cel.cnt,cells,cnts]
 ·intro hb hb1 u E v G W h hv
  rw [if_pos hb]
  refine (specUsersOf x0 x1 ((raw_ok x1).1 o1) o0 hb u v W ⟨E,h⟩ ⟨G,hv⟩).mono ?_
  rintro e w' ⟨r,J,he,h1,h2,h3⟩
  exact ⟨r,J,he,h1,fun g hg=>.inr (.inr (h2.low g hg)),h3⟩
 ·intro hb hb1 u E v G W h hv ht
  rw [if_pos hb]
  exact implUsersOf x0 x1 ((raw_ok x1).1 o1) o0 hb u v W ⟨E,h⟩ ⟨G,hv⟩ ht
end Go.Proofs.YtgaadpkefncnmaaGreatDoor
