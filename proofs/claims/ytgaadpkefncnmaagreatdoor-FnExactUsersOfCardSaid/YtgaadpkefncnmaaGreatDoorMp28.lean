/-
  Parts of the proof: Round4.
-/
import Derived.Test.YtgaadpkefncnmaaGreatDoorMp27
import Derived.Test.YtgaadpkefncnmaaGreatDoorMp1
import Derived.Laws.BytesArg
import Derived.IntWalk
import Derived.Deep.QuietTactic
import Derived.BigQuiet
import Derived.Deep.Cut
import Derived.Deep.DeepCutAuto
import Derived.Deep.CutBlock
import Derived.Deep.RegionWith
/-
  The model's l4round: nothing refers to itself.
-/
namespace Go.Proofs.YtgaadpkefncnmaaGreatDoor
open Go.RowKit
set_option linter.unusedVariables false
set_option linter.unusedSimpArgs false
/-- All that an object refers to is done. -/
def ready (os:List DObj) (d:List Bool) (o:DObj):Bool:=o.refs.all fun r=>d.getD (atO os r) false
def rstep (os:List DObj) (d:List Bool) (i:Nat):List Bool :=
 match os[i]? with
 | some o=>if !d.getD i false && ready os d o then d.set i true else d
 | none=>d
def rto (os:List DObj) (d:List Bool):Nat→List Bool
 | 0=>d
 | k + 1=>rstep os (rto os d k) k
def drnds (os:List DObj):Nat→List Bool
 | 0=>List.replicate os.length false
 | k + 1=>rto os (drnds os k) os.length
/-- Nothing refers to itself, whatever the way. -/
def roundOk (os:List DObj):Bool:=decide ((drnds os os.length).count false=0)
theorem rstep_len (os:List DObj) (d:List Bool) (i:Nat):(rstep os d i).length=d.length:=by
 unfold rstep
 split
 ·split <;> simp
 ·rfl
theorem rto_len (os:List DObj) (d:List Bool) (k:Nat):(rto os d k).length=d.length:=by
 induction k with
 | zero=>rfl
 | succ k ih=>rw [rto,rstep_len,ih]
theorem drnds_len (os:List DObj) (k:Nat):(drnds os k).length=os.length:=by
 induction k with
 | zero=>rw [drnds,List.length_replicate]
 | succ k ih=>rw [drnds,rto_len,ih]
theorem count_set {d:List Bool} {i:Nat} (h:i < d.length) (h0:d.getD i false=false):(d.set i true).count false + 1=d.count false:=by
 induction d generalizing i with
 | nil=>simp at h
 | cons x d ih =>
   cases i with
   | zero =>
     have:x=false:=by simpa using h0
     subst this
     simp
   | succ i =>
     have:=ih (i:=i) (by simpa using h) (by simpa using h0)
     rw [List.set_cons_succ,List.count_cons,List.count_cons]
     omega
abbrev bls (d:List Bool):List Value:=d.map Value.bool
theorem bls_get {d:List Bool} {i:Nat} (h:i < d.length):(bls d)[i]? = some (.bool (d.getD i false)):=by
 simp [List.getD,List.getElem?_eq_getElem h]
theorem bls_set (d:List Bool) (i:Nat) (x:Bool):(bls d).set i (.bool x)=bls (d.set i x):=by
 rw [bls,bls,List.map_set]
theorem made_bools (n:Nat):(madeCells (Value.bool false).cells (n * 1)).toList=bls (List.replicate n false):=by
 rw [Nat.mul_one]
 refine Eq.trans (toList_madeCells_one _ _) ?_
 rw [bls,List.map_replicate]
theorem rstep_at {os:List DObj} {d:List Bool} {i:Nat} (h:i < os.length):rstep os d i=if !d.getD i false && ready os d os[i] then d.set i true else d:=by
 rw [rstep,List.getElem?_eq_getElem h]
set_option maxRecDepth 20000 in
set_option maxHeartbeats 3200000 in
theorem specRound4 (s:DStore) (hok:oks s.cells) (hL:s.objs.length≤24) (hbk:bulks s.cells≤1048576) (hrf:∀ o∈s.objs,∀ r∈o.refs,atO s.objs r < s.objs.length) (us:List Value) (w:World) (hs:Ins w s.cells us) :
  Calls Tryz.prog 111 #[.agg us.toArray] w fun e w'=>e=.returned (.bool (roundOk s.objs))∧Below w.heap.size w w':=by
 have hsx:=hs
 obtain ⟨A0,c0,A1,c1,A2,c2,rfl,h0,h1,h2⟩:=DStore.view hs
 obtain ⟨wa,hwa⟩:∃ wa,w.alloc (.cells #[.slice A0 s.objs.length c0,.slice A1 s.roots.length c1,.slice A2 s.reals.length c2] 32)=wa:=⟨_,rfl⟩
 have ba:Below w.heap.size w wa:=by rw [← hwa]; exact (Below.refl _ _).alloc (Nat.le_refl _) _
 have bx:Box wa w.heap.size 32 [.slice A0 s.objs.length c0,.slice A1 s.roots.length c1,.slice A2 s.reals.length c2]:=by rw [← hwa]; exact Box.new w _ _
 have hz:w.heap.size < wa.heap.size:=bx.lt
 have hin:=fun W (hb:Below w.heap.size w W)=>hsx.step hb
 have x0:=bx.cell (j:=0) rfl
 have HX:=hide (fun W (hb:Below wa.heap.size wa W)=>(bx.step hb))
 have HBA:=hide ba
 have HIN:=hide hin
 have HO:=hide hok
 have H0:=hide h0
 have HRF:=hide hrf
 have HBK:=hide hbk
 clear bx ba hin hok h0 h1 h2 hs hsx hrf hbk
 obtain ⟨j0,hj0,hy0,hy1,hy2⟩:=info_parts inf_bool
 go_enter Tryz.func111,Tryz.ntmps111
 go_wp2_with (at_make; refine wpList_make_full _ rfl _ _ 161 rfl wa.heap.size 4 j0 _ 1 Tryz.underlying161 hj0 hy0 hy1 .i64 .i64 _ _ s.objs.length rfl rfl rfl rfl (by rw [hy2]; omega) (by simp only [maxLen]; omega) (Nat.le_refl _) ?_; intro w1 own1 gr1; have B1:Below wa.heap.size wa w1:=(Below.refl _ _).grown gr1 (Nat.le_refl _) (fun k hk=>by cases hk); have bd:=(box_of_own own1).1; have y0:=(HX.out w1 B1).cell (j:=0) rfl)
 have bd0:Box w1 wa.heap.size 4 (bls (drnds s.objs 0)):=by
  have e:(madeCells (Value.bool false).cells (s.objs.length * 1)).toList=bls (drnds s.objs 0):=by rw [drnds]; exact made_bools _
  rw [← e]; exact bd
 clear bd own1 gr1 y0 x0
 obtain ⟨g,hg⟩:∃ g,wa.heap.size=g:=⟨_,rfl⟩
 rw [hg] at bd0 hz
 simp only [hg]
 have HG:=hide hg
 have HBD:=hide bd0
 have HB1:=hide B1
 obtain ⟨N,hN⟩:∃ N,s.objs.length=N:=⟨_,rfl⟩
 have HN:=hide hN
 clear bd0 B1 hg hN
 go_loopw [4,5] (fun l n wr=>∃ k:Nat,k≤s.objs.length∧n=.int .i64 k∧l=.int .i64 ((drnds s.objs k).count false:Nat)∧Hid (Box wr g 4 (bls (drnds s.objs k)))∧Hid (Below wa.heap.size wa wr))
  (fun _ n _=>s.objs.length - (intOf n).toNat)
 case atStart=>exact ⟨0,Nat.zero_le _,rfl,by rw [drnds,List.count_replicate_self],HBD,HB1⟩
 case round =>
  clear HBD HB1
  obtain ⟨k,hk,rfl,rfl,HBD,HB⟩:=hrel
  have bxr:=HX.out wr HB.out
  have y0:=bxr.cell (j:=0) rfl
  by_cases hlt:k < s.objs.length
  ·have k1:(k:Int) < ((s.objs.length:Nat):Int):=by omega
   have hDl:=drnds_len s.objs k
   have hnx:drnds s.objs (k + 1)=rto s.objs (drnds s.objs k) s.objs.length:=rfl
   generalize drnds s.objs k=D at *
   generalize hD2:drnds s.objs (k + 1)=D2 at *
   have HD2:=hide hD2
   clear hD2
   have HDL:=hide hDl
   have HNX:=hide hnx
   clear bxr hDl hnx
   go_upto_block 1 with (fail)
   go_cut [4] (fun l wx=>l=.int .i64 (D2.count false:Nat)∧Hid (Box wx g 4 (bls D2))∧Hid (Below wa.heap.size wa wx))
   case first =>
    apply wp_block
    go_wp2_with fail
    go_loopw [4,6] (fun l i wx=>∃ m:Nat,m≤s.objs.length∧i=.int .i64 m∧l=.int .i64 ((rto s.objs D m).count false:Nat)∧Hid (Box wx g 4 (bls (rto s.objs D m)))∧Hid (Below wa.heap.size wa wx))
     (fun _ i _=>s.objs.length - (intOf i).toNat)
    case atStart=>exact ⟨0,Nat.zero_le _,rfl,rfl,HBD,HB⟩
    case round =>
     clear HBD HB y0
     obtain ⟨m,hm,rfl,rfl,HBD,HB⟩:=hrel
     have bxr:=HX.out wr HB.out
     have y0:=bxr.cell (j:=0) rfl
     by_cases hlt2:m < s.objs.length
     ·have m1:(m:Int) < ((s.objs.length:Nat):Int):=by omega
      have m0:(0:Int)≤(m:Int):=by omega
      have m2:(m:Int).toNat=m:=by omega
      have hDm:(rto s.objs D m).length=s.objs.length:=by rw [rto_len,HDL.out]
      have hnx:rto s.objs D (m + 1)=rstep s.objs (rto s.objs D m) m:=rfl
      rw [rstep_at hlt2] at hnx
      generalize rto s.objs D m=E at *
      generalize hE2x:rto s.objs D (m + 1)=E2 at *
      have HEX:=hide hE2x
      clear hE2x
      have c0:=HBD.out.cell (bls_get (d:=E) (i:=m) (by omega))
      obtain ⟨e0,he0⟩:∃ b,E.getD m false=b:=⟨_,rfl⟩
      rw [he0] at c0 hnx
      have HE0:=hide he0
      clear he0
      have hcs:=fun h0=>count_set (d:=E) (i:=m) (by omega) h0
      have hob:=obj_byt HO.out hlt2
      obtain ⟨be,oe,cce,Be0,de0,Be3,de3,Be4,de4,Be5,de5,Be6,de6,Be7,de7,Be8,de8,-,ee,le,-,-,-,-,-,-,qe6,-,-,-,-,-,-,ie6,-,-⟩:=DObj.elem H0.out HBA.out hlt2
      obtain rfl:=ee rfl
      have hq6:=fun W (hb:Below wa.heap.size wa W)=>(hb.cell (p:=⟨be,oe + m * 9 + 6,none⟩) (Nat.lt_of_lt_of_le le HBA.out.size)).trans qe6
      have q6:=hq6 wr HB.out
      have HQ6:=hide hq6
      clear hq6 qe6
      have hrefs:∀ r∈(s.objs[m]).refs,atO s.objs r < s.objs.length:=HRF.out _ (List.getElem_mem hlt2)
      have hrb:BytN (s.objs[m]).refs:=((DObj.oks_iff _).1 hob).2.2.2.1
      have hrn:=ie6.rdN
      have hrd:ready s.objs E s.objs[m]=(s.objs[m]).refs.all (fun r=>E.getD (atO s.objs r) false):=rfl
      have hrl:(s.objs[m]).refs.length≤1048576:=by
       have h1:=bulks_mem (f:=DObj.cells) (List.getElem_mem hlt2)
       have h2:=bulk_Obj (s.objs[m])
       have h3:=bulk_Store s
       have h4:=HBK.out
       omega
      generalize hR:(s.objs[m]).refs=R at *
      generalize ready s.objs E s.objs[m]=RD at *
      have HNX:=hide hnx
      have HCS:=hide hcs
      have HRS:=hide hrefs
      have HRB:=hide hrb
      have HRN:=hide hrn
      have HRD:=hide hrd
      have HDM:=hide hDm
      clear bxr hob hR hnx hcs hrefs hrb hrn hrd ie6 hDm
      go_upto_block 4 with (fail)
      obtain ⟨ok0,hok0⟩:∃ b,(!e0)=b:=⟨_,rfl⟩
      simp only [hok0]
      go_cut [7] (fun v wx=>v=.bool (ok0 && RD)∧Hid (Box wx g 4 (bls E))∧Hid (Below wa.heap.size wa wx))
      case first =>
       have HOK0:=hide hok0
       clear hok0 c0 y0 q6
       go_wp2_with fail
       go_loopw [7,8] (fun okv kv wr=>∃ q:Nat,q≤R.length∧kv=.int .i64 q∧okv=.bool (ok0 && (R.take q).all (fun r=>E.getD (atO s.objs r) false))∧Hid (Box wr g 4 (bls E))∧Hid (Below wa.heap.size wa wr))
        (fun _ kv _=>R.length - (intOf kv).toNat)
       case atStart=>exact ⟨0,Nat.zero_le _,rfl,by simp,HBD,HB⟩
       case round =>
        clear HBD HB
        obtain ⟨q,hq,rfl,rfl,HBD,HB⟩:=hrel
        have bxr:=HX.out wr HB.out
        have y0:=bxr.cell (j:=0) rfl
        have y1:=bxr.cell (j:=1) rfl
        have y2:=bxr.cell (j:=2) rfl
        have q6:=HQ6.out wr HB.out
        clear bxr
        by_cases hlt3:q < R.length
        ·have r1:(q:Int) < ((R.length:Nat):Int):=by omega
         cases hok:(ok0 && (R.take q).all (fun r=>E.getD (atO s.objs r) false)) with
         | true =>
           obtain ⟨b6,o6,x6,hA6,hb6,cx6,rx6⟩:=HRN.out.get hlt3
           subst hA6
           have HBw:=HBA.out.trans (HB.out.mono HBA.out.size)
           have cr:=(HBw.cell (p:=⟨b6,o6 + q,none⟩) hb6).trans cx6
           have hmr:R.getD q []∈R:=by simp [List.getD,List.getElem?_eq_getElem hlt3]
           have hat:=HRS.out _ hmr
           have hai:atI s.objs (R.getD q [])=(atO s.objs (R.getD q []):Int):=by rw [atI,if_pos hat]
           have hcall:=fun W (hb:Below wr.heap.size wr W)=>specAt s (R.getD q []) HO.out (HRB.out _ hmr) (by omega) _ x6 W (HIN.out W (HBw.trans (hb.mono HBw.size))) (((rx6.below HBw).below hb).in1)
           rw [hai] at hcall
           have htk:(ok0 && (R.take (q + 1)).all (fun r=>E.getD (atO s.objs r) false))=E.getD (atO s.objs (R.getD q [])) false:=by
            have e1:R.take (q + 1)=R.take q++[R.getD q []]:=by
             rw [List.take_succ_eq_append_getElem hlt3]
             simp [List.getD,List.getElem?_eq_getElem hlt3]
            rw [e1,List.all_append,← Bool.and_assoc,hok]
            simp
           generalize R.getD q []=r at *
           obtain ⟨e9,he9⟩:∃ b,E.getD (atO s.objs r) false=b:=⟨_,rfl⟩
           rw [he9] at htk
           generalize hz9:atO s.objs r=z9 at *
           have s1:(z9:Int) < ((s.objs.length:Nat):Int):=by omega
           have s0:(0:Int)≤(z9:Int):=by omega
           have s2:(z9:Int).toNat=z9:=by omega
           have t0:(0:Int)≤(q:Int):=by omega
           have t2:(q:Int).toNat=q:=by omega
           have HC:=hide hcall
           have HTK:=hide htk
           have hcell:=fun W (hb:Below wr.heap.size wr W)=>(HBD.out.step hb).cell (bls_get (d:=E) (i:=z9) (by rw [HDM.out]; exact hat))
           rw [he9] at hcell
           have HCE:=hide hcell
           have HOK:=hide hok
           clear hcall htk hok rx6 cx6 hmr hat hai hz9 hcell HBw he9
           go_upto_region 13 with (fail)
           go_region_law (first
            | (go_simp; go_at_call 76; refine (HC.out _ (Below.refl _ _).drew).mono ?_; rintro e w3 ⟨rfl,b3⟩; have bb3:=(Below.refl wr.heap.size wr).drew.trans b3; have c3:=HCE.out w3 bb3))
           all_goals
            have HB3:=hide (HB.out.trans (bb3.mono HB.out.size))
            have HBD3:=hide (HBD.out.step bb3)
            clear bb3 b3 c3
            go_wp2_with fail
            go_roundw
            case rel=>exact ⟨q + 1,by omega,by go_num,by rw [HTK.out],HBD3,HB3⟩
            case measure=>simp [intOf]; omega
         | false =>
           have hfin:(ok0 && RD)=false:=by
            rw [HRD.out]
            cases ok0 with
            | false=>rfl
            | true =>
              rw [Bool.true_and] at hok ⊢
              rw [Bool.eq_false_iff] at hok ⊢
              intro h
              refine hok (List.all_eq_true.2 fun x hx=>List.all_eq_true.1 h x (List.mem_of_mem_take hx))
           have HFI:=hide hfin
           clear hfin hok
           go_wp2_with fail
           go_meet
           exact ⟨by rw [HFI.out],HBD,HB⟩
        ·obtain rfl:q=R.length:=by omega
         have hfin:(ok0 && (R.take R.length).all (fun r=>E.getD (atO s.objs r) false))=(ok0 && RD):=by rw [List.take_length,HRD.out]
         rw [hfin]
         clear hfin
         go_wp2_with fail
         go_meet
         exact ⟨rfl,HBD,HB⟩
      case rest =>
       clear HBD HB y0 c0 q6
       obtain ⟨rfl,HBD,HB⟩:=hcut
       cases hfin:(ok0 && RD) with
       | true =>
         have he0:E.getD m false=false:=by
          rw [Bool.and_eq_true] at hfin
          have:=hfin.1
          rw [← hok0] at this
          rw [HE0.out]
          simpa using this
         have hE2:E2=E.set m true:=by
          rw [HNX.out,if_pos]
          rw [hok0]; exact hfin
         have hcn:=HCS.out he0
         rw [← hE2] at hcn
         have hfz:=HBD.out.fz m
         have hcc:=HBD.out.cell (bls_get (d:=E) (i:=m) (by rw [HDM.out]; exact hlt2))
         rw [HE0.out] at hcc
         have hbs:=HBD.out.set m (.bool true)
         rw [bls_set,← hE2] at hbs
         have hbl:=HB.out.setCell (p:=⟨g,m,none⟩) (Nat.le_of_eq HG.out) (.bool true)
         have hwr:IntKind.i64.wrap (((E.count false:Nat):Int) - 1)=((E2.count false:Nat):Int):=by
          have h1:=List.count_le_length (a:=false) (l:=E)
          rw [HDM.out] at h1
          rw [IntWalk.i64_in _ (by omega)]
          omega
         have HBS:=hide hbs
         have HBL:=hide hbl
         clear hfin hE2 hcn hbs hbl hok0
         go_wp2_with fail
         go_roundw
         case rel=>exact ⟨m + 1,by omega,by go_num,by rw [HEX.out],by rw [HEX.out]; exact HBS,HBL⟩
         case measure=>simp [intOf]; omega
       | false =>
         have hE2:E2=E:=by
          rw [HNX.out,if_neg]
          rw [hok0,hfin]; exact Bool.false_ne_true
         have HE2:=hide hE2
         clear hfin hE2 hok0
         go_wp2_with fail
         go_roundw
         case rel=>exact ⟨m + 1,by omega,by go_num,by rw [HEX.out,HE2.out],by rw [HEX.out,HE2.out]; exact HBD,HB⟩
         case measure=>simp [intOf]; omega
     ·obtain rfl:m=s.objs.length:=by omega
      rw [← HNX.out] at HBD
      have HNX2:=HNX.out
      rw [← HNX2]
      clear bxr
      go_wp2_with fail
      go_meet
      exact ⟨rfl,HBD,HB⟩
   case rest =>
    clear HBD HB y0
    obtain ⟨rfl,HBD,HB⟩:=hcut
    go_wp2_with fail
    go_roundw
    case rel=>exact ⟨k + 1,by omega,by go_num,by rw [HD2.out],by rw [HD2.out]; exact HBD,HB⟩
    case measure=>simp [intOf]; omega
  ·obtain rfl:k=s.objs.length:=by omega
   have hr:roundOk s.objs=decide (((drnds s.objs s.objs.length).count false:Nat)=(0:Int)):=by
    rw [roundOk]
    by_cases h:(drnds s.objs s.objs.length).count false=0
    ·rw [decide_eq_true h,decide_eq_true (by omega)]
    ·rw [decide_eq_false h,decide_eq_false (by omega)]
   have HR:=hide hr
   generalize (drnds s.objs s.objs.length).count false=C at *
   clear bxr hr
   go_wp2_with fail
   go_ret
   exact ⟨ret_bool (by rw [HR.out]; rfl),HBA.out.trans (HB.out.mono HBA.out.size)⟩
end Go.Proofs.YtgaadpkefncnmaaGreatDoor
