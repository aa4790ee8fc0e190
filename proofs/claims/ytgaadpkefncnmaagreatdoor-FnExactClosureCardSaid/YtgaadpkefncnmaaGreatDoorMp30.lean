/-
  Parts of the proof: Mark4.
-/
import Derived.Test.YtgaadpkefncnmaaGreatDoorMp28
import Derived.Test.YtgaadpkefncnmaaGreatDoorMp29
import Derived.Laws.BytesArg
import Derived.IntWalk
import Derived.Deep.QuietTactic
import Derived.BigQuiet
import Derived.Deep.Cut
import Derived.Deep.DeepCutAuto
import Derived.Deep.CutBlock
import Derived.Deep.RegionWith
import Derived.Deep.RegionHeld3
/-
  The model's l4mark: an object and all that it reaches.
-/
namespace Go.Proofs.YtgaadpkefncnmaaGreatDoor
open Go.RowKit
set_option linter.unusedVariables false
set_option linter.unusedSimpArgs false
/-- The marks, as a set of names. -/
def qd (os:List DObj) (d:List Bool):List Int→Bool:=fun x=>d.getD (atO os x) false
theorem qd_set {os:List DObj} {d:List Bool} {x:List Int} (hx:atO os x < os.length) (hl:d.length=os.length) (y:List Int):qd os (d.set (atO os x) true) y=(decide (y=x) || qd os d y):=by
 unfold qd
 rw [setD (by omega)]
 by_cases e:y=x
 ·subst e
  rw [if_pos rfl]
  simp
 ·have hne:atO os y≠atO os x:=fun h=>by
    have h1:=atO_name hx
    have h2:=atO_name (os:=os) (n:=y) (by omega)
    simp only [h] at h2
    exact e (h2.symm.trans h1)
  rw [if_neg hne,decide_eq_false e,Bool.false_or]
theorem grown_below {w w' : World} (h:Below w.heap.size w w') (row:Option Nat):w.grownBy w' row:=⟨h.os,h.tape,h.output,h.size,fun k hk _=>h.block k hk⟩
theorem grown_set (w:World) (g i:Nat) (v:Value):w.grownBy (w.setCell ⟨g,i,none⟩ v) (some g):=by
 refine ⟨rfl,rfl,rfl,by simp [World.setCell],fun k hk hne=>?_⟩
 exact Below.heap_setCell w ⟨g,i,none⟩ v k (fun e=>hne (by rw [e]))
theorem grown_lift {w0 w w' : World} {g:Nat} (hb:Below w0.heap.size w0 w) (hg:w0.heap.size≤g) (h:w.grownBy w' (some g)):Below w0.heap.size w0 w' :=
 hb.grown h hb.size (fun k hk=>by injection hk with hk; omega)
/-- A name more, searched from where the search stands. -/
theorem found_one {os:List DObj} {ns:List (List Int)} {x:List Int} {p q q2:List Int→Bool} (h:Found os ns p q) (h2:Found os [x] q q2):Found os (ns++[x]) p q2:=by
 refine ⟨fun y hy=>h2.le y (h.le y hy),fun y hy hd=>?_,fun y hy hp z hz hd=>?_,fun y hy=>?_⟩
 ·rcases List.mem_append.1 hy with h3 | h3
  ·exact h2.le y (h.all y h3 hd)
  ·exact h2.all y h3 hd
 ·cases hq:q y
  ·exact h2.closed y hy hq z hz hd
  ·exact h2.le z (h.closed y hq hp z hz hd)
 ·rcases h2.only y hy with h3 | h3
  ·exact (h.only y h3).imp id fun hr=>hr.mono fun z hz=>List.mem_append_left _ hz
  ·exact Or.inr (h3.mono fun z hz=>List.mem_append_right _ hz)
set_option maxRecDepth 20000 in
set_option maxHeartbeats 6400000 in
theorem specMarkN (w0:World) (s:DStore) (hok:oks s.cells) (hbk:bulks s.cells≤1048576) (N:Nat) (hN:s.objs.length=N) (A0:Option Addr) (c0:Nat) (A1:Option Addr) (n1 c1:Nat) (A2:Option Addr) (n2 c2:Nat) (hs:Ins w0 s.cells [.slice A0 N c0,.slice A1 n1 c1,.slice A2 n2 c2]) (h0:In1 w0 (seqOf 9 DObj.cells s.objs) (.slice A0 N c0)) (g:Nat) (hg:w0.heap.size≤g) (K:Nat) :
  ∀ (d:List Bool) (x:List Int) (w:World),d.length=N→Box w g 4 (bls d)→Below w0.heap.size w0 w→d.count false≤K →
  Calls Tryz.prog 132 #[.agg #[.slice A0 N c0,.slice A1 n1 c1,.slice A2 n2 c2],.slice (some ⟨g,0,none⟩) N N,.int .i64 (atI s.objs x)] w fun e w'=>e=.returned (.tuple #[])∧∃ d',d'.length=N∧Box w' g 4 (bls d')∧Found s.objs [x] (qd s.objs d) (qd s.objs d')∧LeD d d'∧w.grownBy w' (some g):=by
 induction K using Nat.strongRecOn with
 | ind K ih =>
 intro d x w hdl hbd hbw hcnt
 have hbs:=bulk_Store s
 obtain ⟨wa,hwa⟩:∃ wa,w.alloc (.cells #[.slice A0 N c0,.slice A1 n1 c1,.slice A2 n2 c2] 32)=wa:=⟨_,rfl⟩
 have ba:Below w.heap.size w wa:=by rw [← hwa]; exact (Below.refl _ _).alloc (Nat.le_refl _) _
 have bx:Box wa w.heap.size 32 [.slice A0 N c0,.slice A1 n1 c1,.slice A2 n2 c2]:=by rw [← hwa]; exact Box.new w _ _
 have hz:w.heap.size < wa.heap.size:=bx.lt
 have hgw:g < w.heap.size:=hbd.lt
 have hba0:Below w0.heap.size w0 wa:=hbw.trans (ba.mono hbw.size)
 have hbda:=hbd.step ba
 have hln:s.objs.length≤1048576:=by omega
 have HNN:=hide hN
 have x0:=bx.cell (j:=0) rfl
 have x1:=bx.cell (j:=1) rfl
 have x2:=bx.cell (j:=2) rfl
 have HS:=hide hs
 have HOK:=hide hok
 have HBK:=hide hbk
 have HG:=hide hg
 have HIH:=hide ih
 have HCN:=hide hcnt
 have HX:=hide bx
 have HBA:=hide hba0
 have HGA:=hide (grown_below ba (some g))
 have H0:=hide h0
 have HDL:=hide hdl
 have hne:some w.heap.size≠some g:=by simp; omega
 have HNE:=hide hne
 by_cases hin:atO s.objs x < s.objs.length
 ·have hai:atI s.objs x=(atO s.objs x:Int):=by rw [atI,if_pos hin]
  rw [hai]
  obtain ⟨k,hk⟩:∃ k,atO s.objs x=k:=⟨_,rfl⟩
  have hk0:=hk
  rw [hk] at hin ⊢
  have cb:=hbda.cell (bls_get (d:=d) (i:=k) (by omega))
  obtain ⟨b,hb⟩:∃ b,d.getD k false=b:=⟨_,rfl⟩
  rw [hb] at cb
  have i1:(k:Int) < (N:Int):=by omega
  have i0:(0:Int)≤(k:Int):=by omega
  have i2:(k:Int).toNat=k:=by omega
  have i3:¬ (k:Int) < 0:=by omega
  have HKK:=hide hk
  have HIN:=hide hin
  have HB:=hide hb
  cases b with
  | true =>
    have hf:Found s.objs [x] (qd s.objs d) (qd s.objs d):=Found.skip (Found.nil s.objs _) (fun _=>by rw [qd,hk]; exact hb)
    have HF:=hide hf
    have HBD:=hide hbda
    clear ba bx hbd hbw hbda hba0 hcnt ih hok hbk hs h0 hdl hf hb hk hk0 hin hai hg hne hN
    go_enter Tryz.func132,Tryz.ntmps132
    go_wp2_with fail
    refine bodyPost_ret (results_none rfl _ _ _) rfl ?_
    exact ⟨rfl,d,HDL.out,HBD.out,HF.out,LeD.refl d,HGA.out⟩
  | false =>
    have hfz:=hbda.fz k
    have hbs2:=hbda.set k (.bool true)
    rw [bls_set] at hbs2
    have hcs:=count_set (d:=d) (i:=k) (by omega) hb
    have hle1:LeD d (d.set k true):=fun i hi=>by
     rw [setD (by omega)]
     split
     ·rfl
     ·exact hi
    have hob:=obj_byt hok hin
    obtain ⟨be,oe,cce,Be0,de0,Be3,de3,Be4,de4,Be5,de5,Be6,de6,Be7,de7,Be8,de8,-,ee,le,-,-,-,-,-,-,qe6,-,-,-,-,-,-,ie6,-,-⟩:=DObj.elem h0 (Below.refl _ _) hin
    obtain rfl:=ee rfl
    have hq6:=fun W (hb:Below w0.heap.size w0 W)=>(hb.cell (p:=⟨be,oe + k * 9 + 6,none⟩) le).trans qe6
    have hrb:BytN (s.objs[k]).refs:=((DObj.oks_iff _).1 hob).2.2.2.1
    have hrn:=ie6.rdN
    have hrl:(s.objs[k]).refs.length≤1048576:=by
     have h1:=bulks_mem (f:=DObj.cells) (List.getElem_mem hin)
     have h2:=bulk_Obj (s.objs[k])
     omega
    have hrat:refsAt s.objs x=(s.objs[k]).refs:=by
     have:=refsAt_at (os:=s.objs) (n:=x) (by omega)
     simp only [hk0] at this
     exact this
    have hqs:∀ y,qd s.objs (d.set k true) y=(decide (y=x) || qd s.objs d y):=by
     have:=qd_set (os:=s.objs) (d:=d) (x:=x) (by omega) (hdl.trans hN.symm)
     rw [hk0] at this
     exact this
    have hmore:∀ q2,Found s.objs (s.objs[k]).refs (qd s.objs (d.set k true)) q2→Found s.objs [x] (qd s.objs d) q2:=fun q2 h=>by
     have:=Found.more (Found.nil s.objs (qd s.objs d)) (x:=x) (by omega) (by rw [qd,hk0]; exact hb) hqs (by rw [hrat]; exact h)
     simpa using this
    have hsg:=grown_set wa g k (.bool true)
    have hblw:=grown_lift hba0 hg hsg
    have hbx2:Box _ _ _ _:=(hsg.block w.heap.size bx.lt hne).trans bx
    generalize hR:(s.objs[k]).refs=R at *
    obtain ⟨w1,hw1⟩:∃ W,wa.setCell ⟨g,k,none⟩ (.bool true)=W:=⟨_,rfl⟩
    rw [hw1] at hbs2 hsg hblw hbx2
    have HBS:=hide hbs2
    have HLE:=hide hle1
    have HQ6:=hide hq6
    have HRB:=hide hrb
    have HRN:=hide hrn
    have HMO:=hide hmore
    have HSG:=hide hsg
    have HBL:=hide hblw
    have HX1:=hide hbx2
    have HCS:=hide hcs
    have HSL:Hid ((d.set k true).length=N):=hide (by rw [List.length_set]; exact hdl)
    have HW1:=hide hw1
    obtain ⟨M,hM⟩:∃ M,R.length=M:=⟨_,rfl⟩
    rw [hM] at hrl HQ6
    have HM:=hide hM
    clear ba bx hbd hbw hbda hba0 hcnt ih hok hbk hs h0 hdl hb hk hk0 hai hg hne hN hbs2 hcs hle1 hob qe6 hq6 hrb hrn hrat hqs hmore hsg hblw hbx2 hR hw1 ie6 hM
    go_enter Tryz.func132,Tryz.ntmps132
    go_wp2_with fail
    rw [HW1.out]
    clear x0 x1 x2 cb hfz
    go_loopw [6] (fun iv wr=>∃ j:Nat,j≤M∧iv=.int .i64 j∧Hid (∃ d',d'.length=N∧Box wr g 4 (bls d')∧Found s.objs (R.take j) (qd s.objs (d.set k true)) (qd s.objs d')∧LeD (d.set k true) d')∧Hid (w1.grownBy wr (some g))) (fun iv _=>M - (intOf iv).toNat)
    case atStart=>exact ⟨0,Nat.zero_le _,rfl,hide ⟨_,HSL.out,HBS.out,Found.nil _ _,LeD.refl _⟩,hide (World.grownBy.refl _ _)⟩
    case round =>
     obtain ⟨j,hj,rfl,HD,HGR⟩:=hrel
     have hb0:Below w0.heap.size w0 wr:=grown_lift HBL.out HG.out HGR.out
     have hbxr:Box wr w.heap.size 32 _:=(HGR.out.block w.heap.size HX1.out.lt HNE.out).trans HX1.out
     have y0:=hbxr.cell (j:=0) rfl
     have q6:=HQ6.out wr hb0
     by_cases hlt:j < M
     ·have hjn:j < R.length:=by rw [HM.out]; exact hlt
      obtain ⟨d',hl',hb',hf',hle'⟩:=HD.out
      obtain ⟨b6,o6,x6,hA6,hb6,cx6,rx6⟩:=HRN.out.get hjn
      subst hA6
      have cr:=(hb0.cell (p:=⟨b6,o6 + j,none⟩) hb6).trans cx6
      have hmr:R.getD j []∈R:=by simp [List.getD,List.getElem?_eq_getElem hjn]
      have htk:R.take (j + 1)=R.take j++[R.getD j []]:=by
       rw [List.take_succ_eq_append_getElem hjn]
       simp [List.getD,List.getElem?_eq_getElem hjn]
      have hrbj:=HRB.out _ hmr
      generalize R.getD j []=r at *
      have HCA:=hide (fun W (hb:Below wr.heap.size wr W)=>specAt s r HOK.out hrbj hln _ x6 W (HS.out.step (hb0.trans (hb.mono hb0.size))) ((rx6.below (hb0.trans (hb.mono hb0.size))).in1))
      have hcd:d'.count false < K:=by
       have h1:=le_count (d:=d.set k true) (e:=d') (by rw [HSL.out,hl']) hle'
       have h2:=HCS.out
       have h3:=HCN.out
       omega
      have HCM:=hide (fun W (hb:Below wr.heap.size wr W)=>HIH.out (d'.count false) hcd d' r W hl' (hb'.step hb) (hb0.trans (hb.mono hb0.size)) (Nat.le_refl _))
      have y1:=hbxr.cell (j:=1) rfl
      have y2:=hbxr.cell (j:=2) rfl
      have HSS:=hide (fun W (hb:Below wr.heap.size wr W)=>(show W.cell? ⟨w.heap.size,0,none⟩=some (.slice (some ⟨be,oe,none⟩) N c0)∧W.cell? ⟨w.heap.size,1,none⟩=some (.slice A1 n1 c1)∧W.cell? ⟨w.heap.size,2,none⟩=some (.slice A2 n2 c2)∧W.cell? ⟨be,oe + k * 9 + 6,none⟩=some (.slice (some ⟨b6,o6,none⟩) M de6)∧W.cell? ⟨b6,o6 + j,none⟩=some x6 from
       ⟨(hbxr.step hb).cell (j:=0) rfl,(hbxr.step hb).cell (j:=1) rfl,(hbxr.step hb).cell (j:=2) rfl,HQ6.out W (hb0.trans (hb.mono hb0.size)),((hb0.trans (hb.mono hb0.size)).cell (p:=⟨b6,o6 + j,none⟩) hb6).trans cx6⟩))
      have HBD:=hide (Below.refl wr.heap.size wr).drew
      have HXR:=hide hbxr
      have HCX:=hide cx6
      have HF':=hide hf'
      have HL':=hide hle'
      have HTK:=hide htk
      have j1:(j:Int) < (M:Int):=by omega
      have j0:(0:Int)≤(j:Int):=by omega
      have j2:(j:Int).toNat=j:=by omega
      have HD2:=hide hb0
      clear hl' hb' hf' hle' htk hmr hrbj hcd hbxr hb0 cx6 rx6
      go_upto_region 6 with (fail)
      first
       | go_region_held3 (fun W:World=>W.cell? ⟨w.heap.size,0,none⟩=some (.slice (some ⟨be,oe,none⟩) N c0)∧W.cell? ⟨w.heap.size,1,none⟩=some (.slice A1 n1 c1)∧W.cell? ⟨w.heap.size,2,none⟩=some (.slice A2 n2 c2)∧W.cell? ⟨be,oe + k * 9 + 6,none⟩=some (.slice (some ⟨b6,o6,none⟩) M de6)∧W.cell? ⟨b6,o6 + j,none⟩=some x6)
         (first
          | exact HS4.out
          | exact HSS.out _ HB3.out
          | exact HSS.out _ HBD.out
          | exact trivial
          | go_keep)
         (first
          | (go_simp; go_at_call 76; refine (HCA.out _ HBD.out).mono ?_; rintro e w3 ⟨rfl,b3⟩; have HB3:=hide (HBD.out.trans b3); clear b3)
          | (go_simp; go_at_call 132; refine (HCM.out _ HB3.out).mono ?_; rintro e w4 ⟨rfl,d4,hl4,hb4,hf4,hle4,hg4⟩; have HR4:=hide (show ∃ d',d'.length=N∧Box w4 g 4 (bls d')∧Found s.objs (R.take (j + 1)) (qd s.objs (d.set k true)) (qd s.objs d')∧LeD (d.set k true) d' from ⟨d4,hl4,hb4,(by rw [HTK.out]; exact found_one HF'.out hf4),HL'.out.trans hle4⟩); have HG4:=hide (HGR.out.andThen ((grown_below HB3.out (some g)).andThen hg4 (fun _ h=>Or.inr h)) (fun _ h=>Or.inr h)); have hx4:Box w4 w.heap.size 32 [.slice (some ⟨be,oe,none⟩) N c0,.slice A1 n1 c1,.slice A2 n2 c2]:=(hg4.block w.heap.size (HXR.out.step HB3.out).lt HNE.out).trans (HXR.out.step HB3.out); have hb9:=grown_lift (HD2.out.trans (HB3.out.mono HD2.out.size)) HG.out hg4; have HS4:=hide (show w4.cell? ⟨w.heap.size,0,none⟩=some (.slice (some ⟨be,oe,none⟩) N c0)∧w4.cell? ⟨w.heap.size,1,none⟩=some (.slice A1 n1 c1)∧w4.cell? ⟨w.heap.size,2,none⟩=some (.slice A2 n2 c2)∧w4.cell? ⟨be,oe + k * 9 + 6,none⟩=some (.slice (some ⟨b6,o6,none⟩) M de6)∧w4.cell? ⟨b6,o6 + j,none⟩=some x6 from ⟨hx4.cell (j:=0) rfl,hx4.cell (j:=1) rfl,hx4.cell (j:=2) rfl,HQ6.out w4 hb9,(hb9.cell (p:=⟨b6,o6 + j,none⟩) hb6).trans HCX.out⟩); clear hl4 hb4 hf4 hle4 hg4 hx4 hb9))
       | fail "region"
      all_goals
       go_wp2_with fail
       go_roundw
       case rel=>exact ⟨j + 1,by omega,by go_num,HR4,HG4⟩
       case measure=>simp [intOf]; omega
     ·obtain rfl:j=M:=by omega
      have HD2:=hide (show ∃ d',d'.length=N∧Box wr g 4 (bls d')∧Found s.objs R (qd s.objs (d.set k true)) (qd s.objs d')∧LeD (d.set k true) d' by
       have:=HD.out
       rw [List.take_of_length_le (by rw [HM.out]; omega)] at this
       exact this)
      clear HD hbxr
      go_wp2_with fail
      refine bodyPost_end (results_none rfl _ _ _) rfl ?_
      obtain ⟨d',l1,l2,l3,l4⟩:=HD2.out
      exact ⟨rfl,d',l1,l2,HMO.out _ l3,HLE.out.trans l4,(HGA.out.andThen HSG.out (fun _ h=>Or.inr h)).andThen HGR.out (fun _ h=>Or.inr h)⟩
 ·have hai:atI s.objs x = -1:=by rw [atI,if_neg hin]
  rw [hai]
  have hf:Found s.objs [x] (qd s.objs d) (qd s.objs d):=Found.skip (Found.nil s.objs _) (fun h=>absurd h hin)
  have HF:=hide hf
  have HBD:=hide hbda
  clear ba bx hbd hbw hbda hba0 hcnt ih hok hbk hs h0 hdl hf hin hai hg hne hN
  go_enter Tryz.func132,Tryz.ntmps132
  go_wp2_with fail
  refine bodyPost_ret (results_none rfl _ _ _) rfl ?_
  exact ⟨rfl,d,HDL.out,HBD.out,HF.out,LeD.refl d,HGA.out⟩
theorem specMark (w0:World) (s:DStore) (hok:oks s.cells) (hbk:bulks s.cells≤1048576) (us:List Value) (hs:Ins w0 s.cells us) (g:Nat) (hg:w0.heap.size≤g) (K:Nat) (d:List Bool) (x:List Int) (w:World) (h1:d.length=s.objs.length) (h2:Box w g 4 (bls d)) (h3:Below w0.heap.size w0 w) (h4:d.count false≤K) :
  Calls Tryz.prog 132 #[.agg us.toArray,.slice (some ⟨g,0,none⟩) s.objs.length s.objs.length,.int .i64 (atI s.objs x)] w fun e w'=>e=.returned (.tuple #[])∧∃ d',d'.length=s.objs.length∧Box w' g 4 (bls d')∧Found s.objs [x] (qd s.objs d) (qd s.objs d')∧LeD d d'∧w.grownBy w' (some g):=by
 have hsx:=hs
 obtain ⟨A0,c0,A1,c1,A2,c2,rfl,h0,-,-⟩:=DStore.view hs
 exact specMarkN w0 s hok hbk s.objs.length rfl A0 c0 A1 _ c1 A2 _ c2 hsx h0 g hg K d x w h1 h2 h3 h4
end Go.Proofs.YtgaadpkefncnmaaGreatDoor
