/-
  Parts of the proof: DrvOkP, NodeI, SizeS, SortI, DataS, InCmp, Iter, ScanI, BytP, DataT, InCmpI, IterN, Bulk, TreeOkI, BytsOk, LoopN, AppIn, DatC, AppG, DataI, BytQ.
-/
import Derived.Test.YtgaadpkefncnmaaGreatDoorMp1
import Derived.Test.YtgaadpkefncnmaaGreatDoorMp11
import Derived.Test.YtgaadpkefncnmaaGreatDoorMp7
import Derived.Test.YtgaadpkefncnmaaGreatDoorMp8
import Derived.Test.YtgaadpkefncnmaaGreatDoorMp10
import Derived.Test.YtgaadpkefncnmaaGreatDoorMp9
import Derived.Test.YtgaadpkefncnmaaGreatDoorMp0
import Derived.Shelf.Abstract
import Derived.WalkKit
import Derived.OwnWalkIn
import Derived.TacticsInMore
import Derived.StillTailTactics
import Derived.Deep.RegionHeld3
import Derived.IntWalk
import Derived.Deep.RegionWith
import Derived.RangeFuncBox
/-
  Derivations that are valid, in plain lists.
-/
namespace Go.Proofs.YtgaadpkefncnmaaGreatDoor
open Go.RowKit
set_option linter.unusedVariables false
def asReal (x:DIn):DReal:=⟨x.drv,x.out,[]⟩
/-- Inputs in order: by derivation, then by output. -/
def inLess (a b:DIn):Bool:=decide (realCmp (asReal a) (asReal b) < 0)
theorem range_all {p:Nat→Bool} {n:Nat} : (List.range n).all p=true↔∀ m,m < n→p m=true:=by
 rw [List.all_eq_true]
 exact ⟨fun h m hm=>h m (List.mem_range.2 hm),fun h m hm=>h m (List.mem_range.1 hm)⟩
end Go.Proofs.YtgaadpkefncnmaaGreatDoor
/-
  The program's look at one node.
-/
namespace Go.Proofs.YtgaadpkefncnmaaGreatDoor
open Go.RowKit
set_option linter.unusedVariables false
set_option maxRecDepth 20000 in
set_option maxHeartbeats 1600000 in
theorem implNodeOk (t:T) (hB:t.Byts) (q:Q) (w:World) (hq:TIn w t q) :
  Calls Tryz.prog 197 #[q.val] w fun e w'=>e=.returned (.bool t.nodeOk)∧Below w.heap.size w w':=by
 obtain ⟨k,d,ns,ks⟩:=t
 obtain ⟨A,c,A',c',A'',c'',ed,hc1,hc2,en,hc1',hc2',ec,hc1'',hc2''⟩:=hq.lens
 rw [TIn] at hq
 obtain ⟨hk,_,hn,_⟩:=hq
 rw [T.Byts] at hB
 have hasc:=fun W (hb:Below w.heap.size w W)=>asc_P ns ▸ ascendE ns hB.2.1 q.n W (hn.below hb)
 obtain ⟨D,hD⟩:∃ D,d.length=D:=⟨_,rfl⟩
 obtain ⟨N,hN⟩:∃ N,ns.length=N:=⟨_,rfl⟩
 obtain ⟨K,hK⟩:∃ K,ks.length=K:=⟨_,rfl⟩
 obtain ⟨B,hBa⟩:∃ B,asc ns=B:=⟨_,rfl⟩
 have hok:(T.node k d ns ks).nodeOk=if k=2 then decide (D=0∧K≤6∧N=K) && B else decide (0≤k∧k≤3∧D≤400∧N=0∧K=0):=by rw [T.nodeOk,hD,hN,hK,hBa]
 rw [hok]
 rw [hD] at ed hc1
 rw [hN] at en hc1'
 rw [hK] at ec hc1''
 unfold maxLen at hc2 hc2' hc2''
 obtain ⟨wa,hwa,box,ba,hz⟩:=boxed w q 47
 have HASC:=hide (hasc wa ba)
 have x0:=box.c0
 have x1:=box.c1
 have x2:=box.c2
 have x3:=box.c3
 rw [hk] at x0 hwa
 rw [ed] at x1 hwa
 rw [ec] at x3 hwa
 rw [hBa] at HASC
 rw [en] at x2 hwa HASC
 rw [show q.val=.agg #[.int .i64 k,.slice A D c,.slice A' N c',.slice A'' K c''] by rw [← hk,← ed,← en,← ec]]
 clear hasc hD hN hK hBa hok ed en ec hn hB box hk
 by_cases h2:k=2
 ·subst h2
  rw [if_pos rfl]
  by_cases hD0:D=0
  ·subst hD0
   by_cases hK6:K≤6
   ·by_cases hNK:N=K
    ·subst hNK
     have he:((N:Int) == (N:Int))=true:=by simp
     rw [decide_eq_true ⟨rfl,hK6,rfl⟩,Bool.true_and]
     go_enter Tryz.func197,Tryz.ntmps197
     go_wp2_with fail
     refine HASC.out.mono ?_
     rintro e w' ⟨rfl,b2⟩
     go_wp2_with fail
     go_ret
     exact ⟨rfl,ba.trans (b2.mono ba.size)⟩
    ·have he:((N:Int) == (K:Int))=false:=by simpa using (by omega:¬ (N:Int)=(K:Int))
     rw [decide_eq_false (by omega),Bool.false_and]
     clear HASC
     go_enter Tryz.func197,Tryz.ntmps197
     go_wp2
     go_ret
     exact ⟨rfl,ba⟩
   ·rw [decide_eq_false (by omega),Bool.false_and]
    clear HASC
    go_enter Tryz.func197,Tryz.ntmps197
    go_wp2
    go_ret
    exact ⟨rfl,ba⟩
  ·have he:((D:Int) == 0)=false:=by simpa using (by omega:¬ (D:Int)=0)
   rw [decide_eq_false (by omega),Bool.false_and]
   clear HASC
   go_enter Tryz.func197,Tryz.ntmps197
   go_wp2
   go_ret
   exact ⟨rfl,ba⟩
 ·rw [if_neg h2]
  have hk2:(k == 2)=false:=by simpa using h2
  clear HASC
  by_cases hall:0≤k∧k≤3∧D≤400∧N=0∧K=0
  ·rw [decide_eq_true hall]
   obtain ⟨g0,g1,g2,rfl,rfl⟩:=hall
   go_enter Tryz.func197,Tryz.ntmps197
   go_wp2
   go_ret
   exact ⟨rfl,ba⟩
  ·rw [decide_eq_false hall]
   rcases (by omega:k < 0∨3 < k∨(0≤k∧k≤3∧400 < D)∨(0≤k∧k≤3∧D≤400∧0 < N)∨(0≤k∧k≤3∧D≤400∧N=0∧0 < K)) with g | g | ⟨g0,g1,g2⟩ | ⟨g0,g1,g2,g3⟩ | ⟨g0,g1,g2,g3,g4⟩
   ·go_enter Tryz.func197,Tryz.ntmps197
    go_wp2
    go_ret
    exact ⟨rfl,ba⟩
   ·have g5:¬ k≤3:=by omega
    go_enter Tryz.func197,Tryz.ntmps197
    go_wp2
    go_ret
    exact ⟨rfl,ba⟩
   ·have g5:¬ (D:Int)≤400:=by omega
    go_enter Tryz.func197,Tryz.ntmps197
    go_wp2
    go_ret
    exact ⟨rfl,ba⟩
   ·have he:((N:Int) == 0)=false:=by simpa using (by omega:¬ (N:Int)=0)
    go_enter Tryz.func197,Tryz.ntmps197
    go_wp2
    go_ret
    exact ⟨rfl,ba⟩
   ·subst g3
    have he:((K:Int) == 0)=false:=by simpa using (by omega:¬ (K:Int)=0)
    go_enter Tryz.func197,Tryz.ntmps197
    go_wp2
    go_ret
    exact ⟨rfl,ba⟩
end Go.Proofs.YtgaadpkefncnmaaGreatDoor
/-
  The model's TreeOk and TreeSize.
-/
namespace Go.Proofs.YtgaadpkefncnmaaGreatDoor
open Go.RowKit
set_option linter.unusedVariables false
/-- What TreeOk answers. -/
def treeOk (t:T):Bool:=t.okAt 1 && decide (t.size≤40)
theorem okRest_treeOk (t:T):decide (0≤okRest t 1 40)=treeOk t:=by
 unfold okRest treeOk
 cases t.okAt 1 with
 | false=>rfl
 | true =>
   rw [if_pos rfl,Bool.true_and,rest]
   by_cases h:t.size≤40
   ·rw [if_pos (by omega),decide_eq_true h]
    exact decide_eq_true (by omega)
   ·rw [if_neg (by omega),decide_eq_false h]
    rfl
set_option maxRecDepth 20000 in
set_option maxHeartbeats 800000 in
theorem specTreeOk (t:T) (hB:t.Byts) (q:Q) (w:World) (hq:TIn w t q) :
  Calls Tryz.prog 149 #[q.val] w fun e w'=>e=.returned (.bool (treeOk t))∧Below w.heap.size w w':=by
 obtain ⟨wa,hwa,box,ba,hz⟩:=boxed w q 47
 have x0:=box.c0
 have x1:=box.c1
 have x2:=box.c2
 have x3:=box.c3
 have hcall:=specOk t q 1 40 wa hB (by omega) (by omega) (by omega) (hq.below ba)
 have hr:=okRest_treeOk t
 obtain ⟨x,hx⟩:∃ x,okRest t 1 40=x:=⟨_,rfl⟩
 rw [hx] at hcall hr
 have HR:=hide hr
 have HC:=hide hcall
 clear hr hx hq box hcall
 go_enter Tryz.func149,Tryz.ntmps149
 go_wp2_with fail
 refine HC.out.mono ?_
 rintro e w2 ⟨rfl,b2⟩
 go_wp2_with fail
 go_ret
 exact ⟨ret_bool HR.out,ba.trans (b2.mono ba.size)⟩
end Go.Proofs.YtgaadpkefncnmaaGreatDoor
/-
  The program's Sorted.
-/
namespace Go.Proofs.YtgaadpkefncnmaaGreatDoor
open Go.RowKit
set_option linter.unusedVariables false
set_option maxHeartbeats 400000 in
theorem implSorted (ns:List (List Int)) (hB:BytN ns) (v:Value) (w:World) (hv:RdN w v ns) (hl:∀ n∈ns,n.length≤1048576) :
  Calls Tryz.prog 118 #[v] w fun e w'=>e=.returned (.bool (ascP nameOk ns))∧Below w.heap.size w w':=by
 have h:=ascendN ns hB v w hv hl
 go_enter Tryz.func118,Tryz.ntmps118
 go_wp2_with fail
 refine h.mono ?_
 rintro e w1 ⟨rfl,b1⟩
 go_wp2_with fail
 go_ret
 exact ⟨rfl,b1⟩
end Go.Proofs.YtgaadpkefncnmaaGreatDoor
/-
  The model's TreeData.
-/
namespace Go.Proofs.YtgaadpkefncnmaaGreatDoor
open Go.RowKit
set_option linter.unusedVariables false
mutual
/-- The data of all nodes, in order. -/
def T.dat:T→List Int
 | .node _ d _ ks=>d++T.dats ks
def T.dats:List T→List Int
 | []=>[]
 | t :: ts=>t.dat++T.dats ts
end
theorem T.dats_next {ks:List T} {j:Nat} (h:j < ks.length):T.dats (ks.take (j + 1))=T.dats (ks.take j)++(ks[j]).dat:=by
 induction ks generalizing j with
 | nil=>simp at h
 | cons t r ih =>
   cases j with
   | zero=>simp [T.dats]
   | succ j =>
     have:=ih (j:=j) (by simpa using h)
     simp only [List.take_succ_cons,T.dats,List.getElem_cons_succ,List.append_assoc] at *
     rw [this]
theorem T.dats_take (ks:List T) (j:Nat):(T.dats (ks.take j)).length≤(T.dats ks).length:=by
 induction ks generalizing j with
 | nil=>simp [T.dats]
 | cons t r ih =>
   cases j with
   | zero=>simp [T.dats]
   | succ j =>
     have:=ih j
     simp only [List.take_succ_cons,T.dats,List.length_append]
     omega
def DatAt (t:T):Prop:=∀ (l:List Int) (v:Value) (q:Q) (lo:Nat) (w w0:World),w.ownsRow lo 5 1 v l.length (bs l)→w0.heap.size=lo→Below lo w0 w→TIn w0 t q→l.length + t.dat.length≤1099511627776 →
 Calls Tryz.prog 160 #[v,q.val] w fun e w'=>∃ v',e=.returned v'∧w'.ownsRow lo 5 1 v' (l++t.dat).length (bs (l++t.dat))∧Holds lo w w'
set_option maxRecDepth 20000 in
set_option maxHeartbeats 1600000 in
theorem specData:∀ t:T,DatAt t:=by
 intro t
 induction t using T.ind with
 | h k d ns ks ih =>
   intro l v q lo w w0 hv h0 hb hq hlen
   obtain ⟨i0,hi0,hz0,hz1,hz2⟩:=info_parts u8info
   have hlo:lo≤w.heap.size:=by rw [← h0]; exact hb.size
   obtain ⟨A,c,A',c',A'',c'',ed,hc1,hc2,en,hc1',hc2',ec,hc1'',hc2''⟩:=hq.lens
   rw [TIn] at hq
   obtain ⟨hk,hdr,hn,qs,hkk,hks⟩:=hq
   rw [T.dat,List.length_append] at hlen
   obtain ⟨K,hK⟩:∃ K,ks.length=K:=⟨_,rfl⟩
   obtain ⟨D,hD⟩:∃ D,d.length=D:=⟨_,rfl⟩
   obtain ⟨N,hN⟩:∃ N,ns.length=N:=⟨_,rfl⟩
   rw [hD] at ed hc1 hlen
   rw [hN] at en
   rw [hK] at ec hc1''
   unfold maxLen at hc2 hc2''
   obtain ⟨wa,hwa,box,ba,hz⟩:=boxed w q 47
   rw [hk] at hwa box
   rw [ec] at hwa box
   rw [ed] at hwa box
   rw [en] at hwa box
   rw [show q.val=.agg #[.int .i64 k,.slice A D c,.slice A' N c',.slice A'' K c''] by rw [← hk,← ed,← en,← ec]]
   rw [ec] at hkk
   rw [ed] at hdr
   have hva:wa.ownsRow lo 5 1 v l.length (bs l):=by rw [← hwa]; exact hv.alloc _
   have hba:Below lo w0 wa:=hb.trans (ba.mono hlo)
   have hla:lo≤wa.heap.size:=by omega
   have hda:Rd wa (.slice A D c) (bs d):=hdr.below (by rw [h0]; exact hba)
   have x1:=box.c1
   have hall:T.dat (.node k d ns ks)=d++T.dats ks:=by rw [T.dat]
   have hlt2:∀ j,(T.dats (ks.take j)).length≤(T.dats ks).length:=T.dats_take ks
   have HVA:=hide hva
   have HDA:=hide hda
   have HBOX:=hide box
   have HKK:=hide hkk
   have HKS:=hide hks
   have HIH:=hide ih
   have HKL:=hide hK
   have HDL:=hide hD
   have HALL:=hide hall
   have HW0:=hide h0
   have HBA:=hide hba
   have HLA:=hide hla
   have HHW:=hide (Holds.of_below ba hlo)
   have HLT2:=hide hlt2
   generalize hT:(T.dats ks).length=TT at *
   have HTT:=hide hT
   clear box hkk hks ih hK hD hN hn ed en ec hk hc1' hc2' hall hva hda hdr h0 hba hb hv hlt2 hT ba
   go_enter Tryz.func160,Tryz.ntmps160
   go_wp2_with (at_builtin; refine wpList_app _ rfl (.tmp 6) (.tmp 8) _ rfl lo 5 i0 _ 1 Tryz.underlying39 hi0 hz0 hz1 hz2 rfl _ _ _ rfl HVA.out _ (bs d) rfl HDA.out (bs_one d) (by rw [bs_length,HDL.out]; simp only [maxLen]; omega) (by rw [bs_length,HDL.out]; omega) HLA.out ?_; intro v2 w2 own2 gr2)
   have hr2:=holds_row HVA.out gr2 HLA.out
   have o2:w2.ownsRow lo 5 1 v2 (l++d++T.dats (ks.take 0)).length (bs (l++d++T.dats (ks.take 0))):=by
    have e0:l++d++T.dats (ks.take 0)=l++d:=by simp [T.dats]
    rw [e0]
    exact own_len (own_cells own2 (bs_append _ _).symm) (by rw [List.length_append,bs_length])
   have box2:=HBOX.out.holds hr2
   have x3:=box2.c3
   have HO2:=hide o2
   have HR2:=hide hr2
   have HB2:=hide box2
   clear own2 gr2 hr2 o2 box2 x1 hwa
   go_loopw [0,5] (fun u i wr=>∃ j:Nat,j≤K∧i=.int .i64 j∧Hid (wr.ownsRow lo 5 1 u (l++d++T.dats (ks.take j)).length (bs (l++d++T.dats (ks.take j))))∧Hid (Holds lo wa wr)∧C4 wr w.heap.size 47 (.int .i64 k) (.slice A D c) (.slice A' N c') (.slice A'' K c''))
    (fun _ i _=>K - (intOf i).toNat)
   case atStart=>exact ⟨0,Nat.zero_le _,rfl,HO2,HR2,HB2.out⟩
   case round =>
    obtain ⟨j,hj,rfl,HOW,HHO,box⟩:=hrel
    have x3:=box.c3
    by_cases hlt:j < K
    ·have hjk:j < ks.length:=by rw [HKL.out]; exact hlt
     obtain ⟨q',hq',hqt⟩:=HKS.out.at_ j ks[j] (List.getElem?_eq_getElem hjk)
     obtain ⟨b3,off3,hA3,hb3,rng⟩:=HKK.out.get hq'
     subst hA3
     have hbw:Below lo w0 wr:=HBA.out.trans HHO.out.below
     have rng2:=rangeAt_below rng (by rw [HW0.out]; exact hbw) hb3
     have hnext:=T.dats_next hjk
     have hl2:=HLT2.out (j + 1)
     have hl3:=HLT2.out j
     have hcall:=HIH.out ks[j] (List.getElem_mem hjk) (l++d++T.dats (ks.take j)) u0 q' lo wr w0 HOW.out HW0.out hbw hqt (by
      rw [hnext,List.length_append] at hl2
      simp only [List.length_append,HDL.out]
      omega)
     have HRNG:=hide rng2
     have HC:=hide hcall
     have HB:=hide box
     have HNX:=hide hnext
     have k1:(j:Int) < (K:Int):=by omega
     clear rng rng2 hq' hqt hbw box hnext hb3 hcall hl2 hl3
     go_wp2_with ((with_reducible refine at_slot 22 ?_); refine wpList_load_mid rfl _ _ rfl b3 (off3 + j * 4) rfl _ _ HRNG.out Tryz.underlying47 rfl (by kernel_rfl) ?_)
     refine HC.out.mono ?_
     rintro e w3 ⟨v3,rfl,o3,h3⟩
     have HO3:Hid (w3.ownsRow lo 5 1 v3 (l++d++T.dats (ks.take (j + 1))).length (bs (l++d++T.dats (ks.take (j + 1))))):=hide (by rw [HNX.out,← List.append_assoc]; exact o3)
     have HH3:=hide h3
     clear o3 h3 x3
     go_wp2_with fail
     go_roundw
     case rel=>exact ⟨j + 1,by omega,by go_num,HO3,hide (HHO.out.trans HH3.out),HB.out.holds HH3.out⟩
     case measure=>simp [intOf]; omega
    ·obtain rfl:j=K:=by omega
     have e2:ks.take j=ks:=List.take_of_length_le (by rw [HKL.out]; omega)
     rw [e2] at HOW
     have HF:Hid (wr.ownsRow lo 5 1 u0 (l++T.dat (.node k d ns ks)).length (bs (l++T.dat (.node k d ns ks)))):=hide (by rw [HALL.out,← List.append_assoc]; exact HOW.out)
     clear box e2 HOW
     go_wp2
     go_ret
     exact ⟨_,rfl,HF.out,HHW.out.trans HHO.out⟩
end Go.Proofs.YtgaadpkefncnmaaGreatDoor
/-
  The model's l5inCmp.
-/
namespace Go.Proofs.YtgaadpkefncnmaaGreatDoor
open Go.RowKit
set_option linter.unusedVariables false
end Go.Proofs.YtgaadpkefncnmaaGreatDoor
/-
  The program's iterator over a tree's nodes.
-/
namespace Go.Proofs.YtgaadpkefncnmaaGreatDoor
open Go.RowKit Go.Shelf
set_option linter.unusedVariables false
mutual
/-- A tree's nodes, each with its steps and its name, a directory ahead of its kids. -/
def T.pre:T→Nat→List Int→List (Nat × List Int × T)
 | .node k d ns ks,s,nm=>(s,nm,.node k d ns ks) :: T.pres ks ns (s + 1)
def T.pres:List T→List (List Int)→Nat→List (Nat × List Int × T)
 | [],_,_=>[]
 | t :: ts,ns,s=>t.pre s (ns.headD [])++T.pres ts ns.tail s
end
theorem T.pres_next {ks:List T} {j:Nat} (h:j < ks.length) (ns:List (List Int)) (s:Nat):T.pres (ks.take (j + 1)) ns s=T.pres (ks.take j) ns s++(ks[j]).pre s (ns.getD j []):=by
 induction ks generalizing j ns with
 | nil=>simp at h
 | cons t r ih =>
   cases j with
   | zero=>cases ns <;> simp [T.pres]
   | succ j =>
     have h2:=ih (j:=j) (by simpa using h) ns.tail
     have h3:ns.tail.getD j []=ns.getD (j + 1) []:=by cases ns <;> simp [List.getD]
     rw [List.take_succ_cons,T.pres,h2,h3,List.take_succ_cons,T.pres,List.append_assoc]
     rfl
theorem T.pres_take (ks:List T) (j:Nat) (ns:List (List Int)) (s:Nat):T.pres (ks.take j) ns s <+: T.pres ks ns s:=by
 induction ks generalizing j ns with
 | nil=>simp [T.pres]
 | cons t r ih =>
   cases j with
   | zero=>simp [T.pres]
   | succ j =>
     rw [List.take_succ_cons,T.pres,T.pres]
     exact (List.prefix_append_right_inj _).2 (ih j ns.tail)
/-- A node as the iterator hands it out, in what lay as it began. -/
structure Nd (w0:World) where
 s:Nat
 nm:List Int
 t:T
 v:Value
 q:Q
 hv:Rd w0 v (bs nm)
 hB:Byt nm
 hq:TIn w0 t q
 ht:t.Byts
def Nd.val {w0:World} (x:Nd w0):Value:=.agg #[.int .i64 x.s,x.v,.int .i64 x.q.k,x.q.d,x.q.n,x.q.c]
def Nd.key {w0:World} (x:Nd w0):Nat × List Int × T:=(x.s,x.nm,x.t)
def Nd.good {w0:World} (x:Nd w0):Prop:=x.s < 4∧x.t.nodeOk=true
/-- A block of a node's six cells. -/
def C6 (w:World) (g:Nat) (a b c d e f:Value):Prop:=w.heap[g]? = some (.cells #[a,b,c,d,e,f] 219 (0,0))
section
variable {w w' : World} {g:Nat} {a b c d e f:Value}
theorem C6.lt (h:C6 w g a b c d e f):g < w.heap.size:=(Array.getElem?_eq_some_iff.1 h).1
theorem C6.c0 (h:C6 w g a b c d e f):w.cell? ⟨g,0,none⟩=some a:=by rw [cell_of_row w g 0 _ _ (0,0) h]; rfl
theorem C6.c1 (h:C6 w g a b c d e f):w.cell? ⟨g,1,none⟩=some b:=by rw [cell_of_row w g 1 _ _ (0,0) h]; rfl
theorem C6.c2 (h:C6 w g a b c d e f):w.cell? ⟨g,2,none⟩=some c:=by rw [cell_of_row w g 2 _ _ (0,0) h]; rfl
theorem C6.c3 (h:C6 w g a b c d e f):w.cell? ⟨g,3,none⟩=some d:=by rw [cell_of_row w g 3 _ _ (0,0) h]; rfl
theorem C6.c4 (h:C6 w g a b c d e f):w.cell? ⟨g,4,none⟩=some e:=by rw [cell_of_row w g 4 _ _ (0,0) h]; rfl
theorem C6.c5 (h:C6 w g a b c d e f):w.cell? ⟨g,5,none⟩=some f:=by rw [cell_of_row w g 5 _ _ (0,0) h]; rfl
theorem C6.step (h:C6 w g a b c d e f) (hb:Below w.heap.size w w'):C6 w' g a b c d e f:=(hb.block g h.lt).trans h
theorem C6.holds {n₀:Nat} (h:C6 w g a b c d e f) (hh:Holds n₀ w w'):C6 w' g a b c d e f:=hh.rows g _ _ _ h (.inl rfl)
end
theorem boxed6 (w:World) (a b c d e f:Value):∃ wa,w.alloc (.cells #[a,b,c,d,e,f] 219)=wa∧C6 wa w.heap.size a b c d e f∧Below w.heap.size w wa∧wa.heap.size=w.heap.size + 1 :=
 ⟨_,rfl,heap_alloc_new w _,(Below.refl _ _).alloc (Nat.le_refl _) _,by simp⟩
theorem YieldAt.any {m m' : Nat} {P:Program} {l:Nat} {args:Array Value} {W:World} {R:Ending→World→Prop} (h:YieldAt Fence.wide m P l args W R):YieldAt Fence.wide m' P l args W R:=by
 obtain ⟨fn,tmps,assign,body,hy,h1,h2⟩:=h
 exact ⟨fn,tmps,assign,body,hy,h1,fun c cs _=>h2 c cs (fun d h=>by cases h)⟩
theorem TIn.one {w:World} {t:T} {q:Q} (h:TIn w t q):(#[.int .i64 q.k,q.d,q.n,q.c]:Array Value).all (·.oneCell')=true:=by
 obtain ⟨k,d,ns,ks⟩:=t
 obtain ⟨A,c,A',c',A'',c'',e,_,_,e',_,_,e'',_,_⟩:=h.lens
 rw [e,e',e'']
 simp [Value.oneCell']
theorem TIn.form {w:World} {t:T} {q:Q} (h:TIn w t q):∃ A n c A' n' c' A'' n'' c'',q.d=.slice A n c∧q.n=.slice A' n' c'∧q.c=.slice A'' n'' c'':=by
 obtain ⟨k,d,ns,ks⟩:=t
 obtain ⟨A,c,A',c',A'',c'',e,_,_,e',_,_,e'',_,_⟩:=h.lens
 exact ⟨_,_,_,_,_,_,_,_,_,e,e',e''⟩
theorem TIn.one6 {w:World} {t:T} {q:Q} (h:TIn w t q) {l:List Value} {v:Value} (hv:Rd w v l) (s:Int):(#[.int .i64 s,v,.int .i64 q.k,q.d,q.n,q.c]:Array Value).all (·.oneCell')=true:=by
 obtain ⟨k,d,ns,ks⟩:=t
 obtain ⟨A,c,A',c',A'',c'',e,_,_,e',_,_,e'',_,_⟩:=h.lens
 obtain ⟨B,cv,ev,_⟩:=hv
 rw [e,e',e'',ev]
 simp [Value.oneCell']
theorem C4.range {w:World} {g:Nat} {t:TypeId} {a b c d:Value} (h:C4 w g t a b c d):w.rangeAt g 0 [a,b,c,d]:=fun j v hv=>by
 rw [Nat.zero_add]
 match j,hv with
 | 0,hv=>simp at hv; subst hv; exact h.c0
 | 1,hv=>simp at hv; subst hv; exact h.c1
 | 2,hv=>simp at hv; subst hv; exact h.c2
 | 3,hv=>simp at hv; subst hv; exact h.c3
theorem C6.range {w:World} {g:Nat} {a b c d e f:Value} (h:C6 w g a b c d e f):w.rangeAt g 0 [a,b,c,d,e,f]:=fun j v hv=>by
 rw [Nat.zero_add]
 match j,hv with
 | 0,hv=>simp at hv; subst hv; exact h.c0
 | 1,hv=>simp at hv; subst hv; exact h.c1
 | 2,hv=>simp at hv; subst hv; exact h.c2
 | 3,hv=>simp at hv; subst hv; exact h.c3
 | 4,hv=>simp at hv; subst hv; exact h.c4
 | 5,hv=>simp at hv; subst hv; exact h.c5
theorem C6.fz {w:World} {g:Nat} {a b c d e f:Value} (h:C6 w g a b c d e f) (j:Nat):w.frozen? ⟨g,j,none⟩=false:=frozen_of_row w g j _ _ h
theorem C6.there {w:World} {g:Nat} {a b c d e f:Value} (h:C6 w g a b c d e f):w.there g 0 6:=fun j hj=>by
 refine ⟨?_,h.fz _⟩
 rw [Nat.zero_add]
 rcases (by omega:j=0∨j=1∨j=2∨j=3∨j=4∨j=5) with rfl | rfl | rfl | rfl | rfl | rfl
 ·rw [h.c0]; rfl
 ·rw [h.c1]; rfl
 ·rw [h.c2]; rfl
 ·rw [h.c3]; rfl
 ·rw [h.c4]; rfl
 ·rw [h.c5]; rfl
theorem C6.all {w:World} {g:Nat} {a b c d e f:Value} (h:C6 w g a b c d e f) (x0 x1 x2 x3 x4 x5:Value):C6 (w.setCells g 0 [x0,x1,x2,x3,x4,x5]) g x0 x1 x2 x3 x4 x5:=by
 have h0:C6 (w.setCell ⟨g,0,none⟩ x0) g x0 b c d e f:=heap_setCell_same w g 0 _ _ _ h
 have h1:C6 ((w.setCell ⟨g,0,none⟩ x0).setCell ⟨g,1,none⟩ x1) g x0 x1 c d e f:=heap_setCell_same _ g 1 _ _ _ h0
 have h2:C6 (((w.setCell ⟨g,0,none⟩ x0).setCell ⟨g,1,none⟩ x1).setCell ⟨g,2,none⟩ x2) g x0 x1 x2 d e f:=heap_setCell_same _ g 2 _ _ _ h1
 have h3:C6 ((((w.setCell ⟨g,0,none⟩ x0).setCell ⟨g,1,none⟩ x1).setCell ⟨g,2,none⟩ x2).setCell ⟨g,3,none⟩ x3) g x0 x1 x2 x3 e f:=heap_setCell_same _ g 3 _ _ _ h2
 have h4:C6 (((((w.setCell ⟨g,0,none⟩ x0).setCell ⟨g,1,none⟩ x1).setCell ⟨g,2,none⟩ x2).setCell ⟨g,3,none⟩ x3).setCell ⟨g,4,none⟩ x4) g x0 x1 x2 x3 x4 f:=heap_setCell_same _ g 4 _ _ _ h3
 exact heap_setCell_same _ g 5 _ _ _ h4
/-- A block made and filled: only that is new. -/
theorem made4 (w:World) (t:TypeId) (a b c d x0 x1 x2 x3:Value):∃ wz,w.alloc (.cells #[a,b,c,d] t)=wz∧wz.there w.heap.size 0 4∧∃ wk,wz.setCells w.heap.size 0 [x0,x1,x2,x3]=wk∧C4 wk w.heap.size t x0 x1 x2 x3∧Below w.heap.size w wk∧wk.heap.size=w.heap.size + 1:=by
 have h:C4 (w.alloc (.cells #[a,b,c,d] t)) w.heap.size t a b c d:=heap_alloc_new w _
 refine ⟨_,rfl,h.there,_,rfl,h.all _ _ _ _,?_,by simp [World.setCells]⟩
 have h0:=(Below.refl w.heap.size w).alloc (Nat.le_refl _) (Obj.cells #[a,b,c,d] t)
 exact (((h0.setCell (p:=⟨w.heap.size,0,none⟩) (Nat.le_refl _) x0).setCell (p:=⟨w.heap.size,1,none⟩) (Nat.le_refl _) x1).setCell (p:=⟨w.heap.size,2,none⟩) (Nat.le_refl _) x2).setCell (p:=⟨w.heap.size,3,none⟩) (Nat.le_refl _) x3
/-- What the iterator does with its rounds. -/
def ProdAt (t:T):Prop:=∀ (w0:World) (x:Nd w0) (l:Nat) (J Jx:List (Nd w0)→World→Prop) (full:List (Nat × List Int × T)),
 (∀ pre W W',J pre W→Below W.heap.size W W'→J pre W') →
 (∀ pre W,J pre W→∀ y∈pre,y.good) →
 (∀ pre (y:Nd w0) W,J pre W→pre.map Nd.key++[y.key] <+: full→Below w0.heap.size w0 W→YieldAt Fence.wide 0 Tryz.prog l #[y.val] W fun e W' =>
  (e=.returned (.bool true)∧J (pre++[y]) W'∧Holds w0.heap.size W W')∨(e=.returned (.bool false)∧Jx (pre++[y]) W')) →
 x.t=t→∀ (pre:List (Nd w0)) (W:World),J pre W→Below w0.heap.size w0 W→pre.map Nd.key++t.pre x.s x.nm <+: full →
 Calls Tryz.prog 217 #[x.val,.func (.yield l) #[] #[]] W fun e W' =>
  (e=.returned (.bool true)∧(∃ xs:List (Nd w0),xs.map Nd.key=t.pre x.s x.nm∧J (pre++xs) W')∧Holds w0.heap.size W W') ∨
  (e=.returned (.bool false)∧∃ xs:List (Nd w0),xs.map Nd.key <+: t.pre x.s x.nm∧Jx (pre++xs) W')
set_option maxRecDepth 20000 in
set_option maxHeartbeats 600000 in
theorem produce:∀ t:T,ProdAt t:=by
 intro t
 induction t using T.ind with
 | h k d ns ks ih =>
   intro w0 x l J Jx full hJ hG hY hx pre W hj hw hfull
   have hq:=x.hq
   have htB:=x.ht
   have hkey:x.key=(x.s,x.nm,.node k d ns ks):=by rw [Nd.key,hx]
   have hgood:∀ W,J (pre++[x]) W→x.s < 4∧(T.node k d ns ks).nodeOk=true:=fun W h=>by
    have h2:=hG _ W h x (by simp)
    rwa [Nd.good,hx] at h2
   rw [hx] at hq htB
   obtain ⟨s,hs⟩:∃ s,x.s=s:=⟨_,rfl⟩
   obtain ⟨v,hv⟩:∃ v,x.v=v:=⟨_,rfl⟩
   obtain ⟨nm,hnm⟩:∃ nm,x.nm=nm:=⟨_,rfl⟩
   rw [hs] at hgood
   rw [hs,hnm] at hfull hkey ⊢
   obtain ⟨A,c,A',c',A'',c'',ed,hc1,hc2,en,hc1',hc2',ec,hc1'',hc2''⟩:=hq.lens
   rw [TIn] at hq
   obtain ⟨hk,_,hn,qs,hkk,hks⟩:=hq
   rw [T.Byts] at htB
   obtain ⟨_,hBn,hBk⟩:=htB
   obtain ⟨N,hN⟩:∃ N,ns.length=N:=⟨_,rfl⟩
   obtain ⟨K,hK⟩:∃ K,ks.length=K:=⟨_,rfl⟩
   obtain ⟨D,hD⟩:∃ D,d.length=D:=⟨_,rfl⟩
   rw [hD] at ed
   rw [hN] at en
   rw [hK] at ec hc1''
   rw [en] at hn
   rw [ec] at hkk
   unfold maxLen at hc2' hc2''
   have hval:x.val=.agg #[.int .i64 s,v,.int .i64 k,.slice A D c,.slice A' N c',.slice A'' K c'']:=by rw [Nd.val,hs,hv,hk,ed,en,ec]
   obtain ⟨wa,hwa,box,ba,hz⟩:=boxed6 W (.int .i64 s) v (.int .i64 k) (.slice A D c) (.slice A' N c') (.slice A'' K c'')
   have hja:=hJ pre W wa hj ba
   have hwa0:Below w0.heap.size w0 wa:=hw.trans (ba.mono hw.size)
   have hba:=Holds.of_below ba hw.size
   rw [T.pre] at hfull ⊢
   have hY1:=hY pre x wa hja (by rw [hkey]; exact ((List.prefix_append_right_inj _).2 ⟨_,rfl⟩).trans hfull) hwa0
   rw [hval] at hY1 ⊢
   obtain ⟨fn,tmps,assign,body,hy,hR⟩:=YieldAt.any (m':=2) hY1
   have HBOX:=hide box
   have x0:=box.c0
   have x1:=box.c1
   have x2:=box.c2
   have x3:=box.c3
   have x4:=box.c4
   have x5:=box.c5
   have HHY:=hide hY
   have HIH:=hide ih
   have HHJ:=hide hJ
   have HHG:=hide hG
   have HGO:=hide hgood
   have HKEY:=hide hkey
   have HKK:=hide hkk
   have HKS:=hide hks
   have HNN:=hide hn
   have HBN:=hide hBn
   have HBKK:=hide hBk
   have HNL:=hide hN
   have HKL:=hide hK
   have HFULL:=hide hfull
   have HBA:=hide hba
   have HBW:=hide hwa0
   have HV:=hide hv
   clear hv
   clear box ih hY hkk hks hn hBn hBk hN hK hD hY1 hJ hG hgood hkey hfull hba hwa0 hw hj hja ba hs hnm hx hk ed en ec hval
   go_enter Tryz.func217,Tryz.ntmps217
   go_upto_region 1 with (fail)
   refine (wpIn_wide (n:=3)).1 ?_
   gi_wp2_with (refine hR.mono ?_; rintro e W2 (⟨rfl,hJ2,hb2⟩ | ⟨rfl,hJx2⟩))
   ·obtain ⟨hs4,hno⟩:=HGO.out _ hJ2
    have hNK:0 < K→N=K:=fun h=>by
     rw [T.nodeOk,HNL.out,HKL.out] at hno
     split at hno
     ·simp at hno; omega
     ·simp at hno; omega
    have HW2:=hide (HBW.out.trans hb2.below)
    have HH2:=hide hb2
    have HJ2:=hide hJ2
    have HB2:=hide (HBOX.out.holds hb2)
    have x5:=HB2.out.c5
    have HNK:=hide hNK
    clear hy hR hno hb2 hJ2 hNK x0 x1 x2 x3 x4 hwa
    go_wp2
    go_loopw [16] (fun i wr=>∃ j:Nat,j≤K∧i=.int .i64 j∧Hid (∃ ys:List (Nd w0),ys.map Nd.key=T.pres (ks.take j) ns (s + 1)∧J (pre++x :: ys) wr)∧Hid (Holds w0.heap.size wa wr)∧C6 wr W.heap.size (.int .i64 s) v (.int .i64 k) (.slice A D c) (.slice A' N c') (.slice A'' K c''))
     (fun i _=>K - (intOf i).toNat)
    case atStart=>exact ⟨0,Nat.zero_le _,rfl,hide ⟨[],by simp [T.pres],HJ2.out⟩,HH2,HB2.out⟩
    case round =>
     obtain ⟨j,hj,rfl,HYS,HH,box⟩:=hrel
     by_cases hlt:j < K
     ·have hjk:j < ks.length:=by rw [HKL.out]; exact hlt
      obtain rfl:=HNK.out (by omega)
      have hjn:j < ns.length:=by rw [HNL.out]; exact hlt
      obtain ⟨q',hq',hqt⟩:=HKS.out.at_ j ks[j] (List.getElem?_eq_getElem hjk)
      obtain ⟨b3,off3,hA3,hb3,rng⟩:=HKK.out.get hq'
      subst hA3
      have hbw:Below w0.heap.size w0 wr:=HBW.out.trans HH.out.below
      have rng2:=rangeAt_below rng hbw hb3
      obtain ⟨b,off,u,hA',hblt,cu,ru⟩:=HNN.out.get hjn
      subst hA'
      have q1:=(hbw.cell (p:=⟨b,off + j,none⟩) hblt).trans cu
      have k1:(j:Int) < (N:Int):=by omega
      have k0:(0:Int)≤(j:Int):=by omega
      have k2:(j:Int).toNat=j:=by omega
      obtain ⟨qk,qd,qn,qc⟩:=q'
      obtain ⟨A1,n1,c1,A2,n2,c2,A3,n3,c3,hqd,hqn,hqc⟩:=hqt.form
      obtain ⟨A4,cap4,hu,hu1,hu2,hu3⟩:=id ru
      dsimp only at hqd hqn hqc
      subst hqd hqn hqc hu
      obtain ⟨L4,hL4⟩:∃ L4,(bs (ns.getD j [])).length=L4:=⟨_,rfl⟩
      rw [hL4] at q1 ru
      dsimp only at rng2
      have HRNG:=hide rng2
      have HBOXR:=hide box
      have HQ1:=hide q1
      have HBWR:=hide hbw
      have HRU:=hide ru
      have HQT:=hide hqt
      have HQQ:=hide hq'
      obtain ⟨wz,hwz,hth4,wk,hwk,kid,bk,zk⟩:=made4 wr 47 (.int .i64 0) (.slice none 0 0) (.slice none 0 0) (.slice none 0 0) (.int .i64 qk) (.slice A1 n1 c1) (.slice A2 n2 c2) (.slice A3 n3 c3)
      have hone:=hqt.one
      have hone6:=hqt.one6 ru ((s + 1:Nat):Int)
      rw [← hwz] at hth4
      have HTH4:=hide hth4
      have HONE:=hide hone
      have HONE6:=hide hone6
      have HWK:=hide hwk
      have HWZ:=hide hwz
      have HKID:=hide kid
      have HBK:=hide bk
      have HZK:=hide zk
      clear box rng rng2 q1 cu ru hqt hq' hbw x5 hth4 hone hone6 hwk hwz kid bk zk
      go_wp2_with (first
       | ((with_reducible refine at_slot 20 ?_); refine wpList_load_mid rfl _ _ rfl b3 (off3 + j * 4) rfl _ _ HRNG.out Tryz.underlying47 rfl (by kernel_rfl) ?_)
       | ((with_reducible refine at_none ?_); refine wpList_store_mid rfl _ _ _ rfl wr.heap.size 0 #[.int .i64 qk,.slice A1 n1 c1,.slice A2 n2 c2,.slice A3 n3 c3] rfl rfl HTH4.out (by kernel_rfl) HONE.out ?_; rw [HWZ.out]; change wpList _ _ _ _ _ (wz.setCells wr.heap.size 0 [.int .i64 qk,.slice A1 n1 c1,.slice A2 n2 c2,.slice A3 n3 c3]); rw [HWK.out]))
      have hq1:=HQ1.out
      have c0:=(HBOXR.out.step HBK.out).c0
      have c4:=(HBOXR.out.step HBK.out).c4
      have q1:wk.cell? ⟨b,off + j,none⟩=some (.slice A4 L4 cap4):=(HBK.out.cell (p:=⟨b,off + j,none⟩) (Nat.lt_of_lt_of_le hblt HBWR.out.size)).trans hq1
      have y0:=HKID.out.c0
      have y1:=HKID.out.c1
      have y2:=HKID.out.c2
      have y3:=HKID.out.c3
      have hwr:IntKind.i64.wrap ((s:Int) + 1)=(s:Int) + 1:=IntWalk.i64_in _ (by omega)
      clear hq1
      go_region_held3 (fun w'=>w'.cell? ⟨W.heap.size,0,none⟩=some (.int .i64 s)∧w'.cell? ⟨W.heap.size,4,none⟩=some (.slice (some ⟨b,off,none⟩) N c')∧w'.cell? ⟨b,off + j,none⟩=some (.slice A4 L4 cap4)∧w'.cell? ⟨wr.heap.size,0,none⟩=some (.int .i64 qk)∧w'.cell? ⟨wr.heap.size,1,none⟩=some (.slice A1 n1 c1)∧w'.cell? ⟨wr.heap.size,2,none⟩=some (.slice A2 n2 c2)∧w'.cell? ⟨wr.heap.size,3,none⟩=some (.slice A3 n3 c3))
       (first | go_keep) (first | fail)
      obtain ⟨wn,hwn,nbox,bn,zn⟩:=boxed6 wk (.int .i64 ((s:Int) + 1)) (.slice A4 L4 cap4) (.int .i64 qk) (.slice A1 n1 c1) (.slice A2 n2 c2) (.slice A3 n3 c3)
      rw [hwn]
      obtain ⟨wm,hwm⟩:∃ wm,wn.drew=wm:=⟨_,rfl⟩
      have bm:Below wr.heap.size wr wm:=by rw [← hwm]; exact (HBK.out.trans (bn.mono HBK.out.size)).drew
      have mbox:C6 wm wk.heap.size (.int .i64 ((s:Int) + 1)) (.slice A4 L4 cap4) (.int .i64 qk) (.slice A1 n1 c1) (.slice A2 n2 c2) (.slice A3 n3 c3):=by rw [← hwm]; exact nbox
      rw [hwm]
      have obox:=HBOXR.out.step bm
      have hbm:Below w0.heap.size w0 wm:=HBWR.out.trans (bm.mono HBWR.out.size)
      have hhm:Holds w0.heap.size wa wm:=HH.out.trans (Holds.of_below bm HBWR.out.size)
      obtain ⟨ys,hys,hJys⟩:=HYS.out
      have hJm:=HHJ.out _ wr wm hJys bm
      obtain ⟨y,hy⟩:∃ y:Nd w0,y=⟨s + 1,ns.getD j [],ks[j],.slice A4 L4 cap4,⟨qk,.slice A1 n1 c1,.slice A2 n2 c2,.slice A3 n3 c3⟩,HRU.out,HBN.out _ (by simp [List.getD,List.getElem?_eq_getElem hjn]),HQT.out,T.Bytss.mem HBKK.out _ (List.getElem_mem hjk)⟩:=⟨_,rfl⟩
      have hyv:y.val=.agg #[.int .i64 ((s:Int) + 1),.slice A4 L4 cap4,.int .i64 qk,.slice A1 n1 c1,.slice A2 n2 c2,.slice A3 n3 c3]:=by rw [hy]; rfl
      have hfj:(pre++x :: ys).map Nd.key++(ks[j]).pre (s + 1) (ns.getD j []) <+: full:=by
       rw [List.map_append,List.map_cons,HKEY.out,hys,List.append_assoc,List.cons_append,← T.pres_next hjk]
       exact ((List.prefix_append_right_inj _).2 ((List.prefix_cons_inj _).2 (T.pres_take ks (j + 1) ns (s + 1)))).trans HFULL.out
      have hcall:=HIH.out ks[j] (List.getElem_mem hjk) w0 y l J Jx full HHJ.out HHG.out HHY.out (by rw [hy]) (pre++x :: ys) wm hJm hbm (by rw [hy]; exact hfj)
      rw [hyv] at hcall
      rw [show y.s=s + 1 by rw [hy],show y.nm=ns.getD j [] by rw [hy]] at hcall
      have hnx:=T.pres_next hjk ns (s + 1)
      have x0:=mbox.c0
      have x1:=mbox.c1
      have x2:=mbox.c2
      have x3:=mbox.c3
      have x4:=mbox.c4
      have x5:=mbox.c5
      have HCALL:=hide hcall
      have HOB:=hide obox
      have HHM:=hide hhm
      have HYS2:=hide hys
      have HNX:=hide hnx
      have HPT:=hide (T.pres_take ks (j + 1) ns (s + 1))
      clear hcall obox hhm hys hnx hwn nbox bn zn hwm bm mbox hbm hJys hJm hy hyv hfj c0 c4 q1 y0 y1 y2 y3 hwr
      go_wp2_with fail
      refine HCALL.out.mono ?_
      rintro e w5 (⟨rfl,⟨xs,hxs,hJ5⟩,hh5⟩ | ⟨rfl,xs,hxs,hJx5⟩)
      ·have HXS:=hide hxs
       have HJ5:=hide hJ5
       have HH5:=hide hh5
       clear hxs hJ5 hh5 x0 x1 x2 x3 x4 x5
       go_wp2_with fail
       go_roundw
       case rel=>exact ⟨j + 1,by omega,by go_num,hide ⟨ys++xs,by rw [List.map_append,HYS2.out,HXS.out,HNX.out],by rw [← List.cons_append,← List.append_assoc]; exact HJ5.out⟩,hide (HHM.out.trans HH5.out),HOB.out.holds HH5.out⟩
       case measure=>simp [intOf]; omega
      ·have HXS:=hide hxs
       have HJ5:=hide hJx5
       clear hxs hJx5 x0 x1 x2 x3 x4 x5
       go_wp2_with fail
       go_ret
       refine .inr ⟨rfl,x :: (ys++xs),?_,by rw [← List.cons_append,← List.append_assoc]; exact HJ5.out⟩
       rw [List.map_cons,List.map_append,HKEY.out,HYS2.out]
       refine (List.prefix_cons_inj _).2 (List.IsPrefix.trans ?_ HPT.out)
       rw [HNX.out]
       exact (List.prefix_append_right_inj _).2 HXS.out
     ·obtain rfl:j=K:=by omega
      have e2:ks.take j=ks:=List.take_of_length_le (by rw [HKL.out]; omega)
      rw [e2] at HYS
      clear box x5
      go_wp2
      go_ret
      obtain ⟨ys,h1,h2⟩:=HYS.out
      exact .inl ⟨rfl,⟨x :: ys,by rw [List.map_cons,HKEY.out,h1],h2⟩,HBA.out.trans HH.out⟩
   ·clear x0 x1 x2 x3 x4 x5 hy hR hwa
    go_wp2
    go_ret
    exact .inr ⟨rfl,[x],by rw [List.map_cons,HKEY.out]; exact ⟨_,rfl⟩,hJx2⟩
end Go.Proofs.YtgaadpkefncnmaaGreatDoor
/-
  The program's Scan.
-/
namespace Go.Proofs.YtgaadpkefncnmaaGreatDoor
open Go.RowKit Go.Maps Go.ChangeShapes Go.WideMaps
set_option linter.unusedVariables false
theorem boolInfo:(Tryz.prog.info? 4).map (fun i=>(i.zero,i.size,i.bytes))=some (some (.bool false),1,1):=by kernel_rfl
set_option maxRecDepth 100000 in
set_option maxHeartbeats 3200000 in
theorem implScan (b:List Int) (ns:List (List Int)) (hB:Byt b) (hN:BytN ns) (vb va:Value) (w:World) (hb:Rd w vb (bs b)) (hv:RdN w va ns) (hbl:b.length≤1099511627776) (hn:ns.length≤1048576) (hl:∀ n∈ns,n.length≤1048576) :
  Calls Tryz.prog 198 #[vb,va] w fun e w'=>∃ v',e=.returned v'∧OwnS w.heap.size w' v' (scanOf b ns)∧Below w.heap.size w w':=by
 have hs:=implSorted ns hN va w hv hl
 cases ha:ascP nameOk ns with
 | false =>
   have hS:scanOf b ns = []:=by rw [scanOf,ha]; rfl
   rw [ha] at hs
   have HS:=hide hs
   have HE:=hide hS
   clear hs hS ha hb hv
   go_enter Tryz.func198,Tryz.ntmps198
   go_wp2_with fail
   refine HS.out.mono ?_
   rintro e w1 ⟨rfl,b1⟩
   go_wp2_with fail
   go_ret
   rw [HE.out]
   exact ⟨_,rfl,OwnS.nil _ _,b1⟩
 | true =>
   have hS:scanOf b ns=scanL b ns:=by rw [scanOf,ha]; rfl
   have h16:=asc_names ha
   rw [ha] at hs
   have hpl:=fun (W:World) (hW:Below w.heap.size w W)=>implPlaces (H:=Unit) ns (fun n hn=>⟨by rw [h16 n hn]; omega,hN n hn⟩) va W (hv.below hW) hn
   obtain ⟨i0,hi0,hz0,hz1,hz2⟩:=info_parts namesInfo
   obtain ⟨j0,hj0,hy0,hy1,hy2⟩:=info_parts boolInfo
   obtain ⟨A,c,rfl,hc1,hc2⟩:=names_len hv
   obtain ⟨N,hNl⟩:∃ N,ns.length=N:=⟨_,rfl⟩
   rw [hNl] at hc1 hv hn hs hpl
   obtain ⟨A0,c0,rfl,hd1,hd2,hrd⟩:=hb
   rw [bs_length] at hd1 hrd ⊢
   obtain ⟨M,hMl⟩:∃ M,b.length=M:=⟨_,rfl⟩
   rw [hMl] at hd1 hrd hbl ⊢
   rw [hNl]
   unfold maxLen at hc2 hd2
   have HS:=hide hs
   have HE:=hide hS
   have HPL:=hide hpl
   have HNL:=hide hNl
   have HML:=hide hMl
   have HNN:=hide hv
   have HRD:=hide hrd
   have H16:=hide h16
   have HBN:=hide hN
   clear hs hS hpl hNl hMl hv hrd h16 hN ha hl
   go_enter Tryz.func198,Tryz.ntmps198
   go_wp2_with fail
   refine HS.out.mono ?_
   rintro e w1 ⟨rfl,b1⟩
   go_wp2_with fail
   refine (HPL.out w1 b1).mono ?_
   rintro e w2 ⟨rfl,⟨D,og,hg⟩,b2,z2⟩
   have HB2:=hide (b1.trans (b2.mono b1.size))
   have HOG:=hide og
   have HGR:=hide hg
   obtain ⟨m1,hm1⟩:∃ m,w1.heap.size=m:=⟨_,rfl⟩
   rw [hm1] at HOG z2 ⊢
   have hlw1:w.heap.size≤m1:=by rw [← hm1]; exact b1.size
   clear b1 b2 og hg HS HPL hm1
   go_wp2_with (at_make; refine wpList_make_full _ rfl _ _ 161 rfl w2.heap.size 4 j0 _ 1 Tryz.underlying161 hj0 hy0 hy1 .i64 .i64 _ _ N rfl rfl rfl rfl (by rw [hy2]; omega) (by simp only [maxLen]; omega) (Nat.le_refl _) ?_; intro w3 own3 gr3)
   have hob:OB w3 w2.heap.size w2.heap.size N (fun j=>seen b (ns.getD j []) 0):=by
    have e:(madeCells (Value.bool false).cells (N * 1)).toList=(List.range N).map fun j=>Value.bool (seen b (ns.getD j []) 0):=by
     rw [Nat.mul_one]
     refine (toList_madeCells_one _ _).trans (List.eq_replicate_iff.2 ⟨by simp,fun x hx=>?_⟩).symm
     obtain ⟨j,_,rfl⟩:=List.mem_map.1 hx
     rw [seen_zero]
    unfold OB
    rw [← e]
    exact own3
   have HB3:Hid (Below w2.heap.size w2 w3):=hide ((Below.refl _ _).grown gr3 (Nat.le_refl _) (fun _ h=>by cases h))
   have HOB:=hide hob
   have hlt3:w2.heap.size + 1≤w3.heap.size:=(hob.lt w2.heap.size rfl).2
   clear own3 gr3 hob
   go_wp2
   go_loopw [7] (fun i wr=>∃ k:Nat,k≤M∧i=.int .i64 k∧Hid (OB wr w2.heap.size w2.heap.size N (fun j=>seen b (ns.getD j []) k))∧Below w2.heap.size w2 wr∧w2.heap.size + 1≤wr.heap.size) (fun i _=>M - (intOf i).toNat)
   case atStart=>exact ⟨0,Nat.zero_le _,rfl,HOB,HB3.out,hlt3⟩
   case round =>
    obtain ⟨wo,hwo⟩:∃ W,W=wr:=⟨_,rfl⟩
    subst hwo
    clear HOB HB3 hlt3
    obtain ⟨k,hk,rfl,HO,hbel,hsz⟩:=hrel
    have HB:=hide hbel
    by_cases hlt:k + 16≤M
    ·obtain ⟨bb,off,rfl,hblt,hcell⟩:=HRD.out (by omega)
     have hbw:bb < w2.heap.size:=Nat.lt_of_lt_of_le hblt HB2.out.size
     have hcr:∀ i u,(bs b)[i]? = some u→wo.cell? ⟨bb,off + i,none⟩=some u:=fun i u hu=>(hbel.cell (p:=⟨bb,off + i,none⟩) hbw).trans ((HB2.out.cell (p:=⟨bb,off + i,none⟩) hblt).trans (hcell i u hu))
     have hbwr:bb < wo.heap.size:=Nat.lt_of_lt_of_le hbw hbel.size
     have r2:Rd wo (.slice (some ⟨bb,off + k,none⟩) 4 (c0 - k)) (bs (((b.drop k).take 16).take 4)):=by
      rw [List.take_take]
      exact Rd.part hcr hbwr (by rw [HML.out]; omega) (by rw [HML.out]; exact hd1) (by unfold maxLen; exact hd2) rfl
     have hcv:=conv_rd (P:=Tryz.prog) Tryz.underlying39 Tryz.underlying5 Tryz.underlying9 r2
     have hkey:=keyOf_s (s:=((b.drop k).take 16).take 4) (by rw [List.length_take]; omega)
     have hpB:Byt ((b.drop k).take 16):=(hB.drop k).take 16
     have hsB:Byt (((b.drop k).take 16).take 4):=hpB.take 4
     have hown:=groups_below HOG.out hbel
     have hsh:=shuns_all HOG.out (by omega) hbel
     have hc2r:∀ i u,(bs b)[i]? = some u→w2.cell? ⟨bb,off + i,none⟩=some u:=fun i u hu=>(HB2.out.cell (p:=⟨bb,off + i,none⟩) hblt).trans (hcell i u hu)
     have r1w:Rd w2 (.slice (some ⟨bb,off + k,none⟩) 16 (c0 - k)) (bs ((b.drop k).take 16)):=Rd.part hc2r hbw (by rw [HML.out]; exact hlt) (by rw [HML.out]; exact hd1) (by unfold maxLen; exact hd2) rfl
     have HR1:=hide r1w
     have HPB:=hide hpB
     have HSB:=hide hsB
     have hpl:((b.drop k).take 16).length=16:=by rw [List.length_take,List.length_drop,HML.out]; omega
     have HPT:Hid (∀ n:List Int,n.length=16→atL b n k=decide ((b.drop k).take 16=n)):=hide (fun n hn=>by
      rw [atL,hn,HML.out]
      by_cases h:(b.drop k).take 16=n
      ·rw [decide_eq_true h,decide_eq_true ⟨hlt,h⟩]
      ·rw [decide_eq_false h,decide_eq_false (fun h2=>h h2.2)])
     have HEND:Hid (∀ j,j < N→inF b ns (plc ns (((b.drop k).take 16).take 4) N) k (plc ns (((b.drop k).take 16).take 4) N).length j=seen b (ns.getD j []) (k + 1)):=hide (fun j hj=>inF_end H16.out (by rw [HNL.out]; exact hj) HNL.out)
     generalize (b.drop k).take 16=pt at *
     generalize pt.take 4=s at *
     have k0:(k:Int) + 16≤(M:Int):=by omega
     have k1:(k:Int) + 16≤(c0:Int):=by omega
     have k2:IntKind.i64.wrap ((k:Int) + 16)=(k:Int) + 16:=IntWalk.i64_in _ (by omega)
     have k3:(0:Int)≤(k:Int):=by omega
     have k4:(k:Int).toNat=k:=by omega
     have k5:((k:Int) + 16).toNat=k + 16:=by omega
     have k6:k + 16 - k=16:=by omega
     have k7:(k:Int)≤(k:Int) + 16:=by omega
     have k8:¬ c0=k:=by omega
     have k9:4≤c0 - k:=by omega
     clear r1w r2 hpB hsB hcr hc2r hcell hpl
     go_wp2_with (at_lookup; refine wpList_lookup_groups_shuns _ rfl _ _ 240 rfl 9 242 3 .i64 strLaw Tryz.underlying240 (intsZero _) (m1 + 1) m1 N _ rfl hown (by unfold maxLen; omega) _ _ rfl hkey ?_; intro v zs hat hoi hzl hback hshv; have HZ:Hid (zs=plc ns s N):=hide (HGR.out.row HSB.out hoi hat); have HV:=hide (hshv _ hsh); obtain ⟨A5,c5,rfl,hA1,hA2⟩:=own_slice hoi.1; have HOI:=hide hoi.1; obtain ⟨Z,hZ⟩:∃ Z,zs.length=Z:=⟨_,rfl⟩; rw [hZ] at hA1 hzl HV ⊢; have HZL:=hide hZ; clear hback hshv hat hoi hZ)
     go_loopw [40] (fun i2 wr=>∃ r:Nat,r≤Z∧i2=.int .i64 r∧Hid (OB wr w2.heap.size w2.heap.size N (inF b ns zs k r))∧Below w2.heap.size w2 wr∧w2.heap.size + 1≤wr.heap.size) (fun i2 _=>Z - (intOf i2).toNat)
     case atStart=>exact ⟨0,Nat.zero_le _,rfl,hide (HO.out.eq (fun j _=>(inF_zero b ns zs k j).symm)),hbel,hsz⟩
     case round =>
      obtain ⟨r,hr,rfl,HI,hbx,hsx⟩:=hrel
      by_cases hrz:r < Z
      ·obtain ⟨g5,rfl,hg1,hg2⟩:=own_form HOI.out (by rw [HZL.out]; omega)
       have hg3:g5 < w2.heap.size:=by have:=HV.out g5 rfl; omega
       have hrl:r < zs.length:=by rw [HZL.out]; exact hrz
       have hmem:zs[r]∈plc ns s N:=by rw [← HZ.out]; exact List.getElem_mem hrl
       obtain ⟨p,hp,hpN,hps⟩:=plc_mem hmem
       have hzr:zs.getD r 0=(p:Int):=by rw [← hp]; simp [List.getD,List.getElem?_eq_getElem hrl]
       have q5:wr.cell? ⟨g5,r,none⟩=some (.int .i64 p):=by
        have h1:=HOI.out.cellAt r (by omega)
        rw [List.getElem?_map,List.getElem?_eq_getElem hrl,hp] at h1
        exact (hbx.cell (p:=⟨g5,r,none⟩) hg3).trans ((hbel.cell (p:=⟨g5,r,none⟩) hg3).symm.trans h1)
       have hpn:p < ns.length:=by rw [HNL.out]; exact hpN
       obtain ⟨b2,off2,x,rfl,hblt2,cx,rx⟩:=HNN.out.get hpn
       have hb2w:b2 < w2.heap.size:=Nat.lt_of_lt_of_le hblt2 HB2.out.size
       have q6:=(hbx.cell (p:=⟨b2,off2 + p,none⟩) hb2w).trans ((HB2.out.cell (p:=⟨b2,off2 + p,none⟩) hblt2).trans cx)
       have hmp:ns.getD p []∈ns:=by simp [List.getD,List.getElem?_eq_getElem hpn]
       have hcall:=bytesEq pt (ns.getD p []) HPB.out (HBN.out _ hmp) _ x wr (HR1.out.below hbx) ((rx.below HB2.out).below hbx)
       have heq:=HPT.out _ (H16.out _ hmp)
       rw [← heq] at hcall
       have hnx:=inF_next (b:=b) (ns:=ns) (k:=k) hrl hzr
       have hout:=HI.out.cell hpN
       have hfz:=HI.out.fz p
       have HBX:=hide hbx
       clear heq cx rx hmem hp hps hzr hpn hmp
       cases hat:atL b (ns.getD p []) k with
       | false =>
         rw [hat] at hcall hnx
         have HC:=hide hcall
         have HI2:Hid (OB wr w2.heap.size w2.heap.size N (inF b ns zs k (r + 1))):=hide (HI.out.eq (fun j _=>by rw [hnx j]; simp))
         clear hcall hnx hat hout hfz hbx hbel
         go_wp2_with fail
         refine HC.out.mono ?_
         rintro e w5 ⟨rfl,hw5⟩
         rw [hw5]
         clear hw5
         go_wp2_with fail
         go_roundw
         case rel=>exact ⟨r + 1,by omega,by go_num,HI2,HBX.out,hsx⟩
         case measure=>simp [intOf]; omega
       | true =>
         rw [hat] at hcall hnx
         have HC:=hide hcall
         have HI2:Hid (OB (wr.setCell ⟨w2.heap.size,p,none⟩ (.bool true)) w2.heap.size w2.heap.size N (inF b ns zs k (r + 1))):=hide ((HI.out.set p).eq (fun j _=>by rw [hnx j]; simp))
         have HB3:Hid (Below w2.heap.size w2 (wr.setCell ⟨w2.heap.size,p,none⟩ (.bool true))):=hide (HBX.out.setCell (Nat.le_refl _) _)
         have HZ3:Hid ((wr.setCell ⟨w2.heap.size,p,none⟩ (.bool true)).heap.size=wr.heap.size):=hide (by simp)
         clear hcall hnx hat hbx hbel
         go_wp2_with fail
         refine HC.out.mono ?_
         rintro e w5 ⟨rfl,hw5⟩
         rw [hw5]
         clear hw5
         go_wp2_with fail
         go_roundw
         case rel=>exact ⟨r + 1,by omega,by go_num,HI2,HB3.out,by rw [HZ3.out]; exact hsx⟩
         case measure=>simp [intOf]; omega
      ·obtain rfl:r=Z:=by omega
       have HF:Hid (OB wr w2.heap.size w2.heap.size N (fun j=>seen b (ns.getD j []) (k + 1))):=hide (HI.out.eq (fun j hj=>by rw [← HEND.out j hj,← HZ.out,HZL.out]))
       have HBX:=hide hbx
       clear hbx hbel
       go_wp2
       go_roundw
       case rel=>exact ⟨k + 1,by omega,by go_num,HF,HBX.out,hsx⟩
       case measure=>simp [intOf]; omega
    ·have HOC:Hid (OB wo w2.heap.size w2.heap.size N (fun j=>contL b (ns.getD j []))):=hide (HO.out.eq (fun j hj=>by
      have hjn:j < ns.length:=by rw [HNL.out]; exact hj
      have hm:ns.getD j []∈ns:=by simp [List.getD,List.getElem?_eq_getElem hjn]
      exact seen_end (by rw [HML.out,H16.out _ hm]; omega)))
     have HWO:=hide (HB2.out.trans (hbel.mono HB2.out.size))
     have hwo1:w.heap.size≤wo.heap.size:=HWO.out.size
     clear hbel HO HOG
     go_wp2
     go_loopw [11,56] (fun u i wr=>∃ j:Nat,j≤N∧i=.int .i64 j∧Hid (OwnS wo.heap.size wr u (scanL b (ns.take j)))∧Below wo.heap.size wo wr) (fun _ i _=>N - (intOf i).toNat)
     case atStart=>exact ⟨0,Nat.zero_le _,rfl,hide (OwnS.nil _ _),Below.refl _ _⟩
     case round =>
      obtain ⟨j,hj,rfl,HO3,hbel⟩:=hrel
      have HB4:=hide hbel
      by_cases hlt:j < N
      ·have hjn:j < ns.length:=by rw [HNL.out]; exact hlt
       obtain ⟨b2,off,x,rfl,hblt,cx,rx⟩:=HNN.out.get hjn
       have q1:=(hbel.cell (p:=⟨b2,off + j,none⟩) (Nat.lt_of_lt_of_le hblt HWO.out.size)).trans ((HWO.out.cell (p:=⟨b2,off + j,none⟩) hblt).trans cx)
       have rr1:=(rx.below HWO.out).below hbel
       have hmj:ns.getD j []∈ns:=by simp [List.getD,List.getElem?_eq_getElem hjn]
       have q2:=(hbel.cell (p:=⟨w2.heap.size,j,none⟩) hsz).trans (HOC.out.cell hlt)
       have hlj:(ns.getD j []).length≤16:=by rw [H16.out _ hmj]; omega
       have hnx:=scanL_next (b:=b) hjn
       have hlen:=scanL_le b (ns.take j)
       rw [List.length_take] at hlen
       obtain ⟨us,hU⟩:=HO3.out
       have hul:us.length≤j:=by rw [hU.len]; omega
       generalize ns.getD j []=n at *
       have hlw:wo.heap.size≤wr.heap.size:=hbel.size
       have k1:(j:Int) < (N:Int):=by omega
       have hcl:=clone n x wr rr1 (by omega)
       have HC:=hide hcl
       clear hcl cx rx rr1 hlen hmj
       cases hcn:contL b n with
       | false =>
         rw [hcn] at q2 hnx
         have HS:Hid (OwnS wo.heap.size wr u11 (scanL b (ns.take (j + 1)))):=hide (by rw [hnx]; exact ⟨us,hU⟩)
         clear hnx hcn hU hbel HO3
         go_wp2_with fail
         go_roundw
         case rel=>exact ⟨j + 1,by omega,by go_num,HS,HB4.out⟩
         case measure=>simp [intOf]; omega
       | true =>
         rw [hcn] at q2 hnx
         have HU:=hide hU
         have HNX:=hide hnx
         clear hnx hcn hU hbel HO3
         go_wp2_with fail
         refine HC.out.mono ?_
         rintro e w5 ⟨u2,rfl,o2,bb2⟩
         have row2:=hide (own_step HU.out.row bb2)
         have hl2:wo.heap.size≤w5.heap.size:=Nat.le_trans hlw bb2.size
         obtain ⟨A2,c2,hu2,-,-⟩:=own_slice o2
         subst hu2
         have HBB2:=hide bb2
         have HO2:=hide o2
         clear bb2 o2 q1 q2
         go_wp2_with (at_builtin; refine wpList_app _ rfl (.tmp 65) (.tmp 68) _ rfl wo.heap.size 39 i0 _ 24 Tryz.underlying23 hi0 hz0 hz1 hz2 rfl _ _ _ rfl (row2.out.alloc _) _ _ rfl (rd_oneV _ _ _) slice_one (by simp [maxLen]; omega) (by simp; omega) (by simp; omega) ?_; intro v3 w6 own3 gr3)
         have hS3:OwnS wo.heap.size w6 v3 (scanL b (ns.take (j + 1))):=by rw [HNX.out]; exact ⟨_,HU.out.snoc HBB2.out HO2.out hlw _ own3 gr3⟩
         have hb3:Below wo.heap.size wo w6:=Below.row ((HB4.out.trans (HBB2.out.mono HB4.out.size)).alloc hl2 _) (by simp; omega) (row2.out.alloc _) gr3
         have HS:=hide hS3
         have HB5:=hide hb3
         clear hS3 hb3 own3 gr3
         go_roundw
         case rel=>exact ⟨j + 1,by omega,by go_num,HS,HB5.out⟩
         case measure=>simp [intOf]; omega
      ·obtain rfl:j=N:=by omega
       have e2:ns.take j=ns:=List.take_of_length_le (by rw [HNL.out]; omega)
       rw [e2] at HO3
       have HF:=hide (HO3.out.base hwo1)
       have HB5:=hide (HWO.out.trans (hbel.mono hwo1))
       clear hbel e2
       go_wp2
       go_ret
       rw [HE.out]
       exact ⟨_,rfl,HF.out,HB5.out⟩
end Go.Proofs.YtgaadpkefncnmaaGreatDoor
/-
  The encoding of a tree, in plain numbers.
-/
namespace Go.Proofs.YtgaadpkefncnmaaGreatDoor
open Go.RowKit
set_option linter.unusedVariables false
/-- A text with its length ahead. -/
def txt (t:List Int):List Int:=vint t.length++t
theorem putText_txt {l t:List Int} (h:t.length≤400):putText l t=l++txt t:=by
 rw [putText,if_neg (by omega),putNum,if_neg (by omega),Int.toNat_natCast,List.append_assoc]
 rfl
theorem txt_len {t:List Int} (h:t.length≤2147483647):(txt t).length≤t.length + 5:=by
 have:=vint_len t.length h
 rw [txt,List.length_append]
 omega
theorem txt_byt {t:List Int} (h:Byt t):Byt (txt t):=(vint_byt _).app h
mutual
def T.enc:T→List Int
 | .node k d ns ks=>k :: (if k=2 then (ks.length:Int) :: T.encs ks ns else txt d)
def T.encs:List T→List (List Int)→List Int
 | [],_=>[]
 | t :: ts,ns=>txt (ns.headD [])++t.enc++T.encs ts ns.tail
end
theorem T.encs_next {ks:List T} {j:Nat} (h:j < ks.length) (ns:List (List Int)):T.encs (ks.take (j + 1)) ns=T.encs (ks.take j) ns++txt (ns.getD j [])++(ks[j]).enc:=by
 induction ks generalizing j ns with
 | nil=>simp at h
 | cons t r ih =>
   cases j with
   | zero=>cases ns <;> simp [T.encs]
   | succ j =>
     have h2:=ih (j:=j) (by simpa using h) ns.tail
     have h3:ns.tail.getD j []=ns.getD (j + 1) []:=by cases ns <;> simp [List.getD]
     rw [List.take_succ_cons,T.encs,h2,h3,List.take_succ_cons,T.encs]
     simp only [List.append_assoc,List.getElem_cons_succ]
theorem T.encs_take (ks:List T) (j:Nat) (ns:List (List Int)):(T.encs (ks.take j) ns).length≤(T.encs ks ns).length:=by
 induction ks generalizing j ns with
 | nil=>simp [T.encs]
 | cons t r ih =>
   cases j with
   | zero=>simp [T.encs]
   | succ j =>
     have:=ih j ns.tail
     simp only [List.take_succ_cons,T.encs,List.length_append]
     omega
theorem sumLen_head (ns:List (List Int)):(ns.headD []).length + sumLen ns.tail=sumLen ns:=by
 cases ns <;> simp [sumLen]
theorem T.encs_room (ks:List T) (h:∀ t∈ks,t.bulk≤1048576→t.enc.length + 5≤t.bulk + 11 * t.size) (ns:List (List Int)) (hn:sumLen ns≤1048576) (hk:T.bulks ks≤1048576):(T.encs ks ns).length≤sumLen ns + T.bulks ks + 11 * T.sizes ks:=by
 induction ks generalizing ns with
 | nil=>simp [T.encs]
 | cons t r ih =>
   have hh:=sumLen_head ns
   rw [T.bulks] at hk
   have h1:=h t (List.mem_cons_self ..) (by omega)
   have h2:=ih (fun t ht=>h t (List.mem_cons_of_mem _ ht)) ns.tail (by omega) (by omega)
   have h3:=txt_len (t:=ns.headD []) (by omega)
   rw [T.encs,T.bulks,T.sizes,List.length_append,List.length_append]
   omega
theorem T.enc_room:∀ t:T,t.bulk≤1048576→t.enc.length + 5≤t.bulk + 11 * t.size:=by
 intro t
 induction t using T.ind with
 | h k d ns ks ih =>
   intro hb
   rw [T.bulk] at hb
   have h1:=T.encs_room ks ih ns (by omega) (by omega)
   have h2:=txt_len (t:=d) (by omega)
   rw [T.enc,T.bulk,T.size,List.length_cons]
   split
   ·rw [List.length_cons]; omega
   ·omega
/-- What TreeBytes answers. -/
def encOf (t:T):List Int:=if treeOk t then t.enc else []
theorem encOf_room (t:T) (h:t.bulk≤1048576):(encOf t).length≤1049100:=by
 unfold encOf
 split
 ·rename_i hv
  rw [treeOk,Bool.and_eq_true,decide_eq_true_eq] at hv
  have:=t.enc_room h
  omega
 ·simp
theorem entry_len {l:List Int} (h:entryOk l=true):l.length≤8:=by
 rw [entryOk,Bool.and_eq_true,decide_eq_true_eq] at h
 exact h.1.2.1
theorem nodeOk_dir {d:List Int} {ns:List (List Int)} {ks:List T} (h:(T.node 2 d ns ks).nodeOk=true):d.length=0∧ks.length≤6∧ns.length=ks.length∧∀ m,m < ns.length→(ns.getD m []).length≤8:=by
 rw [T.nodeOk,if_pos rfl,Bool.and_eq_true,decide_eq_true_eq] at h
 refine ⟨h.1.1,h.1.2.1,h.1.2.2,fun m hm=>?_⟩
 have:=asc_at.1 h.2 m hm
 rw [nameAt,Bool.and_eq_true] at this
 exact entry_len this.1
theorem nodeOk_file {k:Int} {d:List Int} {ns:List (List Int)} {ks:List T} (h2:k≠2) (h:(T.node k d ns ks).nodeOk=true):0≤k∧k≤3∧d.length≤400∧ns.length=0∧ks.length=0:=by
 rw [T.nodeOk,if_neg h2,decide_eq_true_eq] at h
 exact h
theorem okAt_parts {k:Int} {d:List Int} {ns:List (List Int)} {ks:List T} {deep:Nat} (h:T.okAt (.node k d ns ks) deep=true):(T.node k d ns ks).nodeOk=true∧∀ t∈ks,t.okAt (deep + 1)=true:=by
 rw [T.okAt,Bool.and_eq_true,Bool.and_eq_true] at h
 exact ⟨h.2.1,T.okAts_mem h.2.2⟩
end Go.Proofs.YtgaadpkefncnmaaGreatDoor
/-
  The model's TreeData, whole.
-/
namespace Go.Proofs.YtgaadpkefncnmaaGreatDoor
open Go.RowKit
set_option linter.unusedVariables false
theorem T.dats_bulk (ks:List T) (h:∀ t∈ks,t.dat.length≤t.bulk):(T.dats ks).length≤T.bulks ks:=by
 induction ks with
 | nil=>simp [T.dats]
 | cons t r ih =>
   rw [T.dats,T.bulks,List.length_append]
   have h1:=h t (List.mem_cons_self ..)
   have h2:=ih fun t ht=>h t (List.mem_cons_of_mem _ ht)
   omega
theorem T.dat_bulk:∀ t:T,t.dat.length≤t.bulk:=by
 intro t
 induction t using T.ind with
 | h k d ns ks ih =>
   have:=T.dats_bulk ks ih
   rw [T.dat,T.bulk,List.length_append]
   omega
/-- What TreeData answers. -/
def datOf (t:T):List Int:=if treeOk t then t.dat else []
end Go.Proofs.YtgaadpkefncnmaaGreatDoor
/-
  The program's compareIns.
-/
namespace Go.Proofs.YtgaadpkefncnmaaGreatDoor
open Go.RowKit
set_option linter.unusedVariables false
set_option linter.unusedSimpArgs false
theorem cmpB_zero:∀ (a b:List UInt8),Lib.compareBytes a b=0↔a=b
 | [],[]=>by simp [Lib.compareBytes]
 | [],_ :: _=>by simp [Lib.compareBytes]
 | _ :: _,[]=>by simp [Lib.compareBytes]
 | x :: a,y :: b=>by
   have ih:=cmpB_zero a b
   unfold Lib.compareBytes
   by_cases h1:x < y
   ·have:x≠y:=fun e=>by subst e; exact UInt8.lt_irrefl _ h1
    simp [h1,this]
   ·by_cases h2:y < x
    ·have:x≠y:=fun e=>by subst e; exact UInt8.lt_irrefl _ h2
     simp [h1,h2,this]
    ·have h3:x=y:=UInt8.le_antisymm (UInt8.not_lt.1 h2) (UInt8.not_lt.1 h1)
     subst h3
     rw [if_neg h1,if_neg h1,ih]
     simp
theorem cmpI_zero {a b:List Int} (ha:Byt a) (hb:Byt b):cmpI a b=0↔a=b:=by
 unfold cmpI
 rw [cmpB_zero]
 constructor
 ·intro h
  refine str_inj ha hb ?_
  rw [ByteArray.toList_eq,ByteArray.toList_eq]
  exact h
 ·rintro rfl; rfl
theorem inLess_eq (a b:DIn):inLess a b=if a.drv=b.drv then lessL a.out b.out else lessL a.drv b.drv:=by
 unfold inLess realCmp asReal
 simp only
 split
 ·split
  ·rename_i h; rw [h]; rfl
  ·rename_i h
   have h2:lessL a.out b.out=false:=by simpa using h
   rw [h2]
   split <;> rfl
 ·split
  ·rename_i h; rw [h]; rfl
  ·rename_i h
   have h2:lessL a.drv b.drv=false:=by simpa using h
   rw [h2]
   rfl
/-- What compareIns answers. -/
def inCmpI (a b:DIn):Int:=if cmpI a.drv b.drv=0 then cmpI a.out b.out else cmpI a.drv b.drv
theorem inCmpI_less {a b:DIn} (ha:oks a.cells) (hb:oks b.cells):decide (0≤inCmpI a b) = !inLess a b:=by
 obtain ⟨a0,a1⟩:=(DIn.oks_iff a).1 ha
 obtain ⟨b0,b1⟩:=(DIn.oks_iff b).1 hb
 rw [inLess_eq,inCmpI]
 by_cases h:a.drv=b.drv
 ·rw [if_pos h,if_pos ((cmpI_zero a0 b0).2 h)]
  exact cmpI_less a1 b1
 ·rw [if_neg h,if_neg (fun e=>h ((cmpI_zero a0 b0).1 e))]
  exact cmpI_less a0 b0
set_option maxHeartbeats 800000 in
theorem cmpOr2 (x y:Int) (g:Nat) (w:World) (h0:w.cell? ⟨g,0,none⟩=some (.int .i64 x)) (h1:w.cell? ⟨g,1,none⟩=some (.int .i64 y)) :
  Calls Tryz.prog 204 #[.slice (some ⟨g,0,none⟩) 2 2] w fun e w'=>e=.returned (.int .i64 (if x=0 then y else x))∧w=w':=by
 obtain ⟨Z,hZ⟩:∃ Z,(if x=0 then y else x)=Z:=⟨_,rfl⟩
 rw [hZ]
 have HZ:=hide hZ
 clear hZ
 go_enter Tryz.func204,Tryz.ntmps204
 go_wp2
 go_loopw [8] (fun i wr=>∃ k:Nat,k≤2∧i=.int .i64 k∧Hid ((1≤k→x=0)∧(2≤k→y=0))∧w=wr) (fun i _=>2 - (intOf i).toNat)
 case atStart=>exact ⟨0,by omega,rfl,hide ⟨fun h=>by omega,fun h=>by omega⟩,rfl⟩
 case round =>
  obtain ⟨k,hk,rfl,HX,rfl⟩:=hrel
  rcases (by omega:k=0∨k=1∨k=2) with rfl | rfl | rfl
  ·by_cases hx:x=0
   ·have hq:(x != 0)=false:=by simpa using hx
    have HXX:=hide hx
    clear hx
    go_wp2
    go_roundw
    case rel=>exact ⟨1,by omega,by go_num,hide ⟨fun _=>HXX.out,fun h=>by omega⟩,trivial⟩
    case measure=>simp [intOf]
   ·have hq:(x != 0)=true:=by simpa using hx
    have HXX:=hide hx
    clear hx
    go_wp2
    go_ret
    exact ⟨ret_i64 (by rw [← HZ.out,if_neg HXX.out]),rfl⟩
  ·by_cases hy:y=0
   ·have hq:(y != 0)=false:=by simpa using hy
    have HYY:=hide hy
    clear hy
    go_wp2
    go_roundw
    case rel=>exact ⟨2,by omega,by go_num,hide ⟨fun _=>HX.out.1 (by omega),fun _=>HYY.out⟩,trivial⟩
    case measure=>simp [intOf]
   ·have hq:(y != 0)=true:=by simpa using hy
    clear hy
    go_wp2
    go_ret
    exact ⟨ret_i64 (by rw [← HZ.out,if_pos (HX.out.1 (by omega))]),rfl⟩
  ·have HR:=hide (show Z=0 by rw [← HZ.out,if_pos (HX.out.1 (by omega))]; exact HX.out.2 (by omega))
   go_wp2
   go_ret
   exact ⟨ret_i64 HR.out.symm,rfl⟩
set_option maxRecDepth 20000 in
set_option maxHeartbeats 1600000 in
theorem implInCmp (a b:DIn) (ha:oks a.cells) (hb:oks b.cells) (ua ub:List Value) (w:World) (hsa:Ins w a.cells ua) (hsb:Ins w b.cells ub) :
  Calls Tryz.prog 169 #[.agg ua.toArray,.agg ub.toArray] w fun e w'=>e=.returned (.int .i64 (inCmpI a b))∧Below w.heap.size w w':=by
 obtain ⟨Aa0,ca0,Aa1,ca1,rfl,ha0,ha1⟩:=DIn.view hsa
 obtain ⟨Ab0,cb0,Ab1,cb1,rfl,hb0,hb1⟩:=DIn.view hsb
 obtain ⟨wa,hwa⟩:∃ wa,w.alloc (.cells #[.slice Aa0 a.drv.length ca0,.slice Aa1 a.out.length ca1] 193)=wa:=⟨_,rfl⟩
 have baa:Below w.heap.size w wa:=by rw [← hwa]; exact (Below.refl _ _).alloc (Nat.le_refl _) _
 have bxa:Box wa w.heap.size 193 [.slice Aa0 a.drv.length ca0,.slice Aa1 a.out.length ca1]:=by rw [← hwa]; exact Box.new w _ _
 obtain ⟨wb,hwb⟩:∃ wb,wa.alloc (.cells #[.slice Ab0 b.drv.length cb0,.slice Ab1 b.out.length cb1] 193)=wb:=⟨_,rfl⟩
 have bab:Below wa.heap.size wa wb:=by rw [← hwb]; exact (Below.refl _ _).alloc (Nat.le_refl _) _
 have bxb:Box wb wa.heap.size 193 [.slice Ab0 b.drv.length cb0,.slice Ab1 b.out.length cb1]:=by rw [← hwb]; exact Box.new wa _ _
 have bel:Below w.heap.size w wb:=baa.trans (bab.mono baa.size)
 have bxa2:=bxa.step bab
 have x0:=bxa2.cell (j:=0) rfl
 have x1:=bxa2.cell (j:=1) rfl
 have z0:=bxb.cell (j:=0) rfl
 have z1:=bxb.cell (j:=1) rfl
 have HC1:=hide (fun W (hW:Below w.heap.size w W)=>compare a.drv b.drv _ _ W (ha0.step hW).rd (hb0.step hW).rd)
 have HC2:=hide (fun W (hW:Below w.heap.size w W)=>compare a.out b.out _ _ W (ha1.step hW).rd (hb1.step hW).rd)
 have HBE:=hide (bel.drew)
 have hdf:inCmpI a b=(if cmpI a.drv b.drv=0 then cmpI a.out b.out else cmpI a.drv b.drv):=rfl
 have HDF:=hide hdf
 have HS:Hid (∀ W,Below wb.heap.size wb W→W.cell? ⟨w.heap.size,0,none⟩=some (.slice Aa0 a.drv.length ca0)∧W.cell? ⟨w.heap.size,1,none⟩=some (.slice Aa1 a.out.length ca1)∧W.cell? ⟨wa.heap.size,0,none⟩=some (.slice Ab0 b.drv.length cb0)∧W.cell? ⟨wa.heap.size,1,none⟩=some (.slice Ab1 b.out.length cb1)) :=
  hide (fun W hb=>⟨(bxa2.step hb).cell (j:=0) rfl,(bxa2.step hb).cell (j:=1) rfl,(bxb.step hb).cell (j:=0) rfl,(bxb.step hb).cell (j:=1) rfl⟩)
 obtain ⟨X,hX⟩:∃ X,cmpI a.drv b.drv=X:=⟨_,rfl⟩
 obtain ⟨Y,hY⟩:∃ X,cmpI a.out b.out=X:=⟨_,rfl⟩
 rw [hX,hY] at HDF
 rw [hX] at HC1
 rw [hY] at HC2
 obtain ⟨wk,hwk⟩:∃ W,wb.alloc (.cells #[.int .i64 X,.int .i64 Y] 3)=W:=⟨_,rfl⟩
 have hbk:=Box.new wb [.int .i64 X,.int .i64 Y] 3
 rw [hwk] at hbk
 have HBK:=hide (show Below wb.heap.size wb wk.drew by rw [← hwk]; exact ((Below.refl _ _).alloc (Nat.le_refl _) _).drew)
 have hor:=cmpOr2 X Y wb.heap.size wk.drew (hbk.cell (j:=0) rfl) (hbk.cell (j:=1) rfl)
 obtain ⟨Z,hZ⟩:∃ Z,(if X=0 then Y else X)=Z:=⟨_,rfl⟩
 rw [hZ] at hor HDF
 have HOR:=hide hor
 clear hor hZ
 have HBR:=hide (show Below wb.heap.size wb wb.drew from (Below.refl _ _).drew)
 have HBF:=hide (bel.trans (HBK.out.mono bel.size))
 clear hX hY hdf bxa bxb bxa2 ha0 ha1 hb0 hb1 baa bab bel hsa hsb hbk
 go_enter Tryz.func169,Tryz.ntmps169
 go_wp2_with fail
 go_region_held3 (fun W=>W.cell? ⟨w.heap.size,0,none⟩=some (.slice Aa0 a.drv.length ca0)∧W.cell? ⟨w.heap.size,1,none⟩=some (.slice Aa1 a.out.length ca1)∧W.cell? ⟨wa.heap.size,0,none⟩=some (.slice Ab0 b.drv.length cb0)∧W.cell? ⟨wa.heap.size,1,none⟩=some (.slice Ab1 b.out.length cb1))
  (first
   | exact HS.out _ HBK.out
   | exact HS.out _ HBR.out
   | go_keep)
  (first
   | (go_simp; go_at_call 131; (with_reducible refine (HC1.out _ HBE.out).mono ?_); rintro e w8 ⟨rfl,rfl⟩)
   | (go_simp; go_at_call 131; (with_reducible refine (HC2.out _ HBE.out).mono ?_); rintro e w8 ⟨rfl,rfl⟩)
   | (go_simp; go_at_call 204; refine HOR.out.mono ?_; rintro e w8 ⟨rfl,rfl⟩))
 all_goals
  go_wp2
  go_ret
  exact ⟨ret_i64 HDF.out.symm,HBF.out⟩
end Go.Proofs.YtgaadpkefncnmaaGreatDoor
/-
  The program's nodes: the function value; what it does with its rounds. TreeOk's own loop.
-/
namespace Go.Proofs.YtgaadpkefncnmaaGreatDoor
open Go.RowKit Go.Shelf
set_option linter.unusedVariables false
attribute [local go_sem] Oper.semAt_some
set_option maxRecDepth 20000 in
set_option maxHeartbeats 800000 in
theorem nodes (t:T) (q:Q) (w:World) (hq:TIn w t q) :
  Calls Tryz.prog 196 #[q.val] w fun e w'=>e=.returned (.func (.func 216) #[] #[.pointer (some ⟨w.heap.size,0,none⟩)])∧w' = w.alloc (.cells #[.int .i64 q.k,q.d,q.n,q.c] 47):=by
 obtain ⟨A,n,c,A',n',c',A'',n'',c'',e,e',e''⟩:=hq.form
 obtain ⟨k,d,ns,ks⟩:=q
 dsimp only at e e' e''
 subst e e' e''
 dsimp only [Q.val]
 clear hq
 go_enter Tryz.func196,Tryz.ntmps196
 go_wp2
 go_ret
 exact ⟨rfl,rfl⟩
set_option maxRecDepth 20000 in
set_option maxHeartbeats 800000 in
theorem nodes1 (w0:World) (x:Nd w0) (hs:x.s=0) (hn:x.nm = []) (hv:x.v=.slice none 0 0) (l:Nat) (J Jx:List (Nd w0)→World→Prop)
  (hJ:∀ pre W W',J pre W→Below W.heap.size W W'→J pre W') (hG:∀ pre W,J pre W→∀ y∈pre,y.good)
  (hY:∀ pre (y:Nd w0) W,J pre W→pre.map Nd.key++[y.key] <+: x.t.pre 0 []→Below w0.heap.size w0 W→YieldAt Fence.wide 0 Tryz.prog l #[y.val] W fun e W' =>
   (e=.returned (.bool true)∧J (pre++[y]) W'∧Holds w0.heap.size W W')∨(e=.returned (.bool false)∧Jx (pre++[y]) W'))
  (W:World) (g:Nat) (hg:C4 W g 47 (.int .i64 x.q.k) x.q.d x.q.n x.q.c) (hw:Below w0.heap.size w0 W) (h0:J [] W) :
  Calls Tryz.prog 216 #[.func (.yield l) #[] #[],.pointer (some ⟨g,0,none⟩)] W fun e W'=>(∃ v,e=.returned v) ∧
   ((∃ xs:List (Nd w0),xs.map Nd.key=x.t.pre 0 []∧J xs W')∨(∃ xs:List (Nd w0),xs.map Nd.key <+: x.t.pre 0 []∧Jx xs W')):=by
 have hcall:=produce x.t w0 x l J Jx (x.t.pre 0 []) hJ hG hY rfl [] W h0 hw (by rw [hs,hn]; exact List.prefix_refl _)
 rw [hs,hn,Nd.val,hs,hv] at hcall
 obtain ⟨A,n,c,A',n',c',A'',n'',c'',e,e',e''⟩:=x.hq.form
 rw [e,e',e''] at hcall hg
 generalize x.q.k=k at *
 have HC:=hide hcall
 have x0:=hg.c0
 have x1:=hg.c1
 have x2:=hg.c2
 have x3:=hg.c3
 clear hcall hJ hG hY hg hw h0 hs hn hv e e' e''
 go_enter Tryz.func216,Tryz.ntmps216
 go_wp2_with fail
 refine HC.out.mono ?_
 rintro e W2 (⟨rfl,⟨xs,h1,h2⟩,_⟩ | ⟨rfl,xs,h1,h2⟩)
 ·have H1:=hide h1
  have H2:=hide h2
  clear h1 h2
  go_wp2
  go_end0
  exact ⟨⟨_,rfl⟩,.inl ⟨xs,H1.out,H2.out⟩⟩
 ·have H1:=hide h1
  have H2:=hide h2
  clear h1 h2
  go_wp2
  go_end0
  exact ⟨⟨_,rfl⟩,.inr ⟨xs,H1.out,H2.out⟩⟩
end Go.Proofs.YtgaadpkefncnmaaGreatDoor
/-
  Valid trees are small.
-/
namespace Go.Proofs.YtgaadpkefncnmaaGreatDoor
open Go.RowKit
set_option linter.unusedVariables false
theorem sumLen_le8:∀ (ns:List (List Int)),(∀ m,m < ns.length→(ns.getD m []).length≤8)→sumLen ns≤8 * ns.length
 | [],_=>by simp [sumLen]
 | n :: r,h=>by
   have h0:=h 0 (by simp)
   have:=sumLen_le8 r (fun m hm=>by have:=h (m + 1) (by simpa using hm); simpa using this)
   simp [sumLen] at h0 ⊢
   omega
theorem T.bulks_ok (ks:List T) (h:∀ t∈ks,t.bulk≤400 * t.size):T.bulks ks≤400 * T.sizes ks:=by
 induction ks with
 | nil=>simp [T.bulks]
 | cons t r ih =>
   have h1:=h t (List.mem_cons_self ..)
   have h2:=ih fun t ht=>h t (List.mem_cons_of_mem _ ht)
   rw [T.bulks,T.sizes]
   omega
theorem T.bulk_ok:∀ (t:T) {d:Nat},t.okAt d=true→t.bulk≤400 * t.size:=by
 intro t
 induction t using T.ind with
 | h k d ns ks ih =>
   intro deep h
   obtain ⟨h1,h2⟩:=okAt_parts h
   have h3:=T.bulks_ok ks fun t ht=>ih t ht (h2 t ht)
   rw [T.bulk,T.size]
   by_cases hk:k=2
   ·subst hk
    obtain ⟨a,b,c,e⟩:=nodeOk_dir h1
    have:=sumLen_le8 ns e
    omega
   ·obtain ⟨a,b,c,e,f⟩:=nodeOk_file hk h1
    have:ns = []:=List.eq_nil_of_length_eq_zero e
    subst this
    simp [sumLen]
    omega
theorem treeOk_at {t:T} (h:treeOk t=true):t.okAt 1=true∧t.size≤40:=by
 rw [treeOk,Bool.and_eq_true,decide_eq_true_eq] at h
 exact h
theorem treeOk_bulk {t:T} (h:treeOk t=true):t.bulk≤16000:=by
 obtain ⟨h1,h2⟩:=treeOk_at h
 have:=T.bulk_ok t h1
 omega
theorem treeOk_enc {t:T} (h:treeOk t=true):t.enc.length≤16440:=by
 have h1:=treeOk_bulk h
 have h2:=T.enc_room t (by omega)
 have h3:=(treeOk_at h).2
 omega
theorem treeOk_data {t:T} (h:treeOk t=true):t.data.length≤16000:=by
 have h1:=treeOk_bulk h
 obtain ⟨k,d,ns,ks⟩:=t
 rw [T.bulk] at h1
 show d.length≤_
 omega
theorem T.dats_bulk2 (ks:List T) (h:∀ t∈ks,t.dat.length≤t.bulk):(T.dats ks).length≤T.bulks ks:=by
 induction ks with
 | nil=>simp [T.dats]
 | cons t r ih =>
   have h1:=h t (List.mem_cons_self ..)
   have h2:=ih fun t ht=>h t (List.mem_cons_of_mem _ ht)
   rw [T.dats,T.bulks,List.length_append]
   omega
theorem T.dat_bulk2:∀ t:T,t.dat.length≤t.bulk:=by
 intro t
 induction t using T.ind with
 | h k d ns ks ih =>
   have:=T.dats_bulk2 ks ih
   rw [T.dat,T.bulk,List.length_append]
   omega
theorem treeOk_dat {t:T} (h:treeOk t=true):t.dat.length≤16000:=Nat.le_trans (T.dat_bulk2 t) (treeOk_bulk h)
theorem T.tin_of {w:World} {t:T} {k:Int} {v1 v2 v3:Value} (h:Ins w t.cells [.int .i64 k,v1,v2,v3]):TIn w t ⟨k,v1,v2,v3⟩:=by
 obtain ⟨q,e,hq⟩:=h.tin
 obtain ⟨k',d',n',c'⟩:=q
 simp only [Q.cells,List.cons.injEq,Value.int.injEq,true_and,and_true] at e
 obtain ⟨rfl,rfl,rfl,rfl⟩:=e
 exact hq
end Go.Proofs.YtgaadpkefncnmaaGreatDoor
/-
  The program's TreeOk.
-/
namespace Go.Proofs.YtgaadpkefncnmaaGreatDoor
open Go.RowKit Go.Shelf
set_option linter.unusedVariables false
attribute [local go_sem] Oper.semAt_some
theorem T.pres_len (ks:List T) (h:∀ t∈ks,∀ s nm,(t.pre s nm).length=t.size) (ns:List (List Int)) (s:Nat):(T.pres ks ns s).length=T.sizes ks:=by
 induction ks generalizing ns with
 | nil=>rfl
 | cons t r ih=>rw [T.pres,T.sizes,List.length_append,h t (List.mem_cons_self ..),ih (fun t ht=>h t (List.mem_cons_of_mem _ ht))]
theorem T.pre_len:∀ (t:T) (s:Nat) (nm:List Int),(t.pre s nm).length=t.size:=by
 intro t
 induction t using T.ind with
 | h k d ns ks ih =>
   intro s nm
   rw [T.pre,T.size,List.length_cons,T.pres_len ks ih]
   omega
theorem T.pres_ok (ks:List T) (h:∀ t∈ks,∀ s nm,t.okAt (s + 1)=true↔∀ k∈t.pre s nm,k.1 < 4∧k.2.2.nodeOk=true) (ns:List (List Int)) (s:Nat) :
  T.okAts ks (s + 1)=true↔∀ k∈T.pres ks ns s,k.1 < 4∧k.2.2.nodeOk=true:=by
 induction ks generalizing ns with
 | nil=>simp [T.okAts,T.pres]
 | cons t r ih =>
   rw [T.okAts,T.pres,Bool.and_eq_true,h t (List.mem_cons_self ..) s (ns.headD []),ih (fun t ht=>h t (List.mem_cons_of_mem _ ht)) ns.tail]
   simp only [List.mem_append]
   exact ⟨fun ⟨h1,h2⟩ k hk=>hk.elim (h1 k) (h2 k),fun h=>⟨fun k hk=>h k (.inl hk),fun k hk=>h k (.inr hk)⟩⟩
theorem T.pre_ok:∀ (t:T) (s:Nat) (nm:List Int),t.okAt (s + 1)=true↔∀ k∈t.pre s nm,k.1 < 4∧k.2.2.nodeOk=true:=by
 intro t
 induction t using T.ind with
 | h k d ns ks ih =>
   intro s nm
   rw [T.pre,T.okAt,Bool.and_eq_true,Bool.and_eq_true,T.pres_ok ks ih ns (s + 1)]
   simp only [List.mem_cons,forall_eq_or_imp,decide_eq_true_eq]
   exact ⟨fun ⟨h1,h2,h3⟩=>⟨⟨by omega,h2⟩,h3⟩,fun ⟨⟨h1,h2⟩,h3⟩=>⟨by omega,h2,h3⟩⟩
theorem treeOk_yes {w0:World} {t:T} {xs:List (Nd w0)} (h:xs.map Nd.key=t.pre 0 []) (hg:∀ y∈xs,y.good) (hl:xs.length≤40):treeOk t=true:=by
 have e:t.size=xs.length:=by rw [← T.pre_len t 0 [],← h,List.length_map]
 have o:t.okAt (0 + 1)=true:=(T.pre_ok t 0 []).2 fun k hk=>by
  rw [← h] at hk
  obtain ⟨y,hy,rfl⟩:=List.mem_map.1 hk
  exact hg y hy
 rw [treeOk,show t.okAt 1=true from o,decide_eq_true (by omega)]
 rfl
theorem treeOk_no {w0:World} {t:T} {xs:List (Nd w0)} (h:xs.map Nd.key <+: t.pre 0 []) (hb:(∃ y∈xs,¬ y.good)∨40 < xs.length):treeOk t=false:=by
 cases e:treeOk t with
 | false=>rfl
 | true =>
   exfalso
   rw [treeOk,Bool.and_eq_true,decide_eq_true_eq] at e
   rcases hb with ⟨y,hy,hn⟩ | hb
   ·exact hn ((T.pre_ok t 0 []).1 e.1 y.key (h.subset (List.mem_map.2 ⟨y,hy,rfl⟩)))
   ·have:=h.length_le
    rw [List.length_map,T.pre_len] at this
    omega
theorem Holds.box {n₀:Nat} {W:World} {B:Nat} {t:TypeId} {v:Value} (hb:Boxed W B t v) (h1:t≠219) (h2:t≠47) (hn:n₀≤B) (u:Value):Holds n₀ W (W.setCell ⟨B,0,none⟩ u):=by
 refine ⟨(Below.refl _ _).setCell (p:=⟨B,0,none⟩) hn u,fun k cs t' r hk ht=>?_⟩
 refine (Below.heap_setCell W ⟨B,0,none⟩ u k (fun e=>?_)).trans hk
 dsimp only at e
 subst e
 rw [show W.heap[k]? = _ from hb] at hk
 injection hk with hk
 injection hk with _ hk _
 rcases ht with ht | ht
 ·exact h1 (hk.trans ht)
 ·exact h2 (hk.trans ht)
theorem Holds.put {n₀:Nat} {W:World} {l:Nat} {r:Loop} (h:W.heap[l]? = some (.loop r)) (hn:n₀≤l) (o:Obj):Holds n₀ W (W.putObj l o):=by
 refine ⟨(Below.refl n₀ W).grown (grownBy_putObj' W l o) (by have:=(Array.getElem?_eq_some_iff.1 h).1; omega) (fun k e=>by cases e; omega),fun k cs t' r' hk ht=>?_⟩
 refine (World.putObj_heap_other (fun e=>?_)).trans hk
 subst e
 rw [h] at hk
 cases hk
/-- Between two rounds of TreeOk. -/
def TokI (w:World) (xs:List (Nd w)) (W:World):Prop:=Boxed W (w.heap.size + 1 + 1) 3 (.int .i64 xs.length)∧Boxed W (w.heap.size + 1) 4 (.bool false)∧(∀ y∈xs,y.good)∧xs.length≤40∧Below w.heap.size w W
def TokX (w:World) (xs:List (Nd w)) (W:World):Prop:=Boxed W (w.heap.size + 1) 4 (.bool false)∧((∃ y∈xs,¬ y.good)∨40 < xs.length)∧Below w.heap.size w W
theorem TokI.step {w:World} {xs:List (Nd w)} {W W' : World} (h:TokI w xs W) (hb:Below W.heap.size W W'):TokI w xs W' :=
 ⟨(hb.block _ h.1.lt).trans h.1,(hb.block _ h.2.1.lt).trans h.2.1,h.2.2.1,h.2.2.2.1,h.2.2.2.2.trans (hb.mono h.2.2.2.2.size)⟩
theorem TokX.step {w:World} {xs:List (Nd w)} {W W' : World} (h:TokX w xs W) (hb:Below W.heap.size W W'):TokX w xs W' :=
 ⟨(hb.block _ h.1.lt).trans h.1,h.2.1,h.2.2.trans (hb.mono h.2.2.size)⟩
theorem boxed_put {W:World} {B l:Nat} {t:TypeId} {v:Value} {r:Loop} (hb:Boxed W B t v) (h:W.heap[l]? = some (.loop r)) (o:Obj):Boxed (W.putObj l o) B t v :=
 (World.putObj_heap_other (fun e=>by
  subst e
  have hb2:W.heap[B]? = _:=hb
  rw [h] at hb2
  cases hb2)).trans hb
theorem C6.put {W:World} {B l:Nat} {a b c d e f:Value} {r:Loop} (hb:C6 W B a b c d e f) (h:W.heap[l]? = some (.loop r)) (o:Obj):C6 (W.putObj l o) B a b c d e f :=
 (World.putObj_heap_other (fun e'=>by
  subst e'
  have hb2:W.heap[B]? = _:=hb
  rw [h] at hb2
  cases hb2)).trans hb
theorem TokI.put {w:World} {xs:List (Nd w)} {W:World} {l:Nat} {r:Loop} (h:TokI w xs W) (hl:W.heap[l]? = some (.loop r)) (hn:w.heap.size≤l) (o:Obj):TokI w xs (W.putObj l o) :=
 ⟨boxed_put h.1 hl o,boxed_put h.2.1 hl o,h.2.2.1,h.2.2.2.1,h.2.2.2.2.trans (Holds.put hl hn o).below⟩
theorem TokX.put {w:World} {xs:List (Nd w)} {W:World} {l:Nat} {r:Loop} (h:TokX w xs W) (hl:W.heap[l]? = some (.loop r)) (hn:w.heap.size≤l) (o:Obj):TokX w xs (W.putObj l o) :=
 ⟨boxed_put h.1 hl o,h.2.1,h.2.2.trans (Holds.put hl hn o).below⟩
set_option maxRecDepth 20000 in
set_option maxHeartbeats 1600000 in
theorem implTreeOk (t:T) (hB:t.Byts) (q:Q) (w:World) (hq:TIn w t q) :
  Calls Tryz.prog 164 #[q.val] w fun e w'=>e=.returned (.bool (treeOk t))∧Below w.heap.size w w':=by
 refine (callsIn_wide (n:=6)).1 ?_
 obtain ⟨A,n,c,A',n',c',A'',n'',c'',e,e',e''⟩:=hq.form
 obtain ⟨x,hx⟩:∃ x:Nd w,x=⟨0,[],t,.slice none 0 0,q,⟨none,0,rfl,Nat.zero_le _,Nat.zero_le _,fun h=>absurd h (by simp [bs])⟩,(fun _ h=>by cases h),hq,hB⟩:=⟨_,rfl⟩
 have hnodes:=fun W (hb:Below w.heap.size w W)=>nodes t q W (hq.below hb)
 have hqv:q.val=.agg #[.int .i64 q.k,.slice A n c,.slice A' n' c',.slice A'' n'' c'']:=by rw [← e,← e',← e'']
 obtain ⟨w1,hw1,box,b1,z1⟩:=boxed w q 47
 rw [e,e',e''] at hw1 box
 rw [hqv] at hnodes ⊢
 have HN:=hide hnodes
 have y0:=box.c0
 have y1:=box.c1
 have y2:=box.c2
 have y3:=box.c3
 clear hnodes
 refine callsIn_of_wp_marks Tryz.func164 rfl trivial ?_ rfl
 simp only [Tryz.ntmps164,List.size_toArray,List.length_cons,List.length_nil,Nat.reduceAdd,Nat.reduceSub,Array.replicate_succ,Array.replicate_zero,List.push_toArray,List.append_toArray,List.nil_append,List.cons_append]
 gi_wp2
 refine ⟨trivial,?_⟩
 refine (callsIn_wide.2 (HN.out _ ((b1.alloc (by omega) _).alloc (by simp; omega) _))).mono ?_
 rintro e w3 ⟨rfl,rfl⟩
 have bC:=(Boxed.new (w1.alloc (.cells #[.bool false] 4)) 3 (.int .i64 0))
 have bR:=(Boxed.new w1 4 (.bool false)).alloc (.cells #[.int .i64 0] 3)
 have bT:=(box.step ((Below.refl w1.heap.size w1).alloc (Nat.le_refl _) (Obj.cells #[.bool false] 4))).step ((Below.refl _ _).alloc (Nat.le_refl _) (Obj.cells #[.int .i64 0] 3))
 rw [World.size_alloc] at bC
 obtain ⟨w2,hw2⟩:∃ w2,(w1.alloc (.cells #[.bool false] 4)).alloc (.cells #[.int .i64 0] 3)=w2:=⟨_,rfl⟩
 have z2:w2.heap.size=w.heap.size + 3:=by rw [← hw2]; simp; omega
 have b2:Below w.heap.size w w2:=by rw [← hw2]; exact (b1.alloc (by omega) _).alloc (by simp; omega) _
 rw [hw2] at bC bR bT ⊢
 clear hw2 y0 y1 y2 y3 hw1 box
 gi_wp2
 obtain ⟨W0,hW0,box0,b0,z0⟩:=boxed w2 ⟨q.k,.slice A n c,.slice A' n' c',.slice A'' n'' c''⟩ 47
 rw [hW0]
 rw [z1] at bC bR
 have bC0:Boxed W0 (w.heap.size + 1 + 1) 3 (.int .i64 0):=(b0.block _ bC.lt).trans bC
 have bR0:Boxed W0 (w.heap.size + 1) 4 (.bool false):=(b0.block _ bR.lt).trans bR
 have hw0:Below w.heap.size w W0:=b2.trans (b0.mono b2.size)
 have hbox:C4 W0 (w.heap.size + 3) 47 (.int .i64 x.q.k) x.q.d x.q.n x.q.c:=by
  rw [hx]
  dsimp only
  rw [e,e',e'',← z2]
  exact box0
 have zz:W0.heap.size=w.heap.size + 4:=by omega
 have hI0:TokI w [] W0:=⟨bC0,bR0,(fun y hy=>by cases hy),Nat.zero_le _,hw0⟩
 clear hW0 bC bR bT box0 b0 z0 b2 z2 b1 z1 bC0 bR0
 refine rangeF (F:=Fence.wide) (T:=fun W=>∃ xs:List (Nd w),xs.map Nd.key=t.pre 0 []∧TokI w xs W) (X:=fun c W=>c=.ret∧∃ xs:List (Nd w),xs.map Nd.key <+: t.pre 0 []∧TokX w xs W)
  rfl (by omega) (gf:=216) (lb:=#[.pointer (some ⟨w.heap.size + 3,0,none⟩)]) rfl trivial (enters_of Tryz.func216 (by kernel_rfl) rfl) ?hit ?done ?stop
 case hit =>
  intro r W1 hfn htm hps has hbd hrec hb1 hz1
  have hxt:x.t=t:=by rw [hx]
  refine callsIn_wide.2 ((nodes1 w x (by rw [hx]) (by rw [hx]) (by rw [hx]) (W0.heap.size + 1) (fun pre W=>TokI w pre W∧RecAt W W0.heap.size r .ready none) (fun xs W=>TokX w xs W∧RecAt W W0.heap.size r .done (some .ret))
   (fun pre W W' h hb=>⟨h.1.step hb,h.2.keep (KeepsFrom.below hb)⟩) (fun pre W h=>h.1.2.2.1) ?round W1 (w.heap.size + 3) (hbox.step hb1) (hw0.trans (hb1.mono hw0.size)) ⟨hI0.step hb1,hrec⟩).mono ?after)
  case after =>
   rintro e W2 ⟨hv,⟨xs,h1,h2,h3⟩ | ⟨xs,h1,h2,h3⟩⟩
   ·exact ⟨hv,.inl ⟨⟨xs,by rw [h1,hxt],h2⟩,h3⟩⟩
   ·exact ⟨hv,.inr ⟨.ret,⟨rfl,xs,by rw [← hxt]; exact h1,h2⟩,h3⟩⟩
  case round =>
   rintro pre y W ⟨hI,hr⟩ hpre hbw
   obtain ⟨B1,m1,g1,B2,m2,g2,B3,m3,g3,e1,e2,e3⟩:=y.hq.form
   obtain ⟨B4,g4,e4,_⟩:=id y.hv
   have hyv:y.val=.agg #[.int .i64 y.s,.slice B4 (bs y.nm).length g4,.int .i64 y.q.k,.slice B1 m1 g1,.slice B2 m2 g2,.slice B3 m3 g3]:=by rw [Nd.val,e1,e2,e3,e4]
   rw [hyv]
   refine YieldAt.mono (oneRound (F:=Fence.wide) (m:=0) (M:=fun a' Wa=>∃ Bx,w.heap.size + 3 < Bx∧C6 Wa Bx (.int .i64 y.s) (.slice B4 (bs y.nm).length g4) (.int .i64 y.q.k) (.slice B1 m1 g1) (.slice B2 m2 g2) (.slice B3 m3 g3)∧TokI w pre Wa∧Holds w.heap.size W Wa∧a' = { tmps:=#[.agg #[.int .i64 q.k,.slice A n c,.slice A' n' c',.slice A'' n'' c''],.pointer (some ⟨w.heap.size,0,none⟩),.pointer (some ⟨w.heap.size + 1,0,none⟩),.pointer (some ⟨w.heap.size + 1 + 1,0,none⟩),.pointer (some ⟨Bx,0,none⟩),.agg #[.int .i64 q.k,.slice A n c,.slice A' n' c',.slice A'' n'' c''],.func (.func 216) #[] #[.pointer (some ⟨w.heap.size + 3,0,none⟩)],.agg #[.int .i64 y.s,.slice B4 (bs y.nm).length g4,.int .i64 y.q.k,.slice B1 m1 g1,.slice B2 m2 g2,.slice B3 m3 g3],undef,undef,undef,undef,undef,undef,undef,undef,undef,undef,undef,undef,undef,undef,undef],defers:=[] })
    (T:=fun W'=>TokI w (pre++[y]) W'∧Holds w.heap.size W W') (X:=fun c W'=>c=.ret∧TokX w (pre++[y]) W') hfn hr (by rw [hps]; rfl) ?assign ?body) ?post
   case post =>
    rintro e W' (⟨rfl,⟨h1,h2⟩,h3⟩ | ⟨rfl,c,⟨rfl,h1⟩,h3⟩)
    ·exact .inl ⟨rfl,⟨h1,h3⟩,h2⟩
    ·exact .inr ⟨rfl,h1,h3⟩
   case assign =>
    have bal:=boxed6 W (.int .i64 y.s) (.slice B4 (bs y.nm).length g4) (.int .i64 y.q.k) (.slice B1 m1 g1) (.slice B2 m2 g2) (.slice B3 m3 g3)
    have HIr:=hide hI
    have hWz:w.heap.size + 3 < W.heap.size:=by have:=hr.lt; omega
    have HBal:=hide bal
    rw [has,htm,hps]
    clear hbd has htm hps hxt hr hpre hbw hI bal hrec hb1 hz1 hI0
    gi_wp2
    obtain ⟨wa',hwa',hc6,hba,hza⟩:=HBal.out
    rw [hwa']
    exact ⟨KeepsFrom.below hba,_,hWz,hc6,HIr.out.step hba,Holds.of_below hba HIr.out.2.2.2.2.size,rfl⟩
   case body =>
    rintro a' Wa ⟨Bx,hBx,hbx,hIa,hHa,rfl⟩ hra Wb hWb
    have hrb:RecAt Wb W0.heap.size r .busy none:=by rw [hWb]; exact hra.put .busy none
    have hIb:TokI w pre Wb:=by rw [hWb]; exact hIa.put hra.rcd (by omega) _
    have hbxb:C6 Wb Bx (.int .i64 y.s) (.slice B4 (bs y.nm).length g4) (.int .i64 y.q.k) (.slice B1 m1 g1) (.slice B2 m2 g2) (.slice B3 m3 g3):=by rw [hWb]; exact hbx.put hra.rcd _
    have hHb:Holds w.heap.size W Wb:=by rw [hWb]; exact hHa.trans (Holds.put hra.rcd (by omega) _)
    have hcall:=fun W' (hb:Below w.heap.size w W')=>implNodeOk y.t y.ht y.q W' (y.hq.below hb)
    rw [show y.q.val=.agg #[.int .i64 y.q.k,.slice B1 m1 g1,.slice B2 m2 g2,.slice B3 m3 g3] by rw [← e1,← e2,← e3]] at hcall
    obtain ⟨L,hL⟩:∃ L,pre.length=L:=⟨_,rfl⟩
    obtain ⟨hC,hR,hgood,hL40,hbw2⟩:=hIb
    rw [hL] at hC hL40
    -- the counter is one more
    obtain ⟨Wc,hWc⟩:∃ Wc,Wb.setCell ⟨w.heap.size + 1 + 1,0,none⟩ (.int .i64 ((L:Int) + 1))=Wc:=⟨_,rfl⟩
    have hC1:Boxed Wc (w.heap.size + 1 + 1) 3 (.int .i64 ((L:Int) + 1)):=by rw [← hWc]; exact hC.set _
    have hR1:Boxed Wc (w.heap.size + 1) 4 (.bool false):=by rw [← hWc]; exact hR.other (by omega) _
    have hH1:Holds w.heap.size Wb Wc:=by rw [← hWc]; exact Holds.box hC (by decide) (by decide) (by omega) _
    have hK1:KeepsFrom W0.heap.size Wb Wc:=by rw [← hWc]; exact (KeepsOthers.setCell _ _ _).from _
    have hX1:=hbxb.holds hH1
    have hb1':=hbw2.trans hH1.below
    have hcell:=hC.cell
    have hfz:=hC.frozen
    have rcell:=hR.cell
    have hne1:Bx≠w.heap.size + 1 + 1:=by omega
    have hne2:Bx≠w.heap.size + 1:=by omega
    have rfz:=hR.frozen
    have x0:=hbxb.c0
    have x2:=hbxb.c2
    have x3:=hbxb.c3
    have x4:=hbxb.c4
    have x5:=hbxb.c5
    have hRB:=hrb.keep hK1
    have hHW:=hHb.trans hH1
    have hlen:(pre++[y]).length=L + 1:=by rw [List.length_append,hL]; rfl
    have HCALL:=hide (hcall Wc hb1')
    obtain ⟨RR,hRR⟩:∃ RR:World→Prop,RR=fun W'=>KeepsFrom W0.heap.size Wb W'∧TokX w (pre++[y]) (W'.putObj (W0.heap.size + 1) (.loop { r with state:=.done,pending:=some .ret })):=⟨_,rfl⟩
    obtain ⟨NN,hNN⟩:∃ NN:World→Prop,NN=fun W'=>KeepsFrom W0.heap.size Wb W'∧TokI w (pre++[y]) (W'.putObj (W0.heap.size + 1) (.loop { r with state:=.ready,pending:=none }))∧Holds w.heap.size W (W'.putObj (W0.heap.size + 1) (.loop { r with state:=.ready,pending:=none })):=⟨_,rfl⟩
    have fin:∀ W',Below Wc.heap.size Wc W'→(¬ y.good∨40 < L + 1)→RR (W'.setCell ⟨w.heap.size + 1,0,none⟩ (.bool false)):=fun W' hb hbad=>by
     have hR2:Boxed W' (w.heap.size + 1) 4 (.bool false):=(hb.block _ hR1.lt).trans hR1
     have hk2:KeepsFrom W0.heap.size Wc (W'.setCell ⟨w.heap.size + 1,0,none⟩ (.bool false)):=(KeepsFrom.below hb).trans ((KeepsOthers.setCell _ _ _).from _)
     have hx:TokX w (pre++[y]) (W'.setCell ⟨w.heap.size + 1,0,none⟩ (.bool false)):=⟨hR2.set _,hbad.elim (fun h=>.inl ⟨y,by simp,h⟩) (fun h=>.inr (by omega)),(hb1'.trans (hb.mono hb1'.size)).setCell (p:=⟨w.heap.size + 1,0,none⟩) (by dsimp only; omega) _⟩
     rw [hRR]
     exact ⟨hK1.trans hk2,hx.put (hRB.keep hk2).rcd (by omega) _⟩
    have norm:∀ W',Below Wc.heap.size Wc W'→y.good→L + 1≤40→NN W':=fun W' hb hg hl=>by
     have hk2:KeepsFrom W0.heap.size Wc W':=KeepsFrom.below hb
     have hi:TokI w (pre++[y]) W':=by
      refine ⟨?_,(hb.block _ hR1.lt).trans hR1,fun z hz=>?_,by omega,hb1'.trans (hb.mono hb1'.size)⟩
      ·rw [hlen]
       exact (hb.block _ hC1.lt).trans hC1
      ·rcases List.mem_append.1 hz with hz | hz
       ·exact hgood z hz
       ·obtain rfl:=List.mem_singleton.1 hz
        exact hg
     have hr2:=(hRB.keep hk2).rcd
     rw [hNN]
     exact ⟨hK1.trans hk2,hi.put hr2 (by omega) _,(hHW.trans (Holds.of_below hb hb1'.size)).trans (Holds.put hr2 (by omega) _)⟩
    refine wpIn_mono (Q:=fun e _ W'=>(e=.ret∧RR W')∨(e=.normal∧NN W')) ?walk ?weak
    case weak =>
     rintro e a W' (⟨rfl,h⟩ | ⟨rfl,h⟩)
     ·rw [hRR] at h
      exact ⟨h.1,rfl,h.2⟩
     ·rw [hNN] at h
      exact h
    case walk =>
     have HWC:=hide hWc
     have hrc:∀ W',Below Wc.heap.size Wc W'→Boxed W' (w.heap.size + 1) 4 (.bool false):=fun W' hb=>(hb.block _ hR1.lt).trans hR1
     have HRC:=hide hrc
     clear hrc
     have FIN:=hide fin
     have NORM:=hide norm
     have HGD:Hid (y.good↔(y.s < 4∧y.t.nodeOk=true)):=hide Iff.rfl
     rw [hbd]
     clear hbd has htm hps hxt hr hpre hbw hI hrec hb1 hz1 hI0 hWb hrb hbxb hHb hbx hIa hHa hra hgood hbw2 hL hC hR hC1 hR1 hH1 hK1 hX1 hb1' hcall hyv e1 e2 e3 e4 hWc fin norm hRR hNN hRB hHW hlen zz hx hqv hbox hw0 HN
     by_cases h40:(40:Int) < (L:Int) + 1
     ·gi_wp2
      refine ⟨trivial,?_⟩
      gi_wp2
      rw [HWC.out]
      exact FIN.out Wc (Below.refl _ _) (.inr (by omega))
     ·have hL39:L + 1≤40:=by omega
      by_cases h4:(4:Int)≤(y.s:Int)
      ·gi_wp2
       refine ⟨trivial,?_⟩
       gi_wp2
       rw [HWC.out]
       exact FIN.out Wc (Below.refl _ _) (.inl (fun h=>by have:=(HGD.out.1 h).1; omega))
      ·gi_wp2
       refine ⟨trivial,rfl,?_⟩
       rw [HWC.out]
       refine (CallsIn.inRound _ (callsIn_wide.2 HCALL.out)).mono ?_
       rintro e w5 ⟨rfl,b5⟩
       have r5:=HRC.out w5 b5
       have rc5:=r5.cell
       have rf5:=r5.frozen
       cases hok:y.t.nodeOk with
       | false =>
         have f5:=FIN.out w5 b5 (.inl (fun h=>by have:=(HGD.out.1 h).2; rw [hok] at this; cases this))
         have F5:=hide f5
         clear f5
         gi_wp2
         exact F5.out
       | true =>
         have f5:=NORM.out w5 b5 (HGD.out.2 ⟨by omega,hok⟩) hL39
         have F5:=hide f5
         clear f5
         gi_wp2
         exact F5.out
 case done =>
  rintro W2 r st pe ⟨xs,h1,hI⟩ hrec W3 hW3 hK
  have hI3:TokI w xs W3:=by rw [hW3]; exact hI.put hrec.rcd (by omega) _
  obtain ⟨_,hR3,hg3,hl3,hb3⟩:=hI3
  have hok:=treeOk_yes h1 hg3 hl3
  have rc:=hR3.cell
  have rf:=hR3.frozen
  have HK:=hide hK
  have HR3:=hide hR3
  have HB3:=hide hb3
  have HOK:=hide hok
  clear hW3 hrec hI hK hb3 hg3 hl3 hR3 hok hI0 hx hqv HN hbox hw0
  gi_wp2
  have hk4:(W3.setCell ⟨w.heap.size + 1,0,none⟩ (.bool true)).heap[W0.heap.size]? = some (.deferred (some [])):=((KeepsOthers.setCell W3 ⟨w.heap.size + 1,0,none⟩ (.bool true)).from 0).same _ _ (Nat.zero_le _) HK.out rfl
  refine ⟨by simp,.inl ⟨_,_,rfl,run_takeDeferred hk4,?_⟩⟩
  have hs4:=HR3.out.set (.bool true)
  have hc5:=Boxed.cell ((World.putObj_heap_other (o:=.deferred none) (by omega:w.heap.size + 1≠W0.heap.size)).trans hs4)
  refine ⟨.bool true,?_,by rw [HOK.out],(HB3.out.setCell (p:=⟨w.heap.size + 1,0,none⟩) (by dsimp only; omega) _).trans (belowK_b (w:=w) (Nat.le_refl _) _ W0.heap.size _ _ (by omega) hk4 rfl rfl)⟩
  simp [results,Tryz.f164,go_sem,hc5]
 case stop =>
  rintro W2 r st pe c ⟨rfl,xs,h1,hX⟩ hrec W3 hW3 hK
  have hX3:TokX w xs W3:=by rw [hW3]; exact hX.put hrec.rcd (by omega) _
  obtain ⟨hR3,hbad,hb3⟩:=hX3
  have hok:=treeOk_no h1 (by simpa using hbad)
  have HK:=hide hK
  have HR3:=hide hR3
  have HB3:=hide hb3
  have HOK:=hide hok
  clear hW3 hrec hX hK hb3 hbad hR3 hok hI0 hx hqv HN hbox hw0
  gi_wp2
  refine ⟨by simp,.inl ⟨_,_,rfl,run_takeDeferred HK.out,?_⟩⟩
  have hc5:=Boxed.cell ((World.putObj_heap_other (o:=.deferred none) (by omega:w.heap.size + 1≠W0.heap.size)).trans HR3.out)
  refine ⟨.bool false,?_,by rw [HOK.out],HB3.out.trans (belowK_b (w:=w) (Nat.le_refl _) _ W0.heap.size _ _ (by omega) HK.out rfl rfl)⟩
  simp [results,Tryz.f164,go_sem,hc5]
end Go.Proofs.YtgaadpkefncnmaaGreatDoor
/-
  The bytes of a tree are bytes.
-/
namespace Go.Proofs.YtgaadpkefncnmaaGreatDoor
open Go.RowKit
set_option linter.unusedVariables false
theorem T.bytss_of {ks:List T} (h:∀ t∈ks,t.Byts):T.Bytss ks:=by
 induction ks with
 | nil=>rw [T.Bytss]; trivial
 | cons t r ih=>rw [T.Bytss]; exact ⟨h t (List.mem_cons_self ..),ih fun t ht=>h t (List.mem_cons_of_mem _ ht)⟩
theorem T.byts_of:∀ (t:T),oks t.cells→t.Byts:=by
 intro t
 induction t using T.ind with
 | h k d ns ks ih =>
   intro h
   obtain ⟨_,h2,h3,h4⟩:=(T.oks_iff _).1 h
   rw [T.Byts]
   exact ⟨h2,h3,T.bytss_of fun t ht=>ih t ht (h4 t ht)⟩
theorem T.encs_byt (ks:List T) (ih:∀ t∈ks,∀ d,t.okAt d=true→t.Byts→Byt t.enc) {d:Nat} (hk:∀ t∈ks,t.okAt d=true) (hb:T.Bytss ks) (ns:List (List Int)) (hn:BytN ns):Byt (T.encs ks ns):=by
 induction ks generalizing ns with
 | nil=>rw [T.encs]; exact fun x hx=>by cases hx
 | cons t r ihr =>
   rw [T.Bytss] at hb
   rw [T.encs]
   refine ((txt_byt ?_).app (ih t (List.mem_cons_self ..) d (hk t (List.mem_cons_self ..)) hb.1)).app (ihr (fun t ht=>ih t (List.mem_cons_of_mem _ ht)) (fun t ht=>hk t (List.mem_cons_of_mem _ ht)) hb.2 _ ?_)
   ·cases ns with
    | nil=>exact fun x hx=>by cases hx
    | cons n r=>exact hn n (List.mem_cons_self ..)
   ·cases ns with
    | nil=>exact hn
    | cons n r=>exact fun x hx=>hn x (List.mem_cons_of_mem _ hx)
theorem T.enc_byt:∀ (t:T) {d:Nat},t.okAt d=true→t.Byts→Byt t.enc:=by
 intro t
 induction t using T.ind with
 | h k d ns ks ih =>
   intro deep h hb
   obtain ⟨h1,h2⟩:=okAt_parts h
   rw [T.Byts] at hb
   rw [T.enc]
   by_cases hk:k=2
   ·subst hk
    obtain ⟨a,b,c,e⟩:=nodeOk_dir h1
    rw [if_pos rfl]
    exact (Byt.one (by omega) (by omega)).app ((Byt.one (by omega) (by omega)).app (T.encs_byt ks (fun t ht d hd hbt=>ih t ht hd hbt) h2 hb.2.2 ns hb.2.1))
   ·obtain ⟨a,b,c,e,f⟩:=nodeOk_file hk h1
    rw [if_neg hk]
    exact (Byt.one (by omega) (by omega)).app (txt_byt hb.1)
theorem T.dats_byt (ks:List T) (ih:∀ t∈ks,t.Byts→Byt t.dat) (hb:T.Bytss ks):Byt (T.dats ks):=by
 induction ks with
 | nil=>rw [T.dats]; exact fun x hx=>by cases hx
 | cons t r ihr =>
   rw [T.Bytss] at hb
   rw [T.dats]
   exact (ih t (List.mem_cons_self ..) hb.1).app (ihr (fun t ht=>ih t (List.mem_cons_of_mem _ ht)) hb.2)
theorem T.dat_byt:∀ (t:T),t.Byts→Byt t.dat:=by
 intro t
 induction t using T.ind with
 | h k d ns ks ih =>
   intro hb
   rw [T.Byts] at hb
   rw [T.dat]
   exact hb.1.app (T.dats_byt ks ih hb.2.2)
end Go.Proofs.YtgaadpkefncnmaaGreatDoor
/-
  A loop over a valid tree's nodes whose body never leaves it.
-/
namespace Go.Proofs.YtgaadpkefncnmaaGreatDoor
open Go.RowKit Go.Shelf
set_option linter.unusedVariables false
attribute [local go_sem] Oper.semAt_some
theorem good_of {w0:World} {t:T} (hv:treeOk t=true) {xs:List (Nd w0)} (h:xs.map Nd.key <+: t.pre 0 []):(∀ y∈xs,y.good)∧xs.length≤40:=by
 rw [treeOk,Bool.and_eq_true,decide_eq_true_eq] at hv
 refine ⟨fun y hy=>(T.pre_ok t 0 []).1 hv.1 y.key (h.subset (List.mem_map.2 ⟨y,hy,rfl⟩)),?_⟩
 have:=h.length_le
 rw [List.length_map,T.pre_len] at this
 omega
theorem nodesLoop {g:Operand} {ps:Array Tmp} {assign body:Code} {Q:Exit→Act→World→Prop} {a:Act} {W0:World} {gb:Nat} (w0:World) (x:Nd w0) (hs:x.s=0) (hn:x.nm = []) (hv:x.v=.slice none 0 0)
  (hg:a.eval g=.func (.func 216) #[] #[.pointer (some ⟨gb,0,none⟩)]) (hbox:C4 W0 gb 47 (.int .i64 x.q.k) x.q.d x.q.n x.q.c) (hw0:Below w0.heap.size w0 W0) (hps:ps.size=1)
  (I:List (Nd w0)→World→Prop) (hIs:∀ pre W W',I pre W→Below W.heap.size W W'→I pre W') (hIp:∀ pre W l r o,I pre W→W.heap[l]? = some (Obj.loop r)→w0.heap.size≤l→I pre (W.putObj l o))
  (hIg:∀ pre W,I pre W→∀ y∈pre,y.good) (h0:I [] W0)
  (M:Nd w0→Act→World→Prop) (hMp:∀ y a' W l r o,M y a' W→W.heap[l]? = some (Obj.loop r)→M y a' (W.putObj l o))
  (hassign:∀ l pre y W,I pre W→W0.heap.size + 1 < W.heap.size→Below w0.heap.size w0 W→assign.wpIn (Fence.wide.inRound l) 0 Tryz.prog (Exit.then (fun a' Wa=>Below W.heap.size W Wa∧M y a' Wa) (fun _ _ _=>False)) { tmps:=(ps.zip #[y.val]).foldl (fun t (p,v)=>t.setIfInBounds p v) a.tmps,defers:=[] } W)
  (hbody:∀ l pre y a' W,W0.heap.size≤l→I pre W→M y a' W→Below w0.heap.size w0 W→pre.map Nd.key++[y.key] <+: x.t.pre 0 []→body.wpIn (Fence.wide.inRound l) 0 Tryz.prog (fun e _ W'=>e=.normal∧KeepsFrom W0.heap.size W W'∧Holds w0.heap.size W W'∧I (pre++[y]) W') a' W)
  (hdone:∀ xs W,xs.map Nd.key=x.t.pre 0 []→I xs W→W.heap[W0.heap.size]? = some (.deferred (some []))→Q .normal { a with defers:={ target:=.collected W0.heap.size,args:=#[] } :: a.defers } W) :
  (Code.rangeFunc g ps assign body).wpIn Fence.wide 6 Tryz.prog Q a W0:=by
 refine rangeF (F:=Fence.wide) (T:=fun W=>∃ xs:List (Nd w0),xs.map Nd.key=x.t.pre 0 []∧I xs W) (X:=fun _ _=>False)
  rfl (by omega) hg trivial (enters_of Tryz.func216 (by kernel_rfl) rfl) ?hit ?done ?stop
 case hit =>
  intro r W1 hfn htm hpr has hbd hrec hb1 hz1
  refine callsIn_wide.2 ((nodes1 w0 x hs hn hv (W0.heap.size + 1) (fun pre W=>I pre W∧RecAt W W0.heap.size r .ready none) (fun _ _=>False)
   (fun pre W W' h hb=>⟨hIs pre W W' h.1 hb,h.2.keep (KeepsFrom.below hb)⟩) (fun pre W h=>hIg pre W h.1) ?round W1 gb (hbox.step hb1) (hw0.trans (hb1.mono hw0.size)) ⟨hIs [] W0 W1 h0 hb1,hrec⟩).mono ?after)
  case after =>
   rintro e W2 ⟨hv,⟨xs,h1,h2,h3⟩ | ⟨xs,h1,h2⟩⟩
   ·exact ⟨hv,.inl ⟨⟨xs,h1,h2⟩,h3⟩⟩
   ·exact h2.elim
  case round =>
   rintro pre y W ⟨hI,hr⟩ hpre hbw
   have hln:=hw0.size
   refine YieldAt.mono (oneRound (F:=Fence.wide) (m:=0) (M:=fun a' Wa=>M y a' Wa∧I pre Wa∧Below W.heap.size W Wa)
    (T:=fun W'=>I (pre++[y]) W'∧Holds w0.heap.size W W') (X:=fun _ _=>False) hfn hr (by rw [hpr,hps]; rfl) ?assign ?body) ?post
   case post =>
    rintro e W' (⟨rfl,⟨h1,h2⟩,h3⟩ | ⟨rfl,c,h1,h3⟩)
    ·exact .inl ⟨rfl,⟨h1,h3⟩,h2⟩
    ·exact h1.elim
   case assign =>
    rw [has,htm,hpr]
    refine wpIn_mono (hassign (W0.heap.size + 1) pre y W hI hr.lt hbw) ?_
    intro e a' Wa h
    cases e with
    | normal=>exact ⟨KeepsFrom.below h.1,h.2,hIs pre W Wa hI h.1,h.1⟩
    | _=>exact h
   case body =>
    rintro a' Wa ⟨hM,hIa,hba⟩ hra Wb hWb
    have hrb:RecAt Wb W0.heap.size r .busy none:=by rw [hWb]; exact hra.put .busy none
    have hIb:I pre Wb:=by rw [hWb]; exact hIp pre Wa _ _ _ hIa hra.rcd (by omega)
    have hMb:M y a' Wb:=by rw [hWb]; exact hMp y a' Wa _ _ _ hM hra.rcd
    have hHb:Holds w0.heap.size W Wb:=by rw [hWb]; exact (Holds.of_below hba hbw.size).trans (Holds.put hra.rcd (by omega) _)
    rw [hbd]
    refine wpIn_mono (hbody (W0.heap.size + 1) pre y a' Wb (by omega) hIb hMb (hbw.trans hHb.below) hpre) ?_
    rintro e a2 W2 ⟨rfl,hk,hh,hi⟩
    have hr2:=hrb.keep hk
    refine ⟨hk,?_⟩
    rw [← hbd]
    exact ⟨hIp _ _ _ _ _ hi hr2.rcd (by omega),(hHb.trans hh).trans (Holds.put hr2.rcd (by omega) _)⟩
 case done =>
  rintro W2 r st pe ⟨xs,h1,hI⟩ hrec W3 hW3 hK
  have hln:=hw0.size
  exact hdone xs W3 h1 (by rw [hW3]; exact hIp _ _ _ _ _ hI hrec.rcd (by omega)) hK
 case stop =>
  intro W2 r st pe c h
  exact h.elim
end Go.Proofs.YtgaadpkefncnmaaGreatDoor
/-
  Append of whatever reads as a list, inside a round.
-/
namespace Go.Proofs.YtgaadpkefncnmaaGreatDoor
open Go.RowKit
set_option linter.unusedVariables false
theorem wpListIn_app {F:Fence} {nF:Nat} {P:Program} (w:World) {ops:Array Oper} {rest:List Oper} {o:Oper} {a:Act} {Q:Exit→Act→World→Prop} (hgd:o.guard=none) (s x:Operand) (t:TypeId)
  (ho:o.op=.call { callee:=.builtin .append,args:=#[s,x],argTypes:=#[t,t] })
  (base:Nat) (e:TypeId) (i:TypeInfo) (z:Value) (bytes:Nat) (ht:P.underlying t=some (.slice e)) (hi:P.info? e=some i) (hz:i.zero=some z)
  (hsize:i.size=1) (hby:i.bytes=bytes) (hzs:z.cells.size=1)
  (v:Value) (n:Nat) (xs:List Value) (hs:a.eval s=v) (hown:w.ownsRow base e 1 v n xs) (y:Value) (ys:List Value) (hx:a.eval x=y) (hr:Rd w y ys) (h1:∀ u∈ys,u.oneCell' = true)
  (h63:n + ys.length≤maxLen) (hbytes:(n + ys.length) * bytes≤140737488355328) (hbase:base≤w.heap.size)
  (h:∀ v' w',w'.ownsRow base e 1 v' (n + ys.length) (xs++ys)→w.grownBy w' v.ownBlock→wpListIn F nF P ops Q rest (a.put o.dst v') w'):wpListIn F nF P ops Q (o :: rest) a w:=by
 refine wpListIn_plain hgd fun K hK=>?_
 obtain ⟨v',w',hrun,h2,h3⟩:=run_app (P:=P) w base t o.type e i z bytes ht hi hz hsize hby hzs v n xs hown y ys hr h1 h63 hbytes hbase
 unfold Oper.wpIn
 refine ⟨?_,?_⟩
 ·simp [Oper.about,ho,resolve,Target.leads,Sem.run_pure]
 ·rw [Oper.semAt_plain F _ _ (by rw [ho]; intro c hc'; cases hc')]
  unfold execOp
  simp only [ho,resolve,invoke,builtin,Sem.run_bind,Sem.run_pure,Result.andThen_ok,List.map_toArray,List.map_cons,List.map_nil,hs,hx,hrun]
  exact hK _ _ (h v' w' h2 h3)
end Go.Proofs.YtgaadpkefncnmaaGreatDoor
/-
  What a loop that gathers bytes in a box keeps between two rounds.
-/
namespace Go.Proofs.YtgaadpkefncnmaaGreatDoor
open Go.RowKit Go.Shelf
set_option linter.unusedVariables false
/-- The box c holds a slice of the call's own that reads as l. -/
def Held (lo c:Nat) (l:List Int) (W:World):Prop:=∃ v,Boxed W c 39 v∧W.ownsRow lo 5 1 v l.length (bs l)
theorem Held.step {lo c:Nat} {l:List Int} {W W' : World} (h:Held lo c l W) (hb:Below W.heap.size W W'):Held lo c l W':=by
 obtain ⟨v,h1,h2⟩:=h
 exact ⟨v,(hb.block _ h1.lt).trans h1,own_step h2 hb⟩
theorem Held.put {lo c:Nat} {l:List Int} {W:World} {k:Nat} {r:Loop} (h:Held lo c l W) (hl:W.heap[k]? = some (.loop r)) (o:Obj):Held lo c l (W.putObj k o):=by
 obtain ⟨v,h1,h2⟩:=h
 exact ⟨v,boxed_put h1 hl o,ownsRow_putObj h2 o hl rfl⟩
/-- Behind a call that gave a longer row, and the store of it into the box. -/
theorem held_stored {lo c n m:Nat} {W w1:World} {v v' : Value} {xs ys:List Value} (hv:Boxed W c 39 v) (hr:W.ownsRow lo 5 1 v n xs) (hlo:lo≤W.heap.size) (hc:lo≤c)
  (hr' : w1.ownsRow lo 5 1 v' m ys) (hg:W.grownBy w1 v.ownBlock) :
  Boxed w1 c 39 v∧Boxed (w1.setCell ⟨c,0,none⟩ v') c 39 v'∧(w1.setCell ⟨c,0,none⟩ v').ownsRow lo 5 1 v' m ys∧KeepsOthers W (w1.setCell ⟨c,0,none⟩ v')∧Holds lo W (w1.setCell ⟨c,0,none⟩ v'):=by
 have hne:39≠5:=by decide
 have hv1:Boxed w1 c 39 v:=hv.kept hg (hv.not_row hne hr)
 refine ⟨hv1,hv1.set v',hr'.kept (grownBy_setCell' w1 c v') (.inr (hv1.not_row hne hr').symm),?_,(holds_row hr hg hlo).trans (Holds.box hv1 (by decide) (by decide) hc v')⟩
 refine (KeepsOthers.of_grownBy hg fun j o ej hj=>?_).trans (KeepsOthers.setCell _ _ _)
 rcases hr.2 with ⟨rfl,_⟩ | ⟨g,cap,cur,rfl,_,hgb,_⟩
 ·simp [Value.ownBlock] at ej
 ·obtain rfl:g=j:=by simpa [Value.ownBlock] using ej
  rw [hgb] at hj; cases hj; rfl
/-- Between two rounds of a loop that gathers bytes in the box c. -/
def DatI (w:World) (c:Nat) (f:List (Nd w)→List Int) (xs:List (Nd w)) (W:World):Prop:=Held w.heap.size c (f xs) W∧(∀ y∈xs,y.good)∧Below w.heap.size w W
theorem DatI.step {w:World} {c:Nat} {f:List (Nd w)→List Int} {xs:List (Nd w)} {W W' : World} (h:DatI w c f xs W) (hb:Below W.heap.size W W'):DatI w c f xs W' :=
 ⟨h.1.step hb,h.2.1,h.2.2.trans (hb.mono h.2.2.size)⟩
theorem DatI.put {w:World} {c:Nat} {f:List (Nd w)→List Int} {xs:List (Nd w)} {W:World} {l:Nat} {r:Loop} (h:DatI w c f xs W) (hl:W.heap[l]? = some (.loop r)) (hn:w.heap.size≤l) (o:Obj):DatI w c f xs (W.putObj l o) :=
 ⟨h.1.put hl o,h.2.1,h.2.2.trans (Holds.put hl hn o).below⟩
/-- The data of nodes, in order. -/
def dkx:List (Nat × List Int × T)→List Int
 | []=>[]
 | k :: r=>k.2.2.data++dkx r
theorem dkx_append (a b:List (Nat × List Int × T)):dkx (a++b)=dkx a++dkx b:=by
 induction a with
 | nil=>rfl
 | cons k a ih=>rw [List.cons_append,dkx,dkx,ih,List.append_assoc]
theorem T.pres_dk (ks:List T) (h:∀ t∈ks,∀ s nm,dkx (t.pre s nm)=t.dat) (ns:List (List Int)) (s:Nat):dkx (T.pres ks ns s)=T.dats ks:=by
 induction ks generalizing ns with
 | nil=>rfl
 | cons t r ih=>rw [T.pres,dkx_append,T.dats,h t (List.mem_cons_self ..),ih (fun t ht=>h t (List.mem_cons_of_mem _ ht))]
theorem T.pre_dk:∀ (t:T) (s:Nat) (nm:List Int),dkx (t.pre s nm)=t.dat:=by
 intro t
 induction t using T.ind with
 | h k d ns ks ih =>
   intro s nm
   rw [T.pre,T.dat,dkx,T.pres_dk ks ih]
   rfl
theorem dkx_prefix {a b:List (Nat × List Int × T)} (h:a <+: b):(dkx a).length≤(dkx b).length:=by
 obtain ⟨c,rfl⟩:=h
 rw [dkx_append,List.length_append]
 omega
theorem TIn.dt {w:World} {t:T} {q:Q} (h:TIn w t q):Rd w q.d (bs t.data):=by
 obtain ⟨k,d,ns,ks⟩:=t
 rw [TIn] at h
 exact h.2.1
end Go.Proofs.YtgaadpkefncnmaaGreatDoor
/-
  appendNum and appendText turn nothing but rows of bytes.
-/
namespace Go.Proofs.YtgaadpkefncnmaaGreatDoor
open Go.RowKit Go.Shelf
set_option linter.unusedVariables false
/-- Nothing below lo turns, no row of another type than bytes, nothing that is no row. -/
structure Grows (lo:Nat) (w w' : World):Prop where
 below:Below lo w w'
 rows:∀ (k:Nat) (cs:Array Value) (t:TypeId) (r:Nat × Nat),w.heap[k]? = some (Obj.cells cs t r)→t≠5→w'.heap[k]? = some (Obj.cells cs t r)
 others:KeepsOthers w w'
theorem Grows.refl (lo:Nat) (w:World):Grows lo w w:=⟨Below.refl _ _,fun _ _ _ _ h _=>h,KeepsOthers.refl _⟩
theorem Grows.trans {lo:Nat} {a b c:World} (h:Grows lo a b) (k:Grows lo b c):Grows lo a c :=
 ⟨h.below.trans k.below,fun i cs t r hi ht=>k.rows i cs t r (h.rows i cs t r hi ht) ht,h.others.trans k.others⟩
theorem Grows.of_below {lo:Nat} {w w' : World} (h:Below w.heap.size w w') (hl:lo≤w.heap.size):Grows lo w w' :=
 ⟨h.mono hl,fun k cs t r hk _=>(h.block k (Array.getElem?_eq_some_iff.1 hk).1).trans hk,⟨h.size,fun k o hk _=>(h.block k (Array.getElem?_eq_some_iff.1 hk).1).trans hk⟩⟩
theorem Grows.alloc {lo:Nat} {a w:World} (h:Grows lo a w) (hl:lo≤w.heap.size) (o:Obj):Grows lo a (w.alloc o):=h.trans (Grows.of_below ((Below.refl _ _).alloc (Nat.le_refl _) o) hl)
theorem Grows.row {lo n:Nat} {a w w' : World} {v:Value} {xs:List Value} (h:Grows lo a w) (hl:lo≤w.heap.size) (hr:w.ownsRow lo 5 1 v n xs) (hg:w.grownBy w' v.ownBlock):Grows lo a w':=by
 refine h.trans ⟨(Below.refl lo w).grown hg hl fun g hgk=>(hr.lt g hgk).1,fun k cs t r hk ht=>?_,KeepsOthers.of_grownBy hg fun j o ej hj=>?_⟩
 ·refine (hg.block k (Array.getElem?_eq_some_iff.1 hk).1 (fun e=>?_)).trans hk
  rcases hr.2 with ⟨rfl,_⟩ | ⟨g,cap,cur,rfl,_,hgb,_⟩
  ·simp [Value.ownBlock] at e
  ·obtain rfl:k=g:=by simpa [Value.ownBlock] using e
   rw [hgb] at hk
   injection hk with hk
   injection hk with _ hk _
   exact ht hk.symm
 ·rcases hr.2 with ⟨rfl,_⟩ | ⟨g,cap,cur,rfl,_,hgb,_⟩
  ·simp [Value.ownBlock] at ej
  ·obtain rfl:g=j:=by simpa [Value.ownBlock] using ej
   rw [hgb] at hj; cases hj; rfl
/-- The same, and rows of slices of bytes may turn, too. -/
structure Steps (lo:Nat) (w w' : World):Prop where
 below:Below lo w w'
 rows:∀ (k:Nat) (cs:Array Value) (t:TypeId) (r:Nat × Nat),w.heap[k]? = some (Obj.cells cs t r)→t≠5→t≠39→w'.heap[k]? = some (Obj.cells cs t r)
 others:KeepsOthers w w'
theorem Steps.refl (lo:Nat) (w:World):Steps lo w w:=⟨Below.refl _ _,fun _ _ _ _ h _ _=>h,KeepsOthers.refl _⟩
theorem Steps.trans {lo:Nat} {a b c:World} (h:Steps lo a b) (k:Steps lo b c):Steps lo a c :=
 ⟨h.below.trans k.below,fun i cs t r hi ht hu=>k.rows i cs t r (h.rows i cs t r hi ht hu) ht hu,h.others.trans k.others⟩
theorem Steps.holds {lo:Nat} {w w' : World} (h:Steps lo w w'):Holds lo w w':=⟨h.below,fun k cs t r hk ht=>h.rows k cs t r hk (by rcases ht with rfl | rfl <;> decide) (by rcases ht with rfl | rfl <;> decide)⟩
/-- A longer row is stored into the box. -/
theorem stored_step {lo c:Nat} {W w1:World} {v v' : Value} {l' : List Int} (hv:Boxed W c 39 v) (hc:lo≤c) (hr' : w1.ownsRow lo 5 1 v' l'.length (bs l')) (hg:Grows lo W w1) :
  ∃ W2,w1.setCell ⟨c,0,none⟩ v' = W2∧w1.cell? ⟨c,0,none⟩=some v∧w1.frozen? ⟨c,0,none⟩=false∧Boxed W2 c 39 v'∧W2.ownsRow lo 5 1 v' l'.length (bs l')∧Steps lo W W2:=by
 have hv1:Boxed w1 c 39 v:=hg.rows _ _ _ _ hv (by decide)
 refine ⟨_,rfl,hv1.cell,hv1.frozen,hv1.set v',hr'.kept (grownBy_setCell' w1 c v') (.inr (hv1.not_row (by decide) hr').symm),hg.below.setCell (p:=⟨c,0,none⟩) hc v',fun k cs t r hk ht hu=>?_,hg.others.trans (KeepsOthers.setCell _ _ _)⟩
 refine (Below.heap_setCell w1 ⟨c,0,none⟩ v' k (fun e=>?_)).trans (hg.rows k cs t r hk ht)
 dsimp only at e
 subst e
 have hb2:W.heap[k]? = _:=hv
 rw [hk] at hb2
 injection hb2 with hb2
 injection hb2 with _ hb2 _
 exact hu hb2
set_option maxHeartbeats 400000 in
theorem appendNumOutG (l:List Int) (v:Value) (n:Int) (lo:Nat) (w:World) (hv:w.ownsRow lo 5 1 v l.length (bs l)) (hn:n < 0∨2147483647 < n) :
  Calls Tryz.prog 255 #[v,.int .i64 n] w fun e w'=>∃ v',e=.returned v'∧w'.ownsRow lo 5 1 v' l.length (bs l)∧Grows lo w w':=by
 have HV:=hide hv
 clear hv
 by_cases h0:n < 0
 all_goals
  go_enter Tryz.func255,Tryz.ntmps255
  go_wp2
  go_ret
  exact ⟨_,rfl,HV.out,Grows.refl _ _⟩
set_option maxRecDepth 20000 in
set_option maxHeartbeats 800000 in
theorem appendNumInG (l:List Int) (v:Value) (n:Nat) (lo:Nat) (w:World) (hv:w.ownsRow lo 5 1 v l.length (bs l)) (hlo:lo≤w.heap.size) (hl:l.length≤1099511627776) (hn:n≤2147483647) :
  Calls Tryz.prog 255 #[v,.int .i64 n] w fun e w'=>∃ v',e=.returned v'∧w'.ownsRow lo 5 1 v' (l++vint n).length (bs (l++vint n))∧Grows lo w w':=by
 obtain ⟨i0,hi0,hz0,hz1,hz2⟩:=info_parts u8info
 have HV:=hide hv
 clear hv
 go_enter Tryz.func255,Tryz.ntmps255
 go_wp2
 go_loopw [0,1] (fun v t wr=>∃ (m:Nat) (xs:List Int),m≤2147483647∧t=.int .i64 m∧wr.ownsRow lo 5 1 v xs.length (bs xs)∧Hid (xs++vint m=l++vint n)∧Grows lo w wr)
  (fun _ t _=>(intOf t).toNat)
 case atStart=>exact ⟨n,l,hn,rfl,HV.out,hide rfl,Grows.refl _ _⟩
 case round =>
  obtain ⟨m,xs,hm,rfl,hown,hx,hbel⟩:=hrel
  have hroom:=vint_room hn hx.out
  have hlo2:lo≤wr.heap.size:=Nat.le_trans hlo hbel.below.size
  have hor:bits .or .u8 ((m:Int) % 256) 128=(m:Int) % 128 + 128:=by rw [or128 (by omega) (by omega)]; omega
  have HO:=hide hor
  clear hor
  by_cases h128:m < 128
  ·go_wp2_with (at_builtin; refine wpList_app _ rfl (.tmp 22) (.tmp 25) _ rfl lo 5 i0 _ 1 Tryz.underlying39 hi0 hz0 hz1 hz2 rfl _ _ _ rfl (hown.alloc _) _ _ rfl (rd_one _ _ _) (bs_one _) (by rw [bs_length]; simp only [maxLen,List.length_singleton]; omega) (by rw [bs_length]; simp only [List.length_singleton]; omega) (by simp; omega) ?_; intro v3 w3 own3 gr3)
   go_ret
   refine ⟨_,rfl,own_len (own_cells own3 ?_) (by rw [bs_length,← hx.out,vint_last h128]; simp),?_⟩
   ·rw [← bs_append,← hx.out,vint_last h128]
   ·exact Grows.row (hbel.alloc hlo2 _) (by simp; omega) (hown.alloc _) gr3
  ·go_wp2_with (at_builtin; refine wpList_app _ rfl (.tmp 16) (.tmp 20) _ rfl lo 5 i0 _ 1 Tryz.underlying39 hi0 hz0 hz1 hz2 rfl _ _ _ rfl (hown.alloc _) _ _ rfl (rd_one _ _ _) (bs_one _) (by rw [bs_length]; simp only [maxLen,List.length_singleton]; omega) (by rw [bs_length]; simp only [List.length_singleton]; omega) (by simp; omega) ?_; intro v3 w3 own3 gr3)
   go_roundw
   case rel=>exact ⟨m / 128,xs++[(m:Int) % 128 + 128],by omega,by go_num,own_len (own_cells own3 (by rw [HO.out,bs_append])) (by simp [bs]),hide (vint_step h128 hx.out),Grows.row (hbel.alloc hlo2 _) (by simp; omega) (hown.alloc _) gr3⟩
   case measure=>simp [intOf]; omega
theorem appendNumG (l:List Int) (v:Value) (n:Int) (lo:Nat) (w:World) (hv:w.ownsRow lo 5 1 v l.length (bs l)) (hlo:lo≤w.heap.size) (hl:l.length≤1099511627776) :
  Calls Tryz.prog 255 #[v,.int .i64 n] w fun e w'=>∃ v',e=.returned v'∧w'.ownsRow lo 5 1 v' (putNum l n).length (bs (putNum l n))∧Grows lo w w':=by
 by_cases h:n < 0∨2147483647 < n
 ·rw [putNum,if_pos h]
  exact appendNumOutG l v n lo w hv h
 ·rw [putNum,if_neg h]
  obtain ⟨k,rfl⟩:=Int.eq_ofNat_of_zero_le (by omega:0≤n)
  exact appendNumInG l v k lo w hv hlo hl (by omega)
set_option maxRecDepth 20000 in
set_option maxHeartbeats 800000 in
theorem appendTextG (l:List Int) (v:Value) (t:List Int) (u:Value) (lo:Nat) (w w0:World) (hv:w.ownsRow lo 5 1 v l.length (bs l)) (hu:Rd w0 u (bs t)) (h0:w0.heap.size=lo) (hb:Below lo w0 w) (hl:l.length≤1099511627776) :
  Calls Tryz.prog 224 #[v,u] w fun e w'=>∃ v',e=.returned v'∧w'.ownsRow lo 5 1 v' (putText l t).length (bs (putText l t))∧Grows lo w w':=by
 obtain ⟨i0,hi0,hz0,hz1,hz2⟩:=info_parts u8info
 obtain ⟨A',c',hU,hc1',hc2',_⟩:=id hu
 rw [bs_length] at *
 unfold maxLen at hc2'
 subst hU
 have HV:=hide hv
 have HU:=hide hu
 clear hv hu
 have hlo:lo≤w.heap.size:=by rw [← h0]; exact hb.size
 have HB:=hide hb
 have H0:=hide h0
 clear hb h0
 by_cases h4:400 < t.length
 ·rw [putText,if_pos h4]
  go_enter Tryz.func224,Tryz.ntmps224
  go_wp2
  go_ret
  exact ⟨_,rfl,HV.out,Grows.refl _ _⟩
 ·rw [putText,if_neg h4]
  obtain ⟨P,hP⟩:∃ P,putNum l t.length=P:=⟨_,rfl⟩
  have hroom:P.length≤l.length + 5:=by rw [← hP]; exact putNum_len l t.length
  rw [hP]
  have HP:=hide hP
  clear hP
  go_enter Tryz.func224,Tryz.ntmps224
  go_wp2_with fail
  refine (appendNumG l _ t.length lo w HV.out hlo (by omega)).mono ?_
  rintro e w1 ⟨v1,rfl,o1,b1⟩
  rw [HP.out] at o1
  have hu1:Rd w1 (.slice A' t.length c') (bs t):=HU.out.below (by rw [H0.out]; exact HB.out.trans b1.below)
  have hlo1:lo≤w1.heap.size:=Nat.le_trans hlo b1.below.size
  go_wp2_with (at_builtin; refine wpList_app _ rfl (.tmp 12) (.tmp 13) _ rfl lo 5 i0 _ 1 Tryz.underlying39 hi0 hz0 hz1 hz2 rfl _ _ _ rfl o1 _ (bs t) rfl hu1 (bs_one t) (by rw [bs_length]; simp only [maxLen]; omega) (by rw [bs_length]; omega) hlo1 ?_; intro v2 w2 own2 gr2)
  go_ret
  exact ⟨_,rfl,own_len (own_cells own2 (bs_append _ _).symm) (by simp [bs]),Grows.row b1 hlo1 o1 gr2⟩
end Go.Proofs.YtgaadpkefncnmaaGreatDoor
/-
  The program's TreeData.
-/
namespace Go.Proofs.YtgaadpkefncnmaaGreatDoor
open Go.RowKit Go.Shelf
set_option linter.unusedVariables false
attribute [local go_sem] Oper.semAt_some
set_option maxRecDepth 20000 in
set_option maxHeartbeats 1600000 in
theorem implTreeData (t:T) (hB:t.Byts) (hbk:t.bulk≤1048576) (q:Q) (w:World) (hq:TIn w t q) :
  Calls Tryz.prog 199 #[q.val] w fun e w'=>∃ v,e=.returned v∧Own 5 w.heap.size w'.heap.size w' v (bs (datOf t))∧Below w.heap.size w w':=by
 refine (callsIn_wide (n:=6)).1 ?_
 obtain ⟨i0,hi0,hz0',hz1',hz2'⟩:=info_parts u8info
 obtain ⟨A,n,c,A',n',c',A'',n'',c'',e,e',e''⟩:=hq.form
 obtain ⟨x,hx⟩:∃ x:Nd w,x=⟨0,[],t,.slice none 0 0,q,⟨none,0,rfl,Nat.zero_le _,Nat.zero_le _,fun h=>absurd h (by simp [bs])⟩,(fun _ h=>by cases h),hq,hB⟩:=⟨_,rfl⟩
 have hnodes:=fun W (hb:Below w.heap.size w W)=>nodes t q W (hq.below hb)
 have hok:=fun W (hb:Below w.heap.size w W)=>implTreeOk t hB q W (hq.below hb)
 have hqv:q.val=.agg #[.int .i64 q.k,.slice A n c,.slice A' n' c',.slice A'' n'' c'']:=by rw [← e,← e',← e'']
 obtain ⟨w1,hw1,box,b1,z1⟩:=boxed w q 47
 rw [e,e',e''] at hw1 box
 rw [hqv] at hnodes hok ⊢
 have HN:=hide hnodes
 have HOK:=hide (hok w1 b1)
 have y0:=box.c0
 have y1:=box.c1
 have y2:=box.c2
 have y3:=box.c3
 clear hnodes hok
 refine callsIn_of_wp_marks Tryz.func199 rfl trivial ?_ rfl
 simp only [Tryz.ntmps199,List.size_toArray,List.length_cons,List.length_nil,Nat.reduceAdd,Nat.reduceSub,Array.replicate_succ,Array.replicate_zero,List.push_toArray,List.append_toArray,List.nil_append,List.cons_append]
 gi_wp2
 refine ⟨trivial,?_⟩
 refine (callsIn_wide.2 HOK.out).mono ?_
 rintro e w2 ⟨rfl,b2⟩
 have box2:=box.step b2
 have d2:=b1.trans (b2.mono b1.size)
 clear y0 y1 y2 y3
 cases hv:treeOk t with
 | false =>
   have hS:datOf t = []:=by rw [datOf,hv]; rfl
   have HS:=hide hS
   clear hS hx box2 HN HOK box hw1 hqv
   gi_wp2
   refine ⟨_,results_tmp rfl _ _ _,_,rfl,?_,d2⟩
   rw [HS.out]
   exact ⟨World.ownsRow_nil _ _ _ _,Nat.le_refl _,fun g hg=>by simp [Value.ownBlock] at hg⟩
 | true =>
   have hS:datOf t=t.dat:=by rw [datOf,hv]; rfl
   have hdb:=t.dat_bulk
   have HS:=hide hS
   have HV:=hide hv
   have hlt:w.heap.size < w2.heap.size:=by have:=b2.size; omega
   have bal:Below w2.heap.size w2 (w2.alloc (.cells #[.slice none 0 0] 39)):=(Below.refl _ _).alloc (Nat.le_refl _) _
   have box3:=box2.step bal
   have bC:=Boxed.new w2 39 (.slice none 0 0)
   have hz3:(w2.alloc (.cells #[.slice none 0 0] 39)).heap.size=w2.heap.size + 1:=by simp
   have d3:=d2.trans (bal.mono d2.size)
   have y0:=box3.c0
   have y1:=box3.c1
   have y2:=box3.c2
   have y3:=box3.c3
   have D3:=hide d3
   have BC:=hide bC
   have HZ3:=hide hz3
   clear hS hv hw1 HOK box hqv box2 box3 bal d3 bC hz3
   gi_wp2
   refine ⟨trivial,?_⟩
   refine (callsIn_wide.2 (HN.out _ D3.out)).mono ?_
   rintro e w4 ⟨rfl,rfl⟩
   clear y0 y1 y2 y3
   have bC:=BC.out
   have d3:=D3.out
   have z3:=HZ3.out
   obtain ⟨w3,hw3⟩:∃ w3,w2.alloc (.cells #[.slice none 0 0] 39)=w3:=⟨_,rfl⟩
   rw [hw3] at bC d3 z3 ⊢
   clear D3 BC HZ3 HN hw3
   gi_wp2
   obtain ⟨W0,hW0,box0,b0,z0⟩:=boxed w3 ⟨q.k,.slice A n c,.slice A' n' c',.slice A'' n'' c''⟩ 47
   rw [hW0]
   have bC0:Boxed W0 w2.heap.size 39 (.slice none 0 0):=(b0.block _ bC.lt).trans bC
   have hw0:Below w.heap.size w W0:=d3.trans (b0.mono d3.size)
   have hbox:C4 W0 (w2.heap.size + 1) 47 (.int .i64 x.q.k) x.q.d x.q.n x.q.c:=by
    rw [hx]
    dsimp only
    rw [e,e',e'',← z3]
    exact box0
   have zz:W0.heap.size=w2.heap.size + 2:=by omega
   have hI0:DatI w w2.heap.size (fun xs=>dkx (xs.map Nd.key)) [] W0:=⟨⟨_,bC0,World.ownsRow_nil _ _ _ _⟩,(fun y hy=>by cases hy),hw0⟩
   clear hW0 bC bC0 box0 b0 z0 z3 d3
   have hxt:x.t=t:=by rw [hx]
   refine nodesLoop w x (by rw [hx]) (by rw [hx]) (by rw [hx]) (gb:=w2.heap.size + 1) rfl hbox hw0 rfl (DatI w w2.heap.size (fun xs=>dkx (xs.map Nd.key)))
    (fun pre W W' h hb=>h.step hb) (fun pre W l r o h hl hn=>h.put hl hn o) (fun pre W h=>h.2.1) hI0
    (fun y a' W=>∃ Bx,w2.heap.size + 1 < Bx∧C6 W Bx (.int .i64 y.s) y.v (.int .i64 y.q.k) y.q.d y.q.n y.q.c∧a' = { tmps:=#[.agg #[.int .i64 q.k,.slice A n c,.slice A' n' c',.slice A'' n'' c''],.pointer (some ⟨w.heap.size,0,none⟩),.slice none 0 0,.pointer (some ⟨w2.heap.size,0,none⟩),.pointer (some ⟨Bx,0,none⟩),.agg #[.int .i64 q.k,.slice A n c,.slice A' n' c',.slice A'' n'' c''],.bool true,.bool false,.agg #[.int .i64 q.k,.slice A n c,.slice A' n' c',.slice A'' n'' c''],.func (.func 216) #[] #[.pointer (some ⟨w2.heap.size + 1,0,none⟩)],y.val,undef,undef,undef,undef,undef,undef],defers:=[] }) (fun y a' W l r o ⟨Bx,h1,h2,h3⟩ hl=>⟨Bx,h1,h2.put hl o,h3⟩) ?assign ?body ?done
   case assign =>
    intro l pre y W hI hW _
    obtain ⟨B1,m1,g1,B2,m2,g2,B3,m3,g3,e1,e2,e3⟩:=y.hq.form
    obtain ⟨B4,g4,e4,_⟩:=id y.hv
    have hyv:y.val=.agg #[.int .i64 y.s,.slice B4 (bs y.nm).length g4,.int .i64 y.q.k,.slice B1 m1 g1,.slice B2 m2 g2,.slice B3 m3 g3]:=by rw [Nd.val,e1,e2,e3,e4]
    have bal:=boxed6 W (.int .i64 y.s) (.slice B4 (bs y.nm).length g4) (.int .i64 y.q.k) (.slice B1 m1 g1) (.slice B2 m2 g2) (.slice B3 m3 g3)
    have HBal:=hide bal
    have hWz:w2.heap.size + 1 < W.heap.size:=by omega
    rw [e1,e2,e3,e4,hyv]
    clear hI hI0 hbox hw0 hx hxt zz bal hW e1 e2 e3 e4 hyv
    gi_wp2
    obtain ⟨wa',hwa',hc6,hba,hza⟩:=HBal.out
    rw [hwa']
    exact ⟨hba,_,hWz,hc6,rfl⟩
   case body =>
    rintro l pre y a' W hl ⟨⟨v,hC,hR⟩,hg,hb⟩ ⟨Bx,hBx,hbx,rfl⟩ hbw hpre
    obtain ⟨hg2,hl2⟩:=good_of (xs:=pre++[y]) HV.out (by rw [List.map_append]; exact hxt ▸ hpre)
    have hnext:dkx ((pre++[y]).map Nd.key)=dkx (pre.map Nd.key)++y.t.data:=by rw [List.map_append,dkx_append]; simp [dkx,Nd.key]
    have hroom:(dkx (pre.map Nd.key)).length + y.t.data.length≤1048576:=by
     have h1:=dkx_prefix (hxt ▸ hpre)
     rw [dkx_append,T.pre_dk,List.length_append] at h1
     simp only [dkx,Nd.key,List.append_nil] at h1
     omega
    dsimp only at hR
    have hdt:=(TIn.dt y.hq).below hb
    have hlo:w.heap.size≤W.heap.size:=hb.size
    have hcell:=hC.cell
    have x3:=hbx.c3
    have fin:=fun (v' : Value) (w1:World) (own' : w1.ownsRow w.heap.size 5 1 v' ((dkx (pre.map Nd.key)).length + (bs y.t.data).length) (bs (dkx (pre.map Nd.key))++bs y.t.data)) (hgr:W.grownBy w1 v.ownBlock)=>by
     obtain ⟨h1,h2,h3,h4,h5⟩:=held_stored hC hR hlo (Nat.le_of_lt hlt) own' hgr
     have hr2:(w1.setCell ⟨w2.heap.size,0,none⟩ v').ownsRow w.heap.size 5 1 v' (dkx ((pre++[y]).map Nd.key)).length (bs (dkx ((pre++[y]).map Nd.key))):=by
      rw [hnext,bs_append,List.length_append]
      exact own_len h3 (by rw [bs_length])
     exact (⟨h1,h4.from W0.heap.size,h5,⟨⟨v',h2,hr2⟩,hg2,hb.trans h5.below⟩⟩:Boxed w1 w2.heap.size 39 v∧KeepsFrom W0.heap.size W (w1.setCell ⟨w2.heap.size,0,none⟩ v')∧Holds w.heap.size W (w1.setCell ⟨w2.heap.size,0,none⟩ v')∧DatI w w2.heap.size (fun xs=>dkx (xs.map Nd.key)) (pre++[y]) (w1.setCell ⟨w2.heap.size,0,none⟩ v'))
    have HR:=hide hR
    have HD:=hide hdt
    have HLO:=hide hlo
    have FIN:=hide fin
    clear fin hC hg hb hbw hpre hg2 hnext hI0 hbox hw0 hx hxt zz hl2 hR hdt hlo
    generalize (dkx (pre.map Nd.key))=D at *
    generalize y.t.data=E at *
    gi_wp2_with (gi_at_builtin; refine wpListIn_app _ rfl (.tmp 11) (.tmp 14) _ rfl w.heap.size 5 i0 _ 1 Tryz.underlying39 hi0 hz0' hz1' hz2' rfl _ _ _ rfl HR.out _ (bs E) rfl HD.out (bs_one E) (by rw [bs_length]; simp only [maxLen]; omega) (by rw [bs_length]; omega) HLO.out ?_; intro v1 w1' own1 gr1; obtain ⟨A9,c9,hv9,-,-⟩:=own_slice own1; subst hv9; have FF:=hide (FIN.out _ _ own1 gr1); have hcell9:=FF.out.1.cell; have hfz9:=FF.out.1.frozen)
    exact FF.out.2
   case done =>
    rintro xs W hxs ⟨⟨v,hC,hR⟩,hg,hb⟩ hK
    have hlen:dkx (xs.map Nd.key)=t.dat:=by
     have h1:=hxt ▸ hxs
     rw [h1,T.pre_dk]
    dsimp only at hR
    rw [hlen] at hR
    have hcell:=hC.cell
    have HB:=hide hb
    have HK:=hide hK
    have HZ:=hide zz
    have HR:=hide hR
    clear hlen hb hK hg hC hI0 hbox hw0 hx hxt zz hR
    gi_wp2
    have zz:=HZ.out
    refine ⟨by simp,.inl ⟨_,_,rfl,run_takeDeferred HK.out,?_⟩⟩
    refine ⟨_,results_tmp rfl _ _ _,v,rfl,?_,HB.out.trans (belowK_b (w:=w) (Nat.le_refl _) W W0.heap.size _ _ (by omega) HK.out rfl rfl)⟩
    rw [HS.out]
    exact Own.of (ownsRow_putObj HR.out _ HK.out rfl) (by rw [bs_length])
end Go.Proofs.YtgaadpkefncnmaaGreatDoor
/-
  What TreeBytes gathers, node by node.
-/
namespace Go.Proofs.YtgaadpkefncnmaaGreatDoor
open Go.RowKit Go.Shelf
set_option linter.unusedVariables false
theorem own_any {w:World} {lo n size:Nat} {e:TypeId} {v:Value} {xs:List Value} (h:w.ownsRow lo e size v n xs):∃ m,Hid (m=n)∧w.ownsRow lo e size v m xs:=⟨n,hide rfl,h⟩
/-- What a node adds. -/
def tx (t:List Int):List Int:=if 400 < t.length then [] else txt t
theorem putText_tx (l t:List Int):putText l t=l++tx t:=by
 unfold tx
 split
 ·rw [putText,if_pos (by assumption),List.append_nil]
 ·exact putText_txt (by omega)
def nodeEnc:Nat × List Int × T→List Int
 | (s,nm,.node k d ns ks)=>(if 0 < s then tx nm else [])++([k]++(if k=2 then [(ks.length:Int)] else tx d))
def ekx:List (Nat × List Int × T)→List Int
 | []=>[]
 | k :: r=>nodeEnc k++ekx r
theorem ekx_append (a b:List (Nat × List Int × T)):ekx (a++b)=ekx a++ekx b:=by
 induction a with
 | nil=>rfl
 | cons k a ih=>rw [List.cons_append,ekx,ekx,ih,List.append_assoc]
theorem ekx_prefix {a b:List (Nat × List Int × T)} (h:a <+: b):(ekx a).length≤(ekx b).length:=by
 obtain ⟨c,rfl⟩:=h
 rw [ekx_append,List.length_append]
 omega
theorem T.pres_ek (ks:List T) (s:Nat) (h:∀ t∈ks,∀ nm,nm.length≤400→ekx (t.pre (s + 1) nm)=txt nm++t.enc) (ns:List (List Int)) (hn:∀ m,m < ks.length→(ns.getD m []).length≤400):ekx (T.pres ks ns (s + 1))=T.encs ks ns:=by
 induction ks generalizing ns with
 | nil=>rfl
 | cons t r ih =>
   have h0:(ns.headD []).length≤400:=by
    have:=hn 0 (by simp)
    cases ns <;> first | exact this | simp
   rw [T.pres,ekx_append,T.encs,h t (List.mem_cons_self ..) _ h0,ih (fun t ht=>h t (List.mem_cons_of_mem _ ht)) ns.tail (fun m hm=>by
    have:=hn (m + 1) (by simpa using hm)
    cases ns <;> first | exact this | simp)]
theorem T.pre_ek:∀ (t:T) (deep:Nat),t.okAt deep=true→∀ (s:Nat) (nm:List Int),nm.length≤400→ekx (t.pre s nm)=(if 0 < s then txt nm else [])++t.enc:=by
 intro t
 induction t using T.ind with
 | h k d ns ks ih =>
   intro deep hok s nm hnm
   obtain ⟨hnd,hoks⟩:=okAt_parts hok
   have htx:∀ l:List Int,l.length≤400→tx l=txt l:=fun l hl=>by rw [tx,if_neg (by omega)]
   rw [T.pre,ekx,nodeEnc,T.enc,htx nm hnm,List.append_assoc,List.append_assoc,List.singleton_append]
   congr 2
   by_cases h2:k=2
   ·subst h2
    obtain ⟨_,_,hl,hn⟩:=nodeOk_dir hnd
    rw [if_pos rfl,if_pos rfl,List.singleton_append,T.pres_ek ks s (fun t ht nm hnm=>by
     have:=ih t ht (deep + 1) (hoks t ht) (s + 1) nm hnm
     rwa [if_pos (by omega)] at this) ns (fun m hm=>by have:=hn m (by omega); omega)]
   ·obtain ⟨_,_,hd,_,hk⟩:=nodeOk_file h2 hnd
    obtain rfl:=List.eq_nil_of_length_eq_zero hk
    rw [if_neg h2,if_neg h2,htx d hd,T.pres,ekx,List.append_nil]
theorem treeOk_deep {t:T} (h:treeOk t=true):t.okAt 1=true:=by
 rw [treeOk,Bool.and_eq_true] at h
 exact h.1
theorem T.ek_room {t:T} (hv:treeOk t=true) (hb:t.bulk≤1048576):ekx (t.pre 0 [])=t.enc∧t.enc.length≤1049100:=by
 refine ⟨by rw [t.pre_ek 1 (treeOk_deep hv) 0 [] (by simp)]; rfl,?_⟩
 have:=encOf_room t hb
 rwa [encOf,if_pos hv] at this
theorem C6.step2 {lo:Nat} {w w' : World} {g:Nat} {a b c d e f:Value} (h:C6 w g a b c d e f) (hh:Steps lo w w'):C6 w' g a b c d e f:=hh.rows _ _ _ _ h (by decide) (by decide)
theorem TIn.at4 {w:World} {t:T} {q:Q} (h:TIn w t q):∃ k d ns ks,t=.node k d ns ks∧q.k=k∧Rd w q.d (bs d)∧∃ A c,q.c=.slice A ks.length c:=by
 obtain ⟨k,d,ns,ks⟩:=t
 obtain ⟨A,c,A',c',A'',c'',ed,hc1,hc2,en,hc1',hc2',ec,hc1'',hc2''⟩:=h.lens
 rw [TIn] at h
 exact ⟨k,d,ns,ks,rfl,h.1,h.2.1,A'',c'',ec⟩
end Go.Proofs.YtgaadpkefncnmaaGreatDoor
