/-
  Parts of the proof: OkS.
-/
import Derived.Test.YtgaadpkefncnmaaGreatDoorMp7
import Derived.StillTailTactics
import Derived.Deep.QuietTactic
import Derived.BigQuiet
import Derived.Deep.Cut
import Derived.Deep.DeepCutAuto
import Derived.Deep.CutBlock
/-
  The model's look at a whole tree.
-/
namespace Go.Proofs.YtgaadpkefncnmaaGreatDoor
open Go.RowKit
set_option linter.unusedVariables false
mutual
def T.size:T→Nat
 | .node _ _ _ ks=>1 + T.sizes ks
def T.sizes:List T→Nat
 | []=>0
 | t :: ts=>t.size + T.sizes ts
end
mutual
/-- The tree is valid below deep - 1 others. -/
def T.okAt:T→Nat→Bool
 | .node k d ns ks,deep=>decide (deep≤4) && ((T.node k d ns ks).nodeOk && T.okAts ks (deep + 1))
def T.okAts:List T→Nat→Bool
 | [],_=>true
 | t :: ts,deep=>t.okAt deep && T.okAts ts deep
end
theorem T.sizes_next {ks:List T} {k:Nat} (h:k < ks.length):T.sizes (ks.take (k + 1))=T.sizes (ks.take k) + (ks[k]).size:=by
 induction ks generalizing k with
 | nil=>simp at h
 | cons t r ih =>
   cases k with
   | zero=>simp [T.sizes]
   | succ k =>
     have:=ih (k:=k) (by simpa using h)
     simp only [List.take_succ_cons,T.sizes,List.getElem_cons_succ] at *
     omega
theorem T.sizes_take (ks:List T) (k:Nat):T.sizes (ks.take k)≤T.sizes ks:=by
 induction ks generalizing k with
 | nil=>simp [T.sizes]
 | cons t r ih =>
   cases k with
   | zero=>simp [T.sizes]
   | succ k =>
     have:=ih k
     simp only [List.take_succ_cons,T.sizes]
     omega
theorem T.okAts_mem {ks:List T} {deep:Nat} (h:T.okAts ks deep=true):∀ t∈ks,t.okAt deep=true:=by
 induction ks with
 | nil=>intro t ht; cases ht
 | cons t0 ts ih =>
   rw [T.okAts,Bool.and_eq_true] at h
   intro t ht
   rcases List.mem_cons.1 ht with rfl | ht
   ·exact h.1
   ·exact ih h.2 t ht
theorem T.okAts_all {ks:List T} {deep:Nat} (h:∀ t∈ks,t.okAt deep=true):T.okAts ks deep=true:=by
 induction ks with
 | nil=>rw [T.okAts]
 | cons t0 ts ih =>
   rw [T.okAts,h t0 (List.mem_cons_self ..),ih fun t ht=>h t (List.mem_cons_of_mem _ ht)]
   rfl
/-- What l2ok answers. -/
def okRest (t:T) (deep:Nat) (left:Int):Int:=if t.okAt deep then rest left t.size else -1
theorem asc_at {ns:List (List Int)} : asc ns=true↔∀ m,m < ns.length→nameAt ns m=true:=by
 have key:∀ f k,ascFrom ns f k=true↔∀ m,k≤m→m < k + f→nameAt ns m=true:=by
  intro f
  induction f with
  | zero =>
    intro k
    rw [ascFrom]
    exact ⟨fun _ m h1 h2=>by omega,fun _=>rfl⟩
  | succ f ih =>
    intro k
    rw [ascFrom,Bool.and_eq_true,ih (k + 1)]
    constructor
    ·rintro ⟨h1,h2⟩ m h3 h4
     by_cases hm:m=k
     ·subst hm; exact h1
     ·exact h2 m (by omega) (by omega)
    ·intro h
     exact ⟨h k (Nat.le_refl _) (by omega),fun m h1 h2=>h m (by omega) (by omega)⟩
 rw [asc,key]
 exact ⟨fun h m hm=>h m (Nat.zero_le _) (by omega),fun h m _ hm=>h m (by omega)⟩
theorem Rd4.get {w:World} {A:Option Addr} {n c m:Nat} {qs:List Q} {q:Q} (h:Rd4 w (.slice A n c) qs) (hq:qs[m]? = some q):∃ b off,A=some ⟨b,off,none⟩∧b < w.heap.size∧w.rangeAt b (off + m * 4) [.int .i64 q.k,q.d,q.n,q.c]:=by
 obtain ⟨A',c',e,_,_,h3⟩:=h
 injection e with e1 _ _
 obtain ⟨b,off,e2,hb,hc⟩:=h3 (Nat.lt_of_le_of_lt (Nat.zero_le _) (List.getElem?_eq_some_iff.1 hq).1)
 obtain ⟨x0,x1,x2,x3⟩:=hc m q hq
 exact ⟨b,off,e1.trans e2,hb,Rd4.range x0 x1 x2 x3⟩
theorem rangeAt_below {w w' : World} {b o:Nat} {cs:List Value} (h:w.rangeAt b o cs) (hb:Below w.heap.size w w') (hl:b < w.heap.size):w'.rangeAt b o cs:=fun j v hv=>(hb.cell (p:=⟨b,o + j,none⟩) hl).trans (h j v hv)
def OkAt (t:T):Prop:=∀ (q:Q) (deep:Nat) (left:Int) (w:World),t.Byts→0≤left→left≤1000→deep≤100→TIn w t q →
 Calls Tryz.prog 187 #[q.val,.int .i64 deep,.int .i64 left] w fun e w'=>e=.returned (.int .i64 (okRest t deep left))∧Below w.heap.size w w'
set_option maxRecDepth 20000 in
set_option maxHeartbeats 4000000 in
theorem specOk:∀ t:T,OkAt t:=by
 intro t
 induction t using T.ind with
 | h k d ns ks ih =>
   intro q deep left w hB h0 h1 hdp hq
   obtain ⟨A,c,A',c',A'',c'',ed,hc1,hc2,en,hc1',hc2',ec,hc1'',hc2''⟩:=hq.lens
   rw [TIn] at hq
   obtain ⟨hk,_,hn,qs,hkk,hks⟩:=hq
   rw [T.Byts] at hB
   obtain ⟨hBd,hBn,hBk⟩:=hB
   obtain ⟨D,hD⟩:∃ D,d.length=D:=⟨_,rfl⟩
   obtain ⟨N,hN⟩:∃ N,ns.length=N:=⟨_,rfl⟩
   obtain ⟨K,hK⟩:∃ K,ks.length=K:=⟨_,rfl⟩
   have hok:(T.node k d ns ks).nodeOk=if k=2 then decide (D=0∧K≤6∧N=K) && asc ns else decide (0≤k∧k≤3∧D≤400∧N=0∧K=0):=by rw [T.nodeOk,hD,hN,hK]
   rw [hD] at ed hc1
   rw [hN] at en hc1'
   rw [hK] at ec hc1''
   unfold maxLen at hc2 hc2' hc2''
   obtain ⟨F,hF⟩:∃ F,okRest (.node k d ns ks) deep left=F:=⟨_,rfl⟩
   have hbad:T.okAt (.node k d ns ks) deep=false→F = -1:=fun h=>by rw [← hF,okRest,h]; rfl
   have hsmall:left < ((T.node k d ns ks).size:Int)→F = -1:=fun h=>by
    rw [← hF,okRest]
    split
    ·rw [rest,if_neg (by omega)]
    ·rfl
   rw [hF]
   obtain ⟨wa,hwa,box,ba,hz⟩:=boxed w q 47
   have x0:=box.c0
   have x1:=box.c1
   have x2:=box.c2
   have x3:=box.c3
   rw [hk] at x0 hwa box
   rw [ed] at x1 hwa box
   rw [ec] at x3 hwa box
   rw [en] at x2 hwa box
   rw [show q.val=.agg #[.int .i64 k,.slice A D c,.slice A' N c',.slice A'' K c''] by rw [← hk,← ed,← en,← ec]]
   have hdep:T.okAt (.node k d ns ks) deep=(decide (deep≤4) && ((T.node k d ns ks).nodeOk && T.okAts ks (deep + 1))):=by rw [T.okAt]
   by_cases hfirst:left < 1∨4 < deep∨k < 0∨3 < k∨N≠K∨6 < K
   ·have hm1:F = -1:=by
     rcases hfirst with h | h
     ·exact hsmall (by rw [T.size]; omega)
     ·refine hbad ?_
      rw [hdep]
      rcases h with h | h
      ·rw [decide_eq_false (by omega)]; rfl
      ·have:(T.node k d ns ks).nodeOk=false:=by
        rw [hok]
        split
        ·rw [decide_eq_false (by omega)]; rfl
        ·rw [decide_eq_false (by omega)]
       rw [this]
       simp
    have HM1:=hide hm1
    clear hm1 hbad hsmall hF hok hdep hks hkk hn ih box
    rcases (by omega:left < 1∨(1≤left∧4 < deep)∨(1≤left∧deep≤4∧k < 0)∨(1≤left∧deep≤4∧0≤k∧3 < k)∨(1≤left∧deep≤4∧0≤k∧k≤3∧N≠K)∨(1≤left∧deep≤4∧0≤k∧k≤3∧N=K∧6 < K)) with g | ⟨g,g1⟩ | ⟨g,g1,g2⟩ | ⟨g,g1,g2,g3⟩ | ⟨g,g1,g2,g3,g4⟩ | ⟨g,g1,g2,g3,g4,g5⟩
    ·go_enter Tryz.func187,Tryz.ntmps187
     go_wp2
     go_ret
     exact ⟨ret_int HM1.out.symm,ba⟩
    ·go_enter Tryz.func187,Tryz.ntmps187
     go_wp2
     go_ret
     exact ⟨ret_int HM1.out.symm,ba⟩
    ·go_enter Tryz.func187,Tryz.ntmps187
     go_wp2
     go_ret
     exact ⟨ret_int HM1.out.symm,ba⟩
    ·go_enter Tryz.func187,Tryz.ntmps187
     go_wp2
     go_ret
     exact ⟨ret_int HM1.out.symm,ba⟩
    ·have he:((N:Int) != (K:Int))=true:=by simpa using (by omega:¬ (N:Int)=(K:Int))
     go_enter Tryz.func187,Tryz.ntmps187
     go_wp2
     go_ret
     exact ⟨ret_int HM1.out.symm,ba⟩
    ·subst g4
     have he:((N:Int) != (N:Int))=false:=by simp
     go_enter Tryz.func187,Tryz.ntmps187
     go_wp2
     go_ret
     exact ⟨ret_int HM1.out.symm,ba⟩
   ·have g:1≤left:=by omega
    have g1:deep≤4:=by omega
    have g2:0≤k:=by omega
    have g3:k≤3:=by omega
    have g4:N=K:=by omega
    have g5:N≤6:=by omega
    subst g4
    clear hfirst
    have he:((N:Int) != (N:Int))=false:=by simp
    rw [decide_eq_true g1,Bool.true_and] at hdep
    go_enter Tryz.func187,Tryz.ntmps187
    go_upto_if 43 with (fail)
    go_cut [] (fun wx=>wx=wa∧T.okAt (.node k d ns ks) deep=(asc ns && T.okAts ks (deep + 1)))
    case first =>
     clear ih hn hkk hks
     by_cases hk2:k=2
     ·subst hk2
      rw [if_pos rfl] at hok
      by_cases hD0:D=0
      ·subst hD0
       rw [decide_eq_true ⟨rfl,g5,rfl⟩,Bool.true_and] at hok
       rw [hok] at hdep
       have HD:=hide hdep
       clear hok hdep hbad hsmall hF box
       go_wp2
       go_meet
       exact ⟨rfl,HD.out⟩
      ·rw [decide_eq_false (by omega),Bool.false_and] at hok
       rw [hok,Bool.false_and] at hdep
       have HM1:=hide (hbad hdep)
       clear hok hdep hbad hsmall hF box
       go_wp2
       go_ret
       exact ⟨ret_int HM1.out.symm,ba⟩
     ·rw [if_neg hk2] at hok
      have hkb:(k == 2)=false:=by simpa using hk2
      by_cases hDK:D≤400∧N=0
      ·obtain ⟨hD4,hN0⟩:=hDK
       rw [decide_eq_true ⟨g2,g3,hD4,hN0,hN0⟩] at hok
       have hasc:asc ns=true:=by rw [asc,hN,hN0,ascFrom]
       rw [hok,← hasc] at hdep
       have HD:=hide hdep
       have he2:decide (0 < N)=false:=decide_eq_false (by omega)
       have he3:decide ((0:Int) < (N:Int))=false:=decide_eq_false (by omega)
       clear hok hdep hbad hsmall hF box hasc hN0 hN hK g5
       go_wp2
       go_meet
       exact ⟨rfl,HD.out⟩
      ·rw [decide_eq_false (by omega)] at hok
       rw [hok,Bool.false_and] at hdep
       have HM1:=hide (hbad hdep)
       clear hok hdep hbad hsmall hF box
       by_cases hD4:D≤400
       ·have hN0:0 < N:=by omega
        go_wp2
        go_ret
        exact ⟨ret_int HM1.out.symm,ba⟩
       ·go_wp2
        go_ret
        exact ⟨ret_int HM1.out.symm,ba⟩
    case rest =>
     clear hok hdep
     obtain ⟨hwc,hdep⟩:=hcut
     subst hwc
     have HBOX:=hide box
     have HDEP:=hide hdep
     have HBAD:=hide hbad
     have HSMALL:=hide hsmall
     have HF:=hide hF
     have HNN:=hide hn
     have HKK:=hide hkk
     have HKS:=hide hks
     have HIH:=hide ih
     have HBN:=hide hBn
     have HBK:=hide hBk
     have HNL:=hide hN
     have HKL:=hide hK
     clear box hdep hbad hsmall hF hn hkk hks ih hBn hBk hN hK hBd hwa x0 x1 x2 x3 hD
     go_wp2
     go_loopw [2,7] (fun u i wr=>∃ j:Nat,j≤N∧i=.int .i64 j∧u=.int .i64 (left - 1 - T.sizes (ks.take j))∧(T.sizes (ks.take j):Int)≤left - 1∧Hid (∀ m,m < j→nameAt ns m=true)∧Hid (∀ t∈ks.take j,t.okAt (deep + 1)=true)∧Below w.heap.size w wr∧C4 wr w.heap.size 47 (.int .i64 k) (.slice A D c) (.slice A' N c') (.slice A'' N c''))
      (fun _ i _=>N - (intOf i).toNat)
     case atStart=>exact ⟨0,Nat.zero_le _,rfl,by simp [T.sizes],by simp [T.sizes]; omega,hide (fun m hm=>by omega),hide (fun t ht=>by simp at ht),ba,HBOX.out⟩
     case round =>
      obtain ⟨j,hj,rfl,rfl,hle,HNM,HOK,hbel,box⟩:=hrel
      have x2:=box.c2
      have x3:=box.c3
      have HB:=hide hbel
      have HX:=hide box
      by_cases hlt:j < N
      ·have hjn:j < ns.length:=by rw [HNL.out]; exact hlt
       have hjk:j < ks.length:=by rw [HKL.out]; exact hlt
       have hnn:=HNN.out
       rw [en] at hnn
       obtain ⟨b,off,u,hA',hblt,cu,ru⟩:=hnn.get hjn
       subst hA'
       have q1:=(hbel.cell (p:=⟨b,off + j,none⟩) hblt).trans cu
       have rr1:=ru.below hbel
       have hBj:Byt (ns.getD j []):=HBN.out _ (by simp [List.getD,List.getElem?_eq_getElem hjn])
       have hnm:nameAt ns j=(entryOk (ns.getD j []) && (decide (j=0) || lessL (ns.getD (j - 1) []) (ns.getD j []))):=rfl
       have hent:∀ W,Rd W u (bs (ns.getD j []))→Calls Tryz.prog 159 #[u] W fun e w'=>e=.returned (.bool (entryOk (ns.getD j [])))∧∃ m,w' = W.drewN m:=fun W hr=>(specEntryQ (ns.getD j []) hBj u W hr).mono fun e w' ⟨he,hw⟩=>⟨he,0,hw.symm⟩
       have k1:(j:Int) < (N:Int):=by omega
       have k0:(0:Int)≤(j:Int):=by omega
       have k2:(j:Int).toNat=j:=by omega
       go_upto_region 12 with (fail)
       go_cut [91] (fun v wx=>v=.bool (!nameAt ns j)∧∃ m,wx=wr.drewN m)
       case first =>
        have HE:=hide hent
        have hq:∀ m,Rd (wr.drewN m) u (bs (ns.getD j [])):=fun m=>rr1
        have HQ:=hide hq
        have HNA:=hide hnm
        clear hent hq hnm box x3 g g1 g2 g3 g5 hle
        cases he:entryOk (ns.getD j []) with
        | false =>
          rw [he] at HE HNA
          clear he hbel
          go_quiet ((go_at_call 159; exact Calls.quiet_of (HE.out _ (HQ.out _))))
          go_wp2
          go_meet
          exact ⟨by rw [HNA.out]; rfl,_,rfl⟩
        | true =>
          rw [he,Bool.true_and] at HNA
          rw [he] at HE
          clear he
          by_cases hj0:j=0
          ·subst hj0
           have q1' : wr.cell? ⟨b,off,none⟩=some u:=by simpa using q1
           clear hbel
           go_quiet ((go_at_call 159; exact Calls.quiet_of (HE.out _ (HQ.out _))))
           go_wp2
           go_meet
           exact ⟨by rw [HNA.out]; rfl,_,rfl⟩
          ·rw [decide_eq_false hj0,Bool.false_or] at HNA
           obtain ⟨b2,off2,u2,hA2,_,cu2,ru2⟩:=hnn.get (m:=j - 1) (by omega)
           injection hA2 with hA3
           injection hA3 with hA4 hA5
           subst hA4 hA5
           have q2:=(hbel.cell (p:=⟨b,off + (j - 1),none⟩) hblt).trans cu2
           have rr2:=ru2.below hbel
           have hBi:Byt (ns.getD (j - 1) []):=HBN.out _ (by simp [List.getD,List.getElem?_eq_getElem (show j - 1 < ns.length by omega)])
           have cv1:=conv_rd (P:=Tryz.prog) Tryz.underlying39 Tryz.underlying5 Tryz.underlying9 rr1
           have cv2:=conv_rd (P:=Tryz.prog) Tryz.underlying39 Tryz.underlying5 Tryz.underlying9 rr2
           have cw1:=fun m=>conv_rd (P:=Tryz.prog) Tryz.underlying39 Tryz.underlying5 Tryz.underlying9 (show Rd (wr.drewN m) u (bs (ns.getD j [])) from rr1)
           have cw2:=fun m=>conv_rd (P:=Tryz.prog) Tryz.underlying39 Tryz.underlying5 Tryz.underlying9 (show Rd (wr.drewN m) u2 (bs (ns.getD (j - 1) [])) from rr2)
           have hls:=less_str hBi hBj
           have k3:(j:Int) - 1 < (N:Int):=by omega
           have k4:(0:Int)≤(j:Int) - 1:=by omega
           have k5:((j:Int) - 1).toNat=j - 1:=by omega
           have k6:IntKind.i64.wrap ((j:Int) - 1)=(j:Int) - 1:=IntWalk.i64_in _ (by omega)
           have k7:0 < j:=by omega
           generalize lessL (ns.getD (j - 1) []) (ns.getD j [])=L at *
           generalize strOfNums (ns.getD (j - 1) [])=s1 at *
           generalize strOfNums (ns.getD j [])=s2 at *
           clear hbel hnn rr2 hBi hBj hj0
           cases L with
           | true =>
             go_quiet ((go_at_call 159; exact Calls.quiet_of (HE.out _ (HQ.out _))))
             go_wp2
             go_meet
             exact ⟨by rw [HNA.out]; rfl,_,rfl⟩
           | false =>
             go_quiet ((go_at_call 159; exact Calls.quiet_of (HE.out _ (HQ.out _))))
             go_wp2
             go_meet
             exact ⟨by rw [HNA.out]; rfl,_,rfl⟩
       case rest =>
        obtain ⟨hv,m,hwm⟩:=hcut
        subst hwm
        have hbel2:Below w.heap.size w (wr.drewN m):=below_drewN hbel m
        have box2:C4 (wr.drewN m) w.heap.size 47 (.int .i64 k) (.slice A D c) (.slice (some ⟨b,off,none⟩) N c') (.slice A'' N c''):=box
        have y2:=box2.c2
        have y3:=box2.c3
        clear x2 x3 q1 cu ru rr1 hent hnm hBj
        cases hna:nameAt ns j with
        | false =>
          rw [hna] at hv
          subst hv
          have hm1:F = -1:=HBAD.out (by
           rw [HDEP.out]
           have:asc ns=false:=by
            rw [Bool.eq_false_iff]
            intro h
            rw [asc_at.1 h j hjn] at hna
            cases hna
           rw [this]
           rfl)
          have HM1:=hide hm1
          have HB2:=hide hbel2
          clear hm1 hbel2 hbel box box2 hna hnn hle
          go_wp2
          go_ret
          exact ⟨ret_int HM1.out.symm,HB2.out⟩
        | true =>
          rw [hna] at hv
          subst hv
          obtain ⟨q',hq',hqt⟩:=HKS.out.at_ j ks[j] (List.getElem?_eq_getElem hjk)
          have hkk:=HKK.out
          rw [ec] at hkk
          obtain ⟨b3,off3,hA3,hb3,rng⟩:=hkk.get hq'
          subst hA3
          have rng2:=rangeAt_below rng hbel2 hb3
          have hBkid:(ks[j]).Byts:=T.Bytss.mem HBK.out _ (List.getElem_mem hjk)
          have hcall:=HIH.out ks[j] (List.getElem_mem hjk) q' (deep + 1) (left - 1 - T.sizes (ks.take j)) (wr.drewN m) hBkid (by omega) (by omega) (by omega) (hqt.below hbel2)
          have e1:((deep + 1:Nat):Int)=(deep:Int) + 1:=by omega
          rw [e1] at hcall
          have hnext:=T.sizes_next hjk
          have htk:ks.take (j + 1)=ks.take j++[ks[j]]:=List.take_succ_eq_append_getElem hjk
          have hszle:=T.sizes_take ks (j + 1)
          have hmem:ks[j]∈ks:=List.getElem_mem hjk
          have HNM2:Hid (∀ m,m < j + 1→nameAt ns m=true):=hide (fun m hm=>by
           by_cases h:m=j
           ·subst h; exact hna
           ·exact HNM.out m (by omega))
          have HRNG:=hide rng2
          have HB2:=hide hbel2
          have HBX:=hide box2
          have HTK:=hide htk
          generalize hkt:ks[j]=t at *
          generalize hS:T.sizes (ks.take j)=S at *
          generalize hS2:T.sizes (ks.take (j + 1))=S2 at *
          have HS2:=hide hS2
          have d1:(deep:Int)≤4:=by omega
          clear hkk rng rng2 hq' hqt hBkid hbel hbel2 box box2 hna hnn hkt hS hS2 htk e1 hb3
          by_cases hgood:t.okAt (deep + 1)=true∧(t.size:Int)≤left - 1 - S
          ·obtain ⟨hg1,hg2⟩:=hgood
           rw [okRest,if_pos hg1,rest,if_pos hg2] at hcall
           have HOK2:Hid (∀ t'∈ks.take (j + 1),t'.okAt (deep + 1)=true):=hide (fun t' ht=>by
            rw [HTK.out] at ht
            rcases List.mem_append.1 ht with ht | ht
            ·exact HOK.out t' ht
            ·rw [List.mem_singleton.1 ht]; exact hg1)
           have hr:¬ (left - 1 - (S:Int) - (t.size:Int) < 0):=by omega
           clear hmem hg1
           go_wp2_with ((with_reducible refine at_slot 96 ?_); refine wpList_load_mid rfl _ _ rfl b3 (off3 + j * 4) rfl _ _ HRNG.out Tryz.underlying47 rfl (by kernel_rfl) ?_)
           refine hcall.mono ?_
           rintro e w2 ⟨rfl,bb2⟩
           go_wp2_with fail
           go_roundw
           case rel=>exact ⟨j + 1,by omega,by go_num,by rw [HS2.out,hnext]; go_num,by rw [HS2.out]; omega,HNM2,HOK2,HB2.out.trans (bb2.mono HB2.out.size),HBX.out.step bb2⟩
           case measure=>simp [intOf]; omega
          ·have hval:okRest t (deep + 1) (left - 1 - S) = -1:=by
            rw [okRest]
            split
            ·rename_i h; rw [rest,if_neg (fun h2=>hgood ⟨h,h2⟩)]
            ·rfl
           rw [hval] at hcall
           have hm1:F = -1:=by
            by_cases hto:t.okAt (deep + 1)=true
            ·refine HSMALL.out ?_
             have:¬ (t.size:Int)≤left - 1 - S:=fun h=>hgood ⟨hto,h⟩
             rw [T.size]
             omega
            ·refine HBAD.out ?_
             rw [HDEP.out]
             have:T.okAts ks (deep + 1)=false:=by
              rw [Bool.eq_false_iff]
              intro h
              exact hto (T.okAts_mem h t hmem)
             rw [this,Bool.and_false]
           have HM1:=hide hm1
           clear hm1 hmem hgood hval
           go_wp2_with ((with_reducible refine at_slot 96 ?_); refine wpList_load_mid rfl _ _ rfl b3 (off3 + j * 4) rfl _ _ HRNG.out Tryz.underlying47 rfl (by kernel_rfl) ?_)
           refine hcall.mono ?_
           rintro e w2 ⟨rfl,bb2⟩
           go_wp2_with fail
           go_ret
           exact ⟨ret_int HM1.out.symm,HB2.out.trans (bb2.mono HB2.out.size)⟩
      ·obtain rfl:j=N:=by omega
       have e2:ks.take j=ks:=List.take_of_length_le (by rw [HKL.out]; omega)
       have hall:T.okAt (.node k d ns ks) deep=true:=by
        rw [HDEP.out,asc_at.2 (fun m hm=>HNM.out m (by rw [HNL.out] at hm; exact hm)),T.okAts_all (fun t ht=>HOK.out t (by rw [e2]; exact ht))]
        rfl
       rw [e2] at hle ⊢
       have hfin:F=left - 1 - T.sizes ks:=by
        rw [← HF.out,okRest,hall,if_pos rfl,T.size,rest,if_pos (by omega)]
        omega
       have HFIN:=hide hfin
       clear hfin hall e2 hbel box
       go_wp2
       go_ret
       exact ⟨ret_int HFIN.out.symm,HB.out⟩
end Go.Proofs.YtgaadpkefncnmaaGreatDoor
