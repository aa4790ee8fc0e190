/-
  Parts of the proof: BytI.
-/
import Derived.Test.YtgaadpkefncnmaaGreatDoorMp12
/-
  The program's TreeBytes.
-/
namespace Go.Proofs.YtgaadpkefncnmaaGreatDoor
open Go.RowKit Go.Shelf
set_option linter.unusedVariables false
attribute [local go_sem] Oper.semAt_some
set_option maxRecDepth 20000 in
set_option maxHeartbeats 1600000 in
theorem implTreeBytes (t:T) (hB:t.Byts) (hbk:t.bulk≤1048576) (q:Q) (w:World) (hq:TIn w t q) :
  Calls Tryz.prog 203 #[q.val] w fun e w'=>∃ v,e=.returned (.tuple #[v,.bool (treeOk t)])∧Own 5 w.heap.size w'.heap.size w' v (bs (encOf t))∧Below w.heap.size w w':=by
 refine (callsIn_wide (n:=6)).1 ?_
 obtain ⟨i0,hi0,hz0',hz1',hz2'⟩:=info_parts u8info
 obtain ⟨A,n,c,A',n',c',A'',n'',c'',e,e',e''⟩:=hq.form
 obtain ⟨x,hx⟩:∃ x:Nd w,x=⟨0,[],t,.slice none 0 0,q,⟨none,0,rfl,Nat.zero_le _,Nat.zero_le _,fun h=>absurd h (by simp [bs])⟩,(fun _ h=>by cases h),hq,hB⟩:=⟨_,rfl⟩
 have hnodes:=fun W (hb:Below w.heap.size w W)=>nodes t q W (hq.below hb)
 have hok:=fun W (hb:Below w.heap.size w W)=>implTreeOk t hB q W (hq.below hb)
 have hqv:q.val=.agg #[.int .i64 q.k,.slice A n c,.slice A' n' c',.slice A'' n'' c'']:=by rw [← e,← e',← e'']
 obtain ⟨w1,hw1,box,b1,z1⟩:=boxed w q 47
 rw [e,e',e''] at hw1 box
 rw [hqv] at hnodes hok ⊢
 have HN:=hide hnodes
 have HOK:=hide (hok w1 b1)
 have y0:=box.c0
 have y1:=box.c1
 have y2:=box.c2
 have y3:=box.c3
 clear hnodes hok
 refine callsIn_of_wp_marks Tryz.func203 rfl trivial ?_ rfl
 simp only [Tryz.ntmps203,List.size_toArray,List.length_cons,List.length_nil,Nat.reduceAdd,Nat.reduceSub,Array.replicate_succ,Array.replicate_zero,List.push_toArray,List.append_toArray,List.nil_append,List.cons_append]
 gi_wp2
 refine ⟨trivial,?_⟩
 refine (callsIn_wide.2 HOK.out).mono ?_
 rintro e w2 ⟨rfl,b2⟩
 have box2:=box.step b2
 have d2:=b1.trans (b2.mono b1.size)
 clear y0 y1 y2 y3
 cases hv:treeOk t with
 | false =>
   have hS:encOf t = []:=by rw [encOf,hv]; rfl
   have HS:=hide hS
   clear hS hx box2 HN HOK box hw1 hqv
   gi_wp2
   refine ⟨.tuple #[.slice none 0 0,.bool false],by simp [results,Tryz.f203,go_sem],_,by rw [hv],?_,d2⟩
   rw [HS.out]
   exact ⟨World.ownsRow_nil _ _ _ _,Nat.le_refl _,fun g hg=>by simp [Value.ownBlock] at hg⟩
 | true =>
   have hS:encOf t=t.enc:=by rw [encOf,hv]; rfl
   have hdb:=T.ek_room hv hbk
   have HS:=hide hS
   have HV:=hide hv
   have hlt:w.heap.size < w2.heap.size:=by have:=b2.size; omega
   have bal:Below w2.heap.size w2 (w2.alloc (.cells #[.slice none 0 0] 39)):=(Below.refl _ _).alloc (Nat.le_refl _) _
   have box3:=box2.step bal
   have bC:=Boxed.new w2 39 (.slice none 0 0)
   have hz3:(w2.alloc (.cells #[.slice none 0 0] 39)).heap.size=w2.heap.size + 1:=by simp
   have d3:=d2.trans (bal.mono d2.size)
   have y0:=box3.c0
   have y1:=box3.c1
   have y2:=box3.c2
   have y3:=box3.c3
   have D3:=hide d3
   have BC:=hide bC
   have HZ3:=hide hz3
   clear hS hv hw1 HOK box hqv box2 box3 bal d3 bC hz3
   gi_wp2
   refine ⟨trivial,?_⟩
   refine (callsIn_wide.2 (HN.out _ D3.out)).mono ?_
   rintro e w4 ⟨rfl,rfl⟩
   clear y0 y1 y2 y3
   have bC:=BC.out
   have d3:=D3.out
   have z3:=HZ3.out
   obtain ⟨w3,hw3⟩:∃ w3,w2.alloc (.cells #[.slice none 0 0] 39)=w3:=⟨_,rfl⟩
   rw [hw3] at bC d3 z3 ⊢
   clear D3 BC HZ3 HN hw3
   gi_wp2
   obtain ⟨W0,hW0,box0,b0,z0⟩:=boxed w3 ⟨q.k,.slice A n c,.slice A' n' c',.slice A'' n'' c''⟩ 47
   rw [hW0]
   have bC0:Boxed W0 w2.heap.size 39 (.slice none 0 0):=(b0.block _ bC.lt).trans bC
   have hw0:Below w.heap.size w W0:=d3.trans (b0.mono d3.size)
   have hbox:C4 W0 (w2.heap.size + 1) 47 (.int .i64 x.q.k) x.q.d x.q.n x.q.c:=by
    rw [hx]
    dsimp only
    rw [e,e',e'',← z3]
    exact box0
   have zz:W0.heap.size=w2.heap.size + 2:=by omega
   have hI0:DatI w w2.heap.size (fun xs=>ekx (xs.map Nd.key)) [] W0:=⟨⟨_,bC0,World.ownsRow_nil _ _ _ _⟩,(fun y hy=>by cases hy),hw0⟩
   clear hW0 bC bC0 box0 b0 z0 z3 d3
   have hxt:x.t=t:=by rw [hx]
   obtain ⟨FR,hFR⟩:∃ FR:Value→Value→Act,FR=fun yv bv=>{ tmps:=#[.agg #[.int .i64 q.k,.slice A n c,.slice A' n' c',.slice A'' n'' c''],.pointer (some ⟨w.heap.size,0,none⟩),.slice none 0 0,.bool false,.pointer (some ⟨w2.heap.size,0,none⟩),bv,.agg #[.int .i64 q.k,.slice A n c,.slice A' n' c',.slice A'' n'' c''],.bool true,.bool false,.agg #[.int .i64 q.k,.slice A n c,.slice A' n' c',.slice A'' n'' c''],.func (.func 216) #[] #[.pointer (some ⟨w2.heap.size + 1,0,none⟩)],yv,undef,undef,undef,undef,undef,undef,undef,undef,undef,undef,undef,undef,undef,undef,undef,undef,undef,undef,undef,undef,undef,undef,undef,undef,undef,undef,undef,undef,undef,undef,undef,undef],defers:=[] }:=⟨_,rfl⟩
   have HFR:=hide hFR
   clear hFR
   refine nodesLoop w x (by rw [hx]) (by rw [hx]) (by rw [hx]) (gb:=w2.heap.size + 1) rfl hbox hw0 rfl (DatI w w2.heap.size (fun xs=>ekx (xs.map Nd.key)))
    (fun pre W W' h hb=>h.step hb) (fun pre W l r o h hl hn=>h.put hl hn o) (fun pre W h=>h.2.1) hI0
    (fun y a' W=>∃ Bx,w2.heap.size + 1 < Bx∧C6 W Bx (.int .i64 y.s) y.v (.int .i64 y.q.k) y.q.d y.q.n y.q.c∧a' = FR y.val (.pointer (some ⟨Bx,0,none⟩))) (fun y a' W l r o ⟨Bx,h1,h2,h3⟩ hl=>⟨Bx,h1,h2.put hl o,h3⟩) ?assign ?body ?done
   case assign =>
    intro l pre y W hI hW _
    obtain ⟨B1,m1,g1,B2,m2,g2,B3,m3,g3,e1,e2,e3⟩:=y.hq.form
    obtain ⟨B4,g4,e4,_⟩:=id y.hv
    have hyv:y.val=.agg #[.int .i64 y.s,.slice B4 (bs y.nm).length g4,.int .i64 y.q.k,.slice B1 m1 g1,.slice B2 m2 g2,.slice B3 m3 g3]:=by rw [Nd.val,e1,e2,e3,e4]
    have bal:=boxed6 W (.int .i64 y.s) (.slice B4 (bs y.nm).length g4) (.int .i64 y.q.k) (.slice B1 m1 g1) (.slice B2 m2 g2) (.slice B3 m3 g3)
    have HBal:=hide bal
    have hWz:w2.heap.size + 1 < W.heap.size:=by omega
    rw [e1,e2,e3,e4,hyv]
    clear hI hI0 hbox hw0 hx hxt zz bal hW e1 e2 e3 e4 hyv
    gi_wp2
    obtain ⟨wa',hwa',hc6,hba,hza⟩:=HBal.out
    rw [hwa']
    exact ⟨hba,_,hWz,hc6,by rw [HFR.out]⟩
   case body =>
    rintro l pre y a' W hl ⟨⟨v,hC,hR⟩,hg,hb⟩ ⟨Bx,hBx,hbx,rfl⟩ hbw hpre
    obtain ⟨hg2,hl2⟩:=good_of (xs:=pre++[y]) HV.out (by rw [List.map_append]; exact hxt ▸ hpre)
    obtain ⟨kk,dd,nn,kks,hyt,hyk,hyd,Ac,cc,hyc⟩:=TIn.at4 y.hq
    have hgd:=(hg2 y (by simp)).2
    rw [hyt] at hgd
    have hnext:ekx ((pre++[y]).map Nd.key)=ekx (pre.map Nd.key)++nodeEnc y.key:=by rw [List.map_append,ekx_append]; simp [ekx]
    have hroom:(ekx (pre.map Nd.key)).length + (nodeEnc y.key).length≤1049100:=by
     have h1:=ekx_prefix (hxt ▸ hpre)
     obtain ⟨h2,h3⟩:=T.ek_room HV.out hbk
     rw [ekx_append,h2,List.length_append] at h1
     simp only [ekx,List.append_nil] at h1
     omega
    have hne:nodeEnc y.key=(if 0 < y.s then tx y.nm else [])++([kk]++(if kk=2 then [(kks.length:Int)] else tx dd)):=by rw [Nd.key,hyt,nodeEnc]
    have hk03:0≤kk∧kk≤3∧(kk=2→kks.length≤6):=by
     by_cases h2:kk=2
     ·subst h2; exact ⟨by omega,by omega,fun _=>(nodeOk_dir hgd).2.1⟩
     ·obtain ⟨h3,h4,_⟩:=nodeOk_file h2 hgd
      exact ⟨h3,h4,fun h=>absurd h h2⟩
    obtain ⟨k0,k3,k6⟩:=hk03
    dsimp only at hR
    have hlo:w.heap.size≤w2.heap.size:=Nat.le_of_lt hlt
    have fin:=fun (v' : Value) (W2:World) (hS:Steps w.heap.size W W2) (hb2:Boxed W2 w2.heap.size 39 v') (hr2:W2.ownsRow w.heap.size 5 1 v' (ekx (pre.map Nd.key)++nodeEnc y.key).length (bs (ekx (pre.map Nd.key)++nodeEnc y.key))) =>
     (⟨hS.others.from W0.heap.size,hS.holds,⟨v',hb2,by dsimp only; rw [hnext]; exact hr2⟩,hg2,hb.trans hS.below⟩:KeepsFrom W0.heap.size W W2∧Holds w.heap.size W W2∧DatI w w2.heap.size (fun xs=>ekx (xs.map Nd.key)) (pre++[y]) W2)
    have hat:=fun (l1:List Int) (v1:Value) (W1:World) (u:Value) (tt:List Int) (hr1:W1.ownsRow w.heap.size 5 1 v1 l1.length (bs l1)) (hu:Rd w u (bs tt)) (hb1:Below w.heap.size w W1) (hl1:l1.length≤1049100) =>
     (putText_tx l1 tt ▸ appendTextG l1 v1 tt u w.heap.size W1 w hr1 hu rfl hb1 (by omega):Calls Tryz.prog 224 #[v1,u] W1 fun e w'=>∃ v',e=.returned v'∧w'.ownsRow w.heap.size 5 1 v' (l1++tx tt).length (bs (l1++tx tt))∧Grows w.heap.size W1 w')
    have hyv:=y.hv
    have HFIN:=hide fin
    have HAT:=hide hat
    have HC:=hide hC
    have HRW:=hide hR
    have HBX:=hide hbx
    have HB:=hide hb
    have HYV:=hide hyv
    have HYD:=hide hyd
    have hcell:=hC.cell
    have hn0:=hbx.c0
    have hn1:=hbx.c1
    have hn2:=hbx.c2
    have hn3:=hbx.c3
    have hn5:=hbx.c5
    rw [hyk] at hn2
    rw [hyc] at hn5
    rw [HFR.out]
    generalize (ekx (pre.map Nd.key))=D at *
    clear fin hat hC hR hbx hb hyv hyd hg hbw hpre hg2 hl2 hnext hI0 hbox hw0 hx hxt zz hgd hyt
    have HYK:=hide hyk
    have HYC:=hide hyc
    clear hyk hyc
    have hkw:kk % 256=kk:=by omega
    by_cases hs0:0 < y.s
    ·have hs1:(0:Int) < (y.s:Int):=by omega
     gi_wp2
     refine ⟨trivial,rfl,?_⟩
     refine (CallsIn.inRound _ (callsIn_wide.2 (HAT.out D v W y.v y.nm HRW.out HYV.out HB.out (by omega)))).mono ?_
     rintro e w5 ⟨v6,rfl,o6,g6⟩
     rw [if_pos hs0] at hne
     obtain ⟨D1,hD1⟩:∃ D1,D++tx y.nm=D1:=⟨_,rfl⟩
     have hroom2:D1.length + (([kk]++(if kk=2 then [(kks.length:Int)] else tx dd)).length)≤1049100:=by
      rw [← hD1,List.length_append]
      rw [hne,List.length_append] at hroom
      omega
     have hroom1:D1.length≤1049100:=by omega
     have HNE:D++nodeEnc y.key=D1++([kk]++(if kk=2 then [(kks.length:Int)] else tx dd)):=by rw [hne,← hD1,List.append_assoc]
     rw [hD1] at o6
     obtain ⟨m6,hm6,ow6⟩:=own_any o6
     obtain ⟨A6,c6,hv6,-,-⟩:=own_slice ow6
     subst hv6
     obtain ⟨W6,hW6,hc6,hf6,C6',R6,S6⟩:=stored_step HC.out hlo o6 g6
     have bx6:=HBX.out.step2 S6
     have p26:=bx6.c2
     have p36:=bx6.c3
     have p56:=bx6.c5
     rw [HYK.out] at p26
     rw [HYC.out] at p56
     have HB6:=hide bx6
     have q6:=C6'.cell
     clear hcell hn0 hn1 hn2 hn3 hn5 bx6 hne hD1
     have z6:w.heap.size≤W6.heap.size:=Nat.le_trans HB.out.size S6.below.size
     by_cases hk2:kk=2
     ·subst hk2
      have hK6:=k6 rfl
      have hKw:(kks.length:Int) % 256=(kks.length:Int):=by omega
      generalize kks.length=K at *
      rw [if_pos rfl] at HNE
      clear hroom2
      gi_wp2_with (first
       | (gi_at_builtin; refine wpListIn_app _ rfl (.tmp 19) (.tmp 24) _ rfl w.heap.size 5 i0 _ 1 Tryz.underlying39 hi0 hz0' hz1' hz2' rfl _ _ _ rfl (R6.alloc _) _ _ rfl (rd_one _ _ _) (bs_one _) (by simp [bs,maxLen]; omega) (by simp [bs]; omega) (by simp; omega) ?_; intro v7 w7 own7 gr7; have o7:w7.ownsRow w.heap.size 5 1 v7 (D1++[(2:Int)]).length (bs (D1++[(2:Int)])):=own_len (own_cells own7 (bs_append _ _).symm) (by simp [bs]); have g7:=((Grows.refl w.heap.size W6).alloc (by omega) _).row (by simp; omega) (R6.alloc _) gr7; obtain ⟨m7,hm7,ow7⟩:=own_any own7; obtain ⟨A7,c7,hv7,-,-⟩:=own_slice ow7; subst hv7; obtain ⟨W8,hW8,hc7,hf7,C7,R7,S7⟩:=stored_step C6' hlo o7 g7; have bx7:=HB6.out.step2 S7; have HB7:=hide bx7; have p27:=bx7.c2; have p37:=bx7.c3; have p57:=bx7.c5; rw [HYK.out] at p27; rw [HYC.out] at p57; have q7:=C7.cell; have z7:=S7.below.size; clear own7 ow7 gr7 bx7)
       | (gi_at_builtin; refine wpListIn_app _ rfl (.tmp 30) (.tmp 36) _ rfl w.heap.size 5 i0 _ 1 Tryz.underlying39 hi0 hz0' hz1' hz2' rfl _ _ _ rfl (R7.alloc _) _ _ rfl (rd_one _ _ _) (bs_one _) (by simp [bs,maxLen]; omega) (by simp [bs]; omega) (by simp; omega) ?_; intro v8 w8 own8 gr8; have o8:w8.ownsRow w.heap.size 5 1 v8 (D1++[2]++[(K:Int)]).length (bs (D1++[2]++[(K:Int)])):=own_len (own_cells own8 (bs_append _ _).symm) (by simp [bs]); have g8:=((Grows.refl w.heap.size W8).alloc (by omega) _).row (by simp; omega) (R7.alloc _) gr8; obtain ⟨m8,hm8,ow8⟩:=own_any own8; obtain ⟨A8,c8,hv8,-,-⟩:=own_slice ow8; subst hv8; obtain ⟨W9,hW9,hc8,hf8,C8,R8,S8⟩:=stored_step C7 hlo o8 g8; have bx8:=HB7.out.step2 S8; have HB8:=hide bx8; have p28:=bx8.c2; have p38:=bx8.c3; have p58:=bx8.c5; rw [HYK.out] at p28; rw [HYC.out] at p58; have q8:=C8.cell; have z8:=S8.below.size; clear own8 ow8 gr8 bx8))
      refine HFIN.out _ _ (S6.trans (S7.trans S8)) C8 ?_
      rw [HNE,show D1++([2]++[(K:Int)])=D1++[2]++[(K:Int)] by simp]
      exact R8
     ·have hkb:(kk == 2)=false:=by simpa using hk2
      rw [if_neg hk2] at HNE hroom2
      rw [List.length_append,List.length_singleton] at hroom2
      gi_wp2_with (gi_at_builtin; refine wpListIn_app _ rfl (.tmp 19) (.tmp 24) _ rfl w.heap.size 5 i0 _ 1 Tryz.underlying39 hi0 hz0' hz1' hz2' rfl _ _ _ rfl (R6.alloc _) _ _ rfl (rd_one _ _ _) (bs_one _) (by simp [bs,maxLen]; omega) (by simp [bs]; omega) (by simp; omega) ?_; intro v7 w7 own7 gr7; have o7:w7.ownsRow w.heap.size 5 1 v7 (D1++[kk]).length (bs (D1++[kk])):=own_len (own_cells own7 (bs_append _ _).symm) (by simp [bs]); have g7:=((Grows.refl w.heap.size W6).alloc (by omega) _).row (by simp; omega) (R6.alloc _) gr7; obtain ⟨m7,hm7,ow7⟩:=own_any own7; obtain ⟨A7,c7,hv7,-,-⟩:=own_slice ow7; subst hv7; obtain ⟨W8,hW8,hc7,hf7,C7,R7,S7⟩:=stored_step C6' hlo o7 g7; have bx7:=HB6.out.step2 S7; have HB7:=hide bx7; have p27:=bx7.c2; have p37:=bx7.c3; have p57:=bx7.c5; rw [HYK.out] at p27; rw [HYC.out] at p57; have q7:=C7.cell; have z7:=S7.below.size; clear own7 ow7 gr7 bx7)
      refine ⟨trivial,rfl,?_⟩
      refine (CallsIn.inRound _ (callsIn_wide.2 (HAT.out (D1++[kk]) _ W8 y.q.d dd R7 HYD.out (HB.out.trans (S6.below.trans S7.below)) (by simp only [List.length_append,List.length_singleton]; omega)))).mono ?_
      rintro e w9 ⟨v9,rfl,o9,g9⟩
      obtain ⟨m9,hm9,ow9⟩:=own_any o9
      obtain ⟨A9,c9,hv9,-,-⟩:=own_slice ow9
      subst hv9
      obtain ⟨W9,hW9,hc9,hf9,C9,R9,S9⟩:=stored_step C7 hlo o9 g9
      clear p27 p37 p57 q7
      gi_wp2
      refine HFIN.out _ _ (S6.trans (S7.trans S9)) C9 ?_
      rw [HNE,show D1++([kk]++tx dd)=D1++[kk]++tx dd by simp]
      exact R9
    ·have hs1:¬ (0:Int) < (y.s:Int):=by omega
     rw [if_neg hs0,List.nil_append] at hne
     obtain ⟨D1,hD1⟩:∃ D1,D=D1:=⟨_,rfl⟩
     obtain ⟨W6,hW6⟩:∃ W6,W=W6:=⟨_,rfl⟩
     have HNE:D++nodeEnc y.key=D1++([kk]++(if kk=2 then [(kks.length:Int)] else tx dd)):=by rw [hne,← hD1]
     have hroom2:D1.length + (([kk]++(if kk=2 then [(kks.length:Int)] else tx dd)).length)≤1049100:=by rw [← hD1,← hne]; exact hroom
     have hroom1:D1.length≤1049100:=by omega
     have C6':=HC.out
     have R6:=HRW.out
     have S6:=Steps.refl w.heap.size W
     subst hD1
     subst hW6
     have HB6:=HBX
     clear hne
     have z6:w.heap.size≤W.heap.size:=Nat.le_trans HB.out.size S6.below.size
     by_cases hk2:kk=2
     ·subst hk2
      have hK6:=k6 rfl
      have hKw:(kks.length:Int) % 256=(kks.length:Int):=by omega
      generalize kks.length=K at *
      rw [if_pos rfl] at HNE
      clear hroom2
      gi_wp2_with (first
       | (gi_at_builtin; refine wpListIn_app _ rfl (.tmp 19) (.tmp 24) _ rfl w.heap.size 5 i0 _ 1 Tryz.underlying39 hi0 hz0' hz1' hz2' rfl _ _ _ rfl (R6.alloc _) _ _ rfl (rd_one _ _ _) (bs_one _) (by simp [bs,maxLen]; omega) (by simp [bs]; omega) (by simp; omega) ?_; intro v7 w7 own7 gr7; have o7:w7.ownsRow w.heap.size 5 1 v7 (D++[(2:Int)]).length (bs (D++[(2:Int)])):=own_len (own_cells own7 (bs_append _ _).symm) (by simp [bs]); have g7:=((Grows.refl w.heap.size W).alloc (by omega) _).row (by simp; omega) (R6.alloc _) gr7; obtain ⟨m7,hm7,ow7⟩:=own_any own7; obtain ⟨A7,c7,hv7,-,-⟩:=own_slice ow7; subst hv7; obtain ⟨W8,hW8,hc7,hf7,C7,R7,S7⟩:=stored_step C6' hlo o7 g7; have bx7:=HB6.out.step2 S7; have HB7:=hide bx7; have p27:=bx7.c2; have p37:=bx7.c3; have p57:=bx7.c5; rw [HYK.out] at p27; rw [HYC.out] at p57; have q7:=C7.cell; have z7:=S7.below.size; clear own7 ow7 gr7 bx7)
       | (gi_at_builtin; refine wpListIn_app _ rfl (.tmp 30) (.tmp 36) _ rfl w.heap.size 5 i0 _ 1 Tryz.underlying39 hi0 hz0' hz1' hz2' rfl _ _ _ rfl (R7.alloc _) _ _ rfl (rd_one _ _ _) (bs_one _) (by simp [bs,maxLen]; omega) (by simp [bs]; omega) (by simp; omega) ?_; intro v8 w8 own8 gr8; have o8:w8.ownsRow w.heap.size 5 1 v8 (D++[2]++[(K:Int)]).length (bs (D++[2]++[(K:Int)])):=own_len (own_cells own8 (bs_append _ _).symm) (by simp [bs]); have g8:=((Grows.refl w.heap.size W8).alloc (by omega) _).row (by simp; omega) (R7.alloc _) gr8; obtain ⟨m8,hm8,ow8⟩:=own_any own8; obtain ⟨A8,c8,hv8,-,-⟩:=own_slice ow8; subst hv8; obtain ⟨W9,hW9,hc8,hf8,C8,R8,S8⟩:=stored_step C7 hlo o8 g8; have bx8:=HB7.out.step2 S8; have HB8:=hide bx8; have p28:=bx8.c2; have p38:=bx8.c3; have p58:=bx8.c5; rw [HYK.out] at p28; rw [HYC.out] at p58; have q8:=C8.cell; have z8:=S8.below.size; clear own8 ow8 gr8 bx8))
      refine HFIN.out _ _ (S6.trans (S7.trans S8)) C8 ?_
      rw [HNE,show D++([2]++[(K:Int)])=D++[2]++[(K:Int)] by simp]
      exact R8
     ·have hkb:(kk == 2)=false:=by simpa using hk2
      rw [if_neg hk2] at HNE hroom2
      rw [List.length_append,List.length_singleton] at hroom2
      gi_wp2_with (gi_at_builtin; refine wpListIn_app _ rfl (.tmp 19) (.tmp 24) _ rfl w.heap.size 5 i0 _ 1 Tryz.underlying39 hi0 hz0' hz1' hz2' rfl _ _ _ rfl (R6.alloc _) _ _ rfl (rd_one _ _ _) (bs_one _) (by simp [bs,maxLen]; omega) (by simp [bs]; omega) (by simp; omega) ?_; intro v7 w7 own7 gr7; have o7:w7.ownsRow w.heap.size 5 1 v7 (D++[kk]).length (bs (D++[kk])):=own_len (own_cells own7 (bs_append _ _).symm) (by simp [bs]); have g7:=((Grows.refl w.heap.size W).alloc (by omega) _).row (by simp; omega) (R6.alloc _) gr7; obtain ⟨m7,hm7,ow7⟩:=own_any own7; obtain ⟨A7,c7,hv7,-,-⟩:=own_slice ow7; subst hv7; obtain ⟨W8,hW8,hc7,hf7,C7,R7,S7⟩:=stored_step C6' hlo o7 g7; have bx7:=HB6.out.step2 S7; have HB7:=hide bx7; have p27:=bx7.c2; have p37:=bx7.c3; have p57:=bx7.c5; rw [HYK.out] at p27; rw [HYC.out] at p57; have q7:=C7.cell; have z7:=S7.below.size; clear own7 ow7 gr7 bx7)
      refine ⟨trivial,rfl,?_⟩
      refine (CallsIn.inRound _ (callsIn_wide.2 (HAT.out (D++[kk]) _ W8 y.q.d dd R7 HYD.out (HB.out.trans (S6.below.trans S7.below)) (by simp only [List.length_append,List.length_singleton]; omega)))).mono ?_
      rintro e w9 ⟨v9,rfl,o9,g9⟩
      obtain ⟨m9,hm9,ow9⟩:=own_any o9
      obtain ⟨A9,c9,hv9,-,-⟩:=own_slice ow9
      subst hv9
      obtain ⟨W9,hW9,hc9,hf9,C9,R9,S9⟩:=stored_step C7 hlo o9 g9
      clear p27 p37 p57 q7
      gi_wp2
      refine HFIN.out _ _ (S6.trans (S7.trans S9)) C9 ?_
      rw [HNE,show D++([kk]++tx dd)=D++[kk]++tx dd by simp]
      exact R9
   case done =>
    rintro xs W hxs ⟨⟨v,hC,hR⟩,hg,hb⟩ hK
    have hlen:ekx (xs.map Nd.key)=t.enc:=by
     have h1:=hxt ▸ hxs
     rw [h1,(T.ek_room HV.out hbk).1]
    dsimp only at hR
    rw [hlen] at hR
    have hcell:=hC.cell
    have HB:=hide hb
    have HK:=hide hK
    have HZ:=hide zz
    have HR:=hide hR
    clear hlen hb hK hg hC hI0 hbox hw0 hx hxt zz hR
    gi_wp2
    have zz:=HZ.out
    refine ⟨by simp,.inl ⟨_,_,rfl,run_takeDeferred HK.out,?_⟩⟩
    refine ⟨.tuple #[v,.bool true],by simp [results,Tryz.f203,go_sem],v,by rw [HV.out],?_,HB.out.trans (belowK_b (w:=w) (Nat.le_refl _) W W0.heap.size _ _ (by omega) HK.out rfl rfl)⟩
    rw [HS.out]
    exact Own.of (ownsRow_putObj HR.out _ HK.out rfl) (by rw [bs_length])
end Go.Proofs.YtgaadpkefncnmaaGreatDoor
